/-
  Layer 6's laws: opening arguments: shapes, numbers.
-/
import Derived.Test.YthlohkehacnolaaSLaw0
import Derived.ProofKit
import Derived.OpenShut
import Derived.JoinedCond
import Derived.Carry
import Derived.SizedLaws
namespace Go.Proofs.Ythlohkehacnolaa
open Go.RowKit Go.ChangeShapes Go.WideShapes Go.ChangeAt
set_option linter.unusedVariables false
set_option linter.unusedSimpArgs false

theorem own : ownKnob Try.prog.godebug = none := by kernel_rfl
theorem laid : laidOutB Try.prog = true := by kernel_rfl
theorem cellsIntS : Try.prog.cellsOf 3 = 1 := by kernel_rfl
theorem bytesIntS : Try.prog.bytesOf 3 = 8 := by kernel_rfl
theorem wf_w64 {i : Int} (h : (Lit.int .i64 i).wf = true) : -9223372036854775808 ≤ i ∧ i ≤ 9223372036854775807 := by simpa [Lit.wf, IntKind.min, IntKind.max, IntKind.signed, IntKind.bits] using h
theorem open_S {H : Type} {enc : TypeId × Value → H} {W : World} {v : Value} {d : DataW H} {p : List MemPlace} {T : TypeId} (hT : Try.prog.underlying T = some (.slice 3))
    (hv : ∃ ad n cap, v = .slice ad n cap) (h : DataW.Trod enc Try.prog W 0 (fun _ => true) true T v d p) (hk : ∀ elems spare, d = .slice elems spare → elems.length + spare.length ≤ 17592186043904) : ∃ ad xs cap, ArgS W v xs ad cap ∧ xs.length ≤ 17592186043904 ∧ (ad = none → cap = 0) := by
  obtain ⟨ad, n, cap, rfl⟩ := hv
  obtain ⟨fuel, hf⟩ := h
  rcases open_ints hT Try.underlying3 cellsIntS hf with ⟨hcs, hx⟩ | ⟨a, len', cap', zs, hcs, _, hl, hm, hz, hx, hcell, hwz⟩
  · simp [Value.cells] at hcs
    obtain ⟨rfl, rfl, rfl⟩ := hcs
    exact ⟨none, [], 0, ⟨rfl, .inl rfl, Nat.le_refl _, Wid.nil⟩, by simp, fun _ => rfl⟩
  · simp [Value.cells] at hcs
    obtain ⟨rfl, rfl, rfl⟩ := hcs
    simp only [Prod.mk.injEq] at hx
    obtain ⟨rfl, rfl⟩ := hx
    simp only [if_true] at hz
    have hlen : (zs.take n).length = n := by rw [List.length_take]; omega
    have hb := hk _ _ rfl
    simp only [lits, List.length_map, hlen] at hb
    refine ⟨some a, zs.take n, cap, ⟨by rw [hlen], ?_, by rw [hlen]; exact hl, fun x hx => wf_w64 (hwz x (List.mem_of_mem_take hx))⟩, by rw [hlen]; omega, fun e => by cases e⟩
    by_cases h0 : n = 0
    · exact .inl (by simp [h0])
    · obtain ⟨b, off, rfl, hc⟩ := ints_at hcell (by omega)
      refine .inr ⟨b, off, rfl, fun i hi => ?_⟩
      rw [hlen] at hi
      rw [hc i (by omega)]
      simp [hi]
theorem reach_S {H : Type} {ts : List TypeId} {ds : List (DataW H)} {T : TypeId} (hT : Try.prog.underlying T = some (.slice 3)) (h : (DataW.weightsEach Try.prog ts ds).all (· ≤ reachBytes) = true) {j : Nat} {d : DataW H} (ht : ts[j]? = some T) (hd : ds[j]? = some d) :
    ∀ elems spare, d = .slice elems spare → elems.length + spare.length ≤ 17592186043904 := by
  intro elems spare e
  subst e
  have := sized_slice h ht hd hT
  rw [bytesIntS, show reachBytes = 140737488351232 by decide] at this
  omega
theorem open_shape {H : Type} {enc : TypeId × Value → H} {W : World} {v : Value} {d : DataW H} {p : List MemPlace} (hv : ∃ ad n cap, v = .slice ad n cap) (h : DataW.Trod enc Try.prog W 0 (fun _ => true) true 23 v d p) (hk : ∀ elems spare, d = .slice elems spare → elems.length + spare.length ≤ 17592186043904) : ∃ ad xs cap, ArgS W v xs ad cap ∧ xs.length ≤ 17592186043904 ∧ (ad = none → cap = 0) := open_S Try.underlying23 hv h hk
theorem open_list {H : Type} {enc : TypeId × Value → H} {W : World} {v : Value} {d : DataW H} {p : List MemPlace} (hv : ∃ ad n cap, v = .slice ad n cap) (h : DataW.Trod enc Try.prog W 0 (fun _ => true) true 22 v d p) (hk : ∀ elems spare, d = .slice elems spare → elems.length + spare.length ≤ 17592186043904) : ∃ ad xs cap, ArgS W v xs ad cap ∧ xs.length ≤ 17592186043904 ∧ (ad = none → cap = 0) := open_S Try.underlying22 hv h hk
theorem reach_shape {H : Type} {ts : List TypeId} {ds : List (DataW H)} (h : (DataW.weightsEach Try.prog ts ds).all (· ≤ reachBytes) = true) {j : Nat} {d : DataW H} (ht : ts[j]? = some 23) (hd : ds[j]? = some d) : ∀ elems spare, d = .slice elems spare → elems.length + spare.length ≤ 17592186043904 := reach_S Try.underlying23 h ht hd
theorem reach_list {H : Type} {ts : List TypeId} {ds : List (DataW H)} (h : (DataW.weightsEach Try.prog ts ds).all (· ≤ reachBytes) = true) {j : Nat} {d : DataW H} (ht : ts[j]? = some 22) (hd : ds[j]? = some d) : ∀ elems spare, d = .slice elems spare → elems.length + spare.length ≤ 17592186043904 := reach_S Try.underlying22 h ht hd
end Go.Proofs.Ythlohkehacnolaa
