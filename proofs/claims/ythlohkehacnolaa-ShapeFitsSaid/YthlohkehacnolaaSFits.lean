/-
  ShapeFits. (Made by wip/gen/gen_slaws.py.)
-/
import Derived.Test.YthlohkehacnolaaSOpen
namespace Go.Proofs.Ythlohkehacnolaa
open Go.RowKit
set_option linter.unusedVariables false
set_option linter.unusedSimpArgs false

set_option maxRecDepth 100000 in
set_option maxHeartbeats 8000000 in
theorem shapeFits_walk (xs0 : List Int) (a0 : Option Addr) (ca0 : Nat) (xs1 : List Int) (a1 : Option Addr) (ca1 : Nat) (w : World) (A0 : ArgS w (.slice a0 xs0.length ca0) xs0 a0 ca0) (l0 : xs0.length ≤ 17592186043904) (n0 : a0 = none → ca0 = 0) (A1 : ArgS w (.slice a1 xs1.length ca1) xs1 a1 ca1) (l1 : xs1.length ≤ 17592186043904) (n1 : a1 = none → ca1 = 0) :
    Calls Try.prog 10 #[.slice a0 xs0.length ca0, .slice a1 xs1.length ca1] w fun e w' => e = .returned (.bool true) ∧ Below w.heap.size w w' := by
  have m1 := fitsS_any A0 A1 n0 n1 (by omega) (by omega)
  have m2 := fun W (hb : Below w.heap.size w W) => fitsR_any (A0.later hb) (A1.later hb)
  have m3 := fun W (hb : Below w.heap.size w W) => grownC_any (A0.later hb) (A1.later hb) n0 n1 (by omega) (by omega)
  have m4 := fun W (hb : Below w.heap.size w W) => grownR_any (A0.later hb) (A1.later hb)
  have hgl : (grownS xs0 xs1).length ≤ 140737488355328 := by
    unfold grownS
    by_cases h : fitC xs0 xs1 = 0
    · rw [if_pos h]
      have := grownL_le xs0 xs1 xs1.length
      omega
    · rw [if_neg h]; simp
  obtain ⟨L, hL⟩ : ∃ L, xs0.length = L := ⟨_, rfl⟩
  obtain ⟨M, hM⟩ : ∃ M, xs1.length = M := ⟨_, rfl⟩
  obtain ⟨c, hc⟩ : ∃ c, fitC xs0 xs1 = c := ⟨_, rfl⟩
  obtain ⟨g, hg⟩ : ∃ g, grownS xs0 xs1 = g := ⟨_, rfl⟩
  rw [hL, hM, hc] at m1
  simp only [hL, hM, hc] at m2
  simp only [hL, hM, hg] at m3 m4
  rw [hg] at hgl
  rw [hL, hM]
  clear A0 A1 l0 l1 n0 n1 hL hM hc hg
  go_enter Try.func10, Try.ntmps10
  have B0 : Below w.heap.size w w := Below.refl _ _
  have S0 := B0.size
  go_wp2_with fail
  refine (m1).mono ?_
  rintro e w1 ⟨rfl, hb⟩
  have B1 := B0.trans (hb.mono S0)
  have S1 := B1.size
  clear hb
  go_wp2_with fail
  refine (m2 _ B1).mono ?_
  rintro e w2 ⟨rfl, rfl⟩
  go_wp2_with fail
  refine (m3 _ B1).mono ?_
  rintro e w2 ⟨r3, rfl, R3, hb⟩
  have B2 := B1.trans (hb.mono S1)
  have S2 := B2.size
  obtain ⟨b3, c3, rfl, Q3, A3, _⟩ := R3.slice
  clear hb
  go_wp2_with fail
  refine (m4 _ B2).mono ?_
  rintro e w3 ⟨r4, rfl, R4, hb⟩
  have B3 := B2.trans (hb.mono S2)
  have S3 := B3.size
  have A3 := A3.later hb
  obtain ⟨b4, c4, rfl, Q4, A4, _⟩ := R4.slice
  have hs := sameL_any A3 A4 hgl
  rw [decide_eq_true rfl] at hs
  clear R3 R4 Q3 Q4
  clear hb
  go_wp2_with fail
  refine (hs).mono ?_
  rintro e w4 ⟨rfl, hb⟩
  have B4 := B3.trans (hb.mono S3)
  have S4 := B4.size
  clear hb
  go_wp2_with fail
  refine (known6_any _).mono ?_
  rintro e w5 ⟨rfl, hb⟩
  have B5 := B4.trans (hb.mono S4)
  have S5 := B5.size
  clear hb
  go_wp2_with fail
  go_ret
  exact ⟨rfl, B5⟩

namespace shapeFits
open Go.ChangeShapes Go.WideShapes Go.ChangeAt
theorem contract (H : Type) (enc : TypeId × Value → H) (W : World) (base : Nat) (args : Array Value) (ds gs : List (DataW H)) (before : List MemPlace)
    (hval : ∀ (j : Nat) t v, Try.f10.params[j]? = some t → args[j]? = some v → Value.okWide Try.prog W .any base t v)
    (hW : DataW.Whole enc Try.prog Try.f10.params.toList Rows.shapeFitsSpec.vars false W args.toList ds gs before) (hsz0 : (DataW.weightsEach Try.prog (Try.f10.params.toList ++ Rows.shapeFitsSpec.plain.varTypes Try.prog) (ds ++ gs)).all (· ≤ reachBytes) = true) :
    Calls Try.prog 10 args W fun e W' => ∃ v, e = .returned v ∧ Rows.shapeFitsSpec.post enc Try.prog Try.f10 false true false false W args v W' := by
  have hW' := hW
  have hlt := fun p hp => hW'.lt p hp
  have hsz : (DataW.weightsEach Try.prog (Try.f10.params.toList ++ []) (ds ++ gs)).all (· ≤ reachBytes) = true := hsz0
  obtain ⟨p, q, hA0, hV, rfl, hfz, hnd⟩ := hW
  have hA : DataW.TrodAll enc Try.prog W 0 (fun _ => true) true Try.f10.params.toList args.toList ds p := hA0
  rw [Try.params10] at hA hval hsz
  obtain ⟨v0, vs0, d0, ds0, p0, q0, ha0, rfl, rfl, h0, r0⟩ := trodAll_cons hA
  obtain ⟨v1, vs1, d1, ds1, p1, q1, ha1, rfl, rfl, h1, r1⟩ := trodAll_cons r0
  obtain ⟨rfl, rfl, rfl⟩ := trodAll_nil r1
  subst ha1
  obtain rfl : args = #[v0, v1] := by cases args; simp_all
  obtain ⟨rfl, rfl⟩ := trodVars_none hV
  clear hA hA0 hV
  simp only [List.append_nil] at hW' hlt hsz
  (try simp only [List.nil_append] at hW' hlt hsz)
  obtain ⟨a0, xs0, ca0, A0, l0, n0⟩ := open_shape (okWide_slice Try.underlying23 (hval 0 23 v0 rfl rfl)) h0 (reach_shape hsz (j := 0) rfl rfl)
  have e0 := A0.is
  subst e0
  obtain ⟨a1, xs1, ca1, A1, l1, n1⟩ := open_shape (okWide_slice Try.underlying23 (hval 1 23 v1 rfl rfl)) h1 (reach_shape hsz (j := 1) rfl rfl)
  have e1 := A1.is
  subst e1
  refine (shapeFits_walk xs0 a0 ca0 xs1 a1 ca1 W A0 l0 n0 A1 l1 n1).mono fun e W' ⟨he, hb⟩ => ?_
  subst he
  have t0 := Below.trod laid (by kernel_rfl) (of_decide_eq_true (by kernel_rfl)) h0 hb (fun x hx => hlt x (by simp [hx]))
  have t1 := Below.trod laid (by kernel_rfl) (of_decide_eq_true (by kernel_rfl)) h1 hb (fun x hx => hlt x (by simp [hx]))
  exact ⟨_, rfl, [d0, d1], [], (p0 ++ p1), [], (p0 ++ (p1 ++ [])), [], hW', trodAll_cons_mk (shut_bool Try.underlying4 _) trodAll_mk0,
    (trodAll_cons_mk t0 (trodAll_cons_mk t1 trodAll_mk0)), rfl, hb.frame _, fun h => by cases h⟩

set_option maxRecDepth 100000 in
theorem lifted (os : Os) (started : os.Started) (H : Type) (enc : TypeId × Value → H) :
    ReturnsInHanded {} Try.checked os 10 .any (Rows.shapeFitsSpec.pre6 enc Try.prog Try.f10 Rows.shapeFitsRow.domain false) (Rows.shapeFitsSpec.post enc Try.prog Try.f10 false true false false) := by
  refine returnsInHanded_of_change_sized (C := Try.checked) own started (by kernel_rfl) Try.func10
    (ChangeSpec.witness6 (enc := enc) (C := Try.checked) false ⟨#[], #[.slice none 0 0, .slice none 0 0], []⟩ 8 (by kernel_rfl) (by kernel_rfl) (by kernel_rfl) (by kernel_rfl)) ?_
  intro W base args ds gs before hval hW _ hsz0 _
  exact contract H enc W base args ds gs before hval hW hsz0

theorem proved : Rows.ShapeFitsSaid :=
  OpenClaim.holds_of_wide 10 Try.f10 rfl rfl rfl rfl rfl rfl rfl ⟨rfl, rfl, rfl, rfl, rfl⟩ rfl rfl rfl rfl rfl (by kernel_rfl) Try.func10 (by kernel_rfl)
    (of_decide_eq_true (by kernel_rfl)) (by unfold Func.isWrapper; first | (rw [if_pos (by decide +kernel)]; kernel_rfl) | (rw [if_neg (by decide +kernel)]; exact ⟨rfl, rfl⟩))
    (fun os started H enc _ => lifted os started H enc)
end shapeFits
end Go.Proofs.Ythlohkehacnolaa
