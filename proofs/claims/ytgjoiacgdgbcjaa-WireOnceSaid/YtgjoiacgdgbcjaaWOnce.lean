/-
  WireOnce.
-/
import Derived.Test.YtgjoiacgdgbcjaaWOpen
namespace Go.Proofs.Ytgjoiacgdgbcjaa
open Go.RowKit
set_option linter.unusedVariables false
set_option linter.unusedSimpArgs false

theorem zag_range {n : Int} (h0 : 0 ≤ n) (h1 : n < 18446744073709551616) : -9223372036854775808 ≤ zag n ∧ zag n ≤ 9223372036854775807 := by unfold zag; split <;> omega

set_option maxRecDepth 100000 in
set_option maxHeartbeats 8000000 in
theorem wireOnce_walk (xs0 : List Int) (a0 : Option Addr) (ca0 : Nat) (w : World) (A0 : ArgB w (.slice a0 xs0.length ca0) xs0 a0 ca0) (l0 : xs0.length ≤ 140737488355328) (n0 : a0 = none → ca0 = 0) :
    Calls Try.prog 6 #[.slice a0 xs0.length ca0] w fun e w' => e = .returned (.bool true) ∧ Below w.heap.size w w' := by
  have hread := reads5_any A0 n0 l0
  by_cases hg : getC xs0 = 0
  · obtain ⟨h1, h2, h3, h4, h5⟩ := enc_get A0.wf hg
    obtain ⟨N, hN⟩ : ∃ N : Nat, getV xs0 = (N : Int) := ⟨(getV xs0).toNat, by omega⟩
    have hN1 : N < 18446744073709551616 := by omega
    have hv : numV xs0 = (N : Int) := by unfold numV; rw [if_pos hg, hN]
    have hp : numP xs0 0 = lead xs0 + 1 := by unfold numP; rw [if_pos hg]; omega
    rw [hN, Int.toNat_natCast] at h1
    obtain ⟨K, hK⟩ : ∃ K, lead xs0 + 1 = K := ⟨_, rfl⟩
    rw [hK] at h1 hp
    have hKl : K ≤ xs0.length := by omega
    have htl : (xs0.take K).length = K := by rw [List.length_take]; omega
    obtain ⟨z1, z2⟩ := zag_range (n := (N : Int)) (by omega) (by omega)
    have hzz : (zig (zag (N : Int))).toNat = N := by rw [zig_zag _ (by omega), Int.toNat_natCast]
    rw [hv, hg] at hread
    have HE := Lib.hid h1
    have HV := Lib.hid hv
    have HG := Lib.hid hg
    have HP := Lib.hid hp
    have HT := Lib.hid htl
    have HZ := Lib.hid hzz
    have hKI : (K : Int) ≤ (xs0.length : Int) := by omega
    have hKn : ¬ ((xs0.length : Int) < (K : Int)) := by omega
    have hK0 : (0 : Int) ≤ (K : Int) := by omega
    have hKc : (K : Int) ≤ (ca0 : Int) := by have := A0.le; omega
    clear h1 h2 h3 h4 h5 hN hv hp htl hzz hg hK
    go_enter Try.func6, Try.ntmps6
    go_wp2_with fail
    refine hread.mono ?_
    rintro e w1 ⟨rfl, hb1⟩
    have hs1 := hb1.size
    clear hread
    go_wp2_with fail
    refine (putU_any (N : Int) (nil_argB _) (fun _ => rfl) (by simp) (by omega) (by omega)).mono ?_
    rintro e w2 ⟨r2, rfl, q2, hb2⟩
    rw [Int.toNat_natCast, List.nil_append, HE.out] at q2
    have hB2 : Below w.heap.size w w2 := hb1.trans (hb2.mono hs1)
    have hs2 := hB2.size
    obtain ⟨b2, c2, rfl, q2', B2, m2⟩ := q2.slice
    rw [HT.out] at q2' B2 ⊢
    have AT : ArgB w2 (.slice a0 K ca0) (xs0.take K) a0 ca0 := ⟨by rw [HT.out], (A0.later hB2).lim.take K, by have := A0.le; rw [HT.out]; omega, A0.wf.take K⟩
    have S := sameB_any B2 AT
    rw [decide_eq_true rfl] at S
    clear q2 AT
    go_wp2_with fail
    refine S.mono ?_
    rintro e w3 ⟨rfl, rfl⟩
    have A0' := A0.later hB2
    clear S
    go_wp2_with fail
    refine (newC_any A0' n0 l0).mono ?_
    rintro e w4 ⟨g, rfl, C4, hb4⟩
    obtain ⟨hg1, hg2, _, _⟩ := C4.facts
    have hB4 : Below w.heap.size w w4 := hB2.trans (hb4.mono hs2)
    have hs4 := hB4.size
    have hgw : w.heap.size ≤ g := by omega
    have p4 := q2'.later hb4
    go_wp2_with fail
    have U := zigC_any C4
    rw [List.drop_zero, HV.out, HG.out, HP.out] at U
    refine U.mono ?_
    rintro e w5 ⟨rfl, C5, k5⟩
    have hB5 : Below w.heap.size w w5 := hB4.trans (k5.below hs4 hgw)
    have hs5 := hB5.size
    have p5 : ResB w1.heap.size w5 (.slice b2 K c2) (xs0.take K) := by
      have hbk := k5.below (B := w2.heap.size) hb4.size hg1
      exact ⟨p4.num.kept hbk fun k hk => (q2'.num.lt k hk).2, p4.wf⟩
    clear U C4 k5 p4 q2' B2
    have U := atC_any C5
    have h00 : ((0 : Int) != 0) = false := by decide
    have hKK : ((K : Int) != (K : Int)) = false := by simp
    go_wp2_with fail
    refine U.mono ?_
    rintro e w6 ⟨rfl, hb6⟩
    have hB6 : Below w.heap.size w w6 := hB5.trans (hb6.mono hs5)
    have hs6 := hB6.size
    have p6 := p5.later hb6
    clear U p5
    go_wp2_with fail
    refine (putZ_any (zag (N : Int)) (nil_argB _) (fun _ => rfl) (by simp) z1 z2).mono ?_
    rintro e w7 ⟨r7, rfl, q7, hb7⟩
    rw [HZ.out, List.nil_append, HE.out] at q7
    have hB7 : Below w.heap.size w w7 := hB6.trans (hb7.mono hs6)
    have hs7 := hB7.size
    have p7 := p6.later hb7
    obtain ⟨_, _, E1, _, F1, _⟩ := q7.slice
    obtain ⟨_, _, E2, _, F2, _⟩ := p7.slice
    have S := sameB_any (show ArgB w7 r7 _ _ _ from E1 ▸ F1) (show ArgB w7 (.slice b2 K c2) _ _ _ from E2 ▸ F2)
    rw [decide_eq_true rfl] at S
    clear E1 E2 F1 F2 p6 q7 p7
    go_wp2_with fail
    refine S.mono ?_
    rintro e w8 ⟨rfl, rfl⟩
    clear S
    go_wp2_with fail
    refine (known5_any _).mono ?_
    rintro e w9 ⟨rfl, hb9⟩
    go_wp2_with fail
    go_ret
    exact ⟨rfl, hB7.trans (hb9.mono hs7)⟩
  · have hne : (getC xs0 == 0) = false := by rw [beq_eq_false_iff_ne]; exact hg
    clear hg
    go_enter Try.func6, Try.ntmps6
    go_wp2_with fail
    refine hread.mono ?_
    rintro e w1 ⟨rfl, hb1⟩
    have hs1 := hb1.size
    clear hread
    go_wp2_with fail
    refine (known5_any _).mono ?_
    rintro e w9 ⟨rfl, hb9⟩
    go_wp2_with fail
    go_ret
    exact ⟨rfl, hb1.trans (hb9.mono hs1)⟩

namespace wireOnce
open Go.ChangeShapes Go.WideShapes Go.ChangeAt
theorem contract (H : Type) (enc : TypeId × Value → H) (W : World) (base : Nat) (args : Array Value) (ds gs : List (DataW H)) (before : List MemPlace)
    (hval : ∀ (j : Nat) t v, Try.f6.params[j]? = some t → args[j]? = some v → Value.okWide Try.prog W .any base t v)
    (hW : DataW.Whole enc Try.prog Try.f6.params.toList Rows.wireOnceSpec.vars false W args.toList ds gs before) (hsz0 : (DataW.weightsEach Try.prog (Try.f6.params.toList ++ Rows.wireOnceSpec.plain.varTypes Try.prog) (ds ++ gs)).all (· ≤ reachBytes) = true) :
    Calls Try.prog 6 args W fun e W' => ∃ v, e = .returned v ∧ Rows.wireOnceSpec.post enc Try.prog Try.f6 false true false false W args v W' := by
  have hW' := hW
  have hlt := fun p hp => hW'.lt p hp
  have hsz : (DataW.weightsEach Try.prog (Try.f6.params.toList ++ []) (ds ++ gs)).all (· ≤ reachBytes) = true := hsz0
  obtain ⟨p, q, hA0, hV, rfl, hfz, hnd⟩ := hW
  have hA : DataW.TrodAll enc Try.prog W 0 (fun _ => true) true Try.f6.params.toList args.toList ds p := hA0
  rw [Try.params6] at hA hval hsz
  obtain ⟨v0, vs0, d0, ds0, p0, q0, ha0, rfl, rfl, h0, r0⟩ := trodAll_cons hA
  obtain ⟨rfl, rfl, rfl⟩ := trodAll_nil r0
  obtain rfl : args = #[v0] := by cases args; simp_all
  obtain ⟨rfl, rfl⟩ := trodVars_none hV
  clear hA hA0 hV
  simp only [List.append_nil] at hW' hlt hsz
  (try simp only [List.nil_append] at hW' hlt hsz)
  obtain ⟨a0, xs0, ca0, A0, l0, n0⟩ := open_bytesW (okWide_slice Try.underlying22 (hval 0 22 v0 rfl rfl)) h0 (reach_bytes hsz (j := 0) rfl rfl)
  have e0 := A0.is
  subst e0
  refine (wireOnce_walk xs0 a0 ca0 W A0 (by omega) n0).mono fun e W' ⟨he, hb⟩ => ?_
  subst he
  have t0 := Below.trod laid (by kernel_rfl) (of_decide_eq_true (by kernel_rfl)) h0 hb (fun x hx => hlt x (by simp [hx]))
  exact ⟨_, rfl, [d0], [], p0, [], (p0 ++ []), [], hW', trodAll_cons_mk (shut_bool Try.underlying4 _) trodAll_mk0,
    (trodAll_cons_mk t0 trodAll_mk0), rfl, hb.frame _, fun h => by cases h⟩

set_option maxRecDepth 100000 in
theorem lifted (os : Os) (started : os.Started) (H : Type) (enc : TypeId × Value → H) :
    ReturnsInHanded {} Try.checked os 6 .any (Rows.wireOnceSpec.pre6 enc Try.prog Try.f6 Rows.wireOnceRow.domain false) (Rows.wireOnceSpec.post enc Try.prog Try.f6 false true false false) := by
  refine returnsInHanded_of_change_sized (C := Try.checked) own started (by kernel_rfl) Try.func6
    (ChangeSpec.witness6 (enc := enc) (C := Try.checked) false ⟨#[], #[.slice none 0 0], []⟩ 8 (by kernel_rfl) (by kernel_rfl) (by kernel_rfl) (by kernel_rfl)) ?_
  intro W base args ds gs before hval hW _ hsz0 _
  exact contract H enc W base args ds gs before hval hW hsz0

theorem proved : Rows.WireOnceSaid :=
  OpenClaim.holds_of_wide 6 Try.f6 rfl rfl rfl rfl rfl rfl rfl ⟨rfl, rfl, rfl, rfl, rfl⟩ rfl rfl rfl rfl rfl (by kernel_rfl) Try.func6 (by kernel_rfl)
    (of_decide_eq_true (by kernel_rfl)) (by unfold Func.isWrapper; first | (rw [if_pos (by decide +kernel)]; kernel_rfl) | (rw [if_neg (by decide +kernel)]; exact ⟨rfl, rfl⟩))
    (fun os started H enc _ => lifted os started H enc)
end wireOnce
end Go.Proofs.Ytgjoiacgdgbcjaa
