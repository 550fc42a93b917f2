/-
  QuoSteps: the law answers true (the greatest common divisor of two naturals is that of the second one and of the rest), and each argument reads behind the call as it read before, whatever the arguments are. No condition.
-/
import Derived.Test.YtdcdaielfkikhaaQLaw0
namespace Go.Proofs.Ytdcdaielfkikhaa
open Go.RowKit Go.ChangeShapes Go.WideShapes Go.ChangeAt
set_option linter.unusedVariables false
set_option linter.unusedSimpArgs false

set_option maxRecDepth 100000 in
set_option maxHeartbeats 8000000 in
theorem quoSteps_walk (u0 : Value) (xs0 : List Int) (ad0 : Option Addr) (cap0 : Nat) (u1 : Value) (xs1 : List Int) (ad1 : Option Addr) (cap1 : Nat) (w : World) (A0 : Arg w u0 xs0 ad0 cap0) (hn0 : ad0 = none → cap0 = 0) (A1 : Arg w u1 xs1 ad1 cap1) (hn1 : ad1 = none → cap1 = 0) :
    Calls Try.prog 9 #[u0, u1] w fun e w' => e = .returned (.bool true) ∧ Below w.heap.size w w' := by
  have hW : Below w.heap.size w w := Below.refl _ _
  have hS : w.heap.size ≤ w.heap.size := Nat.le_refl _
  have h17 : ((17 : Int) == 17) = true := by decide
  have h00 : ((0 : Int) == 0) = true := by decide
  have hne : ((17 : Int) != 0) = true := by decide
  have hnn : ((0 : Int) != 0) = false := by decide
  have H0 := Lib.hid hn0
  have e0 := A0.is
  subst e0
  clear hn0
  have H1 := Lib.hid hn1
  have e1 := A1.is
  subst e1
  clear hn1
  by_cases g0 : xs0.length ≤ 20
  case neg =>
    have d0 : decide ((20 : Int) < (xs0.length : Int)) = true := decide_eq_true (by omega)
    go_enter Try.func9, Try.ntmps9
    go_wp2_with fail
    refine (known2_any _).mono ?_
    rintro e V1 ⟨rfl, hb⟩
    replace A0 := A0.later hb
    replace A1 := A1.later hb
    replace hW := hW.trans (hb.mono hS)
    replace hS := Nat.le_trans hS hb.size
    clear hb
    go_wp2_with fail
    go_ret
    exact ⟨rfl, hW⟩
  by_cases g1 : xs1.length ≤ 20
  case neg =>
    have d0 : decide ((20 : Int) < (xs0.length : Int)) = false := decide_eq_false (by omega)
    have d1 : decide ((20 : Int) < (xs1.length : Int)) = true := decide_eq_true (by omega)
    go_enter Try.func9, Try.ntmps9
    go_wp2_with fail
    refine (known2_any _).mono ?_
    rintro e V1 ⟨rfl, hb⟩
    replace A0 := A0.later hb
    replace A1 := A1.later hb
    replace hW := hW.trans (hb.mono hS)
    replace hS := Nat.le_trans hS hb.size
    clear hb
    go_wp2_with fail
    go_ret
    exact ⟨rfl, hW⟩
  have d0 : decide ((20 : Int) < (xs0.length : Int)) = false := decide_eq_false (by omega)
  have d1 : decide ((20 : Int) < (xs1.length : Int)) = false := decide_eq_false (by omega)
  have hv := val_nonneg A1.wf
  by_cases h0 : val xs1 = 0
  case pos =>
    go_enter Try.func9, Try.ntmps9
    go_wp2_with fail
    refine (gcd_any A0 A1 (by omega) (by omega)).mono ?_
    rintro e V1 ⟨r2, l2, rfl, q2, n2, hb⟩
    replace A0 := A0.later hb
    replace A1 := A1.later hb
    replace hW := hW.trans (hb.mono hS)
    replace hS := Nat.le_trans hS hb.size
    clear hb
    obtain ⟨ad2, cap2, A2⟩ := q2.arg
    go_wp2_with fail
    refine (div_zero A0 A1 (by omega) h0).mono ?_
    rintro e V2 ⟨rfl, hb⟩
    replace A0 := A0.later hb
    replace A1 := A1.later hb
    replace A2 := A2.later hb
    replace hW := hW.trans (hb.mono hS)
    replace hS := Nat.le_trans hS hb.size
    clear hb
    go_wp2_with fail
    refine (cmp_eq A2 A0 (by omega) (by omega) (by rw [q2.eq, h0]; exact gcd_end (val_nonneg A0.wf))).mono ?_
    rintro e V3 ⟨rfl, hb⟩
    replace A0 := A0.later hb
    replace A1 := A1.later hb
    replace A2 := A2.later hb
    replace hW := hW.trans (hb.mono hS)
    replace hS := Nat.le_trans hS hb.size
    clear hb
    go_wp2_with fail
    refine (known2_any _).mono ?_
    rintro e V4 ⟨rfl, hb⟩
    replace A0 := A0.later hb
    replace A1 := A1.later hb
    replace A2 := A2.later hb
    replace hW := hW.trans (hb.mono hS)
    replace hS := Nat.le_trans hS hb.size
    clear hb
    go_wp2_with fail
    go_ret
    exact ⟨rfl, hW⟩
  replace h0 : 0 < val xs1 := by omega
  go_enter Try.func9, Try.ntmps9
  go_wp2_with fail
  refine (gcd_any A0 A1 (by omega) (by omega)).mono ?_
  rintro e V1 ⟨r2, l2, rfl, q2, n2, hb⟩
  replace A0 := A0.later hb
  replace A1 := A1.later hb
  replace hW := hW.trans (hb.mono hS)
  replace hS := Nat.le_trans hS hb.size
  clear hb
  obtain ⟨ad2, cap2, A2⟩ := q2.arg
  go_wp2_with fail
  refine (div_any A0 A1 (by omega) (by omega) h0).mono ?_
  rintro e V2 ⟨r3, r4, rfl, hb, ⟨l3, q3, n3⟩, ⟨l4, q4, n4, m4⟩⟩
  replace A0 := A0.later hb
  replace A1 := A1.later hb
  replace A2 := A2.later hb
  replace hW := hW.trans (hb.mono hS)
  replace hS := Nat.le_trans hS hb.size
  clear hb
  obtain ⟨ad3, cap3, A3⟩ := q3.arg
  obtain ⟨ad4, cap4, A4⟩ := q4.arg
  go_wp2_with fail
  refine (gcd_any A1 A4 (by omega) (by omega)).mono ?_
  rintro e V3 ⟨r5, l5, rfl, q5, n5, hb⟩
  replace A0 := A0.later hb
  replace A1 := A1.later hb
  replace A2 := A2.later hb
  replace A3 := A3.later hb
  replace A4 := A4.later hb
  replace hW := hW.trans (hb.mono hS)
  replace hS := Nat.le_trans hS hb.size
  clear hb
  obtain ⟨ad5, cap5, A5⟩ := q5.arg
  go_wp2_with fail
  refine (cmp_eq A2 A5 (by omega) (by omega) (by rw [q2.eq, q5.eq, q4.eq, gcd_step])).mono ?_
  rintro e V4 ⟨rfl, hb⟩
  replace A0 := A0.later hb
  replace A1 := A1.later hb
  replace A2 := A2.later hb
  replace A3 := A3.later hb
  replace A4 := A4.later hb
  replace A5 := A5.later hb
  replace hW := hW.trans (hb.mono hS)
  replace hS := Nat.le_trans hS hb.size
  clear hb
  go_wp2_with fail
  refine (known2_any _).mono ?_
  rintro e V5 ⟨rfl, hb⟩
  replace A0 := A0.later hb
  replace A1 := A1.later hb
  replace A2 := A2.later hb
  replace A3 := A3.later hb
  replace A4 := A4.later hb
  replace A5 := A5.later hb
  replace hW := hW.trans (hb.mono hS)
  replace hS := Nat.le_trans hS hb.size
  clear hb
  go_wp2_with fail
  go_ret
  exact ⟨rfl, hW⟩

namespace quoSteps
theorem contract (H : Type) (enc : TypeId × Value → H) (W : World) (base : Nat) (args : Array Value) (ds gs : List (DataW H)) (before : List MemPlace)
    (hval : ∀ (j : Nat) t v, Try.f9.params[j]? = some t → args[j]? = some v → Value.okWide Try.prog W .any base t v)
    (hW : DataW.Whole enc Try.prog Try.f9.params.toList Rows.quoStepsSpec.vars false W args.toList ds gs before) :
    Calls Try.prog 9 args W fun e W' => ∃ v, e = .returned v ∧ Rows.quoStepsSpec.post enc Try.prog Try.f9 false true false false W args v W' := by
  have hW' := hW
  have hlt := fun p hp => hW'.lt p hp
  obtain ⟨p, q, hA0, hV, rfl, hfz, hnd⟩ := hW
  have hA : DataW.TrodAll enc Try.prog W 0 (fun _ => true) true Try.f9.params.toList args.toList ds p := hA0
  rw [Try.params9] at hA hval
  obtain ⟨v0, vs0, d0, ds0, p0, q0, ha0, rfl, rfl, h0, r0⟩ := trodAll_cons hA
  obtain ⟨v1, vs1, d1, ds1, p1, q1, ha1, rfl, rfl, h1, r1⟩ := trodAll_cons r0
  obtain ⟨rfl, rfl, rfl⟩ := trodAll_nil r1
  subst ha1
  obtain rfl : args = #[v0, v1] := by cases args; simp_all
  obtain ⟨rfl, rfl⟩ := trodVars_none hV
  clear hA hA0 hV
  simp only [List.append_nil] at hW' hlt
  obtain ⟨ad0, xs0, cap0, A0, n0⟩ := open_nat3 (okWide_slice Try.underlying23 (hval 0 23 v0 rfl rfl)) h0
  obtain ⟨ad1, xs1, cap1, A1, n1⟩ := open_nat3 (okWide_slice Try.underlying23 (hval 1 23 v1 rfl rfl)) h1
  refine (quoSteps_walk v0 xs0 ad0 cap0 v1 xs1 ad1 cap1 W A0 n0 A1 n1).mono fun e W' ⟨he, hb⟩ => ?_
  subst he
  have t0 := Below.trod laid (by kernel_rfl) (of_decide_eq_true (by kernel_rfl)) h0 hb (fun x hx => hlt x (by simp [hx]))
  have t1 := Below.trod laid (by kernel_rfl) (of_decide_eq_true (by kernel_rfl)) h1 hb (fun x hx => hlt x (by simp [hx]))
  exact ⟨_, rfl, [d0, d1], [], (p0 ++ p1), [], (p0 ++ (p1 ++ [])), [], hW', trodAll_cons_mk (shut_bool Try.underlying4 _) trodAll_mk0,
    (trodAll_cons_mk t0 (trodAll_cons_mk t1 trodAll_mk0)), rfl, hb.frame _, fun h => by cases h⟩

set_option maxRecDepth 100000 in
theorem lifted (os : Os) (started : os.Started) (H : Type) (enc : TypeId × Value → H) :
    ReturnsInHanded {} Try.checked os 9 .any (Rows.quoStepsSpec.pre6 enc Try.prog Try.f9 Rows.quoStepsRow.domain false) (Rows.quoStepsSpec.post enc Try.prog Try.f9 false true false false) := by
  refine returnsInHanded_of_change (C := Try.checked) own started (by kernel_rfl) Try.func9
    (ChangeSpec.witness6 (enc := enc) (C := Try.checked) false ⟨#[], #[.slice none 0 0, .slice none 0 0], []⟩ 8 (by kernel_rfl) (by kernel_rfl) (by kernel_rfl) (by kernel_rfl)) ?_
  intro W base args ds gs before hval hW _ _
  exact contract H enc W base args ds gs before hval hW

theorem proved : Rows.QuoStepsSaid :=
  OpenClaim.holds_of_wide 9 Try.f9 rfl rfl rfl rfl rfl rfl rfl ⟨rfl, rfl, rfl, rfl, rfl⟩ rfl rfl rfl rfl rfl (by kernel_rfl) Try.func9 (by kernel_rfl)
    (of_decide_eq_true (by kernel_rfl)) (by unfold Func.isWrapper; first | (rw [if_pos (by decide +kernel)]; kernel_rfl) | (rw [if_neg (by decide +kernel)]; exact ⟨rfl, rfl⟩))
    (fun os started H enc _ => lifted os started H enc)
end quoSteps
end Go.Proofs.Ytdcdaielfkikhaa
