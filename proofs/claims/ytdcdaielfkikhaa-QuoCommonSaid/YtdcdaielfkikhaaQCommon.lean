/-
  QuoCommon: the law answers true (the greatest common divisor divides both, what divides both divides it, and it grows as both do), and each argument reads behind the call as it read before, whatever the arguments are. No condition.
-/
import Derived.Test.YtdcdaielfkikhaaQLaw0
namespace Go.Proofs.Ytdcdaielfkikhaa
open Go.RowKit Go.ChangeShapes Go.WideShapes Go.ChangeAt
set_option linter.unusedVariables false
set_option linter.unusedSimpArgs false

set_option maxRecDepth 100000 in
set_option maxHeartbeats 8000000 in
theorem quoCommon_walk (u0 : Value) (xs0 : List Int) (ad0 : Option Addr) (cap0 : Nat) (u1 : Value) (xs1 : List Int) (ad1 : Option Addr) (cap1 : Nat) (u2 : Value) (xs2 : List Int) (ad2 : Option Addr) (cap2 : Nat) (w : World) (A0 : Arg w u0 xs0 ad0 cap0) (hn0 : ad0 = none → cap0 = 0) (A1 : Arg w u1 xs1 ad1 cap1) (hn1 : ad1 = none → cap1 = 0) (A2 : Arg w u2 xs2 ad2 cap2) (hn2 : ad2 = none → cap2 = 0) :
    Calls Try.prog 8 #[u0, u1, u2] w fun e w' => e = .returned (.bool true) ∧ Below w.heap.size w w' := by
  have hW : Below w.heap.size w w := Below.refl _ _
  have hS : w.heap.size ≤ w.heap.size := Nat.le_refl _
  have h17 : ((17 : Int) == 17) = true := by decide
  have h00 : ((0 : Int) == 0) = true := by decide
  have hne : ((17 : Int) != 0) = true := by decide
  have hnn : ((0 : Int) != 0) = false := by decide
  have H0 := Lib.hid hn0
  have e0 := A0.is
  subst e0
  clear hn0
  have H1 := Lib.hid hn1
  have e1 := A1.is
  subst e1
  clear hn1
  have H2 := Lib.hid hn2
  have e2 := A2.is
  subst e2
  clear hn2
  by_cases g0 : xs0.length ≤ 20
  case neg =>
    have d0 : decide ((20 : Int) < (xs0.length : Int)) = true := decide_eq_true (by omega)
    go_enter Try.func8, Try.ntmps8
    go_wp2_with fail
    refine (known2_any _).mono ?_
    rintro e V1 ⟨rfl, hb⟩
    replace A0 := A0.later hb
    replace A1 := A1.later hb
    replace A2 := A2.later hb
    replace hW := hW.trans (hb.mono hS)
    replace hS := Nat.le_trans hS hb.size
    clear hb
    go_wp2_with fail
    go_ret
    exact ⟨rfl, hW⟩
  by_cases g1 : xs1.length ≤ 20
  case neg =>
    have d0 : decide ((20 : Int) < (xs0.length : Int)) = false := decide_eq_false (by omega)
    have d1 : decide ((20 : Int) < (xs1.length : Int)) = true := decide_eq_true (by omega)
    go_enter Try.func8, Try.ntmps8
    go_wp2_with fail
    refine (known2_any _).mono ?_
    rintro e V1 ⟨rfl, hb⟩
    replace A0 := A0.later hb
    replace A1 := A1.later hb
    replace A2 := A2.later hb
    replace hW := hW.trans (hb.mono hS)
    replace hS := Nat.le_trans hS hb.size
    clear hb
    go_wp2_with fail
    go_ret
    exact ⟨rfl, hW⟩
  by_cases g2 : xs2.length ≤ 20
  case neg =>
    have d0 : decide ((20 : Int) < (xs0.length : Int)) = false := decide_eq_false (by omega)
    have d1 : decide ((20 : Int) < (xs1.length : Int)) = false := decide_eq_false (by omega)
    have d2 : decide ((20 : Int) < (xs2.length : Int)) = true := decide_eq_true (by omega)
    go_enter Try.func8, Try.ntmps8
    go_wp2_with fail
    refine (known2_any _).mono ?_
    rintro e V1 ⟨rfl, hb⟩
    replace A0 := A0.later hb
    replace A1 := A1.later hb
    replace A2 := A2.later hb
    replace hW := hW.trans (hb.mono hS)
    replace hS := Nat.le_trans hS hb.size
    clear hb
    go_wp2_with fail
    go_ret
    exact ⟨rfl, hW⟩
  have d0 : decide ((20 : Int) < (xs0.length : Int)) = false := decide_eq_false (by omega)
  have d1 : decide ((20 : Int) < (xs1.length : Int)) = false := decide_eq_false (by omega)
  have d2 : decide ((20 : Int) < (xs2.length : Int)) = false := decide_eq_false (by omega)
  go_enter Try.func8, Try.ntmps8
  go_wp2_with fail
  refine (mul_res A0 A2 (by omega) (by omega)).mono ?_
  rintro e V1 ⟨r3, l3, rfl, q3, n3, hb⟩
  replace A0 := A0.later hb
  replace A1 := A1.later hb
  replace A2 := A2.later hb
  replace hW := hW.trans (hb.mono hS)
  replace hS := Nat.le_trans hS hb.size
  clear hb
  obtain ⟨ad3, cap3, A3⟩ := q3.arg
  go_wp2_with fail
  refine (mul_res A1 A2 (by omega) (by omega)).mono ?_
  rintro e V2 ⟨r4, l4, rfl, q4, n4, hb⟩
  replace A0 := A0.later hb
  replace A1 := A1.later hb
  replace A2 := A2.later hb
  replace A3 := A3.later hb
  replace hW := hW.trans (hb.mono hS)
  replace hS := Nat.le_trans hS hb.size
  clear hb
  obtain ⟨ad4, cap4, A4⟩ := q4.arg
  go_wp2_with fail
  refine (gcd_any A3 A4 (by omega) (by omega)).mono ?_
  rintro e V3 ⟨r5, l5, rfl, q5, n5, hb⟩
  replace A0 := A0.later hb
  replace A1 := A1.later hb
  replace A2 := A2.later hb
  replace A3 := A3.later hb
  replace A4 := A4.later hb
  replace hW := hW.trans (hb.mono hS)
  replace hS := Nat.le_trans hS hb.size
  clear hb
  obtain ⟨ad5, cap5, A5⟩ := q5.arg
  go_wp2_with fail
  refine (divides_true A5 A3 (by omega) (by omega) (by rw [q5.eq]; exact Int.gcd_dvd_left _ _)).mono ?_
  rintro e V4 ⟨rfl, hb⟩
  replace A0 := A0.later hb
  replace A1 := A1.later hb
  replace A2 := A2.later hb
  replace A3 := A3.later hb
  replace A4 := A4.later hb
  replace A5 := A5.later hb
  replace hW := hW.trans (hb.mono hS)
  replace hS := Nat.le_trans hS hb.size
  clear hb
  go_wp2_with fail
  refine (divides_true A5 A4 (by omega) (by omega) (by rw [q5.eq]; exact Int.gcd_dvd_right _ _)).mono ?_
  rintro e V5 ⟨rfl, hb⟩
  replace A0 := A0.later hb
  replace A1 := A1.later hb
  replace A2 := A2.later hb
  replace A3 := A3.later hb
  replace A4 := A4.later hb
  replace A5 := A5.later hb
  replace hW := hW.trans (hb.mono hS)
  replace hS := Nat.le_trans hS hb.size
  clear hb
  go_wp2_with fail
  refine (divides_true A2 A5 (by omega) (by omega) (by rw [q5.eq, q3.eq, q4.eq]; exact Int.dvd_coe_gcd (Int.dvd_mul_left _ _) (Int.dvd_mul_left _ _))).mono ?_
  rintro e V6 ⟨rfl, hb⟩
  replace A0 := A0.later hb
  replace A1 := A1.later hb
  replace A2 := A2.later hb
  replace A3 := A3.later hb
  replace A4 := A4.later hb
  replace A5 := A5.later hb
  replace hW := hW.trans (hb.mono hS)
  replace hS := Nat.le_trans hS hb.size
  clear hb
  go_wp2_with fail
  refine (gcd_any A0 A1 (by omega) (by omega)).mono ?_
  rintro e V7 ⟨r6, l6, rfl, q6, n6, hb⟩
  replace A0 := A0.later hb
  replace A1 := A1.later hb
  replace A2 := A2.later hb
  replace A3 := A3.later hb
  replace A4 := A4.later hb
  replace A5 := A5.later hb
  replace hW := hW.trans (hb.mono hS)
  replace hS := Nat.le_trans hS hb.size
  clear hb
  obtain ⟨ad6, cap6, A6⟩ := q6.arg
  go_wp2_with fail
  refine (mul_res A6 A2 (by omega) (by omega)).mono ?_
  rintro e V8 ⟨r7, l7, rfl, q7, n7, hb⟩
  replace A0 := A0.later hb
  replace A1 := A1.later hb
  replace A2 := A2.later hb
  replace A3 := A3.later hb
  replace A4 := A4.later hb
  replace A5 := A5.later hb
  replace A6 := A6.later hb
  replace hW := hW.trans (hb.mono hS)
  replace hS := Nat.le_trans hS hb.size
  clear hb
  obtain ⟨ad7, cap7, A7⟩ := q7.arg
  go_wp2_with fail
  refine (cmp_eq A5 A7 (by omega) (by omega) (by rw [q5.eq, q7.eq, q6.eq, q3.eq, q4.eq, Int.gcd_mul_right, Int.natCast_mul, Int.natAbs_of_nonneg (val_nonneg A2.wf)])).mono ?_
  rintro e V9 ⟨rfl, hb⟩
  replace A0 := A0.later hb
  replace A1 := A1.later hb
  replace A2 := A2.later hb
  replace A3 := A3.later hb
  replace A4 := A4.later hb
  replace A5 := A5.later hb
  replace A6 := A6.later hb
  replace A7 := A7.later hb
  replace hW := hW.trans (hb.mono hS)
  replace hS := Nat.le_trans hS hb.size
  clear hb
  go_wp2_with fail
  refine (gcd_any A4 A3 (by omega) (by omega)).mono ?_
  rintro e V10 ⟨r8, l8, rfl, q8, n8, hb⟩
  replace A0 := A0.later hb
  replace A1 := A1.later hb
  replace A2 := A2.later hb
  replace A3 := A3.later hb
  replace A4 := A4.later hb
  replace A5 := A5.later hb
  replace A6 := A6.later hb
  replace A7 := A7.later hb
  replace hW := hW.trans (hb.mono hS)
  replace hS := Nat.le_trans hS hb.size
  clear hb
  obtain ⟨ad8, cap8, A8⟩ := q8.arg
  go_wp2_with fail
  refine (cmp_eq A8 A5 (by omega) (by omega) (by rw [q8.eq, q5.eq, Int.gcd_comm])).mono ?_
  rintro e V11 ⟨rfl, hb⟩
  replace A0 := A0.later hb
  replace A1 := A1.later hb
  replace A2 := A2.later hb
  replace A3 := A3.later hb
  replace A4 := A4.later hb
  replace A5 := A5.later hb
  replace A6 := A6.later hb
  replace A7 := A7.later hb
  replace A8 := A8.later hb
  replace hW := hW.trans (hb.mono hS)
  replace hS := Nat.le_trans hS hb.size
  clear hb
  go_wp2_with fail
  refine (known2_any _).mono ?_
  rintro e V12 ⟨rfl, hb⟩
  replace A0 := A0.later hb
  replace A1 := A1.later hb
  replace A2 := A2.later hb
  replace A3 := A3.later hb
  replace A4 := A4.later hb
  replace A5 := A5.later hb
  replace A6 := A6.later hb
  replace A7 := A7.later hb
  replace A8 := A8.later hb
  replace hW := hW.trans (hb.mono hS)
  replace hS := Nat.le_trans hS hb.size
  clear hb
  go_wp2_with fail
  go_ret
  exact ⟨rfl, hW⟩

namespace quoCommon
theorem contract (H : Type) (enc : TypeId × Value → H) (W : World) (base : Nat) (args : Array Value) (ds gs : List (DataW H)) (before : List MemPlace)
    (hval : ∀ (j : Nat) t v, Try.f8.params[j]? = some t → args[j]? = some v → Value.okWide Try.prog W .any base t v)
    (hW : DataW.Whole enc Try.prog Try.f8.params.toList Rows.quoCommonSpec.vars false W args.toList ds gs before) :
    Calls Try.prog 8 args W fun e W' => ∃ v, e = .returned v ∧ Rows.quoCommonSpec.post enc Try.prog Try.f8 false true false false W args v W' := by
  have hW' := hW
  have hlt := fun p hp => hW'.lt p hp
  obtain ⟨p, q, hA0, hV, rfl, hfz, hnd⟩ := hW
  have hA : DataW.TrodAll enc Try.prog W 0 (fun _ => true) true Try.f8.params.toList args.toList ds p := hA0
  rw [Try.params8] at hA hval
  obtain ⟨v0, vs0, d0, ds0, p0, q0, ha0, rfl, rfl, h0, r0⟩ := trodAll_cons hA
  obtain ⟨v1, vs1, d1, ds1, p1, q1, ha1, rfl, rfl, h1, r1⟩ := trodAll_cons r0
  obtain ⟨v2, vs2, d2, ds2, p2, q2, ha2, rfl, rfl, h2, r2⟩ := trodAll_cons r1
  obtain ⟨rfl, rfl, rfl⟩ := trodAll_nil r2
  subst ha1
  subst ha2
  obtain rfl : args = #[v0, v1, v2] := by cases args; simp_all
  obtain ⟨rfl, rfl⟩ := trodVars_none hV
  clear hA hA0 hV
  simp only [List.append_nil] at hW' hlt
  obtain ⟨ad0, xs0, cap0, A0, n0⟩ := open_nat3 (okWide_slice Try.underlying23 (hval 0 23 v0 rfl rfl)) h0
  obtain ⟨ad1, xs1, cap1, A1, n1⟩ := open_nat3 (okWide_slice Try.underlying23 (hval 1 23 v1 rfl rfl)) h1
  obtain ⟨ad2, xs2, cap2, A2, n2⟩ := open_nat3 (okWide_slice Try.underlying23 (hval 2 23 v2 rfl rfl)) h2
  refine (quoCommon_walk v0 xs0 ad0 cap0 v1 xs1 ad1 cap1 v2 xs2 ad2 cap2 W A0 n0 A1 n1 A2 n2).mono fun e W' ⟨he, hb⟩ => ?_
  subst he
  have t0 := Below.trod laid (by kernel_rfl) (of_decide_eq_true (by kernel_rfl)) h0 hb (fun x hx => hlt x (by simp [hx]))
  have t1 := Below.trod laid (by kernel_rfl) (of_decide_eq_true (by kernel_rfl)) h1 hb (fun x hx => hlt x (by simp [hx]))
  have t2 := Below.trod laid (by kernel_rfl) (of_decide_eq_true (by kernel_rfl)) h2 hb (fun x hx => hlt x (by simp [hx]))
  exact ⟨_, rfl, [d0, d1, d2], [], (p0 ++ (p1 ++ p2)), [], (p0 ++ (p1 ++ (p2 ++ []))), [], hW', trodAll_cons_mk (shut_bool Try.underlying4 _) trodAll_mk0,
    (trodAll_cons_mk t0 (trodAll_cons_mk t1 (trodAll_cons_mk t2 trodAll_mk0))), rfl, hb.frame _, fun h => by cases h⟩

set_option maxRecDepth 100000 in
theorem lifted (os : Os) (started : os.Started) (H : Type) (enc : TypeId × Value → H) :
    ReturnsInHanded {} Try.checked os 8 .any (Rows.quoCommonSpec.pre6 enc Try.prog Try.f8 Rows.quoCommonRow.domain false) (Rows.quoCommonSpec.post enc Try.prog Try.f8 false true false false) := by
  refine returnsInHanded_of_change (C := Try.checked) own started (by kernel_rfl) Try.func8
    (ChangeSpec.witness6 (enc := enc) (C := Try.checked) false ⟨#[], #[.slice none 0 0, .slice none 0 0, .slice none 0 0], []⟩ 8 (by kernel_rfl) (by kernel_rfl) (by kernel_rfl) (by kernel_rfl)) ?_
  intro W base args ds gs before hval hW _ _
  exact contract H enc W base args ds gs before hval hW

theorem proved : Rows.QuoCommonSaid :=
  OpenClaim.holds_of_wide 8 Try.f8 rfl rfl rfl rfl rfl rfl rfl ⟨rfl, rfl, rfl, rfl, rfl⟩ rfl rfl rfl rfl rfl (by kernel_rfl) Try.func8 (by kernel_rfl)
    (of_decide_eq_true (by kernel_rfl)) (by unfold Func.isWrapper; first | (rw [if_pos (by decide +kernel)]; kernel_rfl) | (rw [if_neg (by decide +kernel)]; exact ⟨rfl, rfl⟩))
    (fun os started H enc _ => lifted os started H enc)
end quoCommon
end Go.Proofs.Ytdcdaielfkikhaa
