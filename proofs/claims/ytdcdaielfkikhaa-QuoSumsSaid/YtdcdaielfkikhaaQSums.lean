/-
  QuoSums: the law answers true (a power of a sum of exponents is the product of the powers, and a power of a power that of the product of exponents), and each argument reads behind the call as it read before, whatever the arguments are. No condition.
-/
import Derived.Test.YtdcdaielfkikhaaQLaw0
namespace Go.Proofs.Ytdcdaielfkikhaa
open Go.RowKit Go.ChangeShapes Go.WideShapes Go.ChangeAt
set_option linter.unusedVariables false
set_option linter.unusedSimpArgs false

set_option maxRecDepth 100000 in
set_option maxHeartbeats 8000000 in
theorem quoSums_walk (u0 : Value) (xs0 : List Int) (ad0 : Option Addr) (cap0 : Nat) (i1 : Int) (i2 : Int) (w : World) (A0 : Arg w u0 xs0 ad0 cap0) (hn0 : ad0 = none → cap0 = 0) (hi1 : (Lit.int .i64 i1).wf = true) (hi2 : (Lit.int .i64 i2).wf = true) :
    Calls Try.prog 11 #[u0, .int .i64 i1, .int .i64 i2] w fun e w' => e = .returned (.bool true) ∧ Below w.heap.size w w' := by
  have hW : Below w.heap.size w w := Below.refl _ _
  have hS : w.heap.size ≤ w.heap.size := Nat.le_refl _
  have h17 : ((17 : Int) == 17) = true := by decide
  have h00 : ((0 : Int) == 0) = true := by decide
  have hne : ((17 : Int) != 0) = true := by decide
  have hnn : ((0 : Int) != 0) = false := by decide
  have H0 := Lib.hid hn0
  have e0 := A0.is
  subst e0
  clear hn0
  obtain ⟨b0, b1⟩ := wf_i64 hi1
  obtain ⟨b2, b3⟩ := wf_i64 hi2
  by_cases g0 : xs0.length ≤ 4
  case neg =>
    have d0 : decide ((4 : Int) < (xs0.length : Int)) = true := decide_eq_true (by omega)
    go_enter Try.func11, Try.ntmps11
    go_wp2_with fail
    refine (known2_any _).mono ?_
    rintro e V1 ⟨rfl, hb⟩
    replace A0 := A0.later hb
    replace hW := hW.trans (hb.mono hS)
    replace hS := Nat.le_trans hS hb.size
    clear hb
    go_wp2_with fail
    go_ret
    exact ⟨rfl, hW⟩
  by_cases g1 : 0 ≤ i1
  case neg =>
    have d0 : decide ((4 : Int) < (xs0.length : Int)) = false := decide_eq_false (by omega)
    have d1 : decide (i1 < 0) = true := decide_eq_true (by omega)
    go_enter Try.func11, Try.ntmps11
    go_wp2_with fail
    refine (known2_any _).mono ?_
    rintro e V1 ⟨rfl, hb⟩
    replace A0 := A0.later hb
    replace hW := hW.trans (hb.mono hS)
    replace hS := Nat.le_trans hS hb.size
    clear hb
    go_wp2_with fail
    go_ret
    exact ⟨rfl, hW⟩
  by_cases g2 : 0 ≤ i2
  case neg =>
    have d0 : decide ((4 : Int) < (xs0.length : Int)) = false := decide_eq_false (by omega)
    have d1 : decide (i1 < 0) = false := decide_eq_false (by omega)
    have d2 : decide (i2 < 0) = true := decide_eq_true (by omega)
    go_enter Try.func11, Try.ntmps11
    go_wp2_with fail
    refine (known2_any _).mono ?_
    rintro e V1 ⟨rfl, hb⟩
    replace A0 := A0.later hb
    replace hW := hW.trans (hb.mono hS)
    replace hS := Nat.le_trans hS hb.size
    clear hb
    go_wp2_with fail
    go_ret
    exact ⟨rfl, hW⟩
  by_cases g3 : i1 ≤ 12
  case neg =>
    have d0 : decide ((4 : Int) < (xs0.length : Int)) = false := decide_eq_false (by omega)
    have d1 : decide (i1 < 0) = false := decide_eq_false (by omega)
    have d2 : decide (i2 < 0) = false := decide_eq_false (by omega)
    have d3 : decide ((12 : Int) < i1) = true := decide_eq_true (by omega)
    go_enter Try.func11, Try.ntmps11
    go_wp2_with fail
    refine (known2_any _).mono ?_
    rintro e V1 ⟨rfl, hb⟩
    replace A0 := A0.later hb
    replace hW := hW.trans (hb.mono hS)
    replace hS := Nat.le_trans hS hb.size
    clear hb
    go_wp2_with fail
    go_ret
    exact ⟨rfl, hW⟩
  by_cases g4 : i2 ≤ 12
  case neg =>
    have d0 : decide ((4 : Int) < (xs0.length : Int)) = false := decide_eq_false (by omega)
    have d1 : decide (i1 < 0) = false := decide_eq_false (by omega)
    have d2 : decide (i2 < 0) = false := decide_eq_false (by omega)
    have d3 : decide ((12 : Int) < i1) = false := decide_eq_false (by omega)
    have d4 : decide ((12 : Int) < i2) = true := decide_eq_true (by omega)
    go_enter Try.func11, Try.ntmps11
    go_wp2_with fail
    refine (known2_any _).mono ?_
    rintro e V1 ⟨rfl, hb⟩
    replace A0 := A0.later hb
    replace hW := hW.trans (hb.mono hS)
    replace hS := Nat.le_trans hS hb.size
    clear hb
    go_wp2_with fail
    go_ret
    exact ⟨rfl, hW⟩
  have d0 : decide ((4 : Int) < (xs0.length : Int)) = false := decide_eq_false (by omega)
  have d1 : decide (i1 < 0) = false := decide_eq_false (by omega)
  have d2 : decide (i2 < 0) = false := decide_eq_false (by omega)
  have d3 : decide ((12 : Int) < i1) = false := decide_eq_false (by omega)
  have d4 : decide ((12 : Int) < i2) = false := decide_eq_false (by omega)
  obtain ⟨p, hp⟩ : ∃ p, i1 * i2 = p := ⟨_, rfl⟩
  have hpn : i1.toNat * i2.toNat = p.toNat := by rw [← hp]; exact (Int.toNat_mul (by omega) (by omega)).symm
  have hpb : i1.toNat * i2.toNat ≤ 12 * 12 := Nat.mul_le_mul (by omega) (by omega)
  have hp0 : 0 ≤ p := by rw [← hp]; exact Int.mul_nonneg (by omega) (by omega)
  rw [hpn] at hpb
  have hm1 : xs0.length * i1.toNat ≤ 4 * 12 := Nat.mul_le_mul (by omega) (by omega)
  have hm2 : xs0.length * i2.toNat ≤ 4 * 12 := Nat.mul_le_mul (by omega) (by omega)
  have hm3 : xs0.length * (i1 + i2).toNat ≤ 4 * 24 := Nat.mul_le_mul (by omega) (by omega)
  have hm4 : xs0.length * p.toNat ≤ 4 * 144 := Nat.mul_le_mul (by omega) (by omega)
  go_enter Try.func11, Try.ntmps11
  go_wp2_with fail
  refine (pow_any (i1 + i2) A0 (by omega) ⟨by omega, by omega⟩).mono ?_
  rintro e V1 ⟨r3, l3, rfl, q3, n3, hb⟩
  replace A0 := A0.later hb
  replace hW := hW.trans (hb.mono hS)
  replace hS := Nat.le_trans hS hb.size
  clear hb
  obtain ⟨ad3, cap3, A3⟩ := q3.arg
  go_wp2_with fail
  refine (pow_any i1 A0 (by omega) ⟨by omega, by omega⟩).mono ?_
  rintro e V2 ⟨r4, l4, rfl, q4, n4, hb⟩
  replace A0 := A0.later hb
  replace A3 := A3.later hb
  replace hW := hW.trans (hb.mono hS)
  replace hS := Nat.le_trans hS hb.size
  clear hb
  obtain ⟨ad4, cap4, A4⟩ := q4.arg
  go_wp2_with fail
  refine (pow_any i2 A0 (by omega) ⟨by omega, by omega⟩).mono ?_
  rintro e V3 ⟨r5, l5, rfl, q5, n5, hb⟩
  replace A0 := A0.later hb
  replace A3 := A3.later hb
  replace A4 := A4.later hb
  replace hW := hW.trans (hb.mono hS)
  replace hS := Nat.le_trans hS hb.size
  clear hb
  obtain ⟨ad5, cap5, A5⟩ := q5.arg
  go_wp2_with fail
  refine (mul_res A4 A5 (by omega) (by omega)).mono ?_
  rintro e V4 ⟨r6, l6, rfl, q6, n6, hb⟩
  replace A0 := A0.later hb
  replace A3 := A3.later hb
  replace A4 := A4.later hb
  replace A5 := A5.later hb
  replace hW := hW.trans (hb.mono hS)
  replace hS := Nat.le_trans hS hb.size
  clear hb
  obtain ⟨ad6, cap6, A6⟩ := q6.arg
  go_wp2_with fail
  refine (cmp_eq A3 A6 (by omega) (by omega) (by rw [q3.eq, q6.eq, q4.eq, q5.eq, ← Int.pow_add, Int.toNat_add (by omega) (by omega)])).mono ?_
  rintro e V5 ⟨rfl, hb⟩
  replace A0 := A0.later hb
  replace A3 := A3.later hb
  replace A4 := A4.later hb
  replace A5 := A5.later hb
  replace A6 := A6.later hb
  replace hW := hW.trans (hb.mono hS)
  replace hS := Nat.le_trans hS hb.size
  clear hb
  go_wp2_with fail
  refine (pow_any i1 A0 (by omega) ⟨by omega, by omega⟩).mono ?_
  rintro e V6 ⟨r7, l7, rfl, q7, n7, hb⟩
  replace A0 := A0.later hb
  replace A3 := A3.later hb
  replace A4 := A4.later hb
  replace A5 := A5.later hb
  replace A6 := A6.later hb
  replace hW := hW.trans (hb.mono hS)
  replace hS := Nat.le_trans hS hb.size
  clear hb
  obtain ⟨ad7, cap7, A7⟩ := q7.arg
  have hm7 : l7.length * i2.toNat ≤ 49 * 12 := Nat.mul_le_mul (by omega) (by omega)
  go_wp2_with fail
  refine (pow_any i2 A7 (by omega) ⟨by omega, by omega⟩).mono ?_
  rintro e V7 ⟨r8, l8, rfl, q8, n8, hb⟩
  replace A0 := A0.later hb
  replace A3 := A3.later hb
  replace A4 := A4.later hb
  replace A5 := A5.later hb
  replace A6 := A6.later hb
  replace A7 := A7.later hb
  replace hW := hW.trans (hb.mono hS)
  replace hS := Nat.le_trans hS hb.size
  clear hb
  obtain ⟨ad8, cap8, A8⟩ := q8.arg
  go_wp2_with fail
  refine (pow_any p A0 (by omega) ⟨by omega, by omega⟩).mono ?_
  rintro e V8 ⟨r9, l9, rfl, q9, n9, hb⟩
  replace A0 := A0.later hb
  replace A3 := A3.later hb
  replace A4 := A4.later hb
  replace A5 := A5.later hb
  replace A6 := A6.later hb
  replace A7 := A7.later hb
  replace A8 := A8.later hb
  replace hW := hW.trans (hb.mono hS)
  replace hS := Nat.le_trans hS hb.size
  clear hb
  obtain ⟨ad9, cap9, A9⟩ := q9.arg
  go_wp2_with fail
  refine (cmp_eq A8 A9 (by omega) (by omega) (by rw [q8.eq, q9.eq, q7.eq, ← Int.pow_mul, hpn])).mono ?_
  rintro e V9 ⟨rfl, hb⟩
  replace A0 := A0.later hb
  replace A3 := A3.later hb
  replace A4 := A4.later hb
  replace A5 := A5.later hb
  replace A6 := A6.later hb
  replace A7 := A7.later hb
  replace A8 := A8.later hb
  replace A9 := A9.later hb
  replace hW := hW.trans (hb.mono hS)
  replace hS := Nat.le_trans hS hb.size
  clear hb
  go_wp2_with fail
  refine (known2_any _).mono ?_
  rintro e V10 ⟨rfl, hb⟩
  replace A0 := A0.later hb
  replace A3 := A3.later hb
  replace A4 := A4.later hb
  replace A5 := A5.later hb
  replace A6 := A6.later hb
  replace A7 := A7.later hb
  replace A8 := A8.later hb
  replace A9 := A9.later hb
  replace hW := hW.trans (hb.mono hS)
  replace hS := Nat.le_trans hS hb.size
  clear hb
  go_wp2_with fail
  go_ret
  exact ⟨rfl, hW⟩

namespace quoSums
theorem contract (H : Type) (enc : TypeId × Value → H) (W : World) (base : Nat) (args : Array Value) (ds gs : List (DataW H)) (before : List MemPlace)
    (hval : ∀ (j : Nat) t v, Try.f11.params[j]? = some t → args[j]? = some v → Value.okWide Try.prog W .any base t v)
    (hW : DataW.Whole enc Try.prog Try.f11.params.toList Rows.quoSumsSpec.vars false W args.toList ds gs before) :
    Calls Try.prog 11 args W fun e W' => ∃ v, e = .returned v ∧ Rows.quoSumsSpec.post enc Try.prog Try.f11 false true false false W args v W' := by
  have hW' := hW
  have hlt := fun p hp => hW'.lt p hp
  obtain ⟨p, q, hA0, hV, rfl, hfz, hnd⟩ := hW
  have hA : DataW.TrodAll enc Try.prog W 0 (fun _ => true) true Try.f11.params.toList args.toList ds p := hA0
  rw [Try.params11] at hA hval
  obtain ⟨v0, vs0, d0, ds0, p0, q0, ha0, rfl, rfl, h0, r0⟩ := trodAll_cons hA
  obtain ⟨v1, vs1, d1, ds1, p1, q1, ha1, rfl, rfl, h1, r1⟩ := trodAll_cons r0
  obtain ⟨v2, vs2, d2, ds2, p2, q2, ha2, rfl, rfl, h2, r2⟩ := trodAll_cons r1
  obtain ⟨rfl, rfl, rfl⟩ := trodAll_nil r2
  subst ha1
  subst ha2
  obtain rfl : args = #[v0, v1, v2] := by cases args; simp_all
  obtain ⟨rfl, rfl⟩ := trodVars_none hV
  clear hA hA0 hV
  obtain ⟨a1, rfl, rfl, rfl, w1⟩ := open_int Try.underlying3 (hval 1 3 v1 rfl rfl) h1
  obtain ⟨a2, rfl, rfl, rfl, w2⟩ := open_int Try.underlying3 (hval 2 3 v2 rfl rfl) h2
  simp only [List.append_nil] at hW' hlt
  obtain ⟨ad0, xs0, cap0, A0, n0⟩ := open_nat3 (okWide_slice Try.underlying23 (hval 0 23 v0 rfl rfl)) h0
  refine (quoSums_walk v0 xs0 ad0 cap0 a1 a2 W A0 n0 w1 w2).mono fun e W' ⟨he, hb⟩ => ?_
  subst he
  have t0 := Below.trod laid (by kernel_rfl) (of_decide_eq_true (by kernel_rfl)) h0 hb (fun x hx => hlt x (by simp [hx]))
  exact ⟨_, rfl, [d0, .lit (.int .i64 a1), .lit (.int .i64 a2)], [], p0, [], (p0 ++ ([] ++ ([] ++ []))), [], hW', trodAll_cons_mk (shut_bool Try.underlying4 _) trodAll_mk0,
    (trodAll_cons_mk t0 (trodAll_cons_mk (shut_int Try.underlying3 w1) (trodAll_cons_mk (shut_int Try.underlying3 w2) trodAll_mk0))), rfl, hb.frame _, fun h => by cases h⟩

set_option maxRecDepth 100000 in
theorem lifted (os : Os) (started : os.Started) (H : Type) (enc : TypeId × Value → H) :
    ReturnsInHanded {} Try.checked os 11 .any (Rows.quoSumsSpec.pre6 enc Try.prog Try.f11 Rows.quoSumsRow.domain false) (Rows.quoSumsSpec.post enc Try.prog Try.f11 false true false false) := by
  refine returnsInHanded_of_change (C := Try.checked) own started (by kernel_rfl) Try.func11
    (ChangeSpec.witness6 (enc := enc) (C := Try.checked) false ⟨#[], #[.slice none 0 0, .int .i64 0, .int .i64 0], []⟩ 8 (by kernel_rfl) (by kernel_rfl) (by kernel_rfl) (by kernel_rfl)) ?_
  intro W base args ds gs before hval hW _ _
  exact contract H enc W base args ds gs before hval hW

theorem proved : Rows.QuoSumsSaid :=
  OpenClaim.holds_of_wide 11 Try.f11 rfl rfl rfl rfl rfl rfl rfl ⟨rfl, rfl, rfl, rfl, rfl⟩ rfl rfl rfl rfl rfl (by kernel_rfl) Try.func11 (by kernel_rfl)
    (of_decide_eq_true (by kernel_rfl)) (by unfold Func.isWrapper; first | (rw [if_pos (by decide +kernel)]; kernel_rfl) | (rw [if_neg (by decide +kernel)]; exact ⟨rfl, rfl⟩))
    (fun os started H enc _ => lifted os started H enc)
end quoSums
end Go.Proofs.Ytdcdaielfkikhaa
