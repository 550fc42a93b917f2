/-
  QuoBack: the law answers true (the product of two naturals, and a third one below the second one, divided by that, are the first one and the third one), and each argument reads behind the call as it read before, whatever the arguments are. No condition.
-/
import Derived.Test.YtdcdaielfkikhaaQLaw0
namespace Go.Proofs.Ytdcdaielfkikhaa
open Go.RowKit Go.ChangeShapes Go.WideShapes Go.ChangeAt
set_option linter.unusedVariables false
set_option linter.unusedSimpArgs false

set_option maxRecDepth 100000 in
set_option maxHeartbeats 8000000 in
theorem quoBack_walk (u0 : Value) (xs0 : List Int) (ad0 : Option Addr) (cap0 : Nat) (u1 : Value) (xs1 : List Int) (ad1 : Option Addr) (cap1 : Nat) (u2 : Value) (xs2 : List Int) (ad2 : Option Addr) (cap2 : Nat) (w : World) (A0 : Arg w u0 xs0 ad0 cap0) (hn0 : ad0 = none → cap0 = 0) (A1 : Arg w u1 xs1 ad1 cap1) (hn1 : ad1 = none → cap1 = 0) (A2 : Arg w u2 xs2 ad2 cap2) (hn2 : ad2 = none → cap2 = 0) :
    Calls Try.prog 4 #[u0, u1, u2] w fun e w' => e = .returned (.bool true) ∧ Below w.heap.size w w' := by
  have hW : Below w.heap.size w w := Below.refl _ _
  have hS : w.heap.size ≤ w.heap.size := Nat.le_refl _
  have h17 : ((17 : Int) == 17) = true := by decide
  have h00 : ((0 : Int) == 0) = true := by decide
  have hne : ((17 : Int) != 0) = true := by decide
  have hnn : ((0 : Int) != 0) = false := by decide
  have H0 := Lib.hid hn0
  have e0 := A0.is
  subst e0
  clear hn0
  have H1 := Lib.hid hn1
  have e1 := A1.is
  subst e1
  clear hn1
  have H2 := Lib.hid hn2
  have e2 := A2.is
  subst e2
  clear hn2
  by_cases g0 : xs0.length ≤ 40
  case neg =>
    have d0 : decide ((40 : Int) < (xs0.length : Int)) = true := decide_eq_true (by omega)
    go_enter Try.func4, Try.ntmps4
    go_wp2_with fail
    refine (known2_any _).mono ?_
    rintro e V1 ⟨rfl, hb⟩
    replace A0 := A0.later hb
    replace A1 := A1.later hb
    replace A2 := A2.later hb
    replace hW := hW.trans (hb.mono hS)
    replace hS := Nat.le_trans hS hb.size
    clear hb
    go_wp2_with fail
    go_ret
    exact ⟨rfl, hW⟩
  by_cases g1 : xs1.length ≤ 40
  case neg =>
    have d0 : decide ((40 : Int) < (xs0.length : Int)) = false := decide_eq_false (by omega)
    have d1 : decide ((40 : Int) < (xs1.length : Int)) = true := decide_eq_true (by omega)
    go_enter Try.func4, Try.ntmps4
    go_wp2_with fail
    refine (known2_any _).mono ?_
    rintro e V1 ⟨rfl, hb⟩
    replace A0 := A0.later hb
    replace A1 := A1.later hb
    replace A2 := A2.later hb
    replace hW := hW.trans (hb.mono hS)
    replace hS := Nat.le_trans hS hb.size
    clear hb
    go_wp2_with fail
    go_ret
    exact ⟨rfl, hW⟩
  by_cases g2 : xs2.length ≤ 40
  case neg =>
    have d0 : decide ((40 : Int) < (xs0.length : Int)) = false := decide_eq_false (by omega)
    have d1 : decide ((40 : Int) < (xs1.length : Int)) = false := decide_eq_false (by omega)
    have d2 : decide ((40 : Int) < (xs2.length : Int)) = true := decide_eq_true (by omega)
    go_enter Try.func4, Try.ntmps4
    go_wp2_with fail
    refine (known2_any _).mono ?_
    rintro e V1 ⟨rfl, hb⟩
    replace A0 := A0.later hb
    replace A1 := A1.later hb
    replace A2 := A2.later hb
    replace hW := hW.trans (hb.mono hS)
    replace hS := Nat.le_trans hS hb.size
    clear hb
    go_wp2_with fail
    go_ret
    exact ⟨rfl, hW⟩
  have d0 : decide ((40 : Int) < (xs0.length : Int)) = false := decide_eq_false (by omega)
  have d1 : decide ((40 : Int) < (xs1.length : Int)) = false := decide_eq_false (by omega)
  have d2 : decide ((40 : Int) < (xs2.length : Int)) = false := decide_eq_false (by omega)
  have hv := val_nonneg A2.wf
  by_cases hlt : val xs2 < val xs1
  case neg =>
    go_enter Try.func4, Try.ntmps4
    go_wp2_with fail
    refine (cmp_ge A2 A1 (by omega) (by omega) (by omega)).mono ?_
    rintro e V1 ⟨z0, rfl, hz0, hb⟩
    replace A0 := A0.later hb
    replace A1 := A1.later hb
    replace A2 := A2.later hb
    replace hW := hW.trans (hb.mono hS)
    replace hS := Nat.le_trans hS hb.size
    clear hb
    go_wp2_with fail
    refine (known2_any _).mono ?_
    rintro e V2 ⟨rfl, hb⟩
    replace A0 := A0.later hb
    replace A1 := A1.later hb
    replace A2 := A2.later hb
    replace hW := hW.trans (hb.mono hS)
    replace hS := Nat.le_trans hS hb.size
    clear hb
    go_wp2_with fail
    go_ret
    exact ⟨rfl, hW⟩
  go_enter Try.func4, Try.ntmps4
  have hz0 : decide ((0 : Int) ≤ -1) = false := by decide
  go_wp2_with fail
  refine (cmp_lt A2 A1 (by omega) (by omega) hlt).mono ?_
  rintro e V1 ⟨rfl, hb⟩
  replace A0 := A0.later hb
  replace A1 := A1.later hb
  replace A2 := A2.later hb
  replace hW := hW.trans (hb.mono hS)
  replace hS := Nat.le_trans hS hb.size
  clear hb
  go_wp2_with fail
  refine (mul_res A0 A1 (by omega) (by omega)).mono ?_
  rintro e V2 ⟨r3, l3, rfl, q3, n3, hb⟩
  replace A0 := A0.later hb
  replace A1 := A1.later hb
  replace A2 := A2.later hb
  replace hW := hW.trans (hb.mono hS)
  replace hS := Nat.le_trans hS hb.size
  clear hb
  obtain ⟨ad3, cap3, A3⟩ := q3.arg
  go_wp2_with fail
  refine (add_res A3 A2 (by omega) (by omega)).mono ?_
  rintro e V3 ⟨r4, l4, rfl, q4, n4, hb⟩
  replace A0 := A0.later hb
  replace A1 := A1.later hb
  replace A2 := A2.later hb
  replace A3 := A3.later hb
  replace hW := hW.trans (hb.mono hS)
  replace hS := Nat.le_trans hS hb.size
  clear hb
  obtain ⟨ad4, cap4, A4⟩ := q4.arg
  go_wp2_with fail
  refine (div_any A4 A1 (by omega) (by omega) (by omega)).mono ?_
  rintro e V4 ⟨r5, r6, rfl, hb, ⟨l5, q5, n5⟩, ⟨l6, q6, n6, m6⟩⟩
  replace A0 := A0.later hb
  replace A1 := A1.later hb
  replace A2 := A2.later hb
  replace A3 := A3.later hb
  replace A4 := A4.later hb
  replace hW := hW.trans (hb.mono hS)
  replace hS := Nat.le_trans hS hb.size
  clear hb
  obtain ⟨ad5, cap5, A5⟩ := q5.arg
  obtain ⟨ad6, cap6, A6⟩ := q6.arg
  obtain ⟨k1, k2⟩ := div_back (A := val xs0) (B := val xs1) (C := val xs2) hv hlt
  go_wp2_with fail
  refine (cmp_eq A5 A0 (by omega) (by omega) (by rw [q5.eq, q4.eq, q3.eq]; exact k1)).mono ?_
  rintro e V5 ⟨rfl, hb⟩
  replace A0 := A0.later hb
  replace A1 := A1.later hb
  replace A2 := A2.later hb
  replace A3 := A3.later hb
  replace A4 := A4.later hb
  replace A5 := A5.later hb
  replace A6 := A6.later hb
  replace hW := hW.trans (hb.mono hS)
  replace hS := Nat.le_trans hS hb.size
  clear hb
  go_wp2_with fail
  refine (cmp_eq A6 A2 (by omega) (by omega) (by rw [q6.eq, q4.eq, q3.eq]; exact k2)).mono ?_
  rintro e V6 ⟨rfl, hb⟩
  replace A0 := A0.later hb
  replace A1 := A1.later hb
  replace A2 := A2.later hb
  replace A3 := A3.later hb
  replace A4 := A4.later hb
  replace A5 := A5.later hb
  replace A6 := A6.later hb
  replace hW := hW.trans (hb.mono hS)
  replace hS := Nat.le_trans hS hb.size
  clear hb
  go_wp2_with fail
  refine (known2_any _).mono ?_
  rintro e V7 ⟨rfl, hb⟩
  replace A0 := A0.later hb
  replace A1 := A1.later hb
  replace A2 := A2.later hb
  replace A3 := A3.later hb
  replace A4 := A4.later hb
  replace A5 := A5.later hb
  replace A6 := A6.later hb
  replace hW := hW.trans (hb.mono hS)
  replace hS := Nat.le_trans hS hb.size
  clear hb
  go_wp2_with fail
  go_ret
  exact ⟨rfl, hW⟩

namespace quoBack
theorem contract (H : Type) (enc : TypeId × Value → H) (W : World) (base : Nat) (args : Array Value) (ds gs : List (DataW H)) (before : List MemPlace)
    (hval : ∀ (j : Nat) t v, Try.f4.params[j]? = some t → args[j]? = some v → Value.okWide Try.prog W .any base t v)
    (hW : DataW.Whole enc Try.prog Try.f4.params.toList Rows.quoBackSpec.vars false W args.toList ds gs before) :
    Calls Try.prog 4 args W fun e W' => ∃ v, e = .returned v ∧ Rows.quoBackSpec.post enc Try.prog Try.f4 false true false false W args v W' := by
  have hW' := hW
  have hlt := fun p hp => hW'.lt p hp
  obtain ⟨p, q, hA0, hV, rfl, hfz, hnd⟩ := hW
  have hA : DataW.TrodAll enc Try.prog W 0 (fun _ => true) true Try.f4.params.toList args.toList ds p := hA0
  rw [Try.params4] at hA hval
  obtain ⟨v0, vs0, d0, ds0, p0, q0, ha0, rfl, rfl, h0, r0⟩ := trodAll_cons hA
  obtain ⟨v1, vs1, d1, ds1, p1, q1, ha1, rfl, rfl, h1, r1⟩ := trodAll_cons r0
  obtain ⟨v2, vs2, d2, ds2, p2, q2, ha2, rfl, rfl, h2, r2⟩ := trodAll_cons r1
  obtain ⟨rfl, rfl, rfl⟩ := trodAll_nil r2
  subst ha1
  subst ha2
  obtain rfl : args = #[v0, v1, v2] := by cases args; simp_all
  obtain ⟨rfl, rfl⟩ := trodVars_none hV
  clear hA hA0 hV
  simp only [List.append_nil] at hW' hlt
  obtain ⟨ad0, xs0, cap0, A0, n0⟩ := open_nat3 (okWide_slice Try.underlying23 (hval 0 23 v0 rfl rfl)) h0
  obtain ⟨ad1, xs1, cap1, A1, n1⟩ := open_nat3 (okWide_slice Try.underlying23 (hval 1 23 v1 rfl rfl)) h1
  obtain ⟨ad2, xs2, cap2, A2, n2⟩ := open_nat3 (okWide_slice Try.underlying23 (hval 2 23 v2 rfl rfl)) h2
  refine (quoBack_walk v0 xs0 ad0 cap0 v1 xs1 ad1 cap1 v2 xs2 ad2 cap2 W A0 n0 A1 n1 A2 n2).mono fun e W' ⟨he, hb⟩ => ?_
  subst he
  have t0 := Below.trod laid (by kernel_rfl) (of_decide_eq_true (by kernel_rfl)) h0 hb (fun x hx => hlt x (by simp [hx]))
  have t1 := Below.trod laid (by kernel_rfl) (of_decide_eq_true (by kernel_rfl)) h1 hb (fun x hx => hlt x (by simp [hx]))
  have t2 := Below.trod laid (by kernel_rfl) (of_decide_eq_true (by kernel_rfl)) h2 hb (fun x hx => hlt x (by simp [hx]))
  exact ⟨_, rfl, [d0, d1, d2], [], (p0 ++ (p1 ++ p2)), [], (p0 ++ (p1 ++ (p2 ++ []))), [], hW', trodAll_cons_mk (shut_bool Try.underlying4 _) trodAll_mk0,
    (trodAll_cons_mk t0 (trodAll_cons_mk t1 (trodAll_cons_mk t2 trodAll_mk0))), rfl, hb.frame _, fun h => by cases h⟩

set_option maxRecDepth 100000 in
theorem lifted (os : Os) (started : os.Started) (H : Type) (enc : TypeId × Value → H) :
    ReturnsInHanded {} Try.checked os 4 .any (Rows.quoBackSpec.pre6 enc Try.prog Try.f4 Rows.quoBackRow.domain false) (Rows.quoBackSpec.post enc Try.prog Try.f4 false true false false) := by
  refine returnsInHanded_of_change (C := Try.checked) own started (by kernel_rfl) Try.func4
    (ChangeSpec.witness6 (enc := enc) (C := Try.checked) false ⟨#[], #[.slice none 0 0, .slice none 0 0, .slice none 0 0], []⟩ 8 (by kernel_rfl) (by kernel_rfl) (by kernel_rfl) (by kernel_rfl)) ?_
  intro W base args ds gs before hval hW _ _
  exact contract H enc W base args ds gs before hval hW

theorem proved : Rows.QuoBackSaid :=
  OpenClaim.holds_of_wide 4 Try.f4 rfl rfl rfl rfl rfl rfl rfl ⟨rfl, rfl, rfl, rfl, rfl⟩ rfl rfl rfl rfl rfl (by kernel_rfl) Try.func4 (by kernel_rfl)
    (of_decide_eq_true (by kernel_rfl)) (by unfold Func.isWrapper; first | (rw [if_pos (by decide +kernel)]; kernel_rfl) | (rw [if_neg (by decide +kernel)]; exact ⟨rfl, rfl⟩))
    (fun os started H enc _ => lifted os started H enc)
end quoBack
end Go.Proofs.Ytdcdaielfkikhaa
