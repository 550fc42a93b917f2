/-
  QuoTells: the law answers true (which naturals divide which), and each argument reads behind the call as it read before, whatever the arguments are. No condition.
-/
import Derived.Test.YtdcdaielfkikhaaQLaw0
namespace Go.Proofs.Ytdcdaielfkikhaa
open Go.RowKit Go.ChangeShapes Go.WideShapes Go.ChangeAt
set_option linter.unusedVariables false
set_option linter.unusedSimpArgs false

set_option maxRecDepth 100000 in
set_option maxHeartbeats 8000000 in
theorem quoTells_walk (u0 : Value) (xs0 : List Int) (ad0 : Option Addr) (cap0 : Nat) (u1 : Value) (xs1 : List Int) (ad1 : Option Addr) (cap1 : Nat) (w : World) (A0 : Arg w u0 xs0 ad0 cap0) (hn0 : ad0 = none → cap0 = 0) (A1 : Arg w u1 xs1 ad1 cap1) (hn1 : ad1 = none → cap1 = 0) :
    Calls Try.prog 12 #[u0, u1] w fun e w' => e = .returned (.bool true) ∧ Below w.heap.size w w' := by
  have hW : Below w.heap.size w w := Below.refl _ _
  have hS : w.heap.size ≤ w.heap.size := Nat.le_refl _
  have h17 : ((17 : Int) == 17) = true := by decide
  have h00 : ((0 : Int) == 0) = true := by decide
  have hne : ((17 : Int) != 0) = true := by decide
  have hnn : ((0 : Int) != 0) = false := by decide
  have H0 := Lib.hid hn0
  have e0 := A0.is
  subst e0
  clear hn0
  have H1 := Lib.hid hn1
  have e1 := A1.is
  subst e1
  clear hn1
  by_cases g0 : xs0.length ≤ 30
  case neg =>
    have d0 : decide ((30 : Int) < (xs0.length : Int)) = true := decide_eq_true (by omega)
    go_enter Try.func12, Try.ntmps12
    go_wp2_with fail
    refine (known2_any _).mono ?_
    rintro e V1 ⟨rfl, hb⟩
    replace A0 := A0.later hb
    replace A1 := A1.later hb
    replace hW := hW.trans (hb.mono hS)
    replace hS := Nat.le_trans hS hb.size
    clear hb
    go_wp2_with fail
    go_ret
    exact ⟨rfl, hW⟩
  by_cases g1 : xs1.length ≤ 30
  case neg =>
    have d0 : decide ((30 : Int) < (xs0.length : Int)) = false := decide_eq_false (by omega)
    have d1 : decide ((30 : Int) < (xs1.length : Int)) = true := decide_eq_true (by omega)
    go_enter Try.func12, Try.ntmps12
    go_wp2_with fail
    refine (known2_any _).mono ?_
    rintro e V1 ⟨rfl, hb⟩
    replace A0 := A0.later hb
    replace A1 := A1.later hb
    replace hW := hW.trans (hb.mono hS)
    replace hS := Nat.le_trans hS hb.size
    clear hb
    go_wp2_with fail
    go_ret
    exact ⟨rfl, hW⟩
  have d0 : decide ((30 : Int) < (xs0.length : Int)) = false := decide_eq_false (by omega)
  have d1 : decide ((30 : Int) < (xs1.length : Int)) = false := decide_eq_false (by omega)
  have hv := val_nonneg A0.wf
  have hv1 := val_nonneg A1.wf
  by_cases h0 : val xs0 = 0
  case pos =>
    by_cases h1 : val xs1 = 0
    case pos =>
      go_enter Try.func12, Try.ntmps12
      go_wp2_with fail
      refine (of_any A0 (by omega)).mono ?_
      rintro e V1 ⟨r2, rfl, l2, q2, n2, hb⟩
      replace A0 := A0.later hb
      replace A1 := A1.later hb
      replace hW := hW.trans (hb.mono hS)
      replace hS := Nat.le_trans hS hb.size
      clear hb
      obtain ⟨ad2, cap2, A2⟩ := q2.arg
      go_wp2_with fail
      refine (of_any A1 (by omega)).mono ?_
      rintro e V2 ⟨r3, rfl, l3, q3, n3, hb⟩
      replace A0 := A0.later hb
      replace A1 := A1.later hb
      replace A2 := A2.later hb
      replace hW := hW.trans (hb.mono hS)
      replace hS := Nat.le_trans hS hb.size
      clear hb
      obtain ⟨ad3, cap3, A3⟩ := q3.arg
      have hl := lenD_zero q2.wf q2.full (q2.eq.trans h0)
      have e2 := A2.is
      subst e2
      have hl3 := lenD_zero q3.wf q3.full (q3.eq.trans h1)
      have e3 := A3.is
      subst e3
      go_wp2_with fail
      refine (divides_true A0 A1 (by omega) (by omega) (by rw [h0, h1]; exact Int.dvd_refl _)).mono ?_
      rintro e V3 ⟨rfl, hb⟩
      replace A0 := A0.later hb
      replace A1 := A1.later hb
      replace A2 := A2.later hb
      replace A3 := A3.later hb
      replace hW := hW.trans (hb.mono hS)
      replace hS := Nat.le_trans hS hb.size
      clear hb
      go_wp2_with fail
      refine (known2_any _).mono ?_
      rintro e V4 ⟨rfl, hb⟩
      replace A0 := A0.later hb
      replace A1 := A1.later hb
      replace A2 := A2.later hb
      replace A3 := A3.later hb
      replace hW := hW.trans (hb.mono hS)
      replace hS := Nat.le_trans hS hb.size
      clear hb
      go_wp2_with fail
      go_ret
      exact ⟨rfl, hW⟩
    go_enter Try.func12, Try.ntmps12
    go_wp2_with fail
    refine (of_any A0 (by omega)).mono ?_
    rintro e V1 ⟨r2, rfl, l2, q2, n2, hb⟩
    replace A0 := A0.later hb
    replace A1 := A1.later hb
    replace hW := hW.trans (hb.mono hS)
    replace hS := Nat.le_trans hS hb.size
    clear hb
    obtain ⟨ad2, cap2, A2⟩ := q2.arg
    go_wp2_with fail
    refine (of_any A1 (by omega)).mono ?_
    rintro e V2 ⟨r3, rfl, l3, q3, n3, hb⟩
    replace A0 := A0.later hb
    replace A1 := A1.later hb
    replace A2 := A2.later hb
    replace hW := hW.trans (hb.mono hS)
    replace hS := Nat.le_trans hS hb.size
    clear hb
    obtain ⟨ad3, cap3, A3⟩ := q3.arg
    have hl := lenD_zero q2.wf q2.full (q2.eq.trans h0)
    have e2 := A2.is
    subst e2
    have hl3 := lenD_pos (show 0 < valD l3 by rw [q3.eq]; omega)
    have e3 := A3.is
    subst e3
    go_wp2_with fail
    refine (divides_false A0 A1 (by omega) (by omega) (by rw [h0, Int.emod_zero]; exact h1)).mono ?_
    rintro e V3 ⟨rfl, hb⟩
    replace A0 := A0.later hb
    replace A1 := A1.later hb
    replace A2 := A2.later hb
    replace A3 := A3.later hb
    replace hW := hW.trans (hb.mono hS)
    replace hS := Nat.le_trans hS hb.size
    clear hb
    go_wp2_with fail
    refine (known2_any _).mono ?_
    rintro e V4 ⟨rfl, hb⟩
    replace A0 := A0.later hb
    replace A1 := A1.later hb
    replace A2 := A2.later hb
    replace A3 := A3.later hb
    replace hW := hW.trans (hb.mono hS)
    replace hS := Nat.le_trans hS hb.size
    clear hb
    go_wp2_with fail
    go_ret
    exact ⟨rfl, hW⟩
  replace h0 : 0 < val xs0 := by omega
  by_cases h2 : val xs1 % val xs0 = 0
  case pos =>
    go_enter Try.func12, Try.ntmps12
    go_wp2_with fail
    refine (of_any A0 (by omega)).mono ?_
    rintro e V1 ⟨r2, rfl, l2, q2, n2, hb⟩
    replace A0 := A0.later hb
    replace A1 := A1.later hb
    replace hW := hW.trans (hb.mono hS)
    replace hS := Nat.le_trans hS hb.size
    clear hb
    obtain ⟨ad2, cap2, A2⟩ := q2.arg
    go_wp2_with fail
    refine (of_any A1 (by omega)).mono ?_
    rintro e V2 ⟨r3, rfl, l3, q3, n3, hb⟩
    replace A0 := A0.later hb
    replace A1 := A1.later hb
    replace A2 := A2.later hb
    replace hW := hW.trans (hb.mono hS)
    replace hS := Nat.le_trans hS hb.size
    clear hb
    obtain ⟨ad3, cap3, A3⟩ := q3.arg
    have hp2 : 0 < valD l2 := by rw [q2.eq]; exact h0
    have hl := lenD_pos hp2
    have e2 := A2.is
    subst e2
    go_wp2_with fail
    refine (divD_any A3 A2 (by omega) (by omega) hp2).mono ?_
    rintro e V3 ⟨r4, r5, rfl, hb, ⟨l4, q4, n4⟩, ⟨l5, q5, n5⟩⟩
    replace A0 := A0.later hb
    replace A1 := A1.later hb
    replace A2 := A2.later hb
    replace A3 := A3.later hb
    replace hW := hW.trans (hb.mono hS)
    replace hS := Nat.le_trans hS hb.size
    clear hb
    obtain ⟨ad4, cap4, A4⟩ := q4.arg
    obtain ⟨ad5, cap5, A5⟩ := q5.arg
    have hl5 := lenD_zero q5.wf q5.full (by rw [q5.eq, q2.eq, q3.eq]; exact h2)
    have e5 := A5.is
    subst e5
    go_wp2_with fail
    refine (divides_true A0 A1 (by omega) (by omega) (Int.dvd_of_emod_eq_zero h2)).mono ?_
    rintro e V4 ⟨rfl, hb⟩
    replace A0 := A0.later hb
    replace A1 := A1.later hb
    replace A2 := A2.later hb
    replace A3 := A3.later hb
    replace A4 := A4.later hb
    replace A5 := A5.later hb
    replace hW := hW.trans (hb.mono hS)
    replace hS := Nat.le_trans hS hb.size
    clear hb
    go_wp2_with fail
    refine (known2_any _).mono ?_
    rintro e V5 ⟨rfl, hb⟩
    replace A0 := A0.later hb
    replace A1 := A1.later hb
    replace A2 := A2.later hb
    replace A3 := A3.later hb
    replace A4 := A4.later hb
    replace A5 := A5.later hb
    replace hW := hW.trans (hb.mono hS)
    replace hS := Nat.le_trans hS hb.size
    clear hb
    go_wp2_with fail
    go_ret
    exact ⟨rfl, hW⟩
  go_enter Try.func12, Try.ntmps12
  go_wp2_with fail
  refine (of_any A0 (by omega)).mono ?_
  rintro e V1 ⟨r2, rfl, l2, q2, n2, hb⟩
  replace A0 := A0.later hb
  replace A1 := A1.later hb
  replace hW := hW.trans (hb.mono hS)
  replace hS := Nat.le_trans hS hb.size
  clear hb
  obtain ⟨ad2, cap2, A2⟩ := q2.arg
  go_wp2_with fail
  refine (of_any A1 (by omega)).mono ?_
  rintro e V2 ⟨r3, rfl, l3, q3, n3, hb⟩
  replace A0 := A0.later hb
  replace A1 := A1.later hb
  replace A2 := A2.later hb
  replace hW := hW.trans (hb.mono hS)
  replace hS := Nat.le_trans hS hb.size
  clear hb
  obtain ⟨ad3, cap3, A3⟩ := q3.arg
  have hp2 : 0 < valD l2 := by rw [q2.eq]; exact h0
  have hl := lenD_pos hp2
  have e2 := A2.is
  subst e2
  go_wp2_with fail
  refine (divD_any A3 A2 (by omega) (by omega) hp2).mono ?_
  rintro e V3 ⟨r4, r5, rfl, hb, ⟨l4, q4, n4⟩, ⟨l5, q5, n5⟩⟩
  replace A0 := A0.later hb
  replace A1 := A1.later hb
  replace A2 := A2.later hb
  replace A3 := A3.later hb
  replace hW := hW.trans (hb.mono hS)
  replace hS := Nat.le_trans hS hb.size
  clear hb
  obtain ⟨ad4, cap4, A4⟩ := q4.arg
  obtain ⟨ad5, cap5, A5⟩ := q5.arg
  have hl5 := lenD_pos (show 0 < valD l5 by rw [q5.eq, q2.eq, q3.eq]; have := Int.emod_nonneg (val xs1) (show val xs0 ≠ 0 by omega); omega)
  have e5 := A5.is
  subst e5
  go_wp2_with fail
  refine (divides_false A0 A1 (by omega) (by omega) h2).mono ?_
  rintro e V4 ⟨rfl, hb⟩
  replace A0 := A0.later hb
  replace A1 := A1.later hb
  replace A2 := A2.later hb
  replace A3 := A3.later hb
  replace A4 := A4.later hb
  replace A5 := A5.later hb
  replace hW := hW.trans (hb.mono hS)
  replace hS := Nat.le_trans hS hb.size
  clear hb
  go_wp2_with fail
  refine (known2_any _).mono ?_
  rintro e V5 ⟨rfl, hb⟩
  replace A0 := A0.later hb
  replace A1 := A1.later hb
  replace A2 := A2.later hb
  replace A3 := A3.later hb
  replace A4 := A4.later hb
  replace A5 := A5.later hb
  replace hW := hW.trans (hb.mono hS)
  replace hS := Nat.le_trans hS hb.size
  clear hb
  go_wp2_with fail
  go_ret
  exact ⟨rfl, hW⟩

namespace quoTells
theorem contract (H : Type) (enc : TypeId × Value → H) (W : World) (base : Nat) (args : Array Value) (ds gs : List (DataW H)) (before : List MemPlace)
    (hval : ∀ (j : Nat) t v, Try.f12.params[j]? = some t → args[j]? = some v → Value.okWide Try.prog W .any base t v)
    (hW : DataW.Whole enc Try.prog Try.f12.params.toList Rows.quoTellsSpec.vars false W args.toList ds gs before) :
    Calls Try.prog 12 args W fun e W' => ∃ v, e = .returned v ∧ Rows.quoTellsSpec.post enc Try.prog Try.f12 false true false false W args v W' := by
  have hW' := hW
  have hlt := fun p hp => hW'.lt p hp
  obtain ⟨p, q, hA0, hV, rfl, hfz, hnd⟩ := hW
  have hA : DataW.TrodAll enc Try.prog W 0 (fun _ => true) true Try.f12.params.toList args.toList ds p := hA0
  rw [Try.params12] at hA hval
  obtain ⟨v0, vs0, d0, ds0, p0, q0, ha0, rfl, rfl, h0, r0⟩ := trodAll_cons hA
  obtain ⟨v1, vs1, d1, ds1, p1, q1, ha1, rfl, rfl, h1, r1⟩ := trodAll_cons r0
  obtain ⟨rfl, rfl, rfl⟩ := trodAll_nil r1
  subst ha1
  obtain rfl : args = #[v0, v1] := by cases args; simp_all
  obtain ⟨rfl, rfl⟩ := trodVars_none hV
  clear hA hA0 hV
  simp only [List.append_nil] at hW' hlt
  obtain ⟨ad0, xs0, cap0, A0, n0⟩ := open_nat3 (okWide_slice Try.underlying23 (hval 0 23 v0 rfl rfl)) h0
  obtain ⟨ad1, xs1, cap1, A1, n1⟩ := open_nat3 (okWide_slice Try.underlying23 (hval 1 23 v1 rfl rfl)) h1
  refine (quoTells_walk v0 xs0 ad0 cap0 v1 xs1 ad1 cap1 W A0 n0 A1 n1).mono fun e W' ⟨he, hb⟩ => ?_
  subst he
  have t0 := Below.trod laid (by kernel_rfl) (of_decide_eq_true (by kernel_rfl)) h0 hb (fun x hx => hlt x (by simp [hx]))
  have t1 := Below.trod laid (by kernel_rfl) (of_decide_eq_true (by kernel_rfl)) h1 hb (fun x hx => hlt x (by simp [hx]))
  exact ⟨_, rfl, [d0, d1], [], (p0 ++ p1), [], (p0 ++ (p1 ++ [])), [], hW', trodAll_cons_mk (shut_bool Try.underlying4 _) trodAll_mk0,
    (trodAll_cons_mk t0 (trodAll_cons_mk t1 trodAll_mk0)), rfl, hb.frame _, fun h => by cases h⟩

set_option maxRecDepth 100000 in
theorem lifted (os : Os) (started : os.Started) (H : Type) (enc : TypeId × Value → H) :
    ReturnsInHanded {} Try.checked os 12 .any (Rows.quoTellsSpec.pre6 enc Try.prog Try.f12 Rows.quoTellsRow.domain false) (Rows.quoTellsSpec.post enc Try.prog Try.f12 false true false false) := by
  refine returnsInHanded_of_change (C := Try.checked) own started (by kernel_rfl) Try.func12
    (ChangeSpec.witness6 (enc := enc) (C := Try.checked) false ⟨#[], #[.slice none 0 0, .slice none 0 0], []⟩ 8 (by kernel_rfl) (by kernel_rfl) (by kernel_rfl) (by kernel_rfl)) ?_
  intro W base args ds gs before hval hW _ _
  exact contract H enc W base args ds gs before hval hW

theorem proved : Rows.QuoTellsSaid :=
  OpenClaim.holds_of_wide 12 Try.f12 rfl rfl rfl rfl rfl rfl rfl ⟨rfl, rfl, rfl, rfl, rfl⟩ rfl rfl rfl rfl rfl (by kernel_rfl) Try.func12 (by kernel_rfl)
    (of_decide_eq_true (by kernel_rfl)) (by unfold Func.isWrapper; first | (rw [if_pos (by decide +kernel)]; kernel_rfl) | (rw [if_neg (by decide +kernel)]; exact ⟨rfl, rfl⟩))
    (fun os started H enc _ => lifted os started H enc)
end quoTells
end Go.Proofs.Ytdcdaielfkikhaa
