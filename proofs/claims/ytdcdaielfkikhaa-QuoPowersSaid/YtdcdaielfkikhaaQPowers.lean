/-
  QuoPowers: the law answers true (a natural's powers), and each argument reads behind the call as it read before, whatever the arguments are. No condition.
-/
import Derived.Test.YtdcdaielfkikhaaQLaw0
namespace Go.Proofs.Ytdcdaielfkikhaa
open Go.RowKit Go.ChangeShapes Go.WideShapes Go.ChangeAt
set_option linter.unusedVariables false
set_option linter.unusedSimpArgs false

set_option maxRecDepth 100000 in
set_option maxHeartbeats 8000000 in
theorem quoPowers_walk (u0 : Value) (xs0 : List Int) (ad0 : Option Addr) (cap0 : Nat) (i1 : Int) (w : World) (A0 : Arg w u0 xs0 ad0 cap0) (hn0 : ad0 = none → cap0 = 0) (hi1 : (Lit.int .i64 i1).wf = true) :
    Calls Try.prog 10 #[u0, .int .i64 i1] w fun e w' => e = .returned (.bool true) ∧ Below w.heap.size w w' := by
  have hW : Below w.heap.size w w := Below.refl _ _
  have hS : w.heap.size ≤ w.heap.size := Nat.le_refl _
  have h17 : ((17 : Int) == 17) = true := by decide
  have h00 : ((0 : Int) == 0) = true := by decide
  have hne : ((17 : Int) != 0) = true := by decide
  have hnn : ((0 : Int) != 0) = false := by decide
  have H0 := Lib.hid hn0
  have e0 := A0.is
  subst e0
  clear hn0
  obtain ⟨b0, b1⟩ := wf_i64 hi1
  by_cases g0 : xs0.length ≤ 6
  case neg =>
    have d0 : decide ((6 : Int) < (xs0.length : Int)) = true := decide_eq_true (by omega)
    go_enter Try.func10, Try.ntmps10
    go_wp2_with fail
    refine (known2_any _).mono ?_
    rintro e V1 ⟨rfl, hb⟩
    replace A0 := A0.later hb
    replace hW := hW.trans (hb.mono hS)
    replace hS := Nat.le_trans hS hb.size
    clear hb
    go_wp2_with fail
    go_ret
    exact ⟨rfl, hW⟩
  by_cases g1 : i1 ≤ 40
  case neg =>
    have d0 : decide ((6 : Int) < (xs0.length : Int)) = false := decide_eq_false (by omega)
    have d1 : decide ((40 : Int) < i1) = true := decide_eq_true (by omega)
    go_enter Try.func10, Try.ntmps10
    go_wp2_with fail
    refine (known2_any _).mono ?_
    rintro e V1 ⟨rfl, hb⟩
    replace A0 := A0.later hb
    replace hW := hW.trans (hb.mono hS)
    replace hS := Nat.le_trans hS hb.size
    clear hb
    go_wp2_with fail
    go_ret
    exact ⟨rfl, hW⟩
  have d0 : decide ((6 : Int) < (xs0.length : Int)) = false := decide_eq_false (by omega)
  have d1 : decide ((40 : Int) < i1) = false := decide_eq_false (by omega)
  have hm : xs0.length * i1.toNat ≤ 6 * 40 := Nat.mul_le_mul (by omega) (by omega)
  go_enter Try.func10, Try.ntmps10
  go_wp2_with fail
  refine (pow_any i1 A0 (by omega) ⟨by omega, by omega⟩).mono ?_
  rintro e V1 ⟨r2, l2, rfl, q2, n2, hb⟩
  replace A0 := A0.later hb
  replace hW := hW.trans (hb.mono hS)
  replace hS := Nat.le_trans hS hb.size
  clear hb
  obtain ⟨ad2, cap2, A2⟩ := q2.arg
  go_wp2_with fail
  refine (of_any A0 (by omega)).mono ?_
  rintro e V2 ⟨r3, rfl, l3, q3, n3, hb⟩
  replace A0 := A0.later hb
  replace A2 := A2.later hb
  replace hW := hW.trans (hb.mono hS)
  replace hS := Nat.le_trans hS hb.size
  clear hb
  obtain ⟨ad3, cap3, A3⟩ := q3.arg
  go_wp2_with fail
  refine (powD_any i1 A3 (by omega) (by omega)).mono ?_
  rintro e V3 ⟨r4, rfl, l4, q4, n4, hb⟩
  replace A0 := A0.later hb
  replace A2 := A2.later hb
  replace A3 := A3.later hb
  replace hW := hW.trans (hb.mono hS)
  replace hS := Nat.le_trans hS hb.size
  clear hb
  obtain ⟨ad4, cap4, A4⟩ := q4.arg
  go_wp2_with fail
  refine (is2_any A2 A4 (by omega) (by omega) q2.full (by rw [q2.eq, q4.eq, q3.eq])).mono ?_
  rintro e V4 ⟨rfl, hb⟩
  replace A0 := A0.later hb
  replace A2 := A2.later hb
  replace A3 := A3.later hb
  replace A4 := A4.later hb
  replace hW := hW.trans (hb.mono hS)
  replace hS := Nat.le_trans hS hb.size
  clear hb
  go_wp2_with fail
  refine (known2_any _).mono ?_
  rintro e V5 ⟨rfl, hb⟩
  replace A0 := A0.later hb
  replace A2 := A2.later hb
  replace A3 := A3.later hb
  replace A4 := A4.later hb
  replace hW := hW.trans (hb.mono hS)
  replace hS := Nat.le_trans hS hb.size
  clear hb
  go_wp2_with fail
  go_ret
  exact ⟨rfl, hW⟩

namespace quoPowers
theorem contract (H : Type) (enc : TypeId × Value → H) (W : World) (base : Nat) (args : Array Value) (ds gs : List (DataW H)) (before : List MemPlace)
    (hval : ∀ (j : Nat) t v, Try.f10.params[j]? = some t → args[j]? = some v → Value.okWide Try.prog W .any base t v)
    (hW : DataW.Whole enc Try.prog Try.f10.params.toList Rows.quoPowersSpec.vars false W args.toList ds gs before) :
    Calls Try.prog 10 args W fun e W' => ∃ v, e = .returned v ∧ Rows.quoPowersSpec.post enc Try.prog Try.f10 false true false false W args v W' := by
  have hW' := hW
  have hlt := fun p hp => hW'.lt p hp
  obtain ⟨p, q, hA0, hV, rfl, hfz, hnd⟩ := hW
  have hA : DataW.TrodAll enc Try.prog W 0 (fun _ => true) true Try.f10.params.toList args.toList ds p := hA0
  rw [Try.params10] at hA hval
  obtain ⟨v0, vs0, d0, ds0, p0, q0, ha0, rfl, rfl, h0, r0⟩ := trodAll_cons hA
  obtain ⟨v1, vs1, d1, ds1, p1, q1, ha1, rfl, rfl, h1, r1⟩ := trodAll_cons r0
  obtain ⟨rfl, rfl, rfl⟩ := trodAll_nil r1
  subst ha1
  obtain rfl : args = #[v0, v1] := by cases args; simp_all
  obtain ⟨rfl, rfl⟩ := trodVars_none hV
  clear hA hA0 hV
  obtain ⟨a1, rfl, rfl, rfl, w1⟩ := open_int Try.underlying3 (hval 1 3 v1 rfl rfl) h1
  simp only [List.append_nil] at hW' hlt
  obtain ⟨ad0, xs0, cap0, A0, n0⟩ := open_nat3 (okWide_slice Try.underlying23 (hval 0 23 v0 rfl rfl)) h0
  refine (quoPowers_walk v0 xs0 ad0 cap0 a1 W A0 n0 w1).mono fun e W' ⟨he, hb⟩ => ?_
  subst he
  have t0 := Below.trod laid (by kernel_rfl) (of_decide_eq_true (by kernel_rfl)) h0 hb (fun x hx => hlt x (by simp [hx]))
  exact ⟨_, rfl, [d0, .lit (.int .i64 a1)], [], p0, [], (p0 ++ ([] ++ [])), [], hW', trodAll_cons_mk (shut_bool Try.underlying4 _) trodAll_mk0,
    (trodAll_cons_mk t0 (trodAll_cons_mk (shut_int Try.underlying3 w1) trodAll_mk0)), rfl, hb.frame _, fun h => by cases h⟩

set_option maxRecDepth 100000 in
theorem lifted (os : Os) (started : os.Started) (H : Type) (enc : TypeId × Value → H) :
    ReturnsInHanded {} Try.checked os 10 .any (Rows.quoPowersSpec.pre6 enc Try.prog Try.f10 Rows.quoPowersRow.domain false) (Rows.quoPowersSpec.post enc Try.prog Try.f10 false true false false) := by
  refine returnsInHanded_of_change (C := Try.checked) own started (by kernel_rfl) Try.func10
    (ChangeSpec.witness6 (enc := enc) (C := Try.checked) false ⟨#[], #[.slice none 0 0, .int .i64 0], []⟩ 8 (by kernel_rfl) (by kernel_rfl) (by kernel_rfl) (by kernel_rfl)) ?_
  intro W base args ds gs before hval hW _ _
  exact contract H enc W base args ds gs before hval hW

theorem proved : Rows.QuoPowersSaid :=
  OpenClaim.holds_of_wide 10 Try.f10 rfl rfl rfl rfl rfl rfl rfl ⟨rfl, rfl, rfl, rfl, rfl⟩ rfl rfl rfl rfl rfl (by kernel_rfl) Try.func10 (by kernel_rfl)
    (of_decide_eq_true (by kernel_rfl)) (by unfold Func.isWrapper; first | (rw [if_pos (by decide +kernel)]; kernel_rfl) | (rw [if_neg (by decide +kernel)]; exact ⟨rfl, rfl⟩))
    (fun os started H enc _ => lifted os started H enc)
end quoPowers
end Go.Proofs.Ytdcdaielfkikhaa
