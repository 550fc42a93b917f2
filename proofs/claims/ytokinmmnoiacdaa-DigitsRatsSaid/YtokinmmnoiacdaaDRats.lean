/-
  DigitsRats: the law answers true (the text of any rational, in whatever form it comes), and each argument reads behind the call as it read before, whatever the arguments are. No condition.
-/
import Derived.Test.YtokinmmnoiacdaaDLaw0
namespace Go.Proofs.Ytokinmmnoiacdaa
open Go.RowKit Go.ChangeShapes Go.WideShapes Go.ChangeAt
set_option linter.unusedVariables false
set_option linter.unusedSimpArgs false
set_option maxRecDepth 100000

set_option maxRecDepth 100000 in
set_option maxHeartbeats 8000000 in
theorem digitsRats_walk (neg0 : Bool) (xs0 ds0 : List Int) (a0 b0 : Option Addr) (ca0 cb0 : Nat) (w : World) (A0 : Arg w (.slice a0 xs0.length ca0) xs0 a0 ca0) (B0 : Arg w (.slice b0 ds0.length cb0) ds0 b0 cb0) :
    Calls Try.prog 5 #[.agg #[.bool neg0, .slice a0 xs0.length ca0, .slice b0 ds0.length cb0]] w fun e w' => e = .returned (.bool true) ∧ Below w.heap.size w w' := by
  obtain ⟨W, hW⟩ : ∃ W, (w.alloc (.cells #[.bool neg0, .slice a0 xs0.length ca0, .slice b0 ds0.length cb0] 40)) = W := ⟨_, rfl⟩
  have R0 : Row W (w.heap.size) 40 #[.bool neg0, .slice a0 xs0.length ca0, .slice b0 ds0.length cb0] := by rw [← hW]; exact (Row.new _ _ _)
  have hBW : Below w.heap.size w W := by rw [← hW]; exact ((Below.refl _ _).alloc (by (try simp) <;> omega) _)
  have hsW : w.heap.size + 1 ≤ W.heap.size := by rw [← hW]; simp
  obtain ⟨p0, p1, p2, _, _, _⟩ := R0.three
  by_cases g0 : xs0.length ≤ 12
  case neg =>
    have d0 : decide ((12 : Int) < (xs0.length : Int)) = true := decide_eq_true (by omega)
    go_enter Try.func5, Try.ntmps5
    go_wp2_with fail
    refine (known4_any _).mono ?_
    rintro e VK ⟨rfl, hbk⟩
    go_wp2_with fail
    go_ret
    exact ⟨rfl, hBW.trans (hbk.mono (by omega))⟩
  by_cases g1 : ds0.length ≤ 12
  case neg =>
    have d0 : decide ((12 : Int) < (xs0.length : Int)) = false := decide_eq_false (by omega)
    have d1 : decide ((12 : Int) < (ds0.length : Int)) = true := decide_eq_true (by omega)
    go_enter Try.func5, Try.ntmps5
    go_wp2_with fail
    refine (known4_any _).mono ?_
    rintro e VK ⟨rfl, hbk⟩
    go_wp2_with fail
    go_ret
    exact ⟨rfl, hBW.trans (hbk.mono (by omega))⟩
  have d0 : decide ((12 : Int) < (xs0.length : Int)) = false := decide_eq_false (by omega)
  have d1 : decide ((12 : Int) < (ds0.length : Int)) = false := decide_eq_false (by omega)
  obtain ⟨X0, hX0⟩ : ∃ X, ratOf neg0 (val xs0) (val ds0) = X := ⟨_, rfl⟩
  have Q0 : ArgQ w (.agg #[.bool neg0, .slice a0 xs0.length ca0, .slice b0 ds0.length cb0]) X0 12 := ⟨neg0, xs0, ds0, a0, b0, ca0, cb0, rfl, A0, B0, hX0, by omega, by omega⟩
  have Q0W := Q0.later hBW
  clear Q0 hX0
  go_enter Try.func5, Try.ntmps5
  go_wp2_with fail
  clear hW p0 p1 p2
  have lt_R0 := R0.lt
  have mkS : ∀ X, Kept (W.heap.size) W X → X.cell? ⟨w.heap.size, 0, none⟩ = some (.bool neg0) ∧ X.cell? ⟨w.heap.size, 1, none⟩ = some (.slice a0 xs0.length ca0) ∧ X.cell? ⟨w.heap.size, 2, none⟩ = some (.slice b0 ds0.length cb0) ∧ Kept (W.heap.size) W X := fun X h => ⟨(R0.kept h (by omega)).cell 0, (R0.kept h (by omega)).cell 1, (R0.kept h (by omega)).cell 2, h⟩
  go_region_held3 (fun X => X.cell? ⟨w.heap.size, 0, none⟩ = some (.bool neg0) ∧ X.cell? ⟨w.heap.size, 1, none⟩ = some (.slice a0 xs0.length ca0) ∧ X.cell? ⟨w.heap.size, 2, none⟩ = some (.slice b0 ds0.length cb0) ∧ Kept (W.heap.size) W X)
    (((refine mkS _ ?_; (repeat' (first | exact Kept.refl _ _ | refine Kept.drew ?_ | refine Kept.alloc ?_ _ | refine Kept.set ?_ _ _ | refine Kept.below ?_ (by assumption))))))
    ((first
      | (go_at_call 12; have hprev := hbv3; clear hprev; (with_reducible refine (known4_any _).mono ?_); rintro e v4 ⟨rfl, hbv4⟩; have hsv4 := hbv4.size; (try simp at hsv4); skip)
      | (go_at_call 21; have hprev := hbv2; clear hprev; (with_reducible refine (ratD_any q2 (by omega)).mono ?_); rintro e v3 ⟨s3, rfl, hs3, hbv3⟩; have hsv3 := hbv3.size; (try simp at hsv3); have hq : (s1.toList == s3.toList) = true := (by rw [ByteArray.toList_eq, ByteArray.toList_eq, H1.out, hs3]; simp); clear hs3; skip)
      | (go_at_call 22; have hprev := hbv1; clear hprev; (with_reducible refine (ofR_any (Q0W.later (show Below W.heap.size W _ by (repeat' (first | exact Below.refl _ _ | refine Below.drew ?_ | refine Below.alloc ?_ (by (try simp) <;> omega) _ | refine below_set3 ?_ (by (try simp) <;> omega) _ _ _ | refine below_set2 ?_ (by (try simp) <;> omega) _ _ | refine Below.setCell ?_ (by (try simp) <;> omega) _ | refine Below.trans ?_ (Below.mono (by assumption) (by (try simp) <;> omega)))))) (by omega)).mono ?_); rintro e v2 ⟨r2, rfl, q2, hbv2⟩; have hsv2 := hbv2.size; (try simp at hsv2); skip)
      | (go_at_call 20; (with_reducible refine (rat4_any (Q0W.later (show Below W.heap.size W _ by (repeat' (first | exact Below.refl _ _ | refine Below.drew ?_ | refine Below.alloc ?_ (by (try simp) <;> omega) _ | refine below_set3 ?_ (by (try simp) <;> omega) _ _ _ | refine below_set2 ?_ (by (try simp) <;> omega) _ _ | refine Below.setCell ?_ (by (try simp) <;> omega) _ | refine Below.trans ?_ (Below.mono (by assumption) (by (try simp) <;> omega)))))) (by omega)).mono ?_); rintro e v1 ⟨s1, rfl, hs1, hm1, hbv1⟩; have hsv1 := hbv1.size; (try simp at hsv1); have H1 := Lib.hid hs1; clear hs1; skip)))
  go_wp2_with fail
  go_ret
  exact ⟨rfl, hBW.trans ((show Below W.heap.size W _ by (repeat' (first | exact Below.refl _ _ | refine Below.drew ?_ | refine Below.alloc ?_ (by (try simp) <;> omega) _ | refine below_set3 ?_ (by (try simp) <;> omega) _ _ _ | refine below_set2 ?_ (by (try simp) <;> omega) _ _ | refine Below.setCell ?_ (by (try simp) <;> omega) _ | refine Below.trans ?_ (Below.mono (by assumption) (by (try simp) <;> omega))))).mono (by omega))⟩

namespace digitsRats
theorem contract (H : Type) (enc : TypeId × Value → H) (W : World) (base : Nat) (args : Array Value) (ds gs : List (DataW H)) (before : List MemPlace)
    (hval : ∀ (j : Nat) t v, Try.f5.params[j]? = some t → args[j]? = some v → Value.okWide Try.prog W .any base t v)
    (hW : DataW.Whole enc Try.prog Try.f5.params.toList Rows.digitsRatsSpec.vars false W args.toList ds gs before) :
    Calls Try.prog 5 args W fun e W' => ∃ v, e = .returned v ∧ Rows.digitsRatsSpec.post enc Try.prog Try.f5 false true false false W args v W' := by
  have hW' := hW
  have hlt := fun p hp => hW'.lt p hp
  obtain ⟨p, q, hA0, hV, rfl, hfz, hnd⟩ := hW
  have hA : DataW.TrodAll enc Try.prog W 0 (fun _ => true) true Try.f5.params.toList args.toList ds p := hA0
  rw [Try.params5] at hA hval
  obtain ⟨v0, vs0, d0, ds0, p0, q0, ha0, rfl, rfl, h0, r0⟩ := trodAll_cons hA
  obtain ⟨rfl, rfl, rfl⟩ := trodAll_nil r0
  obtain rfl : args = #[v0] := by cases args; simp_all
  obtain ⟨rfl, rfl⟩ := trodVars_none hV
  clear hA hA0 hV
  simp only [List.append_nil] at hW' hlt
  obtain ⟨neg0, xs0, ys0, a0, b0, ca0, cb0, rfl, A0, B0⟩ := open_rat3 (hval 0 40 v0 rfl rfl) h0
  refine (digitsRats_walk neg0 xs0 ys0 a0 b0 ca0 cb0 W A0 B0).mono fun e W' ⟨he, hb⟩ => ?_
  subst he
  have t0 := Below.trod laid (by kernel_rfl) (of_decide_eq_true (by kernel_rfl)) h0 hb (fun x hx => hlt x (by simp [hx]))
  exact ⟨_, rfl, [d0], [], p0, [], (p0 ++ []), [], hW', trodAll_cons_mk (shut_bool Try.underlying4 _) trodAll_mk0,
    (trodAll_cons_mk t0 trodAll_mk0), rfl, hb.frame _, fun h => by cases h⟩

set_option maxRecDepth 100000 in
theorem lifted (os : Os) (started : os.Started) (H : Type) (enc : TypeId × Value → H) :
    ReturnsInHanded {} Try.checked os 5 .any (Rows.digitsRatsSpec.pre6 enc Try.prog Try.f5 Rows.digitsRatsRow.domain false) (Rows.digitsRatsSpec.post enc Try.prog Try.f5 false true false false) := by
  refine returnsInHanded_of_change (C := Try.checked) own started (by kernel_rfl) Try.func5
    (ChangeSpec.witness6 (enc := enc) (C := Try.checked) false ⟨#[], #[.agg #[.bool false, .slice none 0 0, .slice none 0 0]], []⟩ 8 (by kernel_rfl) (by kernel_rfl) (by kernel_rfl) (by kernel_rfl)) ?_
  intro W base args ds gs before hval hW _ _
  exact contract H enc W base args ds gs before hval hW

theorem proved : Rows.DigitsRatsSaid :=
  OpenClaim.holds_of_wide 5 Try.f5 rfl rfl rfl rfl rfl rfl rfl ⟨rfl, rfl, rfl, rfl, rfl⟩ rfl rfl rfl rfl rfl (by kernel_rfl) Try.func5 (by kernel_rfl)
    (of_decide_eq_true (by kernel_rfl)) (by unfold Func.isWrapper; first | (rw [if_pos (by decide +kernel)]; kernel_rfl) | (rw [if_neg (by decide +kernel)]; exact ⟨rfl, rfl⟩))
    (fun os started H enc _ => lifted os started H enc)
end digitsRats
end Go.Proofs.Ytokinmmnoiacdaa
