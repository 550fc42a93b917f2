/-
  RatFracs, the law answers true (the rational of any number of Go's, and of any one by any other one), and each argument reads behind the call as it read before, whatever the arguments are. No condition.
-/
import Derived.Test.YtofiebilokhccaaRLaw0
import Derived.Test.YtofiebilokhccaaRKnown
import Derived.Deep.DeepCutAuto
namespace Go.Proofs.Ytofiebilokhccaa
open Go.RowKit Go.ChangeShapes Go.WideShapes Go.ChangeAt
set_option linter.unusedVariables false
set_option linter.unusedSimpArgs false
set_option maxRecDepth 100000

set_option maxRecDepth 100000 in
set_option maxHeartbeats 8000000 in
theorem ratFracs_walk (i0 : Int) (i1 : Int) (w : World) (lo0 : -9223372036854775808 ≤ i0) (hi0 : i0 ≤ 9223372036854775807) (lo1 : -9223372036854775808 ≤ i1) (hi1 : i1 ≤ 9223372036854775807) :
    Calls Try.prog 5 #[.int .i64 i0, .int .i64 i1] w fun e w' => e = .returned (.bool true) ∧ Below w.heap.size w w' := by
  by_cases h0 : i1 = 0
  · have hq : i1 = 0 := h0
    subst hq
    have e0 : ((0 : Int) == 0) = true := by decide
    have e17 : ((17 : Int) == 17) = true := by decide
    go_enter Try.func5, Try.ntmps5
    go_wp2_with fail
    refine (frac_zero i0 _ lo0 hi0).mono ?_
    rintro e V1 ⟨rfl, hB1⟩
    have hs1 := hB1.size
    have hBU1 : Below V1.heap.size V1 (V1.alloc (.cells #[.bool false, .slice none 0 0, .slice none 0 0] 25)) := (Below.refl _ _).alloc (Nat.le_refl _) _
    have R1 : Row (V1.alloc (.cells #[.bool false, .slice none 0 0, .slice none 0 0] 25)) V1.heap.size 25 #[.bool false, .slice none 0 0, .slice none 0 0] := Row.new _ _ _
    have hsU := hBU1.size
    obtain ⟨p0, p1, p2, _, _, _⟩ := R1.three
    go_wp2_with fail
    refine (intR_any i0 _ lo0 hi0).mono ?_
    rintro e V2 ⟨r2, rfl, h2, hb2⟩
    have hs2 := hb2.size
    go_wp2_with fail
    refine (int_any i0 _ lo0 hi0).mono ?_
    rintro e V3 ⟨r3, rfl, h3, hb3⟩
    have hs3 := hb3.size
    go_wp2_with fail
    refine (isR_true (h2.later hb3) h3 (by omega) (by omega)).mono ?_
    rintro e V4 ⟨rfl, hb4⟩
    have hs4 := hb4.size
    have R4 := ((R1.later hb2).later hb3).later hb4
    have hB4 : Below w.heap.size w V4 := (((hB1.trans (hBU1.mono (by omega))).trans (hb2.mono (by omega))).trans (hb3.mono (by omega))).trans (hb4.mono (by omega))
    clear p0 p1 p2
    obtain ⟨q0, q1, q2, _, _, _⟩ := R4.three
    go_wp2_with fail
    refine (known3_any _).mono ?_
    rintro e V5 ⟨rfl, hb5⟩
    go_wp2_with fail
    go_ret
    exact ⟨rfl, hB4.trans (hb5.mono (by omega))⟩
  · have e1 : (i1 == 0) = false := by simpa using h0
    have e0 : ((0 : Int) == 0) = true := by decide
    go_enter Try.func5, Try.ntmps5
    go_wp2_with fail
    refine (frac_any i0 i1 _ lo0 hi0 lo1 hi1 h0).mono ?_
    rintro e V1 ⟨r1, rfl, q1, hB1⟩
    have hs1 := hB1.size
    obtain ⟨m1, fs1, gs1, f1, g1, j1, k1, rfl⟩ := q1.arg.box
    obtain ⟨U1, hU1⟩ : ∃ U, V1.alloc (.cells #[.bool m1, .slice f1 fs1.length j1, .slice g1 gs1.length k1] 25) = U := ⟨_, rfl⟩
    have hBU1 : Below V1.heap.size V1 U1 := by rw [← hU1]; exact (Below.refl _ _).alloc (Nat.le_refl _) _
    have R1 : Row U1 V1.heap.size 25 #[.bool m1, .slice f1 fs1.length j1, .slice g1 gs1.length k1] := by rw [← hU1]; exact Row.new _ _ _
    have hsU := hBU1.size
    have q2 := q1.later hBU1
    obtain ⟨p0, p1, p2, _, _, _⟩ := R1.three
    go_wp2_with fail
    refine (intR_any i0 _ lo0 hi0).mono ?_
    rintro e V2 ⟨r2, rfl, h2, hb2⟩
    have hs2 := hb2.size
    go_wp2_with fail
    refine (int_any i0 _ lo0 hi0).mono ?_
    rintro e V3 ⟨r3, rfl, h3, hb3⟩
    have hs3 := hb3.size
    go_wp2_with fail
    refine (isR_true (h2.later hb3) h3 (by omega) (by omega)).mono ?_
    rintro e V4 ⟨rfl, hb4⟩
    have hs4 := hb4.size
    have R4 := ((R1.later hb2).later hb3).later hb4
    have hB4 : Below w.heap.size w V4 := (((hB1.trans (hBU1.mono (by omega))).trans (hb2.mono (by omega))).trans (hb3.mono (by omega))).trans (hb4.mono (by omega))
    clear hU1 p0 p1 p2
    have q4 := ((q2.later hb2).later hb3).later hb4
    clear q1 q2 h2 h3 hb2 hb3 hb4 R1 hBU1 hB1
    go_wp2_with fail
    have lt_R4 := R4.lt
    have mkS : ∀ X, Kept (V4.heap.size) V4 X → X.cell? ⟨V1.heap.size, 0, none⟩ = some (.bool m1) ∧ X.cell? ⟨V1.heap.size, 1, none⟩ = some (.slice f1 fs1.length j1) ∧ X.cell? ⟨V1.heap.size, 2, none⟩ = some (.slice g1 gs1.length k1) ∧ Kept (V4.heap.size) V4 X := fun X h => ⟨(R4.kept h (by omega)).cell 0, (R4.kept h (by omega)).cell 1, (R4.kept h (by omega)).cell 2, h⟩
    go_region_held3 (fun X => X.cell? ⟨V1.heap.size, 0, none⟩ = some (.bool m1) ∧ X.cell? ⟨V1.heap.size, 1, none⟩ = some (.slice f1 fs1.length j1) ∧ X.cell? ⟨V1.heap.size, 2, none⟩ = some (.slice g1 gs1.length k1) ∧ Kept (V4.heap.size) V4 X)
      (((refine mkS _ ?_; (repeat' (first | exact Kept.refl _ _ | refine Kept.drew ?_ | refine Kept.alloc ?_ _ | refine Kept.set ?_ _ _ | refine Kept.below ?_ (by assumption))))))
      ((first
        | (go_at_call 18; have hprev := hbw2; clear hprev; (with_reducible refine (known3_any _).mono ?_); rintro e w3 ⟨rfl, hbw3⟩; have hsw3 := hbw3.size; (try simp at hsw3); skip)
        | (go_at_call 16; have hprev := hbw1; clear hprev; (with_reducible refine (isR_true qw1 (q4.later (show Below V4.heap.size V4 _ by (repeat' (first | exact Below.refl _ _ | refine Below.drew ?_ | refine Below.alloc ?_ (by (try simp) <;> omega) _ | refine below_set3 ?_ (by (try simp) <;> omega) _ _ _ | refine below_set2 ?_ (by (try simp) <;> omega) _ _ | refine Below.setCell ?_ (by (try simp) <;> omega) _ | refine Below.trans ?_ (Below.mono (by assumption) (by (try simp) <;> omega)))))) (by omega) (by omega)).mono ?_); rintro e w2 ⟨rfl, hbw2⟩; have hsw2 := hbw2.size; (try simp at hsw2); skip)
        | (go_at_call 26; (with_reducible refine (fracR_any i0 i1 _ lo0 hi0 lo1 hi1).mono ?_); rintro e w1 ⟨r1, rfl, qw1, hbw1⟩; have hsw1 := hbw1.size; (try simp at hsw1); skip)))
    go_wp2_with fail
    go_ret
    exact ⟨rfl, hB4.trans ((show Below V4.heap.size V4 _ by (repeat' (first | exact Below.refl _ _ | refine Below.drew ?_ | refine Below.alloc ?_ (by (try simp) <;> omega) _ | refine below_set3 ?_ (by (try simp) <;> omega) _ _ _ | refine below_set2 ?_ (by (try simp) <;> omega) _ _ | refine Below.setCell ?_ (by (try simp) <;> omega) _ | refine Below.trans ?_ (Below.mono (by assumption) (by (try simp) <;> omega))))).mono (by omega))⟩

namespace ratFracs
theorem contract (H : Type) (enc : TypeId × Value → H) (W : World) (base : Nat) (args : Array Value) (ds gs : List (DataW H)) (before : List MemPlace)
    (hval : ∀ (j : Nat) t v, Try.f5.params[j]? = some t → args[j]? = some v → Value.okWide Try.prog W .any base t v)
    (hW : DataW.Whole enc Try.prog Try.f5.params.toList Rows.ratFracsSpec.vars false W args.toList ds gs before) :
    Calls Try.prog 5 args W fun e W' => ∃ v, e = .returned v ∧ Rows.ratFracsSpec.post enc Try.prog Try.f5 false true false false W args v W' := by
  have hW' := hW
  have hlt := fun p hp => hW'.lt p hp
  obtain ⟨p, q, hA0, hV, rfl, hfz, hnd⟩ := hW
  have hA : DataW.TrodAll enc Try.prog W 0 (fun _ => true) true Try.f5.params.toList args.toList ds p := hA0
  rw [Try.params5] at hA hval
  obtain ⟨v0, vs0, d0, ds0, p0, q0, ha0, rfl, rfl, h0, r0⟩ := trodAll_cons hA
  obtain ⟨v1, vs1, d1, ds1, p1, q1, ha1, rfl, rfl, h1, r1⟩ := trodAll_cons r0
  obtain ⟨rfl, rfl, rfl⟩ := trodAll_nil r1
  subst ha1
  obtain rfl : args = #[v0, v1] := by cases args; simp_all
  obtain ⟨rfl, rfl⟩ := trodVars_none hV
  clear hA hA0 hV
  obtain ⟨i0, rfl, rfl, rfl, w0⟩ := open_int Try.underlying2 (hval 0 2 v0 rfl rfl) h0
  obtain ⟨i1, rfl, rfl, rfl, w1⟩ := open_int Try.underlying2 (hval 1 2 v1 rfl rfl) h1
  simp only [List.append_nil] at hW' hlt
  (try simp only [List.nil_append] at hW' hlt)
  refine (ratFracs_walk i0 i1 W (wf_i64 w0).1 (wf_i64 w0).2 (wf_i64 w1).1 (wf_i64 w1).2).mono fun e W' ⟨he, hb⟩ => ?_
  subst he
  exact ⟨_, rfl, [.lit (.int .i64 i0), .lit (.int .i64 i1)], [], [], [], ([] ++ ([] ++ [])), [], hW', trodAll_cons_mk (shut_bool Try.underlying4 _) trodAll_mk0,
    (trodAll_cons_mk (shut_int Try.underlying2 w0) (trodAll_cons_mk (shut_int Try.underlying2 w1) trodAll_mk0)), rfl, hb.frame _, fun h => by cases h⟩

set_option maxRecDepth 100000 in
theorem lifted (os : Os) (started : os.Started) (H : Type) (enc : TypeId × Value → H) :
    ReturnsInHanded {} Try.checked os 5 .any (Rows.ratFracsSpec.pre6 enc Try.prog Try.f5 Rows.ratFracsRow.domain false) (Rows.ratFracsSpec.post enc Try.prog Try.f5 false true false false) := by
  refine returnsInHanded_of_change (C := Try.checked) own started (by kernel_rfl) Try.func5
    (ChangeSpec.witness6 (enc := enc) (C := Try.checked) false ⟨#[], #[.int .i64 0, .int .i64 0], []⟩ 8 (by kernel_rfl) (by kernel_rfl) (by kernel_rfl) (by kernel_rfl)) ?_
  intro W base args ds gs before hval hW _ _
  exact contract H enc W base args ds gs before hval hW

theorem proved : Rows.RatFracsSaid :=
  OpenClaim.holds_of_wide 5 Try.f5 rfl rfl rfl rfl rfl rfl rfl ⟨rfl, rfl, rfl, rfl, rfl⟩ rfl rfl rfl rfl rfl (by kernel_rfl) Try.func5 (by kernel_rfl)
    (of_decide_eq_true (by kernel_rfl)) (by unfold Func.isWrapper; first | (rw [if_pos (by decide +kernel)]; kernel_rfl) | (rw [if_neg (by decide +kernel)]; exact ⟨rfl, rfl⟩))
    (fun os started H enc _ => lifted os started H enc)
end ratFracs
end Go.Proofs.Ytofiebilokhccaa
