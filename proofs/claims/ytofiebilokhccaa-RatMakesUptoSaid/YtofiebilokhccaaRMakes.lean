/-
  RatMakes, for arguments that hold together at most 1048576 values: the law answers true (the rational of any sign, and any two numbers, or that there is none), and each argument reads behind the call as it read before. No other condition.
-/
import Derived.Test.YtofiebilokhccaaRLaw0
import Derived.Test.YtofiebilokhccaaRKnown
import Derived.Deep.DeepCutAuto
namespace Go.Proofs.Ytofiebilokhccaa
open Go.RowKit Go.ChangeShapes Go.WideShapes Go.ChangeAt
set_option linter.unusedVariables false
set_option linter.unusedSimpArgs false
set_option maxRecDepth 100000

set_option maxRecDepth 100000 in
set_option maxHeartbeats 8000000 in
theorem ratMakes_walk (b0 : Bool) (xs1 : List Int) (a1 : Option Addr) (ca1 : Nat) (xs2 : List Int) (a2 : Option Addr) (ca2 : Nat) (w : World) (A1 : Arg w (.slice a1 xs1.length ca1) xs1 a1 ca1) (lx1 : xs1.length ≤ 1048576) (nx1 : a1 = none → ca1 = 0) (A2 : Arg w (.slice a2 xs2.length ca2) xs2 a2 ca2) (lx2 : xs2.length ≤ 1048576) (nx2 : a2 = none → ca2 = 0) :
    Calls Try.prog 4 #[.bool b0, .slice a1 xs1.length ca1, .slice a2 xs2.length ca2] w fun e w' => e = .returned (.bool true) ∧ Below w.heap.size w w' := by
  by_cases h0 : val xs2 = 0
  · have e17 : ((17 : Int) == 17) = true := by decide
    have e0 : ((0 : Int) == 0) = true := by decide
    have NX := Lib.hid nx1
    have NY := Lib.hid nx2
    clear nx1 nx2
    go_enter Try.func4, Try.ntmps4
    go_wp2_with fail
    refine (own_any A1 (by omega) NX.out).mono ?_
    rintro e W1 ⟨r1, rfl, _, y1, k1, O1, _, hb1⟩
    have hs1 := hb1.size
    have eo1 := O1.is
    subst eo1
    have A1a := A1.later hb1
    have A2a := A2.later hb1
    go_wp2_with fail
    refine (own_any A2a (by omega) NY.out).mono ?_
    rintro e W2 ⟨r2, rfl, _, y2, k2, O2, _, hb2⟩
    have hs2 := hb2.size
    have eo2 := O2.is
    subst eo2
    have A1b := A1a.later hb2
    have A2b := A2a.later hb2
    have O1b := O1.later hb2
    have hB2 : Below w.heap.size w W2 := hb1.trans (hb2.mono hs1)
    go_wp2_with fail
    refine (make_zero (m1 := b0) (n := 0) (xs := xs1) O2 (by omega) h0).mono ?_
    rintro e V1 ⟨rfl, hb3⟩
    have hs3 := hb3.size
    have hBU1 : Below V1.heap.size V1 (V1.alloc (.cells #[.bool false, .slice none 0 0, .slice none 0 0] 25)) := (Below.refl _ _).alloc (Nat.le_refl _) _
    have R1 : Row (V1.alloc (.cells #[.bool false, .slice none 0 0, .slice none 0 0] 25)) V1.heap.size 25 #[.bool false, .slice none 0 0, .slice none 0 0] := Row.new _ _ _
    have hsU := hBU1.size
    have hB3 : Below W2.heap.size W2 (V1.alloc (.cells #[.bool false, .slice none 0 0, .slice none 0 0] 25)) := hb3.trans (hBU1.mono hs3)
    obtain ⟨p0, p1, p2, _, _, _⟩ := R1.three
    go_wp2_with fail
    refine (of_any (A2b.later hB3) (by omega)).mono ?_
    rintro e V4 ⟨r4, rfl, z4, q4, l4, hb4⟩
    have hs4 := hb4.size
    obtain ⟨ad4, cp4, rfl, q4, D4⟩ := q4.slice
    have hl := lenD_zero q4.wf q4.full (q4.eq.trans h0)
    clear p0 p1 p2
    obtain ⟨p0, p1, p2, _, _, _⟩ := (R1.later hb4).three
    go_wp2_with fail
    refine (known3_any _).mono ?_
    rintro e V5 ⟨rfl, hb5⟩
    go_wp2_with fail
    go_ret
    exact ⟨rfl, ((hB2.trans (hB3.mono (by omega))).trans (hb4.mono (by omega))).trans (hb5.mono (by omega))⟩
  · have hp : 0 < val xs2 := by have := val_nonneg A2.wf; omega
    have e0 : ((0 : Int) == 0) = true := by decide
    have NX := Lib.hid nx1
    have NY := Lib.hid nx2
    clear nx1 nx2
    go_enter Try.func4, Try.ntmps4
    go_wp2_with fail
    refine (own_any A1 (by omega) NX.out).mono ?_
    rintro e W1 ⟨r1, rfl, _, y1, k1, O1, _, hb1⟩
    have hs1 := hb1.size
    have eo1 := O1.is
    subst eo1
    have A1a := A1.later hb1
    have A2a := A2.later hb1
    go_wp2_with fail
    refine (own_any A2a (by omega) NY.out).mono ?_
    rintro e W2 ⟨r2, rfl, _, y2, k2, O2, _, hb2⟩
    have hs2 := hb2.size
    have eo2 := O2.is
    subst eo2
    have A1b := A1a.later hb2
    have A2b := A2a.later hb2
    have O1b := O1.later hb2
    have hB2 : Below w.heap.size w W2 := hb1.trans (hb2.mono hs1)
    go_wp2_with fail
    refine (make_any (m1 := b0) O1b O2 lx1 lx2 (by omega) hp).mono ?_
    rintro e V1 ⟨r3, rfl, q3, hb3⟩
    have hs3 := hb3.size
    obtain ⟨m1, fs1, gs1, f1, g1, j1, k1, rfl⟩ := q3.arg.box
    obtain ⟨U1, hU1⟩ : ∃ U, V1.alloc (.cells #[.bool m1, .slice f1 fs1.length j1, .slice g1 gs1.length k1] 25) = U := ⟨_, rfl⟩
    have hBU1 : Below V1.heap.size V1 U1 := by rw [← hU1]; exact (Below.refl _ _).alloc (Nat.le_refl _) _
    have R1 : Row U1 V1.heap.size 25 #[.bool m1, .slice f1 fs1.length j1, .slice g1 gs1.length k1] := by rw [← hU1]; exact Row.new _ _ _
    have hsU := hBU1.size
    have hB3 : Below W2.heap.size W2 U1 := hb3.trans (hBU1.mono hs3)
    obtain ⟨p0, p1, p2, _, _, _⟩ := R1.three
    go_wp2_with fail
    refine (of_any (A2b.later hB3) (by omega)).mono ?_
    rintro e V4 ⟨r4, rfl, z4, q4, l4, hb4⟩
    have hs4 := hb4.size
    obtain ⟨ad4, cp4, rfl, q4, D4⟩ := q4.slice
    have hl := lenD_pos (show 0 < valD z4 by rw [q4.eq]; exact hp)
    have R4 := R1.later hb4
    have q5 := (q3.later hBU1).later hb4
    have A1d := (A1b.later hB3).later hb4
    have A2d := (A2b.later hB3).later hb4
    have hB4 : Below w.heap.size w V4 := (hB2.trans (hB3.mono (by omega))).trans (hb4.mono (by omega))
    clear p0 p1 p2 hU1 q3 q4 D4 O1 O2 O1b R1 hb1 hb2 hb3 hb4 hBU1 hB3
    go_wp2_with fail
    have lt_R4 := R4.lt
    have mkS : ∀ X, Kept (V4.heap.size) V4 X → X.cell? ⟨V1.heap.size, 0, none⟩ = some (.bool m1) ∧ X.cell? ⟨V1.heap.size, 1, none⟩ = some (.slice f1 fs1.length j1) ∧ X.cell? ⟨V1.heap.size, 2, none⟩ = some (.slice g1 gs1.length k1) ∧ Kept (V4.heap.size) V4 X := fun X h => ⟨(R4.kept h (by omega)).cell 0, (R4.kept h (by omega)).cell 1, (R4.kept h (by omega)).cell 2, h⟩
    go_region_held3 (fun X => X.cell? ⟨V1.heap.size, 0, none⟩ = some (.bool m1) ∧ X.cell? ⟨V1.heap.size, 1, none⟩ = some (.slice f1 fs1.length j1) ∧ X.cell? ⟨V1.heap.size, 2, none⟩ = some (.slice g1 gs1.length k1) ∧ Kept (V4.heap.size) V4 X)
      (((refine mkS _ ?_; (repeat' (first | exact Kept.refl _ _ | refine Kept.drew ?_ | refine Kept.alloc ?_ _ | refine Kept.set ?_ _ _ | refine Kept.below ?_ (by assumption))))))
      ((first
        | (go_at_call 18; have hprev := hbw4; clear hprev; (with_reducible refine (known3_any _).mono ?_); rintro e w5 ⟨rfl, hbw5⟩; have hsw5 := hbw5.size; (try simp at hsw5); skip)
        | (go_at_call 16; have hprev := hbw3; clear hprev; (with_reducible refine (isR_true qw3 (q5.later (show Below V4.heap.size V4 _ by (repeat' (first | exact Below.refl _ _ | refine Below.drew ?_ | refine Below.alloc ?_ (by (try simp) <;> omega) _ | refine below_set3 ?_ (by (try simp) <;> omega) _ _ _ | refine below_set2 ?_ (by (try simp) <;> omega) _ _ | refine Below.setCell ?_ (by (try simp) <;> omega) _ | refine Below.trans ?_ (Below.mono (by assumption) (by (try simp) <;> omega)))))) (by omega) (by omega)).mono ?_); rintro e w4 ⟨rfl, hbw4⟩; have hsw4 := hbw4.size; (try simp at hsw4); skip)
        | (go_at_call 22; have hprev := hbw2; clear hprev; (with_reducible refine (makeR_any (n := 5242880) (Dw1.later (show Below w1.heap.size w1 _ by (repeat' (first | exact Below.refl _ _ | refine Below.drew ?_ | refine Below.alloc ?_ (by (try simp) <;> omega) _ | refine below_set3 ?_ (by (try simp) <;> omega) _ _ _ | refine below_set2 ?_ (by (try simp) <;> omega) _ _ | refine Below.setCell ?_ (by (try simp) <;> omega) _ | refine Below.trans ?_ (Below.mono (by assumption) (by (try simp) <;> omega)))))) Dw2 (by omega) (by omega) (by omega)).mono ?_); rintro e w3 ⟨r3, rfl, qw3, hbw3⟩; have hsw3 := hbw3.size; (try simp at hsw3); rw [HV.out] at qw3; skip)
        | (go_at_call 21; have hprev := hbw1; clear hprev; (with_reducible refine (of_any (A2d.later (show Below V4.heap.size V4 _ by (repeat' (first | exact Below.refl _ _ | refine Below.drew ?_ | refine Below.alloc ?_ (by (try simp) <;> omega) _ | refine below_set3 ?_ (by (try simp) <;> omega) _ _ _ | refine below_set2 ?_ (by (try simp) <;> omega) _ _ | refine Below.setCell ?_ (by (try simp) <;> omega) _ | refine Below.trans ?_ (Below.mono (by assumption) (by (try simp) <;> omega)))))) (by omega)).mono ?_); rintro e w2 ⟨r2, rfl, zw2, qw2, lw2, hbw2⟩; have hsw2 := hbw2.size; (try simp at hsw2); obtain ⟨adw2, cpw2, rfl, qw2, Dw2⟩ := qw2.slice; have HV := Lib.hid (show ratOf b0 (valD zw1) (valD zw2) = ratOf b0 (val xs1) (val xs2) by rw [qw1.eq, qw2.eq]); skip)
        | (go_at_call 21; (with_reducible refine (of_any (A1d.later (show Below V4.heap.size V4 _ by (repeat' (first | exact Below.refl _ _ | refine Below.drew ?_ | refine Below.alloc ?_ (by (try simp) <;> omega) _ | refine below_set3 ?_ (by (try simp) <;> omega) _ _ _ | refine below_set2 ?_ (by (try simp) <;> omega) _ _ | refine Below.setCell ?_ (by (try simp) <;> omega) _ | refine Below.trans ?_ (Below.mono (by assumption) (by (try simp) <;> omega)))))) (by omega)).mono ?_); rintro e w1 ⟨r1, rfl, zw1, qw1, lw1, hbw1⟩; have hsw1 := hbw1.size; (try simp at hsw1); obtain ⟨adw1, cpw1, rfl, qw1, Dw1⟩ := qw1.slice; skip)))
    go_wp2_with fail
    go_ret
    exact ⟨rfl, hB4.trans ((show Below V4.heap.size V4 _ by (repeat' (first | exact Below.refl _ _ | refine Below.drew ?_ | refine Below.alloc ?_ (by (try simp) <;> omega) _ | refine below_set3 ?_ (by (try simp) <;> omega) _ _ _ | refine below_set2 ?_ (by (try simp) <;> omega) _ _ | refine Below.setCell ?_ (by (try simp) <;> omega) _ | refine Below.trans ?_ (Below.mono (by assumption) (by (try simp) <;> omega))))).mono (by omega))⟩

namespace ratMakes
theorem contract (H : Type) (enc : TypeId × Value → H) (W : World) (base : Nat) (args : Array Value) (ds gs : List (DataW H)) (before : List MemPlace)
    (hval : ∀ (j : Nat) t v, Try.f4.params[j]? = some t → args[j]? = some v → Value.okWide Try.prog W .any base t v)
    (hW : DataW.Whole enc Try.prog Try.f4.params.toList Rows.ratMakesSpec.vars false W args.toList ds gs before) (hk : Rows.uptoSmall H (ds ++ gs) = true) :
    Calls Try.prog 4 args W fun e W' => ∃ v, e = .returned v ∧ Rows.ratMakesSpec.post enc Try.prog Try.f4 false true false false W args v W' := by
  have hW' := hW
  have hlt := fun p hp => hW'.lt p hp
  obtain ⟨p, q, hA0, hV, rfl, hfz, hnd⟩ := hW
  have hA : DataW.TrodAll enc Try.prog W 0 (fun _ => true) true Try.f4.params.toList args.toList ds p := hA0
  rw [Try.params4] at hA hval
  obtain ⟨v0, vs0, d0, ds0, p0, q0, ha0, rfl, rfl, h0, r0⟩ := trodAll_cons hA
  obtain ⟨v1, vs1, d1, ds1, p1, q1, ha1, rfl, rfl, h1, r1⟩ := trodAll_cons r0
  obtain ⟨v2, vs2, d2, ds2, p2, q2, ha2, rfl, rfl, h2, r2⟩ := trodAll_cons r1
  obtain ⟨rfl, rfl, rfl⟩ := trodAll_nil r2
  subst ha1
  subst ha2
  obtain rfl : args = #[v0, v1, v2] := by cases args; simp_all
  obtain ⟨rfl, rfl⟩ := trodVars_none hV
  clear hA hA0 hV
  obtain ⟨b0, rfl, rfl, rfl⟩ := open_bool Try.underlying4 (hval 0 4 v0 rfl rfl) h0
  simp only [List.append_nil] at hW' hk hlt
  (try simp only [List.nil_append] at hW' hk hlt)
  obtain ⟨k0, k1, k2⟩ := small3 hk
  obtain ⟨a1, xs1, ca1, A1, l1, n1⟩ := open_nat2 (okWide_slice Try.underlying23 (hval 1 23 v1 rfl rfl)) h1 k1
  have e1 := A1.is
  subst e1
  obtain ⟨a2, xs2, ca2, A2, l2, n2⟩ := open_nat2 (okWide_slice Try.underlying23 (hval 2 23 v2 rfl rfl)) h2 k2
  have e2 := A2.is
  subst e2
  refine (ratMakes_walk b0 xs1 a1 ca1 xs2 a2 ca2 W A1 l1 n1 A2 l2 n2).mono fun e W' ⟨he, hb⟩ => ?_
  subst he
  have t1 := Below.trod laid (by kernel_rfl) (of_decide_eq_true (by kernel_rfl)) h1 hb (fun x hx => hlt x (by simp [hx]))
  have t2 := Below.trod laid (by kernel_rfl) (of_decide_eq_true (by kernel_rfl)) h2 hb (fun x hx => hlt x (by simp [hx]))
  exact ⟨_, rfl, [.lit (.bool b0), d1, d2], [], (p1 ++ p2), [], ([] ++ (p1 ++ (p2 ++ []))), [], hW', trodAll_cons_mk (shut_bool Try.underlying4 _) trodAll_mk0,
    (trodAll_cons_mk (shut_bool Try.underlying4 _) (trodAll_cons_mk t1 (trodAll_cons_mk t2 trodAll_mk0))), rfl, hb.frame _, fun h => by cases h⟩

set_option maxRecDepth 100000 in
theorem lifted (os : Os) (started : os.Started) (H : Type) (enc : TypeId × Value → H) (F : Stop.Interp) :
    ReturnsInHanded {} Try.checked os 4 .any ((Rows.OpenSpec.upto Rows.ratMakesSpec).pre6 enc Try.prog Try.f4 Rows.ratMakesUptoRow.domain false) (((Rows.OpenSpec.upto Rows.ratMakesSpec).at F).post enc Try.prog Try.f4 false true false false) := by
  refine returnsInHanded_of_cond (C := Try.checked) (s := Rows.OpenSpec.upto Rows.ratMakesSpec) (k := Rows.uptoSmall) rfl own started (by kernel_rfl) Try.func4
    (OpenSpec.witness (enc := enc) (C := Try.checked) (s := Rows.OpenSpec.upto Rows.ratMakesSpec) (k := Rows.uptoSmall) rfl false ⟨#[], #[.bool false, .slice none 0 0, .slice none 0 0], []⟩ 8 (by kernel_rfl) (by kernel_rfl) (by kernel_rfl)
      (x := ([.lit (.bool false), .nil, .nil], [], [])) (by kernel_rfl) rfl (by kernel_rfl)) ?_
  intro W base args ds gs before hval hW _ hk _
  exact contract H enc W base args ds gs before hval hW hk

theorem proved : Rows.RatMakesUptoSaid :=
  OpenClaim.holds_of_cond 4 Try.f4 rfl rfl rfl rfl rfl rfl rfl ⟨rfl, rfl, rfl, rfl, rfl⟩ rfl rfl rfl rfl rfl (by kernel_rfl) Try.func4 (by kernel_rfl)
    (of_decide_eq_true (by kernel_rfl)) (by unfold Func.isWrapper; first | (rw [if_pos (by decide +kernel)]; kernel_rfl) | (rw [if_neg (by decide +kernel)]; exact ⟨rfl, rfl⟩))
    (fun os started H enc _ F => lifted os started H enc F)
end ratMakes
end Go.Proofs.Ytofiebilokhccaa
