/-
  Layer 3's laws: 'frac', and the chapter's rows ('known'): they answer true; 'same'.
-/
import Derived.Test.YtofiebilokhccaaRTwo
import Derived.Test.YtofiebilokhccaaRAdd
import Derived.Test.YtofiebilokhccaaRSub
namespace Go.Proofs.Ytofiebilokhccaa
open Go.RowKit
set_option linter.unusedVariables false
set_option linter.unusedSimpArgs false

/-- p by q -/
def fQ (p q : Int) : Rat := ratOf (decide (p < 0) != decide (q < 0)) (p.natAbs : Int) (q.natAbs : Int)

set_option maxRecDepth 100000 in
set_option maxHeartbeats 8000000 in
theorem frac3_any (p q : Int) (w : World) (hp1 : -9223372036854775808 ≤ p) (hp2 : p ≤ 9223372036854775807) (hq1 : -9223372036854775808 ≤ q) (hq2 : q ≤ 9223372036854775807) :
    Calls Try.prog 54 #[.int .i64 p, .int .i64 q] w fun e w' => ∃ r, e = .returned r ∧ ArgR w' r (fQ p q) 7 ∧ Below w.heap.size w w' := by
  obtain ⟨W, hW⟩ : ∃ W, (w.alloc (.cells #[.bool false, .slice none 0 0, .slice none 0 0] 34)) = W := ⟨_, rfl⟩
  have R0 : Row W (w.heap.size) 34 #[.bool false, .slice none 0 0, .slice none 0 0] := by rw [← hW]; exact (Row.new _ _ _)
  have hBW : Below w.heap.size w W := by rw [← hW]; exact ((Below.refl _ _).alloc (by (try simp) <;> omega) _)
  have hsW : w.heap.size + 1 ≤ W.heap.size := by rw [← hW]; simp
  go_enter Try.func54, Try.ntmps54
  go_wp2_with fail
  refine (fracR_any p q _ hp1 hp2 hq1 hq2).mono ?_
  rintro e w1 ⟨r1, rfl, h1, hb1⟩
  obtain ⟨m4, fs, gs, f1, f2, j1, j2, rfl⟩ := h1.box
  have P1 := R0.later hb1
  clear hW
  obtain ⟨u0, u1, u2, g0, g1, g2⟩ := P1.three
  go_wp2_with fail
  refine bodyPost_ret (v := .agg #[.bool m4, .slice f1 fs.length j1, .slice f2 gs.length j2]) (by simp [results, Try.results54, go_sem, u0, u1, u2]) rfl ⟨_, rfl, h1.far P1 (noInts3 _ _ _ _ _ _ _) (kept3 _ _ _), below_set3 (hBW.trans (hb1.mono (by omega))) (by omega) _ _ _⟩

theorem bits38 {w : World} {u : Value} (hu : ArgQ w u (fQ 3 8) 4) :
    Calls Try.prog 42 #[u] w fun e w' => e = .returned (.int .i64 4) ∧ Below w.heap.size w w' := by
  have e1 : (((fQ 3 8).num.natAbs : Nat) : Int) = 3 := by decide +kernel
  have e2 : (((fQ 3 8).den : Nat) : Int) = 8 := by decide +kernel
  exact bitsQ_any (k1 := 2) (k2 := 4) hu (by omega) (by rw [e1]; exact .inr ⟨1, rfl, by decide, by decide⟩) (by rw [e2]; exact .inr ⟨3, rfl, by decide, by decide⟩)

theorem lit1 {w : World} {g : Nat} {x : Int} (h : Row w g 62 #[.int .u32 x]) (hx : 0 ≤ x ∧ x < 4294967296) : Arg w (.slice (some ⟨g, 0, none⟩) 1 1) [x] (some ⟨g, 0, none⟩) 1 :=
  ⟨rfl, .inr ⟨g, 0, rfl, fun i hi => by obtain rfl : i = 0 := by simpa using hi
                                        exact h.cell 0⟩, by simp, wf1 hx⟩
theorem may_lit {w : World} {xs ds : List Int} {a1 a2 : Option Addr} {c1 c2 n m : Nat} (A : Arg w (.slice a1 n c1) xs a1 c1) (B : Arg w (.slice a2 m c2) ds a2 c2)
    (h : mayCode (validB false xs ds (ratOf false (val xs) (val ds))) = 6 ∧ xs.length ≤ 1 ∧ ds.length ≤ 1) :
    Calls Try.prog 14 #[.agg #[.bool false, .slice a1 n c1, .slice a2 m c2]] w fun e w' => e = .returned (.int .i64 6) ∧ Below w.heap.size w w' := by
  have e1 := A.is
  have e2 := B.is
  simp only [Value.slice.injEq, true_and, and_true] at e1 e2
  subst e1
  subst e2
  have k := mayQ_any (n := 1) (m1 := false) A B h.2.1 h.2.2 (by omega)
  rwa [h.1] at k

set_option maxRecDepth 100000 in
set_option maxHeartbeats 8000000 in
theorem known3_any (w : World) : Calls Try.prog 18 #[] w fun e w' => e = .returned (.bool true) ∧ Below w.heap.size w w' := by
  have hW : Below w.heap.size w w := Below.refl _ _
  have hS : w.heap.size ≤ w.heap.size := Nat.le_refl _
  have h00 : ((0 : Int) == 0) = true := by decide
  have h44 : ((4 : Int) == 4) = true := by decide
  have h66 : ((6 : Int) == 6) = true := by decide
  go_enter Try.func18, Try.ntmps18
  go_wp2_with fail
  refine (frac_any (1) (2) _ (by omega) (by omega) (by omega) (by omega) (by omega)).mono ?_
  rintro e V1 ⟨r1, rfl, q1, hb⟩
  replace hW := hW.trans (hb.mono hS)
  replace hS := Nat.le_trans hS hb.size
  clear hb
  rw [show ratOf (decide ((1 : Int) < 0) != decide ((2 : Int) < 0)) (((1 : Int).natAbs : Nat) : Int) (((2 : Int).natAbs : Nat) : Int) = fQ (1) (2) from rfl] at q1
  obtain ⟨m1, fs1, gs1, f1, g1, i1, j1, rfl⟩ := q1.arg.box
  obtain ⟨U1, hU1⟩ : ∃ U, V1.alloc (.cells #[.bool m1, .slice f1 fs1.length i1, .slice g1 gs1.length j1] 25) = U := ⟨_, rfl⟩
  have B1 : Row U1 V1.heap.size 25 #[.bool m1, .slice f1 fs1.length i1, .slice g1 gs1.length j1] := by rw [← hU1]; exact Row.new _ _ _
  have hb : Below V1.heap.size V1 U1 := by rw [← hU1]; exact (Below.refl _ _).alloc (Nat.le_refl _) _
  replace q1 := q1.later hb
  replace hW := hW.trans (hb.mono hS)
  replace hS := Nat.le_trans hS hb.size
  clear hb
  go_wp2_with fail
  refine (frac_any (1) (3) _ (by omega) (by omega) (by omega) (by omega) (by omega)).mono ?_
  rintro e V2 ⟨r2, rfl, q2, hb⟩
  replace q1 := q1.later hb
  replace B1 := B1.later hb
  replace hW := hW.trans (hb.mono hS)
  replace hS := Nat.le_trans hS hb.size
  clear hb
  rw [show ratOf (decide ((1 : Int) < 0) != decide ((3 : Int) < 0)) (((1 : Int).natAbs : Nat) : Int) (((3 : Int).natAbs : Nat) : Int) = fQ (1) (3) from rfl] at q2
  obtain ⟨m2, fs2, gs2, f2, g2, i2, j2, rfl⟩ := q2.arg.box
  obtain ⟨U2, hU2⟩ : ∃ U, V2.alloc (.cells #[.bool m2, .slice f2 fs2.length i2, .slice g2 gs2.length j2] 25) = U := ⟨_, rfl⟩
  have B2 : Row U2 V2.heap.size 25 #[.bool m2, .slice f2 fs2.length i2, .slice g2 gs2.length j2] := by rw [← hU2]; exact Row.new _ _ _
  have hb : Below V2.heap.size V2 U2 := by rw [← hU2]; exact (Below.refl _ _).alloc (Nat.le_refl _) _
  replace q1 := q1.later hb
  replace B1 := B1.later hb
  replace q2 := q2.later hb
  replace hW := hW.trans (hb.mono hS)
  replace hS := Nat.le_trans hS hb.size
  clear hb
  obtain ⟨B1_0, B1_1, B1_2, _, _, _⟩ := B1.three
  obtain ⟨B2_0, B2_1, B2_2, _, _, _⟩ := B2.three
  go_wp2_with fail
  refine (divQ_any q1.arg (q2.arg.more (by omega)) (by decide +kernel) (by omega)).mono ?_
  rintro e V3 ⟨r3, rfl, q3, hb⟩
  clear B1_0 B1_1 B1_2
  clear B2_0 B2_1 B2_2
  replace q1 := q1.later hb
  replace B1 := B1.later hb
  replace q2 := q2.later hb
  replace B2 := B2.later hb
  replace hW := hW.trans (hb.mono hS)
  replace hS := Nat.le_trans hS hb.size
  clear hb
  obtain ⟨m3, fs3, gs3, f3, g3, i3, j3, rfl⟩ := q3.arg.box
  obtain ⟨U3, hU3⟩ : ∃ U, V3.alloc (.cells #[.bool m3, .slice f3 fs3.length i3, .slice g3 gs3.length j3] 25) = U := ⟨_, rfl⟩
  have B3 : Row U3 V3.heap.size 25 #[.bool m3, .slice f3 fs3.length i3, .slice g3 gs3.length j3] := by rw [← hU3]; exact Row.new _ _ _
  have hb : Below V3.heap.size V3 U3 := by rw [← hU3]; exact (Below.refl _ _).alloc (Nat.le_refl _) _
  replace q1 := q1.later hb
  replace B1 := B1.later hb
  replace q2 := q2.later hb
  replace B2 := B2.later hb
  replace q3 := q3.later hb
  replace hW := hW.trans (hb.mono hS)
  replace hS := Nat.le_trans hS hb.size
  clear hb
  go_wp2_with fail
  refine (frac_any (6) (-4) _ (by omega) (by omega) (by omega) (by omega) (by omega)).mono ?_
  rintro e V4 ⟨r4, rfl, q4, hb⟩
  replace q1 := q1.later hb
  replace B1 := B1.later hb
  replace q2 := q2.later hb
  replace B2 := B2.later hb
  replace q3 := q3.later hb
  replace B3 := B3.later hb
  replace hW := hW.trans (hb.mono hS)
  replace hS := Nat.le_trans hS hb.size
  clear hb
  rw [show ratOf (decide ((6 : Int) < 0) != decide ((-4 : Int) < 0)) (((6 : Int).natAbs : Nat) : Int) (((-4 : Int).natAbs : Nat) : Int) = fQ (6) (-4) from rfl] at q4
  obtain ⟨m4, fs4, gs4, f4, g4, i4, j4, rfl⟩ := q4.arg.box
  obtain ⟨U4, hU4⟩ : ∃ U, V4.alloc (.cells #[.bool m4, .slice f4 fs4.length i4, .slice g4 gs4.length j4] 25) = U := ⟨_, rfl⟩
  have B4 : Row U4 V4.heap.size 25 #[.bool m4, .slice f4 fs4.length i4, .slice g4 gs4.length j4] := by rw [← hU4]; exact Row.new _ _ _
  have hb : Below V4.heap.size V4 U4 := by rw [← hU4]; exact (Below.refl _ _).alloc (Nat.le_refl _) _
  replace q1 := q1.later hb
  replace B1 := B1.later hb
  replace q2 := q2.later hb
  replace B2 := B2.later hb
  replace q3 := q3.later hb
  replace B3 := B3.later hb
  replace q4 := q4.later hb
  replace hW := hW.trans (hb.mono hS)
  replace hS := Nat.le_trans hS hb.size
  clear hb
  go_wp2_with fail
  refine (frac_any (3) (8) _ (by omega) (by omega) (by omega) (by omega) (by omega)).mono ?_
  rintro e V5 ⟨r5, rfl, q5, hb⟩
  replace q1 := q1.later hb
  replace B1 := B1.later hb
  replace q2 := q2.later hb
  replace B2 := B2.later hb
  replace q3 := q3.later hb
  replace B3 := B3.later hb
  replace q4 := q4.later hb
  replace B4 := B4.later hb
  replace hW := hW.trans (hb.mono hS)
  replace hS := Nat.le_trans hS hb.size
  clear hb
  rw [show ratOf (decide ((3 : Int) < 0) != decide ((8 : Int) < 0)) (((3 : Int).natAbs : Nat) : Int) (((8 : Int).natAbs : Nat) : Int) = fQ (3) (8) from rfl] at q5
  obtain ⟨m5, fs5, gs5, f5, g5, i5, j5, rfl⟩ := q5.arg.box
  obtain ⟨U5, hU5⟩ : ∃ U, V5.alloc (.cells #[.bool m5, .slice f5 fs5.length i5, .slice g5 gs5.length j5] 25) = U := ⟨_, rfl⟩
  have B5 : Row U5 V5.heap.size 25 #[.bool m5, .slice f5 fs5.length i5, .slice g5 gs5.length j5] := by rw [← hU5]; exact Row.new _ _ _
  have hb : Below V5.heap.size V5 U5 := by rw [← hU5]; exact (Below.refl _ _).alloc (Nat.le_refl _) _
  replace q1 := q1.later hb
  replace B1 := B1.later hb
  replace q2 := q2.later hb
  replace B2 := B2.later hb
  replace q3 := q3.later hb
  replace B3 := B3.later hb
  replace q4 := q4.later hb
  replace B4 := B4.later hb
  replace q5 := q5.later hb
  replace hW := hW.trans (hb.mono hS)
  replace hS := Nat.le_trans hS hb.size
  clear hb
  go_wp2_with fail
  clear hU1 hU2 hU3 hU4 hU5
  have lt_B1 := B1.lt
  have lt_B2 := B2.lt
  have lt_B3 := B3.lt
  have lt_B4 := B4.lt
  have lt_B5 := B5.lt
  have mkS : ∀ X, Kept (U5.heap.size) U5 X → X.cell? ⟨V1.heap.size, 0, none⟩ = some (.bool m1) ∧ X.cell? ⟨V1.heap.size, 1, none⟩ = some (.slice f1 fs1.length i1) ∧ X.cell? ⟨V1.heap.size, 2, none⟩ = some (.slice g1 gs1.length j1) ∧ X.cell? ⟨V2.heap.size, 0, none⟩ = some (.bool m2) ∧ X.cell? ⟨V2.heap.size, 1, none⟩ = some (.slice f2 fs2.length i2) ∧ X.cell? ⟨V2.heap.size, 2, none⟩ = some (.slice g2 gs2.length j2) ∧ X.cell? ⟨V3.heap.size, 0, none⟩ = some (.bool m3) ∧ X.cell? ⟨V3.heap.size, 1, none⟩ = some (.slice f3 fs3.length i3) ∧ X.cell? ⟨V3.heap.size, 2, none⟩ = some (.slice g3 gs3.length j3) ∧ X.cell? ⟨V4.heap.size, 0, none⟩ = some (.bool m4) ∧ X.cell? ⟨V4.heap.size, 1, none⟩ = some (.slice f4 fs4.length i4) ∧ X.cell? ⟨V4.heap.size, 2, none⟩ = some (.slice g4 gs4.length j4) ∧ X.cell? ⟨V5.heap.size, 0, none⟩ = some (.bool m5) ∧ X.cell? ⟨V5.heap.size, 1, none⟩ = some (.slice f5 fs5.length i5) ∧ X.cell? ⟨V5.heap.size, 2, none⟩ = some (.slice g5 gs5.length j5) ∧ Kept (U5.heap.size) U5 X := fun X h => ⟨(B1.kept h (by omega)).cell 0, (B1.kept h (by omega)).cell 1, (B1.kept h (by omega)).cell 2, (B2.kept h (by omega)).cell 0, (B2.kept h (by omega)).cell 1, (B2.kept h (by omega)).cell 2, (B3.kept h (by omega)).cell 0, (B3.kept h (by omega)).cell 1, (B3.kept h (by omega)).cell 2, (B4.kept h (by omega)).cell 0, (B4.kept h (by omega)).cell 1, (B4.kept h (by omega)).cell 2, (B5.kept h (by omega)).cell 0, (B5.kept h (by omega)).cell 1, (B5.kept h (by omega)).cell 2, h⟩
  simp only [List.append_eq, List.cons_append, List.nil_append]
  go_region_held3 (fun X => X.cell? ⟨V1.heap.size, 0, none⟩ = some (.bool m1) ∧ X.cell? ⟨V1.heap.size, 1, none⟩ = some (.slice f1 fs1.length i1) ∧ X.cell? ⟨V1.heap.size, 2, none⟩ = some (.slice g1 gs1.length j1) ∧ X.cell? ⟨V2.heap.size, 0, none⟩ = some (.bool m2) ∧ X.cell? ⟨V2.heap.size, 1, none⟩ = some (.slice f2 fs2.length i2) ∧ X.cell? ⟨V2.heap.size, 2, none⟩ = some (.slice g2 gs2.length j2) ∧ X.cell? ⟨V3.heap.size, 0, none⟩ = some (.bool m3) ∧ X.cell? ⟨V3.heap.size, 1, none⟩ = some (.slice f3 fs3.length i3) ∧ X.cell? ⟨V3.heap.size, 2, none⟩ = some (.slice g3 gs3.length j3) ∧ X.cell? ⟨V4.heap.size, 0, none⟩ = some (.bool m4) ∧ X.cell? ⟨V4.heap.size, 1, none⟩ = some (.slice f4 fs4.length i4) ∧ X.cell? ⟨V4.heap.size, 2, none⟩ = some (.slice g4 gs4.length j4) ∧ X.cell? ⟨V5.heap.size, 0, none⟩ = some (.bool m5) ∧ X.cell? ⟨V5.heap.size, 1, none⟩ = some (.slice f5 fs5.length i5) ∧ X.cell? ⟨V5.heap.size, 2, none⟩ = some (.slice g5 gs5.length j5) ∧ Kept (U5.heap.size) U5 X)
    (((refine mkS _ ?_; (repeat' (first | exact Kept.refl _ _ | refine Kept.drew ?_ | refine Kept.alloc ?_ _ | refine Kept.set ?_ _ _ | refine Kept.below ?_ (by assumption))))))
    ((first
      | (go_at_call 14; have hprev := hbw16; clear hprev; (with_reducible refine (may_lit (xs := [3]) (ds := []) (by first | exact lit1 (Row.at (by simp)) (by omega) | exact lit1 ((Row.at (by simp)).alloc _) (by omega)) (nil_arg _) (by decide +kernel)).mono ?_); rintro e w17 ⟨rfl, hbw17⟩; have hsw17 := hbw17.size; (try simp at hsw17); skip)
      | (go_at_call 14; have hprev := hbw15; clear hprev; (with_reducible refine (may_lit (xs := []) (ds := [5]) (nil_arg _) (by first | exact lit1 (Row.at (by simp)) (by omega) | exact lit1 ((Row.at (by simp)).alloc _) (by omega)) (by decide +kernel)).mono ?_); rintro e w16 ⟨rfl, hbw16⟩; have hsw16 := hbw16.size; (try simp at hsw16); skip)
      | (go_at_call 14; have hprev := hbw14; clear hprev; (with_reducible refine (may_lit (xs := [2]) (ds := [4]) (by first | exact lit1 (Row.at (by simp)) (by omega) | exact lit1 ((Row.at (by simp)).alloc _) (by omega)) (by first | exact lit1 (Row.at (by simp)) (by omega) | exact lit1 ((Row.at (by simp)).alloc _) (by omega)) (by decide +kernel)).mono ?_); rintro e w15 ⟨rfl, hbw15⟩; have hsw15 := hbw15.size; (try simp at hsw15); skip)
      | (go_at_call 42; have hprev := hbw13; clear hprev; (with_reducible refine (bits38 (q5.arg.later (show Below U5.heap.size U5 _ by (repeat' (first | exact Below.refl _ _ | refine Below.drew ?_ | refine Below.alloc ?_ (by (try simp) <;> omega) _ | refine below_set3 ?_ (by (try simp) <;> omega) _ _ _ | refine below_set2 ?_ (by (try simp) <;> omega) _ _ | refine Below.setCell ?_ (by (try simp) <;> omega) _ | refine Below.trans ?_ (Below.mono (by assumption) (by (try simp) <;> omega))))))).mono ?_); rintro e w14 ⟨rfl, hbw14⟩; have hsw14 := hbw14.size; (try simp at hsw14); skip)
      | (go_at_call 16; have hprev := hbw12; clear hprev; (with_reducible refine (isR_true qw12 (q4.later (show Below U5.heap.size U5 _ by (repeat' (first | exact Below.refl _ _ | refine Below.drew ?_ | refine Below.alloc ?_ (by (try simp) <;> omega) _ | refine below_set3 ?_ (by (try simp) <;> omega) _ _ _ | refine below_set2 ?_ (by (try simp) <;> omega) _ _ | refine Below.setCell ?_ (by (try simp) <;> omega) _ | refine Below.trans ?_ (Below.mono (by assumption) (by (try simp) <;> omega)))))) (by omega) (by omega)).mono ?_); rintro e w13 ⟨rfl, hbw13⟩; have hsw13 := hbw13.size; (try simp at hsw13); skip)
      | (go_at_call 54; have hprev := hbw11; clear hprev; (with_reducible refine (frac3_any (-3) (2) _ (by omega) (by omega) (by omega) (by omega)).mono ?_); rintro e w12 ⟨r12, rfl, qw12, hbw12⟩; have hsw12 := hbw12.size; (try simp at hsw12); rw [show fQ (-3) (2) = fQ 6 (-4) by decide +kernel] at qw12; skip)
      | (go_at_call 16; have hprev := hbw10; clear hprev; (with_reducible refine (isR_true qw10 (q3.later (show Below U5.heap.size U5 _ by (repeat' (first | exact Below.refl _ _ | refine Below.drew ?_ | refine Below.alloc ?_ (by (try simp) <;> omega) _ | refine below_set3 ?_ (by (try simp) <;> omega) _ _ _ | refine below_set2 ?_ (by (try simp) <;> omega) _ _ | refine Below.setCell ?_ (by (try simp) <;> omega) _ | refine Below.trans ?_ (Below.mono (by assumption) (by (try simp) <;> omega)))))) (by omega) (by omega)).mono ?_); rintro e w11 ⟨rfl, hbw11⟩; have hsw11 := hbw11.size; (try simp at hsw11); skip)
      | (go_at_call 54; have hprev := hbw9; clear hprev; (with_reducible refine (frac3_any (3) (2) _ (by omega) (by omega) (by omega) (by omega)).mono ?_); rintro e w10 ⟨r10, rfl, qw10, hbw10⟩; have hsw10 := hbw10.size; (try simp at hsw10); rw [show fQ (3) (2) = fQ 1 2 / fQ 1 3 by decide +kernel] at qw10; skip)
      | (go_at_call 16; have hprev := hbw8; clear hprev; (with_reducible refine (isR_true (qw7.later (show Below w7.heap.size w7 _ by (repeat' (first | exact Below.refl _ _ | refine Below.drew ?_ | refine Below.alloc ?_ (by (try simp) <;> omega) _ | refine below_set3 ?_ (by (try simp) <;> omega) _ _ _ | refine below_set2 ?_ (by (try simp) <;> omega) _ _ | refine Below.setCell ?_ (by (try simp) <;> omega) _ | refine Below.trans ?_ (Below.mono (by assumption) (by (try simp) <;> omega)))))) qw8 (by omega) (by omega)).mono ?_); rintro e w9 ⟨rfl, hbw9⟩; have hsw9 := hbw9.size; (try simp at hsw9); skip)
      | (go_at_call 32; have hprev := hbw7; clear hprev; (with_reducible refine (mulQ_any (q1.arg.later (show Below U5.heap.size U5 _ by (repeat' (first | exact Below.refl _ _ | refine Below.drew ?_ | refine Below.alloc ?_ (by (try simp) <;> omega) _ | refine below_set3 ?_ (by (try simp) <;> omega) _ _ _ | refine below_set2 ?_ (by (try simp) <;> omega) _ _ | refine Below.setCell ?_ (by (try simp) <;> omega) _ | refine Below.trans ?_ (Below.mono (by assumption) (by (try simp) <;> omega)))))) (q2.arg.later (show Below U5.heap.size U5 _ by (repeat' (first | exact Below.refl _ _ | refine Below.drew ?_ | refine Below.alloc ?_ (by (try simp) <;> omega) _ | refine below_set3 ?_ (by (try simp) <;> omega) _ _ _ | refine below_set2 ?_ (by (try simp) <;> omega) _ _ | refine Below.setCell ?_ (by (try simp) <;> omega) _ | refine Below.trans ?_ (Below.mono (by assumption) (by (try simp) <;> omega)))))) (by omega)).mono ?_); rintro e w8 ⟨r8, rfl, qw8, hbw8⟩; have hsw8 := hbw8.size; (try simp at hsw8); skip)
      | (go_at_call 54; have hprev := hbw6; clear hprev; (with_reducible refine (frac3_any (1) (6) _ (by omega) (by omega) (by omega) (by omega)).mono ?_); rintro e w7 ⟨r7, rfl, qw7, hbw7⟩; have hsw7 := hbw7.size; (try simp at hsw7); rw [show fQ (1) (6) = fQ 1 2 * fQ 1 3 by decide +kernel] at qw7; skip)
      | (go_at_call 16; have hprev := hbw5; clear hprev; (with_reducible refine (isR_true (qw4.later (show Below w4.heap.size w4 _ by (repeat' (first | exact Below.refl _ _ | refine Below.drew ?_ | refine Below.alloc ?_ (by (try simp) <;> omega) _ | refine below_set3 ?_ (by (try simp) <;> omega) _ _ _ | refine below_set2 ?_ (by (try simp) <;> omega) _ _ | refine Below.setCell ?_ (by (try simp) <;> omega) _ | refine Below.trans ?_ (Below.mono (by assumption) (by (try simp) <;> omega)))))) qw5 (by omega) (by omega)).mono ?_); rintro e w6 ⟨rfl, hbw6⟩; have hsw6 := hbw6.size; (try simp at hsw6); skip)
      | (go_at_call 30; have hprev := hbw4; clear hprev; (with_reducible refine (subQ_any (q1.arg.later (show Below U5.heap.size U5 _ by (repeat' (first | exact Below.refl _ _ | refine Below.drew ?_ | refine Below.alloc ?_ (by (try simp) <;> omega) _ | refine below_set3 ?_ (by (try simp) <;> omega) _ _ _ | refine below_set2 ?_ (by (try simp) <;> omega) _ _ | refine Below.setCell ?_ (by (try simp) <;> omega) _ | refine Below.trans ?_ (Below.mono (by assumption) (by (try simp) <;> omega)))))) (q2.arg.later (show Below U5.heap.size U5 _ by (repeat' (first | exact Below.refl _ _ | refine Below.drew ?_ | refine Below.alloc ?_ (by (try simp) <;> omega) _ | refine below_set3 ?_ (by (try simp) <;> omega) _ _ _ | refine below_set2 ?_ (by (try simp) <;> omega) _ _ | refine Below.setCell ?_ (by (try simp) <;> omega) _ | refine Below.trans ?_ (Below.mono (by assumption) (by (try simp) <;> omega)))))) (by omega)).mono ?_); rintro e w5 ⟨r5, rfl, qw5, hbw5⟩; have hsw5 := hbw5.size; (try simp at hsw5); skip)
      | (go_at_call 54; have hprev := hbw3; clear hprev; (with_reducible refine (frac3_any (1) (6) _ (by omega) (by omega) (by omega) (by omega)).mono ?_); rintro e w4 ⟨r4, rfl, qw4, hbw4⟩; have hsw4 := hbw4.size; (try simp at hsw4); rw [show fQ (1) (6) = fQ 1 2 - fQ 1 3 by decide +kernel] at qw4; skip)
      | (go_at_call 16; have hprev := hbw2; clear hprev; (with_reducible refine (isR_true (qw1.later (show Below w1.heap.size w1 _ by (repeat' (first | exact Below.refl _ _ | refine Below.drew ?_ | refine Below.alloc ?_ (by (try simp) <;> omega) _ | refine below_set3 ?_ (by (try simp) <;> omega) _ _ _ | refine below_set2 ?_ (by (try simp) <;> omega) _ _ | refine Below.setCell ?_ (by (try simp) <;> omega) _ | refine Below.trans ?_ (Below.mono (by assumption) (by (try simp) <;> omega)))))) qw2 (by omega) (by omega)).mono ?_); rintro e w3 ⟨rfl, hbw3⟩; have hsw3 := hbw3.size; (try simp at hsw3); skip)
      | (go_at_call 28; have hprev := hbw1; clear hprev; (with_reducible refine (addQ_any (q1.arg.later (show Below U5.heap.size U5 _ by (repeat' (first | exact Below.refl _ _ | refine Below.drew ?_ | refine Below.alloc ?_ (by (try simp) <;> omega) _ | refine below_set3 ?_ (by (try simp) <;> omega) _ _ _ | refine below_set2 ?_ (by (try simp) <;> omega) _ _ | refine Below.setCell ?_ (by (try simp) <;> omega) _ | refine Below.trans ?_ (Below.mono (by assumption) (by (try simp) <;> omega)))))) (q2.arg.later (show Below U5.heap.size U5 _ by (repeat' (first | exact Below.refl _ _ | refine Below.drew ?_ | refine Below.alloc ?_ (by (try simp) <;> omega) _ | refine below_set3 ?_ (by (try simp) <;> omega) _ _ _ | refine below_set2 ?_ (by (try simp) <;> omega) _ _ | refine Below.setCell ?_ (by (try simp) <;> omega) _ | refine Below.trans ?_ (Below.mono (by assumption) (by (try simp) <;> omega)))))) (by omega)).mono ?_); rintro e w2 ⟨r2, rfl, qw2, hbw2⟩; have hsw2 := hbw2.size; (try simp at hsw2); skip)
      | (go_at_call 54; (with_reducible refine (frac3_any (5) (6) _ (by omega) (by omega) (by omega) (by omega)).mono ?_); rintro e w1 ⟨r1, rfl, qw1, hbw1⟩; have hsw1 := hbw1.size; (try simp at hsw1); rw [show fQ (5) (6) = fQ 1 2 + fQ 1 3 by decide +kernel] at qw1; skip)))
  all_goals (
    go_wp2_with fail
    go_ret
    exact ⟨rfl, hW.trans ((show Below U5.heap.size U5 _ by (repeat' (first | exact Below.refl _ _ | refine Below.drew ?_ | refine Below.alloc ?_ (by (try simp) <;> omega) _ | refine below_set3 ?_ (by (try simp) <;> omega) _ _ _ | refine below_set2 ?_ (by (try simp) <;> omega) _ _ | refine Below.setCell ?_ (by (try simp) <;> omega) _ | refine Below.trans ?_ (Below.mono (by assumption) (by (try simp) <;> omega))))).mono hS)⟩)
end Go.Proofs.Ytofiebilokhccaa
