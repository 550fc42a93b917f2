/-
  The reference of layer 3: sums, products, quotients, fractions in new memory; Neg, which leads into its argument. (Made by wip/gen/gen_prat.py.)
-/
import Derived.Test.YtjcacmnmbbnffaaGreatPCode2
namespace Go.Proofs.YtjcacmnmbbnffaaGreat
open Go.RowKit
set_option linter.unusedVariables false
set_option linter.unusedSimpArgs false

set_option maxRecDepth 100000 in
set_option maxHeartbeats 4000000 in
theorem mulRR_gen {n : Nat} {w : World} {m1 m2 : Bool} {xs ds zs es : List Int} {a1 a2 a3 a4 : Option Addr} {c1 c2 c3 c4 : Nat}
    (A : ArgD w (.slice a1 xs.length c1) xs a1 c1) (B : ArgD w (.slice a2 ds.length c2) ds a2 c2) (C : ArgD w (.slice a3 zs.length c3) zs a3 c3) (D : ArgD w (.slice a4 es.length c4) es a4 c4)
    (hx : xs.length ≤ n) (hd : ds.length ≤ n) (hz : zs.length ≤ n) (he : es.length ≤ n) (hn : n ≤ 1000000000) :
    Calls Tryz.prog 56 #[.agg #[.bool m1, .slice a1 xs.length c1, .slice a2 ds.length c2], .agg #[.bool m2, .slice a3 zs.length c3, .slice a4 es.length c4]] w fun e w' => ∃ r, e = .returned r ∧ ResR w.heap.size w' r (ratOf m1 (valD xs) (valD ds) * ratOf m2 (valD zs) (valD es)) (3 * n + 5) ∧ Below w.heap.size w w' := by
  obtain ⟨X, hX⟩ : ∃ X, ratOf m1 (valD xs) (valD ds) * ratOf m2 (valD zs) (valD es) = X := ⟨_, rfl⟩
  have hfin : ratOf (!(m1 == m2)) (valD xs * valD zs) (valD ds * valD es) = X := by rw [← hX]; exact rat_prod m1 m2 _ _ _ _
  have HF := Lib.hid hfin
  rw [hX]
  clear hfin hX
  obtain ⟨W, hW⟩ : ∃ W, (((w.alloc (.cells #[.bool m1, .slice a1 xs.length c1, .slice a2 ds.length c2] 56)).alloc (.cells #[.bool m2, .slice a3 zs.length c3, .slice a4 es.length c4] 56)).alloc (.cells #[.bool false, .slice none 0 0, .slice none 0 0] 56)) = W := ⟨_, rfl⟩
  have R0 : Row W (w.heap.size) 56 #[.bool m1, .slice a1 xs.length c1, .slice a2 ds.length c2] := by rw [← hW]; exact (((Row.new _ _ _).alloc _).alloc _)
  have R1 : Row W (w.heap.size + 1) 56 #[.bool m2, .slice a3 zs.length c3, .slice a4 es.length c4] := by rw [← hW]; have h := (Row.new (w.alloc (.cells #[.bool m1, .slice a1 xs.length c1, .slice a2 ds.length c2] 56)) 56 #[.bool m2, .slice a3 zs.length c3, .slice a4 es.length c4]); simp only [World.size_alloc] at h; exact (h.alloc _)
  have R2 : Row W (w.heap.size + 1 + 1) 56 #[.bool false, .slice none 0 0, .slice none 0 0] := by rw [← hW]; have h := (Row.new ((w.alloc (.cells #[.bool m1, .slice a1 xs.length c1, .slice a2 ds.length c2] 56)).alloc (.cells #[.bool m2, .slice a3 zs.length c3, .slice a4 es.length c4] 56)) 56 #[.bool false, .slice none 0 0, .slice none 0 0]); simp only [World.size_alloc] at h; exact h
  have hBW : Below w.heap.size w W := by rw [← hW]; exact ((((Below.refl _ _).alloc (by (try simp) <;> omega) _).alloc (by (try simp) <;> omega) _).alloc (by (try simp) <;> omega) _)
  have hsW : w.heap.size + 1 + 1 + 1 ≤ W.heap.size := by rw [← hW]; simp
  have mkS : ∀ X, Kept (w.heap.size + 1 + 1) W X → X.cell? ⟨w.heap.size, 0, none⟩ = some (.bool m1) ∧ X.cell? ⟨w.heap.size, 1, none⟩ = some (.slice a1 xs.length c1) ∧ X.cell? ⟨w.heap.size, 2, none⟩ = some (.slice a2 ds.length c2) ∧ X.cell? ⟨w.heap.size + 1, 0, none⟩ = some (.bool m2) ∧ X.cell? ⟨w.heap.size + 1, 1, none⟩ = some (.slice a3 zs.length c3) ∧ X.cell? ⟨w.heap.size + 1, 2, none⟩ = some (.slice a4 es.length c4) ∧ Kept (w.heap.size + 1 + 1) W X := fun X h => ⟨(R0.kept h (by omega)).cell 0, (R0.kept h (by omega)).cell 1, (R0.kept h (by omega)).cell 2, (R1.kept h (by omega)).cell 0, (R1.kept h (by omega)).cell 1, (R1.kept h (by omega)).cell 2, h⟩
  go_enter Tryz.func56, Tryz.ntmps56
  go_wp2_with fail
  clear hW
  go_region_held3 (fun X => X.cell? ⟨w.heap.size, 0, none⟩ = some (.bool m1) ∧ X.cell? ⟨w.heap.size, 1, none⟩ = some (.slice a1 xs.length c1) ∧ X.cell? ⟨w.heap.size, 2, none⟩ = some (.slice a2 ds.length c2) ∧ X.cell? ⟨w.heap.size + 1, 0, none⟩ = some (.bool m2) ∧ X.cell? ⟨w.heap.size + 1, 1, none⟩ = some (.slice a3 zs.length c3) ∧ X.cell? ⟨w.heap.size + 1, 2, none⟩ = some (.slice a4 es.length c4) ∧ Kept (w.heap.size + 1 + 1) W X)
    (((refine mkS _ ?_; (repeat' (first | exact Kept.refl _ _ | refine Kept.drew ?_ | refine Kept.alloc ?_ _ | refine Kept.set ?_ _ _ | refine Kept.below ?_ (by assumption))))))
    ((first
      | (go_at_call 76; refine (makeRR_any (n := 3 * n + 4) (A3.later hb4) A4 (by omega) (by omega) (by omega)).mono ?_; rintro e w5 ⟨r5, rfl, q5, hb5⟩; rw [HV.out] at q5; obtain ⟨fs, gs, f1, f2, j1, j2, e5, _⟩ := id q5; subst e5; have P5 := R2.kept (show Kept (w.heap.size + 1 + 1 + 1) W w5 by (repeat' (first | exact Kept.refl _ _ | refine Kept.drew ?_ | refine Kept.alloc ?_ _ | refine Kept.set ?_ _ _ | refine Kept.below ?_ (by assumption)))) (by omega); obtain ⟨u0, u1, u2, g0, g1, g2⟩ := P5.three)
      | (go_at_call 99; (with_reducible refine (mulD_any (B.later (Kept.under (show Kept (w.heap.size + 1 + 1) W _ by (repeat' (first | exact Kept.refl _ _ | refine Kept.drew ?_ | refine Kept.alloc ?_ _ | refine Kept.set ?_ _ _ | refine Kept.below ?_ (by assumption)))) hBW (by omega) (by omega))) (D.later (Kept.under (show Kept (w.heap.size + 1 + 1) W _ by (repeat' (first | exact Kept.refl _ _ | refine Kept.drew ?_ | refine Kept.alloc ?_ _ | refine Kept.set ?_ _ _ | refine Kept.below ?_ (by assumption)))) hBW (by omega) (by omega))) (by omega) (by omega)).mono ?_); rintro e w4 ⟨r4, rfl, z4, q4, l4, hb4⟩; obtain ⟨ad4, cp4, rfl, q4, A4⟩ := q4.slice; have HV := Lib.hid ((show ratOf (!(m1 == m2)) (valD z3) (valD z4) = ratOf (!(m1 == m2)) (valD xs * valD zs) (valD ds * valD es) by rw [q3.eq, q4.eq]).trans HF.out))
      | (go_at_call 99; (with_reducible refine (mulD_any (A.later (Kept.under (show Kept (w.heap.size + 1 + 1) W _ by (repeat' (first | exact Kept.refl _ _ | refine Kept.drew ?_ | refine Kept.alloc ?_ _ | refine Kept.set ?_ _ _ | refine Kept.below ?_ (by assumption)))) hBW (by omega) (by omega))) (C.later (Kept.under (show Kept (w.heap.size + 1 + 1) W _ by (repeat' (first | exact Kept.refl _ _ | refine Kept.drew ?_ | refine Kept.alloc ?_ _ | refine Kept.set ?_ _ _ | refine Kept.below ?_ (by assumption)))) hBW (by omega) (by omega))) (by omega) (by omega)).mono ?_); rintro e w3 ⟨r3, rfl, z3, q3, l3, hb3⟩; obtain ⟨ad3, cp3, rfl, q3, A3⟩ := q3.slice)))
  have hs5 := hb5.size
  have hk5 := (show Kept (w.heap.size + 1 + 1 + 1) W w5 by (repeat' (first | exact Kept.refl _ _ | refine Kept.drew ?_ | refine Kept.alloc ?_ _ | refine Kept.set ?_ _ _ | refine Kept.below ?_ (by assumption)))).size
  have hk4 := (show Kept (w.heap.size + 1 + 1 + 1) W w4 by (repeat' (first | exact Kept.refl _ _ | refine Kept.drew ?_ | refine Kept.alloc ?_ _ | refine Kept.set ?_ _ _ | refine Kept.below ?_ (by assumption)))).size
  have hK5 := (Kept.under (show Kept (w.heap.size + 1 + 1 + 1) W w5 by (repeat' (first | exact Kept.refl _ _ | refine Kept.drew ?_ | refine Kept.alloc ?_ _ | refine Kept.set ?_ _ _ | refine Kept.below ?_ (by assumption)))) hBW (by omega) (by omega))
  go_wp2_with fail
  refine bodyPost_ret (v := .agg #[.bool (decide (X.num < 0)), .slice f1 fs.length j1, .slice f2 gs.length j2]) (by simp [results, Tryz.results56, go_sem, u0, u1, u2]) rfl ⟨_, rfl, ?_, below_set3 hK5 (by omega) _ _ _⟩
  exact (q5.far P5 (by decide) (kept3 _ _ _)).mono (by omega)
theorem mulRR_any {n : Nat} {w : World} {u v : Value} {X Y : Rat} (hu : ArgR w u X n) (hv : ArgR w v Y n) (hn : n ≤ 1000000000) :
    Calls Tryz.prog 56 #[u, v] w fun e w' => ∃ r, e = .returned r ∧ ResR w.heap.size w' r (X * Y) (3 * n + 5) ∧ Below w.heap.size w w' := by
  obtain ⟨m1, xs, ds, a1, a2, c1, c2, rfl, A, B, hX, hx, hd⟩ := hu.parts
  obtain ⟨m2, zs, es, a3, a4, c3, c4, rfl, C, D, hY, hz, he⟩ := hv.parts
  rw [← hX, ← hY]
  exact mulRR_gen A B C D hx hd hz he hn
set_option maxRecDepth 100000 in
set_option maxHeartbeats 4000000 in
theorem addRR_any {n : Nat} {w : World} {u v : Value} {X Y : Rat} (hu : ArgR w u X n) (hv : ArgR w v Y n) (hn : n ≤ 1000000000) :
    Calls Tryz.prog 53 #[u, v] w fun e w' => ∃ r, e = .returned r ∧ ResR w.heap.size w' r (X + Y) (3 * n + 6) ∧ Below w.heap.size w w' := by
  obtain ⟨xs, ds, a1, a2, c1, c2, rfl, A, B, hX1, hX2, hx, hd⟩ := hu
  obtain ⟨zs, es, a3, a4, c3, c4, rfl, C, D, hY1, hY2, hz, he⟩ := hv
  obtain ⟨m1, hm1⟩ : ∃ m, decide (X.num < 0) = m := ⟨_, rfl⟩
  obtain ⟨m2, hm2⟩ : ∃ m, decide (Y.num < 0) = m := ⟨_, rfl⟩
  have hsame : m1 = m2 → ratOf m1 (valD xs * valD es + valD zs * valD ds) (valD ds * valD es) = X + Y := by
    intro h; rw [hX1, hX2, hY1, hY2, ← hm1]; exact rat_add_same X Y (by rw [hm1, hm2, h])
  have hleft : m1 ≠ m2 → ratOf m1 (valD xs * valD es - valD zs * valD ds) (valD ds * valD es) = X + Y := by
    intro h; rw [hX1, hX2, hY1, hY2, ← hm1]; exact rat_add_left X Y (by rw [hm1, hm2]; exact h)
  have hright : m1 ≠ m2 → ratOf m2 (valD zs * valD ds - valD xs * valD es) (valD ds * valD es) = X + Y := by
    intro h; rw [hX1, hX2, hY1, hY2, ← hm2]; exact rat_add_right X Y (by rw [hm1, hm2]; exact h)
  rw [hm1, hm2]
  have HS := Lib.hid hsame
  have HL := Lib.hid hleft
  have HR := Lib.hid hright
  clear hsame hleft hright hX1 hX2 hY1 hY2 hm1 hm2
  obtain ⟨W, hW⟩ : ∃ W, (((w.alloc (.cells #[.bool m1, .slice a1 xs.length c1, .slice a2 ds.length c2] 56)).alloc (.cells #[.bool m2, .slice a3 zs.length c3, .slice a4 es.length c4] 56)).alloc (.cells #[.bool false, .slice none 0 0, .slice none 0 0] 56)) = W := ⟨_, rfl⟩
  have R0 : Row W (w.heap.size) 56 #[.bool m1, .slice a1 xs.length c1, .slice a2 ds.length c2] := by rw [← hW]; exact (((Row.new _ _ _).alloc _).alloc _)
  have R1 : Row W (w.heap.size + 1) 56 #[.bool m2, .slice a3 zs.length c3, .slice a4 es.length c4] := by rw [← hW]; have h := (Row.new (w.alloc (.cells #[.bool m1, .slice a1 xs.length c1, .slice a2 ds.length c2] 56)) 56 #[.bool m2, .slice a3 zs.length c3, .slice a4 es.length c4]); simp only [World.size_alloc] at h; exact (h.alloc _)
  have R2 : Row W (w.heap.size + 1 + 1) 56 #[.bool false, .slice none 0 0, .slice none 0 0] := by rw [← hW]; have h := (Row.new ((w.alloc (.cells #[.bool m1, .slice a1 xs.length c1, .slice a2 ds.length c2] 56)).alloc (.cells #[.bool m2, .slice a3 zs.length c3, .slice a4 es.length c4] 56)) 56 #[.bool false, .slice none 0 0, .slice none 0 0]); simp only [World.size_alloc] at h; exact h
  have hBW : Below w.heap.size w W := by rw [← hW]; exact ((((Below.refl _ _).alloc (by (try simp) <;> omega) _).alloc (by (try simp) <;> omega) _).alloc (by (try simp) <;> omega) _)
  have hsW : w.heap.size + 1 + 1 + 1 ≤ W.heap.size := by rw [← hW]; simp
  have mkS : ∀ X, Kept (w.heap.size + 1 + 1 + 1) W X → X.cell? ⟨w.heap.size, 0, none⟩ = some (.bool m1) ∧ X.cell? ⟨w.heap.size, 1, none⟩ = some (.slice a1 xs.length c1) ∧ X.cell? ⟨w.heap.size, 2, none⟩ = some (.slice a2 ds.length c2) ∧ X.cell? ⟨w.heap.size + 1, 0, none⟩ = some (.bool m2) ∧ X.cell? ⟨w.heap.size + 1, 1, none⟩ = some (.slice a3 zs.length c3) ∧ X.cell? ⟨w.heap.size + 1, 2, none⟩ = some (.slice a4 es.length c4) ∧ Kept (w.heap.size + 1 + 1 + 1) W X := fun X h => ⟨(R0.kept h (by omega)).cell 0, (R0.kept h (by omega)).cell 1, (R0.kept h (by omega)).cell 2, (R1.kept h (by omega)).cell 0, (R1.kept h (by omega)).cell 1, (R1.kept h (by omega)).cell 2, h⟩
  go_enter Tryz.func53, Tryz.ntmps53
  go_wp2_with fail
  clear hW
  go_region_held3 (fun X => X.cell? ⟨w.heap.size, 0, none⟩ = some (.bool m1) ∧ X.cell? ⟨w.heap.size, 1, none⟩ = some (.slice a1 xs.length c1) ∧ X.cell? ⟨w.heap.size, 2, none⟩ = some (.slice a2 ds.length c2) ∧ X.cell? ⟨w.heap.size + 1, 0, none⟩ = some (.bool m2) ∧ X.cell? ⟨w.heap.size + 1, 1, none⟩ = some (.slice a3 zs.length c3) ∧ X.cell? ⟨w.heap.size + 1, 2, none⟩ = some (.slice a4 es.length c4) ∧ Kept (w.heap.size + 1 + 1 + 1) W X)
    (((refine mkS _ ?_; (repeat' (first | exact Kept.refl _ _ | refine Kept.drew ?_ | refine Kept.alloc ?_ _ | refine Kept.set ?_ _ _ | refine Kept.below ?_ (by assumption))))))
    ((first
      | (go_at_call 99; (with_reducible refine (mulD_any (C.later (Kept.under (show Kept (w.heap.size + 1 + 1 + 1) W _ by (repeat' (first | exact Kept.refl _ _ | refine Kept.drew ?_ | refine Kept.alloc ?_ _ | refine Kept.set ?_ _ _ | refine Kept.below ?_ (by assumption)))) hBW (by omega) (by omega))) (B.later (Kept.under (show Kept (w.heap.size + 1 + 1 + 1) W _ by (repeat' (first | exact Kept.refl _ _ | refine Kept.drew ?_ | refine Kept.alloc ?_ _ | refine Kept.set ?_ _ _ | refine Kept.below ?_ (by assumption)))) hBW (by omega) (by omega))) (by omega) (by omega)).mono ?_); rintro e w2 ⟨r2, rfl, z2, q2, l2, hb2⟩; obtain ⟨ad2, cp2, rfl, q2, A2⟩ := q2.slice)
      | (go_at_call 99; (with_reducible refine (mulD_any (A.later (Kept.under (show Kept (w.heap.size + 1 + 1 + 1) W _ by (repeat' (first | exact Kept.refl _ _ | refine Kept.drew ?_ | refine Kept.alloc ?_ _ | refine Kept.set ?_ _ _ | refine Kept.below ?_ (by assumption)))) hBW (by omega) (by omega))) (D.later (Kept.under (show Kept (w.heap.size + 1 + 1 + 1) W _ by (repeat' (first | exact Kept.refl _ _ | refine Kept.drew ?_ | refine Kept.alloc ?_ _ | refine Kept.set ?_ _ _ | refine Kept.below ?_ (by assumption)))) hBW (by omega) (by omega))) (by omega) (by omega)).mono ?_); rintro e w1 ⟨r1, rfl, z1, q1, l1, hb1⟩; obtain ⟨ad1, cp1, rfl, q1, A1⟩ := q1.slice)))
  have hK2 : Below W.heap.size W w2 := Kept.under (g := W.heap.size) (show Kept (W.heap.size) W w2 by (repeat' (first | exact Kept.refl _ _ | refine Kept.drew ?_ | refine Kept.alloc ?_ _ | refine Kept.set ?_ _ _ | refine Kept.below ?_ (by assumption)))) (Below.refl _ _) (by omega) (by omega)
  have hB2 : Below w.heap.size w w2 := hBW.trans (hK2.mono (by omega))
  have hs2 := hK2.size
  have A1' := A1.later hb2
  have e1 := q1.eq
  have e2 := q2.eq
  have E1 := Lib.hid e1
  have E2 := Lib.hid e2
  have B2 := B.later hB2
  have D2 := D.later hB2
  replace R0 := R0.later hK2
  replace R1 := R1.later hK2
  replace R2 := R2.later hK2
  obtain ⟨p0, p1, p2, _, _, _⟩ := R0.three
  obtain ⟨o0, o1, o2, _, _, _⟩ := R1.three
  clear mkS e1 e2 q1 q2 hb1 hK2 A B C D A1
  go_wp2_with fail
  refine (mulD_any B2 D2 (by omega) (by omega)).mono ?_
  rintro e w3 ⟨r3, rfl, z3, q3, l3, hb3⟩
  obtain ⟨ad3, cp3, rfl, q3, A3⟩ := q3.slice
  have hs3 := hb3.size
  have e3 := q3.eq
  have E3 := Lib.hid e3
  have Q0 := R0.later hb3
  have Q1 := R1.later hb3
  have Q2 := R2.later hb3
  have A1' := A1'.later hb3
  have A2' := A2.later hb3
  have hB3 : Below w.heap.size w w3 := hB2.trans (hb3.mono (by omega))
  clear p0 p1 p2 o0 o1 o2 e3 q3
  obtain ⟨p0, p1, p2, _, _, _⟩ := Q0.three
  obtain ⟨o0, o1, o2, _, _, _⟩ := Q1.three
  by_cases hm : m1 = m2
  · subst hm
    have HS2 := Lib.hid (HS.out rfl)
    clear HS HL HR
    have hbb : (m1 == m1) = true := by simp
    have mkS : ∀ X, Kept (w.heap.size + 1 + 1) w3 X → X.cell? ⟨w.heap.size, 0, none⟩ = some (.bool m1) ∧ X.cell? ⟨w.heap.size, 1, none⟩ = some (.slice a1 xs.length c1) ∧ X.cell? ⟨w.heap.size, 2, none⟩ = some (.slice a2 ds.length c2) ∧ X.cell? ⟨w.heap.size + 1, 0, none⟩ = some (.bool m1) ∧ X.cell? ⟨w.heap.size + 1, 1, none⟩ = some (.slice a3 zs.length c3) ∧ X.cell? ⟨w.heap.size + 1, 2, none⟩ = some (.slice a4 es.length c4) ∧ Kept (w.heap.size + 1 + 1) w3 X := fun X h => ⟨(Q0.kept h (by omega)).cell 0, (Q0.kept h (by omega)).cell 1, (Q0.kept h (by omega)).cell 2, (Q1.kept h (by omega)).cell 0, (Q1.kept h (by omega)).cell 1, (Q1.kept h (by omega)).cell 2, h⟩
    go_wp2_with fail
    clear p0 p1 p2 o0 o1 o2
    go_region_held3 (fun X => X.cell? ⟨w.heap.size, 0, none⟩ = some (.bool m1) ∧ X.cell? ⟨w.heap.size, 1, none⟩ = some (.slice a1 xs.length c1) ∧ X.cell? ⟨w.heap.size, 2, none⟩ = some (.slice a2 ds.length c2) ∧ X.cell? ⟨w.heap.size + 1, 0, none⟩ = some (.bool m1) ∧ X.cell? ⟨w.heap.size + 1, 1, none⟩ = some (.slice a3 zs.length c3) ∧ X.cell? ⟨w.heap.size + 1, 2, none⟩ = some (.slice a4 es.length c4) ∧ Kept (w.heap.size + 1 + 1) w3 X)
      (((refine mkS _ ?_; (repeat' (first | exact Kept.refl _ _ | refine Kept.drew ?_ | refine Kept.alloc ?_ _ | refine Kept.set ?_ _ _ | refine Kept.below ?_ (by assumption))))))
      ((first
        | (go_at_call 76; refine (makeRR_any (n := 3 * n + 4) A4 (A3.later hb4d) (by omega) (by omega) (by omega)).mono ?_; rintro e w5 ⟨r5, rfl, q5, hb5⟩; rw [HV.out] at q5; obtain ⟨fs, gs, f1, f2, j1, j2, e5, _⟩ := id q5; subst e5; have P5 := (Q2.later hb4d).later hb5; obtain ⟨u0, u1, u2, g0, g1, g2⟩ := P5.three)
        | (go_at_call 100; refine (addD_any (A1'.later (Below.refl _ w3).drew) (A2'.later (Below.refl _ w3).drew) (by omega) (by omega)).mono ?_; rintro e w4 ⟨r4, rfl, z4, q4, l4, hb4⟩; have hb4d : Below w3.heap.size w3 w4 := ⟨hb4.os, hb4.tape, hb4.output, hb4.size, hb4.block⟩; obtain ⟨ad4, cp4, rfl, q4, A4⟩ := q4.slice; have HV := Lib.hid ((show ratOf m1 (valD z4) (valD z3) = ratOf m1 (valD xs * valD es + valD zs * valD ds) (valD ds * valD es) by rw [q4.eq, E1.out, E2.out, E3.out]).trans HS2.out))))
    have hs4 := hb4d.size
    go_wp2_with fail
    refine bodyPost_ret (v := .agg #[.bool (decide ((X + Y).num < 0)), .slice f1 fs.length j1, .slice f2 gs.length j2]) (by simp [results, Tryz.results53, go_sem, u0, u1, u2]) rfl ⟨_, rfl, ((q5.far P5 (by decide) (kept3 _ _ _)).mono (by omega)).more (by omega), below_set3 ((hB3.trans (hb4d.mono (by omega))).trans (hb5.mono (by omega))) (by omega) _ _ _⟩
  · have hbb : (m1 == m2) = false := by simpa using hm

    by_cases hlt : valD z1 < valD z2
    · have hcmp := cmpD_any A1' A2' (by omega) (by omega)
      rw [sign_lt hlt] at hcmp
      go_wp2_with fail
      refine hcmp.mono ?_
      rintro e w4 ⟨rfl, hb4⟩
      have hs4 := hb4.size
      have A1b := A1'.later hb4
      have A2b := A2'.later hb4
      have A3b := A3.later hb4
      have Q1b := Q1.later hb4
      have Q2b := Q2.later hb4
      clear hcmp p0 p1 p2 o0 o1 o2
      go_wp2_with fail
      refine (subD_any A2b A1b (by omega) (by omega)).mono ?_
      rintro e w5 ⟨r5, f5, rfl, hb5, _, h5⟩
      obtain ⟨rfl, z5, q5, l5⟩ := h5 (by omega)
      have hs5 := hb5.size
      obtain ⟨ad5, cp5, rfl, q5, A5⟩ := q5.slice
      have A3c := A3b.later hb5
      have Q1c := Q1b.later hb5
      have Q2c := Q2b.later hb5
      obtain ⟨o0, o1, o2, _, _, _⟩ := Q1c.three
      have HV := Lib.hid ((show ratOf m2 (valD z5) (valD z3) = ratOf m2 (valD zs * valD ds - valD xs * valD es) (valD ds * valD es) by rw [q5.eq, E1.out, E2.out, E3.out]).trans (HR.out hm))
      clear h5
      go_wp2_with fail
      refine (makeRR_any (n := 3 * n + 4) A5 A3c (by omega) (by omega) (by omega)).mono ?_
      rintro e w6 ⟨r6, rfl, q6, hb6⟩
      rw [HV.out] at q6
      obtain ⟨fs, gs, f1, f2, j1, j2, e6, _⟩ := id q6
      subst e6
      have P6 := Q2c.later hb6
      clear o0 o1 o2
      obtain ⟨u0, u1, u2, g0, g1, g2⟩ := P6.three
      go_wp2_with fail
      refine bodyPost_ret (v := .agg #[.bool (decide ((X + Y).num < 0)), .slice f1 fs.length j1, .slice f2 gs.length j2]) (by simp [results, Tryz.results53, go_sem, u0, u1, u2]) rfl ⟨_, rfl, ((q6.far P6 (by decide) (kept3 _ _ _)).mono (by omega)).more (by omega), below_set3 (((hB3.trans (hb4.mono (by omega))).trans (hb5.mono (by omega))).trans (hb6.mono (by omega))) (by omega) _ _ _⟩
    · have hge : decide ((0 : Int) ≤ sign (valD z1) (valD z2)) = true := decide_eq_true (by unfold sign; rw [if_neg hlt]; split <;> omega)
      have hcmp := cmpD_any A1' A2' (by omega) (by omega)
      obtain ⟨sg, hsg⟩ : ∃ s, sign (valD z1) (valD z2) = s := ⟨_, rfl⟩
      rw [hsg] at hge hcmp
      clear hsg
      go_wp2_with fail
      refine hcmp.mono ?_
      rintro e w4 ⟨rfl, hb4⟩
      have hs4 := hb4.size
      have A1b := A1'.later hb4
      have A2b := A2'.later hb4
      have A3b := A3.later hb4
      have Q0b := Q0.later hb4
      have Q2b := Q2.later hb4
      clear hcmp p0 p1 p2 o0 o1 o2
      go_wp2_with fail
      refine (subD_any A1b A2b (by omega) (by omega)).mono ?_
      rintro e w5 ⟨r5, f5, rfl, hb5, _, h5⟩
      obtain ⟨rfl, z5, q5, l5⟩ := h5 (by omega)
      have hs5 := hb5.size
      obtain ⟨ad5, cp5, rfl, q5, A5⟩ := q5.slice
      have A3c := A3b.later hb5
      have Q0c := Q0b.later hb5
      have Q2c := Q2b.later hb5
      obtain ⟨o0, o1, o2, _, _, _⟩ := Q0c.three
      have HV := Lib.hid ((show ratOf m1 (valD z5) (valD z3) = ratOf m1 (valD xs * valD es - valD zs * valD ds) (valD ds * valD es) by rw [q5.eq, E1.out, E2.out, E3.out]).trans (HL.out hm))
      clear h5
      go_wp2_with fail
      refine (makeRR_any (n := 3 * n + 4) A5 A3c (by omega) (by omega) (by omega)).mono ?_
      rintro e w6 ⟨r6, rfl, q6, hb6⟩
      rw [HV.out] at q6
      obtain ⟨fs, gs, f1, f2, j1, j2, e6, _⟩ := id q6
      subst e6
      have P6 := Q2c.later hb6
      clear o0 o1 o2
      obtain ⟨u0, u1, u2, g0, g1, g2⟩ := P6.three
      go_wp2_with fail
      refine bodyPost_ret (v := .agg #[.bool (decide ((X + Y).num < 0)), .slice f1 fs.length j1, .slice f2 gs.length j2]) (by simp [results, Tryz.results53, go_sem, u0, u1, u2]) rfl ⟨_, rfl, ((q6.far P6 (by decide) (kept3 _ _ _)).mono (by omega)).more (by omega), below_set3 (((hB3.trans (hb4.mono (by omega))).trans (hb5.mono (by omega))).trans (hb6.mono (by omega))) (by omega) _ _ _⟩
set_option maxRecDepth 100000 in
set_option maxHeartbeats 4000000 in
theorem divRR_any {n : Nat} {w : World} {u v : Value} {X Y : Rat} (hu : ArgR w u X n) (hv : ArgR w v Y n) (hY : Y ≠ 0) (hn : n ≤ 1000000000) :
    Calls Tryz.prog 57 #[u, v] w fun e w' => ∃ r, e = .returned (.tuple #[r, .bool true]) ∧ ResR w.heap.size w' r (X / Y) (3 * n + 5) ∧ Below w.heap.size w w' := by
  obtain ⟨m1, xs, ds, a1, a2, c1, c2, rfl, A, B, hXe, hx, hd⟩ := hu.parts
  have hv0 := hv
  obtain ⟨m2, zs, es, a3, a4, c3, c4, rfl, C, D, hYe, hz, he⟩ := hv.parts
  have hfin : ratOf m1 (valD xs) (valD ds) * ratOf m2 (valD es) (valD zs) = X / Y := by
    rw [rat_turn (val_nonnegD C.wf) (val_nonnegD D.wf), hXe, hYe, Rat.div_def]
  have HF := Lib.hid hfin
  clear hfin hXe hYe
  obtain ⟨W, hW⟩ : ∃ W, (((w.alloc (.cells #[.bool m1, .slice a1 xs.length c1, .slice a2 ds.length c2] 56)).alloc (.cells #[.bool m2, .slice a3 zs.length c3, .slice a4 es.length c4] 56)).alloc (.cells #[.bool false, .slice none 0 0, .slice none 0 0] 56)) = W := ⟨_, rfl⟩
  have R0 : Row W (w.heap.size) 56 #[.bool m1, .slice a1 xs.length c1, .slice a2 ds.length c2] := by rw [← hW]; exact (((Row.new _ _ _).alloc _).alloc _)
  have R1 : Row W (w.heap.size + 1) 56 #[.bool m2, .slice a3 zs.length c3, .slice a4 es.length c4] := by rw [← hW]; have h := (Row.new (w.alloc (.cells #[.bool m1, .slice a1 xs.length c1, .slice a2 ds.length c2] 56)) 56 #[.bool m2, .slice a3 zs.length c3, .slice a4 es.length c4]); simp only [World.size_alloc] at h; exact (h.alloc _)
  have R2 : Row W (w.heap.size + 1 + 1) 56 #[.bool false, .slice none 0 0, .slice none 0 0] := by rw [← hW]; have h := (Row.new ((w.alloc (.cells #[.bool m1, .slice a1 xs.length c1, .slice a2 ds.length c2] 56)).alloc (.cells #[.bool m2, .slice a3 zs.length c3, .slice a4 es.length c4] 56)) 56 #[.bool false, .slice none 0 0, .slice none 0 0]); simp only [World.size_alloc] at h; exact h
  have hBW : Below w.heap.size w W := by rw [← hW]; exact ((((Below.refl _ _).alloc (by (try simp) <;> omega) _).alloc (by (try simp) <;> omega) _).alloc (by (try simp) <;> omega) _)
  have hsW : w.heap.size + 1 + 1 + 1 ≤ W.heap.size := by rw [← hW]; simp
  have hzr := zeroR_any (hv0.later hBW)
  rw [decide_eq_false hY] at hzr
  clear hY hv0 hu hv
  obtain ⟨p0, p1, p2, _, _, _⟩ := R0.three
  obtain ⟨o0, o1, o2, _, _, _⟩ := R1.three
  go_enter Tryz.func57, Tryz.ntmps57
  go_wp2_with fail
  refine hzr.mono ?_
  rintro e w1 ⟨rfl, hb1⟩
  have hs1 := hb1.size
  have P1 := R2.later hb1
  clear hzr hW p0 p1 p2 o0 o1 o2
  obtain ⟨p0, p1, p2, _, _, _⟩ := (R0.later hb1).three
  obtain ⟨o0, o1, o2, _, _, _⟩ := (R1.later hb1).three
  have A1 := (A.later hBW).later hb1
  have B1 := (B.later hBW).later hb1
  have C1 := (C.later hBW).later hb1
  have D1 := (D.later hBW).later hb1
  go_wp2_with fail
  refine (mulRR_gen (m1 := m1) (m2 := m2) A1 B1 D1 C1 hx hd he hz hn).mono ?_
  rintro e w2 ⟨r2, rfl, q2, hb2⟩
  rw [HF.out] at q2
  obtain ⟨m4, fs, gs, f1, f2, j1, j2, rfl⟩ := q2.arg.box
  have P2 := P1.later hb2
  clear p0 p1 p2 o0 o1 o2
  obtain ⟨u0, u1, u2, g0, g1, g2⟩ := P2.three
  go_wp2_with fail
  refine bodyPost_ret (v := .tuple #[.agg #[.bool m4, .slice f1 fs.length j1, .slice f2 gs.length j2], .bool true]) (by simp [results, Tryz.results57, go_sem, u0, u1, u2]) rfl ⟨_, rfl, ?_, ?_⟩
  · exact (q2.far P2 (by decide) (kept3 _ _ _)).mono (by omega)
  · exact below_set3 ((hBW.trans (hb1.mono (by omega))).trans (hb2.mono (by omega))) (by omega) _ _ _
set_option maxRecDepth 100000 in
set_option maxHeartbeats 4000000 in
theorem fracRR_any (p q : Int) (w : World) (hp1 : -9223372036854775808 ≤ p) (hp2 : p ≤ 9223372036854775807) (hq1 : -9223372036854775808 ≤ q) (hq2 : q ≤ 9223372036854775807) :
    Calls Tryz.prog 88 #[.int .i64 p, .int .i64 q] w fun e w' => ∃ r, e = .returned r ∧ ResR w.heap.size w' r (ratOf (decide (p < 0) != decide (q < 0)) (p.natAbs : Int) (q.natAbs : Int)) 7 ∧ Below w.heap.size w w' := by
  obtain ⟨bp, hbp⟩ : ∃ b, decide (p < 0) = b := ⟨_, rfl⟩
  obtain ⟨bq, hbq⟩ : ∃ b, decide (q < 0) = b := ⟨_, rfl⟩
  cases bp <;> cases bq
  all_goals (
    obtain ⟨W, hW⟩ : ∃ W, (w.alloc (.cells #[.bool false, .slice none 0 0, .slice none 0 0] 56)) = W := ⟨_, rfl⟩
    have R0 : Row W (w.heap.size) 56 #[.bool false, .slice none 0 0, .slice none 0 0] := by rw [← hW]; exact (Row.new _ _ _)
    have hBW : Below w.heap.size w W := by rw [← hW]; exact ((Below.refl _ _).alloc (by (try simp) <;> omega) _)
    have hsW : w.heap.size + 1 ≤ W.heap.size := by rw [← hW]; simp
    go_enter Tryz.func88, Tryz.ntmps88
    go_wp2_with fail
    refine (sizeR_any p _ hp1 hp2).mono ?_
    rintro e w1 ⟨r1, rfl, z1, q1, l1, hb1⟩
    have hs1 := hb1.size
    obtain ⟨ad1, cp1, rfl, q1, A1⟩ := q1.slice
    go_wp2_with fail
    refine (sizeR_any q _ hq1 hq2).mono ?_
    rintro e w2 ⟨r2, rfl, z2, q2, l2, hb2⟩
    have hs2 := hb2.size
    obtain ⟨ad2, cp2, rfl, q2, A2⟩ := q2.slice
    have A1' := A1.later hb2
    have P2 := (R0.later hb1).later hb2
    have hB2 : Below w.heap.size w w2 := (hBW.trans (hb1.mono (by omega))).trans (hb2.mono (by omega))
    have hfin : ∀ c, c = (decide (p < 0) != decide (q < 0)) → ratOf c (valD z1) (valD z2) = ratOf (decide (p < 0) != decide (q < 0)) (p.natAbs : Int) (q.natAbs : Int) := fun c hc => by rw [hc, q1.eq, q2.eq]
    have HF := Lib.hid hfin
    clear hfin hW
    go_wp2_with fail
    refine (makeRR_any A1' A2 l1 l2 (by omega)).mono ?_
    rintro e w3 ⟨r3, rfl, q3, hb3⟩
    rw [HF.out _ (by rw [hbp, hbq]; rfl)] at q3
    obtain ⟨m4, fs, gs, f1, f2, j1, j2, rfl⟩ := q3.arg.box
    have P3 := P2.later hb3
    obtain ⟨u0, u1, u2, g0, g1, g2⟩ := P3.three
    go_wp2_with fail
    refine bodyPost_ret (v := .agg #[.bool m4, .slice f1 fs.length j1, .slice f2 gs.length j2]) (by simp [results, Tryz.results88, go_sem, u0, u1, u2]) rfl ⟨_, rfl, ?_, below_set3 (hB2.trans (hb3.mono (by omega))) (by omega) _ _ _⟩
    exact (q3.far P3 (by decide) (kept3 _ _ _)).mono (by omega))
set_option maxRecDepth 100000 in
set_option maxHeartbeats 4000000 in
theorem negRV_any {n : Nat} {w : World} {u : Value} {X : Rat} (hu : ArgR w u X n) :
    Calls Tryz.prog 65 #[u] w fun e w' => ∃ r, e = .returned r ∧ (∀ w0, ArgR w0 u X n → ArgR w0 r (-X) n) ∧ Below w.heap.size w w' := by
  have hu0 := hu
  obtain ⟨xs, ds, a1, a2, c1, c2, rfl, A, B, hX1, hX2, hx, hd⟩ := hu
  obtain ⟨m1, hm1⟩ : ∃ m, decide (X.num < 0) = m := ⟨_, rfl⟩
  obtain ⟨n1, n2, n3⟩ := rat_neg X
  have HM := Lib.hid hm1
  rw [hm1] at hu0 ⊢
  obtain ⟨W, hW⟩ : ∃ W, ((w.alloc (.cells #[.bool m1, .slice a1 xs.length c1, .slice a2 ds.length c2] 56)).alloc (.cells #[.bool false, .slice none 0 0, .slice none 0 0] 56)) = W := ⟨_, rfl⟩
  have R0 : Row W (w.heap.size) 56 #[.bool m1, .slice a1 xs.length c1, .slice a2 ds.length c2] := by rw [← hW]; exact ((Row.new _ _ _).alloc _)
  have R1 : Row W (w.heap.size + 1) 56 #[.bool false, .slice none 0 0, .slice none 0 0] := by rw [← hW]; have h := (Row.new (w.alloc (.cells #[.bool m1, .slice a1 xs.length c1, .slice a2 ds.length c2] 56)) 56 #[.bool false, .slice none 0 0, .slice none 0 0]); simp only [World.size_alloc] at h; exact h
  have hBW : Below w.heap.size w W := by rw [← hW]; exact (((Below.refl _ _).alloc (by (try simp) <;> omega) _).alloc (by (try simp) <;> omega) _)
  have hsW : w.heap.size + 1 + 1 ≤ W.heap.size := by rw [← hW]; simp
  obtain ⟨p0, p1, p2, _, _, _⟩ := R0.three
  have hzr := zeroR_any (hu0.later hBW)
  clear hm1
  by_cases h : X = 0
  · have h0 : decide (X = 0) = true := decide_eq_true h
    rw [h0] at hzr
    have hX : -X = X := by rw [h]; rfl
    have HX := Lib.hid hX
    have H1 := Lib.hid hX1
    have H2 := Lib.hid hX2
    clear h h0 hX n1 n2 n3 hX1 hX2 hu0
    go_enter Tryz.func65, Tryz.ntmps65
    go_wp2_with fail
    refine hzr.mono ?_
    rintro e w2 ⟨rfl, hb2⟩
    have hs2 := hb2.size
    clear hzr hW p0 p1 p2
    obtain ⟨p0, p1, p2, _, _, _⟩ := (R0.later hb2).three
    have P2 := R1.later hb2
    obtain ⟨u0, u1, u2, g0, g1, g2⟩ := P2.three
    go_wp2_with fail
    refine bodyPost_ret (v := .agg #[.bool m1, .slice a1 xs.length c1, .slice a2 ds.length c2]) (by simp [results, Tryz.results65, go_sem, u0, u1, u2]) rfl ⟨_, rfl, ?_, below_set3 (hBW.trans (hb2.mono (by omega))) (by omega) _ _ _⟩
    rw [HX.out]
    exact fun w0 h => h
  · have h0 : decide (X = 0) = false := decide_eq_false h
    rw [h0] at hzr
    have hn1 : decide ((-X).num < 0) = !m1 := by rw [n1, HM.out, decide_eq_true (show X ≠ 0 from h), Bool.and_true]
    have N1 := Lib.hid hn1
    have HN2 := Lib.hid n2
    have HN3 := Lib.hid n3
    have hn2 : valD xs = (((-X).num.natAbs : Nat) : Int) := by rw [n2, hX1]
    have hn3 : valD ds = (((-X).den : Nat) : Int) := by rw [n3, hX2]
    have H1 := Lib.hid hn2
    have H2 := Lib.hid hn3
    clear h h0 n1 n2 n3 hX1 hX2 hu0 hn1 hn2 hn3
    go_enter Tryz.func65, Tryz.ntmps65
    go_wp2_with fail
    refine hzr.mono ?_
    rintro e w2 ⟨rfl, hb2⟩
    have hs2 := hb2.size
    clear hzr hW p0 p1 p2
    obtain ⟨p0, p1, p2, _, _, _⟩ := (R0.later hb2).three
    have P2 := R1.later hb2
    obtain ⟨u0, u1, u2, g0, g1, g2⟩ := P2.three
    go_wp2_with fail
    refine bodyPost_ret (v := .agg #[.bool !m1, .slice a1 xs.length c1, .slice a2 ds.length c2]) (by simp [results, Tryz.results65, go_sem, u0, u1, u2]) rfl ⟨_, rfl, ?_, below_set3 (hBW.trans (hb2.mono (by omega))) (by omega) _ _ _⟩
    intro w0 h
    obtain ⟨xs', ds', a1', a2', c1', c2', e, A', B', v1', v2', hx', hd'⟩ := h
    simp only [Value.agg.injEq, Array.mk.injEq, List.cons.injEq, Value.slice.injEq, and_true] at e
    obtain ⟨-, ⟨rfl, e1, rfl⟩, rfl, e2, rfl⟩ := e
    exact ⟨xs', ds', _, _, _, _, by rw [N1.out, e1, e2], A', B', by rw [v1', HN2.out], by rw [v2', HN3.out], hx', hd'⟩
end Go.Proofs.YtjcacmnmbbnffaaGreat
