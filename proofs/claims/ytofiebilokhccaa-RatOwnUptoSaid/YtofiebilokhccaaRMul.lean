/-
  Contracts of package rat: Mul.
-/
import Derived.Test.YtofiebilokhccaaRNorm
namespace Go.Proofs.Ytofiebilokhccaa
open Go.RowKit
set_option linter.unusedVariables false
set_option linter.unusedSimpArgs false

theorem Row.at {w : World} {g : Nat} {t : TypeId} {cs : Array Value} (h : g = w.heap.size) : Row (w.alloc (.cells cs t)) g t cs := h ▸ Row.new w t cs

set_option maxRecDepth 100000 in
set_option maxHeartbeats 4000000 in
theorem mulQ_any {n : Nat} {w : World} {u v : Value} {X Y : Rat} (hu : ArgQ w u X n) (hv : ArgQ w v Y n) (hn : n ≤ 16777000) :
    Calls Try.prog 32 #[u, v] w fun e w' => ∃ r, e = .returned r ∧ ResQ w.heap.size w' r (X * Y) (2 * n + 4) ∧ Below w.heap.size w w' := by
  obtain ⟨m1, xs, ds, a1, a2, c1, c2, rfl, A, B, hX, hx, hd⟩ := hu
  obtain ⟨m2, zs, es, a3, a4, c3, c4, rfl, C, D, hY, hz, he⟩ := hv
  obtain ⟨W, hW⟩ : ∃ W, (((w.alloc (.cells #[.bool m1, .slice a1 xs.length c1, .slice a2 ds.length c2] 25)).alloc (.cells #[.bool m2, .slice a3 zs.length c3, .slice a4 es.length c4] 25)).alloc (.cells #[.bool false, .slice none 0 0, .slice none 0 0] 25)) = W := ⟨_, rfl⟩
  have R0 : Row W (w.heap.size) 25 #[.bool m1, .slice a1 xs.length c1, .slice a2 ds.length c2] := by rw [← hW]; exact (((Row.new _ _ _).alloc _).alloc _)
  have R1 : Row W (w.heap.size + 1) 25 #[.bool m2, .slice a3 zs.length c3, .slice a4 es.length c4] := by rw [← hW]; have h := (Row.new (w.alloc (.cells #[.bool m1, .slice a1 xs.length c1, .slice a2 ds.length c2] 25)) 25 #[.bool m2, .slice a3 zs.length c3, .slice a4 es.length c4]); simp only [World.size_alloc] at h; exact (h.alloc _)
  have R2 : Row W (w.heap.size + 1 + 1) 25 #[.bool false, .slice none 0 0, .slice none 0 0] := by rw [← hW]; have h := (Row.new ((w.alloc (.cells #[.bool m1, .slice a1 xs.length c1, .slice a2 ds.length c2] 25)).alloc (.cells #[.bool m2, .slice a3 zs.length c3, .slice a4 es.length c4] 25)) 25 #[.bool false, .slice none 0 0, .slice none 0 0]); simp only [World.size_alloc] at h; exact h
  have hBW : Below w.heap.size w W := by rw [← hW]; exact ((((Below.refl _ _).alloc (by (try simp) <;> omega) _).alloc (by (try simp) <;> omega) _).alloc (by (try simp) <;> omega) _)
  have hsW : w.heap.size + 1 + 1 + 1 ≤ W.heap.size := by rw [← hW]; simp
  have hfin : ratOf (!(m1 == m2)) (val xs * val zs) (val ds * val es) = X * Y := by rw [← hX, ← hY]; exact rat_prod m1 m2 _ _ _ _
  have HF := Lib.hid hfin
  clear hfin hX hY
  have mkS : ∀ X, Kept (w.heap.size + 1 + 1) W X → X.cell? ⟨w.heap.size, 0, none⟩ = some (.bool m1) ∧ X.cell? ⟨w.heap.size, 1, none⟩ = some (.slice a1 xs.length c1) ∧ X.cell? ⟨w.heap.size, 2, none⟩ = some (.slice a2 ds.length c2) ∧ X.cell? ⟨w.heap.size + 1, 0, none⟩ = some (.bool m2) ∧ X.cell? ⟨w.heap.size + 1, 1, none⟩ = some (.slice a3 zs.length c3) ∧ X.cell? ⟨w.heap.size + 1, 2, none⟩ = some (.slice a4 es.length c4) ∧ Kept (w.heap.size + 1 + 1) W X := fun X h => ⟨(R0.kept h (by omega)).cell 0, (R0.kept h (by omega)).cell 1, (R0.kept h (by omega)).cell 2, (R1.kept h (by omega)).cell 0, (R1.kept h (by omega)).cell 1, (R1.kept h (by omega)).cell 2, h⟩
  go_enter Try.func32, Try.ntmps32
  go_wp2_with fail
  clear hW
  go_region_held3 (fun X => X.cell? ⟨w.heap.size, 0, none⟩ = some (.bool m1) ∧ X.cell? ⟨w.heap.size, 1, none⟩ = some (.slice a1 xs.length c1) ∧ X.cell? ⟨w.heap.size, 2, none⟩ = some (.slice a2 ds.length c2) ∧ X.cell? ⟨w.heap.size + 1, 0, none⟩ = some (.bool m2) ∧ X.cell? ⟨w.heap.size + 1, 1, none⟩ = some (.slice a3 zs.length c3) ∧ X.cell? ⟨w.heap.size + 1, 2, none⟩ = some (.slice a4 es.length c4) ∧ Kept (w.heap.size + 1 + 1) W X)
    (((refine mkS _ ?_; (repeat' (first | exact Kept.refl _ _ | refine Kept.drew ?_ | refine Kept.alloc ?_ _ | refine Kept.set ?_ _ _ | refine Kept.below ?_ (by assumption))))))
    ((first
      | (go_at_call 12; refine (norm_any (n := 2 * n + 2) ⟨!(m1 == m2), z3, z4, ad3, ad4, cp3, cp4, rfl, A3', A4, HV.out, by omega, by omega⟩ (by omega)).mono ?_; rintro e w5 ⟨r5, rfl, q5, hb5⟩; obtain ⟨ng, fs, gs, f1, f2, j1, j2, rfl⟩ := q5.arg.box; have P5 := R2.kept (show Kept (w.heap.size + 1 + 1 + 1) W w5 by (repeat' (first | exact Kept.refl _ _ | refine Kept.drew ?_ | refine Kept.alloc ?_ _ | refine Kept.set ?_ _ _ | refine Kept.below ?_ (by assumption)))) (by omega); obtain ⟨u0, u1, u2, g0, g1, g2⟩ := P5.three)
      | (go_at_call 71; refine (product_any (xs := ds) (ys := es) (ad := a2) (bd := a4) (ca := c2) (cb := c4) (by first | (first | exact Row.at (by simp) | exact (Row.at (by simp)).drew | exact (Row.at (by simp)).alloc _ | exact ((Row.at (by simp)).alloc _).drew) | (refine Row.later ?_ hb3; first | exact Row.at (by simp) | exact (Row.at (by simp)).drew | exact (Row.at (by simp)).alloc _ | exact ((Row.at (by simp)).alloc _).drew)) (B.later (Kept.under (show Kept (w.heap.size + 1 + 1) W _ by (repeat' (first | exact Kept.refl _ _ | refine Kept.drew ?_ | refine Kept.alloc ?_ _ | refine Kept.set ?_ _ _ | refine Kept.below ?_ (by assumption)))) hBW (by omega) (by omega))) (D.later (Kept.under (show Kept (w.heap.size + 1 + 1) W _ by (repeat' (first | exact Kept.refl _ _ | refine Kept.drew ?_ | refine Kept.alloc ?_ _ | refine Kept.set ?_ _ _ | refine Kept.below ?_ (by assumption)))) hBW (by omega) (by omega))) hd he (by omega)).mono ?_; rintro e w4 ⟨r4, z4, rfl, q4, l4, hb4⟩; obtain ⟨ad4, cp4, rfl, q4, A4⟩ := q4.slice; have A3' := A3.later (show Below w3.heap.size w3 w4 by (repeat' (first | exact Below.refl _ _ | refine Below.drew ?_ | refine Below.alloc ?_ (by (try simp) <;> omega) _ | refine below_set3 ?_ (by (try simp) <;> omega) _ _ _ | refine below_set2 ?_ (by (try simp) <;> omega) _ _ | refine Below.setCell ?_ (by (try simp) <;> omega) _ | refine Below.trans ?_ (Below.mono (by assumption) (by (try simp) <;> omega))))); have HV := Lib.hid ((show ratOf (!(m1 == m2)) (val z3) (val z4) = ratOf (!(m1 == m2)) (val xs * val zs) (val ds * val es) by rw [q3.eq, q4.eq]).trans HF.out))
      | (go_at_call 71; refine (product_any (xs := xs) (ys := zs) (ad := a1) (bd := a3) (ca := c1) (cb := c3) (by first | (first | exact Row.at (by simp) | exact (Row.at (by simp)).drew | exact (Row.at (by simp)).alloc _ | exact ((Row.at (by simp)).alloc _).drew) | (refine Row.later ?_ hb3; first | exact Row.at (by simp) | exact (Row.at (by simp)).drew | exact (Row.at (by simp)).alloc _ | exact ((Row.at (by simp)).alloc _).drew)) (A.later (Kept.under (show Kept (w.heap.size + 1 + 1) W _ by (repeat' (first | exact Kept.refl _ _ | refine Kept.drew ?_ | refine Kept.alloc ?_ _ | refine Kept.set ?_ _ _ | refine Kept.below ?_ (by assumption)))) hBW (by omega) (by omega))) (C.later (Kept.under (show Kept (w.heap.size + 1 + 1) W _ by (repeat' (first | exact Kept.refl _ _ | refine Kept.drew ?_ | refine Kept.alloc ?_ _ | refine Kept.set ?_ _ _ | refine Kept.below ?_ (by assumption)))) hBW (by omega) (by omega))) hx hz (by omega)).mono ?_; rintro e w3 ⟨r3, z3, rfl, q3, l3, hb3⟩; obtain ⟨ad3, cp3, rfl, q3, A3⟩ := q3.slice)))
  all_goals (
    have hs4 := hb4.size
    have hs5 := hb5.size
    have hk5 := (show Kept (w.heap.size + 1 + 1 + 1) W w5 by (repeat' (first | exact Kept.refl _ _ | refine Kept.drew ?_ | refine Kept.alloc ?_ _ | refine Kept.set ?_ _ _ | refine Kept.below ?_ (by assumption)))).size
    have hk4 := (show Kept (w.heap.size + 1 + 1 + 1) W w4 by (repeat' (first | exact Kept.refl _ _ | refine Kept.drew ?_ | refine Kept.alloc ?_ _ | refine Kept.set ?_ _ _ | refine Kept.below ?_ (by assumption)))).size
    have hK4 := (Kept.under (show Kept (w.heap.size + 1 + 1 + 1) W w5 by (repeat' (first | exact Kept.refl _ _ | refine Kept.drew ?_ | refine Kept.alloc ?_ _ | refine Kept.set ?_ _ _ | refine Kept.below ?_ (by assumption)))) hBW (by omega) (by omega))
    go_wp2_with fail
    refine bodyPost_ret (v := .agg #[.bool ng, .slice f1 fs.length j1, .slice f2 gs.length j2]) (by simp [results, Try.results32, go_sem, u0, u1, u2]) rfl ⟨_, rfl, ?_, below_set3 hK4 (by omega) _ _ _⟩
    exact ((q5.far P5 (by decide) (kept3 _ _ _)).mono (by omega)).more (by omega))
end Go.Proofs.Ytofiebilokhccaa
