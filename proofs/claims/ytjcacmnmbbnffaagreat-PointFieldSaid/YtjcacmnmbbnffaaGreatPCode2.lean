/-
  Package point as it landed: relu, step, and the closures of Pow, Scale, total. (Made by wip/gen/gen_pcode2.py.)
-/
import Derived.Test.YtjcacmnmbbnffaaGreatPCode1
namespace Go.Proofs.YtjcacmnmbbnffaaGreat
open Go.RowKit
set_option linter.unusedVariables false
set_option linter.unusedSimpArgs false

def reluR (x : Rat) : Rat := if sgR x < 0 then 0 else x
def stepR (x : Rat) : Rat := if 0 < sgR x then 1 else 0
theorem intQ_one : intQ 1 = 1 := by decide +kernel
/-- limbs of a number that may be, copied -/
theorem copied_res {base n : Nat} {w : World} {q : Q3} {ad bd : Option Addr} {ca cb : Nat} (hok : okQ q = true) (A : Num base w (.slice ad q.num.length ca) q.num) (B : Num base w (.slice bd q.den.length cb) q.den) (wa : Wf q.num) (wb : Wf q.den) (h1 : q.num.length ≤ n) (h2 : q.den.length ≤ n) :
    ResQ base w (.agg #[.bool q.neg, .slice ad q.num.length ca, .slice bd q.den.length cb]) q.rat n := by
  unfold okQ validB isB at hok
  simp only [Bool.and_eq_true, decide_eq_true_eq, beq_iff_eq] at hok
  obtain ⟨e1, ⟨f1, v1⟩, f2, v2⟩ := hok
  exact ⟨q.num, q.den, ad, bd, ca, cb, by rw [e1], ⟨A, wa, f1, v1⟩, ⟨B, wb, f2, v2⟩, h1, h2⟩
set_option maxRecDepth 100000 in
set_option maxHeartbeats 4000000 in
theorem relu_any {n : Nat} {w : World} {u : Value} {q : Q3} (h : RawQ w u q) (hok : okQ q = true) (h1 : q.num.length ≤ n) (h2 : q.den.length ≤ n) (hn : n ≤ 16777000) :
    Calls Tryz.prog 60 #[u] w fun e w' => ∃ r, e = .returned r ∧ ResQ w.heap.size w' r (reluR q.rat) (n + 2) ∧ Below w.heap.size w w' := by
  obtain ⟨ad, bd, ca, cb, rfl, A, D, na, nb⟩ := h
  have HRAW : Hid (RawQ w (.agg #[.bool q.neg, .slice ad q.num.length ca, .slice bd q.den.length cb]) q) := Lib.hid ⟨ad, bd, ca, cb, rfl, A, D, na, nb⟩
  obtain ⟨W, hW⟩ : ∃ W, ((w.alloc (.cells #[.bool q.neg, .slice ad q.num.length ca, .slice bd q.den.length cb] 51)).alloc (.cells #[.bool false, .slice none 0 0, .slice none 0 0] 51)) = W := ⟨_, rfl⟩
  have R0 : Row W (w.heap.size) 51 #[.bool q.neg, .slice ad q.num.length ca, .slice bd q.den.length cb] := by rw [← hW]; exact ((Row.new _ _ _).alloc _)
  have R1 : Row W (w.heap.size + 1) 51 #[.bool false, .slice none 0 0, .slice none 0 0] := by rw [← hW]; have h := (Row.new (w.alloc (.cells #[.bool q.neg, .slice ad q.num.length ca, .slice bd q.den.length cb] 51)) 51 #[.bool false, .slice none 0 0, .slice none 0 0]); simp only [World.size_alloc] at h; exact h
  have hBW : Below w.heap.size w W := by rw [← hW]; exact (((Below.refl _ _).alloc (by (try simp) <;> omega) _).alloc (by (try simp) <;> omega) _)
  have hsW : w.heap.size + 1 + 1 ≤ W.heap.size := by rw [← hW]; simp
  have hsg := signQ_any ((HRAW.out.later hBW).arg h1 h2) hn
  obtain ⟨σ, hσ⟩ : ∃ σ, sgR q.rat = σ := ⟨_, rfl⟩
  rw [hσ] at hsg
  have HS := Lib.hid hσ
  have HD := Lib.hid na
  have HE := Lib.hid nb
  have HA := Lib.hid A
  have HB := Lib.hid D
  obtain ⟨c0, c1, c2, _, _, _⟩ := R0.three
  clear hσ na nb A D
  by_cases hneg : σ < 0
  · have e : reluR q.rat = intQ 0 := by unfold reluR; rw [HS.out, if_pos hneg, intQ_zero]
    rw [e]
    clear e
    go_enter Tryz.func60, Tryz.ntmps60
    (try rw [hW])
    go_wp2_with (first
      | (go_at_call 104; refine hsg.mono ?_; rintro e w1 ⟨rfl, hb1⟩; have s1 := hb1.size)
      | (go_at_call 105; refine (int_any 0 _ (by omega) (by omega)).mono ?_; rintro e w2 ⟨r, rfl, qv, hb2⟩; have Q2 := Lib.hid qv; obtain ⟨m5, f1, l1, j1, f2, l2, j2, rfl⟩ := qv.shape; clear qv; have P2 := (R1.later hb1).later hb2; have s2 := hb2.size; obtain ⟨u0, u1, u2, g0, g1, g2⟩ := P2.three))
    have P3 := P2.set3 (.bool m5) (.slice f1 l1 j1) (.slice f2 l2 j2)
    obtain ⟨z0, z1, z2, _, _, _⟩ := P3.three
    refine bodyPost_ret (v := .agg #[.bool m5, .slice f1 l1 j1, .slice f2 l2 j2]) (by simp [results, Tryz.results60, go_sem, z0, z1, z2]) rfl ⟨_, rfl, ?_, below_set3 (hBW.trans ((hb1.mono (by omega)).trans (hb2.mono (by omega)))) (by omega) _ _ _⟩
    skip
    exact ((Q2.out.mono (by omega)).more (by omega)).far P2 (by decide) (kept3 _ _ _)
  · have e : reluR q.rat = q.rat := by unfold reluR; rw [HS.out, if_neg hneg]
    rw [e]
    clear e
    have hneg' : ¬ σ < 0 := hneg
    have mkS : ∀ X, Kept (w.heap.size + 1) W X → X.cell? ⟨w.heap.size, 0, none⟩ = some (.bool q.neg) ∧ X.cell? ⟨w.heap.size, 1, none⟩ = some (.slice ad q.num.length ca) ∧ X.cell? ⟨w.heap.size, 2, none⟩ = some (.slice bd q.den.length cb) ∧ Kept (w.heap.size + 1) W X := fun X h => ⟨(R0.kept h (by omega)).cell 0, (R0.kept h (by omega)).cell 1, (R0.kept h (by omega)).cell 2, h⟩
    go_enter Tryz.func60, Tryz.ntmps60
    (try rw [hW])
    go_wp2_with (go_at_call 104; refine hsg.mono ?_; rintro e w1 ⟨rfl, hb1⟩)
    have hw1 : w.heap.size ≤ w1.heap.size := by have := hb1.size; omega
    clear hW hneg hneg'
    go_region_held3 (fun X => X.cell? ⟨w.heap.size, 0, none⟩ = some (.bool q.neg) ∧ X.cell? ⟨w.heap.size, 1, none⟩ = some (.slice ad q.num.length ca) ∧ X.cell? ⟨w.heap.size, 2, none⟩ = some (.slice bd q.den.length cb) ∧ Kept (w.heap.size + 1) W X)
      (((refine mkS _ ?_; (repeat' (first | exact Kept.refl _ _ | refine Kept.drew ?_ | refine Kept.alloc ?_ _ | refine Kept.set ?_ _ _ | refine Kept.below ?_ (by assumption))))))
      ((first
        | (go_at_call 106; (with_reducible refine (cloneN_any (HB.out.later (Kept.under (show Kept (w.heap.size + 1) W _ by (repeat' (first | exact Kept.refl _ _ | refine Kept.drew ?_ | refine Kept.alloc ?_ _ | refine Kept.set ?_ _ _ | refine Kept.below ?_ (by assumption)))) hBW (by omega) (by omega))) HE.out (by omega)).mono ?_); rintro e w4 ⟨r4, rfl, q4, hb4⟩; obtain ⟨ad4, cp4, rfl⟩ := ownT_slice q4; have P4 := R1.kept (show Kept (w.heap.size + 1 + 1 + 1) W w4 by (repeat' (first | exact Kept.refl _ _ | refine Kept.drew ?_ | refine Kept.alloc ?_ _ | refine Kept.set ?_ _ _ | refine Kept.below ?_ (by assumption)))) (by omega); obtain ⟨u0, u1, u2, g0, g1, g2⟩ := P4.three)
        | (go_at_call 106; (with_reducible refine (cloneN_any (HA.out.later (Kept.under (show Kept (w.heap.size + 1) W _ by (repeat' (first | exact Kept.refl _ _ | refine Kept.drew ?_ | refine Kept.alloc ?_ _ | refine Kept.set ?_ _ _ | refine Kept.below ?_ (by assumption)))) hBW (by omega) (by omega))) HD.out (by omega)).mono ?_); rintro e w3 ⟨r3, rfl, q3, hb3⟩; obtain ⟨ad3, cp3, rfl⟩ := ownT_slice q3)))
    have Q3' := Lib.hid (q3.later hb4)
    have Q4 := Lib.hid q4
    clear q3 q4
    have hk4 := (show Kept (w.heap.size + 1 + 1 + 1) W w4 by (repeat' (first | exact Kept.refl _ _ | refine Kept.drew ?_ | refine Kept.alloc ?_ _ | refine Kept.set ?_ _ _ | refine Kept.below ?_ (by assumption)))).size
    have hk3 := (show Kept (w.heap.size + 1 + 1 + 1) W w3 by (repeat' (first | exact Kept.refl _ _ | refine Kept.drew ?_ | refine Kept.alloc ?_ _ | refine Kept.set ?_ _ _ | refine Kept.below ?_ (by assumption)))).size
    have hK4 := (Kept.under (show Kept (w.heap.size + 1 + 1 + 1) W w4 by (repeat' (first | exact Kept.refl _ _ | refine Kept.drew ?_ | refine Kept.alloc ?_ _ | refine Kept.set ?_ _ _ | refine Kept.below ?_ (by assumption)))) hBW (by omega) (by omega))
    go_wp2_with fail
    have hQ : ResQ w.heap.size w4 (.agg #[.bool q.neg, .slice ad3 q.num.length cp3, .slice ad4 q.den.length cp4]) q.rat (n + 2) :=
      copied_res hok (Num.mono Q3'.out (by show w.heap.size ≤ w1.heap.size; omega)) (Num.mono Q4.out (by omega)) HA.out.wf HB.out.wf (by omega) (by omega)
    refine bodyPost_ret (v := .agg #[.bool q.neg, .slice ad3 q.num.length cp3, .slice ad4 q.den.length cp4]) (by simp [results, Tryz.results60, go_sem, u0, u1, u2]) rfl ⟨_, rfl, hQ.far P4 (by decide) (kept3 _ _ _), below_set3 hK4 (by omega) _ _ _⟩
set_option maxRecDepth 100000 in
set_option maxHeartbeats 4000000 in
theorem step_any {n : Nat} {w : World} {u : Value} {q : Q3} (h : RawQ w u q) (h1 : q.num.length ≤ n) (h2 : q.den.length ≤ n) (hn : n ≤ 16777000) :
    Calls Tryz.prog 61 #[u] w fun e w' => ∃ r, e = .returned r ∧ ResQ w.heap.size w' r (stepR q.rat) (n + 2) ∧ Below w.heap.size w w' := by
  obtain ⟨ad, bd, ca, cb, rfl, A, D, na, nb⟩ := h
  have HRAW : Hid (RawQ w (.agg #[.bool q.neg, .slice ad q.num.length ca, .slice bd q.den.length cb]) q) := Lib.hid ⟨ad, bd, ca, cb, rfl, A, D, na, nb⟩
  obtain ⟨W, hW⟩ : ∃ W, ((w.alloc (.cells #[.bool q.neg, .slice ad q.num.length ca, .slice bd q.den.length cb] 51)).alloc (.cells #[.bool false, .slice none 0 0, .slice none 0 0] 51)) = W := ⟨_, rfl⟩
  have R0 : Row W (w.heap.size) 51 #[.bool q.neg, .slice ad q.num.length ca, .slice bd q.den.length cb] := by rw [← hW]; exact ((Row.new _ _ _).alloc _)
  have R1 : Row W (w.heap.size + 1) 51 #[.bool false, .slice none 0 0, .slice none 0 0] := by rw [← hW]; have h := (Row.new (w.alloc (.cells #[.bool q.neg, .slice ad q.num.length ca, .slice bd q.den.length cb] 51)) 51 #[.bool false, .slice none 0 0, .slice none 0 0]); simp only [World.size_alloc] at h; exact h
  have hBW : Below w.heap.size w W := by rw [← hW]; exact (((Below.refl _ _).alloc (by (try simp) <;> omega) _).alloc (by (try simp) <;> omega) _)
  have hsW : w.heap.size + 1 + 1 ≤ W.heap.size := by rw [← hW]; simp
  have hsg := signQ_any ((HRAW.out.later hBW).arg h1 h2) hn
  obtain ⟨σ, hσ⟩ : ∃ σ, sgR q.rat = σ := ⟨_, rfl⟩
  rw [hσ] at hsg
  have HS := Lib.hid hσ
  have HD := Lib.hid na
  have HE := Lib.hid nb
  have HA := Lib.hid A
  have HB := Lib.hid D
  obtain ⟨c0, c1, c2, _, _, _⟩ := R0.three
  clear hσ na nb A D
  by_cases hpos : 0 < σ
  · have hgt : σ > 0 := hpos
    have e : stepR q.rat = intQ 1 := by unfold stepR; rw [HS.out, if_pos hpos, intQ_one]
    rw [e]
    clear e
    go_enter Tryz.func61, Tryz.ntmps61
    (try rw [hW])
    go_wp2_with (first
      | (go_at_call 104; refine hsg.mono ?_; rintro e w1 ⟨rfl, hb1⟩; have s1 := hb1.size)
      | (go_at_call 105; refine (int_any 1 _ (by omega) (by omega)).mono ?_; rintro e w2 ⟨r, rfl, qv, hb2⟩; have Q2 := Lib.hid qv; obtain ⟨m5, f1, l1, j1, f2, l2, j2, rfl⟩ := qv.shape; clear qv; have P2 := (R1.later hb1).later hb2; have s2 := hb2.size; obtain ⟨u0, u1, u2, g0, g1, g2⟩ := P2.three))
    have P3 := P2.set3 (.bool m5) (.slice f1 l1 j1) (.slice f2 l2 j2)
    obtain ⟨z0, z1, z2, _, _, _⟩ := P3.three
    refine bodyPost_ret (v := .agg #[.bool m5, .slice f1 l1 j1, .slice f2 l2 j2]) (by simp [results, Tryz.results61, go_sem, z0, z1, z2]) rfl ⟨_, rfl, ?_, below_set3 (hBW.trans ((hb1.mono (by omega)).trans (hb2.mono (by omega)))) (by omega) _ _ _⟩
    skip
    exact ((Q2.out.mono (by omega)).more (by omega)).far P2 (by decide) (kept3 _ _ _)
  · have hgt : ¬ σ > 0 := hpos
    have e : stepR q.rat = intQ 0 := by unfold stepR; rw [HS.out, if_neg hpos, intQ_zero]
    rw [e]
    clear e
    go_enter Tryz.func61, Tryz.ntmps61
    (try rw [hW])
    go_wp2_with (first
      | (go_at_call 104; refine hsg.mono ?_; rintro e w1 ⟨rfl, hb1⟩; have s1 := hb1.size)
      | (go_at_call 105; refine (int_any 0 _ (by omega) (by omega)).mono ?_; rintro e w2 ⟨r, rfl, qv, hb2⟩; have Q2 := Lib.hid qv; obtain ⟨m5, f1, l1, j1, f2, l2, j2, rfl⟩ := qv.shape; clear qv; have P2 := (R1.later hb1).later hb2; have s2 := hb2.size; obtain ⟨u0, u1, u2, g0, g1, g2⟩ := P2.three))
    have P3 := P2.set3 (.bool m5) (.slice f1 l1 j1) (.slice f2 l2 j2)
    obtain ⟨z0, z1, z2, _, _, _⟩ := P3.three
    refine bodyPost_ret (v := .agg #[.bool m5, .slice f1 l1 j1, .slice f2 l2 j2]) (by simp [results, Tryz.results61, go_sem, z0, z1, z2]) rfl ⟨_, rfl, ?_, below_set3 (hBW.trans ((hb1.mono (by omega)).trans (hb2.mono (by omega)))) (by omega) _ _ _⟩
    skip
    exact ((Q2.out.mono (by omega)).more (by omega)).far P2 (by decide) (kept3 _ _ _)
set_option maxRecDepth 100000 in
set_option maxHeartbeats 4000000 in
theorem pow1_any {n N g : Nat} {w : World} {u : Value} {q : Q3} (h : RawQ w u q) (h1 : q.num.length ≤ n) (h2 : q.den.length ≤ n) (hn : n ≤ 1000000) (hN : N ≤ 16) (hg : w.cell? ⟨g, 0, none⟩ = some (.int .i64 (N : Int))) :
    Calls Tryz.prog 71 #[u, .pointer (some ⟨g, 0, none⟩)] w fun e w' => ∃ r, e = .returned r ∧ ResQ w.heap.size w' r (q.rat ^ N) ((n + 2) * N + 1 + 2) ∧ Below w.heap.size w w' := by
  obtain ⟨ad, bd, ca, cb, rfl, A, D, na, nb⟩ := h
  have HRAW : Hid (RawQ w (.agg #[.bool q.neg, .slice ad q.num.length ca, .slice bd q.den.length cb]) q) := Lib.hid ⟨ad, bd, ca, cb, rfl, A, D, na, nb⟩
  obtain ⟨W, hW⟩ : ∃ W, ((w.alloc (.cells #[.bool q.neg, .slice ad q.num.length ca, .slice bd q.den.length cb] 51)).alloc (.cells #[.bool false, .slice none 0 0, .slice none 0 0] 51)) = W := ⟨_, rfl⟩
  have R0 : Row W (w.heap.size) 51 #[.bool q.neg, .slice ad q.num.length ca, .slice bd q.den.length cb] := by rw [← hW]; exact ((Row.new _ _ _).alloc _)
  have R1 : Row W (w.heap.size + 1) 51 #[.bool false, .slice none 0 0, .slice none 0 0] := by rw [← hW]; have h := (Row.new (w.alloc (.cells #[.bool q.neg, .slice ad q.num.length ca, .slice bd q.den.length cb] 51)) 51 #[.bool false, .slice none 0 0, .slice none 0 0]); simp only [World.size_alloc] at h; exact h
  have hBW : Below w.heap.size w W := by rw [← hW]; exact (((Below.refl _ _).alloc (by (try simp) <;> omega) _).alloc (by (try simp) <;> omega) _)
  have hsW : w.heap.size + 1 + 1 ≤ W.heap.size := by rw [← hW]; simp
  have hgl := World.block_lt_of_cell? w _ hg
  have cg := (hBW.cell hgl).trans hg
  have hm : (n + 2) * N ≤ (n + 2) * 16 := Nat.mul_le_mul_left _ hN
  have hp := powQ_any (N := N) ((HRAW.out.later hBW).arg h1 h2) (by omega) (by omega) (by omega)
  have HA := Lib.hid A
  clear A D na nb
  obtain ⟨c0, c1, c2, _, _, _⟩ := R0.three
  go_enter Tryz.func71, Tryz.ntmps71
  (try rw [hW])
  go_wp2_with (go_at_call 72; refine hp.mono ?_; rintro e w2 ⟨r, rfl, qv, hb2⟩; have Q2 := Lib.hid qv; obtain ⟨m5, f1, l1, j1, f2, l2, j2, rfl⟩ := qv.shape; clear qv; have P2 := R1.later hb2; have s2 := hb2.size; obtain ⟨u0, u1, u2, g0, g1, g2⟩ := P2.three)
  have P3 := P2.set3 (.bool m5) (.slice f1 l1 j1) (.slice f2 l2 j2)
  obtain ⟨z0, z1, z2, _, _, _⟩ := P3.three
  refine bodyPost_ret (v := .agg #[.bool m5, .slice f1 l1 j1, .slice f2 l2 j2]) (by simp [results, Tryz.results71, go_sem, z0, z1, z2]) rfl ⟨_, rfl, ?_, below_set3 (hBW.trans (hb2.mono (by omega))) (by omega) _ _ _⟩
  exact (Q2.out.mono (by omega)).far P2 (by decide) (kept3 _ _ _)
set_option maxRecDepth 100000 in
set_option maxHeartbeats 4000000 in
theorem scale1_any {n g : Nat} {w : World} {u v : Value} {q : Q3} {X : Rat} (h : RawQ w u q) (h1 : q.num.length ≤ n) (h2 : q.den.length ≤ n) (hn : n ≤ 16777000) {y0 : Bool} {y1 y2 : Option Addr} {i1 i2 k1 k2 : Nat} (hv : ArgQ w (.agg #[.bool y0, .slice y1 i1 k1, .slice y2 i2 k2]) X n) (hg : Row w g 51 #[.bool y0, .slice y1 i1 k1, .slice y2 i2 k2]) :
    Calls Tryz.prog 75 #[u, .pointer (some ⟨g, 0, none⟩)] w fun e w' => ∃ r, e = .returned r ∧ ResQ w.heap.size w' r (q.rat * X) (2 * n + 4) ∧ Below w.heap.size w w' := by
  obtain ⟨ad, bd, ca, cb, rfl, A, D, na, nb⟩ := h
  have HRAW : Hid (RawQ w (.agg #[.bool q.neg, .slice ad q.num.length ca, .slice bd q.den.length cb]) q) := Lib.hid ⟨ad, bd, ca, cb, rfl, A, D, na, nb⟩
  obtain ⟨W, hW⟩ : ∃ W, ((w.alloc (.cells #[.bool q.neg, .slice ad q.num.length ca, .slice bd q.den.length cb] 51)).alloc (.cells #[.bool false, .slice none 0 0, .slice none 0 0] 51)) = W := ⟨_, rfl⟩
  have R0 : Row W (w.heap.size) 51 #[.bool q.neg, .slice ad q.num.length ca, .slice bd q.den.length cb] := by rw [← hW]; exact ((Row.new _ _ _).alloc _)
  have R1 : Row W (w.heap.size + 1) 51 #[.bool false, .slice none 0 0, .slice none 0 0] := by rw [← hW]; have h := (Row.new (w.alloc (.cells #[.bool q.neg, .slice ad q.num.length ca, .slice bd q.den.length cb] 51)) 51 #[.bool false, .slice none 0 0, .slice none 0 0]); simp only [World.size_alloc] at h; exact h
  have hBW : Below w.heap.size w W := by rw [← hW]; exact (((Below.refl _ _).alloc (by (try simp) <;> omega) _).alloc (by (try simp) <;> omega) _)
  have hsW : w.heap.size + 1 + 1 ≤ W.heap.size := by rw [← hW]; simp
  have G0 := hg.later hBW
  obtain ⟨d0, d1, d2, _, _, _⟩ := G0.three
  have hp := mulQ_any ((HRAW.out.later hBW).arg h1 h2) (hv.later hBW) hn
  have HA := Lib.hid A
  have HV := Lib.hid hv
  clear A D na nb hv
  obtain ⟨c0, c1, c2, _, _, _⟩ := R0.three
  go_enter Tryz.func75, Tryz.ntmps75
  (try rw [hW])
  go_wp2_with (go_at_call 54; refine hp.mono ?_; rintro e w2 ⟨r, rfl, qv, hb2⟩; have Q2 := Lib.hid qv; obtain ⟨m5, f1, l1, j1, f2, l2, j2, rfl⟩ := qv.shape; clear qv; have P2 := R1.later hb2; have s2 := hb2.size; obtain ⟨u0, u1, u2, g0, g1, g2⟩ := P2.three)
  have P3 := P2.set3 (.bool m5) (.slice f1 l1 j1) (.slice f2 l2 j2)
  obtain ⟨z0, z1, z2, _, _, _⟩ := P3.three
  refine bodyPost_ret (v := .agg #[.bool m5, .slice f1 l1 j1, .slice f2 l2 j2]) (by simp [results, Tryz.results75, go_sem, z0, z1, z2]) rfl ⟨_, rfl, ?_, below_set3 (hBW.trans (hb2.mono (by omega))) (by omega) _ _ _⟩
  exact (Q2.out.mono (by omega)).far P2 (by decide) (kept3 _ _ _)
set_option maxRecDepth 100000 in
set_option maxHeartbeats 4000000 in
theorem total1_any {n g F : Nat} {R : Rat} {N : Nat} {w : World} {u v : Value} {p q : Q3} (hu : RawQ w u p) (hv : RawQ w v q) (hg : w.cell? ⟨g, 0, none⟩ = some (.func (.func F) #[] #[])) (heF : ∀ args w, (callFunc F args).run Tryz.prog w = .ok (.enter F args) w)
    (hdo : ∀ W x y, Below w.heap.size w W → RawQ W x p → RawQ W y q → Calls Tryz.prog F #[x, y] W fun e w' => ∃ r, e = .returned r ∧ ResQ W.heap.size w' r R N ∧ Below W.heap.size W w') :
    Calls Tryz.prog 93 #[u, v, .pointer (some ⟨g, 0, none⟩)] w fun e w' => ∃ r, e = .returned (.tuple #[r, .int .i64 0]) ∧ ResQ w.heap.size w' r R N ∧ Below w.heap.size w w' := by
  have HU := Lib.hid hu
  have HV := Lib.hid hv
  obtain ⟨a1, b1, ca1, cb1, rfl, _⟩ := hu
  obtain ⟨a2, b2, ca2, cb2, rfl, _⟩ := hv
  obtain ⟨W, hW⟩ : ∃ W, (((w.alloc (.cells #[.bool p.neg, .slice a1 p.num.length ca1, .slice b1 p.den.length cb1] 51)).alloc (.cells #[.bool q.neg, .slice a2 q.num.length ca2, .slice b2 q.den.length cb2] 51)).alloc (.cells #[.bool false, .slice none 0 0, .slice none 0 0] 51)) = W := ⟨_, rfl⟩
  have R0 : Row W (w.heap.size) 51 #[.bool p.neg, .slice a1 p.num.length ca1, .slice b1 p.den.length cb1] := by rw [← hW]; exact ((Row.new _ _ _).alloc _).alloc _
  have R1 : Row W (w.heap.size + 1) 51 #[.bool q.neg, .slice a2 q.num.length ca2, .slice b2 q.den.length cb2] := by rw [← hW]; have h := (Row.new (w.alloc (.cells #[.bool p.neg, .slice a1 p.num.length ca1, .slice b1 p.den.length cb1] 51)) 51 #[.bool q.neg, .slice a2 q.num.length ca2, .slice b2 q.den.length cb2]); simp only [World.size_alloc] at h; exact h.alloc _
  have R2 : Row W (w.heap.size + 1 + 1) 51 #[.bool false, .slice none 0 0, .slice none 0 0] := by rw [← hW]; have h := (Row.new ((w.alloc (.cells #[.bool p.neg, .slice a1 p.num.length ca1, .slice b1 p.den.length cb1] 51)).alloc (.cells #[.bool q.neg, .slice a2 q.num.length ca2, .slice b2 q.den.length cb2] 51)) 51 #[.bool false, .slice none 0 0, .slice none 0 0]); simp only [World.size_alloc] at h; exact h
  have hBW : Below w.heap.size w W := by rw [← hW]; exact ((((Below.refl _ _).alloc (by (try simp) <;> omega) _).alloc (by (try simp) <;> omega) _).alloc (by (try simp) <;> omega) _)
  have hsW : w.heap.size + 1 + 1 + 1 ≤ W.heap.size := by rw [← hW]; simp
  have cg := (hBW.cell (World.block_lt_of_cell? w _ hg)).trans hg
  have hp := hdo W _ _ hBW (HU.out.later hBW) (HV.out.later hBW)
  obtain ⟨c0, c1, c2, _, _, _⟩ := R0.three
  obtain ⟨d0, d1, d2, _, _, _⟩ := R1.three
  have HDO := Lib.hid hdo
  clear hdo hg
  go_enter Tryz.func93, Tryz.ntmps93
  (try rw [hW])
  go_wp2_with fail
  refine hp.mono ?_
  rintro e w2 ⟨r, rfl, qv, hb2⟩
  have Q2 := Lib.hid qv
  obtain ⟨m5, f1, l1, j1, f2, l2, j2, rfl⟩ := qv.shape
  clear qv
  have P2 := R2.later hb2
  have s2 := hb2.size
  obtain ⟨u0, u1, u2, g0, g1, g2⟩ := P2.three
  go_wp2_with fail
  have P3 := P2.set3 (.bool m5) (.slice f1 l1 j1) (.slice f2 l2 j2)
  obtain ⟨z0, z1, z2, _, _, _⟩ := P3.three
  refine bodyPost_ret (v := .tuple #[.agg #[.bool m5, .slice f1 l1 j1, .slice f2 l2 j2], .int .i64 0]) (by simp [results, Tryz.results93, go_sem, z0, z1, z2]) rfl ⟨_, rfl, ?_, below_set3 (hBW.trans (hb2.mono (by omega))) (by omega) _ _ _⟩
  exact (Q2.out.mono (by omega)).far P2 (by decide) (kept3 _ _ _)
theorem total_any (F : Nat) (w : World) : Calls Tryz.prog 47 #[.func (.func F) #[] #[]] w fun e w' => e = .returned (.func (.func 93) #[] #[.pointer (some ⟨w.heap.size, 0, none⟩)]) ∧
    w' = w.alloc (.cells #[.func (.func F) #[] #[]] 73) := by
  go_enter Tryz.func47, Tryz.ntmps47
  go_wp2
  go_ret
  simp
end Go.Proofs.YtjcacmnmbbnffaaGreat
