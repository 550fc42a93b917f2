/-
  Contracts of the reference of layer 3: Sub, Cmp, Div, Int, Frac, Bits.
-/
import Derived.Test.YtofiebilokhccaaRRefB
import Derived.Test.YtofiebilokhccaaRRefC
import Derived.Test.YtofiebilokhccaaRRefD
import Derived.Test.YtofiebilokhccaaRInt
namespace Go.Proofs.Ytofiebilokhccaa
open Go.RowKit
set_option linter.unusedVariables false
set_option linter.unusedSimpArgs false

theorem ArgR.box {w : World} {v : Value} {x : Rat} {n : Nat} (h : ArgR w v x n) : ∃ (m : Bool) (zs ys : List Int) (ad bd : Option Addr) (ca cb : Nat), v = .agg #[.bool m, .slice ad zs.length ca, .slice bd ys.length cb] := by
  obtain ⟨zs, ys, ad, bd, ca, cb, rfl, _⟩ := h
  exact ⟨_, zs, ys, ad, bd, ca, cb, rfl⟩

set_option maxRecDepth 100000 in
set_option maxHeartbeats 4000000 in
theorem subR_any {n : Nat} {w : World} {u v : Value} {X Y : Rat} (hu : ArgR w u X n) (hv : ArgR w v Y n) (hn : n ≤ 1000000000) :
    Calls Try.prog 29 #[u, v] w fun e w' => ∃ r, e = .returned r ∧ ArgR w' r (X - Y) (3 * n + 6) ∧ Below w.heap.size w w' := by
  obtain ⟨m1, xs, ds, a1, a2, c1, c2, rfl⟩ := hu.box
  obtain ⟨m2, zs, es, a3, a4, c3, c4, rfl⟩ := hv.box
  obtain ⟨W, hW⟩ : ∃ W, (((w.alloc (.cells #[.bool m1, .slice a1 xs.length c1, .slice a2 ds.length c2] 34)).alloc (.cells #[.bool m2, .slice a3 zs.length c3, .slice a4 es.length c4] 34)).alloc (.cells #[.bool false, .slice none 0 0, .slice none 0 0] 34)) = W := ⟨_, rfl⟩
  have R0 : Row W (w.heap.size) 34 #[.bool m1, .slice a1 xs.length c1, .slice a2 ds.length c2] := by rw [← hW]; exact (((Row.new _ _ _).alloc _).alloc _)
  have R1 : Row W (w.heap.size + 1) 34 #[.bool m2, .slice a3 zs.length c3, .slice a4 es.length c4] := by rw [← hW]; have h := (Row.new (w.alloc (.cells #[.bool m1, .slice a1 xs.length c1, .slice a2 ds.length c2] 34)) 34 #[.bool m2, .slice a3 zs.length c3, .slice a4 es.length c4]); simp only [World.size_alloc] at h; exact (h.alloc _)
  have R2 : Row W (w.heap.size + 1 + 1) 34 #[.bool false, .slice none 0 0, .slice none 0 0] := by rw [← hW]; have h := (Row.new ((w.alloc (.cells #[.bool m1, .slice a1 xs.length c1, .slice a2 ds.length c2] 34)).alloc (.cells #[.bool m2, .slice a3 zs.length c3, .slice a4 es.length c4] 34)) 34 #[.bool false, .slice none 0 0, .slice none 0 0]); simp only [World.size_alloc] at h; exact h
  have hBW : Below w.heap.size w W := by rw [← hW]; exact ((((Below.refl _ _).alloc (by (try simp) <;> omega) _).alloc (by (try simp) <;> omega) _).alloc (by (try simp) <;> omega) _)
  have hsW : w.heap.size + 1 + 1 + 1 ≤ W.heap.size := by rw [← hW]; simp
  have mkS : ∀ X, Kept (w.heap.size + 1 + 1) W X → X.cell? ⟨w.heap.size, 0, none⟩ = some (.bool m1) ∧ X.cell? ⟨w.heap.size, 1, none⟩ = some (.slice a1 xs.length c1) ∧ X.cell? ⟨w.heap.size, 2, none⟩ = some (.slice a2 ds.length c2) ∧ X.cell? ⟨w.heap.size + 1, 0, none⟩ = some (.bool m2) ∧ X.cell? ⟨w.heap.size + 1, 1, none⟩ = some (.slice a3 zs.length c3) ∧ X.cell? ⟨w.heap.size + 1, 2, none⟩ = some (.slice a4 es.length c4) ∧ Kept (w.heap.size + 1 + 1) W X := fun X h => ⟨(R0.kept h (by omega)).cell 0, (R0.kept h (by omega)).cell 1, (R0.kept h (by omega)).cell 2, (R1.kept h (by omega)).cell 0, (R1.kept h (by omega)).cell 1, (R1.kept h (by omega)).cell 2, h⟩
  go_enter Try.func29, Try.ntmps29
  go_wp2_with fail
  clear hW
  go_region_held3 (fun X => X.cell? ⟨w.heap.size, 0, none⟩ = some (.bool m1) ∧ X.cell? ⟨w.heap.size, 1, none⟩ = some (.slice a1 xs.length c1) ∧ X.cell? ⟨w.heap.size, 2, none⟩ = some (.slice a2 ds.length c2) ∧ X.cell? ⟨w.heap.size + 1, 0, none⟩ = some (.bool m2) ∧ X.cell? ⟨w.heap.size + 1, 1, none⟩ = some (.slice a3 zs.length c3) ∧ X.cell? ⟨w.heap.size + 1, 2, none⟩ = some (.slice a4 es.length c4) ∧ Kept (w.heap.size + 1 + 1) W X)
    (((refine mkS _ ?_; (repeat' (first | exact Kept.refl _ _ | refine Kept.drew ?_ | refine Kept.alloc ?_ _ | refine Kept.set ?_ _ _ | refine Kept.below ?_ (by assumption))))))
    ((first
      | (go_at_call 27; refine (addR_any (hu.later (Kept.under (show Kept (w.heap.size + 1 + 1) W _ by (repeat' (first | exact Kept.refl _ _ | refine Kept.drew ?_ | refine Kept.alloc ?_ _ | refine Kept.set ?_ _ _ | refine Kept.below ?_ (by assumption)))) hBW (by omega) (by omega))) h3 hn).mono ?_; rintro e w4 ⟨r4, rfl, q4, hb4⟩; rw [← Rat.sub_eq_add_neg] at q4; obtain ⟨m4, fs, gs, f1, f2, j1, j2, rfl⟩ := q4.box; have P4 := R2.kept (show Kept (w.heap.size + 1 + 1 + 1) W w4 by (repeat' (first | exact Kept.refl _ _ | refine Kept.drew ?_ | refine Kept.alloc ?_ _ | refine Kept.set ?_ _ _ | refine Kept.below ?_ (by assumption)))) (by omega); obtain ⟨u0, u1, u2, g0, g1, g2⟩ := P4.three)
      | (go_at_call 33; refine (negR_any (hv.later (Kept.under (show Kept (w.heap.size + 1 + 1) W _ by (repeat' (first | exact Kept.refl _ _ | refine Kept.drew ?_ | refine Kept.alloc ?_ _ | refine Kept.set ?_ _ _ | refine Kept.below ?_ (by assumption)))) hBW (by omega) (by omega)))).mono ?_; rintro e w3 ⟨r3, rfl, h3, hb3⟩)))
  have hs4 := hb4.size
  have hk4 := (show Kept (w.heap.size + 1 + 1 + 1) W w4 by (repeat' (first | exact Kept.refl _ _ | refine Kept.drew ?_ | refine Kept.alloc ?_ _ | refine Kept.set ?_ _ _ | refine Kept.below ?_ (by assumption)))).size
  have hK4 := (Kept.under (show Kept (w.heap.size + 1 + 1 + 1) W w4 by (repeat' (first | exact Kept.refl _ _ | refine Kept.drew ?_ | refine Kept.alloc ?_ _ | refine Kept.set ?_ _ _ | refine Kept.below ?_ (by assumption)))) hBW (by omega) (by omega))
  go_wp2_with fail
  refine bodyPost_ret (v := .agg #[.bool m4, .slice f1 fs.length j1, .slice f2 gs.length j2]) (by simp [results, Try.results29, go_sem, u0, u1, u2]) rfl ⟨_, rfl, ?_, below_set3 hK4 (by omega) _ _ _⟩
  exact (q4.far P4 (noInts3 _ _ _ _ _ _ _) (kept3 _ _ _))

set_option maxRecDepth 100000 in
set_option maxHeartbeats 4000000 in
theorem cmpR_any {n : Nat} {w : World} {u v : Value} {X Y : Rat} (hu : ArgR w u X n) (hv : ArgR w v Y n) (hn : n ≤ 1000000000) :
    Calls Try.prog 37 #[u, v] w fun e w' => e = .returned (.int .i64 (sgR (X - Y))) ∧ Below w.heap.size w w' := by
  obtain ⟨m1, xs, ds, a1, a2, c1, c2, rfl⟩ := hu.box
  obtain ⟨m2, zs, es, a3, a4, c3, c4, rfl⟩ := hv.box
  obtain ⟨W, hW⟩ : ∃ W, ((w.alloc (.cells #[.bool m1, .slice a1 xs.length c1, .slice a2 ds.length c2] 34)).alloc (.cells #[.bool m2, .slice a3 zs.length c3, .slice a4 es.length c4] 34)) = W := ⟨_, rfl⟩
  have R0 : Row W (w.heap.size) 34 #[.bool m1, .slice a1 xs.length c1, .slice a2 ds.length c2] := by rw [← hW]; exact ((Row.new _ _ _).alloc _)
  have R1 : Row W (w.heap.size + 1) 34 #[.bool m2, .slice a3 zs.length c3, .slice a4 es.length c4] := by rw [← hW]; have h := (Row.new (w.alloc (.cells #[.bool m1, .slice a1 xs.length c1, .slice a2 ds.length c2] 34)) 34 #[.bool m2, .slice a3 zs.length c3, .slice a4 es.length c4]); simp only [World.size_alloc] at h; exact h
  have hBW : Below w.heap.size w W := by rw [← hW]; exact (((Below.refl _ _).alloc (by (try simp) <;> omega) _).alloc (by (try simp) <;> omega) _)
  have hsW : w.heap.size + 1 + 1 ≤ W.heap.size := by rw [← hW]; simp
  have hu' := hu.later hBW
  have hv' := hv.later hBW
  obtain ⟨p0, p1, p2, _, _, _⟩ := R0.three
  obtain ⟨o0, o1, o2, _, _, _⟩ := R1.three
  go_enter Try.func37, Try.ntmps37
  go_wp2_with fail
  refine (subR_any hu' hv' hn).mono ?_
  rintro e w1 ⟨r1, rfl, h1, hb1⟩
  have hs1 := hb1.size
  go_wp2_with fail
  refine (signR_any h1).mono ?_
  rintro e w2 ⟨rfl, hb2⟩
  clear hW p0 p1 p2 o0 o1 o2
  go_wp2_with fail
  go_ret
  exact ⟨rfl, (hBW.trans (hb1.mono (by omega))).trans (hb2.mono (by omega))⟩

theorem rat_turn {m : Bool} {A B : Int} (hA : 0 ≤ A) (hB : 0 ≤ B) : ratOf m B A = (ratOf m A B)⁻¹ := rat_over m A B hA hB

set_option maxRecDepth 100000 in
set_option maxHeartbeats 4000000 in
theorem divR_zero {n : Nat} {w : World} {u v : Value} {X Y : Rat} (hu : ArgR w u X n) (hv : ArgR w v Y n) (hY : Y = 0) :
    Calls Try.prog 36 #[u, v] w fun e w' => e = .returned (.tuple #[.agg #[.bool false, .slice none 0 0, .slice none 0 0], .bool false]) ∧ Below w.heap.size w w' := by
  obtain ⟨m1, xs, ds, a1, a2, c1, c2, rfl⟩ := hu.box
  obtain ⟨m2, zs, es, a3, a4, c3, c4, rfl⟩ := hv.box
  obtain ⟨W, hW⟩ : ∃ W, (((w.alloc (.cells #[.bool m1, .slice a1 xs.length c1, .slice a2 ds.length c2] 34)).alloc (.cells #[.bool m2, .slice a3 zs.length c3, .slice a4 es.length c4] 34)).alloc (.cells #[.bool false, .slice none 0 0, .slice none 0 0] 34)) = W := ⟨_, rfl⟩
  have R0 : Row W (w.heap.size) 34 #[.bool m1, .slice a1 xs.length c1, .slice a2 ds.length c2] := by rw [← hW]; exact (((Row.new _ _ _).alloc _).alloc _)
  have R1 : Row W (w.heap.size + 1) 34 #[.bool m2, .slice a3 zs.length c3, .slice a4 es.length c4] := by rw [← hW]; have h := (Row.new (w.alloc (.cells #[.bool m1, .slice a1 xs.length c1, .slice a2 ds.length c2] 34)) 34 #[.bool m2, .slice a3 zs.length c3, .slice a4 es.length c4]); simp only [World.size_alloc] at h; exact (h.alloc _)
  have R2 : Row W (w.heap.size + 1 + 1) 34 #[.bool false, .slice none 0 0, .slice none 0 0] := by rw [← hW]; have h := (Row.new ((w.alloc (.cells #[.bool m1, .slice a1 xs.length c1, .slice a2 ds.length c2] 34)).alloc (.cells #[.bool m2, .slice a3 zs.length c3, .slice a4 es.length c4] 34)) 34 #[.bool false, .slice none 0 0, .slice none 0 0]); simp only [World.size_alloc] at h; exact h
  have hBW : Below w.heap.size w W := by rw [← hW]; exact ((((Below.refl _ _).alloc (by (try simp) <;> omega) _).alloc (by (try simp) <;> omega) _).alloc (by (try simp) <;> omega) _)
  have hsW : w.heap.size + 1 + 1 + 1 ≤ W.heap.size := by rw [← hW]; simp
  have hzr := zeroR_any (hv.later hBW)
  rw [decide_eq_true hY] at hzr
  clear hY
  obtain ⟨p0, p1, p2, _, _, _⟩ := R0.three
  obtain ⟨o0, o1, o2, _, _, _⟩ := R1.three
  go_enter Try.func36, Try.ntmps36
  go_wp2_with fail
  refine hzr.mono ?_
  rintro e w1 ⟨rfl, hb1⟩
  have hs1 := hb1.size
  have P1 := R2.later hb1
  clear hzr hW p0 p1 p2 o0 o1 o2
  obtain ⟨u0, u1, u2, g0, g1, g2⟩ := P1.three
  go_wp2_with fail
  refine bodyPost_ret (v := .tuple #[.agg #[.bool false, .slice none 0 0, .slice none 0 0], .bool false]) (by simp [results, Try.results36, go_sem, u0, u1, u2]) rfl ⟨rfl, ?_⟩
  first | exact below_set3 (hBW.trans (hb1.mono (by omega))) (by omega) _ _ _ | exact (hBW.trans (hb1.mono (by omega)))

set_option maxRecDepth 100000 in
set_option maxHeartbeats 4000000 in
theorem divR_any {n : Nat} {w : World} {u v : Value} {X Y : Rat} (hu : ArgR w u X n) (hv : ArgR w v Y n) (hY : Y ≠ 0) (hn : n ≤ 1000000000) :
    Calls Try.prog 36 #[u, v] w fun e w' => ∃ r, e = .returned (.tuple #[r, .bool true]) ∧ ArgR w' r (X / Y) (3 * n + 5) ∧ Below w.heap.size w w' := by
  obtain ⟨m1, xs, ds, a1, a2, c1, c2, rfl, A, B, hXe, hx, hd⟩ := hu.parts
  have hv0 := hv
  obtain ⟨m2, zs, es, a3, a4, c3, c4, rfl, C, D, hYe, hz, he⟩ := hv.parts
  have hfin : ratOf m1 (valD xs) (valD ds) * ratOf m2 (valD es) (valD zs) = X / Y := by
    rw [rat_turn (val_nonnegD C.wf) (val_nonnegD D.wf), hXe, hYe, Rat.div_def]
  have HF := Lib.hid hfin
  clear hfin hXe hYe
  obtain ⟨W, hW⟩ : ∃ W, (((w.alloc (.cells #[.bool m1, .slice a1 xs.length c1, .slice a2 ds.length c2] 34)).alloc (.cells #[.bool m2, .slice a3 zs.length c3, .slice a4 es.length c4] 34)).alloc (.cells #[.bool false, .slice none 0 0, .slice none 0 0] 34)) = W := ⟨_, rfl⟩
  have R0 : Row W (w.heap.size) 34 #[.bool m1, .slice a1 xs.length c1, .slice a2 ds.length c2] := by rw [← hW]; exact (((Row.new _ _ _).alloc _).alloc _)
  have R1 : Row W (w.heap.size + 1) 34 #[.bool m2, .slice a3 zs.length c3, .slice a4 es.length c4] := by rw [← hW]; have h := (Row.new (w.alloc (.cells #[.bool m1, .slice a1 xs.length c1, .slice a2 ds.length c2] 34)) 34 #[.bool m2, .slice a3 zs.length c3, .slice a4 es.length c4]); simp only [World.size_alloc] at h; exact (h.alloc _)
  have R2 : Row W (w.heap.size + 1 + 1) 34 #[.bool false, .slice none 0 0, .slice none 0 0] := by rw [← hW]; have h := (Row.new ((w.alloc (.cells #[.bool m1, .slice a1 xs.length c1, .slice a2 ds.length c2] 34)).alloc (.cells #[.bool m2, .slice a3 zs.length c3, .slice a4 es.length c4] 34)) 34 #[.bool false, .slice none 0 0, .slice none 0 0]); simp only [World.size_alloc] at h; exact h
  have hBW : Below w.heap.size w W := by rw [← hW]; exact ((((Below.refl _ _).alloc (by (try simp) <;> omega) _).alloc (by (try simp) <;> omega) _).alloc (by (try simp) <;> omega) _)
  have hsW : w.heap.size + 1 + 1 + 1 ≤ W.heap.size := by rw [← hW]; simp
  have hzr := zeroR_any (hv0.later hBW)
  rw [decide_eq_false hY] at hzr
  clear hY hv0 hu hv
  obtain ⟨p0, p1, p2, _, _, _⟩ := R0.three
  obtain ⟨o0, o1, o2, _, _, _⟩ := R1.three
  go_enter Try.func36, Try.ntmps36
  go_wp2_with fail
  refine hzr.mono ?_
  rintro e w1 ⟨rfl, hb1⟩
  have hs1 := hb1.size
  have P1 := R2.later hb1
  clear hzr hW p0 p1 p2 o0 o1 o2
  obtain ⟨p0, p1, p2, _, _, _⟩ := (R0.later hb1).three
  obtain ⟨o0, o1, o2, _, _, _⟩ := (R1.later hb1).three
  have A1 := (A.later hBW).later hb1
  have B1 := (B.later hBW).later hb1
  have C1 := (C.later hBW).later hb1
  have D1 := (D.later hBW).later hb1
  go_wp2_with fail
  refine (mulR_gen (m1 := m1) (m2 := m2) A1 B1 D1 C1 hx hd he hz hn).mono ?_
  rintro e w2 ⟨r2, rfl, q2, hb2⟩
  rw [HF.out] at q2
  obtain ⟨m4, fs, gs, f1, f2, j1, j2, rfl⟩ := q2.box
  have P2 := P1.later hb2
  clear p0 p1 p2 o0 o1 o2
  obtain ⟨u0, u1, u2, g0, g1, g2⟩ := P2.three
  go_wp2_with fail
  refine bodyPost_ret (v := .tuple #[.agg #[.bool m4, .slice f1 fs.length j1, .slice f2 gs.length j2], .bool true]) (by simp [results, Try.results36, go_sem, u0, u1, u2]) rfl ⟨_, rfl, ?_, ?_⟩
  · exact (q2.far P2 (noInts3 _ _ _ _ _ _ _) (kept3 _ _ _))
  · exact below_set3 ((hBW.trans (hb1.mono (by omega))).trans (hb2.mono (by omega))) (by omega) _ _ _

set_option maxRecDepth 100000 in
set_option maxHeartbeats 4000000 in
theorem intR_any (k : Int) (w : World) (h0 : -9223372036854775808 ≤ k) (h1 : k ≤ 9223372036854775807) :
    Calls Try.prog 24 #[.int .i64 k] w fun e w' => ∃ r, e = .returned r ∧ ArgR w' r (intQ k) 6 ∧ Below w.heap.size w w' := by
  obtain ⟨i1, i2, i3⟩ := intQ_parts k
  obtain ⟨m1, hm1⟩ : ∃ m, decide (k < 0) = m := ⟨_, rfl⟩
  rw [hm1] at i1
  have I1 := Lib.hid i1
  have I2 := Lib.hid i2
  have I3 := Lib.hid i3
  clear i1 i2 i3
  obtain ⟨W, hW⟩ : ∃ W, (w.alloc (.cells #[.bool false, .slice none 0 0, .slice none 0 0] 34)) = W := ⟨_, rfl⟩
  have R0 : Row W (w.heap.size) 34 #[.bool false, .slice none 0 0, .slice none 0 0] := by rw [← hW]; exact (Row.new _ _ _)
  have hBW : Below w.heap.size w W := by rw [← hW]; exact ((Below.refl _ _).alloc (by (try simp) <;> omega) _)
  have hsW : w.heap.size + 1 ≤ W.heap.size := by rw [← hW]; simp
  go_enter Try.func24, Try.ntmps24
  go_wp2_with fail
  refine (sizeR_any k _ h0 h1).mono ?_
  rintro e w1 ⟨r1, rfl, z1, q1, l1, hb1⟩
  have hs1 := hb1.size
  obtain ⟨ad1, cp1, rfl, q1, A1⟩ := q1.slice
  have v1 : valD z1 = (((intQ k).num.natAbs : Nat) : Int) := by rw [q1.eq, I2.out]
  have V1 := Lib.hid v1
  have hb2 : Below w1.heap.size w1 (w1.alloc (.cells #[.int .i64 1] 3)) := (Below.refl _ _).alloc (Nat.le_refl _) _
  have L := digit_lit (Row.new w1 3 #[.int .i64 1]) (by omega)
  have P2 := (R0.later hb1).later hb2
  have A2 := A1.later hb2
  clear v1 q1 hW
  obtain ⟨q0, q1, q2, h0', h1', h2'⟩ := (R0.later hb1).three
  obtain ⟨u0, u1, u2, g0, g1, g2⟩ := P2.three
  go_wp2_with fail
  refine bodyPost_ret (v := .agg #[.bool m1, .slice ad1 z1.length cp1, .slice (some ⟨w1.heap.size, 0, none⟩) 1 1]) (by simp [results, Try.results24, go_sem, u0, u1, u2]) rfl ⟨_, rfl, ⟨z1, [1], ad1, some ⟨w1.heap.size, 0, none⟩, cp1, 1, by rw [I1.out]; rfl, ?_, ?_, V1.out, by rw [I3.out]; rfl, l1, by simp⟩, ?_⟩
  · exact A2.far P2 (noInts3 _ _ _ _ _ _ _) (kept3 _ _ _)
  · exact L.far P2 (noInts3 _ _ _ _ _ _ _) (kept3 _ _ _)
  · exact below_set3 ((hBW.trans (hb1.mono (by omega))).trans (hb2.mono (by omega))) (by omega) _ _ _

set_option maxRecDepth 100000 in
set_option maxHeartbeats 4000000 in
theorem fracR_any (p q : Int) (w : World) (hp1 : -9223372036854775808 ≤ p) (hp2 : p ≤ 9223372036854775807) (hq1 : -9223372036854775808 ≤ q) (hq2 : q ≤ 9223372036854775807) :
    Calls Try.prog 26 #[.int .i64 p, .int .i64 q] w fun e w' => ∃ r, e = .returned r ∧ ArgR w' r (ratOf (decide (p < 0) != decide (q < 0)) (p.natAbs : Int) (q.natAbs : Int)) 7 ∧ Below w.heap.size w w' := by
  obtain ⟨bp, hbp⟩ : ∃ b, decide (p < 0) = b := ⟨_, rfl⟩
  obtain ⟨bq, hbq⟩ : ∃ b, decide (q < 0) = b := ⟨_, rfl⟩
  cases bp <;> cases bq
  all_goals (
    obtain ⟨W, hW⟩ : ∃ W, (w.alloc (.cells #[.bool false, .slice none 0 0, .slice none 0 0] 34)) = W := ⟨_, rfl⟩
    have R0 : Row W (w.heap.size) 34 #[.bool false, .slice none 0 0, .slice none 0 0] := by rw [← hW]; exact (Row.new _ _ _)
    have hBW : Below w.heap.size w W := by rw [← hW]; exact ((Below.refl _ _).alloc (by (try simp) <;> omega) _)
    have hsW : w.heap.size + 1 ≤ W.heap.size := by rw [← hW]; simp
    go_enter Try.func26, Try.ntmps26
    go_wp2_with fail
    refine (sizeR_any p _ hp1 hp2).mono ?_
    rintro e w1 ⟨r1, rfl, z1, q1, l1, hb1⟩
    have hs1 := hb1.size
    obtain ⟨ad1, cp1, rfl, q1, A1⟩ := q1.slice
    go_wp2_with fail
    refine (sizeR_any q _ hq1 hq2).mono ?_
    rintro e w2 ⟨r2, rfl, z2, q2, l2, hb2⟩
    have hs2 := hb2.size
    obtain ⟨ad2, cp2, rfl, q2, A2⟩ := q2.slice
    have A1' := A1.later hb2
    have P2 := (R0.later hb1).later hb2
    have hB2 : Below w.heap.size w w2 := (hBW.trans (hb1.mono (by omega))).trans (hb2.mono (by omega))
    have hfin : ∀ c, c = (decide (p < 0) != decide (q < 0)) → ratOf c (valD z1) (valD z2) = ratOf (decide (p < 0) != decide (q < 0)) (p.natAbs : Int) (q.natAbs : Int) := fun c hc => by rw [hc, q1.eq, q2.eq]
    have HF := Lib.hid hfin
    clear hfin hW
    go_wp2_with fail
    refine (makeR_any A1' A2 l1 l2 (by omega)).mono ?_
    rintro e w3 ⟨r3, rfl, q3, hb3⟩
    rw [HF.out _ (by rw [hbp, hbq]; rfl)] at q3
    obtain ⟨m4, fs, gs, f1, f2, j1, j2, rfl⟩ := q3.box
    have P3 := P2.later hb3
    obtain ⟨u0, u1, u2, g0, g1, g2⟩ := P3.three
    go_wp2_with fail
    refine bodyPost_ret (v := .agg #[.bool m4, .slice f1 fs.length j1, .slice f2 gs.length j2]) (by simp [results, Try.results26, go_sem, u0, u1, u2]) rfl ⟨_, rfl, ?_, below_set3 (hB2.trans (hb3.mono (by omega))) (by omega) _ _ _⟩
    exact (q3.far P3 (noInts3 _ _ _ _ _ _ _) (kept3 _ _ _)))

theorem dig_two (k : Nat) : (10000 : Int) ^ k ≤ 2 ^ (14 * k) := by
  induction k with
  | zero => simp
  | succ k ih =>
    rw [Int.pow_succ, show 14 * (k + 1) = 14 * k + 14 from by omega, Int.pow_add]
    have h1 := pow_posD k
    have h2 : (2 : Int) ^ 14 = 16384 := by decide
    rw [h2]
    omega
theorem bitsD_le {ds : List Int} {k : Nat} (h : WfD ds) (hk : IsBits (valD ds) k) : k ≤ 14 * ds.length := by
  have h1 := val_ltD h
  have h2 := dig_two ds.length
  exact hk.le (by omega)

set_option maxRecDepth 100000 in
set_option maxHeartbeats 4000000 in
theorem bitsR_any {n k1 k2 : Nat} {w : World} {u : Value} {X : Rat} (hu : ArgR w u X n) (hn : n ≤ 1000000000) (h1 : IsBits (X.num.natAbs : Int) k1) (h2 : IsBits (X.den : Int) k2) :
    Calls Try.prog 43 #[u] w fun e w' => e = .returned (.int .i64 (max (k1 : Int) (k2 : Int))) ∧ Below w.heap.size w w' := by
  obtain ⟨xs, ds, a1, a2, c1, c2, rfl, A, B, hX1, hX2, hx, hd⟩ := hu
  obtain ⟨m1, hm1⟩ : ∃ m, decide (X.num < 0) = m := ⟨_, rfl⟩
  rw [← hX1] at h1
  rw [← hX2] at h2
  have l1 := bitsD_le A.wf h1
  have l2 := bitsD_le B.wf h2
  rw [hm1]
  clear hm1 hX1 hX2
  obtain ⟨W, hW⟩ : ∃ W, (w.alloc (.cells #[.bool m1, .slice a1 xs.length c1, .slice a2 ds.length c2] 34)) = W := ⟨_, rfl⟩
  have R0 : Row W (w.heap.size) 34 #[.bool m1, .slice a1 xs.length c1, .slice a2 ds.length c2] := by rw [← hW]; exact (Row.new _ _ _)
  have hBW : Below w.heap.size w W := by rw [← hW]; exact ((Below.refl _ _).alloc (by (try simp) <;> omega) _)
  have hsW : w.heap.size + 1 ≤ W.heap.size := by rw [← hW]; simp
  have mkS : ∀ X, Kept (w.heap.size + 1 + 1 + 1) W X → X.cell? ⟨w.heap.size, 0, none⟩ = some (.bool m1) ∧ X.cell? ⟨w.heap.size, 1, none⟩ = some (.slice a1 xs.length c1) ∧ X.cell? ⟨w.heap.size, 2, none⟩ = some (.slice a2 ds.length c2) ∧ Kept (w.heap.size + 1 + 1 + 1) W X := fun X h => ⟨(R0.kept h (by omega)).cell 0, (R0.kept h (by omega)).cell 1, (R0.kept h (by omega)).cell 2, h⟩
  go_enter Try.func43, Try.ntmps43
  go_wp2_with fail
  clear hW
  go_region_held3 (fun X => X.cell? ⟨w.heap.size, 0, none⟩ = some (.bool m1) ∧ X.cell? ⟨w.heap.size, 1, none⟩ = some (.slice a1 xs.length c1) ∧ X.cell? ⟨w.heap.size, 2, none⟩ = some (.slice a2 ds.length c2) ∧ Kept (w.heap.size + 1 + 1 + 1) W X)
    (((refine mkS _ ?_; (repeat' (first | exact Kept.refl _ _ | refine Kept.drew ?_ | refine Kept.alloc ?_ _ | refine Kept.set ?_ _ _ | refine Kept.below ?_ (by assumption))))))
    ((first
      | (go_at_call 74; (with_reducible refine (bitsD_any (B.later (Kept.under (show Kept (w.heap.size + 1 + 1 + 1) W _ by (repeat' (first | exact Kept.refl _ _ | refine Kept.drew ?_ | refine Kept.alloc ?_ _ | refine Kept.set ?_ _ _ | refine Kept.below ?_ (by assumption)))) hBW (by omega) (by omega))) (by omega) h2 (by omega)).mono ?_); rintro e w4 ⟨rfl, hb4⟩)
      | (go_at_call 74; (with_reducible refine (bitsD_any (A.later (Kept.under (show Kept (w.heap.size + 1 + 1 + 1) W _ by (repeat' (first | exact Kept.refl _ _ | refine Kept.drew ?_ | refine Kept.alloc ?_ _ | refine Kept.set ?_ _ _ | refine Kept.below ?_ (by assumption)))) hBW (by omega) (by omega))) (by omega) h1 (by omega)).mono ?_); rintro e w3 ⟨rfl, hb3⟩)))
  have hK4 := (Kept.under (show Kept (w.heap.size + 1 + 1 + 1) W w4 by (repeat' (first | exact Kept.refl _ _ | refine Kept.drew ?_ | refine Kept.alloc ?_ _ | refine Kept.set ?_ _ _ | refine Kept.below ?_ (by assumption)))) hBW (by omega) (by omega))
  go_wp2_with fail
  go_ret
  exact ⟨rfl, hK4⟩
end Go.Proofs.Ytofiebilokhccaa
