/-
  Layer 7's law TensorAt: for every tensor and every index the law holds (arguments that hold together at most 1048576 values).
-/
import Derived.Test.YtnhfjacifajdlaaGreatTKnown
namespace Go.Proofs.YtnhfjacifajdlaaGreat
open Go.RowKit
set_option linter.unusedVariables false
set_option linter.unusedSimpArgs false

theorem noRat_parts : noRat = .agg #[.bool false, .slice none 0 0, .slice none 0 0] := rfl

set_option maxRecDepth 100000 in
set_option maxHeartbeats 8000000 in
theorem tensorAt_walk {v u : Value} {s xs : List Int} {qs : List Q3} {a b c : Option Addr} {ca cb cc : Nat} (W : World) (T : TensQ W v s qs a ca b cb) (X : ArgS W u xs c cc) (nc : c = none → cc = 0) (ls : s.length ≤ 1048576) (lq : sizeQs qs ≤ 1048576) (lx : xs.length ≤ 1048576) :
    Calls Tryz.prog 6 #[v, u] W fun e W' => e = .returned (.bool true) ∧ Below W.heap.size W W' := by
  have HT := Lib.hid T
  have HX := Lib.hid X
  have NC := Lib.hid nc
  have hlen := sizeQs_len qs
  have HL := Lib.hid (lensQ.of lq)
  have hq1 : qs.length ≤ 1048576 := by omega
  obtain rfl := T.is
  obtain rfl := X.is
  obtain ⟨V, hV⟩ : ∃ V, W.alloc (.cells #[.slice a s.length ca, .slice b qs.length cb] 26) = V := ⟨_, rfl⟩
  have R0 : Row V W.heap.size 26 #[.slice a s.length ca, .slice b qs.length cb] := by rw [← hV]; exact Row.new _ _ _
  have hBV : Below W.heap.size W V := by rw [← hV]; exact (Below.refl _ _).alloc (by simp) _
  have q1 := ownT_any (HT.out.later hBV) (by omega) (by omega) (fun q hq => ⟨Nat.le_trans (HL.out q hq).1 (by omega), Nat.le_trans (HL.out q hq).2 (by omega)⟩)
  obtain ⟨c0, c1, _, _⟩ := R0.two
  clear T X nc
  go_enter Tryz.func6, Tryz.ntmps6
  go_wp2_with fail
  (try rw [hV])
  refine q1.mono ?_
  rintro e w1 ⟨a1, b1, ca1, cb1, rfl, S1, E1, hb1⟩
  clear hV
  have hB1 : Below W.heap.size W w1 := hBV.trans (hb1.mono hBV.size)
  have R1 := R0.later hb1
  have TO : TensQ w1 (.agg #[.slice a1 s.length ca1, .slice b1 qs.length cb1]) s qs a1 ca1 b1 cb1 := ⟨rfl, S1.at_.2.1, S1.at_.2.2, E1.at_.2.1.imp (fun v x _ h => h.raw), E1.at_.2.2⟩
  have AX := HX.out.later hB1
  have HTO := Lib.hid TO
  have HR1 := Lib.hid R1
  have HB1 := Lib.hid hB1
  clear TO R1 hB1 S1 E1 hb1 c0 c1 R0 hBV q1
  go_wp2_with (at_builtin; refine step_copyS rfl _ 22 Tryz.underlying22 rfl rfl AX NC.out (by omega) ?_; intro ro w2 X2 hb2; obtain ⟨d2, cd2, rfl, X2', A2, n2⟩ := X2.slice)
  refine (atT7_any (n := 1048576) (HTO.out.later hb2) A2 n2 ls hq1 HL.out (by omega) lx).mono ?_
  rintro e w3 ⟨r3, rfl, h3, g3, hb3⟩
  have hB3 : Below W.heap.size W w3 := HB1.out.trans ((hb2.trans (hb3.mono hb2.size)).mono HB1.out.size)
  have R3 := HR1.out.later (hb2.trans (hb3.mono hb2.size))
  have hmayc : ∀ X (hX : Below W.heap.size W X), Calls Tryz.prog 13 #[.agg #[.slice a s.length ca, .slice b qs.length cb]] X fun e w' => e = .returned (.int .i64 (mayT s qs)) ∧ Below X.heap.size X w' := fun X hX => mayT_any (HT.out.later hX) (by omega) (fun q hq => ⟨Nat.le_trans (HL.out q hq).1 (by omega), Nat.le_trans (HL.out q hq).2 (by omega)⟩)
  have hoff : ∀ X (hX : Below W.heap.size W X), Calls Tryz.prog 29 #[.slice a s.length ca, .slice c xs.length cc] X fun e w' => e = .returned (.tuple #[.int .i64 (offV s xs), .int .i64 (offC s xs)]) ∧ Below X.heap.size X w' := fun X hX => offsetR_any (HT.out.sh.later hX) (HX.out.later hX)
  clear A2 X2 X2' AX hb2 hb3
  by_cases h0 : atC s qs xs = 0
  · obtain ⟨q, hqk, RQ⟩ := h3 h0
    have hm0 : mayT s qs = 0 := by
      apply Classical.byContradiction
      intro h
      unfold atC at h0
      rw [if_pos h] at h0
      exact h h0
    have hf0 : offC s xs = 0 := by
      unfold atC at h0
      rwa [if_neg (by rw [hm0]; simp)] at h0
    rw [hm0] at hmayc
    rw [hf0] at hoff
    rw [h0]
    obtain ⟨t, ht⟩ : ∃ t, offV s xs = t := ⟨_, rfl⟩
    rw [ht] at hoff hqk
    have htl : 0 ≤ t ∧ t < qs.length := by
      obtain ⟨ok, hin⟩ := offC_zero hf0
      have h1 := place_range hin
      rw [offV_in (mayC_ok ok) hin] at ht
      have h2 : t.toNat < qs.length := by
        rcases Nat.lt_or_ge t.toNat qs.length with g | g
        · exact g
        · rw [List.getElem?_eq_none g] at hqk; cases hqk
      omega
    obtain ⟨k, rfl⟩ : ∃ k : Nat, t = (k : Int) := ⟨t.toNat, by omega⟩
    have hklt : k < qs.length := by omega
    have hkI : (k : Int) < (qs.length : Int) := by omega
    rw [show (k : Int).toNat = k by omega] at hqk
    obtain ⟨m3, f1, l1, j1, f2, l2, j2, rfl⟩ := RQ.shape
    have hB4 : Below w3.heap.size w3 (w3.alloc (.cells #[.bool m3, .slice f1 l1 j1, .slice f2 l2 j2] 44)) := (Below.refl _ _).alloc (Nat.le_refl _) _
    have R4 := R3.later hB4
    have X4 := Row.new w3 44 #[.bool m3, .slice f1 l1 j1, .slice f2 l2 j2]
    have hB4w := hB3.trans (hB4.mono hB3.size)
    obtain ⟨c0, c1, _, _⟩ := R4.two
    have hmay := hmayc _ hB4w
    have HR4 := Lib.hid R4
    have HX4 := Lib.hid X4
    have HB4 := Lib.hid hB4w
    have HRQ := Lib.hid (RQ.later hB4)
    clear h3 g3 hmayc R3 hB3 ht R4 X4 hB4w hB4 RQ hm0 hf0 h0 htl
    go_wp2_with fail
    refine hmay.mono ?_
    rintro e w5 ⟨rfl, hb5⟩
    have hB5 := HB4.out.trans (hb5.mono HB4.out.size)
    have R5 := HR4.out.later hb5
    have ho := hoff _ hB5
    obtain ⟨c2, c3, _, _⟩ := R5.two
    have HR5 := Lib.hid R5
    have HX5 := Lib.hid (HX4.out.later hb5)
    have HQ5 := Lib.hid (HRQ.out.later hb5)
    have HB5 := Lib.hid hB5
    clear hmay c0 c1 hb5 R5 hB5
    go_wp2_with fail
    refine ho.mono ?_
    rintro e w6 ⟨rfl, hb6⟩
    have hB6 := HB5.out.trans (hb6.mono HB5.out.size)
    have r6 := HR5.out.later hb6
    have x6 := HX5.out.later hb6
    have q6 := HQ5.out.later hb6
    obtain ⟨bb, o, x0, x1, x2, q', hbo, hqk', e0, e1, e2, hraw⟩ := (HT.out.el.later hB6 (fun v x _ k => k.later hB6)).at hklt
    rw [hqk] at hqk'
    cases hqk'
    subst hbo
    have hmem := List.mem_of_getElem? hqk
    have hofr := fun X (hX : Below w6.heap.size w6 X) => ofRR_any (n := 1048576) ((hraw.later hX).arg (HL.out q hmem).1 (HL.out q hmem).2) (by omega)
    have hisr := fun X u (hX : Below w6.heap.size w6 X) (hu : ResR w6.heap.size X u q.rat (5 * 1048576 + 1)) => isR_true hu.arg (q6.later hX) (by omega) (by omega)
    have mkS : ∀ X, Below w6.heap.size w6 X → (X.cell? ⟨w3.heap.size, 0, none⟩ = some (.bool m3) ∧ X.cell? ⟨w3.heap.size, 1, none⟩ = some (.slice f1 l1 j1) ∧ X.cell? ⟨w3.heap.size, 2, none⟩ = some (.slice f2 l2 j2)) ∧ X.cell? ⟨W.heap.size, 1, none⟩ = some (.slice (some ⟨bb, o, none⟩) qs.length cb) ∧
        (X.cell? ⟨bb, o + k * 3, none⟩ = some x0 ∧ X.cell? ⟨bb, o + k * 3 + 1, none⟩ = some x1 ∧ X.cell? ⟨bb, o + k * 3 + 2, none⟩ = some x2) ∧ Below w6.heap.size w6 X := fun X h =>
      ⟨⟨(x6.later h).cell 0, (x6.later h).cell 1, (x6.later h).cell 2⟩, (r6.later h).cell 1, ⟨(h.cell (World.block_lt_of_cell? w6 _ e0)).trans e0, (h.cell (World.block_lt_of_cell? w6 _ e1)).trans e1, (h.cell (World.block_lt_of_cell? w6 _ e2)).trans e2⟩, h⟩
    clear hqk hraw hmem hb6 c2 c3 ho e0 e1 e2 r6 x6 q6 hoff
    go_wp2_with fail
    go_region_held3 (fun X => (X.cell? ⟨w3.heap.size, 0, none⟩ = some (.bool m3) ∧ X.cell? ⟨w3.heap.size, 1, none⟩ = some (.slice f1 l1 j1) ∧ X.cell? ⟨w3.heap.size, 2, none⟩ = some (.slice f2 l2 j2)) ∧ X.cell? ⟨W.heap.size, 1, none⟩ = some (.slice (some ⟨bb, o, none⟩) qs.length cb) ∧
        (X.cell? ⟨bb, o + k * 3, none⟩ = some x0 ∧ X.cell? ⟨bb, o + k * 3 + 1, none⟩ = some x1 ∧ X.cell? ⟨bb, o + k * 3 + 2, none⟩ = some x2) ∧ Below w6.heap.size w6 X)
      (((refine mkS _ ?_; (first | assumption | exact (Below.refl _ _).drew))))
      ((first
        | (go_at_call 25; (with_reducible refine (hofr _ (show Below w6.heap.size w6 _ by first | assumption | exact (Below.refl _ _).drew)).mono ?_); rintro e y1 ⟨k1, rfl, K1, hy1⟩; have hz1 : Below w6.heap.size w6 y1 := belowJ (show Below w6.heap.size w6 _ by first | assumption | exact (Below.refl _ _).drew) hy1; have KK : ResR w6.heap.size y1 k1 q.rat (5 * 1048576 + 1) := K1; clear hy1 K1; obtain ⟨m5, g1, g2, g3, g4, g5, g6, rfl⟩ := KK.shape)
        | (go_at_call 30; (with_reducible refine (hisr _ _ (by assumption) (by assumption)).mono ?_); rintro e y2 ⟨rfl, hy2⟩; have hz2 : Below w6.heap.size w6 y2 := belowJ (by assumption) hy2; clear hy2)
        | (go_at_call 14; (with_reducible refine (known7_any _).mono ?_); rintro e y3 ⟨rfl, hy3⟩; have hz3 : Below w6.heap.size w6 y3 := belowJ (by assumption) hy3; clear hy3)))
    go_wp2_with fail
    go_ret
    exact ⟨rfl, hB6.trans ((by first | exact hz3 | exact hz3.drew : Below w6.heap.size w6 _).mono hB6.size)⟩
  · have hr := g3 h0
    subst hr
    obtain ⟨m, hm⟩ : ∃ m, mayT s qs = m := ⟨_, rfl⟩
    obtain ⟨f, hf⟩ : ∃ f, offC s xs = f := ⟨_, rfl⟩
    obtain ⟨t, ht⟩ : ∃ t, offV s xs = t := ⟨_, rfl⟩
    obtain ⟨z, hz⟩ : ∃ z, atC s qs xs = z := ⟨_, rfl⟩
    have hz2 : z = if m ≠ 0 then m else f := by rw [← hz]; unfold atC; rw [hm, hf]
    have HZ := Lib.hid hz2
    clear hz2
    rw [hz] at h0 ⊢
    rw [hm] at hmayc
    rw [hf, ht] at hoff
    rw [noRat_parts]
    have hB4 : Below w3.heap.size w3 (w3.alloc (.cells #[.bool false, .slice none 0 0, .slice none 0 0] 44)) := (Below.refl _ _).alloc (Nat.le_refl _) _
    have R4 := R3.later hB4
    have X4 := Row.new w3 44 #[.bool false, .slice none 0 0, .slice none 0 0]
    have hB4w := hB3.trans (hB4.mono hB3.size)
    obtain ⟨c0, c1, _, _⟩ := R4.two
    have hmay := hmayc _ hB4w
    have HR4 := Lib.hid R4
    have HX4 := Lib.hid X4
    have HB4 := Lib.hid hB4w
    clear h3 g3 hmayc R3 hB3 hm hf ht hz R4 X4 hB4w hB4
    go_wp2_with fail
    refine hmay.mono ?_
    rintro e w5 ⟨rfl, hb5⟩
    have hB5 := HB4.out.trans (hb5.mono HB4.out.size)
    have R5 := HR4.out.later hb5
    have X5 := HX4.out.later hb5
    have ho := hoff _ hB5
    clear hmay c0 c1
    by_cases hm0 : m = 0
    · subst hm0
      have hzf : z = f := by rw [HZ.out]; simp
      subst hzf
      have hne : (z != 0) = true := by simpa using h0
      obtain ⟨c0, c1, _, _⟩ := R5.two
      have HX5 := Lib.hid X5
      have HB5 := Lib.hid hB5
      clear X5 hB5 hb5 R5
      go_wp2_with fail
      refine ho.mono ?_
      rintro e w6 ⟨rfl, hb6⟩
      obtain ⟨x0, x1, x2, _, _, _⟩ := (HX5.out.later hb6).three
      have hB6 := HB5.out.trans (hb6.mono HB5.out.size)
      have hk := known7_any w6
      clear hb6 c0 c1 ho
      go_wp2_with (go_at_call 14; refine hk.mono ?_; rintro e w7 ⟨rfl, hb7⟩)
      go_ret
      exact ⟨rfl, hB6.trans (hb7.mono hB6.size)⟩
    · have hzm : z = m := by rw [HZ.out, if_pos hm0]
      subst hzm
      have hne : (z != 0) = true := by simpa using h0
      have hne2 : (z == 0) = false := by simpa using h0
      obtain ⟨x0, x1, x2, _, _, _⟩ := X5.three
      have hk := known7_any w5
      clear X5 hb5 R5 ho
      go_wp2_with (go_at_call 14; refine hk.mono ?_; rintro e w7 ⟨rfl, hb7⟩)
      go_ret
      exact ⟨rfl, hB5.trans (hb7.mono hB5.size)⟩
end Go.Proofs.YtnhfjacifajdlaaGreat
