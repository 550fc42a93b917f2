/-
  Layer 8's laws: the chapter's rows (known). (Made by wip/gen/gen_pknown.py.)
-/
import Derived.Test.YtjcacmnmbbnffaaGreatPKit
import Derived.Test.YtjcacmnmbbnffaaGreatPRow
namespace Go.Proofs.YtjcacmnmbbnffaaGreat
open Go.RowKit
set_option linter.unusedVariables false
set_option linter.unusedSimpArgs false

theorem ok3 : OkShape [3] 3 := ⟨by decide +kernel, by decide +kernel, by decide⟩
theorem back_ans {n : Nat} {w : World} {v : Value} {s : List Int} {L : List Rat} (T : TenR w v s L n) (hs : s.length ≤ 17592186044416) (hq : L.length ≤ 1000000000) (hn : n ≤ 1000000000) :
    Calls Tryz.prog 43 #[v] w fun e w' => ∃ (a b : Option Addr) (ca cb : Nat), e = .returned (.agg #[.slice a s.length ca, .slice b L.length cb]) ∧ ResT w.heap.size w' (.agg #[.slice a s.length ca, .slice b L.length cb]) s L n ∧ Below w.heap.size w w' := by
  obtain ⟨a, ca, b, cb, T⟩ := T
  exact (backT_any T hs hq hn).mono fun e w' ⟨a', b', ca', cb', h1, h2, h3, h4⟩ => ⟨a', b', ca', cb', h1, ⟨a', b', ca', cb', rfl, h2, h3⟩, h4⟩
set_option maxRecDepth 100000 in
set_option maxHeartbeats 8000000 in
theorem known8_any (w : World) : Calls Tryz.prog 12 #[] w fun e w' => e = .returned (.bool true) ∧ Below w.heap.size w w' := by
  have hx : ([2, -4, 0] : List Int).map half = [1, -2, 0] := by decide +kernel
  have hy : ([1, 4, 6] : List Int).map half = [1 / 2, 2, 3] := by decide +kernel
  have q1 : List.zipWith (fun x y => x + y) ([1, -2, 0] : List Rat) [1 / 2, 2, 3] = [3 / 2, 0, 3] := by decide +kernel
  have q2 : List.zipWith (fun x y => x / y) ([1, -2, 0] : List Rat) [1 / 2, 2, 3] = [2, -1, 0] := by decide +kernel
  have q3 : ([1, -2, 0] : List Rat).map reluR = [1, 0, 0] := by decide +kernel
  have q4 : ([1, -2, 0] : List Rat).map stepR = [1, 0, 0] := by decide +kernel
  have q5 : ([1, -2, 0] : List Rat).map (fun x => x ^ 2) = [1, 4, 0] := by decide +kernel
  have q6 : ∀ y ∈ ([1 / 2, 2, 3] : List Rat), y ≠ 0 := by decide +kernel
  have q7 : (0 : Rat) ∈ ([1, -2, 0] : List Rat) := by decide +kernel
  have p1 : ([3, 0, 6] : List Int).map half = [3 / 2, 0, 3] := by decide +kernel
  have p2 : ([4, -2, 0] : List Int).map half = [2, -1, 0] := by decide +kernel
  have p3 : ([2, 0, 0] : List Int).map half = [1, 0, 0] := by decide +kernel
  have p5 : ([2, 8, 0] : List Int).map half = [1, 4, 0] := by decide +kernel
  have Q1 := Lib.hid q1
  have Q2 := Lib.hid q2
  have Q3 := Lib.hid q3
  have Q4 := Lib.hid q4
  have Q5 := Lib.hid q5
  have Q6 := Lib.hid q6
  have Q7 := Lib.hid q7
  have P1 := Lib.hid p1
  have P2 := Lib.hid p2
  have P3 := Lib.hid p3
  have P5 := Lib.hid p5
  clear q1 q2 q3 q4 q5 q6 q7 p1 p2 p3 p5
  have A0 : Below w.heap.size w (w.alloc (.cells (([2, -4, 0] : List Int).map (Value.int .i64)).toArray 3)) := (Below.refl _ _).alloc (Nat.le_refl _) _
  go_enter Tryz.func12, Tryz.ntmps12
  go_wp2_with fail
  refine (rowT_any (xs := [2, -4, 0]) (bb := w.heap.size) (lit_cells w 3 [2, -4, 0]) (by decide) (by decide)).mono ?_
  rintro e w1 ⟨r1, rfl, t1, hb1⟩
  rw [hx] at t1
  have B1 : Below w.heap.size w w1 := A0.trans (hb1.mono A0.size)
  go_wp2_with fail
  refine (back_ans t1 (by decide) (by decide) (by decide)).mono ?_
  rintro e w2 ⟨xa, xb, xca, xcb, rfl, X2, hb2⟩
  have B2 : Below w.heap.size w w2 := B1.trans (hb2.mono B1.size)
  have A2 : Below w.heap.size w (w2.alloc (.cells (([1, 4, 6] : List Int).map (Value.int .i64)).toArray 3)) := B2.alloc B2.size _
  have a2 : Below w2.heap.size w2 (w2.alloc (.cells (([1, 4, 6] : List Int).map (Value.int .i64)).toArray 3)) := (Below.refl _ _).alloc (Nat.le_refl _) _
  clear hx t1
  go_wp2_with fail
  refine (rowT_any (xs := [1, 4, 6]) (bb := w2.heap.size) (lit_cells w2 3 [1, 4, 6]) (by decide) (by decide)).mono ?_
  rintro e w3 ⟨r3, rfl, t3, hb3⟩
  rw [hy] at t3
  have D3 : Below w2.heap.size w2 w3 := a2.trans (hb3.mono a2.size)
  have B3 : Below w.heap.size w w3 := B2.trans (D3.mono B2.size)
  clear hy
  go_wp2_with fail
  refine (back_ans t3 (by decide) (by decide) (by decide)).mono ?_
  rintro e w4 ⟨ya, yb, yca, ycb, rfl, Y4, hb4⟩
  have D4 : Below w2.heap.size w2 w4 := D3.trans (hb4.mono D3.size)
  have B4 : Below w.heap.size w w4 := B3.trans (hb4.mono B3.size)
  clear t3
  obtain ⟨V1, hV1⟩ : ∃ V1, w4.alloc (.cells #[.slice xa 1 xca, .slice xb 3 xcb] 26) = V1 := ⟨_, rfl⟩
  obtain ⟨V, hV⟩ : ∃ V, V1.alloc (.cells #[.slice ya 1 yca, .slice yb 3 ycb] 26) = V := ⟨_, rfl⟩
  have s1 : V1.heap.size = w4.heap.size + 1 := by rw [← hV1]; simp
  have b4V : Below w4.heap.size w4 V := by rw [← hV, ← hV1]; exact ((Below.refl _ _).alloc (Nat.le_refl _) _).alloc (by simp) _
  have R0 : Row V w4.heap.size 26 #[.slice xa 1 xca, .slice xb 3 xcb] := by rw [← hV, ← hV1]; exact (Row.new _ _ _).alloc _
  have R1 : Row V (w4.heap.size + 1) 26 #[.slice ya 1 yca, .slice yb 3 ycb] := by rw [← hV, ← s1]; exact Row.new _ _ _
  have BV : Below w.heap.size w V := B4.trans (b4V.mono B4.size)
  have XV : ∀ Y, Below V.heap.size V Y → ResT w1.heap.size Y (.agg #[.slice xa 1 xca, .slice xb 3 xcb]) [3] [1, -2, 0] 8 := fun Y h => X2.later ((D4.trans (b4V.mono D4.size)).trans (h.mono (by have := D4.size; have := b4V.size; omega)))
  have YV : ∀ Y, Below V.heap.size V Y → ResT w3.heap.size Y (.agg #[.slice ya 1 yca, .slice yb 3 ycb]) [3] [1 / 2, 2, 3] 8 := fun Y h => Y4.later (b4V.trans (h.mono b4V.size))
  obtain ⟨x0, x1, _, _⟩ := R0.two
  obtain ⟨y0, y1, _, _⟩ := R1.two
  have HX := Lib.hid XV
  have HY := Lib.hid YV
  have B0 : Below V.heap.size V V := Below.refl _ _
  clear X2 Y4 D3 D4 a2 A2 A0 B1 B2 B3 B4 hb1 hb2 hb3 hb4
  go_wp2_with fail
  refine (addK (n := 8) (HX.out _ B0) (HY.out _ B0) ok3 rfl (by decide) (by decide)).mono ?_
  rintro e z1 ⟨hg, hz⟩
  rw [Q1.out] at hg
  obtain ⟨ra1, rb1, rca1, rcb1, rfl, T1⟩ := hg
  obtain ⟨V2, hV⟩ : ∃ X, z1.alloc (.cells #[.slice ra1 1 rca1, .slice rb1 3 rcb1] 26) = X := ⟨_, rfl⟩
  have bz : Below z1.heap.size z1 V2 := by rw [← hV]; exact (Below.refl _ _).alloc (Nat.le_refl _) _
  have N1 : Row V2 z1.heap.size 26 #[.slice ra1 1 rca1, .slice rb1 3 rcb1] := by rw [← hV]; exact Row.new _ _ _
  have E1 : Below V.heap.size V V2 := hz.trans (bz.mono hz.size)
  have B1 : Below V.heap.size V V2 := B0.trans (E1.mono B0.size)
  have M1 := Lib.hid (T1.later bz)
  obtain ⟨x0', x1', _, _⟩ := (R0.later B1).two
  obtain ⟨y0', y1', _, _⟩ := (R1.later B1).two
  clear x0 x1 y0 y1 T1
  have x0 := x0'
  have x1 := x1'
  have y0 := y0'
  have y1 := y1'
  clear x0' x1' y0' y1' hz bz
  go_wp2_with fail
  (try rw [hV])
  (try clear hV)
  refine (divK (n := 8) (HX.out _ B1) (HY.out _ B1) ok3 rfl (by decide) (by decide) Q6.out).mono ?_
  rintro e z2 ⟨hg, hz⟩
  rw [Q2.out] at hg
  obtain ⟨ra2, rb2, rca2, rcb2, rfl, T2⟩ := hg
  obtain ⟨V3, hV⟩ : ∃ X, z2.alloc (.cells #[.slice ra2 1 rca2, .slice rb2 3 rcb2] 26) = X := ⟨_, rfl⟩
  have bz : Below z2.heap.size z2 V3 := by rw [← hV]; exact (Below.refl _ _).alloc (Nat.le_refl _) _
  have N2 : Row V3 z2.heap.size 26 #[.slice ra2 1 rca2, .slice rb2 3 rcb2] := by rw [← hV]; exact Row.new _ _ _
  have E2 : Below V2.heap.size V2 V3 := hz.trans (bz.mono hz.size)
  have B2 : Below V.heap.size V V3 := B1.trans (E2.mono B1.size)
  have M2 := Lib.hid (T2.later bz)
  replace N1 := N1.later E2
  replace M1 := Lib.hid (M1.out.later E2)
  obtain ⟨x0', x1', _, _⟩ := (R0.later B2).two
  obtain ⟨y0', y1', _, _⟩ := (R1.later B2).two
  clear x0 x1 y0 y1 T2
  have x0 := x0'
  have x1 := x1'
  have y0 := y0'
  have y1 := y1'
  clear x0' x1' y0' y1' hz bz
  go_wp2_with fail
  (try rw [hV])
  (try clear hV)
  refine (reluK (n := 8) (HX.out _ B2) ok3 (by decide) (by decide)).mono ?_
  rintro e z3 ⟨hg, hz⟩
  rw [Q3.out] at hg
  obtain ⟨ra3, rb3, rca3, rcb3, rfl, T3⟩ := hg
  obtain ⟨V4, hV⟩ : ∃ X, z3.alloc (.cells #[.slice ra3 1 rca3, .slice rb3 3 rcb3] 26) = X := ⟨_, rfl⟩
  have bz : Below z3.heap.size z3 V4 := by rw [← hV]; exact (Below.refl _ _).alloc (Nat.le_refl _) _
  have N3 : Row V4 z3.heap.size 26 #[.slice ra3 1 rca3, .slice rb3 3 rcb3] := by rw [← hV]; exact Row.new _ _ _
  have E3 : Below V3.heap.size V3 V4 := hz.trans (bz.mono hz.size)
  have B3 : Below V.heap.size V V4 := B2.trans (E3.mono B2.size)
  have M3 := Lib.hid (T3.later bz)
  replace N1 := N1.later E3
  replace M1 := Lib.hid (M1.out.later E3)
  replace N2 := N2.later E3
  replace M2 := Lib.hid (M2.out.later E3)
  obtain ⟨x0', x1', _, _⟩ := (R0.later B3).two
  obtain ⟨y0', y1', _, _⟩ := (R1.later B3).two
  clear x0 x1 y0 y1 T3
  have x0 := x0'
  have x1 := x1'
  have y0 := y0'
  have y1 := y1'
  clear x0' x1' y0' y1' hz bz
  go_wp2_with fail
  (try rw [hV])
  (try clear hV)
  refine (stepK (n := 8) (HX.out _ B3) ok3 (by decide) (by decide)).mono ?_
  rintro e z4 ⟨hg, hz⟩
  rw [Q4.out] at hg
  obtain ⟨ra4, rb4, rca4, rcb4, rfl, T4⟩ := hg
  obtain ⟨V5, hV⟩ : ∃ X, z4.alloc (.cells #[.slice ra4 1 rca4, .slice rb4 3 rcb4] 26) = X := ⟨_, rfl⟩
  have bz : Below z4.heap.size z4 V5 := by rw [← hV]; exact (Below.refl _ _).alloc (Nat.le_refl _) _
  have N4 : Row V5 z4.heap.size 26 #[.slice ra4 1 rca4, .slice rb4 3 rcb4] := by rw [← hV]; exact Row.new _ _ _
  have E4 : Below V4.heap.size V4 V5 := hz.trans (bz.mono hz.size)
  have B4 : Below V.heap.size V V5 := B3.trans (E4.mono B3.size)
  have M4 := Lib.hid (T4.later bz)
  replace N1 := N1.later E4
  replace M1 := Lib.hid (M1.out.later E4)
  replace N2 := N2.later E4
  replace M2 := Lib.hid (M2.out.later E4)
  replace N3 := N3.later E4
  replace M3 := Lib.hid (M3.out.later E4)
  obtain ⟨x0', x1', _, _⟩ := (R0.later B4).two
  obtain ⟨y0', y1', _, _⟩ := (R1.later B4).two
  clear x0 x1 y0 y1 T4
  have x0 := x0'
  have x1 := x1'
  have y0 := y0'
  have y1 := y1'
  clear x0' x1' y0' y1' hz bz
  go_wp2_with fail
  (try rw [hV])
  (try clear hV)
  refine (powK (n := 8) (HX.out _ B4) ok3 (by decide) (by decide) 2 (by decide)).mono ?_
  rintro e z5 ⟨hg, hz⟩
  rw [Q5.out] at hg
  obtain ⟨ra5, rb5, rca5, rcb5, rfl, T5⟩ := hg
  obtain ⟨V6, hV⟩ : ∃ X, z5.alloc (.cells #[.slice ra5 1 rca5, .slice rb5 3 rcb5] 26) = X := ⟨_, rfl⟩
  have bz : Below z5.heap.size z5 V6 := by rw [← hV]; exact (Below.refl _ _).alloc (Nat.le_refl _) _
  have N5 : Row V6 z5.heap.size 26 #[.slice ra5 1 rca5, .slice rb5 3 rcb5] := by rw [← hV]; exact Row.new _ _ _
  have E5 : Below V5.heap.size V5 V6 := hz.trans (bz.mono hz.size)
  have B5 : Below V.heap.size V V6 := B4.trans (E5.mono B4.size)
  have M5 := Lib.hid (T5.later bz)
  replace N1 := N1.later E5
  replace M1 := Lib.hid (M1.out.later E5)
  replace N2 := N2.later E5
  replace M2 := Lib.hid (M2.out.later E5)
  replace N3 := N3.later E5
  replace M3 := Lib.hid (M3.out.later E5)
  replace N4 := N4.later E5
  replace M4 := Lib.hid (M4.out.later E5)
  obtain ⟨x0', x1', _, _⟩ := (R0.later B5).two
  obtain ⟨y0', y1', _, _⟩ := (R1.later B5).two
  clear x0 x1 y0 y1 T5
  have x0 := x0'
  have x1 := x1'
  have y0 := y0'
  have y1 := y1'
  clear x0' x1' y0' y1' hz bz
  go_wp2_with fail
  (try rw [hV])
  (try clear hV)
  refine (divK_zero (n := 8) (HY.out _ B5) (HX.out _ B5) ok3 rfl (by decide) (by decide) Q7.out).mono ?_
  rintro e z6 ⟨rfl, hz⟩
  obtain ⟨f0, f1, f2, f3⟩ := (Row.new z6 26 #[.slice none 0 0, .slice none 0 0]).two
  clear x0 x1 y0 y1 R0 R1 HX HY
  go_wp2_with fail
  obtain ⟨U, hV⟩ : ∃ X, z6.alloc (.cells #[.slice none 0 0, .slice none 0 0] 26) = X := ⟨_, rfl⟩
  have bz : Below z6.heap.size z6 U := by rw [← hV]; exact (Below.refl _ _).alloc (Nat.le_refl _) _
  have E6 : Below V6.heap.size V6 U := hz.trans (bz.mono hz.size)
  have B6 : Below V.heap.size V U := B5.trans (E6.mono B5.size)
  replace N1 := N1.later E6
  replace N2 := N2.later E6
  replace N3 := N3.later E6
  replace N4 := N4.later E6
  replace N5 := N5.later E6
  replace M1 := Lib.hid (M1.out.later E6)
  replace M2 := Lib.hid (M2.out.later E6)
  replace M3 := Lib.hid (M3.out.later E6)
  replace M4 := Lib.hid (M4.out.later E6)
  replace M5 := Lib.hid (M5.out.later E6)
  clear f0 f1 f2 f3 hz bz E1 E2 E3 E4 E5 E6 B0 B1 B2 B3 B4 B5
  rw [hV]
  clear hV
  have mkS : ∀ X, Below U.heap.size U X → X.cell? ⟨z1.heap.size, 0, none⟩ = some (.slice ra1 1 rca1) ∧ X.cell? ⟨z1.heap.size, 1, none⟩ = some (.slice rb1 3 rcb1) ∧ X.cell? ⟨z2.heap.size, 0, none⟩ = some (.slice ra2 1 rca2) ∧ X.cell? ⟨z2.heap.size, 1, none⟩ = some (.slice rb2 3 rcb2) ∧ X.cell? ⟨z3.heap.size, 0, none⟩ = some (.slice ra3 1 rca3) ∧ X.cell? ⟨z3.heap.size, 1, none⟩ = some (.slice rb3 3 rcb3) ∧ X.cell? ⟨z4.heap.size, 0, none⟩ = some (.slice ra4 1 rca4) ∧ X.cell? ⟨z4.heap.size, 1, none⟩ = some (.slice rb4 3 rcb4) ∧ X.cell? ⟨z5.heap.size, 0, none⟩ = some (.slice ra5 1 rca5) ∧ X.cell? ⟨z5.heap.size, 1, none⟩ = some (.slice rb5 3 rcb5) := fun X h => by
    obtain ⟨g0, g1, _⟩ := (N1.later h).two
    obtain ⟨g2, g3, _⟩ := (N2.later h).two
    obtain ⟨g4, g5, _⟩ := (N3.later h).two
    obtain ⟨g6, g7, _⟩ := (N4.later h).two
    obtain ⟨g8, g9, _⟩ := (N5.later h).two
    exact ⟨g0, g1, g2, g3, g4, g5, g6, g7, g8, g9⟩
  have BU : Below w.heap.size w U := BV.trans (B6.mono BV.size)
  have F0 : Below U.heap.size U U.drew := (Below.refl _ _).drew
  refine wp_region_held_drew (S := fun X => X.cell? ⟨z1.heap.size, 0, none⟩ = some (.slice ra1 1 rca1) ∧ X.cell? ⟨z1.heap.size, 1, none⟩ = some (.slice rb1 3 rcb1) ∧ X.cell? ⟨z2.heap.size, 0, none⟩ = some (.slice ra2 1 rca2) ∧ X.cell? ⟨z2.heap.size, 1, none⟩ = some (.slice rb2 3 rcb2) ∧ X.cell? ⟨z3.heap.size, 0, none⟩ = some (.slice ra3 1 rca3) ∧ X.cell? ⟨z3.heap.size, 1, none⟩ = some (.slice rb3 3 rcb3) ∧ X.cell? ⟨z4.heap.size, 0, none⟩ = some (.slice ra4 1 rca4) ∧ X.cell? ⟨z4.heap.size, 1, none⟩ = some (.slice rb4 3 rcb4) ∧ X.cell? ⟨z5.heap.size, 0, none⟩ = some (.slice ra5 1 rca5) ∧ X.cell? ⟨z5.heap.size, 1, none⟩ = some (.slice rb5 3 rcb5)) (by kernel_rfl) (mkS _ F0) (fun hHeld => ?_)
  obtain ⟨u0, hu0⟩ : ∃ Y, U.drew = Y := ⟨_, rfl⟩
  rw [hu0] at F0 hHeld ⊢
  clear hu0
  refine todo [0, 1] ?_
  iterate 2
   refine todoH (v := ?_) rfl (by kernel_rfl) (fun _ _ _ h => h) (by assumption) (Or.inl ⟨by rfl, ?_⟩) ?_
   rotate_left
   · intro w hSw; (try dsimp only at hSw); go_simp; (try with_reducible rfl)
   try simp only [Act.put, List.getElem_toArray, List.getElem_cons_succ, List.getElem_cons_zero, List.setIfInBounds_toArray, List.set_cons_zero, List.set_cons_succ]
  refine todone ?_
  have A1 : Below U.heap.size U (u0.alloc (.cells (([3, 0, 6] : List Int).map (Value.int .i64)).toArray 3)) := F0.alloc F0.size _
  refine wpAnyH_ready (rs := [2]) (by kernel_rfl) (by simp) ?_
  refine AllReadyH.cons rfl (fun K hK => ?ska2) AllReadyH.nil
  go_simp
  refine hK.out _ _ ?kka2 (fun hHeld => ?mka2)
  case kka2 =>
    try dsimp only
    exact mkS _ A1
  clear hK K
  try simp only [Act.put, List.getElem_toArray, List.getElem_cons_succ, List.getElem_cons_zero, List.setIfInBounds_toArray, List.set_cons_zero, List.set_cons_succ]
  refine wpAnyH_ready (rs := [3]) (by kernel_rfl) (by simp) ?_
  refine AllReadyH.cons rfl (fun K hK => ?skr3) AllReadyH.nil
  go_simp
  refine (rowT_any (xs := [3, 0, 6]) (bb := u0.heap.size) (lit_cells u0 3 [3, 0, 6]) (by decide) (by decide)).mono ?_
  rintro e u1 ⟨r1, rfl, t1, hb⟩
  rw [P1.out] at t1
  have F1 : Below U.heap.size U u1 := A1.trans (hb.mono A1.size)
  clear hb
  go_simp
  refine hK.out _ _ ?kkr3 (fun hHeld => ?mkr3)
  case kkr3 =>
    try dsimp only
    exact mkS _ F1
  clear hK K
  try simp only [Act.put, List.getElem_toArray, List.getElem_cons_succ, List.getElem_cons_zero, List.setIfInBounds_toArray, List.set_cons_zero, List.set_cons_succ]
  refine wpAnyH_ready (rs := [4]) (by kernel_rfl) (by simp) ?_
  refine AllReadyH.cons rfl (fun K hK => ?ski4) AllReadyH.nil
  go_simp
  refine (is_true8 (M1.out.later F1) t1 (by decide) (by decide) (by decide) (by decide)).mono ?_
  rintro e u2 ⟨rfl, hb⟩
  have F2 : Below U.heap.size U u2 := F1.trans (hb.mono F1.size)
  clear hb t1
  go_simp
  refine hK.out _ _ ?kki4 (fun hHeld => ?mki4)
  case kki4 =>
    try dsimp only
    exact mkS _ F2
  clear hK K
  try simp only [Act.put, List.getElem_toArray, List.getElem_cons_succ, List.getElem_cons_zero, List.setIfInBounds_toArray, List.set_cons_zero, List.set_cons_succ]
  refine todo [5, 6, 7] ?_
  iterate 3
   refine todoH (v := ?_) rfl (by kernel_rfl) (fun _ _ _ h => h) (by assumption) (Or.inl ⟨by rfl, ?_⟩) ?_
   rotate_left
   · intro w hSw; (try dsimp only at hSw); go_simp; (try with_reducible rfl)
   try simp only [Act.put, List.getElem_toArray, List.getElem_cons_succ, List.getElem_cons_zero, List.setIfInBounds_toArray, List.set_cons_zero, List.set_cons_succ]
  refine todone ?_
  have A2 : Below U.heap.size U (u2.alloc (.cells (([4, -2, 0] : List Int).map (Value.int .i64)).toArray 3)) := F2.alloc F2.size _
  refine wpAnyH_ready (rs := [8]) (by kernel_rfl) (by simp) ?_
  refine AllReadyH.cons rfl (fun K hK => ?ska8) AllReadyH.nil
  go_simp
  refine hK.out _ _ ?kka8 (fun hHeld => ?mka8)
  case kka8 =>
    try dsimp only
    exact mkS _ A2
  clear hK K
  try simp only [Act.put, List.getElem_toArray, List.getElem_cons_succ, List.getElem_cons_zero, List.setIfInBounds_toArray, List.set_cons_zero, List.set_cons_succ]
  refine wpAnyH_ready (rs := [9]) (by kernel_rfl) (by simp) ?_
  refine AllReadyH.cons rfl (fun K hK => ?skr9) AllReadyH.nil
  go_simp
  refine (rowT_any (xs := [4, -2, 0]) (bb := u2.heap.size) (lit_cells u2 3 [4, -2, 0]) (by decide) (by decide)).mono ?_
  rintro e u3 ⟨r2, rfl, t2, hb⟩
  rw [P2.out] at t2
  have F3 : Below U.heap.size U u3 := A2.trans (hb.mono A2.size)
  clear hb
  go_simp
  refine hK.out _ _ ?kkr9 (fun hHeld => ?mkr9)
  case kkr9 =>
    try dsimp only
    exact mkS _ F3
  clear hK K
  try simp only [Act.put, List.getElem_toArray, List.getElem_cons_succ, List.getElem_cons_zero, List.setIfInBounds_toArray, List.set_cons_zero, List.set_cons_succ]
  refine wpAnyH_ready (rs := [10]) (by kernel_rfl) (by simp) ?_
  refine AllReadyH.cons rfl (fun K hK => ?ski10) AllReadyH.nil
  go_simp
  refine (is_true8 (M2.out.later F3) t2 (by decide) (by decide) (by decide) (by decide)).mono ?_
  rintro e u4 ⟨rfl, hb⟩
  have F4 : Below U.heap.size U u4 := F3.trans (hb.mono F3.size)
  clear hb t2
  go_simp
  refine hK.out _ _ ?kki10 (fun hHeld => ?mki10)
  case kki10 =>
    try dsimp only
    exact mkS _ F4
  clear hK K
  try simp only [Act.put, List.getElem_toArray, List.getElem_cons_succ, List.getElem_cons_zero, List.setIfInBounds_toArray, List.set_cons_zero, List.set_cons_succ]
  refine todo [11, 12, 13, 14] ?_
  iterate 4
   refine todoH (v := ?_) rfl (by kernel_rfl) (fun _ _ _ h => h) (by assumption) (Or.inl ⟨by rfl, ?_⟩) ?_
   rotate_left
   · intro w hSw; (try dsimp only at hSw); go_simp; (try with_reducible rfl)
   try simp only [Act.put, List.getElem_toArray, List.getElem_cons_succ, List.getElem_cons_zero, List.setIfInBounds_toArray, List.set_cons_zero, List.set_cons_succ]
  refine todone ?_
  have A3 : Below U.heap.size U (u4.alloc (.cells (([2, 0, 0] : List Int).map (Value.int .i64)).toArray 3)) := F4.alloc F4.size _
  refine wpAnyH_ready (rs := [15]) (by kernel_rfl) (by simp) ?_
  refine AllReadyH.cons rfl (fun K hK => ?ska15) AllReadyH.nil
  go_simp
  refine hK.out _ _ ?kka15 (fun hHeld => ?mka15)
  case kka15 =>
    try dsimp only
    exact mkS _ A3
  clear hK K
  try simp only [Act.put, List.getElem_toArray, List.getElem_cons_succ, List.getElem_cons_zero, List.setIfInBounds_toArray, List.set_cons_zero, List.set_cons_succ]
  refine wpAnyH_ready (rs := [16]) (by kernel_rfl) (by simp) ?_
  refine AllReadyH.cons rfl (fun K hK => ?skr16) AllReadyH.nil
  go_simp
  refine (rowT_any (xs := [2, 0, 0]) (bb := u4.heap.size) (lit_cells u4 3 [2, 0, 0]) (by decide) (by decide)).mono ?_
  rintro e u5 ⟨r3, rfl, t3, hb⟩
  rw [P3.out] at t3
  have F5 : Below U.heap.size U u5 := A3.trans (hb.mono A3.size)
  clear hb
  go_simp
  refine hK.out _ _ ?kkr16 (fun hHeld => ?mkr16)
  case kkr16 =>
    try dsimp only
    exact mkS _ F5
  clear hK K
  try simp only [Act.put, List.getElem_toArray, List.getElem_cons_succ, List.getElem_cons_zero, List.setIfInBounds_toArray, List.set_cons_zero, List.set_cons_succ]
  refine wpAnyH_ready (rs := [17]) (by kernel_rfl) (by simp) ?_
  refine AllReadyH.cons rfl (fun K hK => ?ski17) AllReadyH.nil
  go_simp
  refine (is_true8 (M3.out.later F5) t3 (by decide) (by decide) (by decide) (by decide)).mono ?_
  rintro e u6 ⟨rfl, hb⟩
  have F6 : Below U.heap.size U u6 := F5.trans (hb.mono F5.size)
  clear hb t3
  go_simp
  refine hK.out _ _ ?kki17 (fun hHeld => ?mki17)
  case kki17 =>
    try dsimp only
    exact mkS _ F6
  clear hK K
  try simp only [Act.put, List.getElem_toArray, List.getElem_cons_succ, List.getElem_cons_zero, List.setIfInBounds_toArray, List.set_cons_zero, List.set_cons_succ]
  refine todo [18, 19, 20, 21] ?_
  iterate 4
   refine todoH (v := ?_) rfl (by kernel_rfl) (fun _ _ _ h => h) (by assumption) (Or.inl ⟨by rfl, ?_⟩) ?_
   rotate_left
   · intro w hSw; (try dsimp only at hSw); go_simp; (try with_reducible rfl)
   try simp only [Act.put, List.getElem_toArray, List.getElem_cons_succ, List.getElem_cons_zero, List.setIfInBounds_toArray, List.set_cons_zero, List.set_cons_succ]
  refine todone ?_
  have A4 : Below U.heap.size U (u6.alloc (.cells (([2, 0, 0] : List Int).map (Value.int .i64)).toArray 3)) := F6.alloc F6.size _
  refine wpAnyH_ready (rs := [22]) (by kernel_rfl) (by simp) ?_
  refine AllReadyH.cons rfl (fun K hK => ?ska22) AllReadyH.nil
  go_simp
  refine hK.out _ _ ?kka22 (fun hHeld => ?mka22)
  case kka22 =>
    try dsimp only
    exact mkS _ A4
  clear hK K
  try simp only [Act.put, List.getElem_toArray, List.getElem_cons_succ, List.getElem_cons_zero, List.setIfInBounds_toArray, List.set_cons_zero, List.set_cons_succ]
  refine wpAnyH_ready (rs := [23]) (by kernel_rfl) (by simp) ?_
  refine AllReadyH.cons rfl (fun K hK => ?skr23) AllReadyH.nil
  go_simp
  refine (rowT_any (xs := [2, 0, 0]) (bb := u6.heap.size) (lit_cells u6 3 [2, 0, 0]) (by decide) (by decide)).mono ?_
  rintro e u7 ⟨r4, rfl, t4, hb⟩
  rw [P3.out] at t4
  have F7 : Below U.heap.size U u7 := A4.trans (hb.mono A4.size)
  clear hb
  go_simp
  refine hK.out _ _ ?kkr23 (fun hHeld => ?mkr23)
  case kkr23 =>
    try dsimp only
    exact mkS _ F7
  clear hK K
  try simp only [Act.put, List.getElem_toArray, List.getElem_cons_succ, List.getElem_cons_zero, List.setIfInBounds_toArray, List.set_cons_zero, List.set_cons_succ]
  refine wpAnyH_ready (rs := [24]) (by kernel_rfl) (by simp) ?_
  refine AllReadyH.cons rfl (fun K hK => ?ski24) AllReadyH.nil
  go_simp
  refine (is_true8 (M4.out.later F7) t4 (by decide) (by decide) (by decide) (by decide)).mono ?_
  rintro e u8 ⟨rfl, hb⟩
  have F8 : Below U.heap.size U u8 := F7.trans (hb.mono F7.size)
  clear hb t4
  go_simp
  refine hK.out _ _ ?kki24 (fun hHeld => ?mki24)
  case kki24 =>
    try dsimp only
    exact mkS _ F8
  clear hK K
  try simp only [Act.put, List.getElem_toArray, List.getElem_cons_succ, List.getElem_cons_zero, List.setIfInBounds_toArray, List.set_cons_zero, List.set_cons_succ]
  refine todo [25, 26, 27, 28] ?_
  iterate 4
   refine todoH (v := ?_) rfl (by kernel_rfl) (fun _ _ _ h => h) (by assumption) (Or.inl ⟨by rfl, ?_⟩) ?_
   rotate_left
   · intro w hSw; (try dsimp only at hSw); go_simp; (try with_reducible rfl)
   try simp only [Act.put, List.getElem_toArray, List.getElem_cons_succ, List.getElem_cons_zero, List.setIfInBounds_toArray, List.set_cons_zero, List.set_cons_succ]
  refine todone ?_
  have A5 : Below U.heap.size U (u8.alloc (.cells (([2, 8, 0] : List Int).map (Value.int .i64)).toArray 3)) := F8.alloc F8.size _
  refine wpAnyH_ready (rs := [29]) (by kernel_rfl) (by simp) ?_
  refine AllReadyH.cons rfl (fun K hK => ?ska29) AllReadyH.nil
  go_simp
  refine hK.out _ _ ?kka29 (fun hHeld => ?mka29)
  case kka29 =>
    try dsimp only
    exact mkS _ A5
  clear hK K
  try simp only [Act.put, List.getElem_toArray, List.getElem_cons_succ, List.getElem_cons_zero, List.setIfInBounds_toArray, List.set_cons_zero, List.set_cons_succ]
  refine wpAnyH_ready (rs := [30]) (by kernel_rfl) (by simp) ?_
  refine AllReadyH.cons rfl (fun K hK => ?skr30) AllReadyH.nil
  go_simp
  refine (rowT_any (xs := [2, 8, 0]) (bb := u8.heap.size) (lit_cells u8 3 [2, 8, 0]) (by decide) (by decide)).mono ?_
  rintro e u9 ⟨r5, rfl, t5, hb⟩
  rw [P5.out] at t5
  have F9 : Below U.heap.size U u9 := A5.trans (hb.mono A5.size)
  clear hb
  go_simp
  refine hK.out _ _ ?kkr30 (fun hHeld => ?mkr30)
  case kkr30 =>
    try dsimp only
    exact mkS _ F9
  clear hK K
  try simp only [Act.put, List.getElem_toArray, List.getElem_cons_succ, List.getElem_cons_zero, List.setIfInBounds_toArray, List.set_cons_zero, List.set_cons_succ]
  refine wpAnyH_ready (rs := [31]) (by kernel_rfl) (by simp) ?_
  refine AllReadyH.cons rfl (fun K hK => ?ski31) AllReadyH.nil
  go_simp
  refine (is_true8 (M5.out.later F9) t5 (by decide) (by decide) (by decide) (by decide)).mono ?_
  rintro e u10 ⟨rfl, hb⟩
  have F10 : Below U.heap.size U u10 := F9.trans (hb.mono F9.size)
  clear hb t5
  go_simp
  refine hK.out _ _ ?kki31 (fun hHeld => ?mki31)
  case kki31 =>
    try dsimp only
    exact mkS _ F10
  clear hK K
  try simp only [Act.put, List.getElem_toArray, List.getElem_cons_succ, List.getElem_cons_zero, List.setIfInBounds_toArray, List.set_cons_zero, List.set_cons_succ]
  refine todo [32, 33, 34, 35, 36] ?_
  iterate 5
   refine todoH (v := ?_) rfl (by kernel_rfl) (fun _ _ _ h => h) (by assumption) (Or.inl ⟨by rfl, ?_⟩) ?_
   rotate_left
   · intro w hSw; (try dsimp only at hSw); go_simp; (try with_reducible rfl)
   try simp only [Act.put, List.getElem_toArray, List.getElem_cons_succ, List.getElem_cons_zero, List.setIfInBounds_toArray, List.set_cons_zero, List.set_cons_succ]
  refine todone ?_
  refine wpAnyH_ready (rs := [37]) (by kernel_rfl) (by simp) ?_
  refine AllReadyH.cons rfl (fun K hK => ?skd37) AllReadyH.nil
  go_simp
  refine hK.out _ _ ?kkd37 (fun hHeld => ?mkd37)
  case kkd37 =>
    try dsimp only
    exact mkS _ F10
  clear hK K
  try simp only [Act.put, List.getElem_toArray, List.getElem_cons_succ, List.getElem_cons_zero, List.setIfInBounds_toArray, List.set_cons_zero, List.set_cons_succ]
  refine wpAnyH_done (by kernel_rfl) ?_ _
  (try dsimp only [Straight])
  go_wp2_with fail
  go_ret
  exact ⟨rfl, BU.trans (F10.mono BU.size)⟩
end Go.Proofs.YtjcacmnmbbnffaaGreat
