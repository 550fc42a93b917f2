/-
  Layer 7's law TensorMakes: for every tensor's shape and numbers the law holds (arguments that hold together at most 1048576 values).
-/
import Derived.Test.YtnhfjacifajdlaaGreatTMadeIs
namespace Go.Proofs.YtnhfjacifajdlaaGreat
open Go.RowKit
set_option linter.unusedVariables false
set_option linter.unusedSimpArgs false

set_option maxRecDepth 100000 in
set_option maxHeartbeats 8000000 in
theorem tensorMakes_walk {v : Value} {s : List Int} {qs : List Q3} {a b : Option Addr} {ca cb : Nat} (W : World) (T : TensQ W v s qs a ca b cb) (ls : s.length ≤ 1048576) (lq : sizeQs qs ≤ 1048576) :
    Calls Tryz.prog 4 #[v] W fun e W' => e = .returned (.bool true) ∧ Below W.heap.size W W' := by
  have HT := Lib.hid T
  have hlen := sizeQs_len qs
  have HL := Lib.hid (lensQ.of lq)
  have hq1 : qs.length ≤ 1048576 := by omega
  obtain rfl := T.is
  obtain ⟨V, hV⟩ : ∃ V, W.alloc (.cells #[.slice a s.length ca, .slice b qs.length cb] 26) = V := ⟨_, rfl⟩
  have R0 : Row V W.heap.size 26 #[.slice a s.length ca, .slice b qs.length cb] := by rw [← hV]; exact Row.new _ _ _
  have hBV : Below W.heap.size W V := by rw [← hV]; exact (Below.refl _ _).alloc (by simp) _
  have tX : ∀ X, Below V.heap.size V X → TensQ X (.agg #[.slice a s.length ca, .slice b qs.length cb]) s qs a ca b cb := fun X h => HT.out.later (hBV.trans (h.mono hBV.size))
  have own1 := fun X (h : Below V.heap.size V X) => ownT_any (tX X h) (by omega) (by omega) (fun q hq => ⟨Nat.le_trans (HL.out q hq).1 (by omega), Nat.le_trans (HL.out q hq).2 (by omega)⟩)
  have ref1 := fun X (h : Below V.heap.size V X) => mayT_any (tX X h) (by omega) (fun q hq => ⟨Nat.le_trans (HL.out q hq).1 (by omega), Nat.le_trans (HL.out q hq).2 (by omega)⟩)
  obtain ⟨c0, c1, _, _⟩ := R0.two
  have of1 := fun X (h : Below V.heap.size V X) => ofT_any (n := 1048576) (tX X h) (by omega) (by omega) HL.out (by omega)
  have rmay := fun X (h : Below V.heap.size V X) => calls_below (mayR6_any (tX X h).sh)
  have rcnt := fun X (h : Below V.heap.size V X) => calls_below (countR6_any (tX X h).sh)
  obtain ⟨m, hm⟩ : ∃ m, mayC s = m := ⟨_, rfl⟩
  obtain ⟨k, hk⟩ : ∃ k, countS s = k := ⟨_, rfl⟩
  obtain ⟨d, hd⟩ : ∃ d, makeC s qs.length = d := ⟨_, rfl⟩
  have hdm : d = if m ≠ 0 then m else if (qs.length : Int) ≠ k then 13 else 0 := by rw [← hd, ← hm, ← hk]; rfl
  rw [hm] at rmay
  rw [hk] at rcnt
  have HD := Lib.hid hd
  have HDM := Lib.hid hdm
  have HM := Lib.hid hm
  have HK := Lib.hid hk
  clear T hd hdm hm hk
  go_enter Tryz.func4, Tryz.ntmps4
  go_wp2_with fail
  (try rw [hV])
  refine (own1 _ (Below.refl _ V)).mono ?_
  rintro e y1 ⟨p1, r1, cx1, cy1, rfl, S1, E1, hy1⟩
  have T1 := ownT_tens S1 E1
  have z1 := hy1.size
  obtain ⟨y2, hy2e⟩ : ∃ y2, y1.alloc (.cells #[.slice p1 s.length cx1, .slice r1 qs.length cy1] 26) = y2 := ⟨_, rfl⟩
  have hy2 : Below y1.heap.size y1 y2 := by rw [← hy2e]; exact (Below.refl _ _).alloc (Nat.le_refl _) _
  have O2 : Row y2 y1.heap.size 26 #[.slice p1 s.length cx1, .slice r1 qs.length cy1] := by rw [← hy2e]; exact Row.new _ _ _
  have B2 : Below V.heap.size V y2 := hy1.trans (hy2.mono z1)
  have T2 := T1.later hy2
  obtain ⟨o0, o1, _, _⟩ := O2.two
  clear hV
  go_wp2_with fail
  (try rw [hy2e])
  refine (makeT7_any (n := 1048576) T2.sh T2.nila T2.el T2.nilb ls hq1 HL.out (by omega)).mono ?_
  rw [HD.out]
  rintro e y3 ⟨r3, rfl, hgood, hbad, hy3⟩
  have B3 : Below V.heap.size V y3 := B2.trans (hy3.mono B2.size)
  clear hy2e o0 o1
  obtain ⟨g0, g1, g2, g3, n0, n1, hr3⟩ : ∃ (g0 g1 : Option Addr) (g2 g3 n0 n1 : Nat), r3 = .agg #[.slice g0 n0 g2, .slice g1 n1 g3] ∧ (d ≠ 0 → n0 = 0 ∧ n1 = 0) := by
    by_cases h : d = 0
    · obtain ⟨a', b', ca', cb', e, _, _⟩ := hgood h
      exact ⟨a', b', ca', cb', _, _, e, fun h2 => absurd h h2⟩
    · exact ⟨none, none, 0, 0, 0, 0, hbad h, fun _ => ⟨rfl, rfl⟩⟩
  obtain ⟨hr3, hn0⟩ := hr3
  subst hr3
  obtain ⟨y4, hy4e⟩ : ∃ y4, y3.alloc (.cells #[.slice g0 n0 g2, .slice g1 n1 g3] 26) = y4 := ⟨_, rfl⟩
  have hy4 : Below y3.heap.size y3 y4 := by rw [← hy4e]; exact (Below.refl _ _).alloc (Nat.le_refl _) _
  have O4 : Row y4 y3.heap.size 26 #[.slice g0 n0 g2, .slice g1 n1 g3] := by rw [← hy4e]; exact Row.new _ _ _
  have B4 : Below V.heap.size V y4 := B3.trans (hy4.mono B3.size)
  obtain ⟨x0, x1, _, _⟩ := (R0.later B4).two
  have HGOOD := Lib.hid hgood
  have HN0 := Lib.hid hn0
  clear hgood hbad hn0
  go_wp2_with fail
  (try rw [hy4e])
  refine (rmay _ B4).mono ?_
  rintro e y5 ⟨rfl, hy5⟩
  have B5 : Below V.heap.size V y5 := B4.trans (hy5.mono B4.size)
  have D45 : Below y4.heap.size y4 y5 := hy5
  have mkS : ∀ X, Below y5.heap.size y5 X → X.cell? ⟨W.heap.size, 0, none⟩ = some (.slice a s.length ca) ∧ X.cell? ⟨W.heap.size, 1, none⟩ = some (.slice b qs.length cb) ∧ X.cell? ⟨y3.heap.size, 0, none⟩ = some (.slice g0 n0 g2) ∧ X.cell? ⟨y3.heap.size, 1, none⟩ = some (.slice g1 n1 g3) := fun X h => by
    obtain ⟨x0, x1, _⟩ := (R0.later (B5.trans (h.mono B5.size))).two
    obtain ⟨x2, x3, _⟩ := (O4.later (hy5.trans (h.mono hy5.size))).two
    exact ⟨x0, x1, x2, x3⟩
  have F0 : Below y5.heap.size y5 y5.drew := (Below.refl _ y5).drew
  have toV : ∀ X, Below y5.heap.size y5 X → Below V.heap.size V X := fun X h => B5.trans (h.mono B5.size)
  clear x0 x1 hy4e
  by_cases h0 : m = 0
  · subst h0
    by_cases h1 : (qs.length : Int) = k
    · have hd0 : d = 0 := by rw [HDM.out]; simp [h1]
      subst hd0
      have hn : ((qs.length : Int) != k) = false := by simp [h1]
      go_wp2_with fail
      refine wp_region_held (S := fun X => X.cell? ⟨W.heap.size, 0, none⟩ = some (.slice a s.length ca) ∧ X.cell? ⟨W.heap.size, 1, none⟩ = some (.slice b qs.length cb) ∧ X.cell? ⟨y3.heap.size, 0, none⟩ = some (.slice g0 n0 g2) ∧ X.cell? ⟨y3.heap.size, 1, none⟩ = some (.slice g1 n1 g3)) (by kernel_rfl) ?_
      have hHeld := mkS _ F0
      refine wpAnyH_take (i := 0) (v := ?vg0a0) rfl (by kernel_rfl) (by kernel_rfl) (by kernel_rfl) (fun _ _ _ h => h) (Or.inl ⟨by rfl, ?hg0a0⟩) (by assumption) ?rg0a0
      case hg0a0 =>
        intro w hSw
        try dsimp only at hSw
        go_simp
        try with_reducible rfl
      try simp only [Act.put, List.setIfInBounds_toArray, List.set_cons_zero, List.set_cons_succ]
      refine wpAnyH_take (i := 1) (v := ?vg0a1) rfl (by kernel_rfl) (by kernel_rfl) (by kernel_rfl) (fun _ _ _ h => h) (Or.inl ⟨by rfl, ?hg0a1⟩) (by assumption) ?rg0a1
      case hg0a1 =>
        intro w hSw
        try dsimp only at hSw
        go_simp
        try with_reducible rfl
      try simp only [Act.put, List.setIfInBounds_toArray, List.set_cons_zero, List.set_cons_succ]
      refine wpAnyH_take (i := 2) (v := ?vg0a2) rfl (by kernel_rfl) (by kernel_rfl) (by kernel_rfl) (fun _ _ _ h => h) (Or.inl ⟨by rfl, ?hg0a2⟩) (by assumption) ?rg0a2
      case hg0a2 =>
        intro w hSw
        try dsimp only at hSw
        go_simp
        try with_reducible rfl
      try simp only [Act.put, List.setIfInBounds_toArray, List.set_cons_zero, List.set_cons_succ]
      refine wpAnyH_take (i := 3) (v := ?vg0a3) rfl (by kernel_rfl) (by kernel_rfl) (by kernel_rfl) (fun _ _ _ h => h) (Or.inl ⟨by rfl, ?hg0a3⟩) (by assumption) ?rg0a3
      case hg0a3 =>
        intro w hSw
        try dsimp only at hSw
        go_simp
        try with_reducible rfl
      try simp only [Act.put, List.setIfInBounds_toArray, List.set_cons_zero, List.set_cons_succ]
      refine wpAnyH_take (i := 4) (v := ?vg0a4) rfl (by kernel_rfl) (by kernel_rfl) (by kernel_rfl) (fun _ _ _ h => h) (Or.inl ⟨by rfl, ?hg0a4⟩) (by assumption) ?rg0a4
      case hg0a4 =>
        intro w hSw
        try dsimp only at hSw
        go_simp
        try with_reducible rfl
      try simp only [Act.put, List.setIfInBounds_toArray, List.set_cons_zero, List.set_cons_succ]
      refine wpAnyH_take (i := 5) (v := ?vg0a5) rfl (by kernel_rfl) (by kernel_rfl) (by kernel_rfl) (fun _ _ _ h => h) (Or.inl ⟨by rfl, ?hg0a5⟩) (by assumption) ?rg0a5
      case hg0a5 =>
        intro w hSw
        try dsimp only at hSw
        go_simp
        try with_reducible rfl
      try simp only [Act.put, List.setIfInBounds_toArray, List.set_cons_zero, List.set_cons_succ]
      refine wpAnyH_take (i := 6) (v := ?vg0a6) rfl (by kernel_rfl) (by kernel_rfl) (by kernel_rfl) (fun _ _ _ h => h) (Or.inl ⟨by rfl, ?hg0a6⟩) (by assumption) ?rg0a6
      case hg0a6 =>
        intro w hSw
        try dsimp only at hSw
        go_simp
        try with_reducible rfl
      try simp only [Act.put, List.setIfInBounds_toArray, List.set_cons_zero, List.set_cons_succ]
      refine wpAnyH_take (i := 7) (v := ?vg0a7) rfl (by kernel_rfl) (by kernel_rfl) (by kernel_rfl) (fun _ _ _ h => h) (Or.inl ⟨by rfl, ?hg0a7⟩) (by assumption) ?rg0a7
      case hg0a7 =>
        intro w hSw
        try dsimp only at hSw
        go_simp
        try with_reducible rfl
      try simp only [Act.put, List.setIfInBounds_toArray, List.set_cons_zero, List.set_cons_succ]
      refine wpAnyH_ready (rs := [8]) (by kernel_rfl) (by simp) ?_
      refine AllReadyH.cons rfl (fun K hK => ?sg1c8) AllReadyH.nil
      go_simp
      refine (rcnt _ (toV _ F0)).mono ?_
      rintro e w1 ⟨rfl, hy⟩
      have F1 : Below y5.heap.size y5 w1 := F0.trans (hy.mono F0.size)
      have G1 := hy
      clear hy
      go_simp
      refine hK.out _ _ ?kg1c8 (fun hHeld => ?mg1c8)
      case kg1c8 =>
        try dsimp only
        exact mkS _ F1
      clear hK K
      try simp only [Act.put, List.setIfInBounds_toArray, List.set_cons_zero, List.set_cons_succ]
      refine wpAnyH_take (i := 9) (v := ?vg1a9) rfl (by kernel_rfl) (by kernel_rfl) (by kernel_rfl) (fun _ _ _ h => h) (Or.inl ⟨by rfl, ?hg1a9⟩) (by assumption) ?rg1a9
      case hg1a9 =>
        intro w hSw
        try dsimp only at hSw
        go_simp
        try with_reducible rfl
      try simp only [Act.put, List.setIfInBounds_toArray, List.set_cons_zero, List.set_cons_succ]
      refine wpAnyH_ready (rs := [10]) (by kernel_rfl) (by simp) ?_
      refine AllReadyH.cons rfl (fun K hK => ?sg1d10) AllReadyH.nil
      go_simp
      refine hK.out _ _ ?kg1d10 (fun hHeld => ?mg1d10)
      case kg1d10 =>
        try dsimp only
        exact mkS _ F1
      clear hK K
      try simp only [Act.put, List.setIfInBounds_toArray, List.set_cons_zero, List.set_cons_succ]
      refine wpAnyH_done (by kernel_rfl) ?_ _
      go_wp2_with fail
      obtain ⟨qs', h1', h2', h3', h4', TM, hmap, hlens, hoks⟩ := (HGOOD.out (by first | rfl | trivial)).tens
      have hlq : qs'.length = qs.length := by have := congrArg List.length hmap; simpa using this
      have hTM : ∀ X, Below y3.heap.size y3 X → TensQ X (.agg #[.slice g0 n0 g2, .slice g1 n1 g3]) s qs' h1' h3' h2' h4' := fun X h => TM.later h
      have hl3 : ∀ X, Below y5.heap.size y5 X → Below y3.heap.size y3 X := fun X h => (hy4.trans (D45.mono hy4.size)).trans (h.mono (by have := hy4.size; have := D45.size; omega))
      have his : ∀ X u aa bb cc dd, Below y5.heap.size y5 X → TensR X u s (qs.map Q3.rat) (5 * 1048576 + 1) aa bb cc dd → Calls Tryz.prog 19 #[u, .agg #[.slice g0 n0 g2, .slice g1 n1 g3]] X fun e w' => e = .returned (.bool true) ∧ Below X.heap.size X w' := fun X u aa bb cc dd h T => by
        have := isT_any T (hTM X (hl3 X h)) (by omega) (by simp; omega) (by omega) (by omega) (fun q hq => ⟨Nat.le_trans (hlens q hq).1 (by omega), Nat.le_trans (hlens q hq).2 (by omega)⟩)
        rw [made_is hmap hoks] at this
        exact this
      have hmayX : ∀ X, Below y5.heap.size y5 X → Calls Tryz.prog 11 #[.agg #[.slice g0 n0 g2, .slice g1 n1 g3]] X fun e w' => e = .returned (.int .i64 0) ∧ Below X.heap.size X w' := fun X h => by
        have := mayT7_any (n := 1048578) (hTM X (hl3 X h)) ls (by omega) hlens (by omega)
        rw [made_may HD.out hlq hoks] at this
        exact this
      have H0 := F1.drew
      have H0' : Below y5.heap.size y5 w1.drew := H0
      refine wp_region_held (S := fun X => X.cell? ⟨W.heap.size, 0, none⟩ = some (.slice a s.length ca) ∧ X.cell? ⟨W.heap.size, 1, none⟩ = some (.slice b qs.length cb) ∧ X.cell? ⟨y3.heap.size, 0, none⟩ = some (.slice g0 n0 g2) ∧ X.cell? ⟨y3.heap.size, 1, none⟩ = some (.slice g1 n1 g3)) (by kernel_rfl) ?_
      have hHeld := mkS _ H0
      refine wpAnyH_take (i := 0) (v := ?vh0a0) rfl (by kernel_rfl) (by kernel_rfl) (by kernel_rfl) (fun _ _ _ h => h) (Or.inl ⟨by rfl, ?hh0a0⟩) (by assumption) ?rh0a0
      case hh0a0 =>
        intro w hSw
        try dsimp only at hSw
        go_simp
        try with_reducible rfl
      try simp only [Act.put, List.setIfInBounds_toArray, List.set_cons_zero, List.set_cons_succ]
      refine wpAnyH_take (i := 1) (v := ?vh0a1) rfl (by kernel_rfl) (by kernel_rfl) (by kernel_rfl) (fun _ _ _ h => h) (Or.inl ⟨by rfl, ?hh0a1⟩) (by assumption) ?rh0a1
      case hh0a1 =>
        intro w hSw
        try dsimp only at hSw
        go_simp
        try with_reducible rfl
      try simp only [Act.put, List.setIfInBounds_toArray, List.set_cons_zero, List.set_cons_succ]
      refine wpAnyH_take (i := 2) (v := ?vh0a2) rfl (by kernel_rfl) (by kernel_rfl) (by kernel_rfl) (fun _ _ _ h => h) (Or.inl ⟨by rfl, ?hh0a2⟩) (by assumption) ?rh0a2
      case hh0a2 =>
        intro w hSw
        try dsimp only at hSw
        go_simp
        try with_reducible rfl
      try simp only [Act.put, List.setIfInBounds_toArray, List.set_cons_zero, List.set_cons_succ]
      refine wpAnyH_take (i := 3) (v := ?vh0a3) rfl (by kernel_rfl) (by kernel_rfl) (by kernel_rfl) (fun _ _ _ h => h) (Or.inl ⟨by rfl, ?hh0a3⟩) (by assumption) ?rh0a3
      case hh0a3 =>
        intro w hSw
        try dsimp only at hSw
        go_simp
        try with_reducible rfl
      try simp only [Act.put, List.setIfInBounds_toArray, List.set_cons_zero, List.set_cons_succ]
      refine wpAnyH_take (i := 5) (v := ?vh0a5) rfl (by kernel_rfl) (by kernel_rfl) (by kernel_rfl) (fun _ _ _ h => h) (Or.inl ⟨by rfl, ?hh0a5⟩) (by assumption) ?rh0a5
      case hh0a5 =>
        intro w hSw
        try dsimp only at hSw
        go_simp
        try with_reducible rfl
      try simp only [Act.put, List.setIfInBounds_toArray, List.set_cons_zero, List.set_cons_succ]
      refine wpAnyH_ready (rs := [4]) (by kernel_rfl) (by simp) ?_
      refine AllReadyH.cons rfl (fun K hK => ?sh1c4) AllReadyH.nil
      go_simp
      refine (of1 _ (toV _ H0)).mono ?_
      rintro e v1 ⟨p2, r2, cx2, cy2, rfl, S2, E2, hy⟩
      have H1 : Below y5.heap.size y5 v1 := H0.trans (hy.mono H0.size)
      have J1 := hy
      clear hy
      have TR := ofT_tens (by simp) S2 E2
      go_simp
      refine hK.out _ _ ?kh1c4 (fun hHeld => ?mh1c4)
      case kh1c4 =>
        try dsimp only
        exact mkS _ H1
      clear hK K
      try simp only [Act.put, List.setIfInBounds_toArray, List.set_cons_zero, List.set_cons_succ]
      refine wpAnyH_ready (rs := [6]) (by kernel_rfl) (by simp) ?_
      refine AllReadyH.cons rfl (fun K hK => ?sh2c6) AllReadyH.nil
      go_simp
      refine (his _ _ _ _ _ _ H1 TR).mono ?_
      rintro e v2 ⟨rfl, hy⟩
      have H2 : Below y5.heap.size y5 v2 := H1.trans (hy.mono H1.size)
      have J2 := hy
      clear hy
      go_simp
      refine hK.out _ _ ?kh2c6 (fun hHeld => ?mh2c6)
      case kh2c6 =>
        try dsimp only
        exact mkS _ H2
      clear hK K
      try simp only [Act.put, List.setIfInBounds_toArray, List.set_cons_zero, List.set_cons_succ]
      refine wpAnyH_take (i := 7) (v := ?vh2a7) rfl (by kernel_rfl) (by kernel_rfl) (by kernel_rfl) (fun _ _ _ h => h) (Or.inl ⟨by rfl, ?hh2a7⟩) (by assumption) ?rh2a7
      case hh2a7 =>
        intro w hSw
        try dsimp only at hSw
        go_simp
        try with_reducible rfl
      try simp only [Act.put, List.setIfInBounds_toArray, List.set_cons_zero, List.set_cons_succ]
      refine wpAnyH_take (i := 8) (v := ?vh2a8) rfl (by kernel_rfl) (by kernel_rfl) (by kernel_rfl) (fun _ _ _ h => h) (Or.inl ⟨by rfl, ?hh2a8⟩) (by assumption) ?rh2a8
      case hh2a8 =>
        intro w hSw
        try dsimp only at hSw
        go_simp
        try with_reducible rfl
      try simp only [Act.put, List.setIfInBounds_toArray, List.set_cons_zero, List.set_cons_succ]
      refine wpAnyH_take (i := 9) (v := ?vh2a9) rfl (by kernel_rfl) (by kernel_rfl) (by kernel_rfl) (fun _ _ _ h => h) (Or.inl ⟨by rfl, ?hh2a9⟩) (by assumption) ?rh2a9
      case hh2a9 =>
        intro w hSw
        try dsimp only at hSw
        go_simp
        try with_reducible rfl
      try simp only [Act.put, List.setIfInBounds_toArray, List.set_cons_zero, List.set_cons_succ]
      refine wpAnyH_ready (rs := [10]) (by kernel_rfl) (by simp) ?_
      refine AllReadyH.cons rfl (fun K hK => ?sh3c10) AllReadyH.nil
      go_simp
      refine (hmayX _ H2).mono ?_
      rintro e v3 ⟨rfl, hy⟩
      have H3 : Below y5.heap.size y5 v3 := H2.trans (hy.mono H2.size)
      have J3 := hy
      clear hy
      go_simp
      refine hK.out _ _ ?kh3c10 (fun hHeld => ?mh3c10)
      case kh3c10 =>
        try dsimp only
        exact mkS _ H3
      clear hK K
      try simp only [Act.put, List.setIfInBounds_toArray, List.set_cons_zero, List.set_cons_succ]
      refine wpAnyH_take (i := 11) (v := ?vh3a11) rfl (by kernel_rfl) (by kernel_rfl) (by kernel_rfl) (fun _ _ _ h => h) (Or.inl ⟨by rfl, ?hh3a11⟩) (by assumption) ?rh3a11
      case hh3a11 =>
        intro w hSw
        try dsimp only at hSw
        go_simp
        try with_reducible rfl
      try simp only [Act.put, List.setIfInBounds_toArray, List.set_cons_zero, List.set_cons_succ]
      refine wpAnyH_take (i := 12) (v := ?vh3a12) rfl (by kernel_rfl) (by kernel_rfl) (by kernel_rfl) (fun _ _ _ h => h) (Or.inl ⟨by rfl, ?hh3a12⟩) (by assumption) ?rh3a12
      case hh3a12 =>
        intro w hSw
        try dsimp only at hSw
        go_simp
        try with_reducible rfl
      try simp only [Act.put, List.setIfInBounds_toArray, List.set_cons_zero, List.set_cons_succ]
      refine wpAnyH_take (i := 13) (v := ?vh3a13) rfl (by kernel_rfl) (by kernel_rfl) (by kernel_rfl) (fun _ _ _ h => h) (Or.inl ⟨by rfl, ?hh3a13⟩) (by assumption) ?rh3a13
      case hh3a13 =>
        intro w hSw
        try dsimp only at hSw
        go_simp
        try with_reducible rfl
      try simp only [Act.put, List.setIfInBounds_toArray, List.set_cons_zero, List.set_cons_succ]
      refine wpAnyH_ready (rs := [14]) (by kernel_rfl) (by simp) ?_
      refine AllReadyH.cons rfl (fun K hK => ?sh4c14) AllReadyH.nil
      go_simp
      refine (known7_any _).mono ?_
      rintro e v4 ⟨rfl, hy⟩
      have H4 : Below y5.heap.size y5 v4 := H3.trans (hy.mono H3.size)
      have J4 := hy
      clear hy
      go_simp
      refine hK.out _ _ ?kh4c14 (fun hHeld => ?mh4c14)
      case kh4c14 =>
        try dsimp only
        exact mkS _ H4
      clear hK K
      try simp only [Act.put, List.setIfInBounds_toArray, List.set_cons_zero, List.set_cons_succ]
      refine wpAnyH_take (i := 15) (v := ?vh4a15) rfl (by kernel_rfl) (by kernel_rfl) (by kernel_rfl) (fun _ _ _ h => h) (Or.inl ⟨by rfl, ?hh4a15⟩) (by assumption) ?rh4a15
      case hh4a15 =>
        intro w hSw
        try dsimp only at hSw
        go_simp
        try with_reducible rfl
      try simp only [Act.put, List.setIfInBounds_toArray, List.set_cons_zero, List.set_cons_succ]
      refine wpAnyH_ready (rs := [16]) (by kernel_rfl) (by simp) ?_
      refine AllReadyH.cons rfl (fun K hK => ?sh4d16) AllReadyH.nil
      go_simp
      refine hK.out _ _ ?kh4d16 (fun hHeld => ?mh4d16)
      case kh4d16 =>
        try dsimp only
        exact mkS _ H4
      clear hK K
      try simp only [Act.put, List.setIfInBounds_toArray, List.set_cons_zero, List.set_cons_succ]
      refine wpAnyH_done (by kernel_rfl) ?_ _
      go_wp2
      go_ret
      exact ⟨rfl, hBV.trans ((toV _ H4).mono hBV.size)⟩
    · have hd0 : d = 13 := by rw [HDM.out]; simp [h1]
      subst hd0
      have hn : ((qs.length : Int) != k) = true := by simp [h1]
      obtain ⟨e0, e1⟩ := HN0.out (by omega)
      subst e0
      subst e1
      go_wp2_with fail
      refine wp_region_held (S := fun X => X.cell? ⟨W.heap.size, 0, none⟩ = some (.slice a s.length ca) ∧ X.cell? ⟨W.heap.size, 1, none⟩ = some (.slice b qs.length cb) ∧ X.cell? ⟨y3.heap.size, 0, none⟩ = some (.slice g0 0 g2) ∧ X.cell? ⟨y3.heap.size, 1, none⟩ = some (.slice g1 0 g3)) (by kernel_rfl) ?_
      have hHeld := mkS _ F0
      refine wpAnyH_take (i := 0) (v := ?vga0a0) rfl (by kernel_rfl) (by kernel_rfl) (by kernel_rfl) (fun _ _ _ h => h) (Or.inl ⟨by rfl, ?hga0a0⟩) (by assumption) ?rga0a0
      case hga0a0 =>
        intro w hSw
        try dsimp only at hSw
        go_simp
        try with_reducible rfl
      try simp only [Act.put, List.setIfInBounds_toArray, List.set_cons_zero, List.set_cons_succ]
      refine wpAnyH_take (i := 1) (v := ?vga0a1) rfl (by kernel_rfl) (by kernel_rfl) (by kernel_rfl) (fun _ _ _ h => h) (Or.inl ⟨by rfl, ?hga0a1⟩) (by assumption) ?rga0a1
      case hga0a1 =>
        intro w hSw
        try dsimp only at hSw
        go_simp
        try with_reducible rfl
      try simp only [Act.put, List.setIfInBounds_toArray, List.set_cons_zero, List.set_cons_succ]
      refine wpAnyH_take (i := 2) (v := ?vga0a2) rfl (by kernel_rfl) (by kernel_rfl) (by kernel_rfl) (fun _ _ _ h => h) (Or.inl ⟨by rfl, ?hga0a2⟩) (by assumption) ?rga0a2
      case hga0a2 =>
        intro w hSw
        try dsimp only at hSw
        go_simp
        try with_reducible rfl
      try simp only [Act.put, List.setIfInBounds_toArray, List.set_cons_zero, List.set_cons_succ]
      refine wpAnyH_take (i := 3) (v := ?vga0a3) rfl (by kernel_rfl) (by kernel_rfl) (by kernel_rfl) (fun _ _ _ h => h) (Or.inl ⟨by rfl, ?hga0a3⟩) (by assumption) ?rga0a3
      case hga0a3 =>
        intro w hSw
        try dsimp only at hSw
        go_simp
        try with_reducible rfl
      try simp only [Act.put, List.setIfInBounds_toArray, List.set_cons_zero, List.set_cons_succ]
      refine wpAnyH_take (i := 4) (v := ?vga0a4) rfl (by kernel_rfl) (by kernel_rfl) (by kernel_rfl) (fun _ _ _ h => h) (Or.inl ⟨by rfl, ?hga0a4⟩) (by assumption) ?rga0a4
      case hga0a4 =>
        intro w hSw
        try dsimp only at hSw
        go_simp
        try with_reducible rfl
      try simp only [Act.put, List.setIfInBounds_toArray, List.set_cons_zero, List.set_cons_succ]
      refine wpAnyH_take (i := 5) (v := ?vga0a5) rfl (by kernel_rfl) (by kernel_rfl) (by kernel_rfl) (fun _ _ _ h => h) (Or.inl ⟨by rfl, ?hga0a5⟩) (by assumption) ?rga0a5
      case hga0a5 =>
        intro w hSw
        try dsimp only at hSw
        go_simp
        try with_reducible rfl
      try simp only [Act.put, List.setIfInBounds_toArray, List.set_cons_zero, List.set_cons_succ]
      refine wpAnyH_take (i := 6) (v := ?vga0a6) rfl (by kernel_rfl) (by kernel_rfl) (by kernel_rfl) (fun _ _ _ h => h) (Or.inl ⟨by rfl, ?hga0a6⟩) (by assumption) ?rga0a6
      case hga0a6 =>
        intro w hSw
        try dsimp only at hSw
        go_simp
        try with_reducible rfl
      try simp only [Act.put, List.setIfInBounds_toArray, List.set_cons_zero, List.set_cons_succ]
      refine wpAnyH_take (i := 7) (v := ?vga0a7) rfl (by kernel_rfl) (by kernel_rfl) (by kernel_rfl) (fun _ _ _ h => h) (Or.inl ⟨by rfl, ?hga0a7⟩) (by assumption) ?rga0a7
      case hga0a7 =>
        intro w hSw
        try dsimp only at hSw
        go_simp
        try with_reducible rfl
      try simp only [Act.put, List.setIfInBounds_toArray, List.set_cons_zero, List.set_cons_succ]
      refine wpAnyH_ready (rs := [8]) (by kernel_rfl) (by simp) ?_
      refine AllReadyH.cons rfl (fun K hK => ?sga1c8) AllReadyH.nil
      go_simp
      refine (rcnt _ (toV _ F0)).mono ?_
      rintro e w1 ⟨rfl, hy⟩
      have F1 : Below y5.heap.size y5 w1 := F0.trans (hy.mono F0.size)
      have G1 := hy
      clear hy
      go_simp
      refine hK.out _ _ ?kga1c8 (fun hHeld => ?mga1c8)
      case kga1c8 =>
        try dsimp only
        exact mkS _ F1
      clear hK K
      try simp only [Act.put, List.setIfInBounds_toArray, List.set_cons_zero, List.set_cons_succ]
      refine wpAnyH_take (i := 9) (v := ?vga1a9) rfl (by kernel_rfl) (by kernel_rfl) (by kernel_rfl) (fun _ _ _ h => h) (Or.inl ⟨by rfl, ?hga1a9⟩) (by assumption) ?rga1a9
      case hga1a9 =>
        intro w hSw
        try dsimp only at hSw
        go_simp
        try with_reducible rfl
      try simp only [Act.put, List.setIfInBounds_toArray, List.set_cons_zero, List.set_cons_succ]
      refine wpAnyH_ready (rs := [10]) (by kernel_rfl) (by simp) ?_
      refine AllReadyH.cons rfl (fun K hK => ?sga1d10) AllReadyH.nil
      go_simp
      refine hK.out _ _ ?kga1d10 (fun hHeld => ?mga1d10)
      case kga1d10 =>
        try dsimp only
        exact mkS _ F1
      clear hK K
      try simp only [Act.put, List.setIfInBounds_toArray, List.set_cons_zero, List.set_cons_succ]
      refine wpAnyH_done (by kernel_rfl) ?_ _
      obtain ⟨j0, j1, _, _⟩ := (O4.later (D45.trans (F1.mono D45.size))).two
      go_wp2_with (first
        | (go_at_call 18; refine (emptyT_any _ _ _ _ _ _ _ rfl).mono ?_; rintro e v1 ⟨rfl, hv1⟩)
        | (go_at_call 14; refine (known7_any _).mono ?_; rintro e v2 ⟨rfl, hv2⟩))
      go_ret
      exact ⟨rfl, hBV.trans ((toV _ ((F1.trans (hv1.mono F1.size)).trans (hv2.mono (by have := hv1.size; have := F1.size; omega)))).mono hBV.size)⟩
  · have hd0 : d = m := by rw [HDM.out]; simp [h0]
    subst hd0
    have hn : (d == 0) = false := by simp [h0]
    have hn2 : (d != 0) = true := by simp [h0]
    obtain ⟨e0, e1⟩ := HN0.out h0
    subst e0
    subst e1
    go_wp2_with fail
    refine wp_region_held (S := fun X => X.cell? ⟨W.heap.size, 0, none⟩ = some (.slice a s.length ca) ∧ X.cell? ⟨W.heap.size, 1, none⟩ = some (.slice b qs.length cb) ∧ X.cell? ⟨y3.heap.size, 0, none⟩ = some (.slice g0 0 g2) ∧ X.cell? ⟨y3.heap.size, 1, none⟩ = some (.slice g1 0 g3)) (by kernel_rfl) ?_
    have hHeld := mkS _ F0
    refine wpAnyH_take (i := 0) (v := ?vgb0a0) rfl (by kernel_rfl) (by kernel_rfl) (by kernel_rfl) (fun _ _ _ h => h) (Or.inl ⟨by rfl, ?hgb0a0⟩) (by assumption) ?rgb0a0
    case hgb0a0 =>
      intro w hSw
      try dsimp only at hSw
      go_simp
      try with_reducible rfl
    try simp only [Act.put, List.setIfInBounds_toArray, List.set_cons_zero, List.set_cons_succ]
    refine wpAnyH_take (i := 1) (v := ?vgb0a1) rfl (by kernel_rfl) (by kernel_rfl) (by kernel_rfl) (fun _ _ _ h => h) (Or.inl ⟨by rfl, ?hgb0a1⟩) (by assumption) ?rgb0a1
    case hgb0a1 =>
      intro w hSw
      try dsimp only at hSw
      go_simp
      try with_reducible rfl
    try simp only [Act.put, List.setIfInBounds_toArray, List.set_cons_zero, List.set_cons_succ]
    refine wpAnyH_take (i := 2) (v := ?vgb0a2) rfl (by kernel_rfl) (by kernel_rfl) (by kernel_rfl) (fun _ _ _ h => h) (Or.inl ⟨by rfl, ?hgb0a2⟩) (by assumption) ?rgb0a2
    case hgb0a2 =>
      intro w hSw
      try dsimp only at hSw
      go_simp
      try with_reducible rfl
    try simp only [Act.put, List.setIfInBounds_toArray, List.set_cons_zero, List.set_cons_succ]
    refine wpAnyH_take (i := 3) (v := undef) rfl (by kernel_rfl) (by kernel_rfl) (by kernel_rfl) (fun _ _ _ h => h) (Or.inr ⟨by rfl, rfl⟩) (by assumption) ?rgb0s3
    try simp only [Act.put, List.getElem_toArray, List.getElem_cons_succ, List.getElem_cons_zero, List.setIfInBounds_toArray, List.set_cons_zero, List.set_cons_succ]
    refine wpAnyH_take (i := 4) (v := undef) rfl (by kernel_rfl) (by kernel_rfl) (by kernel_rfl) (fun _ _ _ h => h) (Or.inr ⟨by rfl, rfl⟩) (by assumption) ?rgb0s4
    try simp only [Act.put, List.getElem_toArray, List.getElem_cons_succ, List.getElem_cons_zero, List.setIfInBounds_toArray, List.set_cons_zero, List.set_cons_succ]
    refine wpAnyH_take (i := 5) (v := undef) rfl (by kernel_rfl) (by kernel_rfl) (by kernel_rfl) (fun _ _ _ h => h) (Or.inr ⟨by rfl, rfl⟩) (by assumption) ?rgb0s5
    try simp only [Act.put, List.getElem_toArray, List.getElem_cons_succ, List.getElem_cons_zero, List.setIfInBounds_toArray, List.set_cons_zero, List.set_cons_succ]
    refine wpAnyH_take (i := 6) (v := undef) rfl (by kernel_rfl) (by kernel_rfl) (by kernel_rfl) (fun _ _ _ h => h) (Or.inr ⟨by rfl, rfl⟩) (by assumption) ?rgb0s6
    try simp only [Act.put, List.getElem_toArray, List.getElem_cons_succ, List.getElem_cons_zero, List.setIfInBounds_toArray, List.set_cons_zero, List.set_cons_succ]
    refine wpAnyH_take (i := 7) (v := undef) rfl (by kernel_rfl) (by kernel_rfl) (by kernel_rfl) (fun _ _ _ h => h) (Or.inr ⟨by rfl, rfl⟩) (by assumption) ?rgb0s7
    try simp only [Act.put, List.getElem_toArray, List.getElem_cons_succ, List.getElem_cons_zero, List.setIfInBounds_toArray, List.set_cons_zero, List.set_cons_succ]
    refine wpAnyH_take (i := 8) (v := undef) rfl (by kernel_rfl) (by kernel_rfl) (by kernel_rfl) (fun _ _ _ h => h) (Or.inr ⟨by rfl, rfl⟩) (by assumption) ?rgb0s8
    try simp only [Act.put, List.getElem_toArray, List.getElem_cons_succ, List.getElem_cons_zero, List.setIfInBounds_toArray, List.set_cons_zero, List.set_cons_succ]
    refine wpAnyH_take (i := 9) (v := undef) rfl (by kernel_rfl) (by kernel_rfl) (by kernel_rfl) (fun _ _ _ h => h) (Or.inr ⟨by rfl, rfl⟩) (by assumption) ?rgb0s9
    try simp only [Act.put, List.getElem_toArray, List.getElem_cons_succ, List.getElem_cons_zero, List.setIfInBounds_toArray, List.set_cons_zero, List.set_cons_succ]
    refine wpAnyH_ready (rs := [10]) (by kernel_rfl) (by simp) ?_
    refine AllReadyH.cons rfl (fun K hK => ?sgb0d10) AllReadyH.nil
    go_simp
    refine hK.out _ _ ?kgb0d10 (fun hHeld => ?mgb0d10)
    case kgb0d10 =>
      try dsimp only
      exact mkS _ F0
    clear hK K
    try simp only [Act.put, List.setIfInBounds_toArray, List.set_cons_zero, List.set_cons_succ]
    refine wpAnyH_done (by kernel_rfl) ?_ _
    obtain ⟨j0, j1, _, _⟩ := (O4.later (D45.trans (F0.mono D45.size))).two
    go_wp2_with (first
      | (go_at_call 18; refine (emptyT_any _ _ _ _ _ _ _ rfl).mono ?_; rintro e v1 ⟨rfl, hv1⟩)
      | (go_at_call 14; refine (known7_any _).mono ?_; rintro e v2 ⟨rfl, hv2⟩))
    go_ret
    exact ⟨rfl, hBV.trans ((toV _ ((F0.trans (hv1.mono F0.size)).trans (hv2.mono (by have := hv1.size; have := F0.size; omega)))).mono hBV.size)⟩
end Go.Proofs.YtnhfjacifajdlaaGreat
