/-
  Layer 8's law PointScales: for any tensor and any number the law holds.
-/
import Derived.Test.YtjcacmnmbbnffaaGreatPKnown
import Derived.Test.YtjcacmnmbbnffaaGreatPRefD
namespace Go.Proofs.YtjcacmnmbbnffaaGreat
open Go.RowKit
set_option linter.unusedVariables false
set_option linter.unusedSimpArgs false

set_option maxRecDepth 100000 in
set_option maxHeartbeats 8000000 in
theorem pointScales_walk {v : Value} {s : List Int} {qs : List Q3} {a b : Option Addr} {ca cb : Nat} {y : Value} {q : Q3} (w : World) (T : TensQ w v s qs a ca b cb) (ls : s.length ≤ 17592186044416) (Q : RawQ w y q) :
    Calls Tryz.prog 7 #[v, y] w fun e W' => e = .returned (.bool true) ∧ Below w.heap.size w W' := by
  have HT := Lib.hid T
  have HQ := Lib.hid Q
  obtain rfl := T.is
  obtain ⟨e1, e2, k1, k2, rfl, _⟩ := Q
  obtain ⟨W, hW⟩ : ∃ W, ((w.alloc (.cells #[.slice a s.length ca, .slice b qs.length cb] 26)).alloc (.cells #[.bool q.neg, .slice e1 q.num.length k1, .slice e2 q.den.length k2] 51)) = W := ⟨_, rfl⟩
  have R0 : Row W (w.heap.size) 26 #[.slice a s.length ca, .slice b qs.length cb] := by rw [← hW]; have h := Row.new w 26 #[.slice a s.length ca, .slice b qs.length cb]; (try simp only [World.size_alloc] at h); exact (h.alloc _)
  have R1 : Row W (w.heap.size + 1) 51 #[.bool q.neg, .slice e1 q.num.length k1, .slice e2 q.den.length k2] := by rw [← hW]; have h := Row.new (w.alloc (.cells #[.slice a s.length ca, .slice b qs.length cb] 26)) 51 #[.bool q.neg, .slice e1 q.num.length k1, .slice e2 q.den.length k2]; (try simp only [World.size_alloc] at h); exact h
  have hBW : Below w.heap.size w W := by rw [← hW]; exact (((Below.refl _ _).alloc (by (try simp) <;> omega) _).alloc (by (try simp) <;> omega) _)
  have hsW : W.heap.size = w.heap.size + 1 + 1 := by rw [← hW]; simp
  have hfew := few_any (HT.out.later hBW)
  obtain ⟨t, ht⟩ : ∃ t, fewB qs = t := ⟨_, rfl⟩
  rw [ht] at hfew
  have HF := Lib.hid ht
  obtain ⟨x0, x1, _, _⟩ := R0.two
  clear T ht
  obtain ⟨n1, hn1⟩ : ∃ n, q.num.length = n := ⟨_, rfl⟩
  obtain ⟨n2, hn2⟩ : ∃ n, q.den.length = n := ⟨_, rfl⟩
  have HN1 := Lib.hid hn1
  have HN2 := Lib.hid hn2
  have hQ0 := HQ.out
  rw [hn1, hn2] at R1 hW hQ0 ⊢
  clear HQ
  have HQ := Lib.hid hQ0
  clear hn1 hn2 hQ0
  obtain ⟨r0, r1, r2, _, _, _⟩ := R1.three
  cases t with
  | false =>
    go_enter Tryz.func7, Tryz.ntmps7
    (try rw [hW])
    go_wp2_with fail
    refine (hfew).mono ?_
    rintro e y1 ⟨rfl, hb1⟩
    have hk1 := hBW.trans (hb1.mono (by omega))
    go_wp2_with fail
    refine (known8_any _).mono ?_
    rintro e y2 ⟨rfl, hb2⟩
    go_wp2_with fail
    go_ret
    exact ⟨rfl, hk1.trans (hb2.mono hk1.size)⟩
  | true =>
    by_cases h1 : n1 ≤ 6
    · have h1I : ¬ (n1 : Int) > 6 := by omega
      by_cases h2 : n2 ≤ 6
      · have h2I : ¬ (n2 : Int) > 6 := by omega
        obtain ⟨hq64, hl6⟩ := fewB_true HF.out
        have HL := Lib.hid hl6
        clear hl6
        go_enter Tryz.func7, Tryz.ntmps7
        (try rw [hW])
        go_wp2_with fail
        refine (hfew).mono ?_
        rintro e y1 ⟨rfl, hb1⟩
        have hk1 := hBW.trans (hb1.mono (by omega))
        obtain ⟨x0', x1', _, _⟩ := (R0.later hb1).two
        obtain ⟨r0', r1', r2', _, _, _⟩ := (R1.later hb1).three
        go_wp2_with fail
        have b01 : Below w.heap.size w y1 := hk1
        refine (scaleP_any (n := 6) (m := 6) (HT.out.later hk1) ls (by omega) HL.out (by omega) ((HQ.out.later hk1).arg (by rw [HN1.out]; exact h1) (by rw [HN2.out]; exact h2)) (by omega)).mono ?_
        rintro e y2 ⟨h, hb2⟩
        obtain ⟨g1, g2, n3, n4, g3, g4, rfl, hA⟩ := h.ans
        have HA := Lib.hid hA
        have hk2 := hk1.trans (hb2.mono hk1.size)
        obtain ⟨V, hV⟩ : ∃ V, y2.alloc (.cells #[.slice g1 n3 g3, .slice g2 n4 g4] 26) = V := ⟨_, rfl⟩
        have b2V : Below y2.heap.size y2 V := by rw [← hV]; exact (Below.refl _ _).alloc (Nat.le_refl _) _
        have R2 : Row V y2.heap.size 26 #[.slice g1 n3 g3, .slice g2 n4 g4] := by rw [← hV]; exact Row.new _ _ _
        have hB1V : Below W.heap.size W V := (hb1.trans (hb2.mono hb1.size)).trans (b2V.mono (hb1.trans (hb2.mono hb1.size)).size)
        have hkV : Below w.heap.size w V := hBW.trans (hB1V.mono (by omega))
        clear x0 x1 r0 r1 r2 x0' x1' r0' r1' r2' hA
        go_wp2_with fail
        (try rw [hV])
        (try clear hV)
        have mkS : ∀ X, Below V.heap.size V X → X.cell? ⟨w.heap.size, 0, none⟩ = some (.slice a s.length ca) ∧ X.cell? ⟨w.heap.size, 1, none⟩ = some (.slice b qs.length cb) ∧ X.cell? ⟨w.heap.size + 1, 0, none⟩ = some (.bool q.neg) ∧ X.cell? ⟨w.heap.size + 1, 1, none⟩ = some (.slice e1 n1 k1) ∧ X.cell? ⟨w.heap.size + 1, 2, none⟩ = some (.slice e2 n2 k2) ∧ X.cell? ⟨y2.heap.size, 0, none⟩ = some (.slice g1 n3 g3) ∧ X.cell? ⟨y2.heap.size, 1, none⟩ = some (.slice g2 n4 g4) := fun X h => by
          obtain ⟨u0, u1, _⟩ := ((R0.later hB1V).later h).two
          obtain ⟨u2, u3, u4, _⟩ := ((R1.later hB1V).later h).three
          obtain ⟨u5, u6, _⟩ := (R2.later h).two
          exact ⟨u0, u1, u2, u3, u4, u5, u6⟩
        have tX := fun (X : World) (h : Below V.heap.size V X) => HT.out.later (hkV.trans (h.mono hkV.size))
        have qX := fun (X : World) (h : Below V.heap.size V X) => (HQ.out.later (hkV.trans (h.mono hkV.size))).arg (n := 6) (by rw [HN1.out]; exact h1) (by rw [HN2.out]; exact h2)
        have HX := Lib.hid tX
        have HQX := Lib.hid qX
        obtain ⟨c, hc⟩ : ∃ c, mayT s qs = c := ⟨_, rfl⟩
        rw [hc] at HA ⊢
        obtain ⟨L, hL⟩ : ∃ L, (qs.map fun p => p.rat * q.rat) = L := ⟨_, rfl⟩
        have hmr : (qs.map Q3.rat).map (fun x => x * q.rat) = L := by rw [← hL, List.map_map]; rfl
        have hLl : L.length = qs.length := by rw [← hL]; simp
        rw [hL] at HA
        have HC := Lib.hid hc
        have HMR := Lib.hid hmr
        have HLL := Lib.hid hLl
        have hAV := HA.out.later b2V
        have HAV := Lib.hid hAV
        clear tX qX hc hL hmr hLl hAV HA
        have B0 : Below V.heap.size V V.drew := (Below.refl _ _).drew
        refine wp_region_held_drew (S := fun X => X.cell? ⟨w.heap.size, 0, none⟩ = some (.slice a s.length ca) ∧ X.cell? ⟨w.heap.size, 1, none⟩ = some (.slice b qs.length cb) ∧ X.cell? ⟨w.heap.size + 1, 0, none⟩ = some (.bool q.neg) ∧ X.cell? ⟨w.heap.size + 1, 1, none⟩ = some (.slice e1 n1 k1) ∧ X.cell? ⟨w.heap.size + 1, 2, none⟩ = some (.slice e2 n2 k2) ∧ X.cell? ⟨y2.heap.size, 0, none⟩ = some (.slice g1 n3 g3) ∧ X.cell? ⟨y2.heap.size, 1, none⟩ = some (.slice g2 n4 g4)) (by kernel_rfl) (mkS _ B0) (fun hHeld => ?_)
        obtain ⟨y0, hy0⟩ : ∃ Y, V.drew = Y := ⟨_, rfl⟩
        rw [hy0] at B0 hHeld ⊢
        clear hy0
        refine todo [0, 1, 2, 4, 7] ?_
        iterate 5
         refine todoH (v := ?_) rfl (by kernel_rfl) (fun _ _ _ h => h) (by assumption) (Or.inl ⟨by rfl, ?_⟩) ?_
         rotate_left
         · intro w hSw; (try dsimp only at hSw); go_simp; (try with_reducible rfl)
         try simp only [Act.put, List.getElem_toArray, List.getElem_cons_succ, List.getElem_cons_zero, List.setIfInBounds_toArray, List.set_cons_zero, List.set_cons_succ]
        refine todone ?_
        refine wpAnyH_ready (rs := [3]) (by kernel_rfl) (by simp) ?_
        refine AllReadyH.cons rfl (fun K hK => ?sk1c3) AllReadyH.nil
        go_simp
        refine (ofT_any (n := 6) (HX.out _ B0) ls (by omega) HL.out (by omega)).mono ?_
        rintro e y1 ⟨pa, pb, pca, pcb, rfl, S1, E1, hy⟩
        have B1 : Below V.heap.size V y1 := B0.trans (hy.mono B0.size)
        have D1 := hy
        clear hy
        have U1 := ofT_tens (m := qs.length) (by simp) S1 E1
        have HU1 := Lib.hid U1
        clear S1 E1 U1
        go_simp
        refine hK.out _ _ ?kk1c3 (fun hHeld => ?mk1c3)
        case kk1c3 =>
          try dsimp only
          exact mkS _ B1
        clear hK K
        try simp only [Act.put, List.getElem_toArray, List.getElem_cons_succ, List.getElem_cons_zero, List.setIfInBounds_toArray, List.set_cons_zero, List.set_cons_succ]
        refine wpAnyH_ready (rs := [5]) (by kernel_rfl) (by simp) ?_
        refine AllReadyH.cons rfl (fun K hK => ?sk2c5) AllReadyH.nil
        go_simp
        refine (ofRR_any (n := 6) (HQX.out _ B1) (by omega)).mono ?_
        rintro e y2 ⟨rr, rfl, Q2, hy⟩
        have B2 : Below V.heap.size V y2 := B1.trans (hy.mono B1.size)
        have D2 := hy
        clear hy
        have HQ2 := Lib.hid Q2.arg
        have HU2 := Lib.hid (HU1.out.later D2)
        clear Q2
        go_simp
        refine hK.out _ _ ?kk2c5 (fun hHeld => ?mk2c5)
        case kk2c5 =>
          try dsimp only
          exact mkS _ B2
        clear hK K
        try simp only [Act.put, List.getElem_toArray, List.getElem_cons_succ, List.getElem_cons_zero, List.setIfInBounds_toArray, List.set_cons_zero, List.set_cons_succ]
        refine wpAnyH_ready (rs := [6]) (by kernel_rfl) (by simp) ?_
        refine AllReadyH.cons rfl (fun K hK => ?sk3c6) AllReadyH.nil
        go_simp
        refine (scaleT_any (n := 31) HU2.out ls (by simp; omega) (by omega) HQ2.out).mono ?_
        rintro e y3 ⟨rt, rfl, TR, hy⟩
        have B3 : Below V.heap.size V y3 := B2.trans (hy.mono B2.size)
        have D3 := hy
        clear hy
        rw [HMR.out] at TR
        have HTR := Lib.hid TR
        clear TR
        go_simp
        refine hK.out _ _ ?kk3c6 (fun hHeld => ?mk3c6)
        case kk3c6 =>
          try dsimp only
          exact mkS _ B3
        clear hK K
        try simp only [Act.put, List.getElem_toArray, List.getElem_cons_succ, List.getElem_cons_zero, List.setIfInBounds_toArray, List.set_cons_zero, List.set_cons_succ]
        refine wpAnyH_ready (rs := [8]) (by kernel_rfl) (by simp) ?_
        refine AllReadyH.cons rfl (fun K hK => ?sk4c8) AllReadyH.nil
        go_simp
        refine (mayT_any (HX.out _ B3) (by omega) (fun p hp => by have := HL.out p hp; omega)).mono ?_
        rintro e y4 ⟨rfl, hy⟩
        have B4 : Below V.heap.size V y4 := B3.trans (hy.mono B3.size)
        have D4 := hy
        clear hy
        rw [HC.out]
        have HTR4 := Lib.hid (HTR.out.later D4)
        obtain ⟨ta, tb, tn, tm, tca, tcb, rfl⟩ := HTR4.out.box
        go_simp
        refine hK.out _ _ ?kk4c8 (fun hHeld => ?mk4c8)
        case kk4c8 =>
          try dsimp only
          exact mkS _ B4
        clear hK K
        try simp only [Act.put, List.getElem_toArray, List.getElem_cons_succ, List.getElem_cons_zero, List.setIfInBounds_toArray, List.set_cons_zero, List.set_cons_succ]
        refine wpAnyH_ready (rs := [9]) (by kernel_rfl) (by simp) ?_
        refine AllReadyH.cons rfl (fun K hK => ?sk5c9) AllReadyH.nil
        go_simp
        refine (told_any (HAV.out.later B4) ⟨_, _, _, _, _, _, rfl⟩ (fun _ => HTR4.out) ls (by rw [HLL.out]; omega) (by omega) (by omega)).mono ?_
        rintro e y5 ⟨rfl, hy⟩
        have B5 : Below V.heap.size V y5 := B4.trans (hy.mono B4.size)
        have D5 := hy
        clear hy
        go_simp
        refine hK.out _ _ ?kk5c9 (fun hHeld => ?mk5c9)
        case kk5c9 =>
          try dsimp only
          exact mkS _ B5
        clear hK K
        try simp only [Act.put, List.getElem_toArray, List.getElem_cons_succ, List.getElem_cons_zero, List.setIfInBounds_toArray, List.set_cons_zero, List.set_cons_succ]
        refine wpAnyH_take (i := 10) (v := ?vk5a10) rfl (by kernel_rfl) (by kernel_rfl) (by kernel_rfl) (fun _ _ _ h => h) (Or.inl ⟨by rfl, ?hk5a10⟩) (by assumption) ?rk5a10
        case hk5a10 =>
          intro w hSw
          try dsimp only at hSw
          go_simp
          try with_reducible rfl
        try simp only [Act.put, List.getElem_toArray, List.getElem_cons_succ, List.getElem_cons_zero, List.setIfInBounds_toArray, List.set_cons_zero, List.set_cons_succ]
        refine wpAnyH_ready (rs := [11]) (by kernel_rfl) (by simp) ?_
        refine AllReadyH.cons rfl (fun K hK => ?sk6c11) AllReadyH.nil
        go_simp
        refine (known8_any _).mono ?_
        rintro e y6 ⟨rfl, hy⟩
        have B6 : Below V.heap.size V y6 := B5.trans (hy.mono B5.size)
        have D6 := hy
        clear hy
        go_simp
        refine hK.out _ _ ?kk6c11 (fun hHeld => ?mk6c11)
        case kk6c11 =>
          try dsimp only
          exact mkS _ B6
        clear hK K
        try simp only [Act.put, List.getElem_toArray, List.getElem_cons_succ, List.getElem_cons_zero, List.setIfInBounds_toArray, List.set_cons_zero, List.set_cons_succ]
        refine wpAnyH_take (i := 12) (v := ?vk6a12) rfl (by kernel_rfl) (by kernel_rfl) (by kernel_rfl) (fun _ _ _ h => h) (Or.inl ⟨by rfl, ?hk6a12⟩) (by assumption) ?rk6a12
        case hk6a12 =>
          intro w hSw
          try dsimp only at hSw
          go_simp
          try with_reducible rfl
        try simp only [Act.put, List.getElem_toArray, List.getElem_cons_succ, List.getElem_cons_zero, List.setIfInBounds_toArray, List.set_cons_zero, List.set_cons_succ]
        refine wpAnyH_ready (rs := [13]) (by kernel_rfl) (by simp) ?_
        refine AllReadyH.cons rfl (fun K hK => ?sk6d13) AllReadyH.nil
        go_simp
        refine hK.out _ _ ?kk6d13 (fun hHeld => ?mk6d13)
        case kk6d13 =>
          try dsimp only
          exact mkS _ B6
        clear hK K
        try simp only [Act.put, List.getElem_toArray, List.getElem_cons_succ, List.getElem_cons_zero, List.setIfInBounds_toArray, List.set_cons_zero, List.set_cons_succ]
        refine wpAnyH_done (by kernel_rfl) ?_ _
        (try dsimp only [Straight])
        go_wp2_with fail
        go_ret
        exact ⟨rfl, hkV.trans (B6.mono hkV.size)⟩
      · have h2I : (n2 : Int) > 6 := by omega
        go_enter Tryz.func7, Tryz.ntmps7
        (try rw [hW])
        go_wp2_with fail
        refine (hfew).mono ?_
        rintro e y1 ⟨rfl, hb1⟩
        have hk1 := hBW.trans (hb1.mono (by omega))
        obtain ⟨x0', x1', _, _⟩ := (R0.later hb1).two
        obtain ⟨r0', r1', r2', _, _, _⟩ := (R1.later hb1).three
        go_wp2_with fail
        refine (known8_any _).mono ?_
        rintro e y2 ⟨rfl, hb2⟩
        go_wp2_with fail
        go_ret
        exact ⟨rfl, hk1.trans (hb2.mono hk1.size)⟩
    · have h1I : (n1 : Int) > 6 := by omega
      go_enter Tryz.func7, Tryz.ntmps7
      (try rw [hW])
      go_wp2_with fail
      refine (hfew).mono ?_
      rintro e y1 ⟨rfl, hb1⟩
      have hk1 := hBW.trans (hb1.mono (by omega))
      obtain ⟨x0', x1', _, _⟩ := (R0.later hb1).two
      obtain ⟨r0', r1', r2', _, _, _⟩ := (R1.later hb1).three
      go_wp2_with fail
      refine (known8_any _).mono ?_
      rintro e y2 ⟨rfl, hb2⟩
      go_wp2_with fail
      go_ret
      exact ⟨rfl, hk1.trans (hb2.mono hk1.size)⟩
end Go.Proofs.YtjcacmnmbbnffaaGreat
