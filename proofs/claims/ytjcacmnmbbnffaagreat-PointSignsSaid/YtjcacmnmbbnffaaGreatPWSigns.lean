/-
  Layer 8's law PointSigns: for any tensor the law holds.
-/
import Derived.Test.YtjcacmnmbbnffaaGreatPKnown
import Derived.Test.YtjcacmnmbbnffaaGreatPRefF
namespace Go.Proofs.YtjcacmnmbbnffaaGreat
open Go.RowKit
set_option linter.unusedVariables false
set_option linter.unusedSimpArgs false

set_option maxRecDepth 100000 in
set_option maxHeartbeats 8000000 in
theorem pointSigns_walk {v : Value} {s : List Int} {qs : List Q3} {a b : Option Addr} {ca cb : Nat} (w : World) (T : TensQ w v s qs a ca b cb) (ls : s.length ≤ 17592186044416) :
    Calls Tryz.prog 5 #[v] w fun e W' => e = .returned (.bool true) ∧ Below w.heap.size w W' := by
  have HT := Lib.hid T
  obtain rfl := T.is
  obtain ⟨W, hW⟩ : ∃ W, (w.alloc (.cells #[.slice a s.length ca, .slice b qs.length cb] 26)) = W := ⟨_, rfl⟩
  have R0 : Row W (w.heap.size) 26 #[.slice a s.length ca, .slice b qs.length cb] := by rw [← hW]; have h := Row.new w 26 #[.slice a s.length ca, .slice b qs.length cb]; (try simp only [World.size_alloc] at h); exact h
  have hBW : Below w.heap.size w W := by rw [← hW]; exact ((Below.refl _ _).alloc (by (try simp) <;> omega) _)
  have hsW : W.heap.size = w.heap.size + 1 := by rw [← hW]; simp
  have hfew := few_any (HT.out.later hBW)
  obtain ⟨t, ht⟩ : ∃ t, fewB qs = t := ⟨_, rfl⟩
  rw [ht] at hfew
  have HF := Lib.hid ht
  obtain ⟨x0, x1, _, _⟩ := R0.two
  clear T ht
  cases t with
  | false =>
    go_enter Tryz.func5, Tryz.ntmps5
    (try rw [hW])
    go_wp2_with fail
    refine (hfew).mono ?_
    rintro e y1 ⟨rfl, hb1⟩
    have hk1 := hBW.trans (hb1.mono (by omega))
    go_wp2_with fail
    refine (known8_any _).mono ?_
    rintro e y9 ⟨rfl, hb9⟩
    go_wp2_with fail
    go_ret
    exact ⟨rfl, hk1.trans (hb9.mono hk1.size)⟩
  | true =>
    obtain ⟨hq64, hl6⟩ := fewB_true HF.out
    have HL := Lib.hid hl6
    have tX := fun (X : World) (h : Below W.heap.size W X) => HT.out.later (hBW.trans (h.mono (by omega)))
    have HX := Lib.hid tX
    obtain ⟨m, hm⟩ : ∃ m, mayT s qs = m := ⟨_, rfl⟩
    have HM := Lib.hid hm
    obtain ⟨L, hL⟩ : ∃ L, qs.map Q3.rat = L := ⟨_, rfl⟩
    have hl64 : L.length ≤ 64 := by rw [← hL, List.length_map]; exact hq64
    have HQL := Lib.hid hL
    clear tX hl6 hm hL
    go_enter Tryz.func5, Tryz.ntmps5
    (try rw [hW])
    go_wp2_with fail
    refine (hfew).mono ?_
    rintro e y1 ⟨rfl, hb1⟩
    have hk1 := hBW.trans (hb1.mono (by omega))
    clear x0 x1
    have C1 := hb1
    obtain ⟨x0, x1, _, _⟩ := (R0.later C1).two
    go_wp2_with fail
    refine (negP_any (n := 6) (HX.out _ C1) ls (by omega) HL.out (by omega)).mono ?_
    rintro e y2 ⟨h, hb2⟩
    rw [HM.out, mapQ_eq (f := fun x => -x) HQL.out] at h
    obtain ⟨gN1, gN2, nN, mN, gN3, gN4, rfl, hA⟩ := h.ans
    obtain ⟨y3, hV⟩ : ∃ X, y2.alloc (.cells #[.slice gN1 nN gN3, .slice gN2 mN gN4] 26) = X := ⟨_, rfl⟩
    have bz : Below y2.heap.size y2 y3 := by rw [← hV]; exact (Below.refl _ _).alloc (Nat.le_refl _) _
    have NN : Row y3 y2.heap.size 26 #[.slice gN1 nN gN3, .slice gN2 mN gN4] := by rw [← hV]; exact Row.new _ _ _
    have EN : Below y1.heap.size y1 y3 := hb2.trans (bz.mono hb2.size)
    have C3 : Below W.heap.size W y3 := C1.trans (EN.mono C1.size)
    have hA' := hA.later bz
    have MN := Lib.hid hA'
    clear x0 x1 bz hb2 h hA hA'
    obtain ⟨x0, x1, _, _⟩ := (R0.later C3).two
    go_wp2_with fail
    (try rw [hV])
    (try clear hV)
    refine (reluP_any (n := 6) (HX.out _ C3) ls (by omega) HL.out (by omega)).mono ?_
    rintro e y4 ⟨h, hb4⟩
    rw [HM.out, mapQ_eq (f := reluR) HQL.out] at h
    obtain ⟨gR1, gR2, nR, mR, gR3, gR4, rfl, hA⟩ := h.ans
    obtain ⟨y5, hV⟩ : ∃ X, y4.alloc (.cells #[.slice gR1 nR gR3, .slice gR2 mR gR4] 26) = X := ⟨_, rfl⟩
    have bz : Below y4.heap.size y4 y5 := by rw [← hV]; exact (Below.refl _ _).alloc (Nat.le_refl _) _
    have NR : Row y5 y4.heap.size 26 #[.slice gR1 nR gR3, .slice gR2 mR gR4] := by rw [← hV]; exact Row.new _ _ _
    have ER : Below y3.heap.size y3 y5 := hb4.trans (bz.mono hb4.size)
    have C5 : Below W.heap.size W y5 := C3.trans (ER.mono C3.size)
    have hA' := hA.later bz
    have MR := Lib.hid hA'
    replace NN := NN.later ER
    replace MN := Lib.hid (MN.out.later ER)
    clear x0 x1 bz hb4 h hA hA'
    obtain ⟨x0, x1, _, _⟩ := (R0.later C5).two
    go_wp2_with fail
    (try rw [hV])
    (try clear hV)
    refine (stepP_any (n := 6) (HX.out _ C5) ls (by omega) HL.out (by omega)).mono ?_
    rintro e y6 ⟨h, hb6⟩
    rw [HM.out, mapQ_eq (f := stepR) HQL.out] at h
    obtain ⟨gS1, gS2, nS, mS, gS3, gS4, rfl, hA⟩ := h.ans
    obtain ⟨y7, hV⟩ : ∃ X, y6.alloc (.cells #[.slice gS1 nS gS3, .slice gS2 mS gS4] 26) = X := ⟨_, rfl⟩
    have bz : Below y6.heap.size y6 y7 := by rw [← hV]; exact (Below.refl _ _).alloc (Nat.le_refl _) _
    have NS : Row y7 y6.heap.size 26 #[.slice gS1 nS gS3, .slice gS2 mS gS4] := by rw [← hV]; exact Row.new _ _ _
    have ES : Below y5.heap.size y5 y7 := hb6.trans (bz.mono hb6.size)
    have C7 : Below W.heap.size W y7 := C5.trans (ES.mono C5.size)
    have hA' := hA.later bz
    have MS := Lib.hid hA'
    replace NN := NN.later ES
    replace MN := Lib.hid (MN.out.later ES)
    replace NR := NR.later ES
    replace MR := Lib.hid (MR.out.later ES)
    clear x0 x1 bz hb6 h hA hA'
    obtain ⟨x0, x1, _, _⟩ := (R0.later C7).two
    go_wp2_with fail
    (try rw [hV])
    (try clear hV)
    refine (mayT_any (HX.out _ C7) (by omega) (fun p hp => by have := HL.out p hp; omega)).mono ?_
    rintro e y8 ⟨rfl, hb8⟩
    rw [HM.out]
    have C8 : Below W.heap.size W y8 := C7.trans (hb8.mono C7.size)
    clear x0 x1
    obtain ⟨x0, x1, _, _⟩ := (R0.later C8).two
    go_wp2_with fail
    refine (ofT_any (n := 6) (HX.out _ C8) (by omega) (by omega) HL.out (by omega)).mono ?_
    rintro e y9 ⟨pa, pb, pca, pcb, rfl, S1, E1, hb9⟩
    have U1 := ofT_tens (m := qs.length) (by simp) S1 E1
    rw [HQL.out] at U1
    obtain ⟨V, hV⟩ : ∃ X, y9.alloc (.cells #[.slice pa s.length pca, .slice pb qs.length pcb] 36) = X := ⟨_, rfl⟩
    have bz : Below y9.heap.size y9 V := by rw [← hV]; exact (Below.refl _ _).alloc (Nat.le_refl _) _
    have NT : Row V y9.heap.size 36 #[.slice pa s.length pca, .slice pb qs.length pcb] := by rw [← hV]; exact Row.new _ _ _
    have E7 : Below y7.heap.size y7 V := hb8.trans ((hb9.trans (bz.mono hb9.size)).mono hb8.size)
    have C10 : Below W.heap.size W V := C7.trans (E7.mono C7.size)
    have hkV : Below w.heap.size w V := hBW.trans (C10.mono (by omega))
    have UV := U1.later bz
    have HU := Lib.hid UV
    replace NN := NN.later E7
    replace NR := NR.later E7
    replace NS := NS.later E7
    replace MN := Lib.hid (MN.out.later E7)
    replace MR := Lib.hid (MR.out.later E7)
    replace MS := Lib.hid (MS.out.later E7)
    clear x0 x1 U1 UV S1 E1 bz hb8 hb9 hb1 E7 EN ER ES C1 C3 C5 C7 C8 hfew
    go_wp2_with fail
    (try rw [hV])
    (try clear hV)
    have mkS : ∀ X, Below V.heap.size V X → X.cell? ⟨y2.heap.size, 0, none⟩ = some (.slice gN1 nN gN3) ∧ X.cell? ⟨y2.heap.size, 1, none⟩ = some (.slice gN2 mN gN4) ∧ X.cell? ⟨y4.heap.size, 0, none⟩ = some (.slice gR1 nR gR3) ∧ X.cell? ⟨y4.heap.size, 1, none⟩ = some (.slice gR2 mR gR4) ∧ X.cell? ⟨y6.heap.size, 0, none⟩ = some (.slice gS1 nS gS3) ∧ X.cell? ⟨y6.heap.size, 1, none⟩ = some (.slice gS2 mS gS4) ∧ X.cell? ⟨y9.heap.size, 0, none⟩ = some (.slice pa s.length pca) ∧ X.cell? ⟨y9.heap.size, 1, none⟩ = some (.slice pb qs.length pcb) := fun X h => by
      obtain ⟨u0, u1, _⟩ := (NN.later h).two
      obtain ⟨u2, u3, _⟩ := (NR.later h).two
      obtain ⟨u4, u5, _⟩ := (NS.later h).two
      obtain ⟨u6, u7, _⟩ := (NT.later h).two
      exact ⟨u0, u1, u2, u3, u4, u5, u6, u7⟩
    have B0 : Below V.heap.size V V.drew := (Below.refl _ _).drew
    refine wp_region_held_drew (S := fun X => X.cell? ⟨y2.heap.size, 0, none⟩ = some (.slice gN1 nN gN3) ∧ X.cell? ⟨y2.heap.size, 1, none⟩ = some (.slice gN2 mN gN4) ∧ X.cell? ⟨y4.heap.size, 0, none⟩ = some (.slice gR1 nR gR3) ∧ X.cell? ⟨y4.heap.size, 1, none⟩ = some (.slice gR2 mR gR4) ∧ X.cell? ⟨y6.heap.size, 0, none⟩ = some (.slice gS1 nS gS3) ∧ X.cell? ⟨y6.heap.size, 1, none⟩ = some (.slice gS2 mS gS4) ∧ X.cell? ⟨y9.heap.size, 0, none⟩ = some (.slice pa s.length pca) ∧ X.cell? ⟨y9.heap.size, 1, none⟩ = some (.slice pb qs.length pcb)) (by kernel_rfl) (mkS _ B0) (fun hHeld => ?_)
    obtain ⟨y0, hy0⟩ : ∃ Y, V.drew = Y := ⟨_, rfl⟩
    rw [hy0] at B0 hHeld ⊢
    clear hy0
    refine todo [0, 1, 2, 4] ?_
    iterate 4
     refine todoH (v := ?_) rfl (by kernel_rfl) (fun _ _ _ h => h) (by assumption) (Or.inl ⟨by rfl, ?_⟩) ?_
     rotate_left
     · intro w hSw; (try dsimp only at hSw); go_simp; (try with_reducible rfl)
     try simp only [Act.put, List.getElem_toArray, List.getElem_cons_succ, List.getElem_cons_zero, List.setIfInBounds_toArray, List.set_cons_zero, List.set_cons_succ]
    refine todone ?_
    refine wpAnyH_ready (rs := [3]) (by kernel_rfl) (by simp) ?_
    refine AllReadyH.cons rfl (fun K hK => ?sk1c3) AllReadyH.nil
    go_simp
    refine (negT_any (n := 31) (HU.out.later B0) ls (by omega) (by omega)).mono ?_
    rintro e y1 ⟨rt, rfl, TR, hy⟩
    have B1 : Below V.heap.size V y1 := B0.trans (hy.mono B0.size)
    have D1 := hy
    clear hy
    have HTR1 := Lib.hid TR
    clear TR
    obtain ⟨ta1, tb1, tn1, tm1, tca1, tcb1, rfl⟩ := HTR1.out.box
    go_simp
    refine hK.out _ _ ?kk1c3 (fun hHeld => ?mk1c3)
    case kk1c3 =>
      try dsimp only
      exact mkS _ B1
    clear hK K
    try simp only [Act.put, List.getElem_toArray, List.getElem_cons_succ, List.getElem_cons_zero, List.setIfInBounds_toArray, List.set_cons_zero, List.set_cons_succ]
    refine wpAnyH_ready (rs := [5]) (by kernel_rfl) (by simp) ?_
    refine AllReadyH.cons rfl (fun K hK => ?sk2c5) AllReadyH.nil
    go_simp
    refine (told_any (MN.out.later B1) ⟨_, _, _, _, _, _, rfl⟩ (fun _ => HTR1.out) ls (by rw [List.length_map]; omega) (by omega) (by omega)).mono ?_
    rintro e y2 ⟨rfl, hy⟩
    have B2 : Below V.heap.size V y2 := B1.trans (hy.mono B1.size)
    have D2 := hy
    clear hy
    go_simp
    refine hK.out _ _ ?kk2c5 (fun hHeld => ?mk2c5)
    case kk2c5 =>
      try dsimp only
      exact mkS _ B2
    clear hK K
    try simp only [Act.put, List.getElem_toArray, List.getElem_cons_succ, List.getElem_cons_zero, List.setIfInBounds_toArray, List.set_cons_zero, List.set_cons_succ]
    refine todo [6, 7, 8, 9, 11] ?_
    iterate 5
     refine todoH (v := ?_) rfl (by kernel_rfl) (fun _ _ _ h => h) (by assumption) (Or.inl ⟨by rfl, ?_⟩) ?_
     rotate_left
     · intro w hSw; (try dsimp only at hSw); go_simp; (try with_reducible rfl)
     try simp only [Act.put, List.getElem_toArray, List.getElem_cons_succ, List.getElem_cons_zero, List.setIfInBounds_toArray, List.set_cons_zero, List.set_cons_succ]
    refine todone ?_
    refine wpAnyH_ready (rs := [10]) (by kernel_rfl) (by simp) ?_
    refine AllReadyH.cons rfl (fun K hK => ?sk3c10) AllReadyH.nil
    go_simp
    refine (reluT_any (n := 31) (HU.out.later B2) ls (by omega) (by omega)).mono ?_
    rintro e y3 ⟨rt, rfl, TR, hy⟩
    have B3 : Below V.heap.size V y3 := B2.trans (hy.mono B2.size)
    have D3 := hy
    clear hy
    have HTR2 := Lib.hid TR
    clear TR
    obtain ⟨ta2, tb2, tn2, tm2, tca2, tcb2, rfl⟩ := HTR2.out.box
    go_simp
    refine hK.out _ _ ?kk3c10 (fun hHeld => ?mk3c10)
    case kk3c10 =>
      try dsimp only
      exact mkS _ B3
    clear hK K
    try simp only [Act.put, List.getElem_toArray, List.getElem_cons_succ, List.getElem_cons_zero, List.setIfInBounds_toArray, List.set_cons_zero, List.set_cons_succ]
    refine wpAnyH_ready (rs := [12]) (by kernel_rfl) (by simp) ?_
    refine AllReadyH.cons rfl (fun K hK => ?sk4c12) AllReadyH.nil
    go_simp
    refine (told_any (MR.out.later B3) ⟨_, _, _, _, _, _, rfl⟩ (fun _ => HTR2.out) ls (by rw [List.length_map]; omega) (by omega) (by omega)).mono ?_
    rintro e y4 ⟨rfl, hy⟩
    have B4 : Below V.heap.size V y4 := B3.trans (hy.mono B3.size)
    have D4 := hy
    clear hy
    go_simp
    refine hK.out _ _ ?kk4c12 (fun hHeld => ?mk4c12)
    case kk4c12 =>
      try dsimp only
      exact mkS _ B4
    clear hK K
    try simp only [Act.put, List.getElem_toArray, List.getElem_cons_succ, List.getElem_cons_zero, List.setIfInBounds_toArray, List.set_cons_zero, List.set_cons_succ]
    refine todo [13, 14, 15, 16, 17, 19] ?_
    iterate 6
     refine todoH (v := ?_) rfl (by kernel_rfl) (fun _ _ _ h => h) (by assumption) (Or.inl ⟨by rfl, ?_⟩) ?_
     rotate_left
     · intro w hSw; (try dsimp only at hSw); go_simp; (try with_reducible rfl)
     try simp only [Act.put, List.getElem_toArray, List.getElem_cons_succ, List.getElem_cons_zero, List.setIfInBounds_toArray, List.set_cons_zero, List.set_cons_succ]
    refine todone ?_
    refine wpAnyH_ready (rs := [18]) (by kernel_rfl) (by simp) ?_
    refine AllReadyH.cons rfl (fun K hK => ?sk5c18) AllReadyH.nil
    go_simp
    refine (stepT_any (n := 31) (HU.out.later B4) ls (by omega) (by omega)).mono ?_
    rintro e y5 ⟨rt, rfl, TR, hy⟩
    have B5 : Below V.heap.size V y5 := B4.trans (hy.mono B4.size)
    have D5 := hy
    clear hy
    have HTR3 := Lib.hid TR
    clear TR
    obtain ⟨ta3, tb3, tn3, tm3, tca3, tcb3, rfl⟩ := HTR3.out.box
    go_simp
    refine hK.out _ _ ?kk5c18 (fun hHeld => ?mk5c18)
    case kk5c18 =>
      try dsimp only
      exact mkS _ B5
    clear hK K
    try simp only [Act.put, List.getElem_toArray, List.getElem_cons_succ, List.getElem_cons_zero, List.setIfInBounds_toArray, List.set_cons_zero, List.set_cons_succ]
    refine wpAnyH_ready (rs := [20]) (by kernel_rfl) (by simp) ?_
    refine AllReadyH.cons rfl (fun K hK => ?sk6c20) AllReadyH.nil
    go_simp
    refine (told_any (MS.out.later B5) ⟨_, _, _, _, _, _, rfl⟩ (fun _ => HTR3.out) ls (by rw [List.length_map]; omega) (by omega) (by omega)).mono ?_
    rintro e y6 ⟨rfl, hy⟩
    have B6 : Below V.heap.size V y6 := B5.trans (hy.mono B5.size)
    have D6 := hy
    clear hy
    go_simp
    refine hK.out _ _ ?kk6c20 (fun hHeld => ?mk6c20)
    case kk6c20 =>
      try dsimp only
      exact mkS _ B6
    clear hK K
    try simp only [Act.put, List.getElem_toArray, List.getElem_cons_succ, List.getElem_cons_zero, List.setIfInBounds_toArray, List.set_cons_zero, List.set_cons_succ]
    refine todo [21, 22] ?_
    iterate 2
     refine todoH (v := ?_) rfl (by kernel_rfl) (fun _ _ _ h => h) (by assumption) (Or.inl ⟨by rfl, ?_⟩) ?_
     rotate_left
     · intro w hSw; (try dsimp only at hSw); go_simp; (try with_reducible rfl)
     try simp only [Act.put, List.getElem_toArray, List.getElem_cons_succ, List.getElem_cons_zero, List.setIfInBounds_toArray, List.set_cons_zero, List.set_cons_succ]
    refine todone ?_
    refine wpAnyH_ready (rs := [23]) (by kernel_rfl) (by simp) ?_
    refine AllReadyH.cons rfl (fun K hK => ?sk7c23) AllReadyH.nil
    go_simp
    refine (known8_any _).mono ?_
    rintro e y7 ⟨rfl, hy⟩
    have B7 : Below V.heap.size V y7 := B6.trans (hy.mono B6.size)
    have D7 := hy
    clear hy
    go_simp
    refine hK.out _ _ ?kk7c23 (fun hHeld => ?mk7c23)
    case kk7c23 =>
      try dsimp only
      exact mkS _ B7
    clear hK K
    try simp only [Act.put, List.getElem_toArray, List.getElem_cons_succ, List.getElem_cons_zero, List.setIfInBounds_toArray, List.set_cons_zero, List.set_cons_succ]
    refine wpAnyH_take (i := 24) (v := ?vk7a24) rfl (by kernel_rfl) (by kernel_rfl) (by kernel_rfl) (fun _ _ _ h => h) (Or.inl ⟨by rfl, ?hk7a24⟩) (by assumption) ?rk7a24
    case hk7a24 =>
      intro w hSw
      try dsimp only at hSw
      go_simp
      try with_reducible rfl
    try simp only [Act.put, List.getElem_toArray, List.getElem_cons_succ, List.getElem_cons_zero, List.setIfInBounds_toArray, List.set_cons_zero, List.set_cons_succ]
    refine wpAnyH_ready (rs := [25]) (by kernel_rfl) (by simp) ?_
    refine AllReadyH.cons rfl (fun K hK => ?sk7d25) AllReadyH.nil
    go_simp
    refine hK.out _ _ ?kk7d25 (fun hHeld => ?mk7d25)
    case kk7d25 =>
      try dsimp only
      exact mkS _ B7
    clear hK K
    try simp only [Act.put, List.getElem_toArray, List.getElem_cons_succ, List.getElem_cons_zero, List.setIfInBounds_toArray, List.set_cons_zero, List.set_cons_succ]
    refine wpAnyH_done (by kernel_rfl) ?_ _
    (try dsimp only [Straight])
    go_wp2_with fail
    go_ret
    exact ⟨rfl, hkV.trans (B7.mono hkV.size)⟩
end Go.Proofs.YtjcacmnmbbnffaaGreat
