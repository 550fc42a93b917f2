/-
  Layer 8's laws: the helper row. (Made by wip/gen/gen_prow.py.)
-/
import Derived.Test.YtjcacmnmbbnffaaGreatPLaw0
namespace Go.Proofs.YtjcacmnmbbnffaaGreat
open Go.RowKit
set_option linter.unusedVariables false
set_option linter.unusedSimpArgs false

/-- a number by 2 -/
def half (p : Int) : Rat := ratOf (decide (p < 0) != decide ((2 : Int) < 0)) (p.natAbs : Int) ((2 : Int).natAbs : Int)
theorem wid_one (L : Nat) (h : L ≤ 1000000) : Wid [(L : Int)] := by
  intro x hx
  simp at hx
  subst hx
  omega
set_option maxRecDepth 100000 in
set_option maxHeartbeats 8000000 in
theorem rowT_any {w : World} {xs : List Int} {bb cap : Nat} (hc : ∀ k, k < xs.length → w.cell? ⟨bb, k, none⟩ = some (.int .i64 (xs.getD k 0))) (hx : xs.length ≤ 1000) (hr : ∀ k, k < xs.length → -1000000 ≤ xs.getD k 0 ∧ xs.getD k 0 ≤ 1000000) :
    Calls Tryz.prog 44 #[.slice (some ⟨bb, 0, none⟩) xs.length cap] w fun e w' => ∃ r, e = .returned r ∧ TenR w' r [(xs.length : Int)] (xs.map half) 8 ∧ Below w.heap.size w w' := by
  obtain ⟨i0, hi, hz0, hz1, hz2⟩ := info_parts infoR
  have HC := Lib.hid hc
  have HR := Lib.hid hr
  have hbb : ∀ k, k < xs.length → bb < w.heap.size := fun k hk => World.block_lt_of_cell? _ _ (hc k hk)
  have HBB := Lib.hid hbb
  obtain ⟨L, hL⟩ : ∃ L, xs.length = L := ⟨_, rfl⟩
  have HL := Lib.hid hL
  have hres : (xs.map half).length = L := by rw [List.length_map, hL]
  obtain ⟨LR, hLR⟩ : ∃ LR, xs.map half = LR := ⟨_, rfl⟩
  have HLR := Lib.hid hLR
  rw [hLR] at hres ⊢
  have HRES := Lib.hid hres
  rw [hL] at hx ⊢
  clear hL hLR hres hc hr hbb
  obtain ⟨W, hW⟩ : ∃ W, (w.alloc (.cells #[.slice none 0 0, .slice none 0 0] 36)) = W := ⟨_, rfl⟩
  have R0 : Row W (w.heap.size) 36 #[.slice none 0 0, .slice none 0 0] := by rw [← hW]; have h := Row.new w 36 #[.slice none 0 0, .slice none 0 0]; (try simp only [World.size_alloc] at h); exact h
  have hBW : Below w.heap.size w W := by rw [← hW]; exact ((Below.refl _ _).alloc (by (try simp) <;> omega) _)
  have hsW : W.heap.size = w.heap.size + 1 := by rw [← hW]; simp
  go_enter Tryz.func44, Tryz.ntmps44
  (try rw [hW])
  go_wp2_with fail
  obtain ⟨W3, hW3⟩ : ∃ W3, W.alloc (.cells #[.int .i64 (L : Int)] 3) = W3 := ⟨_, rfl⟩
  obtain ⟨W4, hW4⟩ : ∃ W4, W3.alloc (.cells #[.slice (some ⟨w.heap.size + 1, 0, none⟩) 1 1, .slice none 0 0] 36) = W4 := ⟨_, rfl⟩
  have s3 : W3.heap.size = w.heap.size + 1 + 1 := by rw [← hW3, World.size_alloc, hsW]
  have b34 : Below W3.heap.size W3 W4 := by rw [← hW4]; exact (Below.refl _ _).alloc (Nat.le_refl _) _
  have b3 : Below W.heap.size W W3 := by rw [← hW3]; exact (Below.refl _ _).alloc (Nat.le_refl _) _
  have b4 : Below W.heap.size W W4 := b3.trans (b34.mono b3.size)
  have r0 := R0.later b4
  have rg : Row W4 (w.heap.size + 1 + 1) 36 #[.slice (some ⟨w.heap.size + 1, 0, none⟩) 1 1, .slice none 0 0] := by
    have h := Row.new W3 36 #[.slice (some ⟨w.heap.size + 1, 0, none⟩) 1 1, .slice none 0 0]
    rw [hW4, s3] at h; exact h
  have hB4 : Below w.heap.size w W4 := hBW.trans (b4.mono (by omega))
  have rs : ResS w.heap.size W4 (.slice (some ⟨w.heap.size + 1, 0, none⟩) 1 1) [(L : Int)] := by
    have h : ResS W.heap.size W3 (.slice (some ⟨W.heap.size, 0, none⟩) 1 1) [(L : Int)] := by
      rw [← hW3]
      exact ⟨⟨rfl, .inr ⟨W.heap.size, 1, #[.int .i64 (L : Int)], rfl, Nat.le_refl _, heap_alloc_new W _, Nat.le_refl _, by unfold maxLen; omega, by simp, by simp⟩⟩, wid_one L (by omega)⟩
    rw [hsW] at h
    exact (h.mono (by omega)).later b34
  simp only [hW3, hsW, hW4, s3]
  have H0 := Lib.hid r0
  have HG := Lib.hid rg
  have HS := Lib.hid rs
  have HB4 := Lib.hid hB4
  clear r0 rg rs hB4 R0 hBW hsW hW hW3 hW4 s3 b34 b3 b4
  go_loopw [4] (fun i wr => ∃ (k : Nat) (v : Value), i = .int .i64 (k : Int) ∧ k ≤ L ∧ Row wr w.heap.size 36 #[.slice none 0 0, .slice none 0 0] ∧
    Row wr (w.heap.size + 1 + 1) 36 #[.slice (some ⟨w.heap.size + 1, 0, none⟩) 1 1, v] ∧ ResS w.heap.size wr (.slice (some ⟨w.heap.size + 1, 0, none⟩) 1 1) [(L : Int)] ∧ RowO w.heap.size 56 (fun W v x => ResR w.heap.size W v x 8) wr v (LR.take k) ∧ Below w.heap.size w wr) (fun i _ => L - (intOf i).toNat)
  case atStart => exact ⟨0, _, rfl, Nat.zero_le _, H0.out, HG.out, HS.out, RowO.nil _ _ _ _, HB4.out⟩
  case round =>
    obtain ⟨k, v, rfl, hk, r0, rg, rs, ⟨es, hown, hall⟩, hb⟩ := hrel
    have hsz := hb.size
    have cg1 := rg.cell 1
    have hle : es.length = k := by have h := HRES.out; rw [hall.1, List.length_take, h]; omega
    by_cases hlt : k < L
    · have e0' := HC.out k (by rw [HL.out]; exact hlt)
      have hbr := HR.out k (by rw [HL.out]; exact hlt)
      have hbl := HBB.out k (by rw [HL.out]; exact hlt)
      obtain ⟨p, hp⟩ : ∃ p, xs.getD k 0 = p := ⟨_, rfl⟩
      rw [hp] at e0' hbr
      have HP := Lib.hid hp
      clear hp
      have e0 := (hb.cell (World.block_lt_of_cell? _ _ e0')).trans e0'
      obtain ⟨r, hrv, hrb, hrne⟩ := hown.hits hsz
      have n0 := hrne _ _ _ r0 (by decide)
      have ng := hrne _ _ _ rg (by decide)
      have hk0 : (0 : Int) ≤ (k : Int) := Int.natCast_nonneg _
      have mkS : ∀ X, Kept r wr X → X.cell? ⟨w.heap.size + 1 + 1, 1, none⟩ = some v ∧ X.cell? ⟨bb, k, none⟩ = some (.int .i64 p) ∧ Kept r wr X := fun X h => ⟨h.cell cg1 ng, h.cell e0 (by show bb ≠ r; omega), h⟩
      have hltI : (k : Int) < (L : Int) := by omega
      have hS0 := mkS wr.drew ((Kept.refl r wr).drew)
      clear e0'
      go_wp2_with fail
      refine wp_region_L (S := fun X => X.cell? ⟨w.heap.size + 1 + 1, 1, none⟩ = some v ∧ X.cell? ⟨bb, k, none⟩ = some (.int .i64 p) ∧ Kept r wr X) (z := 10) (by kernel_rfl) hS0 (fun hHeld => ?_)
      refine todo [0, 1, 2, 3, 4, 5] ?_
      iterate 6
       refine todoL (v := ?_) rfl (by kernel_rfl) (fun _ _ _ h => h) (by assumption) (Or.inl ⟨by rfl, ?_⟩) ?_
       rotate_left
       · intro w hSw; (try dsimp only at hSw); go_simp; (try with_reducible rfl)
       try simp only [Act.put, List.getElem_toArray, List.getElem_cons_succ, List.getElem_cons_zero, List.setIfInBounds_toArray, List.set_cons_zero, List.set_cons_succ]
      refine todone ?_
      refine wpAnyL_one (i := 6) (by kernel_rfl) rfl (fun K hK => ?sb6)
      go_simp
      have hbd4 : Below wr.heap.size wr wr.drew := (Below.refl _ _).drew
      refine (fracRR_any p 2 _ (by omega) (by omega) (by omega) (by omega)).mono ?_
      rintro e w5 ⟨rv, rfl, qv, hb5⟩
      have Q5 := Lib.hid qv
      obtain ⟨m5, f1, l1, j1, f2, l2, j2, rfl⟩ := qv.shape
      clear qv
      go_simp
      have hB5 : Below w.heap.size w w5 := (hb.drew).trans (hb5.mono hsz)
      have hk5 : Kept r wr w5 := ((Kept.refl r wr).drew).below hb5
      refine hK.out _ _ (fun _ => mkS _ hk5) (fun hHeld2 => ?mb6)
      clear hK K hHeld
      have hHeld := hHeld2 (by decide)
      clear hHeld2
      try simp only [Act.put, List.setIfInBounds_toArray, List.set_cons_zero, List.set_cons_succ]
      refine wpAnyL_one (i := 7) (by kernel_rfl) rfl (fun K hK => ?sb7)
      go_simp
      refine hK.out _ _ (fun _ => mkS _ (hk5.alloc _)) (fun hHeld2 => ?mb7)
      clear hK K hHeld
      have hHeld := hHeld2 (by decide)
      clear hHeld2
      try simp only [Act.put, List.setIfInBounds_toArray, List.set_cons_zero, List.set_cons_succ]
      refine wpAnyL_one (i := 8) (by kernel_rfl) rfl (fun K hK => ?sb8)
      have hb5w : Below wr.heap.size wr w5 := (Below.refl _ wr).drew.trans hb5
      have hown5 : OwnE w.heap.size 56 w5 v es := hown.later hb5w
      have hall5 : AllE (fun v x => ResR w.heap.size w5 v x 8) es (LR.take k) := hall.imp fun u x _ h => h.later hb5w
      have hsz5 := hB5.size
      refine step_append_ownT rfl _ _ 34 rfl w.heap.size 56 i0 _ 3 56 Tryz.underlying34 hi hz0 hz1 hz2 rfl (by decide) _ es.length (flat3 es) rfl (hown5.later ((Below.refl _ _).alloc (Nat.le_refl _) _)) ⟨w5.heap.size, 0, none⟩ 1 1 [.bool m5, .slice f1 l1 j1, .slice f2 l2 j2] rfl rfl (cell_three_new _ _ _ _ _) (by simp [Value.oneCell']) (by unfold maxLen; omega) (by omega) (by simp; omega) ?_
      intro v' w6 hown' hgrow _
      obtain ⟨av, cv, rfl⟩ := ownT_slice hown'
      have hk6 : Kept r wr w6 := (hk5.alloc _).grown hgrow hrv
      refine hK.out _ _ (fun _ => mkS _ hk6) (fun hHeld2 => ?mb8)
      clear hK K hHeld
      have hHeld := hHeld2 (by decide)
      clear hHeld2
      try simp only [Act.put, List.setIfInBounds_toArray, List.set_cons_zero, List.set_cons_succ]
      refine wpAnyL_take (i := 9) (v := ?va9) rfl (by kernel_rfl) (by kernel_rfl) (by kernel_rfl) (by kernel_rfl) (fun _ _ _ h => h) (Or.inl ⟨by rfl, ?ha9⟩) (by assumption) ?ra9
      case ha9 =>
        intro w hSw
        try dsimp only at hSw
        go_simp
        try with_reducible rfl
      try simp only [Act.put, List.setIfInBounds_toArray, List.set_cons_zero, List.set_cons_succ]
      have RG6 := rg.kept hk6 ng
      have f21 := RG6.free 1
      have d21 := RG6.cell 1
      refine wpAnyL_one (i := 10) (by kernel_rfl) rfl (fun K hK => ?sb10)
      go_simp
      refine hK.out _ _ (fun h => absurd rfl h) (fun _ => ?mb10)
      clear hK K
      try simp only [Act.put, List.setIfInBounds_toArray, List.set_cons_zero, List.set_cons_succ]
      refine wpAnyL_done (by kernel_rfl) ?_ _
      go_wp2
      go_roundw
      case rel =>
        have hx5 : ResR w.heap.size w5 (E3.agg ⟨.bool m5, .slice f1 l1 j1, .slice f2 l2 j2⟩) (half p) 8 := (Q5.out.mono (by show w.heap.size ≤ wr.heap.size; exact hsz)).more (by omega)
        obtain ⟨hrow6, hb6⟩ := pushE (P := fun W v x => ResR w.heap.size W v x 8) (e := ⟨.bool m5, .slice f1 l1 j1, .slice f2 l2 j2⟩) hB5 hsz5 hown5 hall5 hx5 (fun u y h => ResR.apart hown5 hgrow (by decide) h) hown' hgrow
        rw [hle] at hrow6
        have rs6 : ResS w.heap.size w6 (.slice (some ⟨w.heap.size + 1, 0, none⟩) 1 1) [(L : Int)] := ResS.apart hown5 hgrow (by decide) (rs.later hb5w)
        have hnext : LR.take (k + 1) = LR.take k ++ [half p] := take_nextL (by
          have hkx : k < xs.length := by rw [HL.out]; exact hlt
          rw [← HLR.out, List.getElem?_map, List.getElem?_eq_getElem hkx, ← HP.out]
          simp [hkx])
        refine ⟨k + 1, _, by go_num, by omega, (r0.kept hk6 n0).far (by show w.heap.size ≠ w.heap.size + 1 + 1; omega) _, RG6.set21 _, rs6.far RG6 (by decide) (kept1 _), ?_, hb6.setCell (by show w.heap.size ≤ w.heap.size + 1 + 1; omega) _⟩
        rw [hnext]
        exact hrow6.far RG6 (by decide) (kept1 _) (fun u y h => h.far RG6 (by decide) (kept1 _))
      case measure => simp [intOf]; omega
    · obtain rfl : k = L := by omega
      have hltI : ¬ (k : Int) < (k : Int) := by omega
      rw [List.take_of_length_le (by have h := HRES.out; omega)] at hall
      obtain ⟨av, cv, rfl⟩ := ownT_slice hown
      have hel : es.length = k := hle
      rw [hel] at rg hown
      have c20 := rg.cell 0
      have d21 := rg.cell 1
      obtain ⟨g10, g11, f10, f11⟩ := r0.two
      have RRs := r0.set2 (.slice (some ⟨w.heap.size + 1, 0, none⟩) 1 1) (.slice av k cv)
      obtain ⟨z0, z1, _, _⟩ := RRs.two
      have HOWN := Lib.hid hown
      have HALL := Lib.hid hall
      have HRR := Lib.hid r0
      clear hown hall hle RRs r0
      go_wp2
      have hbE := below_set2 hb (Nat.le_refl _) (.slice (some ⟨w.heap.size + 1, 0, none⟩) 1 1) (.slice av k cv)
      have hsE : ResS w.heap.size _ (.slice (some ⟨w.heap.size + 1, 0, none⟩) 1 1) [(k : Int)] := rs.far HRR.out (by decide) (kept2 (.slice (some ⟨w.heap.size + 1, 0, none⟩) 1 1) (.slice av k cv))
      have hrE := RowO.far (P := fun W v x => ResR w.heap.size W v x 8) ⟨es, HOWN.out, HALL.out⟩ HRR.out (by decide) (kept2 (.slice (some ⟨w.heap.size + 1, 0, none⟩) 1 1) (.slice av k cv)) (fun u y h => h.far HRR.out (by decide) (kept2 _ _))
      exact bodyPost_ret (v := .agg #[.slice (some ⟨w.heap.size + 1, 0, none⟩) 1 1, .slice av k cv]) (by simp [results, Tryz.results44, go_sem, z0, z1]) rfl ⟨_, rfl, tenR_of (s := [(k : Int)]) HRES.out.symm hbE hsE (hrE.mono (Nat.le_refl _) (fun v x h => .inl h)), hbE⟩
end Go.Proofs.YtjcacmnmbbnffaaGreat
