/-
  The reference of layer 8: Relu, Step. (Made by wip/gen/gen_prefs.py.)
-/
import Derived.Test.YtjcacmnmbbnffaaGreatPRefA
import Derived.Test.YtjcacmnmbbnffaaGreatE6
namespace Go.Proofs.YtjcacmnmbbnffaaGreat
open Go.RowKit
set_option linter.unusedVariables false
set_option linter.unusedSimpArgs false

set_option maxRecDepth 100000 in
set_option maxHeartbeats 8000000 in
theorem reluT_any {n : Nat} {w : World} {v : Value} {s : List Int} {L1 : List Rat} {a b : Option Addr} {ca cb : Nat} (T : TensR w v s L1 n a ca b cb) (hs : s.length ≤ 17592186044416) (hq : L1.length ≤ 1000000) (hn : n ≤ 1000000) :
    Calls Tryz.prog 29 #[v] w fun e w' => ∃ r, e = .returned r ∧ TenR w' r s (L1.map reluR) (n + 6) ∧ Below w.heap.size w w' := by
  obtain ⟨i0, hi, hz0, hz1, hz2⟩ := info_parts infoR
  have HT := Lib.hid T
  obtain rfl := T.is
  have hres : (L1.map reluR).length = L1.length := by simp
  obtain ⟨LR, hLR⟩ : ∃ LR, L1.map reluR = LR := ⟨_, rfl⟩
  rw [hLR] at hres ⊢
  have HLR := Lib.hid hLR
  have HRES := Lib.hid hres
  clear hLR hres
  obtain ⟨W, hW⟩ : ∃ W, ((w.alloc (.cells #[.slice a s.length ca, .slice b L1.length cb] 36)).alloc (.cells #[.slice none 0 0, .slice none 0 0] 36)) = W := ⟨_, rfl⟩
  have R0 : Row W (w.heap.size) 36 #[.slice a s.length ca, .slice b L1.length cb] := by rw [← hW]; have h := Row.new w 36 #[.slice a s.length ca, .slice b L1.length cb]; (try simp only [World.size_alloc] at h); exact (h.alloc _)
  have R1 : Row W (w.heap.size + 1) 36 #[.slice none 0 0, .slice none 0 0] := by rw [← hW]; have h := Row.new (w.alloc (.cells #[.slice a s.length ca, .slice b L1.length cb] 36)) 36 #[.slice none 0 0, .slice none 0 0]; (try simp only [World.size_alloc] at h); exact h
  have hBW : Below w.heap.size w W := by rw [← hW]; exact (((Below.refl _ _).alloc (by (try simp) <;> omega) _).alloc (by (try simp) <;> omega) _)
  have hsW : W.heap.size = w.heap.size + 1 + 1 := by rw [← hW]; simp
  have hshp := shapedR_any (HT.out.later hBW) hs
  obtain ⟨p0, p1, _, _⟩ := R0.two
  clear T
  go_enter Tryz.func29, Tryz.ntmps29
  (try rw [hW])
  go_wp2_with fail
  refine hshp.mono ?_
  rintro e w3 ⟨a3, c3, rfl, R3', hb3⟩
  go_wp2_with fail
  have hs3 := hb3.size
  have hB3 : Below w.heap.size w w3 := hBW.trans (hb3.mono (by omega))
  have hB4 : Below w.heap.size w (w3.alloc (.cells #[.slice a3 s.length c3, .slice none 0 0] 36)) := hB3.alloc (by omega) _
  have r0 := (R0.later hb3).alloc (.cells #[.slice a3 s.length c3, .slice none 0 0] 36)
  have r1 := (R1.later hb3).alloc (.cells #[.slice a3 s.length c3, .slice none 0 0] 36)
  have rg := Row.new w3 36 #[.slice a3 s.length c3, .slice none 0 0]
  have rs : ResS w.heap.size (w3.alloc (.cells #[.slice a3 s.length c3, .slice none 0 0] 36)) (.slice a3 s.length c3) s := (R3'.mono (by omega)).later ((Below.refl _ _).alloc (Nat.le_refl _) _)
  obtain ⟨g, hg⟩ : ∃ g, w3.heap.size = g := ⟨_, rfl⟩
  have hg2 : w.heap.size + 1 + 1 ≤ g := by omega
  rw [hg] at rg ⊢
  generalize w3.alloc (.cells #[.slice a3 s.length c3, .slice none 0 0] 36) = W4 at *
  have H0 := Lib.hid r0
  have H1 := Lib.hid r1
  have HG := Lib.hid rg
  have HS := Lib.hid rs
  have HB4 := Lib.hid hB4
  clear rg rs hB4 hB3 hb3 hs3 R3' hshp p0 p1 hsW hg hW hBW r0 R0 r1 R1
  go_loopw [4] (fun i wr => ∃ (k : Nat) (v : Value), i = .int .i64 (k : Int) ∧ k ≤ L1.length ∧ Row wr w.heap.size 36 #[.slice a s.length ca, .slice b L1.length cb] ∧ Row wr (w.heap.size + 1) 36 #[.slice none 0 0, .slice none 0 0] ∧
    Row wr g 36 #[.slice a3 s.length c3, v] ∧ ResS w.heap.size wr (.slice a3 s.length c3) s ∧ RowO w.heap.size 56 (fun W v x => ResA w.heap.size w W v x (n + 6)) wr v (LR.take k) ∧ Below w.heap.size w wr) (fun i _ => L1.length - (intOf i).toNat)
  case atStart => exact ⟨0, _, rfl, Nat.zero_le _, H0.out, H1.out, HG.out, HS.out, RowO.nil _ _ _ _, HB4.out⟩
  case round =>
    obtain ⟨k, v, rfl, hk, r0, r1, rg, rs, ⟨es, hown, hall⟩, hb⟩ := hrel
    have hsz := hb.size
    have c01 := r0.cell 1
    have hle : es.length = k := by have h := HRES.out; rw [hall.1, List.length_take, h]; omega
    by_cases hlt : k < L1.length
    · obtain ⟨bb, o, x0, x1, x2, q, hbo, hqk, e0', e1', e2', hraw0⟩ := HT.out.el.at hlt
      have hb0 : bb < w.heap.size := World.block_lt_of_cell? _ _ e0'
      subst hbo
      obtain ⟨y0, y1, z1, t1, y2, z2, t2, hxx⟩ := hraw0.shape
      simp only [Value.agg.injEq, Array.mk.injEq, List.cons.injEq, and_true] at hxx
      obtain ⟨rfl, rfl, rfl⟩ := hxx
      have e0 := (hb.cell (World.block_lt_of_cell? _ _ e0')).trans e0'
      have e1 := (hb.cell (World.block_lt_of_cell? _ _ e1')).trans e1'
      have e2 := (hb.cell (World.block_lt_of_cell? _ _ e2')).trans e2'
      have hsign := signR_any (hraw0.later hb)
      obtain ⟨σ, hσ⟩ : ∃ σ, sgR q = σ := ⟨_, rfl⟩
      rw [hσ] at hsign
      have hltI : (k : Int) < (L1.length : Int) := by omega
      clear e0' e1' e2'
      by_cases hneg : σ < 0
      · have hv : reluR q = intQ 0 := by unfold reluR; rw [hσ, if_pos hneg, intQ_zero]
        have HVAL := Lib.hid hv
        clear hv hσ
        go_wp2_with fail
        refine hsign.mono ?_
        rintro e w1 ⟨rfl, hb1⟩
        replace r0 := r0.later hb1
        replace r1 := r1.later hb1
        replace rg := rg.later hb1
        replace rs := rs.later hb1
        replace hown := hown.later hb1
        replace hall := hall.imp (Q := fun v x => ResA w.heap.size w w1 v x (n + 6)) fun u x _ h => h.later hb1
        replace e0 := (hb1.cell (World.block_lt_of_cell? _ _ e0)).trans e0
        replace e1 := (hb1.cell (World.block_lt_of_cell? _ _ e1)).trans e1
        replace e2 := (hb1.cell (World.block_lt_of_cell? _ _ e2)).trans e2
        replace hb := hb.trans (hb1.mono hsz)
        have hsz1 := hb.size
        have c01 := r0.cell 1
        have cg1 := rg.cell 1
        obtain ⟨r, hrv, hrb, hrne⟩ := hown.hits hsz1
        have n0 := hrne _ _ _ r0 (by decide)
        have n1 := hrne _ _ _ r1 (by decide)
        have ng := hrne _ _ _ rg (by decide)
        have mkS : ∀ X, Kept r w1 X → X.cell? ⟨g, 1, none⟩ = some v ∧ X.cell? ⟨w.heap.size, 1, none⟩ = some (.slice (some ⟨bb, o, none⟩) L1.length cb) ∧ X.cell? ⟨bb, o + k * 3, none⟩ = some (.bool y0) ∧ X.cell? ⟨bb, o + k * 3 + 1, none⟩ = some (.slice y1 z1 t1) ∧ X.cell? ⟨bb, o + k * 3 + 2, none⟩ = some (.slice y2 z2 t2) ∧ Kept r w1 X := fun X h => ⟨h.cell cg1 ng, h.cell c01 n0, h.cell e0 (by show bb ≠ r; omega), h.cell e1 (by show bb ≠ r; omega), h.cell e2 (by show bb ≠ r; omega), h⟩
        have hS0 := mkS w1.drew ((Kept.refl r w1).drew)
        go_wp2_with fail
        refine wp_region_L (S := fun X => X.cell? ⟨g, 1, none⟩ = some v ∧ X.cell? ⟨w.heap.size, 1, none⟩ = some (.slice (some ⟨bb, o, none⟩) L1.length cb) ∧ X.cell? ⟨bb, o + k * 3, none⟩ = some (.bool y0) ∧ X.cell? ⟨bb, o + k * 3 + 1, none⟩ = some (.slice y1 z1 t1) ∧ X.cell? ⟨bb, o + k * 3 + 2, none⟩ = some (.slice y2 z2 t2) ∧ Kept r w1 X) (z := 6) (by kernel_rfl) hS0 (fun hHeld => ?_)
        refine todo [0, 1] ?_
        iterate 2
         refine todoL (v := ?_) rfl (by kernel_rfl) (fun _ _ _ h => h) (by assumption) (Or.inl ⟨by rfl, ?_⟩) ?_
         rotate_left
         · intro w hSw; (try dsimp only at hSw); go_simp; (try with_reducible rfl)
         try simp only [Act.put, List.getElem_toArray, List.getElem_cons_succ, List.getElem_cons_zero, List.setIfInBounds_toArray, List.set_cons_zero, List.set_cons_succ]
        refine todone ?_
        refine wpAnyL_one (i := 2) (by kernel_rfl) rfl (fun K hK => ?srab2)
        go_simp
        refine (intRR_any 0 _ (by decide) (by decide)).mono ?_
        rintro e w5 ⟨rv, rfl, qv, hb5⟩
        have Q5 := Lib.hid qv
        obtain ⟨m5, f1, l1, j1, f2, l2, j2, rfl⟩ := qv.shape
        clear qv
        go_simp
        have hb5w : Below w1.heap.size w1 w5 := (Below.refl _ w1).drew.trans hb5
        have hk5 : Kept r w1 w5 := (Kept.refl r w1).below hb5w
        refine hK.out _ _ (fun _ => mkS _ hk5) (fun hHeld2 => ?mrab2)
        clear hK K hHeld
        have hHeld := hHeld2 (by decide)
        clear hHeld2
        try simp only [Act.put, List.setIfInBounds_toArray, List.set_cons_zero, List.set_cons_succ]
        refine wpAnyL_one (i := 3) (by kernel_rfl) rfl (fun K hK => ?srab3)
        go_simp
        refine hK.out _ _ (fun _ => mkS _ (hk5.alloc _)) (fun hHeld2 => ?mrab3)
        clear hK K hHeld
        have hHeld := hHeld2 (by decide)
        clear hHeld2
        try simp only [Act.put, List.setIfInBounds_toArray, List.set_cons_zero, List.set_cons_succ]
        refine wpAnyL_one (i := 4) (by kernel_rfl) rfl (fun K hK => ?srab4)
        have hB5 : Below w.heap.size w w5 := hb.trans (hb5w.mono hsz1)
        have hown5 : OwnE w.heap.size 56 w5 v es := hown.later hb5w
        have hall5 : AllE (fun v x => ResA w.heap.size w w5 v x (n + 6)) es (LR.take k) := hall.imp fun u x _ h => h.later hb5w
        have hsz5 := hB5.size
        refine step_append_ownT rfl _ _ 34 rfl w.heap.size 56 i0 _ 3 56 Tryz.underlying34 hi hz0 hz1 hz2 rfl (by decide) _ es.length (flat3 es) rfl (hown5.later ((Below.refl _ _).alloc (Nat.le_refl _) _)) ⟨w5.heap.size, 0, none⟩ 1 1 [.bool m5, .slice f1 l1 j1, .slice f2 l2 j2] rfl rfl (cell_three_new _ _ _ _ _) (by simp [Value.oneCell']) (by unfold maxLen; omega) (by omega) (by simp; omega) ?_
        intro v' w6 hown' hgrow _
        obtain ⟨av, cv, rfl⟩ := ownT_slice hown'
        have hk6 : Kept r w1 w6 := (hk5.alloc _).grown hgrow hrv
        refine hK.out _ _ (fun _ => mkS _ hk6) (fun hHeld2 => ?mrab4)
        clear hK K hHeld
        have hHeld := hHeld2 (by decide)
        clear hHeld2
        try simp only [Act.put, List.setIfInBounds_toArray, List.set_cons_zero, List.set_cons_succ]
        refine wpAnyL_take (i := 5) (v := ?vraa5) rfl (by kernel_rfl) (by kernel_rfl) (by kernel_rfl) (by kernel_rfl) (fun _ _ _ h => h) (Or.inl ⟨by rfl, ?hraa5⟩) (by assumption) ?rraa5
        case hraa5 =>
          intro w hSw
          try dsimp only at hSw
          go_simp
          try with_reducible rfl
        try simp only [Act.put, List.setIfInBounds_toArray, List.set_cons_zero, List.set_cons_succ]
        have RG6 := rg.kept hk6 ng
        have f21 := RG6.free 1
        have d21 := RG6.cell 1
        refine wpAnyL_one (i := 6) (by kernel_rfl) rfl (fun K hK => ?srab6)
        go_simp
        refine hK.out _ _ (fun h => absurd rfl h) (fun _ => ?mrab6)
        clear hK K
        try simp only [Act.put, List.setIfInBounds_toArray, List.set_cons_zero, List.set_cons_succ]
        refine wpAnyL_done (by kernel_rfl) ?_ _
        go_wp2
        go_roundw
        case rel =>
          have hx5 : ResA w.heap.size w w5 (E3.agg ⟨.bool m5, .slice f1 l1 j1, .slice f2 l2 j2⟩) (intQ 0) (n + 6) := .inl ((Q5.out.mono (by show w.heap.size ≤ w1.heap.size; exact hsz1)).more (by omega))
          obtain ⟨hrow6, hb6⟩ := pushE2 (P := (fun W v x => ResA w.heap.size w W v x (n + 6))) (e := ⟨.bool m5, .slice f1 l1 j1, .slice f2 l2 j2⟩) hB5 (Nat.le_refl _) hsz5 hown5 hall5 hx5 (fun u y h => ResA.apart hown5 hgrow (by decide) h) hown' hgrow
          rw [hle] at hrow6
          have rs6 : ResS w.heap.size w6 (.slice a3 s.length c3) s := ResS.apart hown5 hgrow (by decide) (rs.later hb5w)
          have hnext : LR.take (k + 1) = LR.take k ++ [intQ 0] := take_nextL (by rw [← HLR.out, List.getElem?_map, hqk]; simp only [Option.map_some, Option.some.injEq]; exact HVAL.out)
          refine ⟨k + 1, _, by go_num, by omega, (r0.kept hk6 n0).far (by show w.heap.size ≠ g; omega) _, (r1.kept hk6 n1).far (by show w.heap.size + 1 ≠ g; omega) _, RG6.set21 _, rs6.far RG6 (by decide) (kept1 _), ?_, hb6.setCell (by show w.heap.size ≤ g; omega) _⟩
          rw [hnext]
          exact hrow6.far RG6 (by decide) (kept1 _) (fun u y h => h.far RG6 (by decide) (kept1 _))
        case measure => simp [intOf]; omega
      · have hv : reluR q = q := by unfold reluR; rw [hσ, if_neg hneg]
        have HVAL := Lib.hid hv
        clear hv hσ
        go_wp2_with fail
        refine hsign.mono ?_
        rintro e w1 ⟨rfl, hb1⟩
        replace r0 := r0.later hb1
        replace r1 := r1.later hb1
        replace rg := rg.later hb1
        replace rs := rs.later hb1
        replace hown := hown.later hb1
        replace hall := hall.imp (Q := fun v x => ResA w.heap.size w w1 v x (n + 6)) fun u x _ h => h.later hb1
        replace e0 := (hb1.cell (World.block_lt_of_cell? _ _ e0)).trans e0
        replace e1 := (hb1.cell (World.block_lt_of_cell? _ _ e1)).trans e1
        replace e2 := (hb1.cell (World.block_lt_of_cell? _ _ e2)).trans e2
        replace hb := hb.trans (hb1.mono hsz)
        have hsz1 := hb.size
        have c01 := r0.cell 1
        have cg1 := rg.cell 1
        obtain ⟨r, hrv, hrb, hrne⟩ := hown.hits hsz1
        have n0 := hrne _ _ _ r0 (by decide)
        have n1 := hrne _ _ _ r1 (by decide)
        have ng := hrne _ _ _ rg (by decide)
        have mkS : ∀ X, Kept r w1 X → X.cell? ⟨g, 1, none⟩ = some v ∧ X.cell? ⟨w.heap.size, 1, none⟩ = some (.slice (some ⟨bb, o, none⟩) L1.length cb) ∧ X.cell? ⟨bb, o + k * 3, none⟩ = some (.bool y0) ∧ X.cell? ⟨bb, o + k * 3 + 1, none⟩ = some (.slice y1 z1 t1) ∧ X.cell? ⟨bb, o + k * 3 + 2, none⟩ = some (.slice y2 z2 t2) ∧ Kept r w1 X := fun X h => ⟨h.cell cg1 ng, h.cell c01 n0, h.cell e0 (by show bb ≠ r; omega), h.cell e1 (by show bb ≠ r; omega), h.cell e2 (by show bb ≠ r; omega), h⟩
        have hS0 := mkS w1.drew ((Kept.refl r w1).drew)
        go_wp2_with fail
        refine wp_region_L (S := fun X => X.cell? ⟨g, 1, none⟩ = some v ∧ X.cell? ⟨w.heap.size, 1, none⟩ = some (.slice (some ⟨bb, o, none⟩) L1.length cb) ∧ X.cell? ⟨bb, o + k * 3, none⟩ = some (.bool y0) ∧ X.cell? ⟨bb, o + k * 3 + 1, none⟩ = some (.slice y1 z1 t1) ∧ X.cell? ⟨bb, o + k * 3 + 2, none⟩ = some (.slice y2 z2 t2) ∧ Kept r w1 X) (z := 10) (by kernel_rfl) hS0 (fun hHeld => ?_)
        refine todo [0, 1, 2, 3, 4, 5, 6] ?_
        iterate 7
         refine todoL (v := ?_) rfl (by kernel_rfl) (fun _ _ _ h => h) (by assumption) (Or.inl ⟨by rfl, ?_⟩) ?_
         rotate_left
         · intro w hSw; (try dsimp only at hSw); go_simp; (try with_reducible rfl)
         try simp only [Act.put, List.getElem_toArray, List.getElem_cons_succ, List.getElem_cons_zero, List.setIfInBounds_toArray, List.set_cons_zero, List.set_cons_succ]
        refine todone ?_
        obtain ⟨w5, hw5⟩ : ∃ Y, w1.drew = Y := ⟨_, rfl⟩
        have hb5w : Below w1.heap.size w1 w5 := by rw [← hw5]; exact (Below.refl _ w1).drew
        have hk5 : Kept r w1 w5 := (Kept.refl r w1).below hb5w
        rw [hw5] at hHeld ⊢
        clear hw5
        refine wpAnyL_one (i := 7) (by kernel_rfl) rfl (fun K hK => ?srbb7)
        go_simp
        refine hK.out _ _ (fun _ => mkS _ (hk5.alloc _)) (fun hHeld2 => ?mrbb7)
        clear hK K hHeld
        have hHeld := hHeld2 (by decide)
        clear hHeld2
        try simp only [Act.put, List.setIfInBounds_toArray, List.set_cons_zero, List.set_cons_succ]
        refine wpAnyL_one (i := 8) (by kernel_rfl) rfl (fun K hK => ?srbb8)
        have hB5 : Below w.heap.size w w5 := hb.trans (hb5w.mono hsz1)
        have hown5 : OwnE w.heap.size 56 w5 v es := hown.later hb5w
        have hall5 : AllE (fun v x => ResA w.heap.size w w5 v x (n + 6)) es (LR.take k) := hall.imp fun u x _ h => h.later hb5w
        have hsz5 := hB5.size
        refine step_append_ownT rfl _ _ 34 rfl w.heap.size 56 i0 _ 3 56 Tryz.underlying34 hi hz0 hz1 hz2 rfl (by decide) _ es.length (flat3 es) rfl (hown5.later ((Below.refl _ _).alloc (Nat.le_refl _) _)) ⟨w5.heap.size, 0, none⟩ 1 1 [.bool y0, .slice y1 z1 t1, .slice y2 z2 t2] rfl rfl (cell_three_new _ _ _ _ _) (by simp [Value.oneCell']) (by unfold maxLen; omega) (by omega) (by simp; omega) ?_
        intro v' w6 hown' hgrow _
        obtain ⟨av, cv, rfl⟩ := ownT_slice hown'
        have hk6 : Kept r w1 w6 := (hk5.alloc _).grown hgrow hrv
        refine hK.out _ _ (fun _ => mkS _ hk6) (fun hHeld2 => ?mrbb8)
        clear hK K hHeld
        have hHeld := hHeld2 (by decide)
        clear hHeld2
        try simp only [Act.put, List.setIfInBounds_toArray, List.set_cons_zero, List.set_cons_succ]
        refine wpAnyL_take (i := 9) (v := ?vrba9) rfl (by kernel_rfl) (by kernel_rfl) (by kernel_rfl) (by kernel_rfl) (fun _ _ _ h => h) (Or.inl ⟨by rfl, ?hrba9⟩) (by assumption) ?rrba9
        case hrba9 =>
          intro w hSw
          try dsimp only at hSw
          go_simp
          try with_reducible rfl
        try simp only [Act.put, List.setIfInBounds_toArray, List.set_cons_zero, List.set_cons_succ]
        have RG6 := rg.kept hk6 ng
        have f21 := RG6.free 1
        have d21 := RG6.cell 1
        refine wpAnyL_one (i := 10) (by kernel_rfl) rfl (fun K hK => ?srbb10)
        go_simp
        refine hK.out _ _ (fun h => absurd rfl h) (fun _ => ?mrbb10)
        clear hK K
        try simp only [Act.put, List.setIfInBounds_toArray, List.set_cons_zero, List.set_cons_succ]
        refine wpAnyL_done (by kernel_rfl) ?_ _
        go_wp2
        go_roundw
        case rel =>
          have hx5 : ResA w.heap.size w w5 (E3.agg ⟨.bool y0, .slice y1 z1 t1, .slice y2 z2 t2⟩) (q) (n + 6) := .inr (hraw0.more (by omega))
          obtain ⟨hrow6, hb6⟩ := pushE2 (P := (fun W v x => ResA w.heap.size w W v x (n + 6))) (e := ⟨.bool y0, .slice y1 z1 t1, .slice y2 z2 t2⟩) hB5 (Nat.le_refl _) hsz5 hown5 hall5 hx5 (fun u y h => ResA.apart hown5 hgrow (by decide) h) hown' hgrow
          rw [hle] at hrow6
          have rs6 : ResS w.heap.size w6 (.slice a3 s.length c3) s := ResS.apart hown5 hgrow (by decide) (rs.later hb5w)
          have hnext : LR.take (k + 1) = LR.take k ++ [q] := take_nextL (by rw [← HLR.out, List.getElem?_map, hqk]; simp only [Option.map_some, Option.some.injEq]; exact HVAL.out)
          refine ⟨k + 1, _, by go_num, by omega, (r0.kept hk6 n0).far (by show w.heap.size ≠ g; omega) _, (r1.kept hk6 n1).far (by show w.heap.size + 1 ≠ g; omega) _, RG6.set21 _, rs6.far RG6 (by decide) (kept1 _), ?_, hb6.setCell (by show w.heap.size ≤ g; omega) _⟩
          rw [hnext]
          exact hrow6.far RG6 (by decide) (kept1 _) (fun u y h => h.far RG6 (by decide) (kept1 _))
        case measure => simp [intOf]; omega
    · obtain rfl : k = L1.length := by omega
      have hltI : ¬ (L1.length : Int) < (L1.length : Int) := by omega
      rw [List.take_of_length_le (by have h := HRES.out; omega)] at hall
      obtain ⟨av, cv, rfl⟩ := ownT_slice hown
      have hel : es.length = L1.length := hle
      rw [hel] at rg hown
      have c20 := rg.cell 0
      have d21 := rg.cell 1
      obtain ⟨g10, g11, f10, f11⟩ := r1.two
      have RRs := r1.set2 (.slice a3 s.length c3) (.slice av L1.length cv)
      obtain ⟨z0, z1, _, _⟩ := RRs.two
      have HOWN := Lib.hid hown
      have HALL := Lib.hid hall
      have HRR := Lib.hid r1
      clear hown hall hle RRs r1
      go_wp2
      have hbE := below_set2 hb (show w.heap.size ≤ w.heap.size + 1 by omega) (.slice a3 s.length c3) (.slice av L1.length cv)
      have hsE : ResS w.heap.size _ (.slice a3 s.length c3) s := rs.far HRR.out (by decide) (kept2 (.slice a3 s.length c3) (.slice av L1.length cv))
      have hrE := RowO.far (P := (fun W v x => ResA w.heap.size w W v x (n + 6))) ⟨es, HOWN.out, HALL.out⟩ HRR.out (by decide) (kept2 (.slice a3 s.length c3) (.slice av L1.length cv)) (fun u y h => h.far HRR.out (by decide) (kept2 _ _))
      exact bodyPost_ret (v := .agg #[.slice a3 s.length c3, .slice av L1.length cv]) (by simp [results, Tryz.results29, go_sem, z0, z1]) rfl ⟨_, rfl, tenR_of HRES.out.symm hbE hsE hrE, hbE⟩
set_option maxRecDepth 100000 in
set_option maxHeartbeats 8000000 in
theorem stepT_any {n : Nat} {w : World} {v : Value} {s : List Int} {L1 : List Rat} {a b : Option Addr} {ca cb : Nat} (T : TensR w v s L1 n a ca b cb) (hs : s.length ≤ 17592186044416) (hq : L1.length ≤ 1000000) (hn : n ≤ 1000000) :
    Calls Tryz.prog 30 #[v] w fun e w' => ∃ r, e = .returned r ∧ TenR w' r s (L1.map stepR) (n + 6) ∧ Below w.heap.size w w' := by
  obtain ⟨i0, hi, hz0, hz1, hz2⟩ := info_parts infoR
  have HT := Lib.hid T
  obtain rfl := T.is
  have hres : (L1.map stepR).length = L1.length := by simp
  obtain ⟨LR, hLR⟩ : ∃ LR, L1.map stepR = LR := ⟨_, rfl⟩
  rw [hLR] at hres ⊢
  have HLR := Lib.hid hLR
  have HRES := Lib.hid hres
  clear hLR hres
  obtain ⟨W, hW⟩ : ∃ W, ((w.alloc (.cells #[.slice a s.length ca, .slice b L1.length cb] 36)).alloc (.cells #[.slice none 0 0, .slice none 0 0] 36)) = W := ⟨_, rfl⟩
  have R0 : Row W (w.heap.size) 36 #[.slice a s.length ca, .slice b L1.length cb] := by rw [← hW]; have h := Row.new w 36 #[.slice a s.length ca, .slice b L1.length cb]; (try simp only [World.size_alloc] at h); exact (h.alloc _)
  have R1 : Row W (w.heap.size + 1) 36 #[.slice none 0 0, .slice none 0 0] := by rw [← hW]; have h := Row.new (w.alloc (.cells #[.slice a s.length ca, .slice b L1.length cb] 36)) 36 #[.slice none 0 0, .slice none 0 0]; (try simp only [World.size_alloc] at h); exact h
  have hBW : Below w.heap.size w W := by rw [← hW]; exact (((Below.refl _ _).alloc (by (try simp) <;> omega) _).alloc (by (try simp) <;> omega) _)
  have hsW : W.heap.size = w.heap.size + 1 + 1 := by rw [← hW]; simp
  have hshp := shapedR_any (HT.out.later hBW) hs
  obtain ⟨p0, p1, _, _⟩ := R0.two
  clear T
  go_enter Tryz.func30, Tryz.ntmps30
  (try rw [hW])
  go_wp2_with fail
  refine hshp.mono ?_
  rintro e w3 ⟨a3, c3, rfl, R3', hb3⟩
  go_wp2_with fail
  have hs3 := hb3.size
  have hB3 : Below w.heap.size w w3 := hBW.trans (hb3.mono (by omega))
  have hB4 : Below w.heap.size w (w3.alloc (.cells #[.slice a3 s.length c3, .slice none 0 0] 36)) := hB3.alloc (by omega) _
  have r0 := (R0.later hb3).alloc (.cells #[.slice a3 s.length c3, .slice none 0 0] 36)
  have r1 := (R1.later hb3).alloc (.cells #[.slice a3 s.length c3, .slice none 0 0] 36)
  have rg := Row.new w3 36 #[.slice a3 s.length c3, .slice none 0 0]
  have rs : ResS w.heap.size (w3.alloc (.cells #[.slice a3 s.length c3, .slice none 0 0] 36)) (.slice a3 s.length c3) s := (R3'.mono (by omega)).later ((Below.refl _ _).alloc (Nat.le_refl _) _)
  obtain ⟨g, hg⟩ : ∃ g, w3.heap.size = g := ⟨_, rfl⟩
  have hg2 : w.heap.size + 1 + 1 ≤ g := by omega
  rw [hg] at rg ⊢
  generalize w3.alloc (.cells #[.slice a3 s.length c3, .slice none 0 0] 36) = W4 at *
  have H0 := Lib.hid r0
  have H1 := Lib.hid r1
  have HG := Lib.hid rg
  have HS := Lib.hid rs
  have HB4 := Lib.hid hB4
  clear rg rs hB4 hB3 hb3 hs3 R3' hshp p0 p1 hsW hg hW hBW r0 R0 r1 R1
  go_loopw [4] (fun i wr => ∃ (k : Nat) (v : Value), i = .int .i64 (k : Int) ∧ k ≤ L1.length ∧ Row wr w.heap.size 36 #[.slice a s.length ca, .slice b L1.length cb] ∧ Row wr (w.heap.size + 1) 36 #[.slice none 0 0, .slice none 0 0] ∧
    Row wr g 36 #[.slice a3 s.length c3, v] ∧ ResS w.heap.size wr (.slice a3 s.length c3) s ∧ RowO w.heap.size 56 (fun W v x => ResA w.heap.size w W v x (n + 6)) wr v (LR.take k) ∧ Below w.heap.size w wr) (fun i _ => L1.length - (intOf i).toNat)
  case atStart => exact ⟨0, _, rfl, Nat.zero_le _, H0.out, H1.out, HG.out, HS.out, RowO.nil _ _ _ _, HB4.out⟩
  case round =>
    obtain ⟨k, v, rfl, hk, r0, r1, rg, rs, ⟨es, hown, hall⟩, hb⟩ := hrel
    have hsz := hb.size
    have c01 := r0.cell 1
    have hle : es.length = k := by have h := HRES.out; rw [hall.1, List.length_take, h]; omega
    by_cases hlt : k < L1.length
    · obtain ⟨bb, o, x0, x1, x2, q, hbo, hqk, e0', e1', e2', hraw0⟩ := HT.out.el.at hlt
      have hb0 : bb < w.heap.size := World.block_lt_of_cell? _ _ e0'
      subst hbo
      obtain ⟨y0, y1, z1, t1, y2, z2, t2, hxx⟩ := hraw0.shape
      simp only [Value.agg.injEq, Array.mk.injEq, List.cons.injEq, and_true] at hxx
      obtain ⟨rfl, rfl, rfl⟩ := hxx
      have e0 := (hb.cell (World.block_lt_of_cell? _ _ e0')).trans e0'
      have e1 := (hb.cell (World.block_lt_of_cell? _ _ e1')).trans e1'
      have e2 := (hb.cell (World.block_lt_of_cell? _ _ e2')).trans e2'
      have hsign := signR_any (hraw0.later hb)
      obtain ⟨σ, hσ⟩ : ∃ σ, sgR q = σ := ⟨_, rfl⟩
      rw [hσ] at hsign
      have hltI : (k : Int) < (L1.length : Int) := by omega
      clear e0' e1' e2'
      by_cases hpos : 0 < σ
      · have hgt : σ > 0 := hpos
        have hv : stepR q = intQ 1 := by unfold stepR; rw [hσ, if_pos hpos, intQ_one]
        have HVAL := Lib.hid hv
        clear hv hσ
        go_wp2_with fail
        refine hsign.mono ?_
        rintro e w1 ⟨rfl, hb1⟩
        replace r0 := r0.later hb1
        replace r1 := r1.later hb1
        replace rg := rg.later hb1
        replace rs := rs.later hb1
        replace hown := hown.later hb1
        replace hall := hall.imp (Q := fun v x => ResA w.heap.size w w1 v x (n + 6)) fun u x _ h => h.later hb1
        replace e0 := (hb1.cell (World.block_lt_of_cell? _ _ e0)).trans e0
        replace e1 := (hb1.cell (World.block_lt_of_cell? _ _ e1)).trans e1
        replace e2 := (hb1.cell (World.block_lt_of_cell? _ _ e2)).trans e2
        replace hb := hb.trans (hb1.mono hsz)
        have hsz1 := hb.size
        have c01 := r0.cell 1
        have cg1 := rg.cell 1
        obtain ⟨r, hrv, hrb, hrne⟩ := hown.hits hsz1
        have n0 := hrne _ _ _ r0 (by decide)
        have n1 := hrne _ _ _ r1 (by decide)
        have ng := hrne _ _ _ rg (by decide)
        have mkS : ∀ X, Kept r w1 X → X.cell? ⟨g, 1, none⟩ = some v ∧ X.cell? ⟨w.heap.size, 1, none⟩ = some (.slice (some ⟨bb, o, none⟩) L1.length cb) ∧ X.cell? ⟨bb, o + k * 3, none⟩ = some (.bool y0) ∧ X.cell? ⟨bb, o + k * 3 + 1, none⟩ = some (.slice y1 z1 t1) ∧ X.cell? ⟨bb, o + k * 3 + 2, none⟩ = some (.slice y2 z2 t2) ∧ Kept r w1 X := fun X h => ⟨h.cell cg1 ng, h.cell c01 n0, h.cell e0 (by show bb ≠ r; omega), h.cell e1 (by show bb ≠ r; omega), h.cell e2 (by show bb ≠ r; omega), h⟩
        have hS0 := mkS w1.drew ((Kept.refl r w1).drew)
        go_wp2_with fail
        refine wp_region_L (S := fun X => X.cell? ⟨g, 1, none⟩ = some v ∧ X.cell? ⟨w.heap.size, 1, none⟩ = some (.slice (some ⟨bb, o, none⟩) L1.length cb) ∧ X.cell? ⟨bb, o + k * 3, none⟩ = some (.bool y0) ∧ X.cell? ⟨bb, o + k * 3 + 1, none⟩ = some (.slice y1 z1 t1) ∧ X.cell? ⟨bb, o + k * 3 + 2, none⟩ = some (.slice y2 z2 t2) ∧ Kept r w1 X) (z := 6) (by kernel_rfl) hS0 (fun hHeld => ?_)
        refine todo [0, 1] ?_
        iterate 2
         refine todoL (v := ?_) rfl (by kernel_rfl) (fun _ _ _ h => h) (by assumption) (Or.inl ⟨by rfl, ?_⟩) ?_
         rotate_left
         · intro w hSw; (try dsimp only at hSw); go_simp; (try with_reducible rfl)
         try simp only [Act.put, List.getElem_toArray, List.getElem_cons_succ, List.getElem_cons_zero, List.setIfInBounds_toArray, List.set_cons_zero, List.set_cons_succ]
        refine todone ?_
        refine wpAnyL_one (i := 2) (by kernel_rfl) rfl (fun K hK => ?ssab2)
        go_simp
        refine (intRR_any 1 _ (by decide) (by decide)).mono ?_
        rintro e w5 ⟨rv, rfl, qv, hb5⟩
        have Q5 := Lib.hid qv
        obtain ⟨m5, f1, l1, j1, f2, l2, j2, rfl⟩ := qv.shape
        clear qv
        go_simp
        have hb5w : Below w1.heap.size w1 w5 := (Below.refl _ w1).drew.trans hb5
        have hk5 : Kept r w1 w5 := (Kept.refl r w1).below hb5w
        refine hK.out _ _ (fun _ => mkS _ hk5) (fun hHeld2 => ?msab2)
        clear hK K hHeld
        have hHeld := hHeld2 (by decide)
        clear hHeld2
        try simp only [Act.put, List.setIfInBounds_toArray, List.set_cons_zero, List.set_cons_succ]
        refine wpAnyL_one (i := 3) (by kernel_rfl) rfl (fun K hK => ?ssab3)
        go_simp
        refine hK.out _ _ (fun _ => mkS _ (hk5.alloc _)) (fun hHeld2 => ?msab3)
        clear hK K hHeld
        have hHeld := hHeld2 (by decide)
        clear hHeld2
        try simp only [Act.put, List.setIfInBounds_toArray, List.set_cons_zero, List.set_cons_succ]
        refine wpAnyL_one (i := 4) (by kernel_rfl) rfl (fun K hK => ?ssab4)
        have hB5 : Below w.heap.size w w5 := hb.trans (hb5w.mono hsz1)
        have hown5 : OwnE w.heap.size 56 w5 v es := hown.later hb5w
        have hall5 : AllE (fun v x => ResA w.heap.size w w5 v x (n + 6)) es (LR.take k) := hall.imp fun u x _ h => h.later hb5w
        have hsz5 := hB5.size
        refine step_append_ownT rfl _ _ 34 rfl w.heap.size 56 i0 _ 3 56 Tryz.underlying34 hi hz0 hz1 hz2 rfl (by decide) _ es.length (flat3 es) rfl (hown5.later ((Below.refl _ _).alloc (Nat.le_refl _) _)) ⟨w5.heap.size, 0, none⟩ 1 1 [.bool m5, .slice f1 l1 j1, .slice f2 l2 j2] rfl rfl (cell_three_new _ _ _ _ _) (by simp [Value.oneCell']) (by unfold maxLen; omega) (by omega) (by simp; omega) ?_
        intro v' w6 hown' hgrow _
        obtain ⟨av, cv, rfl⟩ := ownT_slice hown'
        have hk6 : Kept r w1 w6 := (hk5.alloc _).grown hgrow hrv
        refine hK.out _ _ (fun _ => mkS _ hk6) (fun hHeld2 => ?msab4)
        clear hK K hHeld
        have hHeld := hHeld2 (by decide)
        clear hHeld2
        try simp only [Act.put, List.setIfInBounds_toArray, List.set_cons_zero, List.set_cons_succ]
        refine wpAnyL_take (i := 5) (v := ?vsaa5) rfl (by kernel_rfl) (by kernel_rfl) (by kernel_rfl) (by kernel_rfl) (fun _ _ _ h => h) (Or.inl ⟨by rfl, ?hsaa5⟩) (by assumption) ?rsaa5
        case hsaa5 =>
          intro w hSw
          try dsimp only at hSw
          go_simp
          try with_reducible rfl
        try simp only [Act.put, List.setIfInBounds_toArray, List.set_cons_zero, List.set_cons_succ]
        have RG6 := rg.kept hk6 ng
        have f21 := RG6.free 1
        have d21 := RG6.cell 1
        refine wpAnyL_one (i := 6) (by kernel_rfl) rfl (fun K hK => ?ssab6)
        go_simp
        refine hK.out _ _ (fun h => absurd rfl h) (fun _ => ?msab6)
        clear hK K
        try simp only [Act.put, List.setIfInBounds_toArray, List.set_cons_zero, List.set_cons_succ]
        refine wpAnyL_done (by kernel_rfl) ?_ _
        go_wp2
        go_roundw
        case rel =>
          have hx5 : ResA w.heap.size w w5 (E3.agg ⟨.bool m5, .slice f1 l1 j1, .slice f2 l2 j2⟩) (intQ 1) (n + 6) := .inl ((Q5.out.mono (by show w.heap.size ≤ w1.heap.size; exact hsz1)).more (by omega))
          obtain ⟨hrow6, hb6⟩ := pushE2 (P := (fun W v x => ResA w.heap.size w W v x (n + 6))) (e := ⟨.bool m5, .slice f1 l1 j1, .slice f2 l2 j2⟩) hB5 (Nat.le_refl _) hsz5 hown5 hall5 hx5 (fun u y h => ResA.apart hown5 hgrow (by decide) h) hown' hgrow
          rw [hle] at hrow6
          have rs6 : ResS w.heap.size w6 (.slice a3 s.length c3) s := ResS.apart hown5 hgrow (by decide) (rs.later hb5w)
          have hnext : LR.take (k + 1) = LR.take k ++ [intQ 1] := take_nextL (by rw [← HLR.out, List.getElem?_map, hqk]; simp only [Option.map_some, Option.some.injEq]; exact HVAL.out)
          refine ⟨k + 1, _, by go_num, by omega, (r0.kept hk6 n0).far (by show w.heap.size ≠ g; omega) _, (r1.kept hk6 n1).far (by show w.heap.size + 1 ≠ g; omega) _, RG6.set21 _, rs6.far RG6 (by decide) (kept1 _), ?_, hb6.setCell (by show w.heap.size ≤ g; omega) _⟩
          rw [hnext]
          exact hrow6.far RG6 (by decide) (kept1 _) (fun u y h => h.far RG6 (by decide) (kept1 _))
        case measure => simp [intOf]; omega
      · have hgt : ¬ σ > 0 := hpos
        have hv : stepR q = intQ 0 := by unfold stepR; rw [hσ, if_neg hpos, intQ_zero]
        have HVAL := Lib.hid hv
        clear hv hσ
        go_wp2_with fail
        refine hsign.mono ?_
        rintro e w1 ⟨rfl, hb1⟩
        replace r0 := r0.later hb1
        replace r1 := r1.later hb1
        replace rg := rg.later hb1
        replace rs := rs.later hb1
        replace hown := hown.later hb1
        replace hall := hall.imp (Q := fun v x => ResA w.heap.size w w1 v x (n + 6)) fun u x _ h => h.later hb1
        replace e0 := (hb1.cell (World.block_lt_of_cell? _ _ e0)).trans e0
        replace e1 := (hb1.cell (World.block_lt_of_cell? _ _ e1)).trans e1
        replace e2 := (hb1.cell (World.block_lt_of_cell? _ _ e2)).trans e2
        replace hb := hb.trans (hb1.mono hsz)
        have hsz1 := hb.size
        have c01 := r0.cell 1
        have cg1 := rg.cell 1
        obtain ⟨r, hrv, hrb, hrne⟩ := hown.hits hsz1
        have n0 := hrne _ _ _ r0 (by decide)
        have n1 := hrne _ _ _ r1 (by decide)
        have ng := hrne _ _ _ rg (by decide)
        have mkS : ∀ X, Kept r w1 X → X.cell? ⟨g, 1, none⟩ = some v ∧ X.cell? ⟨w.heap.size, 1, none⟩ = some (.slice (some ⟨bb, o, none⟩) L1.length cb) ∧ X.cell? ⟨bb, o + k * 3, none⟩ = some (.bool y0) ∧ X.cell? ⟨bb, o + k * 3 + 1, none⟩ = some (.slice y1 z1 t1) ∧ X.cell? ⟨bb, o + k * 3 + 2, none⟩ = some (.slice y2 z2 t2) ∧ Kept r w1 X := fun X h => ⟨h.cell cg1 ng, h.cell c01 n0, h.cell e0 (by show bb ≠ r; omega), h.cell e1 (by show bb ≠ r; omega), h.cell e2 (by show bb ≠ r; omega), h⟩
        have hS0 := mkS w1.drew ((Kept.refl r w1).drew)
        go_wp2_with fail
        refine wp_region_L (S := fun X => X.cell? ⟨g, 1, none⟩ = some v ∧ X.cell? ⟨w.heap.size, 1, none⟩ = some (.slice (some ⟨bb, o, none⟩) L1.length cb) ∧ X.cell? ⟨bb, o + k * 3, none⟩ = some (.bool y0) ∧ X.cell? ⟨bb, o + k * 3 + 1, none⟩ = some (.slice y1 z1 t1) ∧ X.cell? ⟨bb, o + k * 3 + 2, none⟩ = some (.slice y2 z2 t2) ∧ Kept r w1 X) (z := 6) (by kernel_rfl) hS0 (fun hHeld => ?_)
        refine todo [0, 1] ?_
        iterate 2
         refine todoL (v := ?_) rfl (by kernel_rfl) (fun _ _ _ h => h) (by assumption) (Or.inl ⟨by rfl, ?_⟩) ?_
         rotate_left
         · intro w hSw; (try dsimp only at hSw); go_simp; (try with_reducible rfl)
         try simp only [Act.put, List.getElem_toArray, List.getElem_cons_succ, List.getElem_cons_zero, List.setIfInBounds_toArray, List.set_cons_zero, List.set_cons_succ]
        refine todone ?_
        refine wpAnyL_one (i := 2) (by kernel_rfl) rfl (fun K hK => ?ssbb2)
        go_simp
        refine (intRR_any 0 _ (by decide) (by decide)).mono ?_
        rintro e w5 ⟨rv, rfl, qv, hb5⟩
        have Q5 := Lib.hid qv
        obtain ⟨m5, f1, l1, j1, f2, l2, j2, rfl⟩ := qv.shape
        clear qv
        go_simp
        have hb5w : Below w1.heap.size w1 w5 := (Below.refl _ w1).drew.trans hb5
        have hk5 : Kept r w1 w5 := (Kept.refl r w1).below hb5w
        refine hK.out _ _ (fun _ => mkS _ hk5) (fun hHeld2 => ?msbb2)
        clear hK K hHeld
        have hHeld := hHeld2 (by decide)
        clear hHeld2
        try simp only [Act.put, List.setIfInBounds_toArray, List.set_cons_zero, List.set_cons_succ]
        refine wpAnyL_one (i := 3) (by kernel_rfl) rfl (fun K hK => ?ssbb3)
        go_simp
        refine hK.out _ _ (fun _ => mkS _ (hk5.alloc _)) (fun hHeld2 => ?msbb3)
        clear hK K hHeld
        have hHeld := hHeld2 (by decide)
        clear hHeld2
        try simp only [Act.put, List.setIfInBounds_toArray, List.set_cons_zero, List.set_cons_succ]
        refine wpAnyL_one (i := 4) (by kernel_rfl) rfl (fun K hK => ?ssbb4)
        have hB5 : Below w.heap.size w w5 := hb.trans (hb5w.mono hsz1)
        have hown5 : OwnE w.heap.size 56 w5 v es := hown.later hb5w
        have hall5 : AllE (fun v x => ResA w.heap.size w w5 v x (n + 6)) es (LR.take k) := hall.imp fun u x _ h => h.later hb5w
        have hsz5 := hB5.size
        refine step_append_ownT rfl _ _ 34 rfl w.heap.size 56 i0 _ 3 56 Tryz.underlying34 hi hz0 hz1 hz2 rfl (by decide) _ es.length (flat3 es) rfl (hown5.later ((Below.refl _ _).alloc (Nat.le_refl _) _)) ⟨w5.heap.size, 0, none⟩ 1 1 [.bool m5, .slice f1 l1 j1, .slice f2 l2 j2] rfl rfl (cell_three_new _ _ _ _ _) (by simp [Value.oneCell']) (by unfold maxLen; omega) (by omega) (by simp; omega) ?_
        intro v' w6 hown' hgrow _
        obtain ⟨av, cv, rfl⟩ := ownT_slice hown'
        have hk6 : Kept r w1 w6 := (hk5.alloc _).grown hgrow hrv
        refine hK.out _ _ (fun _ => mkS _ hk6) (fun hHeld2 => ?msbb4)
        clear hK K hHeld
        have hHeld := hHeld2 (by decide)
        clear hHeld2
        try simp only [Act.put, List.setIfInBounds_toArray, List.set_cons_zero, List.set_cons_succ]
        refine wpAnyL_take (i := 5) (v := ?vsba5) rfl (by kernel_rfl) (by kernel_rfl) (by kernel_rfl) (by kernel_rfl) (fun _ _ _ h => h) (Or.inl ⟨by rfl, ?hsba5⟩) (by assumption) ?rsba5
        case hsba5 =>
          intro w hSw
          try dsimp only at hSw
          go_simp
          try with_reducible rfl
        try simp only [Act.put, List.setIfInBounds_toArray, List.set_cons_zero, List.set_cons_succ]
        have RG6 := rg.kept hk6 ng
        have f21 := RG6.free 1
        have d21 := RG6.cell 1
        refine wpAnyL_one (i := 6) (by kernel_rfl) rfl (fun K hK => ?ssbb6)
        go_simp
        refine hK.out _ _ (fun h => absurd rfl h) (fun _ => ?msbb6)
        clear hK K
        try simp only [Act.put, List.setIfInBounds_toArray, List.set_cons_zero, List.set_cons_succ]
        refine wpAnyL_done (by kernel_rfl) ?_ _
        go_wp2
        go_roundw
        case rel =>
          have hx5 : ResA w.heap.size w w5 (E3.agg ⟨.bool m5, .slice f1 l1 j1, .slice f2 l2 j2⟩) (intQ 0) (n + 6) := .inl ((Q5.out.mono (by show w.heap.size ≤ w1.heap.size; exact hsz1)).more (by omega))
          obtain ⟨hrow6, hb6⟩ := pushE2 (P := (fun W v x => ResA w.heap.size w W v x (n + 6))) (e := ⟨.bool m5, .slice f1 l1 j1, .slice f2 l2 j2⟩) hB5 (Nat.le_refl _) hsz5 hown5 hall5 hx5 (fun u y h => ResA.apart hown5 hgrow (by decide) h) hown' hgrow
          rw [hle] at hrow6
          have rs6 : ResS w.heap.size w6 (.slice a3 s.length c3) s := ResS.apart hown5 hgrow (by decide) (rs.later hb5w)
          have hnext : LR.take (k + 1) = LR.take k ++ [intQ 0] := take_nextL (by rw [← HLR.out, List.getElem?_map, hqk]; simp only [Option.map_some, Option.some.injEq]; exact HVAL.out)
          refine ⟨k + 1, _, by go_num, by omega, (r0.kept hk6 n0).far (by show w.heap.size ≠ g; omega) _, (r1.kept hk6 n1).far (by show w.heap.size + 1 ≠ g; omega) _, RG6.set21 _, rs6.far RG6 (by decide) (kept1 _), ?_, hb6.setCell (by show w.heap.size ≤ g; omega) _⟩
          rw [hnext]
          exact hrow6.far RG6 (by decide) (kept1 _) (fun u y h => h.far RG6 (by decide) (kept1 _))
        case measure => simp [intOf]; omega
    · obtain rfl : k = L1.length := by omega
      have hltI : ¬ (L1.length : Int) < (L1.length : Int) := by omega
      rw [List.take_of_length_le (by have h := HRES.out; omega)] at hall
      obtain ⟨av, cv, rfl⟩ := ownT_slice hown
      have hel : es.length = L1.length := hle
      rw [hel] at rg hown
      have c20 := rg.cell 0
      have d21 := rg.cell 1
      obtain ⟨g10, g11, f10, f11⟩ := r1.two
      have RRs := r1.set2 (.slice a3 s.length c3) (.slice av L1.length cv)
      obtain ⟨z0, z1, _, _⟩ := RRs.two
      have HOWN := Lib.hid hown
      have HALL := Lib.hid hall
      have HRR := Lib.hid r1
      clear hown hall hle RRs r1
      go_wp2
      have hbE := below_set2 hb (show w.heap.size ≤ w.heap.size + 1 by omega) (.slice a3 s.length c3) (.slice av L1.length cv)
      have hsE : ResS w.heap.size _ (.slice a3 s.length c3) s := rs.far HRR.out (by decide) (kept2 (.slice a3 s.length c3) (.slice av L1.length cv))
      have hrE := RowO.far (P := (fun W v x => ResA w.heap.size w W v x (n + 6))) ⟨es, HOWN.out, HALL.out⟩ HRR.out (by decide) (kept2 (.slice a3 s.length c3) (.slice av L1.length cv)) (fun u y h => h.far HRR.out (by decide) (kept2 _ _))
      exact bodyPost_ret (v := .agg #[.slice a3 s.length c3, .slice av L1.length cv]) (by simp [results, Tryz.results30, go_sem, z0, z1]) rfl ⟨_, rfl, tenR_of HRES.out.symm hbE hsE hrE, hbE⟩
end Go.Proofs.YtjcacmnmbbnffaaGreat
