/-
  The reference of layer 8: Add. (Made by wip/gen/gen_pref.py.)
-/
import Derived.Test.YtjcacmnmbbnffaaGreatPRefA
namespace Go.Proofs.YtjcacmnmbbnffaaGreat
open Go.RowKit
set_option linter.unusedVariables false
set_option linter.unusedSimpArgs false

set_option maxRecDepth 100000 in
set_option maxHeartbeats 8000000 in
theorem addT_any {n : Nat} {w : World} {v u : Value} {s s2 : List Int} {L1 L2 : List Rat} {a b a2 b2 : Option Addr} {ca cb ca2 cb2 : Nat} (T : TensR w v s L1 n a ca b cb) (T2 : TensR w u s2 L2 n a2 ca2 b2 cb2) (hs : s.length ≤ 17592186044416) (hq : L1.length ≤ 1000000) (hn : n ≤ 1000000) (hsh : s2 = s) (hlen : L2.length = L1.length) :
    Calls Tryz.prog 17 #[v, u] w fun e w' => ∃ r, e = .returned (.tuple #[r, .int .i64 0]) ∧ TenR w' r s (List.zipWith (fun x y => x + y) L1 L2) (3 * n + 6) ∧ Below w.heap.size w w' := by
  obtain ⟨i0, hi, hz0, hz1, hz2⟩ := info_parts infoR
  have HT := Lib.hid T
  have HT2 := Lib.hid T2
  have HLEN := Lib.hid hlen
  obtain rfl := T.is
  obtain rfl := T2.is
  have hres : (List.zipWith (fun x y => x + y) L1 L2).length = L1.length := by rw [List.length_zipWith]; omega
  obtain ⟨LR, hLR⟩ : ∃ LR, (List.zipWith (fun x y => x + y) L1 L2) = LR := ⟨_, rfl⟩
  rw [hLR] at hres ⊢
  have HLR := Lib.hid hLR
  have HRES := Lib.hid hres
  clear hLR hres
  obtain ⟨W, hW⟩ : ∃ W, (((w.alloc (.cells #[.slice a s.length ca, .slice b L1.length cb] 36)).alloc (.cells #[.slice a2 s2.length ca2, .slice b2 L2.length cb2] 36)).alloc (.cells #[.slice none 0 0, .slice none 0 0] 36)) = W := ⟨_, rfl⟩
  have R0 : Row W (w.heap.size) 36 #[.slice a s.length ca, .slice b L1.length cb] := by rw [← hW]; have h := Row.new w 36 #[.slice a s.length ca, .slice b L1.length cb]; (try simp only [World.size_alloc] at h); exact ((h.alloc _).alloc _)
  have R1 : Row W (w.heap.size + 1) 36 #[.slice a2 s2.length ca2, .slice b2 L2.length cb2] := by rw [← hW]; have h := Row.new (w.alloc (.cells #[.slice a s.length ca, .slice b L1.length cb] 36)) 36 #[.slice a2 s2.length ca2, .slice b2 L2.length cb2]; (try simp only [World.size_alloc] at h); exact (h.alloc _)
  have R2 : Row W (w.heap.size + 1 + 1) 36 #[.slice none 0 0, .slice none 0 0] := by rw [← hW]; have h := Row.new ((w.alloc (.cells #[.slice a s.length ca, .slice b L1.length cb] 36)).alloc (.cells #[.slice a2 s2.length ca2, .slice b2 L2.length cb2] 36)) 36 #[.slice none 0 0, .slice none 0 0]; (try simp only [World.size_alloc] at h); exact h
  have hBW : Below w.heap.size w W := by rw [← hW]; exact ((((Below.refl _ _).alloc (by (try simp) <;> omega) _).alloc (by (try simp) <;> omega) _).alloc (by (try simp) <;> omega) _)
  have hsW : W.heap.size = w.heap.size + 1 + 1 + 1 := by rw [← hW]; simp
  have hshp := shapedR_any (HT.out.later hBW) hs
  have hsame := sameSh_any (HT.out.later hBW).sh (HT2.out.later hBW).sh (by omega)
  rw [decide_eq_true hsh.symm] at hsame
  obtain ⟨p0, p1, _, _⟩ := R0.two
  obtain ⟨p2, p3, _, _⟩ := R1.two
  clear T T2 hlen hsh
  go_enter Tryz.func17, Tryz.ntmps17
  (try rw [hW])
  go_wp2_with fail
  refine hsame.mono ?_
  rintro e w2 ⟨rfl, hb2⟩
  replace R0 := R0.later hb2
  replace R1 := R1.later hb2
  replace R2 := R2.later hb2
  have hs2 := hb2.size
  have hBW2 : Below w.heap.size w w2 := hBW.trans (hb2.mono (by omega))
  replace hshp := shapedR_any (HT.out.later hBW2) hs
  clear p0 p1 p2 p3 hsame
  obtain ⟨p0, p1, _, _⟩ := R0.two
  go_wp2_with fail
  refine hshp.mono ?_
  rintro e w3 ⟨a3, c3, rfl, R3', hb3⟩
  go_wp2_with fail
  have hs3 := hb3.size
  have hB3 : Below w.heap.size w w3 := hBW2.trans (hb3.mono (by omega))
  have hB4 : Below w.heap.size w (w3.alloc (.cells #[.slice a3 s.length c3, .slice none 0 0] 36)) := hB3.alloc (by omega) _
  have r0 := (R0.later hb3).alloc (.cells #[.slice a3 s.length c3, .slice none 0 0] 36)
  have r1 := (R1.later hb3).alloc (.cells #[.slice a3 s.length c3, .slice none 0 0] 36)
  have r2 := (R2.later hb3).alloc (.cells #[.slice a3 s.length c3, .slice none 0 0] 36)
  have rg := Row.new w3 36 #[.slice a3 s.length c3, .slice none 0 0]
  have rs : ResS w.heap.size (w3.alloc (.cells #[.slice a3 s.length c3, .slice none 0 0] 36)) (.slice a3 s.length c3) s := (R3'.mono (by omega)).later ((Below.refl _ _).alloc (Nat.le_refl _) _)
  obtain ⟨g, hg⟩ : ∃ g, w3.heap.size = g := ⟨_, rfl⟩
  have hg2 : w.heap.size + 1 + 1 + 1 ≤ g := by omega
  rw [hg] at rg ⊢
  generalize w3.alloc (.cells #[.slice a3 s.length c3, .slice none 0 0] 36) = W4 at *
  have H0 := Lib.hid r0
  have H1 := Lib.hid r1
  have H2 := Lib.hid r2
  have HG := Lib.hid rg
  have HS := Lib.hid rs
  have HB4 := Lib.hid hB4
  clear rg rs hB4 hB3 hb3 hs3 R3' hshp p0 p1 hsW hg hW hBW hBW2 hs2 hb2 r0 R0 r1 R1 r2 R2
  go_loopw [7] (fun i wr => ∃ (k : Nat) (v : Value), i = .int .i64 (k : Int) ∧ k ≤ L1.length ∧ Row wr (w.heap.size) 36 #[.slice a s.length ca, .slice b L1.length cb] ∧ Row wr (w.heap.size + 1) 36 #[.slice a2 s2.length ca2, .slice b2 L2.length cb2] ∧ Row wr (w.heap.size + 1 + 1) 36 #[.slice none 0 0, .slice none 0 0] ∧
    Row wr g 36 #[.slice a3 s.length c3, v] ∧ ResS w.heap.size wr (.slice a3 s.length c3) s ∧ RowO (w.heap.size) 56 (fun W v x => ResA w.heap.size w W v x (3 * n + 6)) wr v (LR.take k) ∧ Below w.heap.size w wr) (fun i _ => L1.length - (intOf i).toNat)
  case atStart => exact ⟨0, _, rfl, Nat.zero_le _, H0.out, H1.out, H2.out, HG.out, HS.out, RowO.nil _ _ _ _, HB4.out⟩
  case round =>
    obtain ⟨k, v, rfl, hk, r0, r1, r2, rg, rs, ⟨es, hown, hall⟩, hb⟩ := hrel
    have hsz := hb.size
    have c01 := r0.cell 1
    have cg1 := rg.cell 1
    have hle : es.length = k := by have h := HRES.out; rw [hall.1, List.length_take, h]; omega
    by_cases hlt : k < L1.length
    · obtain ⟨bb, o, x0, x1, x2, q, hbo, hqk, e0', e1', e2', hraw0⟩ := HT.out.el.at hlt
      have e0 := (hb.cell (World.block_lt_of_cell? _ _ e0')).trans e0'
      have e1 := (hb.cell (World.block_lt_of_cell? _ _ e1')).trans e1'
      have e2 := (hb.cell (World.block_lt_of_cell? _ _ e2')).trans e2'
      have hb0 : bb < w.heap.size := World.block_lt_of_cell? _ _ e0'
      subst hbo
      have hcall : ArgR wr (.agg #[x0, x1, x2]) q n := hraw0.later hb
      obtain ⟨bd, od, z0, z1, z2, p, hbd, hpk, d0', d1', d2', hraw1⟩ := HT2.out.el.at (i := k) (by have := HLEN.out; omega)
      have d0 := (hb.cell (World.block_lt_of_cell? _ _ d0')).trans d0'
      have d1 := (hb.cell (World.block_lt_of_cell? _ _ d1')).trans d1'
      have d2 := (hb.cell (World.block_lt_of_cell? _ _ d2')).trans d2'
      have hd0 : bd < w.heap.size := World.block_lt_of_cell? _ _ d0'
      subst hbd
      have hcall2 : ArgR wr (.agg #[z0, z1, z2]) p n := hraw1.later hb
      have hltJ : (k : Int) < (L2.length : Int) := by have := HLEN.out; omega
      have c11 := r1.cell 1
      clear d0' d1' d2'
      have hgl := rg.lt
      have hszb : w.heap.size ≤ wr.heap.size := by omega
      obtain ⟨r, hrv, hrb, hrne⟩ := hown.hits hszb
      have n0 := hrne _ _ _ r0 (by decide)
      have n1 := hrne _ _ _ r1 (by decide)
      have n2 := hrne _ _ _ r2 (by decide)
      have ng := hrne _ _ _ rg (by decide)
      clear e0' e1' e2'
      have mkS : ∀ X, Kept r wr X → X.cell? ⟨g, 1, none⟩ = some v ∧ X.cell? ⟨w.heap.size, 1, none⟩ = some (.slice (some ⟨bb, o, none⟩) L1.length cb) ∧ X.cell? ⟨w.heap.size + 1, 1, none⟩ = some (.slice (some ⟨bd, od, none⟩) L2.length cb2) ∧ X.cell? ⟨bb, o + k * 3, none⟩ = some x0 ∧ X.cell? ⟨bb, o + k * 3 + 1, none⟩ = some x1 ∧ X.cell? ⟨bb, o + k * 3 + 2, none⟩ = some x2 ∧ X.cell? ⟨bd, od + k * 3, none⟩ = some z0 ∧ X.cell? ⟨bd, od + k * 3 + 1, none⟩ = some z1 ∧ X.cell? ⟨bd, od + k * 3 + 2, none⟩ = some z2 ∧ Kept r wr X := fun X h =>
        ⟨h.cell cg1 ng, h.cell c01 n0, h.cell c11 n1, h.cell e0 (by show bb ≠ r; omega), h.cell e1 (by show bb ≠ r; omega), h.cell e2 (by show bb ≠ r; omega), h.cell d0 (by show bd ≠ r; omega), h.cell d1 (by show bd ≠ r; omega), h.cell d2 (by show bd ≠ r; omega), h⟩
      have hltI : (k : Int) < (L1.length : Int) := by omega
      have hS0 := mkS wr.drew ((Kept.refl r wr).drew)
      go_wp2_with fail
      refine wp_region_L (S := fun X => X.cell? ⟨g, 1, none⟩ = some v ∧ X.cell? ⟨w.heap.size, 1, none⟩ = some (.slice (some ⟨bb, o, none⟩) L1.length cb) ∧ X.cell? ⟨w.heap.size + 1, 1, none⟩ = some (.slice (some ⟨bd, od, none⟩) L2.length cb2) ∧ X.cell? ⟨bb, o + k * 3, none⟩ = some x0 ∧ X.cell? ⟨bb, o + k * 3 + 1, none⟩ = some x1 ∧ X.cell? ⟨bb, o + k * 3 + 2, none⟩ = some x2 ∧ X.cell? ⟨bd, od + k * 3, none⟩ = some z0 ∧ X.cell? ⟨bd, od + k * 3 + 1, none⟩ = some z1 ∧ X.cell? ⟨bd, od + k * 3 + 2, none⟩ = some z2 ∧ Kept r wr X) (z := 16) (by kernel_rfl) hS0 (fun hHeld => ?_)
      refine todo [0, 1, 2, 3, 4, 5, 6, 7, 8, 9, 10, 11] ?_
      iterate 12
       refine todoL (v := ?_) rfl (by kernel_rfl) (fun _ _ _ h => h) (by assumption) (Or.inl ⟨by rfl, ?_⟩) ?_
       rotate_left
       · intro w hSw; (try dsimp only at hSw); go_simp; (try with_reducible rfl)
       try simp only [Act.put, List.getElem_toArray, List.getElem_cons_succ, List.getElem_cons_zero, List.setIfInBounds_toArray, List.set_cons_zero, List.set_cons_succ]
      refine todone ?_
      refine wpAnyL_one (i := 12) (by kernel_rfl) rfl (fun K hK => ?sb12)
      go_simp
      have hbd4 : Below wr.heap.size wr wr.drew := (Below.refl _ _).drew
      refine (addRR_any (hcall.later hbd4) (hcall2.later hbd4) (by omega)).mono ?_
      rintro e w5 ⟨rv, rfl, qv, hb5⟩
      have Q5 := Lib.hid qv
      obtain ⟨m5, f1, l1, j1, f2, l2, j2, rfl⟩ := qv.shape
      clear qv
      go_simp
      have hB5 : Below w.heap.size w w5 := (hb.drew).trans (hb5.mono hsz)
      have hk5 : Kept r wr w5 := ((Kept.refl r wr).drew).below hb5
      refine hK.out _ _ (fun _ => mkS _ hk5) (fun hHeld2 => ?mb12)
      clear hK K hHeld
      have hHeld := hHeld2 (by decide)
      clear hHeld2
      try simp only [Act.put, List.setIfInBounds_toArray, List.set_cons_zero, List.set_cons_succ]
      refine wpAnyL_one (i := 13) (by kernel_rfl) rfl (fun K hK => ?sb13)
      go_simp
      refine hK.out _ _ (fun _ => mkS _ (hk5.alloc _)) (fun hHeld2 => ?mb13)
      clear hK K hHeld
      have hHeld := hHeld2 (by decide)
      clear hHeld2
      try simp only [Act.put, List.setIfInBounds_toArray, List.set_cons_zero, List.set_cons_succ]
      refine wpAnyL_one (i := 14) (by kernel_rfl) rfl (fun K hK => ?sb14)
      have hb5w : Below wr.heap.size wr w5 := (Below.refl _ wr).drew.trans hb5
      have hown5 : OwnE (w.heap.size) 56 w5 v es := hown.later hb5w
      have hall5 : AllE (fun v x => ResA w.heap.size w w5 v x (3 * n + 6)) es (LR.take k) := hall.imp fun u x _ h => h.later hb5w
      have hsz5 := hB5.size
      have hszb5 : w.heap.size ≤ w5.heap.size := Nat.le_trans hszb hb5w.size
      refine step_append_ownT rfl _ _ 34 rfl (w.heap.size) 56 i0 _ 3 56 Tryz.underlying34 hi hz0 hz1 hz2 rfl (by decide) _ es.length (flat3 es) rfl (hown5.later ((Below.refl _ _).alloc (Nat.le_refl _) _)) ⟨w5.heap.size, 0, none⟩ 1 1 [.bool m5, .slice f1 l1 j1, .slice f2 l2 j2] rfl rfl (cell_three_new _ _ _ _ _) (by simp [Value.oneCell']) (by unfold maxLen; omega) (by omega) (by simp; omega) ?_
      intro v' w6 hown' hgrow _
      obtain ⟨av, cv, rfl⟩ := ownT_slice hown'
      have hk6 : Kept r wr w6 := (hk5.alloc _).grown hgrow hrv
      refine hK.out _ _ (fun _ => mkS _ hk6) (fun hHeld2 => ?mb14)
      clear hK K hHeld
      have hHeld := hHeld2 (by decide)
      clear hHeld2
      try simp only [Act.put, List.setIfInBounds_toArray, List.set_cons_zero, List.set_cons_succ]
      refine wpAnyL_take (i := 15) (v := ?va15) rfl (by kernel_rfl) (by kernel_rfl) (by kernel_rfl) (by kernel_rfl) (fun _ _ _ h => h) (Or.inl ⟨by rfl, ?ha15⟩) (by assumption) ?ra15
      case ha15 =>
        intro w hSw
        try dsimp only at hSw
        go_simp
        try with_reducible rfl
      try simp only [Act.put, List.setIfInBounds_toArray, List.set_cons_zero, List.set_cons_succ]
      have RG6 := rg.kept hk6 ng
      have f21 := RG6.free 1
      have d21 := RG6.cell 1
      refine wpAnyL_one (i := 16) (by kernel_rfl) rfl (fun K hK => ?sb16)
      go_simp
      refine hK.out _ _ (fun h => absurd rfl h) (fun _ => ?mb16)
      clear hK K
      try simp only [Act.put, List.setIfInBounds_toArray, List.set_cons_zero, List.set_cons_succ]
      refine wpAnyL_done (by kernel_rfl) ?_ _
      go_wp2
      go_roundw
      case rel =>
        have hx5 : ResA w.heap.size w w5 (E3.agg ⟨.bool m5, .slice f1 l1 j1, .slice f2 l2 j2⟩) (q + p) (3 * n + 6) := .inl ((Q5.out.mono (by show w.heap.size ≤ wr.heap.size; exact hsz)).more (by omega))
        obtain ⟨hrow6, hb6⟩ := pushE2 (P := (fun W v x => ResA w.heap.size w W v x (3 * n + 6))) (e := ⟨.bool m5, .slice f1 l1 j1, .slice f2 l2 j2⟩) hB5 (by omega) hszb5 hown5 hall5 hx5 (fun u y h => ResA.apart hown5 hgrow (by decide) h) hown' hgrow
        rw [hle] at hrow6
        have rs6 : ResS w.heap.size w6 (.slice a3 s.length c3) s := ResS.apart hown5 hgrow (by decide) (rs.later hb5w)
        have hnext : LR.take (k + 1) = LR.take k ++ [q + p] := take_nextL (by rw [← HLR.out]; rw [List.getElem?_zipWith, hqk, hpk])
        refine ⟨k + 1, _, by go_num, by omega, (r0.kept hk6 n0).far (by show w.heap.size ≠ g; omega) _, (r1.kept hk6 n1).far (by show w.heap.size + 1 ≠ g; omega) _, (r2.kept hk6 n2).far (by show w.heap.size + 1 + 1 ≠ g; omega) _, RG6.set21 _, rs6.far RG6 (by decide) (kept1 _), ?_, hb6.setCell (by show w.heap.size ≤ g; omega) _⟩
        rw [hnext]
        exact hrow6.far RG6 (by decide) (kept1 _) (fun u y h => h.far RG6 (by decide) (kept1 _))
      case measure => simp [intOf]; omega
    · obtain rfl : k = L1.length := by omega
      have hltI : ¬ (L1.length : Int) < (L1.length : Int) := by omega
      rw [List.take_of_length_le (by have h := HRES.out; omega)] at hall
      obtain ⟨av, cv, rfl⟩ := ownT_slice hown
      have hel : es.length = L1.length := hle
      rw [hel] at rg hown
      have c20 := rg.cell 0
      have d21 := rg.cell 1
      have f10 := r2.free 0
      have f11 := r2.free 1
      have g10 := r2.cell 0
      have g11 := r2.cell 1
      have RRs := r2.set2 (.slice a3 s.length c3) (.slice av L1.length cv)
      obtain ⟨z0, z1, _, _⟩ := RRs.two
      have HOWN := Lib.hid hown
      have HALL := Lib.hid hall
      have HRR := Lib.hid r2
      clear hown hall hle RRs r2
      go_wp2
      have hbE := below_set2 hb (show w.heap.size ≤ w.heap.size + 1 + 1 by omega) (.slice a3 s.length c3) (.slice av L1.length cv)
      have hsE : ResS w.heap.size _ (.slice a3 s.length c3) s := rs.far HRR.out (by decide) (kept2 (.slice a3 s.length c3) (.slice av L1.length cv))
      have hrE := RowO.far (P := (fun W v x => ResA w.heap.size w W v x (3 * n + 6))) ⟨es, HOWN.out, HALL.out⟩ HRR.out (by decide) (kept2 (.slice a3 s.length c3) (.slice av L1.length cv)) (fun u y h => h.far HRR.out (by decide) (kept2 _ _))
      exact bodyPost_ret (v := .tuple #[.agg #[.slice a3 s.length c3, .slice av L1.length cv], .int .i64 0]) (by simp [results, Tryz.results17, go_sem, z0, z1]) rfl ⟨_, rfl, tenR_of HRES.out.symm hbE hsE (hrE.mono (by omega) (fun v x h => h)), hbE⟩
end Go.Proofs.YtjcacmnmbbnffaaGreat
