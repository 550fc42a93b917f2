/-
  Package move as it landed: the closure of Concat. (Made by wip/gen/gen_mconc.py.)
-/
import Derived.Test.YtooglnhlhgmhdaaGreatMLayr
import Derived.Test.YtooglnhlhgmhdaaGreatZ28
namespace Go.Proofs.YtooglnhlhgmhdaaGreat
open Go.RowKit
set_option linter.unusedVariables false
set_option linter.unusedSimpArgs false

set_option maxRecDepth 100000 in
set_option maxHeartbeats 40000000 in
theorem concat1_any {n : Nat} {w0 w : World} {l : Value} {Ls : List (X2 × Int)} {al ax : Option Addr} {cl cx B gl ga a : Nat} {xs : List Int} {x : X2} {k : Int} (RA : RowA LayP w0 l Ls al cl) (hgl : w0.cell? ⟨gl, 0, none⟩ = some l) (hga : w0.cell? ⟨ga, 0, none⟩ = some (.int .i64 (a : Int)))
    (h0B : w0.heap.size ≤ B) (hBw : B ≤ w.heap.size) (h0w : Below w0.heap.size w0 w) (I : IdxP B w ax cx xs) (hcap : xs.length ≤ cx) (nd : ax = none → cx = 0) (hwx : Wid xs) (ha : a < xs.length) (hx4 : xs.length ≤ 4) (hi0 : 0 ≤ xs.getD a 0) (hi1 : Ls[(xs.getD a 0).toNat]? = some (x, k)) (hk : -9223372036854775808 ≤ k ∧ k ≤ 9223372036854775807)
    (hm : mayT x.s x.q = 0) (hl : lensQ x.q n) (hn : n ≤ 100000000) :
    Calls Tryz.prog 71 #[.slice ax xs.length cx, .pointer (some ⟨gl, 0, none⟩), .pointer (some ⟨ga, 0, none⟩)] w fun e w' => ∃ r, e = .returned r ∧ ResQ B w' r (elV x.s (x.q.map Q3.rat) (xs.set a k)) (n + 2) ∧ Below B w w' := by
  obtain rfl := RA.is
  have hsz0 := h0w.size
  obtain ⟨p, hp⟩ : ∃ p : Nat, xs.getD a 0 = (p : Int) := ⟨(xs.getD a 0).toNat, by omega⟩
  rw [hp] at hi1
  rw [show ((p : Int)).toNat = p by omega] at hi1
  have hpl : p < Ls.length := by
    rcases Nat.lt_or_ge p Ls.length with h | h
    · exact h
    · rw [List.getElem?_eq_none h] at hi1; cases hi1
  obtain ⟨bL, oL, c0, c1, c2, q, rfl, hq, k0, k1, k2, hP⟩ := (RA.later h0w (fun v y _ h => h.later h0w)).at hpl
  rw [hi1] at hq
  cases hq
  obtain ⟨ta9, te9, tca9, tce9, hv, TX⟩ := hP
  obtain ⟨bL2, oL2, c02, c12, c22, q2, hbo2, hq2, k02, k12, k22, hP2⟩ := RA.at hpl
  rw [hi1] at hq2
  cases hq2
  cases hbo2
  obtain ⟨ta, te, tca, tce, hv2, TE⟩ := hP2
  have q0 := ((h0w.cell (World.block_lt_of_cell? _ _ k02)).trans k02).symm.trans k0
  have q1 := ((h0w.cell (World.block_lt_of_cell? _ _ k12)).trans k12).symm.trans k1
  simp only [Option.some.injEq] at q0 q1
  simp only [Value.agg.injEq, Array.mk.injEq, List.cons.injEq, and_true] at hv2
  obtain ⟨hv20, hv21, _⟩ := hv2
  simp only [Value.agg.injEq, Array.mk.injEq, List.cons.injEq, and_true] at hv
  obtain ⟨rfl, rfl, rfl⟩ := hv
  rw [hv20, Value.slice.injEq] at q0
  rw [hv21, Value.slice.injEq] at q1
  obtain ⟨rfl, _, rfl⟩ := q0
  obtain ⟨rfl, _, rfl⟩ := q1
  have HTE := Lib.hid TE
  clear hv20 hv21 k02 k12 k22 TE
  have g0 := (h0w.cell (World.block_lt_of_cell? _ _ hgl)).trans hgl
  have g1 := (h0w.cell (World.block_lt_of_cell? _ _ hga)).trans hga
  obtain ⟨gx, rfl, hgB, hmx, hPt⟩ := I.at ha
  have cz := hPt.cell a ha
  rw [hp] at cz
  have hfz := hPt.free a
  have hgx := hPt.lt
  obtain ⟨W, hW⟩ : ∃ Y, w.alloc (.cells #[.bool false, .slice none 0 0, .slice none 0 0] 58) = Y := ⟨_, rfl⟩
  have R0 : Row W w.heap.size 58 #[.bool false, .slice none 0 0, .slice none 0 0] := by rw [← hW]; exact Row.new _ _ _
  have bW : Below w.heap.size w W := by rw [← hW]; exact (Below.refl _ _).alloc (Nat.le_refl _) _
  have hsW : W.heap.size = w.heap.size + 1 := by rw [← hW]; simp
  obtain ⟨M, hM⟩ : ∃ M, xs.length = M := ⟨_, rfl⟩
  have HM := Lib.hid hM
  have HPT := Lib.hid (hPt.later bW)
  have HTX := Lib.hid TX
  have HT06 : ∀ X, Below B w X → TensQ X (.agg #[.slice ta x.s.length tca, .slice te x.q.length tce]) x.s x.q ta tca te tce := fun X h => HTE.out.later (h0w.trans (h.mono h0B))
  have HI := Lib.hid I
  have mk : ∀ X, Below w.heap.size w X → (X.cell? ⟨gl, 0, none⟩ = some (.slice (some ⟨bL, oL, none⟩) Ls.length cl) ∧ X.cell? ⟨ga, 0, none⟩ = some (.int .i64 (a : Int)) ∧ X.cell? ⟨gx, a, none⟩ = some (.int .i64 (p : Int))) ∧ X.cell? ⟨bL, oL + p * 3, none⟩ = some (.slice ta x.s.length tca) ∧ X.cell? ⟨bL, oL + p * 3 + 1, none⟩ = some (.slice te x.q.length tce) ∧ X.cell? ⟨bL, oL + p * 3 + 2, none⟩ = some (.int .i64 k) := fun X h =>
    ⟨⟨(h.cell (World.block_lt_of_cell? _ _ g0)).trans g0, (h.cell (World.block_lt_of_cell? _ _ g1)).trans g1, (h.cell (World.block_lt_of_cell? _ _ cz)).trans cz⟩, (h.cell (World.block_lt_of_cell? _ _ k0)).trans k0, (h.cell (World.block_lt_of_cell? _ _ k1)).trans k1, (h.cell (World.block_lt_of_cell? _ _ k2)).trans k2⟩
  have HMK := Lib.hid mk
  have hgaI : ga < w.heap.size := World.block_lt_of_cell? _ _ g1
  have hglI : gl < w.heap.size := World.block_lt_of_cell? _ _ g0
  have haI : (a : Int) < (M : Int) := by omega
  have hpI : (p : Int) < (Ls.length : Int) := by omega
  have hga0 : ga < w0.heap.size := World.block_lt_of_cell? _ _ hga
  have HG1 := Lib.hid g1
  obtain ⟨r, hr⟩ : ∃ r, elV x.s (x.q.map Q3.rat) (xs.set a k) = r := ⟨_, rfl⟩
  have HRR := Lib.hid hr
  rw [hr]
  clear hr
  rw [hM] at hcap hx4 ha ⊢
  clear RA I k0 k1 k2 TX g0 g1 cz hPt hM hfz mk hi1 hp hgl hga
  go_enter Tryz.func71, Tryz.ntmps71
  go_upto_region 1 with fail
  (try rw [hW])
  clear hW
  go_cut [5] (fun s5 wx => ∃ (h : Nat), s5 = .pointer (some ⟨h, 0, none⟩) ∧ W.heap.size ≤ h ∧ Row wx h 97 #[.slice ta x.s.length tca, .slice te x.q.length tce, .int .i64 k] ∧ Below W.heap.size W wx)
  case first =>
    refine wp_region_held_drew (S := fun X => (X.cell? ⟨gl, 0, none⟩ = some (.slice (some ⟨bL, oL, none⟩) Ls.length cl) ∧ X.cell? ⟨ga, 0, none⟩ = some (.int .i64 (a : Int)) ∧ X.cell? ⟨gx, a, none⟩ = some (.int .i64 (p : Int))) ∧ X.cell? ⟨bL, oL + p * 3, none⟩ = some (.slice ta x.s.length tca) ∧ X.cell? ⟨bL, oL + p * 3 + 1, none⟩ = some (.slice te x.q.length tce) ∧ X.cell? ⟨bL, oL + p * 3 + 2, none⟩ = some (.int .i64 k)) (by kernel_rfl) (HMK.out _ (bW.trans ((((Below.refl W.heap.size W).drew) : Below W.heap.size W _).mono (by omega)))) (fun hHeld => ?_)
    refine wpAnyH_take (i := 0) (v := ?vT1_0) rfl (by kernel_rfl) (by kernel_rfl) (by kernel_rfl) (fun _ _ _ h => h) (Or.inl ⟨by rfl, ?hT1_0⟩) (by assumption) ?rT1_0
    case hT1_0 =>
      intro w hSw
      try dsimp only at hSw
      go_simp
      try with_reducible rfl
    try simp only [Act.put, List.getElem_toArray, List.getElem_cons_succ, List.getElem_cons_zero, List.setIfInBounds_toArray, List.set_cons_zero, List.set_cons_succ]
    refine wpAnyH_take (i := 1) (v := ?vT2_1) rfl (by kernel_rfl) (by kernel_rfl) (by kernel_rfl) (fun _ _ _ h => h) (Or.inl ⟨by rfl, ?hT2_1⟩) (by assumption) ?rT2_1
    case hT2_1 =>
      intro w hSw
      try dsimp only at hSw
      go_simp
      try with_reducible rfl
    try simp only [Act.put, List.getElem_toArray, List.getElem_cons_succ, List.getElem_cons_zero, List.setIfInBounds_toArray, List.set_cons_zero, List.set_cons_succ]
    refine wpAnyH_take (i := 2) (v := ?vT3_2) rfl (by kernel_rfl) (by kernel_rfl) (by kernel_rfl) (fun _ _ _ h => h) (Or.inl ⟨by rfl, ?hT3_2⟩) (by assumption) ?rT3_2
    case hT3_2 =>
      intro w hSw
      try dsimp only at hSw
      go_simp
      try with_reducible rfl
    try simp only [Act.put, List.getElem_toArray, List.getElem_cons_succ, List.getElem_cons_zero, List.setIfInBounds_toArray, List.set_cons_zero, List.set_cons_succ]
    refine wpAnyH_take (i := 3) (v := ?vT4_3) rfl (by kernel_rfl) (by kernel_rfl) (by kernel_rfl) (fun _ _ _ h => h) (Or.inl ⟨by rfl, ?hT4_3⟩) (by assumption) ?rT4_3
    case hT4_3 =>
      intro w hSw
      try dsimp only at hSw
      go_simp
      try with_reducible rfl
    try simp only [Act.put, List.getElem_toArray, List.getElem_cons_succ, List.getElem_cons_zero, List.setIfInBounds_toArray, List.set_cons_zero, List.set_cons_succ]
    refine wpAnyH_take (i := 4) (v := ?vT5_4) rfl (by kernel_rfl) (by kernel_rfl) (by kernel_rfl) (fun _ _ _ h => h) (Or.inl ⟨by rfl, ?hT5_4⟩) (by assumption) ?rT5_4
    case hT5_4 =>
      intro w hSw
      try dsimp only at hSw
      go_simp
      try with_reducible rfl
    try simp only [Act.put, List.getElem_toArray, List.getElem_cons_succ, List.getElem_cons_zero, List.setIfInBounds_toArray, List.set_cons_zero, List.set_cons_succ]
    refine wpAnyH_take (i := 5) (v := ?vT6_5) rfl (by kernel_rfl) (by kernel_rfl) (by kernel_rfl) (fun _ _ _ h => h) (Or.inl ⟨by rfl, ?hT6_5⟩) (by assumption) ?rT6_5
    case hT6_5 =>
      intro w hSw
      try dsimp only at hSw
      go_simp
      try with_reducible rfl
    try simp only [Act.put, List.getElem_toArray, List.getElem_cons_succ, List.getElem_cons_zero, List.setIfInBounds_toArray, List.set_cons_zero, List.set_cons_succ]
    refine wpAnyH_take (i := 6) (v := ?vT7_6) rfl (by kernel_rfl) (by kernel_rfl) (by kernel_rfl) (fun _ _ _ h => h) (Or.inl ⟨by rfl, ?hT7_6⟩) (by assumption) ?rT7_6
    case hT7_6 =>
      intro w hSw
      try dsimp only at hSw
      go_simp
      try with_reducible rfl
    try simp only [Act.put, List.getElem_toArray, List.getElem_cons_succ, List.getElem_cons_zero, List.setIfInBounds_toArray, List.set_cons_zero, List.set_cons_succ]
    obtain ⟨K0, hV0⟩ : ∃ Y, W.drew = Y := ⟨_, rfl⟩
    rw [hV0] at hHeld
    rw [hV0]
    have hb0 : Below W.heap.size W K0 := by rw [← hV0]; exact (Below.refl _ _).drew
    have hs0 : W.heap.size ≤ K0.heap.size := hb0.size
    clear hV0
    refine wpAnyH_ready (rs := [7]) (by kernel_rfl) (by simp) ?_
    refine AllReadyH.cons rfl (fun K hK => ?o8_7) AllReadyH.nil
    go_simp
    refine afterAlloc (fun K9 hc9 hl9 zn9 => ?_)
    have hbK9 : Below W.heap.size W K9 := hb0.trans (hc9.mono hs0)
    have hsK9 : W.heap.size ≤ K9.heap.size := hbK9.size
    refine hK.out _ _ (HMK.out _ (bW.trans ((hbK9 : Below W.heap.size W _).mono (by omega)))) (fun hHeld2 => ?_)
    clear hK K hHeld
    have hHeld := hHeld2
    clear hHeld2
    try simp only [Act.put, List.getElem_toArray, List.getElem_cons_succ, List.getElem_cons_zero, List.setIfInBounds_toArray, List.set_cons_zero, List.set_cons_succ]
    obtain ⟨d10_0, d10_1, d10_2, d10_3, d10_4, d10_5⟩ := zn9.three
    refine wpAnyH_ready (rs := [8]) (by kernel_rfl) (by simp) ?_
    refine AllReadyH.cons rfl (fun K hK => ?s10) AllReadyH.nil
    go_simp
    refine afterSet3 zn9 (fun K10 o10 zs10 => ?_)
    clear d10_0 d10_1 d10_2 d10_3 d10_4 d10_5
    have hbK10 : Below W.heap.size W K10 := hbK9.trans (o10.below hs0)
    have hsK10 : W.heap.size ≤ K10.heap.size := hbK10.size
    refine hK.out _ _ (HMK.out _ (bW.trans ((hbK10 : Below W.heap.size W _).mono (by omega)))) (fun hHeld2 => ?_)
    clear hK K hHeld
    have hHeld := hHeld2
    clear hHeld2
    try simp only [Act.put, List.getElem_toArray, List.getElem_cons_succ, List.getElem_cons_zero, List.setIfInBounds_toArray, List.set_cons_zero, List.set_cons_succ]
    refine wpAnyH_done (by kernel_rfl) ?_ _
    (try dsimp only [Straight])
    (try go_wp2_with fail)
    go_meet
    exact ⟨_, rfl, hs0, zs10, hbK10⟩
  case rest =>
    rename World => w5
    obtain ⟨h, rfl, hhW, R5, D5⟩ := hcut
    have hs5 := D5.size
    have D5w : Below w.heap.size w w5 := bW.trans (D5.mono (by omega))
    obtain ⟨⟨e0, e1, e2⟩, _, _, _⟩ := HMK.out _ D5w
    have P5 : PartS w5 gx cx xs := HPT.out.later D5
    have hf5 := P5.free a
    obtain ⟨d0, d1, d2, _, _, _⟩ := R5.three
    have H5 := Lib.hid P5
    have HR5 := Lib.hid R5
    obtain ⟨W6, hW6⟩ : ∃ Y, w5.setCell ⟨gx, a, none⟩ (.int .i64 k) = Y := ⟨_, rfl⟩
    have P6 : PartS W6 gx cx (xs.set a k) := by rw [← hW6]; exact P5.set a (by rw [HM.out]; exact ha) k
    have b56 : Below B w5 W6 := by rw [← hW6]; exact setBelow (Below.refl _ _) hgB _ _
    have bB5 : Below B w w5 := D5w.mono hBw
    have bB6 : Below B w W6 := bB5.trans b56
    have R6 : Row W6 h 97 #[.slice ta x.s.length tca, .slice te x.q.length tce, .int .i64 k] := by rw [← hW6]; exact R5.far (by show h ≠ gx; omega) _
    have R06 : Row W6 w.heap.size 58 #[.bool false, .slice none 0 0, .slice none 0 0] := by rw [← hW6]; exact (R0.later D5).far (by show w.heap.size ≠ gx; omega) _
    have T6 : TensQ W6 (.agg #[.slice ta x.s.length tca, .slice te x.q.length tce]) x.s x.q ta tca te tce := HT06 W6 bB6
    have hl6 : (xs.set a k).length = M := by rw [List.length_set]; exact HM.out
    have A6 : ArgS W6 (.slice (some ⟨gx, 0, none⟩) M cx) (xs.set a k) (some ⟨gx, 0, none⟩) cx := by
      have hI6 : IdxP B W6 (some ⟨gx, 0, none⟩) cx (xs.set a k) := .inr ⟨gx, rfl, hgB, hmx, P6⟩
      have hA := hI6.arg (by rw [hl6]; exact hcap) (fun y hy => by
        rcases List.mem_or_eq_of_mem_set hy with h | rfl
        · exact hwx y h
        · exact hk)
      rw [hl6] at hA
      exact hA
    have he := element_any T6 hm A6 (fun h => by cases h) (by rw [hl6]; omega) hl hn
    rw [HRR.out] at he
    obtain ⟨f0, f1, f2, _, _, _⟩ := R6.three
    have HR06 := Lib.hid R06
    clear P6 T6 A6 R6 R06 R5 P5 hl6
    go_wp2_with fail
    (try rw [hW6])
    clear hW6 e0 e1 e2 d0 d1 d2
    refine he.mono ?_
    rintro e w7 ⟨rv, rfl, qv, hb7⟩
    have Q2 := Lib.hid qv
    obtain ⟨m5, g1, l1, j1, g2, l2, j2, rfl⟩ := qv.shape
    have P2 := HR06.out.later hb7
    obtain ⟨u0, u1, u2, v0, v1, v2⟩ := P2.three
    clear qv he f0 f1 f2
    go_wp2_with fail
    have P3 := P2.set3 (.bool m5) (.slice g1 l1 j1) (.slice g2 l2 j2)
    obtain ⟨z0, z1, z2, _, _, _⟩ := P3.three
    have hb6s := bB6.size
    refine bodyPost_ret (v := .agg #[.bool m5, .slice g1 l1 j1, .slice g2 l2 j2]) (by simp [results, Tryz.results71, go_sem, z0, z1, z2]) rfl ⟨_, rfl, ?_, below_set3 (bB6.trans (hb7.mono (by omega))) (by omega) _ _ _⟩
    exact (Q2.out.mono (by omega)).far P2 (by decide) (kept3 _ _ _)
end Go.Proofs.YtooglnhlhgmhdaaGreat
