/-
  Part 31 of 39: contracts and what they rest on (FPlus).
-/
import Derived.Test.YtengpgodmbfmkaaGreatG28
namespace Go.Proofs.YtengpgodmbfmkaaGreat
set_option linter.unusedVariables false
set_option linter.unusedSimpArgs false
set_option maxRecDepth 100000
set_option maxHeartbeats 40000000
section
open Go.RowKit Go.Shelf
attribute [local go_sem] Oper.semAt_some
theorem grownS_le (f t : List Int) : (grownS f t).length ≤ t.length := by
 have key : ∀ j, (grownL f t j).length ≤ j := fun j => by
  induction j with
  | zero => simp [grownL]
  | succ j ih => simp only [grownL, List.length_append]; split <;> simp <;> omega
 unfold grownS
 split
 · exact key _
 · simp
theorem bcI_in10 {s : List Int} (hp : posS s) (k : Nat) (xs : List Int) : inS s (bcI s k xs) := by
 refine inS_of (bcI_len _ _ _) fun i hi => ?_
 rw [bcI_at s k xs hi]
 have := hp.getD hi
 exact ⟨Int.emod_nonneg _ (by omega), Int.emod_lt_of_pos _ (by omega)⟩
def plusL (t f : List Int) (X Z : List Rat) (k : Nat) : List Rat := (List.range k).map fun n => X.getD n 0 + elV f Z (bcI f (t.length - f.length) (idxS t (n : Int)))
theorem plus_at {t f : List Int} {Z : List Rat} (ok : OkS t) (hf : fitC f t = 0) (hZ : Z.length = cntF f) {n : Nat} (hn : n < cntF t) : toF t (grownS f t) n < Z.length ∧ elV f Z (bcI f (t.length - f.length) (idxS t (n : Int))) = Z.getD (toF t (grownS f t) n) 0 := by
 obtain ⟨okf, _, _⟩ := fitC_is hf
 have hc := ok.cnt
 have hcf := okf.cnt
 have hi := place_idx ok.pos (n := (n : Int)) (by omega) (by omega)
 have hin := bcI_in10 okf.pos (t.length - f.length) (idxS t (n : Int))
 have hp := (place_grown hf hi.1).1
 have hlt := place_range hin
 have e : toF t (grownS f t) n = (placeS f (bcI f (t.length - f.length) (idxS t (n : Int)))).toNat := by unfold toF; rw [hp]
 refine ⟨by rw [e, hZ]; omega, by rw [elV_in hin, e]⟩
theorem plusQ_any {n : Nat} {w : World} {t f : List Int} {X Z : List Rat} {a1 b1 a2 b2 : Option Addr} {ca1 cb1 ca2 cb2 : Nat} (A1 : ArgS w (.slice a1 t.length ca1) t a1 ca1) (na1 : a1 = none → ca1 = 0) (E1 : RowA (fun W v x => ArgQ W v x n) w (.slice b1 X.length cb1) X b1 cb1)
 (A2 : ArgS w (.slice a2 f.length ca2) f a2 ca2) (na2 : a2 = none → ca2 = 0) (E2 : RowA (fun W v x => ArgQ W v x n) w (.slice b2 Z.length cb2) Z b2 cb2) (ok : OkS t) (hX : X.length = cntF t) (hZ : Z.length = cntF f) (hf : fitC f t = 0) (hn : n ≤ 16777000) :
 Calls Tryz.prog 60 #[.agg #[.slice a1 t.length ca1, .slice b1 X.length cb1], .agg #[.slice a2 f.length ca2, .slice b2 Z.length cb2]] w fun e w' => ∃ r, e = .returned r ∧ ResT w.heap.size w' r t (plusF t f X Z) (2 * n + 10) ∧ Below w.heap.size w w' := by
 obtain ⟨i0, hi, hz0, hz1, hz2⟩ := info_parts infoQ
 obtain ⟨okf, _, _⟩ := fitC_is hf
 have hct := ok.cnt
 have hcf := okf.cnt
 have hrk := ok.rank
 have hrf := okf.rank
 have hval := fun (n : Nat) (h : n < cntF t) => plus_at (Z := Z) ok hf hZ h
 have hyl := grownS_le f t
 have hgr := fun (X : World) (h : Below w.heap.size w X) => grownC_any (A2.later h) (A1.later h) na2 na1 (by omega) (by omega)
 have hclo := fun (X : World) (h : Below w.heap.size w X) => cloneS_any (A1.later h) na1 (by omega)
 obtain ⟨ys, hys⟩ : ∃ ys, grownS f t = ys := ⟨_, rfl⟩
 rw [hys] at hval hyl
 simp only [hys] at hgr
 obtain ⟨W, hW⟩ : ∃ W, (((w.alloc (.cells #[.slice a1 t.length ca1, .slice b1 X.length cb1] 26)).alloc (.cells #[.slice a2 f.length ca2, .slice b2 Z.length cb2] 26)).alloc (.cells #[.slice none 0 0, .slice none 0 0] 26)) = W := ⟨_, rfl⟩
 have R0 : Row W (w.heap.size) 26 #[.slice a1 t.length ca1, .slice b1 X.length cb1] := by rw [← hW]; have h := Row.new w 26 #[.slice a1 t.length ca1, .slice b1 X.length cb1]; (try simp only [World.size_alloc] at h); exact ((h.alloc _).alloc _)
 have R1 : Row W (w.heap.size + 1) 26 #[.slice a2 f.length ca2, .slice b2 Z.length cb2] := by rw [← hW]; have h := Row.new (w.alloc (.cells #[.slice a1 t.length ca1, .slice b1 X.length cb1] 26)) 26 #[.slice a2 f.length ca2, .slice b2 Z.length cb2]; (try simp only [World.size_alloc] at h); exact (h.alloc _)
 have R2 : Row W (w.heap.size + 1 + 1) 26 #[.slice none 0 0, .slice none 0 0] := by rw [← hW]; have h := Row.new ((w.alloc (.cells #[.slice a1 t.length ca1, .slice b1 X.length cb1] 26)).alloc (.cells #[.slice a2 f.length ca2, .slice b2 Z.length cb2] 26)) 26 #[.slice none 0 0, .slice none 0 0]; (try simp only [World.size_alloc] at h); exact h
 have hBW : Below w.heap.size w W := by rw [← hW]; exact ((((Below.refl _ _).alloc (by (try simp) <;> omega) _).alloc (by (try simp) <;> omega) _).alloc (by (try simp) <;> omega) _)
 have hsW : W.heap.size = w.heap.size + 1 + 1 + 1 := by rw [← hW]; simp
 obtain ⟨m, hm⟩ : ∃ m, X.length = m := ⟨_, rfl⟩
 obtain ⟨zl, hzl⟩ : ∃ m, Z.length = m := ⟨_, rfl⟩
 have hmk := make_rowP m (by omega)
 have HE1 := Lib.hid E1
 have HE2 := Lib.hid E2
 have HA1 := Lib.hid A1
 have HGR := Lib.hid hgr
 have HCL := Lib.hid hclo
 have HVAL := Lib.hid hval
 have HOK := Lib.hid ok
 have HM := Lib.hid hm
 have HZL := Lib.hid hzl
 have HCT := Lib.hid hct
 have HX := Lib.hid hX
 have hm4 : m ≤ 1024 := by omega
 have hz4 : zl ≤ 1024 := by omega
 rw [hm] at hW R0 ⊢
 rw [hzl] at hW R1 ⊢
 obtain ⟨p0, p1, _, _⟩ := R0.two
 obtain ⟨p2, p3, _, _⟩ := R1.two
 have mkS : ∀ Y, Below W.heap.size W Y → Y.cell? ⟨w.heap.size, 0, none⟩ = some (.slice a1 t.length ca1) ∧ Y.cell? ⟨w.heap.size + 1, 0, none⟩ = some (.slice a2 f.length ca2) ∧ Below W.heap.size W Y := fun Y h => ⟨(h.cell (World.block_lt_of_cell? _ _ p0)).trans p0, (h.cell (World.block_lt_of_cell? _ _ p2)).trans p2, h⟩
 have B0 : Below W.heap.size W W.drew := (Below.refl _ W).drew
 have HR0 := Lib.hid R0
 have HR1 := Lib.hid R1
 have HR2 := Lib.hid R2
 clear E1 E2 A1 A2 hgr hclo hval hm hzl hct hcf hX hZ hf ok okf R0 R1 R2 hys
 go_enter Tryz.func60, Tryz.ntmps60
 (try rw [hW])
 go_wp2_with fail
 (try rw [hW])
 clear hW
 refine wp_region_held_drew (S := fun Y => Y.cell? ⟨w.heap.size, 0, none⟩ = some (.slice a1 t.length ca1) ∧ Y.cell? ⟨w.heap.size + 1, 0, none⟩ = some (.slice a2 f.length ca2) ∧ Below W.heap.size W Y) (by kernel_rfl) (mkS _ B0) (fun hHeld => ?_)
 obtain ⟨y0, hdr⟩ : ∃ Y, W.drew = Y := ⟨_, rfl⟩
 rw [hdr] at B0 hHeld ⊢
 clear hdr
 refine todo [0, 1, 2, 3, 4, 5] ?_
 iterate 6
  refine todoH (v := ?_) rfl (by kernel_rfl) (fun _ _ _ h => h) (by assumption) (Or.inl ⟨by rfl, ?_⟩) ?_
  rotate_left
  · intro w hSw; (try dsimp only at hSw); go_simp; (try with_reducible rfl)
  try simp only [Act.put, nA, nB, nC, nD, nE, nF]
 refine todone ?_
 refine wpAnyH_ready (rs := [6]) (by kernel_rfl) (by simp) ?_
 refine AllReadyH.cons rfl (fun K hK => ?sg_6) AllReadyH.nil
 go_simp
 refine (HGR.out _ (hBW.trans (B0.mono hBW.size))).mono ?_
 rintro e y1 ⟨rg, rfl, RG, hy⟩
 have B1 : Below W.heap.size W y1 := B0.trans (hy.mono B0.size)
 have Dg1 := hy
 clear hy
 obtain ⟨dg, cg, AG, ng⟩ := RG.arg2
 obtain rfl := AG.is
 clear RG
 go_simp
 refine hK.out _ _ (mkS _ B1) (fun hHeld2 => ?mg_6)
 clear hK K hHeld
 have hHeld := hHeld2
 clear hHeld2
 try simp only [Act.put, nA, nB, nC, nD, nE, nF]
 refine wpAnyH_ready (rs := [7]) (by kernel_rfl) (by simp) ?_
 refine AllReadyH.cons rfl (fun K hK => ?sg_7) AllReadyH.nil
 go_simp
 refine (position_any (HA1.out.later (hBW.trans (B1.mono hBW.size))) na1 AG ng (by omega) (by omega)).mono ?_
 rintro e y2 ⟨g1, g2, g3, d, cd, rfl, PC, hy⟩
 have B2 : Below W.heap.size W y2 := B1.trans (hy.mono B1.size)
 have Dg2 := hy
 clear hy
 go_simp
 refine hK.out _ _ (mkS _ B2) (fun hHeld2 => ?mg_7)
 clear hK K hHeld
 have hHeld := hHeld2
 clear hHeld2
 try simp only [Act.put, nA, nB, nC, nD, nE, nF]
 refine todo [8] ?_
 iterate 1
  refine todoH (v := ?_) rfl (by kernel_rfl) (fun _ _ _ h => h) (by assumption) (Or.inl ⟨by rfl, ?_⟩) ?_
  rotate_left
  · intro w hSw; (try dsimp only at hSw); go_simp; (try with_reducible rfl)
  try simp only [Act.put, nA, nB, nC, nD, nE, nF]
 refine todone ?_
 refine wpAnyH_done (by kernel_rfl) ?_ _
 (try dsimp only [Straight])
 have bw2 : Below w.heap.size w y2 := hBW.trans (B2.mono hBW.size)
 have sw2 := bw2.size
 have s1y := B1.size
 have AG2 := AG.later Dg2
 have hPC : PosC w.heap.size y2 t ys a1 dg d ca1 cg cd g1 g2 g3 := ⟨PC.r1, PC.r2, PC.r3, PC.res.mono (by omega), by have := PC.l1; omega, by have := PC.l2; omega, by have := PC.l3; omega⟩
 have HPC := Lib.hid hPC
 have HAG := Lib.hid AG2
 have q0 := HR0.out.later B2
 have q1 := HR1.out.later B2
 have q2 := HR2.out.later B2
 have HQ0 := Lib.hid q0
 have HQ1 := Lib.hid q1
 have HQ2 := Lib.hid q2
 obtain ⟨x0, x1, _, _⟩ := q0.two
 obtain ⟨V, hV⟩ : ∃ V, y2.alloc (.cells (madeCells #[.bool false, .slice none 0 0, .slice none 0 0] (m * 3)) 54) = V := ⟨_, rfl⟩
 have hown0 : OwnE y2.heap.size 54 V (.slice (some ⟨y2.heap.size, 0, none⟩) 0 m) [] := by
  rw [← hV]
  exact World.ownsRow_made y2 _ m (Nat.le_refl _) (by unfold maxLen; omega) (madeP_len _ _)
 have bV : Below y2.heap.size y2 V := by rw [← hV]; exact (Below.refl _ _).alloc (Nat.le_refl _) _
 have HO0 := Lib.hid hown0
 have HBV := Lib.hid bV
 have v0 := q0.later bV
 obtain ⟨x2, x3, _, _⟩ := v0.two
 clear hPC AG AG2 PC q0 q1 q2 hown0 bV mkS p0 p1 p2 p3 v0
 go_wp2_with fail
 (try rw [hV])
 clear hV hmk
 go_loopw [6, 24] (fun v i wr => ∃ (k : Nat), i = .int .i64 (k : Int) ∧ k ≤ m ∧ RowO y2.heap.size 54 (fun W v x => ResQ y2.heap.size W v x (2 * n + 10)) wr v (plusL t f X Z k) ∧ Below y2.heap.size y2 wr) (fun _ i _ => m - (intOf i).toNat)
 case atStart => exact ⟨0, rfl, Nat.zero_le _, ⟨[], HO0.out, AllE.nil _⟩, HBV.out⟩
 case round =>
  obtain ⟨k, rfl, hk, ⟨es, hown, hall⟩, hb⟩ := hrel
  obtain ⟨av, cv, rfl⟩ := ownT_slice hown
  have hsz := hb.size
  have hle : es.length = k := by rw [hall.1]; simp [plusL]
  subst hle
  have hwb : Below w.heap.size w wr := bw2.trans (hb.mono sw2)
  by_cases hlt : es.length < m
  · obtain ⟨hjz, hjv⟩ := HVAL.out es.length (by rw [← HX.out, HM.out]; exact hlt)
    obtain ⟨j, hj⟩ : ∃ j, toF t ys es.length = j := ⟨_, rfl⟩
    rw [hj] at hjz hjv
    obtain ⟨b1, o1, x0, x1, x2, q1, hbo1, hqk1, f0, f1, f2, hr1⟩ := (HE1.out.later hwb (fun _ _ _ h => h.later hwb)).at (i := es.length) (by rw [HM.out]; exact hlt)
    obtain ⟨b2, o2, y0', y1', y2', q2, hbo2, hqk2, g0, g1', g2', hr2⟩ := (HE2.out.later hwb (fun _ _ _ h => h.later hwb)).at (i := j) hjz
    obtain ⟨b2', o2', _, _, _, _, hbo2', _, g0', _, _, _⟩ := HE2.out.at (i := j) hjz
    rw [hbo2] at hbo2'
    obtain ⟨rfl, rfl⟩ : b2 = b2' ∧ o2 = o2' := by simpa using hbo2'
    have lt2 : b2 < w.heap.size := World.block_lt_of_cell? _ _ g0'
    subst hbo1
    subst hbo2
    obtain ⟨m1, u1, l1, j1, u2, l2, j2, e1⟩ := hr1.shape
    simp only [Value.agg.injEq, Array.mk.injEq, List.cons.injEq, and_true] at e1
    obtain ⟨rfl, rfl, rfl⟩ := e1
    obtain ⟨m2, u3, l3, j3, u4, l4, j4, e2⟩ := hr2.shape
    simp only [Value.agg.injEq, Array.mk.injEq, List.cons.injEq, and_true] at e2
    obtain ⟨rfl, rfl, rfl⟩ := e2
    have hval : plusL t f X Z (es.length + 1) = plusL t f X Z es.length ++ [q1 + q2] := by
     unfold plusL
     rw [List.range_succ, List.map_append, List.map_cons, List.map_nil, hjv, List.getD_eq_getElem?_getD, List.getD_eq_getElem?_getD (l := Z), hqk1, hqk2]
     rfl
    have HVL := Lib.hid hval
    have HR1' := Lib.hid hr1
    have HR2' := Lib.hid hr2
    obtain ⟨X1, hX1⟩ : ∃ X, wr.alloc (.cells #[.bool m1, .slice u1 l1 j1, .slice u2 l2 j2] 54) = X := ⟨_, rfl⟩
    have RX : Row X1 wr.heap.size 54 #[.bool m1, .slice u1 l1 j1, .slice u2 l2 j2] := by rw [← hX1]; exact Row.new _ _ _
    have bX : Below wr.heap.size wr X1 := by rw [← hX1]; exact (Below.refl _ _).alloc (Nat.le_refl _) _
    have b2X : Below y2.heap.size y2 X1 := hb.trans (bX.mono hsz)
    have bwX : Below w.heap.size w X1 := hwb.trans (bX.mono hwb.size)
    have hownX := hown.later bX
    have sX := b2X.size
    have sXw := bwX.size
    obtain ⟨r, hrv, hrb, hrne, hrA⟩ := hownX.hits10 sX
    have np := hrA wr.heap.size RX.lt (fun e => by have := (hown.lt _ e).2; omega)
    have n2 : b2 ≠ r := by omega
    have R1X := HQ1.out.later b2X
    have nY : w.heap.size + 1 ≠ r := hrne _ _ _ R1X (by decide)
    obtain ⟨_, c1, _, _⟩ := R1X.two
    obtain ⟨d0, d1, d2, _, _, _⟩ := RX.three
    have h0 := (bX.cell (World.block_lt_of_cell? _ _ g0)).trans g0
    have h1 := (bX.cell (World.block_lt_of_cell? _ _ g1')).trans g1'
    have h2 := (bX.cell (World.block_lt_of_cell? _ _ g2')).trans g2'
    have mkS : ∀ Y, Kept r X1 Y → Y.cell? ⟨w.heap.size + 1, 1, none⟩ = some (.slice (some ⟨b2, o2, none⟩) zl cb2) ∧ (Y.cell? ⟨wr.heap.size, 0, none⟩ = some (.bool m1) ∧ Y.cell? ⟨wr.heap.size, 1, none⟩ = some (.slice u1 l1 j1) ∧ Y.cell? ⟨wr.heap.size, 2, none⟩ = some (.slice u2 l2 j2)) ∧ (Y.cell? ⟨b2, o2 + j * 3, none⟩ = some (.bool m2) ∧ Y.cell? ⟨b2, o2 + j * 3 + 1, none⟩ = some (.slice u3 l3 j3) ∧ Y.cell? ⟨b2, o2 + j * 3 + 2, none⟩ = some (.slice u4 l4 j4)) ∧ Kept r X1 Y := fun Y h => ⟨h.cell c1 nY, ⟨h.cell d0 np, h.cell d1 np, h.cell d2 np⟩, ⟨h.cell h0 n2, h.cell h1 n2, h.cell h2 n2⟩, h⟩
    have K0 : Kept r X1 X1.drew := (Kept.refl r X1).drew
    have hltI : (es.length : Int) < (m : Int) := by omega
    have hjI : (j : Int) < (zl : Int) := by rw [HZL.out] at hjz; omega
    have hj0 : (0 : Int) ≤ (j : Int) := by omega
    have hcl := fun (Y : World) (hY : Below X1.heap.size X1 Y) => by
     have hY2 : Below y2.heap.size y2 Y := b2X.trans (hY.mono sX)
     have pc := HPC.out.later hY2
     obtain ⟨_, hda, hdn⟩ := pc.res.at_
     exact position1_any (n := es.length) (pc.r1.cell 0) (pc.r2.cell 0) (pc.r3.cell 0) (HA1.out.later (bwX.trans (hY.mono sXw))) na1 hda hdn (HAG.out.later hY2) ng HOK.out (by rw [← HX.out, HM.out]; exact hlt) (by omega)
    rw [hj] at hcl
    have HCLO := Lib.hid hcl
    have HALL := Lib.hid hall
    have HOWN := Lib.hid hownX
    clear hval hr1 hr2 hqk1 hqk2 hbo2' g0' hall hown hownX g0 g1' g2' hjv hcl hj
    go_wp2_with fail
    (try rw [hX1])
    clear hX1 f0 f1 f2
    refine wp_region_held_drew (S := fun Y => Y.cell? ⟨w.heap.size + 1, 1, none⟩ = some (.slice (some ⟨b2, o2, none⟩) zl cb2) ∧ (Y.cell? ⟨wr.heap.size, 0, none⟩ = some (.bool m1) ∧ Y.cell? ⟨wr.heap.size, 1, none⟩ = some (.slice u1 l1 j1) ∧ Y.cell? ⟨wr.heap.size, 2, none⟩ = some (.slice u2 l2 j2)) ∧ (Y.cell? ⟨b2, o2 + j * 3, none⟩ = some (.bool m2) ∧ Y.cell? ⟨b2, o2 + j * 3 + 1, none⟩ = some (.slice u3 l3 j3) ∧ Y.cell? ⟨b2, o2 + j * 3 + 2, none⟩ = some (.slice u4 l4 j4)) ∧ Kept r X1 Y) (by kernel_rfl) (mkS _ K0) (fun hHeld => ?_)
    obtain ⟨z0, hdr⟩ : ∃ Y, X1.drew = Y := ⟨_, rfl⟩
    have C0 : Below X1.heap.size X1 z0 := by rw [← hdr]; exact (Below.refl _ _).drew
    rw [hdr] at K0 hHeld ⊢
    clear hdr
    refine todo [0, 1, 2, 3, 4, 5] ?_
    iterate 6
     refine todoH (v := ?_) rfl (by kernel_rfl) (fun _ _ _ h => h) (by assumption) (Or.inl ⟨by rfl, ?_⟩) ?_
     rotate_left
     · intro w hSw; (try dsimp only at hSw); go_simp; (try with_reducible rfl)
     try simp only [Act.put, nA, nB, nC, nD, nE, nF]
    refine todone ?_
    refine wpAnyH_ready (rs := [6]) (by kernel_rfl) (by simp) ?_
    refine AllReadyH.cons rfl (fun K hK => ?sk_6) AllReadyH.nil
    go_simp
    refine (HCLO.out _ C0).mono ?_
    rintro e z1 ⟨rfl, hy⟩
    have K1 := K0.below hy
    have C1 : Below X1.heap.size X1 z1 := C0.trans (hy.mono C0.size)
    go_simp
    refine hK.out _ _ (mkS _ K1) (fun hHeld2 => ?mk_6)
    clear hK K hHeld
    have hHeld := hHeld2
    clear hHeld2
    try simp only [Act.put, nA, nB, nC, nD, nE, nF]
    refine todo [7, 8] ?_
    iterate 2
     refine todoH (v := ?_) rfl (by kernel_rfl) (fun _ _ _ h => h) (by assumption) (Or.inl ⟨by rfl, ?_⟩) ?_
     rotate_left
     · intro w hSw; (try dsimp only at hSw); go_simp; (try with_reducible rfl)
     try simp only [Act.put, nA, nB, nC, nD, nE, nF]
    refine todone ?_
    refine wpAnyH_ready (rs := [9]) (by kernel_rfl) (by simp) ?_
    refine AllReadyH.cons rfl (fun K hK => ?sk_9) AllReadyH.nil
    go_simp
    refine (addQ_any (n := n) (HR1'.out.later (bX.trans (C1.mono bX.size))) (HR2'.out.later (bX.trans (C1.mono bX.size))) hn).mono ?_
    rintro e z2 ⟨rv, rfl, qv, hy2⟩
    have K2 := K1.below hy2
    have C2 : Below X1.heap.size X1 z2 := C1.trans (hy2.mono C1.size)
    have hBw : Below y2.heap.size y2 z2 := b2X.trans (C2.mono sX)
    have sw5 := hBw.size
    have Q5 := Lib.hid (qv.mono (show y2.heap.size ≤ z1.heap.size from Nat.le_trans sX C1.size))
    obtain ⟨m5, j5, j6, j7, j8, j9, k1, rfl⟩ := qv.shape
    clear qv hy2
    have hownY := HOWN.out.later C2
    have hallY : AllE (fun v x => ResQ y2.heap.size z2 v x (2 * n + 10)) es (plusL t f X Z es.length) := HALL.out.imp fun u x _ h => h.later (bX.trans (C2.mono bX.size))
    go_simp
    refine hK.out _ _ (mkS _ K2) (fun hHeld2 => ?mk_9)
    clear hK K hHeld
    have hHeld := hHeld2
    clear hHeld2
    try simp only [Act.put, nA, nB, nC, nD, nE, nF]
    refine wpAnyH_ready (rs := [10]) (by kernel_rfl) (by simp) ?_
    refine AllReadyH.cons rfl (fun K hK => ?sk_10) AllReadyH.nil
    go_simp
    refine hK.out _ _ (mkS _ (K2.alloc _)) (fun hHeld2 => ?mk_10)
    clear hK K hHeld
    have hHeld := hHeld2
    clear hHeld2
    try simp only [Act.put, nA, nB, nC, nD, nE, nF]
    refine wpAnyH_ready (rs := [11]) (by kernel_rfl) (by simp) ?_
    refine AllReadyH.cons rfl (fun K hK => ?sk_11) AllReadyH.nil
    refine step_append_lies _ rfl _ _ 24 rfl y2.heap.size 54 i0 _ 3 56 Tryz.underlying24 hi hz0 hz1 hz2 rfl (by decide) _ es.length (flat3 es) rfl (hownY.later ((Below.refl _ _).alloc (Nat.le_refl _) _)) ⟨z2.heap.size, 0, none⟩ 1 1 [.bool m5, .slice j5 j6 j7, .slice j8 j9 k1] rfl rfl (cell_three_new _ _ _ _ _) (by simp [Value.oneCell']) (by omega) (by unfold maxLen; omega) (by omega) (by simp; omega) _ rfl ?_
    intro g cp w7 hown' hgrow hg' hlt'
    have K7 := (K2.alloc _).grown hgrow hrv
    refine hK.out _ _ (mkS _ K7) (fun hHeld2 => ?mk_11)
    clear hK K hHeld
    have hHeld := hHeld2
    clear hHeld2
    try simp only [Act.put, nA, nB, nC, nD, nE, nF]
    refine todo [12] ?_
    iterate 1
     refine todoH (v := ?_) rfl (by kernel_rfl) (fun _ _ _ h => h) (by assumption) (Or.inl ⟨by rfl, ?_⟩) ?_
     rotate_left
     · intro w hSw; (try dsimp only at hSw); go_simp; (try with_reducible rfl)
     try simp only [Act.put, nA, nB, nC, nD, nE, nF]
    refine todone ?_
    refine wpAnyH_done (by kernel_rfl) ?_ _
    (try dsimp only [Straight])
    go_wp2
    go_roundw
    case rel =>
     obtain ⟨hrow8, hb8⟩ := pushE (P := fun W v x => ResQ y2.heap.size W v x (2 * n + 10)) (o := .cells #[.bool m5, .slice j5 j6 j7, .slice j8 j9 k1] 54) (e := ⟨.bool m5, .slice j5 j6 j7, .slice j8 j9 k1⟩) hBw sw5 hownY hallY Q5.out (fun u y h => ResQ.apart hownY hgrow (by decide) h) hown' hgrow
     refine ⟨es.length + 1, by go_num, by omega, ?_, hb8⟩
     rw [HVL.out]
     exact hrow8
    case measure => simp [intOf]; omega
  · have hkl : es.length = m := by omega
    have hltI : ¬ (es.length : Int) < (m : Int) := by omega
    have hpl : plusL t f X Z es.length = plusF t f X Z := by unfold plusL plusF; rw [hkl, ← HM.out, HX.out]
    have hrow : RowO w.heap.size 54 (fun W v x => ResQ w.heap.size W v x (2 * n + 10)) wr (.slice av es.length cv) (plusF t f X Z) := RowO.mono (P := fun W v x => ResQ y2.heap.size W v x (2 * n + 10)) ⟨es, hown, by rw [← hpl]; exact hall⟩ sw2 (fun _ _ h => h.mono sw2)
    have hlen : (plusF t f X Z).length = es.length := by rw [← hpl]; simp [plusL]
    have HROW := Lib.hid hrow
    have HLEN := Lib.hid hlen
    have hc := HCL.out wr hwb
    have P0 := HQ0.out.below hb (by have := hsW; have := B2.size; omega)
    have P2 := HQ2.out.below hb (by have := hsW; have := B2.size; omega)
    obtain ⟨z0, z1, _, _⟩ := P0.two
    clear hown hall hkl hrow hpl hlen hlt
    go_wp2_with fail
    refine hc.mono ?_
    rintro e w9 ⟨r9, rfl, RS9, hb9⟩
    obtain ⟨ad9, cp9, rfl, RS9', _, _⟩ := RS9.slice
    have HRS := Lib.hid RS9'
    have P29 := P2.later hb9
    obtain ⟨t0, t1, t2, t3⟩ := P29.two
    have hrow9 := HROW.out.later hb9 (fun _ _ h => h.later hb9)
    have HR9 := Lib.hid hrow9
    have hb9w : Below w.heap.size w w9 := hwb.trans (hb9.mono hwb.size)
    clear RS9 RS9' hrow9
    go_wp2_with fail
    have P3 := P29.set2 (.slice ad9 t.length cp9) (.slice av es.length cv)
    obtain ⟨k0, k1, _, _⟩ := P3.two
    refine bodyPost_ret (v := .agg #[.slice ad9 t.length cp9, .slice av es.length cv]) (by simp [results, Tryz.results60, go_sem, k0, k1]) rfl ⟨_, rfl, ?_, below_set2 hb9w (by omega) _ _⟩
    have hR : ResT w.heap.size w9 (.agg #[.slice ad9 t.length cp9, .slice av es.length cv]) t (plusF t f X Z) (2 * n + 10) := ⟨ad9, av, cp9, cv, by rw [HLEN.out], HRS.out.mono hwb.size, by have h := HR9.out; rw [HLEN.out]; exact h⟩
    exact hR.far P29 (by decide) (by decide) (by decide) (kept2 _ _)
end
end Go.Proofs.YtengpgodmbfmkaaGreat
