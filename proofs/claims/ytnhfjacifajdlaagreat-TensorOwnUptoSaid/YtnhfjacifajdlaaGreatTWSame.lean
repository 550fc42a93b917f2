/-
  Layer 7's law TensorSame: for any two tensors the law holds (arguments that hold together at most 1048576 values).
-/
import Derived.Test.YtnhfjacifajdlaaGreatTWMay
namespace Go.Proofs.YtnhfjacifajdlaaGreat
open Go.RowKit
set_option linter.unusedVariables false
set_option linter.unusedSimpArgs false

/-- what the reference's Of answers, as it is handed in again -/
theorem ofT_tens {base n : Nat} {w : World} {a b : Option Addr} {ca cb m : Nat} {s : List Int} {L : List Rat} (hm : m = L.length) (S : ResS base w (.slice a s.length ca) s) (E : RowO base 50 (fun W v x => ResR base W v x n) w (.slice b m cb) L) :
    TensR w (.agg #[.slice a s.length ca, .slice b m cb]) s L n a ca b cb := by
  subst hm
  exact ⟨rfl, S.at_.2.1, S.at_.2.2, E.at_.2.1.imp (fun v x _ h => h.arg), E.at_.2.2⟩
set_option maxRecDepth 100000 in
set_option maxHeartbeats 8000000 in
theorem tensorSame_walk {u v : Value} {s1 s2 : List Int} {q1 q2 : List Q3} {a1 b1 a2 b2 : Option Addr} {ca1 cb1 ca2 cb2 : Nat} (W : World) (T1 : TensQ W u s1 q1 a1 ca1 b1 cb1) (T2 : TensQ W v s2 q2 a2 ca2 b2 cb2) (ls1 : s1.length ≤ 1048576) (ls2 : s2.length ≤ 1048576) (lq1 : sizeQs q1 ≤ 1048576) (lq2 : sizeQs q2 ≤ 1048576) :
    Calls Tryz.prog 7 #[u, v] W fun e W' => e = .returned (.bool true) ∧ Below W.heap.size W W' := by
  have HT1 := Lib.hid T1
  have HT2 := Lib.hid T2
  have hlen1 := sizeQs_len q1
  have hlen2 := sizeQs_len q2
  have HL1 := Lib.hid (lensQ.of lq1)
  have HL2 := Lib.hid (lensQ.of lq2)
  have hq1 : q1.length ≤ 1048576 := by omega
  have hq2 : q2.length ≤ 1048576 := by omega
  obtain rfl := T1.is
  obtain rfl := T2.is
  obtain ⟨V1, hV1⟩ : ∃ V1, W.alloc (.cells #[.slice a1 s1.length ca1, .slice b1 q1.length cb1] 26) = V1 := ⟨_, rfl⟩
  obtain ⟨V, hV⟩ : ∃ V, V1.alloc (.cells #[.slice a2 s2.length ca2, .slice b2 q2.length cb2] 26) = V := ⟨_, rfl⟩
  have sV1 : V1.heap.size = W.heap.size + 1 := by rw [← hV1]; simp
  have R0 : Row V W.heap.size 26 #[.slice a1 s1.length ca1, .slice b1 q1.length cb1] := by rw [← hV, ← hV1]; exact (Row.new _ _ _).alloc _
  have R1 : Row V (W.heap.size + 1) 26 #[.slice a2 s2.length ca2, .slice b2 q2.length cb2] := by rw [← hV, ← sV1]; exact Row.new _ _ _
  have hBV : Below W.heap.size W V := by rw [← hV, ← hV1]; exact ((Below.refl _ _).alloc (by simp) _).alloc (by simp) _
  have tX1 : ∀ X, Below V.heap.size V X → TensQ X (.agg #[.slice a1 s1.length ca1, .slice b1 q1.length cb1]) s1 q1 a1 ca1 b1 cb1 := fun X h => HT1.out.later (hBV.trans (h.mono hBV.size))
  have tX2 : ∀ X, Below V.heap.size V X → TensQ X (.agg #[.slice a2 s2.length ca2, .slice b2 q2.length cb2]) s2 q2 a2 ca2 b2 cb2 := fun X h => HT2.out.later (hBV.trans (h.mono hBV.size))
  have own1 := fun X (h : Below V.heap.size V X) => ownT_any (tX1 X h) (by omega) (by omega) (fun q hq => ⟨Nat.le_trans (HL1.out q hq).1 (by omega), Nat.le_trans (HL1.out q hq).2 (by omega)⟩)
  have own2 := fun X (h : Below V.heap.size V X) => ownT_any (tX2 X h) (by omega) (by omega) (fun q hq => ⟨Nat.le_trans (HL2.out q hq).1 (by omega), Nat.le_trans (HL2.out q hq).2 (by omega)⟩)
  have ref1 := fun X (h : Below V.heap.size V X) => mayT_any (tX1 X h) (by omega) (fun q hq => ⟨Nat.le_trans (HL1.out q hq).1 (by omega), Nat.le_trans (HL1.out q hq).2 (by omega)⟩)
  have ref2 := fun X (h : Below V.heap.size V X) => mayT_any (tX2 X h) (by omega) (fun q hq => ⟨Nat.le_trans (HL2.out q hq).1 (by omega), Nat.le_trans (HL2.out q hq).2 (by omega)⟩)
  have of1 := fun X (h : Below V.heap.size V X) => ofT_any (n := 1048576) (tX1 X h) (by omega) (by omega) HL1.out (by omega)
  have of2 := fun X (h : Below V.heap.size V X) => ofT_any (n := 1048576) (tX2 X h) (by omega) (by omega) HL2.out (by omega)
  have mkS : ∀ X, Below V.heap.size V X → X.cell? ⟨W.heap.size, 0, none⟩ = some (.slice a1 s1.length ca1) ∧ X.cell? ⟨W.heap.size, 1, none⟩ = some (.slice b1 q1.length cb1) ∧ X.cell? ⟨W.heap.size + 1, 0, none⟩ = some (.slice a2 s2.length ca2) ∧ X.cell? ⟨W.heap.size + 1, 1, none⟩ = some (.slice b2 q2.length cb2) := fun X h => by
    obtain ⟨x0, x1, _⟩ := (R0.later h).two
    obtain ⟨x2, x3, _⟩ := (R1.later h).two
    exact ⟨x0, x1, x2, x3⟩
  have B0 : Below V.heap.size V V.drew := (Below.refl _ V).drew
  obtain ⟨c0, c1, _, _⟩ := R0.two
  obtain ⟨c2, c3, _, _⟩ := R1.two
  have hsame : ∀ X u v (h1 : TensQ X u s1 q1 a1 ca1 b1 cb1) (h2 : TensQ X v s2 q2 a2 ca2 b2 cb2), Calls Tryz.prog 32 #[u, v] X fun e w' => e = .returned (.bool (allBC (fun (p q : Q3) => decide (p.rat = q.rat)) s1 s2 q1 q2)) ∧ Below X.heap.size X w' := fun X u v h1 h2 =>
    sameT_any (n := 1048576) h1 h2 (by omega) (by omega) (by omega) (by omega) HL1.out HL2.out
  have hcode : ∀ X u v x1 y1 x2 y2 cx1 cy1 cx2 cy2 (h1 : TensQ X u s1 q1 x1 cx1 y1 cy1) (h2 : TensQ X v s2 q2 x2 cx2 y2 cy2), Calls Tryz.prog 31 #[u, v] X fun e w' => e = .returned (.bool (allBC (fun (p q : Q3) => decide (p.rat = q.rat)) s1 s2 q1 q2)) ∧ Below X.heap.size X w' := fun X u v x1 y1 x2 y2 cx1 cy1 cx2 cy2 h1 h2 =>
    sameT7_any (n := 1048576) h1 h2 ls1 ls2 hq1 hq2 HL1.out HL2.out (by omega)
  obtain ⟨t, ht⟩ : ∃ t, allBC (fun (p q : Q3) => decide (p.rat = q.rat)) s1 s2 q1 q2 = t := ⟨_, rfl⟩
  rw [ht] at hsame hcode
  clear T1 T2 ht
  go_enter Tryz.func7, Tryz.ntmps7
  go_wp2_with fail
  refine wp_region_held (S := fun X => X.cell? ⟨W.heap.size, 0, none⟩ = some (.slice a1 s1.length ca1) ∧ X.cell? ⟨W.heap.size, 1, none⟩ = some (.slice b1 q1.length cb1) ∧ X.cell? ⟨W.heap.size + 1, 0, none⟩ = some (.slice a2 s2.length ca2) ∧ X.cell? ⟨W.heap.size + 1, 1, none⟩ = some (.slice b2 q2.length cb2)) (by kernel_rfl) ?_
  have hHeld := mkS _ B0
  refine wpAnyH_take (i := 0) (v := ?vq0a0) rfl (by kernel_rfl) (by kernel_rfl) (by kernel_rfl) (fun _ _ _ h => h) (Or.inl ⟨by rfl, ?hq0a0⟩) (by assumption) ?rq0a0
  case hq0a0 =>
    intro w hSw
    try dsimp only at hSw
    go_simp
    try with_reducible rfl
  try simp only [Act.put, List.setIfInBounds_toArray, List.set_cons_zero, List.set_cons_succ]
  refine wpAnyH_take (i := 2) (v := ?vq0a2) rfl (by kernel_rfl) (by kernel_rfl) (by kernel_rfl) (fun _ _ _ h => h) (Or.inl ⟨by rfl, ?hq0a2⟩) (by assumption) ?rq0a2
  case hq0a2 =>
    intro w hSw
    try dsimp only at hSw
    go_simp
    try with_reducible rfl
  try simp only [Act.put, List.setIfInBounds_toArray, List.set_cons_zero, List.set_cons_succ]
  refine wpAnyH_take (i := 5) (v := ?vq0a5) rfl (by kernel_rfl) (by kernel_rfl) (by kernel_rfl) (fun _ _ _ h => h) (Or.inl ⟨by rfl, ?hq0a5⟩) (by assumption) ?rq0a5
  case hq0a5 =>
    intro w hSw
    try dsimp only at hSw
    go_simp
    try with_reducible rfl
  try simp only [Act.put, List.setIfInBounds_toArray, List.set_cons_zero, List.set_cons_succ]
  refine wpAnyH_take (i := 6) (v := ?vq0a6) rfl (by kernel_rfl) (by kernel_rfl) (by kernel_rfl) (fun _ _ _ h => h) (Or.inl ⟨by rfl, ?hq0a6⟩) (by assumption) ?rq0a6
  case hq0a6 =>
    intro w hSw
    try dsimp only at hSw
    go_simp
    try with_reducible rfl
  try simp only [Act.put, List.setIfInBounds_toArray, List.set_cons_zero, List.set_cons_succ]
  refine wpAnyH_ready (rs := [1]) (by kernel_rfl) (by simp) ?_
  refine AllReadyH.cons rfl (fun K hK => ?sq1c1) AllReadyH.nil
  go_simp
  refine (own1 _ B0).mono ?_
  rintro e y1 ⟨p1, r1, cx1, cy1, rfl, S1, E1, hy⟩
  have B1 : Below V.heap.size V y1 := B0.trans (hy.mono B0.size)
  have D1 := hy
  clear hy
  have TA := ownT_tens S1 E1
  go_simp
  refine hK.out _ _ ?kq1c1 (fun hHeld => ?mq1c1)
  case kq1c1 =>
    try dsimp only
    exact mkS _ B1
  clear hK K
  try simp only [Act.put, List.setIfInBounds_toArray, List.set_cons_zero, List.set_cons_succ]
  refine wpAnyH_ready (rs := [3]) (by kernel_rfl) (by simp) ?_
  refine AllReadyH.cons rfl (fun K hK => ?sq2c3) AllReadyH.nil
  go_simp
  refine (own2 _ B1).mono ?_
  rintro e y2 ⟨p2, r2, cx2, cy2, rfl, S2, E2, hy⟩
  have B2 : Below V.heap.size V y2 := B1.trans (hy.mono B1.size)
  have D2 := hy
  clear hy
  have TB := ownT_tens S2 E2
  have TA2 := TA.later D2
  go_simp
  refine hK.out _ _ ?kq2c3 (fun hHeld => ?mq2c3)
  case kq2c3 =>
    try dsimp only
    exact mkS _ B2
  clear hK K
  try simp only [Act.put, List.setIfInBounds_toArray, List.set_cons_zero, List.set_cons_succ]
  refine wpAnyH_ready (rs := [4]) (by kernel_rfl) (by simp) ?_
  refine AllReadyH.cons rfl (fun K hK => ?sq3c4) AllReadyH.nil
  go_simp
  refine (hcode _ _ _ _ _ _ _ _ _ _ _ TA2 TB).mono ?_
  rintro e y3 ⟨rfl, hy⟩
  have B3 : Below V.heap.size V y3 := B2.trans (hy.mono B2.size)
  have D3 := hy
  clear hy
  go_simp
  refine hK.out _ _ ?kq3c4 (fun hHeld => ?mq3c4)
  case kq3c4 =>
    try dsimp only
    exact mkS _ B3
  clear hK K
  try simp only [Act.put, List.setIfInBounds_toArray, List.set_cons_zero, List.set_cons_succ]
  refine wpAnyH_ready (rs := [7]) (by kernel_rfl) (by simp) ?_
  refine AllReadyH.cons rfl (fun K hK => ?sq4c7) AllReadyH.nil
  go_simp
  refine (hsame _ _ _ (tX1 _ B3) (tX2 _ B3)).mono ?_
  rintro e y4 ⟨rfl, hy⟩
  have B4 : Below V.heap.size V y4 := B3.trans (hy.mono B3.size)
  have D4 := hy
  clear hy
  go_simp
  refine hK.out _ _ ?kq4c7 (fun hHeld => ?mq4c7)
  case kq4c7 =>
    try dsimp only
    exact mkS _ B4
  clear hK K
  try simp only [Act.put, List.setIfInBounds_toArray, List.set_cons_zero, List.set_cons_succ]
  refine wpAnyH_take (i := 8) (v := ?vq4a8) rfl (by kernel_rfl) (by kernel_rfl) (by kernel_rfl) (fun _ _ _ h => h) (Or.inl ⟨by rfl, ?hq4a8⟩) (by assumption) ?rq4a8
  case hq4a8 =>
    intro w hSw
    try dsimp only at hSw
    go_simp
    try with_reducible rfl
  try simp only [Act.put, List.setIfInBounds_toArray, List.set_cons_zero, List.set_cons_succ]
  refine wpAnyH_take (i := 9) (v := ?vq4a9) rfl (by kernel_rfl) (by kernel_rfl) (by kernel_rfl) (fun _ _ _ h => h) (Or.inl ⟨by rfl, ?hq4a9⟩) (by assumption) ?rq4a9
  case hq4a9 =>
    intro w hSw
    try dsimp only at hSw
    go_simp
    try with_reducible rfl
  try simp only [Act.put, List.setIfInBounds_toArray, List.set_cons_zero, List.set_cons_succ]
  refine wpAnyH_take (i := 10) (v := ?vq4a10) rfl (by kernel_rfl) (by kernel_rfl) (by kernel_rfl) (fun _ _ _ h => h) (Or.inl ⟨by rfl, ?hq4a10⟩) (by assumption) ?rq4a10
  case hq4a10 =>
    intro w hSw
    try dsimp only at hSw
    go_simp
    try with_reducible rfl
  try simp only [Act.put, List.setIfInBounds_toArray, List.set_cons_zero, List.set_cons_succ]
  refine wpAnyH_take (i := 13) (v := ?vq4a13) rfl (by kernel_rfl) (by kernel_rfl) (by kernel_rfl) (fun _ _ _ h => h) (Or.inl ⟨by rfl, ?hq4a13⟩) (by assumption) ?rq4a13
  case hq4a13 =>
    intro w hSw
    try dsimp only at hSw
    go_simp
    try with_reducible rfl
  try simp only [Act.put, List.setIfInBounds_toArray, List.set_cons_zero, List.set_cons_succ]
  refine wpAnyH_ready (rs := [11]) (by kernel_rfl) (by simp) ?_
  refine AllReadyH.cons rfl (fun K hK => ?sq5c11) AllReadyH.nil
  go_simp
  refine (own1 _ B4).mono ?_
  rintro e y5 ⟨p3, r3, cx3, cy3, rfl, S3, E3, hy⟩
  have B5 : Below V.heap.size V y5 := B4.trans (hy.mono B4.size)
  have D5 := hy
  clear hy
  have TC := ownT_tens S3 E3
  go_simp
  refine hK.out _ _ ?kq5c11 (fun hHeld => ?mq5c11)
  case kq5c11 =>
    try dsimp only
    exact mkS _ B5
  clear hK K
  try simp only [Act.put, List.setIfInBounds_toArray, List.set_cons_zero, List.set_cons_succ]
  refine wpAnyH_ready (rs := [12]) (by kernel_rfl) (by simp) ?_
  refine AllReadyH.cons rfl (fun K hK => ?sq6c12) AllReadyH.nil
  go_simp
  refine (bitsT7_any (n := 1048576) TC ls1 hq1 HL1.out (by omega)).mono ?_
  rintro e y6 ⟨rfl, hy⟩
  have B6 : Below V.heap.size V y6 := B5.trans (hy.mono B5.size)
  have D6 := hy
  clear hy
  go_simp
  refine hK.out _ _ ?kq6c12 (fun hHeld => ?mq6c12)
  case kq6c12 =>
    try dsimp only
    exact mkS _ B6
  clear hK K
  try simp only [Act.put, List.setIfInBounds_toArray, List.set_cons_zero, List.set_cons_succ]
  refine wpAnyH_ready (rs := [14]) (by kernel_rfl) (by simp) ?_
  refine AllReadyH.cons rfl (fun K hK => ?sq7c14) AllReadyH.nil
  go_simp
  refine (of1 _ B6).mono ?_
  rintro e y7 ⟨p4, r4, cx4, cy4, rfl, S4, E4, hy⟩
  have B7 : Below V.heap.size V y7 := B6.trans (hy.mono B6.size)
  have D7 := hy
  clear hy
  have TD := ofT_tens (by simp) S4 E4
  go_simp
  refine hK.out _ _ ?kq7c14 (fun hHeld => ?mq7c14)
  case kq7c14 =>
    try dsimp only
    exact mkS _ B7
  clear hK K
  try simp only [Act.put, List.setIfInBounds_toArray, List.set_cons_zero, List.set_cons_succ]
  refine wpAnyH_ready (rs := [15]) (by kernel_rfl) (by simp) ?_
  refine AllReadyH.cons rfl (fun K hK => ?sq8c15) AllReadyH.nil
  go_simp
  refine (bitsT_any TD (by omega) (by simp; omega)).mono ?_
  rintro e y8 ⟨rfl, hy⟩
  have B8 : Below V.heap.size V y8 := B7.trans (hy.mono B7.size)
  have D8 := hy
  clear hy
  rw [List.length_map]
  go_simp
  refine hK.out _ _ ?kq8c15 (fun hHeld => ?mq8c15)
  case kq8c15 =>
    try dsimp only
    exact mkS _ B8
  clear hK K
  try simp only [Act.put, List.setIfInBounds_toArray, List.set_cons_zero, List.set_cons_succ]
  refine wpAnyH_take (i := 16) (v := ?vq8a16) rfl (by kernel_rfl) (by kernel_rfl) (by kernel_rfl) (fun _ _ _ h => h) (Or.inl ⟨by rfl, ?hq8a16⟩) (by assumption) ?rq8a16
  case hq8a16 =>
    intro w hSw
    try dsimp only at hSw
    go_simp
    try with_reducible rfl
  try simp only [Act.put, List.setIfInBounds_toArray, List.set_cons_zero, List.set_cons_succ]
  refine wpAnyH_take (i := 17) (v := ?vq8a17) rfl (by kernel_rfl) (by kernel_rfl) (by kernel_rfl) (fun _ _ _ h => h) (Or.inl ⟨by rfl, ?hq8a17⟩) (by assumption) ?rq8a17
  case hq8a17 =>
    intro w hSw
    try dsimp only at hSw
    go_simp
    try with_reducible rfl
  try simp only [Act.put, List.setIfInBounds_toArray, List.set_cons_zero, List.set_cons_succ]
  refine wpAnyH_take (i := 18) (v := ?vq8a18) rfl (by kernel_rfl) (by kernel_rfl) (by kernel_rfl) (fun _ _ _ h => h) (Or.inl ⟨by rfl, ?hq8a18⟩) (by assumption) ?rq8a18
  case hq8a18 =>
    intro w hSw
    try dsimp only at hSw
    go_simp
    try with_reducible rfl
  try simp only [Act.put, List.setIfInBounds_toArray, List.set_cons_zero, List.set_cons_succ]
  refine wpAnyH_ready (rs := [19]) (by kernel_rfl) (by simp) ?_
  refine AllReadyH.cons rfl (fun K hK => ?sq9c19) AllReadyH.nil
  go_simp
  refine (known7_any _).mono ?_
  rintro e y9 ⟨rfl, hy⟩
  have B9 : Below V.heap.size V y9 := B8.trans (hy.mono B8.size)
  have D9 := hy
  clear hy
  go_simp
  refine hK.out _ _ ?kq9c19 (fun hHeld => ?mq9c19)
  case kq9c19 =>
    try dsimp only
    exact mkS _ B9
  clear hK K
  try simp only [Act.put, List.setIfInBounds_toArray, List.set_cons_zero, List.set_cons_succ]
  refine wpAnyH_take (i := 20) (v := ?vq9a20) rfl (by kernel_rfl) (by kernel_rfl) (by kernel_rfl) (fun _ _ _ h => h) (Or.inl ⟨by rfl, ?hq9a20⟩) (by assumption) ?rq9a20
  case hq9a20 =>
    intro w hSw
    try dsimp only at hSw
    go_simp
    try with_reducible rfl
  try simp only [Act.put, List.setIfInBounds_toArray, List.set_cons_zero, List.set_cons_succ]
  refine wpAnyH_ready (rs := [21]) (by kernel_rfl) (by simp) ?_
  refine AllReadyH.cons rfl (fun K hK => ?sq9d21) AllReadyH.nil
  go_simp
  refine hK.out _ _ ?kq9d21 (fun hHeld => ?mq9d21)
  case kq9d21 =>
    try dsimp only
    exact mkS _ B9
  clear hK K
  try simp only [Act.put, List.setIfInBounds_toArray, List.set_cons_zero, List.set_cons_succ]
  refine wpAnyH_done (by kernel_rfl) ?_ _
  go_wp2
  go_ret
  exact ⟨rfl, hBV.trans (B9.mono hBV.size)⟩
end Go.Proofs.YtnhfjacifajdlaaGreat
