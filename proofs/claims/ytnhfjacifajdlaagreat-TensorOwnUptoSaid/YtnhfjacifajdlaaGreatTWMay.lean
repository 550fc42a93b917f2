/-
  Layer 7's law TensorMay: for every tensor the law holds (arguments that hold together at most 1048576 values).
-/
import Derived.Test.YtnhfjacifajdlaaGreatTLaw
import Derived.Test.YtnhfjacifajdlaaGreatTKnown
namespace Go.Proofs.YtnhfjacifajdlaaGreat
open Go.RowKit
set_option linter.unusedVariables false
set_option linter.unusedSimpArgs false

/-- what Own answers, as it is handed in again -/
theorem ownT_tens {base : Nat} {w : World} {a b : Option Addr} {ca cb : Nat} {s : List Int} {qs : List Q3} (S : ResS base w (.slice a s.length ca) s) (E : RowO base 44 (fun W v x => RawO base W v x) w (.slice b qs.length cb) qs) :
    TensQ w (.agg #[.slice a s.length ca, .slice b qs.length cb]) s qs a ca b cb := ⟨rfl, S.at_.2.1, S.at_.2.2, E.at_.2.1.imp (fun v x _ h => h.raw), E.at_.2.2⟩
set_option maxRecDepth 100000 in
set_option maxHeartbeats 8000000 in
theorem tensorMay_walk {v : Value} {s : List Int} {qs : List Q3} {a b : Option Addr} {ca cb : Nat} (W : World) (T : TensQ W v s qs a ca b cb) (ls : s.length ≤ 1048576) (lq : sizeQs qs ≤ 1048576) :
    Calls Tryz.prog 3 #[v] W fun e W' => e = .returned (.bool true) ∧ Below W.heap.size W W' := by
  have HT := Lib.hid T
  have hlen := sizeQs_len qs
  have HL := Lib.hid (lensQ.of lq)
  have hq1 : qs.length ≤ 1048576 := by omega
  obtain rfl := T.is
  obtain ⟨V, hV⟩ : ∃ V, W.alloc (.cells #[.slice a s.length ca, .slice b qs.length cb] 26) = V := ⟨_, rfl⟩
  have R0 : Row V W.heap.size 26 #[.slice a s.length ca, .slice b qs.length cb] := by rw [← hV]; exact Row.new _ _ _
  have hBV : Below W.heap.size W V := by rw [← hV]; exact (Below.refl _ _).alloc (by simp) _
  have tX : ∀ X, Below V.heap.size V X → TensQ X (.agg #[.slice a s.length ca, .slice b qs.length cb]) s qs a ca b cb := fun X h => HT.out.later (hBV.trans (h.mono hBV.size))
  have own1 := fun X (h : Below V.heap.size V X) => ownT_any (tX X h) (by omega) (by omega) (fun q hq => ⟨Nat.le_trans (HL.out q hq).1 (by omega), Nat.le_trans (HL.out q hq).2 (by omega)⟩)
  have ref1 := fun X (h : Below V.heap.size V X) => mayT_any (tX X h) (by omega) (fun q hq => ⟨Nat.le_trans (HL.out q hq).1 (by omega), Nat.le_trans (HL.out q hq).2 (by omega)⟩)
  obtain ⟨c0, c1, _, _⟩ := R0.two
  clear T
  have mkS : ∀ X, Below V.heap.size V X → X.cell? ⟨W.heap.size, 0, none⟩ = some (.slice a s.length ca) ∧ X.cell? ⟨W.heap.size, 1, none⟩ = some (.slice b qs.length cb) := fun X h => by
    obtain ⟨x0, x1, _⟩ := (R0.later h).two
    exact ⟨x0, x1⟩
  have B0 : Below V.heap.size V V.drew := (Below.refl _ V).drew
  go_enter Tryz.func3, Tryz.ntmps3
  go_wp2_with fail
  refine wp_region_held (S := fun X => X.cell? ⟨W.heap.size, 0, none⟩ = some (.slice a s.length ca) ∧ X.cell? ⟨W.heap.size, 1, none⟩ = some (.slice b qs.length cb)) (by kernel_rfl) ?_
  have hHeld := mkS _ B0
  refine wpAnyH_take (i := 0) (v := ?vq0a0) rfl (by kernel_rfl) (by kernel_rfl) (by kernel_rfl) (fun _ _ _ h => h) (Or.inl ⟨by rfl, ?hq0a0⟩) (by assumption) ?rq0a0
  case hq0a0 =>
    intro w hSw
    try dsimp only at hSw
    go_simp
    try with_reducible rfl
  try simp only [Act.put, List.setIfInBounds_toArray, List.set_cons_zero, List.set_cons_succ]
  refine wpAnyH_take (i := 3) (v := ?vq0a3) rfl (by kernel_rfl) (by kernel_rfl) (by kernel_rfl) (fun _ _ _ h => h) (Or.inl ⟨by rfl, ?hq0a3⟩) (by assumption) ?rq0a3
  case hq0a3 =>
    intro w hSw
    try dsimp only at hSw
    go_simp
    try with_reducible rfl
  try simp only [Act.put, List.setIfInBounds_toArray, List.set_cons_zero, List.set_cons_succ]
  refine wpAnyH_ready (rs := [1]) (by kernel_rfl) (by simp) ?_
  refine AllReadyH.cons rfl (fun K hK => ?sq1c1) AllReadyH.nil
  go_simp
  refine (own1 _ B0).mono ?_
  rintro e y1 ⟨a1, b1, ca1, cb1, rfl, S1, E1, hy⟩
  have B1 : Below V.heap.size V y1 := B0.trans (hy.mono B0.size)
  have D1 := hy
  clear hy
  have T1 := ownT_tens S1 E1
  go_simp
  refine hK.out _ _ ?kq1c1 (fun hHeld => ?mq1c1)
  case kq1c1 =>
    try dsimp only
    exact mkS _ B1
  clear hK K
  try simp only [Act.put, List.setIfInBounds_toArray, List.set_cons_zero, List.set_cons_succ]
  refine wpAnyH_ready (rs := [2]) (by kernel_rfl) (by simp) ?_
  refine AllReadyH.cons rfl (fun K hK => ?sq2c2) AllReadyH.nil
  go_simp
  refine (mayT7_any (n := 1048576) T1 ls hq1 HL.out (by omega)).mono ?_
  rintro e y2 ⟨rfl, hy⟩
  have B2 : Below V.heap.size V y2 := B1.trans (hy.mono B1.size)
  have D2 := hy
  clear hy
  go_simp
  refine hK.out _ _ ?kq2c2 (fun hHeld => ?mq2c2)
  case kq2c2 =>
    try dsimp only
    exact mkS _ B2
  clear hK K
  try simp only [Act.put, List.setIfInBounds_toArray, List.set_cons_zero, List.set_cons_succ]
  refine wpAnyH_ready (rs := [4]) (by kernel_rfl) (by simp) ?_
  refine AllReadyH.cons rfl (fun K hK => ?sq3c4) AllReadyH.nil
  go_simp
  refine (ref1 _ B2).mono ?_
  rintro e y3 ⟨rfl, hy⟩
  have B3 : Below V.heap.size V y3 := B2.trans (hy.mono B2.size)
  have D3 := hy
  clear hy
  go_simp
  refine hK.out _ _ ?kq3c4 (fun hHeld => ?mq3c4)
  case kq3c4 =>
    try dsimp only
    exact mkS _ B3
  clear hK K
  try simp only [Act.put, List.setIfInBounds_toArray, List.set_cons_zero, List.set_cons_succ]
  refine wpAnyH_take (i := 5) (v := ?vq3a5) rfl (by kernel_rfl) (by kernel_rfl) (by kernel_rfl) (fun _ _ _ h => h) (Or.inl ⟨by rfl, ?hq3a5⟩) (by assumption) ?rq3a5
  case hq3a5 =>
    intro w hSw
    try dsimp only at hSw
    go_simp
    try with_reducible rfl
  try simp only [Act.put, List.setIfInBounds_toArray, List.set_cons_zero, List.set_cons_succ]
  refine wpAnyH_take (i := 6) (v := ?vq3a6) rfl (by kernel_rfl) (by kernel_rfl) (by kernel_rfl) (fun _ _ _ h => h) (Or.inl ⟨by rfl, ?hq3a6⟩) (by assumption) ?rq3a6
  case hq3a6 =>
    intro w hSw
    try dsimp only at hSw
    go_simp
    try with_reducible rfl
  try simp only [Act.put, List.setIfInBounds_toArray, List.set_cons_zero, List.set_cons_succ]
  refine wpAnyH_ready (rs := [7]) (by kernel_rfl) (by simp) ?_
  refine AllReadyH.cons rfl (fun K hK => ?sq4c7) AllReadyH.nil
  go_simp
  refine (known7_any _).mono ?_
  rintro e y4 ⟨rfl, hy⟩
  have B4 : Below V.heap.size V y4 := B3.trans (hy.mono B3.size)
  have D4 := hy
  clear hy
  go_simp
  refine hK.out _ _ ?kq4c7 (fun hHeld => ?mq4c7)
  case kq4c7 =>
    try dsimp only
    exact mkS _ B4
  clear hK K
  try simp only [Act.put, List.setIfInBounds_toArray, List.set_cons_zero, List.set_cons_succ]
  refine wpAnyH_take (i := 8) (v := ?vq4a8) rfl (by kernel_rfl) (by kernel_rfl) (by kernel_rfl) (fun _ _ _ h => h) (Or.inl ⟨by rfl, ?hq4a8⟩) (by assumption) ?rq4a8
  case hq4a8 =>
    intro w hSw
    try dsimp only at hSw
    go_simp
    try with_reducible rfl
  try simp only [Act.put, List.setIfInBounds_toArray, List.set_cons_zero, List.set_cons_succ]
  refine wpAnyH_ready (rs := [9]) (by kernel_rfl) (by simp) ?_
  refine AllReadyH.cons rfl (fun K hK => ?sq4d9) AllReadyH.nil
  go_simp
  refine hK.out _ _ ?kq4d9 (fun hHeld => ?mq4d9)
  case kq4d9 =>
    try dsimp only
    exact mkS _ B4
  clear hK K
  try simp only [Act.put, List.setIfInBounds_toArray, List.set_cons_zero, List.set_cons_succ]
  refine wpAnyH_done (by kernel_rfl) ?_ _
  go_wp2
  go_ret
  exact ⟨rfl, hBV.trans (B4.mono hBV.size)⟩
end Go.Proofs.YtnhfjacifajdlaaGreat
