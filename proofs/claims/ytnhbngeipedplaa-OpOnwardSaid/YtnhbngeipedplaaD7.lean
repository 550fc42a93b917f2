/-
  Part 7 of 11: contracts and what they rest on (OKit, OOpen).
-/
import Derived.Test.YtnhbngeipedplaaD1
import Derived.Test.YtnhbngeipedplaaD2
import Derived.Test.YtnhbngeipedplaaD4
import Derived.Test.YtnhbngeipedplaaD5
import Derived.WalkKit
import Derived.Test.YtnhbngeipedplaaRows
import Derived.OrdersHeld
import Derived.Deep.RegionHeld
import Derived.BigQuiet
import Derived.Deep.QuietTactic
import Derived.Lib.Hide
import Derived.Lib.Small
import Derived.Lib.Walk
import Derived.Lib.BitFns
import Derived.Maps.AppendAt
import Derived.RangeFuncNested
import Derived.RangeFuncBound
import Derived.RangeFuncCalls
import Derived.RangeFuncLeaves
import Derived.Shelf.Abstract
import Derived.OwnWalkIn
import Derived.TacticsInMore
import Derived.LoopNIn
import Derived.LoopIn
import Derived.RangeFuncBox
import Derived.Deep.RegionHeld3
import Derived.OrdersIn
import Derived.StillTailTactics
import Derived.RangeFuncFrom
import Derived.Laws.EntriesVeiled
import Derived.ProofKit
import Derived.OpenShut
import Derived.JoinedCond
import Derived.Carry
import Derived.Laws.AppendOwnNone
import Derived.Lib.ItoaNum
import Derived.Deep.RegionLaw
import Derived.WalkMore
import Derived.Lib.SmallJoins
import Derived.IntWalk
import Derived.Deep.DeepCutAuto
import Derived.Laws.OwnMore
import Derived.ArgAppend
import Derived.Deep.Slices
import Derived.Laws.CopyOwn
import Derived.Lib.SliceRun
import Derived.SizedLaws
import Derived.Great.BuildSlice
namespace Go.Proofs.Ytnhbngeipedplaa
set_option maxRecDepth 100000
section
open Go.RowKit
set_option linter.unusedVariables false
set_option linter.unusedSimpArgs false
/-- a node as it came in -/
structure NodeA (w : World) (v : Value) (o : Int) (ys xs : List Int) (a1 : Option Addr) (c1 : Nat) (a2 : Option Addr) (c2 : Nat) : Prop where
  is : v = .agg #[.int .i64 o, .slice a1 ys.length c1, .slice a2 xs.length c2]
  args : ArgS w (.slice a1 ys.length c1) ys a1 c1
  nil1 : a1 = none → c1 = 0
  atts : ArgS w (.slice a2 xs.length c2) xs a2 c2
  nil2 : a2 = none → c2 = 0
theorem NodeA.later {w w' : World} {v : Value} {o : Int} {ys xs : List Int} {a1 : Option Addr} {c1 : Nat} {a2 : Option Addr} {c2 : Nat} (h : NodeA w v o ys xs a1 c1 a2 c2) (hb : Below w.heap.size w w') : NodeA w' v o ys xs a1 c1 a2 c2 := ⟨h.is, h.args.later hb, h.nil1, h.atts.later hb, h.nil2⟩
/-- a node of one's own -/
def NodeO (B : Nat) (w : World) (v : Value) (o : Int) (ys xs : List Int) : Prop := ∃ (a1 : Option Addr) (c1 : Nat) (a2 : Option Addr) (c2 : Nat), v = .agg #[.int .i64 o, .slice a1 ys.length c1, .slice a2 xs.length c2] ∧ ResS B w (.slice a1 ys.length c1) ys ∧ ResS B w (.slice a2 xs.length c2) xs
theorem res_slice11 {B : Nat} {w : World} {u : Value} {xs : List Int} (h : ResS B w u xs) : ∃ ad cap, u = .slice ad xs.length cap ∧ ResS B w (.slice ad xs.length cap) xs := by
  obtain ⟨ad, cap, h1, h2, _⟩ := h.slice
  exact ⟨ad, cap, h1, h2⟩
set_option maxRecDepth 100000 in
set_option maxHeartbeats 8000000 in
theorem own_any {w : World} {v : Value} {o : Int} {ys xs : List Int} {a1 a2 : Option Addr} {c1 c2 : Nat} (N : NodeA w v o ys xs a1 c1 a2 c2) (hy0 : ys.length ≤ 17592186044416) (hx0 : xs.length ≤ 17592186044416) :
    Calls Try.prog 19 #[v] w fun e w' => ∃ r, e = .returned r ∧ NodeO w.heap.size w' r o ys xs ∧ Below w.heap.size w w' := by
  have HN := Lib.hid N
  obtain rfl := N.is
  obtain ⟨m1, hm1⟩ : ∃ m, ys.length = m := ⟨_, rfl⟩
  obtain ⟨m2, hm2⟩ : ∃ m, xs.length = m := ⟨_, rfl⟩
  have A1 := N.args
  have A2 := N.atts
  rw [hm1] at A1 ⊢
  rw [hm2] at A2 ⊢
  have HA1 := Lib.hid A1
  have HA2 := Lib.hid A2
  have HM1 := Lib.hid hm1
  have HM2 := Lib.hid hm2
  obtain ⟨W, hW⟩ : ∃ W, ((w.alloc (.cells #[.int .i64 o, .slice a1 m1 c1, .slice a2 m2 c2] 37)).alloc (.cells #[.int .i64 0, .slice none 0 0, .slice none 0 0] 37)) = W := ⟨_, rfl⟩
  have R0 : Row W w.heap.size 37 #[.int .i64 o, .slice a1 m1 c1, .slice a2 m2 c2] := by rw [← hW]; exact (Row.new _ _ _).alloc _
  have R1 : Row W (w.heap.size + 1) 37 #[.int .i64 0, .slice none 0 0, .slice none 0 0] := by rw [← hW]; have h := Row.new (w.alloc (.cells #[.int .i64 o, .slice a1 m1 c1, .slice a2 m2 c2] 37)) 37 #[.int .i64 0, .slice none 0 0, .slice none 0 0]; (try simp only [World.size_alloc] at h); exact h
  have hbW : Below w.heap.size w W := by rw [← hW]; exact ((Below.refl _ _).alloc (by (try simp) <;> omega) _).alloc (by (try simp) <;> omega) _
  have MK := Lib.hid (show ∀ X, Below W.heap.size W X → (fun X => X.cell? ⟨w.heap.size, 0, none⟩ = some (.int .i64 o) ∧ X.cell? ⟨w.heap.size, 1, none⟩ = some (.slice a1 m1 c1) ∧ X.cell? ⟨w.heap.size, 2, none⟩ = some (.slice a2 m2 c2)) X from fun X h => by
    obtain ⟨g0, g1, g2, _⟩ := (R0.later h).three
    exact ⟨g0, g1, g2⟩)
  have B0 : Below W.heap.size W W.drew := (Below.refl _ _).drew
  clear A1 A2 hm1 hm2 N R0
  go_enter Try.func19, Try.ntmps19
  (try rw [hW])
  go_wp2_with fail
  (try rw [hW])
  clear hW
  refine wp_region_held_drew (S := fun X => X.cell? ⟨w.heap.size, 0, none⟩ = some (.int .i64 o) ∧ X.cell? ⟨w.heap.size, 1, none⟩ = some (.slice a1 m1 c1) ∧ X.cell? ⟨w.heap.size, 2, none⟩ = some (.slice a2 m2 c2)) (by kernel_rfl) (MK.out _ B0) (fun hHeld => ?_)
  obtain ⟨y0, hdr⟩ : ∃ Y, W.drew = Y := ⟨_, rfl⟩
  rw [hdr] at B0 hHeld ⊢
  clear hdr
  refine todo [0, 1, 2, 3, 5, 6] ?_
  iterate 6
   first
   | (refine todoH (v := ?_) rfl (by kernel_rfl) (fun _ _ _ h => h) (by assumption) (Or.inl ⟨by rfl, ?_⟩) ?_
      rotate_left
      · intro w hSw; (try dsimp only at hSw); go_simp; (try with_reducible rfl)
      try simp only [Act.put, List.getElem_toArray, List.getElem_cons_succ, List.getElem_cons_zero, List.setIfInBounds_toArray, List.set_cons_zero, List.set_cons_succ])
   | (refine todoH (v := undef) rfl (by kernel_rfl) (fun _ _ _ h => h) (by assumption) (Or.inr ⟨by rfl, rfl⟩) ?_
      try simp only [Act.put, List.getElem_toArray, List.getElem_cons_succ, List.getElem_cons_zero, List.setIfInBounds_toArray, List.set_cons_zero, List.set_cons_succ])
  refine todone ?_
  refine wpAnyH_ready (rs := [4]) (by kernel_rfl) (by simp) ?_
  refine AllReadyH.cons rfl (fun K hK => ?so_4) AllReadyH.nil
  refine step_copyK rfl 6 35 Try.underlying35 rfl (u := .slice a1 m1 c1) rfl (HA1.out.later (hbW.trans (B0.mono hbW.size))) HN.out.nil1 (by omega) ?_
  intro v1 y1 q1 hy
  obtain ⟨ad1, cp1, rfl, r1⟩ := res_slice11 q1
  have B1 : Below W.heap.size W y1 := B0.trans (hy.mono B0.size)
  have D1 := hy
  clear hy
  rw [HM1.out] at r1 ⊢
  refine hK.out _ _ (MK.out _ B1) (fun hHeld2 => ?mo_4)
  clear hK K hHeld
  have hHeld := hHeld2
  clear hHeld2
  try simp only [Act.put, List.getElem_toArray, List.getElem_cons_succ, List.getElem_cons_zero, List.setIfInBounds_toArray, List.set_cons_zero, List.set_cons_succ]
  refine wpAnyH_ready (rs := [7]) (by kernel_rfl) (by simp) ?_
  refine AllReadyH.cons rfl (fun K hK => ?so_7) AllReadyH.nil
  refine step_copyK rfl 9 35 Try.underlying35 rfl (u := .slice a2 m2 c2) rfl (HA2.out.later (hbW.trans (B1.mono hbW.size))) HN.out.nil2 (by omega) ?_
  intro v2 y2 q2 hy
  obtain ⟨ad2, cp2, rfl, r2⟩ := res_slice11 q2
  have B2 : Below W.heap.size W y2 := B1.trans (hy.mono B1.size)
  have D2 := hy
  clear hy
  rw [HM2.out] at r2 ⊢
  refine hK.out _ _ (MK.out _ B2) (fun hHeld2 => ?mo_7)
  clear hK K hHeld
  have hHeld := hHeld2
  clear hHeld2
  try simp only [Act.put, List.getElem_toArray, List.getElem_cons_succ, List.getElem_cons_zero, List.setIfInBounds_toArray, List.set_cons_zero, List.set_cons_succ]
  refine todo [8] ?_
  iterate 1
   first
   | (refine todoH (v := ?_) rfl (by kernel_rfl) (fun _ _ _ h => h) (by assumption) (Or.inl ⟨by rfl, ?_⟩) ?_
      rotate_left
      · intro w hSw; (try dsimp only at hSw); go_simp; (try with_reducible rfl)
      try simp only [Act.put, List.getElem_toArray, List.getElem_cons_succ, List.getElem_cons_zero, List.setIfInBounds_toArray, List.set_cons_zero, List.set_cons_succ])
   | (refine todoH (v := undef) rfl (by kernel_rfl) (fun _ _ _ h => h) (by assumption) (Or.inr ⟨by rfl, rfl⟩) ?_
      try simp only [Act.put, List.getElem_toArray, List.getElem_cons_succ, List.getElem_cons_zero, List.setIfInBounds_toArray, List.set_cons_zero, List.set_cons_succ])
  refine todone ?_
  have R2 := R1.later B2
  have P3 := R2.setRow (cs := #[.int .i64 o, .slice ad1 m1 cp1, .slice ad2 m2 cp2])
  have hE := below_setRow (cs := #[.int .i64 o, .slice ad1 m1 cp1, .slice ad2 m2 cp2]) (hbW.trans (B2.mono hbW.size)) (show w.heap.size ≤ w.heap.size + 1 by omega)
  obtain ⟨z0, z1, z2, _, _, _⟩ := P3.three
  refine wpAnyH_ready (rs := [9]) (by kernel_rfl) (by simp) ?_
  refine AllReadyH.cons rfl (fun K hK => ?so_9) AllReadyH.nil
  refine wanted_if (by kernel_rfl) ?_
  refine wp_store_row 37 _ _ rfl (w.heap.size + 1) #[.int .i64 o, .slice ad1 m1 cp1, .slice ad2 m2 cp2] (by rfl) (by rfl) 37 #[.int .i64 0, .slice none 0 0, .slice none 0 0] R2 (by kernel_rfl) rfl (by kernel_rfl) ?_
  refine hK.out _ _ (by
    obtain ⟨g0, g1, g2⟩ := MK.out _ B2
    exact ⟨(cell_setRow_other _ _ _ _ (by show w.heap.size ≠ w.heap.size + 1; omega)).trans g0, (cell_setRow_other _ _ _ _ (by show w.heap.size ≠ w.heap.size + 1; omega)).trans g1, (cell_setRow_other _ _ _ _ (by show w.heap.size ≠ w.heap.size + 1; omega)).trans g2⟩) (fun hHeld2 => ?mo_9)
  clear hK K hHeld
  try simp only [Act.put, List.getElem_toArray, List.getElem_cons_succ, List.getElem_cons_zero, List.setIfInBounds_toArray, List.set_cons_zero, List.set_cons_succ]
  refine wpAnyH_done (by kernel_rfl) ?_ _
  (try dsimp only [Straight])
  go_wp2_with fail
  have r1' := (r1.later D2).mono (base' := w.heap.size) (Nat.le_trans hbW.size B0.size)
  have r2' := r2.mono (base' := w.heap.size) (Nat.le_trans hbW.size B1.size)
  have f1 := r1'.far R2 (by decide) (fun k hk => setRow_other _ _ _ #[.int .i64 o, .slice ad1 m1 cp1, .slice ad2 m2 cp2] hk)
  have f2 := r2'.far R2 (by decide) (fun k hk => setRow_other _ _ _ #[.int .i64 o, .slice ad1 m1 cp1, .slice ad2 m2 cp2] hk)
  exact bodyPost_ret (v := .agg #[.int .i64 o, .slice ad1 m1 cp1, .slice ad2 m2 cp2]) (by simp [results, Try.results19, go_sem, z0, z1, z2]) rfl ⟨_, rfl, ⟨ad1, cp1, ad2, cp2, by rw [HM1.out, HM2.out], by rw [HM1.out]; exact f1, by rw [HM2.out]; exact f2⟩, hE⟩
set_option maxRecDepth 100000 in
set_option maxHeartbeats 4000000 in
theorem nodeN_any (o : Int) {a : Option Addr} {n c : Nat} (w : World) : Calls Try.prog 28 #[.int .i64 o, .slice a n c] w fun e w' => ∃ g, e = .returned (.agg #[.int .i64 o, .slice (some ⟨g, 0, none⟩) 1 1, .slice a n c]) ∧ Below w.heap.size w w' := by
  obtain ⟨W, hW⟩ : ∃ W, w.alloc (.cells #[.int .i64 0, .slice none 0 0, .slice none 0 0] 37) = W := ⟨_, rfl⟩
  have R0 : Row W w.heap.size 37 #[.int .i64 0, .slice none 0 0, .slice none 0 0] := by rw [← hW]; exact Row.new _ _ _
  have hbW : Below w.heap.size w W := by rw [← hW]; exact (Below.refl _ _).alloc (Nat.le_refl _) _
  have R1 := R0.alloc (.cells #[.int .i64 0] 3)
  have P3 := R1.setRow (cs := #[.int .i64 o, .slice (some ⟨W.heap.size, 0, none⟩) 1 1, .slice a n c])
  have hE := below_setRow (cs := #[.int .i64 o, .slice (some ⟨W.heap.size, 0, none⟩) 1 1, .slice a n c]) (hbW.alloc hbW.size (.cells #[.int .i64 0] 3)) (Nat.le_refl w.heap.size)
  obtain ⟨z0, z1, z2, _, _, _⟩ := P3.three
  go_enter Try.func28, Try.ntmps28
  (try rw [hW])
  go_wp2_with (refine wpList_store_row rfl 37 _ _ rfl w.heap.size #[.int .i64 o, .slice (some ⟨W.heap.size, 0, none⟩) 1 1, .slice a n c] (by rfl) (by rfl) 37 #[.int .i64 0, .slice none 0 0, .slice none 0 0] R1 (by kernel_rfl) rfl (by kernel_rfl) ?_)
  exact bodyPost_ret (v := .agg #[.int .i64 o, .slice (some ⟨W.heap.size, 0, none⟩) 1 1, .slice a n c]) (by simp [results, Try.results28, go_sem, z0, z1, z2]) rfl ⟨_, rfl, hE⟩
end
section
open Go.RowKit Go.ChangeShapes Go.WideShapes Go.ChangeAt Go.Joins Go.Deep
set_option linter.unusedVariables false
set_option linter.unusedSimpArgs false
set_option maxRecDepth 100000
theorem cellsNode : Try.prog.cellsOf 37 = 3 := by kernel_rfl
theorem reach_in {k : Nat} {l : List Nat} {n : Nat} (hin : ∀ m, m ∈ l → m ≤ 140737488351232) (l1 : n = 0 ∨ n * 8 ∈ l ∨ ∃ m, n ≤ m ∧ m * 8 ∈ l) : n ≤ 17592186043904 := by
  rcases l1 with l1 | l1 | ⟨m, l1, l2⟩
  · omega
  · have := hin _ l1; omega
  · have := hin _ l2; omega
theorem open_node {H : Type} {enc : TypeId × Value → H} {W : World} {v : Value} {d : DataW H} {p : List MemPlace} {base : Nat}
    (hval : Value.okWide Try.prog W .any base 37 v) (h : DataW.Trod enc Try.prog W 0 (fun _ => true) true 37 v d p) (hk : ∀ n ∈ DataW.weights Try.prog 37 d, n ≤ reachBytes) :
    ∃ (o : Int) (ys xs : List Int) (a : Option Addr) (ca : Nat) (b : Option Addr) (cb : Nat), NodeA W v o ys xs a ca b cb ∧ ys.length ≤ 17592186043904 ∧ xs.length ≤ 17592186043904 := by
  obtain ⟨v0, v1, v2, y0, y1, y2, n, rfl, rfl, rfl, h0, h1, h2⟩ := open_agg3 Try.underlying37 (by kernel_rfl) cellsNode hval h
  obtain ⟨o, ho, _⟩ := DataW.trod_int Try.underlying22 h0
  simp at ho
  subst ho
  obtain ⟨a, ys, ca, rfl, A, l1, n1⟩ := open_intsW Try.underlying35 h1
  obtain ⟨b, xs, cb, rfl, B, l2, n2⟩ := open_intsW Try.underlying35 h2
  refine ⟨o, ys, xs, a, ca, b, cb, ⟨rfl, A, n1, B, n2⟩, reach_in (k := 0) (fun m hm => ?_) l1, reach_in (k := 0) (fun m hm => ?_) l2⟩
  · refine Nat.le_trans (hk m ?_) (by decide)
    simp only [DataW.weights, Try.underlying37]
    exact DataW.weights_mem_each (j := 1) rfl rfl m hm
  · refine Nat.le_trans (hk m ?_) (by decide)
    simp only [DataW.weights, Try.underlying37]
    exact DataW.weights_mem_each (j := 2) rfl rfl m hm
end
end Go.Proofs.Ytnhbngeipedplaa
