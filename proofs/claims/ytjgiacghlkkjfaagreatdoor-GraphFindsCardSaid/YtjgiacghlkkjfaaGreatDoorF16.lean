/-
  Part 16 of 29: contracts and what they rest on (OCode3, OCode5, OCode6).
-/
import Derived.Test.YtjgiacghlkkjfaaGreatDoorF1
import Derived.Test.YtjgiacghlkkjfaaGreatDoorF2
import Derived.Test.YtjgiacghlkkjfaaGreatDoorF3
import Derived.Test.YtjgiacghlkkjfaaGreatDoorF4
import Derived.Test.YtjgiacghlkkjfaaGreatDoorF5
import Derived.Test.YtjgiacghlkkjfaaGreatDoorF7
import Derived.Test.YtjgiacghlkkjfaaGreatDoorF8
import Derived.Test.YtjgiacghlkkjfaaGreatDoorF9
import Derived.Test.YtjgiacghlkkjfaaGreatDoorF10
import Derived.Test.YtjgiacghlkkjfaaGreatDoorF13
import Derived.Test.YtjgiacghlkkjfaaGreatDoorF14
import Derived.WalkKit
import Derived.Test.YtjgiacghlkkjfaaGreatDoorRows
import Derived.OrdersHeld
import Derived.Deep.RegionHeld
import Derived.BigQuiet
import Derived.Deep.QuietTactic
import Derived.Lib.Hide
import Derived.Lib.Small
import Derived.Lib.Walk
import Derived.Lib.BitFns
import Derived.Maps.AppendAt
import Derived.RangeFuncNested
import Derived.RangeFuncBound
import Derived.RangeFuncCalls
import Derived.RangeFuncLeaves
import Derived.Shelf.Abstract
import Derived.OwnWalkIn
import Derived.TacticsInMore
import Derived.LoopNIn
import Derived.LoopIn
import Derived.RangeFuncBox
import Derived.Deep.RegionHeld3
import Derived.OrdersIn
import Derived.StillTailTactics
import Derived.RangeFuncFrom
import Derived.Laws.EntriesVeiled
import Derived.ProofKit
import Derived.OpenShut
import Derived.JoinedCond
import Derived.Carry
import Derived.Laws.AppendOwnNone
import Derived.Lib.ItoaNum
import Derived.Deep.RegionLaw
import Derived.WalkMore
import Derived.Lib.SmallJoins
import Derived.IntWalk
import Derived.Deep.DeepCutAuto
import Derived.Laws.OwnMore
import Derived.ArgAppend
import Derived.Deep.Slices
import Derived.Laws.CopyOwn
import Derived.Lib.SliceRun
import Derived.SizedLaws
import Derived.Great.BuildSlice
namespace Go.Proofs.YtjgiacghlkkjfaaGreatDoor
set_option maxRecDepth 100000
section
open Go.RowKit
set_option linter.unusedVariables false
set_option linter.unusedSimpArgs false
set_option maxRecDepth 100000 in
set_option maxHeartbeats 4000000 in
theorem axesL_any {u : Value} {l : List Int} {a : Option Addr} {ca : Nat} {w : World} (rank : Int) (A : ArgS w u l a ca) (ha : a = none → ca = 0) (hx : l.length ≤ 17592186044416) (h0 : -9223372036854775808 ≤ rank) (h1 : rank ≤ 9223372036854775807) :
    Calls Tryz.prog 185 #[u, .int .i64 rank] w fun e w' => e = .returned (.int .i64 (axesC l rank)) ∧ Below w.heap.size w w' := by
  refine Calls.mono (R := fun e w' => e = .returned (.int .i64 (axesC l rank)) ∧ w = w') ?_ (fun _ _ ⟨h1, h2⟩ => ⟨h1, h2 ▸ Below.refl _ _⟩)
  have HA := Lib.hid A
  obtain rfl := A.is
  obtain ⟨c, hc⟩ : ∃ c, axesC l rank = c := ⟨_, rfl⟩
  obtain ⟨L, hL⟩ : ∃ L, l.length = L := ⟨_, rfl⟩
  rw [hL] at hx
  rw [hc, hL]
  have HC := Lib.hid hc
  have HL := Lib.hid hL
  clear A ha hc hL
  go_enter Tryz.func185, Tryz.ntmps185
  go_wp2
  go_loop [5, 7, 10] (fun p _ i => ∃ (k : Nat), i = .int .i64 (k : Int) ∧ p = .int .i64 (lastS l k) ∧ k ≤ L ∧ axU l rank k) (fun _ _ i => L - (intOf i).toNat)
  case atStart => exact ⟨0, rfl, rfl, Nat.zero_le _, fun i hi => by omega⟩
  case round =>
    obtain ⟨k, rfl, rfl, hk, hax⟩ := hrel
    have HX := Lib.hid hax
    obtain ⟨p, hp⟩ : ∃ p, lastS l k = p := ⟨_, rfl⟩
    have HP := Lib.hid hp
    rw [hp]
    clear hax hp
    by_cases hlt : k < L
    · obtain ⟨b1, o1, rfl, c1⟩ := HA.out.at (i := k) (by rw [HL.out]; exact hlt)
      obtain ⟨x, hxe⟩ : ∃ x, l.getD k 0 = x := ⟨_, rfl⟩
      rw [hxe] at c1
      have HXE := Lib.hid hxe
      have hbw := below_any x rank w
      have hltI : (k : Int) < (L : Int) := by omega
      clear hxe
      by_cases hg : 0 ≤ x ∧ x < rank ∧ p < x
      · obtain ⟨g0, g1, g2⟩ := hg
        rw [belowB_yes g0 g1] at hbw
        have g3 : ¬ x ≤ p := by omega
        have hn : axU l rank (k + 1) := HX.out.next (by rw [HXE.out, HP.out]; exact g2) (by rw [HXE.out]; exact g0) (by rw [HXE.out]; exact g1)
        have HN := Lib.hid hn
        clear hn
        go_wp2_with (go_at_call 227; refine hbw.mono ?_; rintro e w1 ⟨rfl, rfl⟩)
        go_round
        case rel => exact ⟨k + 1, by go_num, congrArg (Value.int .i64) HXE.out.symm, by omega, HN.out⟩
        case measure => simp [intOf]; omega
      · have hno : axesC l rank = 11 := by
          unfold axesC
          rw [if_neg]
          intro h
          unfold axesB at h
          have h2 := of_decide_eq_true h
          have := axU.not (k := k) (by rw [HL.out]; exact hlt) h2
          rw [HXE.out, HP.out] at this
          exact hg ⟨this.1.1, this.1.2, this.2⟩
        obtain rfl : c = 11 := by rw [← HC.out]; exact hno
        clear hno
        by_cases g3 : x ≤ p
        · clear hg
          go_wp2_with (go_at_call 227; refine hbw.mono ?_; rintro e w1 ⟨rfl, rfl⟩)
          go_ret
          exact ⟨rfl, rfl⟩
        · rw [belowB_no (by omega)] at hbw
          clear hg
          go_wp2_with (go_at_call 227; refine hbw.mono ?_; rintro e w1 ⟨rfl, rfl⟩)
          go_ret
          exact ⟨rfl, rfl⟩
    · obtain rfl : k = L := by omega
      have hyes : axesC l rank = 0 := by
        unfold axesC
        rw [if_pos]
        unfold axesB
        refine decide_eq_true ?_
        rw [HL.out]
        exact HX.out
      obtain rfl : c = 0 := by rw [← HC.out]; exact hyes
      have hltI : ¬ (k : Int) < (k : Int) := by omega
      clear hyes
      go_wp2
      go_ret
      exact ⟨rfl, rfl⟩
set_option maxRecDepth 100000 in
set_option maxHeartbeats 4000000 in
theorem isFraction_any {u : Value} {xs : List Int} {a : Option Addr} {ca : Nat} {w : World} (A : ArgS w u xs a ca) (hx : xs.length ≤ 17592186044416) (hbd : ∀ x ∈ xs, -2147483647 ≤ x ∧ x ≤ 2147483647) : Calls Tryz.prog 281 #[u] w fun e w' => e = .returned (.bool (fracB xs)) ∧ Below w.heap.size w w' := by
  have HA := Lib.hid A
  obtain rfl := A.is
  obtain ⟨c, hc⟩ : ∃ c, fracB xs = c := ⟨_, rfl⟩
  rw [hc]
  have h2 := fun i (hi : i < xs.length) => hbd (xs.getD i 0) (by rw [List.getD_eq_getElem?_getD, List.getElem?_eq_getElem hi]; exact List.getElem_mem hi)
  obtain ⟨L, hL⟩ : ∃ L, xs.length = L := ⟨_, rfl⟩
  rw [hL] at hx h2 ⊢
  clear hbd
  by_cases h0 : L = 2
  · subst h0
    obtain ⟨b, o, rfl, hcell⟩ := HA.out.at (i := 0) (by omega)
    obtain ⟨b', o', he, hcell1⟩ := HA.out.at (i := 1) (by omega)
    simp only [Option.some.injEq, Addr.mk.injEq, and_true] at he
    obtain ⟨rfl, rfl⟩ := he
    obtain ⟨x0, x1⟩ := h2 0 (by omega)
    obtain ⟨z0, z1⟩ := h2 1 (by omega)
    obtain ⟨x, hxe⟩ : ∃ x, xs.getD 0 0 = x := ⟨_, rfl⟩
    obtain ⟨y, hye⟩ : ∃ y, xs.getD 1 0 = y := ⟨_, rfl⟩
    rw [hxe] at hcell x0 x1
    rw [hye] at hcell1 z0 z1
    rw [Nat.add_zero] at hcell
    have hcc : (decide (1 ≤ y) && copB x y) = c := by rw [← hc, ← hxe, ← hye]; unfold fracB; rw [hL]; simp
    have l1 := World.block_lt_of_cell? _ _ hcell
    have l2 := World.block_lt_of_cell? _ _ hcell1
    have MK := Lib.hid (show ∀ X, Below w.heap.size w X → X.cell? ⟨b, o, none⟩ = some (.int .i64 x) ∧ X.cell? ⟨b, o + 1, none⟩ = some (.int .i64 y) from fun X h => ⟨(h.cell l1).trans hcell, (h.cell l2).trans hcell1⟩)
    clear hc hL hxe hye hcell hcell1 h2
    by_cases hy1 : 1 ≤ y
    · obtain rfl : copB x y = c := by rw [← hcc, decide_eq_true hy1]; simp
      clear hcc
      have B0 : Below w.heap.size w w.drew := (Below.refl _ _).drew
      go_enter Tryz.func281, Tryz.ntmps281
      go_wp2_with fail
      refine wp_region_held_drew (S := fun X => X.cell? ⟨b, o, none⟩ = some (.int .i64 x) ∧ X.cell? ⟨b, o + 1, none⟩ = some (.int .i64 y)) (by kernel_rfl) (MK.out _ B0) (fun hHeld => ?_)
      obtain ⟨y0, hdrh⟩ : ∃ Y, w.drew = Y := ⟨_, rfl⟩
      rw [hdrh] at B0 hHeld ⊢
      clear hdrh
      refine todo [0, 1, 2, 3, 4, 5, 6, 7, 8, 9, 10, 11, 12, 13, 14, 15] ?_
      iterate 16
       first
       | (refine todoH (v := ?_) rfl (by kernel_rfl) (fun _ _ _ h => h) (by assumption) (Or.inl ⟨by rfl, ?_⟩) ?_
          rotate_left
          · intro w hSw; (try dsimp only at hSw); go_simp; (try with_reducible rfl)
          try simp only [Act.put, List.getElem_toArray, List.getElem_cons_succ, List.getElem_cons_zero, List.setIfInBounds_toArray, List.set_cons_zero, List.set_cons_succ])
       | (refine todoH (v := undef) rfl (by kernel_rfl) (fun _ _ _ h => h) (by assumption) (Or.inr ⟨by rfl, rfl⟩) ?_
          try simp only [Act.put, List.getElem_toArray, List.getElem_cons_succ, List.getElem_cons_zero, List.setIfInBounds_toArray, List.set_cons_zero, List.set_cons_succ])
      refine todone ?_
      refine wpAnyH_ready (rs := [16]) (by kernel_rfl) (by simp) ?_
      refine AllReadyH.cons rfl (fun K hK => ?sh_16) AllReadyH.nil
      go_simp
      refine (coprime_any x0 x1 z0 z1 _).mono ?_
      rintro e y1 ⟨rfl, hy⟩
      have B1 : Below w.heap.size w y1 := B0.trans (hy.mono B0.size)
      have Dh1 := hy
      clear hy
      go_simp
      refine hK.out _ _ (MK.out _ B1) (fun hHeld2 => ?mh_16)
      clear hK K hHeld
      have hHeld := hHeld2
      clear hHeld2
      try simp only [Act.put, List.getElem_toArray, List.getElem_cons_succ, List.getElem_cons_zero, List.setIfInBounds_toArray, List.set_cons_zero, List.set_cons_succ]
      refine todo [17, 18] ?_
      iterate 2
       first
       | (refine todoH (v := ?_) rfl (by kernel_rfl) (fun _ _ _ h => h) (by assumption) (Or.inl ⟨by rfl, ?_⟩) ?_
          rotate_left
          · intro w hSw; (try dsimp only at hSw); go_simp; (try with_reducible rfl)
          try simp only [Act.put, List.getElem_toArray, List.getElem_cons_succ, List.getElem_cons_zero, List.setIfInBounds_toArray, List.set_cons_zero, List.set_cons_succ])
       | (refine todoH (v := undef) rfl (by kernel_rfl) (fun _ _ _ h => h) (by assumption) (Or.inr ⟨by rfl, rfl⟩) ?_
          try simp only [Act.put, List.getElem_toArray, List.getElem_cons_succ, List.getElem_cons_zero, List.setIfInBounds_toArray, List.set_cons_zero, List.set_cons_succ])
      refine todone ?_
      refine wpAnyH_done (by kernel_rfl) ?_ _
      (try dsimp only [Straight])
      go_wp2_with fail
      go_ret
      exact ⟨rfl, B1⟩
    · obtain rfl : c = false := by rw [← hcc, decide_eq_false hy1]; simp
      have hyI : decide (y ≥ 1) = false := decide_eq_false (by omega)
      clear hcc
      have B0 : Below w.heap.size w w.drew := (Below.refl _ _).drew
      go_enter Tryz.func281, Tryz.ntmps281
      go_wp2_with fail
      refine wp_region_held_drew (S := fun X => X.cell? ⟨b, o, none⟩ = some (.int .i64 x) ∧ X.cell? ⟨b, o + 1, none⟩ = some (.int .i64 y)) (by kernel_rfl) (MK.out _ B0) (fun hHeld => ?_)
      refine todo [0, 1, 2, 3, 4, 5, 6, 7, 8, 9, 10, 11, 12, 13, 14, 15, 16, 17, 18] ?_
      iterate 19
       first
       | (refine todoH (v := ?_) rfl (by kernel_rfl) (fun _ _ _ h => h) (by assumption) (Or.inl ⟨by rfl, ?_⟩) ?_
          rotate_left
          · intro w hSw; (try dsimp only at hSw); go_simp; (try with_reducible rfl)
          try simp only [Act.put, List.getElem_toArray, List.getElem_cons_succ, List.getElem_cons_zero, List.setIfInBounds_toArray, List.set_cons_zero, List.set_cons_succ])
       | (refine todoH (v := undef) rfl (by kernel_rfl) (fun _ _ _ h => h) (by assumption) (Or.inr ⟨by rfl, rfl⟩) ?_
          try simp only [Act.put, List.getElem_toArray, List.getElem_cons_succ, List.getElem_cons_zero, List.setIfInBounds_toArray, List.set_cons_zero, List.set_cons_succ])
      refine todone ?_
      refine wpAnyH_done (by kernel_rfl) ?_ _
      (try dsimp only [Straight])
      go_wp2_with fail
      go_ret
      exact ⟨rfl, B0⟩
  · obtain rfl : c = false := by rw [← hc]; unfold fracB; rw [hL, decide_eq_false (fun h => h0 h.1)]; simp
    have h0I : ((L : Int) == 2) = false := by simp; omega
    clear hc hL h2
    have B0 : Below w.heap.size w w.drew := (Below.refl _ _).drew
    go_enter Tryz.func281, Tryz.ntmps281
    go_wp2_with fail
    refine wp_region_held_drew (S := fun _ => True) (by kernel_rfl) (trivial) (fun hHeld => ?_)
    refine todo [0, 1, 2, 3, 4, 5, 6, 7, 8, 9, 10, 11, 12, 13, 14, 15, 16, 17, 18] ?_
    iterate 19
     first
     | (refine todoH (v := ?_) rfl (by kernel_rfl) (fun _ _ _ h => h) (by assumption) (Or.inl ⟨by rfl, ?_⟩) ?_
        rotate_left
        · intro w hSw; (try dsimp only at hSw); go_simp; (try with_reducible rfl)
        try simp only [Act.put, List.getElem_toArray, List.getElem_cons_succ, List.getElem_cons_zero, List.setIfInBounds_toArray, List.set_cons_zero, List.set_cons_succ])
     | (refine todoH (v := undef) rfl (by kernel_rfl) (fun _ _ _ h => h) (by assumption) (Or.inr ⟨by rfl, rfl⟩) ?_
        try simp only [Act.put, List.getElem_toArray, List.getElem_cons_succ, List.getElem_cons_zero, List.setIfInBounds_toArray, List.set_cons_zero, List.set_cons_succ])
    refine todone ?_
    refine wpAnyH_done (by kernel_rfl) ?_ _
    (try dsimp only [Straight])
    go_wp2_with fail
    go_ret
    exact ⟨rfl, B0⟩
set_option maxRecDepth 100000 in
set_option maxHeartbeats 4000000 in
theorem isPerm_any {u : Value} {xs : List Int} {a : Option Addr} {ca : Nat} {w : World} (A : ArgS w u xs a ca) (na : a = none → ca = 0) (hx : xs.length ≤ 17592186044416) : Calls Tryz.prog 282 #[u] w fun e w' => e = .returned (.bool (perB xs)) ∧ Below w.heap.size w w' := by
  have HA := Lib.hid A
  obtain rfl := A.is
  obtain ⟨c, hc⟩ : ∃ c, perB xs = c := ⟨_, rfl⟩
  rw [hc]
  by_cases h4 : xs.length ≤ 4
  · have hp := permS_any (xs.length : Int) HA.out na (by omega) (by omega) (by omega)
    have hcc : permB xs xs.length = c := by rw [← hc]; unfold perB; rw [decide_eq_true h4]; rfl
    obtain ⟨d, hd⟩ : ∃ d, permC xs (xs.length : Int) = d := ⟨_, rfl⟩
    have hdc : (d == 0) = c := by
      rw [← hd, ← hcc]
      unfold permC
      split
      · rename_i h; rw [h]; rfl
      · rename_i h; rw [show permB xs xs.length = false by simpa using h]; rfl
    rw [hd] at hp
    have h4I : (xs.length : Int) ≤ 4 := by omega
    subst hdc
    clear hc hcc hd
    go_enter Tryz.func282, Tryz.ntmps282
    go_wp2_with fail
    refine hp.mono ?_
    rintro e y1 ⟨rfl, hy⟩
    go_wp2_with fail
    go_ret
    exact ⟨rfl, hy⟩
  · obtain rfl : c = false := by rw [← hc]; unfold perB; rw [decide_eq_false h4]; rfl
    have h4I : ¬ (xs.length : Int) ≤ 4 := by omega
    clear hc
    go_enter Tryz.func282, Tryz.ntmps282
    go_wp2_with fail
    go_ret
    exact ⟨rfl, Below.refl _ _⟩
set_option maxRecDepth 100000 in
set_option maxHeartbeats 4000000 in
theorem isShape_any {u : Value} {xs : List Int} {a : Option Addr} {ca : Nat} {w : World} (A : ArgS w u xs a ca) (hx : xs.length ≤ 17592186044416) : Calls Tryz.prog 284 #[u] w fun e w' => e = .returned (.bool (shB xs)) ∧ Below w.heap.size w w' := by
  have hp := mayS_any A hx
  obtain rfl := A.is
  obtain ⟨d, hd⟩ : ∃ d, mayC xs = d := ⟨_, rfl⟩
  have hdc : (d == 0) = shB xs := by rw [← hd]; unfold shB; rfl
  rw [hd] at hp
  rw [← hdc]
  clear hd hdc
  go_enter Tryz.func284, Tryz.ntmps284
  go_wp2_with fail
  refine hp.mono ?_
  rintro e y1 ⟨rfl, hy⟩
  go_wp2_with fail
  go_ret
  exact ⟨rfl, hy⟩
set_option maxRecDepth 100000 in
set_option maxHeartbeats 4000000 in
theorem areAxes_any {u : Value} {xs : List Int} {a : Option Addr} {ca : Nat} {w : World} (A : ArgS w u xs a ca) (na : a = none → ca = 0) (hx : xs.length ≤ 17592186044416) : Calls Tryz.prog 285 #[u] w fun e w' => e = .returned (.bool (axesB xs 4)) ∧ Below w.heap.size w w' := by
  have hp := axesL_any 4 A na hx (by decide) (by decide)
  obtain rfl := A.is
  obtain ⟨d, hd⟩ : ∃ d, axesC xs 4 = d := ⟨_, rfl⟩
  have hdc : (d == 0) = axesB xs 4 := by
    rw [← hd]
    unfold axesC
    split
    · rename_i h; rw [h]; rfl
    · rename_i h; rw [show axesB xs 4 = false by simpa using h]; rfl
  rw [hd] at hp
  rw [← hdc]
  clear hd hdc
  go_enter Tryz.func285, Tryz.ntmps285
  go_wp2_with fail
  refine hp.mono ?_
  rintro e y1 ⟨rfl, hy⟩
  go_wp2_with fail
  go_ret
  exact ⟨rfl, hy⟩
end
section
open Go.RowKit
set_option linter.unusedVariables false
set_option linter.unusedSimpArgs false
/-- what lies from block B on is kept -/
structure From (B : Nat) (a w : World) : Prop where
  size : a.heap.size ≤ w.heap.size
  block : ∀ k, B ≤ k → k < a.heap.size → w.heap[k]? = a.heap[k]?
theorem From.of {B : Nat} {a w : World} (h : Below a.heap.size a w) : From B a w := ⟨h.size, fun k _ hk => h.block k hk⟩
theorem From.trans {B : Nat} {a b c : World} (h : From B a b) (k : From B b c) : From B a c := ⟨Nat.le_trans h.size k.size, fun i h1 h2 => (k.block i h1 (Nat.lt_of_lt_of_le h2 h.size)).trans (h.block i h1 h2)⟩
theorem From.mono {B B' : Nat} {a b : World} (h : From B a b) (hb : B ≤ B') : From B' a b := ⟨h.size, fun i h1 h2 => h.block i (Nat.le_trans hb h1) h2⟩
theorem From.setRow {B g : Nat} {a b : World} {cs : Array Value} (h : From B a b) (hg : g < B) : From B a (b.setRow g cs) := ⟨by rw [setRow_size]; exact h.size, fun k h1 h2 => (setRow_other _ _ _ _ (by omega)).trans (h.block k h1 h2)⟩
theorem Row.from {B g : Nat} {a w : World} {t : TypeId} {cs : Array Value} (R : Row a g t cs) (h : From B a w) (hg : B ≤ g) : Row w g t cs := (h.block g hg R.lt).trans R
/-- a function value that answers whether attributes fit: what it reads lies from block B on -/
def FitV (B : Nat) (w : World) (v : Value) (P : List Int → Bool) : Prop := ∃ (F : Nat) (cap : Array Value), v = .func (.func F) #[] cap ∧ (∀ args w, (callFunc F args).run Tryz.prog w = .ok (.enter F args) w) ∧
  ∀ (W : World) (u : Value) (xs : List Int) (a : Option Addr) (ca : Nat), From B w W → ArgS W u xs a ca → (a = none → ca = 0) → xs.length ≤ 17592186044416 → (∀ x ∈ xs, -2147483647 ≤ x ∧ x ≤ 2147483647) →
    Calls Tryz.prog F (#[u] ++ cap) W fun e w' => e = .returned (.bool (P xs)) ∧ Below W.heap.size W w'
theorem FitV.later {B : Nat} {w w' : World} {v : Value} {P : List Int → Bool} (h : FitV B w v P) (hb : From B w w') : FitV B w' v P := by
  obtain ⟨F, cap, rfl, he, hc⟩ := h
  exact ⟨F, cap, rfl, he, fun W u xs a ca hW => hc W u xs a ca (hb.trans hW)⟩
theorem FitV.mono {B B' : Nat} {w : World} {v : Value} {P : List Int → Bool} (h : FitV B w v P) (hb : B' ≤ B) : FitV B' w v P := by
  obtain ⟨F, cap, rfl, he, hc⟩ := h
  exact ⟨F, cap, rfl, he, fun W u xs a ca hW => hc W u xs a ca (hW.mono hb)⟩
/-- a function value that answers what none means -/
def MeanV (B : Nat) (w : World) (v : Value) (M : Int → List Int) : Prop := ∃ (F : Nat) (cap : Array Value), v = .func (.func F) #[] cap ∧ (∀ args w, (callFunc F args).run Tryz.prog w = .ok (.enter F args) w) ∧
  ∀ (W : World) (r : Int), From B w W → 0 ≤ r → r ≤ 4 → Calls Tryz.prog F (#[.int .i64 r] ++ cap) W fun e w' => ∃ v, e = .returned v ∧ ResS W.heap.size w' v (M r) ∧ Below W.heap.size W w'
theorem MeanV.later {B : Nat} {w w' : World} {v : Value} {M : Int → List Int} (h : MeanV B w v M) (hb : From B w w') : MeanV B w' v M := by
  obtain ⟨F, cap, rfl, he, hc⟩ := h
  exact ⟨F, cap, rfl, he, fun W r hW => hc W r (hb.trans hW)⟩
theorem MeanV.mono {B B' : Nat} {w : World} {v : Value} {M : Int → List Int} (h : MeanV B w v M) (hb : B' ≤ B) : MeanV B' w v M := by
  obtain ⟨F, cap, rfl, he, hc⟩ := h
  exact ⟨F, cap, rfl, he, fun W r hW => hc W r (hW.mono hb)⟩
theorem isNone_fit (B : Nat) (w : World) : FitV B w (.func (.func 278) #[] #[]) (noB) := ⟨_, #[], rfl, (fun args w => enters_of Tryz.func278 (by kernel_rfl) rfl args w), fun W u xs a ca hW A na hx hb => isNone_any A hx⟩
theorem isFraction_fit (B : Nat) (w : World) : FitV B w (.func (.func 281) #[] #[]) (fracB) := ⟨_, #[], rfl, (fun args w => enters_of Tryz.func281 (by kernel_rfl) rfl args w), fun W u xs a ca hW A na hx hb => isFraction_any A hx hb⟩
theorem isPerm_fit (B : Nat) (w : World) : FitV B w (.func (.func 282) #[] #[]) (perB) := ⟨_, #[], rfl, (fun args w => enters_of Tryz.func282 (by kernel_rfl) rfl args w), fun W u xs a ca hW A na hx hb => isPerm_any A na hx⟩
theorem isShape_fit (B : Nat) (w : World) : FitV B w (.func (.func 284) #[] #[]) (shB) := ⟨_, #[], rfl, (fun args w => enters_of Tryz.func284 (by kernel_rfl) rfl args w), fun W u xs a ca hW A na hx hb => isShape_any A hx⟩
theorem areAxes_fit (B : Nat) (w : World) : FitV B w (.func (.func 285) #[] #[]) (fun xs => axesB xs 4) := ⟨_, #[], rfl, (fun args w => enters_of Tryz.func285 (by kernel_rfl) rfl args w), fun W u xs a ca hW A na hx hb => areAxes_any A na hx⟩
theorem forward_mean (B : Nat) (w : World) : MeanV B w (.func (.func 286) #[] #[]) fwdI := ⟨_, #[], rfl, (fun args w => enters_of Tryz.func286 (by kernel_rfl) rfl args w), fun W r hW h0 h4 => by
  obtain ⟨n, rfl⟩ : ∃ n : Nat, r = (n : Int) := ⟨r.toNat, by omega⟩
  exact forward_any (by omega) W⟩
theorem backward_mean (B : Nat) (w : World) : MeanV B w (.func (.func 283) #[] #[]) bwdI := ⟨_, #[], rfl, (fun args w => enters_of Tryz.func283 (by kernel_rfl) rfl args w), fun W r hW h0 h4 => by
  obtain ⟨n, rfl⟩ : ∃ n : Nat, r = (n : Int) := ⟨r.toNat, by omega⟩
  exact backward_any (by omega) W⟩
theorem oneUpTo_fit (m : Int) {B : Nat} (w : World) (hB : B ≤ w.heap.size) : Calls Tryz.prog 279 #[.int .i64 m] w fun e w' => ∃ v, e = .returned v ∧ FitV B w' v (oneB m) ∧ Below w.heap.size w w' := by
  refine (oneUpTo_any m w).mono ?_
  rintro e w' ⟨rfl, rfl⟩
  refine ⟨_, rfl, ⟨_, #[.pointer (some ⟨w.heap.size, 0, none⟩)], rfl, (fun args w => enters_of Tryz.func299 (by kernel_rfl) rfl args w), fun W u xs a ca hW A na hx hb => ?_⟩, (Below.refl _ _).alloc (Nat.le_refl _) _⟩
  exact oneUpTo1_any A hx ((Row.new w 177 #[.int .i64 0, .int .i64 m]).from hW hB)
theorem always_mean {m : Int} (h0 : -9223372036854775808 ≤ m) (h1 : m ≤ 9223372036854775807) {B : Nat} (w : World) (hB : B ≤ w.heap.size) : Calls Tryz.prog 280 #[.int .i64 m] w fun e w' => ∃ v, e = .returned v ∧ MeanV B w' v (fun _ => [m]) ∧ Below w.heap.size w w' := by
  refine (always_any m w).mono ?_
  rintro e w' ⟨rfl, rfl⟩
  refine ⟨_, rfl, ⟨_, #[.pointer (some ⟨w.heap.size, 0, none⟩)], rfl, (fun args w => enters_of Tryz.func300 (by kernel_rfl) rfl args w), fun W r hW _ _ => ?_⟩, (Below.refl _ _).alloc (Nat.le_refl _) _⟩
  exact always1_any h0 h1 ((Row.new w 3 #[.int .i64 m]).from hW hB)
theorem pairs_fit (F : Nat) (f : Int → Int → Bool) (heF : ∀ args w, (callFunc F args).run Tryz.prog w = .ok (.enter F args) w) (hdo : ∀ x y W, Calls Tryz.prog F #[.int .i64 x, .int .i64 y] W fun e w' => e = .returned (.bool (f x y)) ∧ W = w') {B : Nat} (w : World) (hB : B ≤ w.heap.size) :
    Calls Tryz.prog 287 #[.func (.func F) #[] #[]] w fun e w' => ∃ v, e = .returned v ∧ FitV B w' v (pairsB f) ∧ Below w.heap.size w w' := by
  refine (pairs_any _ F rfl w).mono ?_
  rintro e w' ⟨rfl, rfl⟩
  refine ⟨_, rfl, ⟨_, #[.pointer (some ⟨w.heap.size, 0, none⟩)], rfl, (fun args w => enters_of Tryz.func303 (by kernel_rfl) rfl args w), fun W u xs a ca hW A na hx hb => ?_⟩, (Below.refl _ _).alloc (Nat.le_refl _) _⟩
  exact pairs1_any A hx f ((Row.new w 146 #[.func (.func F) #[] #[]]).from hW hB) heF (fun x y W => (hdo x y W).mono fun e w' h => ⟨h.1, h.2 ▸ Below.refl _ _⟩)
/-- a row of the table in memory -/
def rowC (k : Nat) (F M : Value) : Array Value := #[.int .i64 ((k : Int) + 1), .string (rowO ((k : Int) + 1)).name, .int .i64 (rowO ((k : Int) + 1)).vl, .int .i64 (rowO ((k : Int) + 1)).vh, .int .i64 (rowO ((k : Int) + 1)).al, .int .i64 (rowO ((k : Int) + 1)).ah, F, .int .i64 (rowO ((k : Int) + 1)).lo, M]
/-- no function, or one -/
def RowV (v : Value) : Prop := v = .nilFunc ∨ ∃ (F : Nat) (cap : Array Value), v = .func (.func F) #[] cap
structure Tab (B : Nat) (w : World) (b : Nat) (F M : Nat → Value) : Prop where
  row : ∃ cs, Row w b 181 cs ∧ ∀ k, k < 20 → ∀ j, j < 9 → cs[k * 9 + j]? = (rowC k (F k) (M k))[j]?
  fit : ∀ k : Nat, k < 20 → FitV B w (F k) (fitO ((k : Int) + 1))
  mean : ∀ k : Nat, k < 20 → 1 ≤ (rowO ((k : Int) + 1)).lo → MeanV B w (M k) (meantO ((k : Int) + 1))
  form : ∀ k : Nat, k < 20 → RowV (M k)
theorem Tab.later {B : Nat} {w w' : World} {b : Nat} {F M : Nat → Value} (h : Tab B w b F M) (hb : Below w.heap.size w w') : Tab B w' b F M := by
  obtain ⟨⟨cs, R, hc⟩, h2, h3, h4⟩ := h
  exact ⟨⟨cs, R.later hb, hc⟩, fun k hk => (h2 k hk).later (.of hb), fun k hk hl => (h3 k hk hl).later (.of hb), h4⟩
theorem Tab.cell {B : Nat} {w : World} {b : Nat} {F M : Nat → Value} (h : Tab B w b F M) {k j : Nat} (hk : k < 20) (hj : j < 9) : w.cell? ⟨b, k * 9 + j, none⟩ = (rowC k (F k) (M k))[j]? := by
  obtain ⟨⟨cs, R, hc⟩, _, _, _⟩ := h
  rw [R.cell, hc k hk j hj]
theorem wanted_if {c : Bool} {A B : Prop} (hc : c = true) (h : A) : if c = true then A else B := by rw [if_pos hc]; exact h
theorem infoRow : (Tryz.prog.info? 181).map (fun i => (i.zero, i.size, i.bytes)) = some (some (.agg #[.int .i64 0, .string ⟨#[]⟩, .int .i64 0, .int .i64 0, .int .i64 0, .int .i64 0, .nilFunc, .int .i64 0, .nilFunc]), 9, 80) := by kernel_rfl
set_option maxRecDepth 100000 in
set_option maxHeartbeats 40000000 in
theorem rows_any (w : World) : Calls Tryz.prog 255 #[] w fun e w' => ∃ b, e = .returned (.slice (some ⟨b, 0, none⟩) 20 20) ∧ (∃ F M, Tab w.heap.size w' b F M) ∧ Below w.heap.size w w' := by
  obtain ⟨ie, hie, hz0, hz1, hz2⟩ := info_parts infoRow
  go_enter Tryz.func255, Tryz.ntmps255
  go_wp2_with fail
  refine (allV_any _).mono ?_
  rintro e w1 ⟨rfl, hb1⟩
  go_wp2_with fail
  obtain ⟨V, hV⟩ : ∃ V, ((((w1.alloc (.cells #[.int .i64 1, .int .i64 3] 177)).alloc (.cells #[.int .i64 1, .int .i64 2] 177)).alloc (.cells #[.int .i64 1, .int .i64 1] 177)).alloc (.cells #[.int .i64 2, .int .i64 2] 177)) = V := ⟨_, rfl⟩
  have R0 : Row V (w1.heap.size) 177 #[.int .i64 1, .int .i64 3] := by rw [← hV]; have h := Row.new w1 177 #[.int .i64 1, .int .i64 3]; (try simp only [World.size_alloc] at h); exact (((h.alloc _).alloc _).alloc _)
  have R1 : Row V (w1.heap.size + 1) 177 #[.int .i64 1, .int .i64 2] := by rw [← hV]; have h := Row.new (w1.alloc (.cells #[.int .i64 1, .int .i64 3] 177)) 177 #[.int .i64 1, .int .i64 2]; (try simp only [World.size_alloc] at h); exact ((h.alloc _).alloc _)
  have R2 : Row V (w1.heap.size + 1 + 1) 177 #[.int .i64 1, .int .i64 1] := by rw [← hV]; have h := Row.new ((w1.alloc (.cells #[.int .i64 1, .int .i64 3] 177)).alloc (.cells #[.int .i64 1, .int .i64 2] 177)) 177 #[.int .i64 1, .int .i64 1]; (try simp only [World.size_alloc] at h); exact (h.alloc _)
  have R3 : Row V (w1.heap.size + 1 + 1 + 1) 177 #[.int .i64 2, .int .i64 2] := by rw [← hV]; have h := Row.new (((w1.alloc (.cells #[.int .i64 1, .int .i64 3] 177)).alloc (.cells #[.int .i64 1, .int .i64 2] 177)).alloc (.cells #[.int .i64 1, .int .i64 1] 177)) 177 #[.int .i64 2, .int .i64 2]; (try simp only [World.size_alloc] at h); exact h
  have hbV : Below w1.heap.size w1 V := by rw [← hV]; exact ((((Below.refl _ _).alloc (by (try simp) <;> omega) _).alloc (by (try simp) <;> omega) _).alloc (by (try simp) <;> omega) _).alloc (by (try simp) <;> omega) _
  rw [hV]
  clear hV
  have HWV := Lib.hid (show w.heap.size ≤ V.heap.size from Nat.le_trans hb1.size hbV.size)
  simp only [List.append_eq, List.cons_append, List.nil_append]
  have MK := Lib.hid (show ∀ X, Below V.heap.size V X → (fun X => X.cell? ⟨w1.heap.size, 0, none⟩ = some (.int .i64 1) ∧ X.cell? ⟨w1.heap.size, 1, none⟩ = some (.int .i64 3) ∧ X.cell? ⟨w1.heap.size + 1, 0, none⟩ = some (.int .i64 1) ∧ X.cell? ⟨w1.heap.size + 1, 1, none⟩ = some (.int .i64 2) ∧ X.cell? ⟨w1.heap.size + 1 + 1, 0, none⟩ = some (.int .i64 1) ∧ X.cell? ⟨w1.heap.size + 1 + 1, 1, none⟩ = some (.int .i64 1) ∧ X.cell? ⟨w1.heap.size + 1 + 1 + 1, 0, none⟩ = some (.int .i64 2) ∧ X.cell? ⟨w1.heap.size + 1 + 1 + 1, 1, none⟩ = some (.int .i64 2)) X from fun X h => by
    obtain ⟨a0, a1, _⟩ := (R0.later h).two
    obtain ⟨b0, b1, _⟩ := (R1.later h).two
    obtain ⟨c0, c1, _⟩ := (R2.later h).two
    obtain ⟨d0, d1, _⟩ := (R3.later h).two
    exact ⟨a0, a1, b0, b1, c0, c1, d0, d1⟩)
  have B0 : Below V.heap.size V V.drew := (Below.refl _ _).drew
  clear R0 R1 R2 R3
  refine wp_region_held_drew (S := fun X => X.cell? ⟨w1.heap.size, 0, none⟩ = some (.int .i64 1) ∧ X.cell? ⟨w1.heap.size, 1, none⟩ = some (.int .i64 3) ∧ X.cell? ⟨w1.heap.size + 1, 0, none⟩ = some (.int .i64 1) ∧ X.cell? ⟨w1.heap.size + 1, 1, none⟩ = some (.int .i64 2) ∧ X.cell? ⟨w1.heap.size + 1 + 1, 0, none⟩ = some (.int .i64 1) ∧ X.cell? ⟨w1.heap.size + 1 + 1, 1, none⟩ = some (.int .i64 1) ∧ X.cell? ⟨w1.heap.size + 1 + 1 + 1, 0, none⟩ = some (.int .i64 2) ∧ X.cell? ⟨w1.heap.size + 1 + 1 + 1, 1, none⟩ = some (.int .i64 2)) (by kernel_rfl) (MK.out _ B0) (fun hHeld => ?_)
  obtain ⟨y0, hdrh⟩ : ∃ Y, V.drew = Y := ⟨_, rfl⟩
  rw [hdrh] at B0 hHeld ⊢
  clear hdrh
  refine todo [0, 1, 2, 3, 4, 5, 6, 7, 8, 9, 10, 11, 12, 13, 14, 15, 16, 20, 21, 22, 23, 24, 25, 26, 27, 28, 29, 30, 31, 32, 33, 34, 35, 36, 37, 38, 39, 40, 41, 42, 43, 44, 45, 48, 49, 52, 53, 57, 58, 59, 60, 61, 62, 63, 64, 65] ?_
  iterate 56
   first
   | (refine todoH (v := ?_) rfl (by kernel_rfl) (fun _ _ _ h => h) (by assumption) (Or.inl ⟨by rfl, ?_⟩) ?_
      rotate_left
      · intro w hSw; (try dsimp only at hSw); go_simp; (try with_reducible rfl)
      try simp only [Act.put, List.getElem_toArray, List.getElem_cons_succ, List.getElem_cons_zero, List.setIfInBounds_toArray, List.set_cons_zero, List.set_cons_succ])
   | (refine todoH (v := undef) rfl (by kernel_rfl) (fun _ _ _ h => h) (by assumption) (Or.inr ⟨by rfl, rfl⟩) ?_
      try simp only [Act.put, List.getElem_toArray, List.getElem_cons_succ, List.getElem_cons_zero, List.setIfInBounds_toArray, List.set_cons_zero, List.set_cons_succ])
  refine todone ?_
  refine wpAnyH_ready (rs := [17]) (by kernel_rfl) (by simp) ?_
  refine AllReadyH.cons rfl (fun K hK => ?sh_17) AllReadyH.nil
  go_simp
  refine (oneUpTo_fit 16 (B := w.heap.size) _ (Nat.le_trans HWV.out B0.size)).mono ?_
  rintro e y1 ⟨v1, rfl, q1, hy⟩
  have B1 : Below V.heap.size V y1 := B0.trans (hy.mono B0.size)
  have Dh1 := hy
  clear hy
  obtain ⟨F1, cap1, rfl, _⟩ := id q1
  have Q1 := Lib.hid q1
  clear q1
  go_simp
  refine hK.out _ _ (MK.out _ B1) (fun hHeld2 => ?mh_17)
  clear hK K hHeld
  have hHeld := hHeld2
  clear hHeld2
  try simp only [Act.put, List.getElem_toArray, List.getElem_cons_succ, List.getElem_cons_zero, List.setIfInBounds_toArray, List.set_cons_zero, List.set_cons_succ]
  refine wpAnyH_ready (rs := [18]) (by kernel_rfl) (by simp) ?_
  refine AllReadyH.cons rfl (fun K hK => ?sh_18) AllReadyH.nil
  go_simp
  refine (always_mean (m := 2) (by decide) (by decide) (B := w.heap.size) _ (Nat.le_trans HWV.out B1.size)).mono ?_
  rintro e y2 ⟨v2, rfl, q2, hy⟩
  have B2 : Below V.heap.size V y2 := B1.trans (hy.mono B1.size)
  have Dh2 := hy
  clear hy
  obtain ⟨F2, cap2, rfl, _⟩ := id q2
  have Q2 := Lib.hid q2
  clear q2
  go_simp
  refine hK.out _ _ (MK.out _ B2) (fun hHeld2 => ?mh_18)
  clear hK K hHeld
  have hHeld := hHeld2
  clear hHeld2
  try simp only [Act.put, List.getElem_toArray, List.getElem_cons_succ, List.getElem_cons_zero, List.setIfInBounds_toArray, List.set_cons_zero, List.set_cons_succ]
  refine todo [19] ?_
  iterate 1
   first
   | (refine todoH (v := ?_) rfl (by kernel_rfl) (fun _ _ _ h => h) (by assumption) (Or.inl ⟨by rfl, ?_⟩) ?_
      rotate_left
      · intro w hSw; (try dsimp only at hSw); go_simp; (try with_reducible rfl)
      try simp only [Act.put, List.getElem_toArray, List.getElem_cons_succ, List.getElem_cons_zero, List.setIfInBounds_toArray, List.set_cons_zero, List.set_cons_succ])
   | (refine todoH (v := undef) rfl (by kernel_rfl) (fun _ _ _ h => h) (by assumption) (Or.inr ⟨by rfl, rfl⟩) ?_
      try simp only [Act.put, List.getElem_toArray, List.getElem_cons_succ, List.getElem_cons_zero, List.setIfInBounds_toArray, List.set_cons_zero, List.set_cons_succ])
  refine todone ?_
  refine wpAnyH_ready (rs := [46]) (by kernel_rfl) (by simp) ?_
  refine AllReadyH.cons rfl (fun K hK => ?sh_46) AllReadyH.nil
  go_simp
  refine (pairs_fit _ slB (fun args w => enters_of Tryz.func288 (by kernel_rfl) rfl args w) slice1_any (B := w.heap.size) _ (Nat.le_trans HWV.out B2.size)).mono ?_
  rintro e y3 ⟨v3, rfl, q3, hy⟩
  have B3 : Below V.heap.size V y3 := B2.trans (hy.mono B2.size)
  have Dh3 := hy
  clear hy
  obtain ⟨F3, cap3, rfl, _⟩ := id q3
  have Q3 := Lib.hid q3
  clear q3
  go_simp
  refine hK.out _ _ (MK.out _ B3) (fun hHeld2 => ?mh_46)
  clear hK K hHeld
  have hHeld := hHeld2
  clear hHeld2
  try simp only [Act.put, List.getElem_toArray, List.getElem_cons_succ, List.getElem_cons_zero, List.setIfInBounds_toArray, List.set_cons_zero, List.set_cons_succ]
  refine todo [47] ?_
  iterate 1
   first
   | (refine todoH (v := ?_) rfl (by kernel_rfl) (fun _ _ _ h => h) (by assumption) (Or.inl ⟨by rfl, ?_⟩) ?_
      rotate_left
      · intro w hSw; (try dsimp only at hSw); go_simp; (try with_reducible rfl)
      try simp only [Act.put, List.getElem_toArray, List.getElem_cons_succ, List.getElem_cons_zero, List.setIfInBounds_toArray, List.set_cons_zero, List.set_cons_succ])
   | (refine todoH (v := undef) rfl (by kernel_rfl) (fun _ _ _ h => h) (by assumption) (Or.inr ⟨by rfl, rfl⟩) ?_
      try simp only [Act.put, List.getElem_toArray, List.getElem_cons_succ, List.getElem_cons_zero, List.setIfInBounds_toArray, List.set_cons_zero, List.set_cons_succ])
  refine todone ?_
  refine wpAnyH_ready (rs := [50]) (by kernel_rfl) (by simp) ?_
  refine AllReadyH.cons rfl (fun K hK => ?sh_50) AllReadyH.nil
  go_simp
  refine (pairs_fit _ paB (fun args w => enters_of Tryz.func289 (by kernel_rfl) rfl args w) pad1_any (B := w.heap.size) _ (Nat.le_trans HWV.out B3.size)).mono ?_
  rintro e y4 ⟨v4, rfl, q4, hy⟩
  have B4 : Below V.heap.size V y4 := B3.trans (hy.mono B3.size)
  have Dh4 := hy
  clear hy
  obtain ⟨F4, cap4, rfl, _⟩ := id q4
  have Q4 := Lib.hid q4
  clear q4
  go_simp
  refine hK.out _ _ (MK.out _ B4) (fun hHeld2 => ?mh_50)
  clear hK K hHeld
  have hHeld := hHeld2
  clear hHeld2
  try simp only [Act.put, List.getElem_toArray, List.getElem_cons_succ, List.getElem_cons_zero, List.setIfInBounds_toArray, List.set_cons_zero, List.set_cons_succ]
  refine todo [51] ?_
  iterate 1
   first
   | (refine todoH (v := ?_) rfl (by kernel_rfl) (fun _ _ _ h => h) (by assumption) (Or.inl ⟨by rfl, ?_⟩) ?_
      rotate_left
      · intro w hSw; (try dsimp only at hSw); go_simp; (try with_reducible rfl)
      try simp only [Act.put, List.getElem_toArray, List.getElem_cons_succ, List.getElem_cons_zero, List.setIfInBounds_toArray, List.set_cons_zero, List.set_cons_succ])
   | (refine todoH (v := undef) rfl (by kernel_rfl) (fun _ _ _ h => h) (by assumption) (Or.inr ⟨by rfl, rfl⟩) ?_
      try simp only [Act.put, List.getElem_toArray, List.getElem_cons_succ, List.getElem_cons_zero, List.setIfInBounds_toArray, List.set_cons_zero, List.set_cons_succ])
  refine todone ?_
  refine wpAnyH_ready (rs := [54]) (by kernel_rfl) (by simp) ?_
  refine AllReadyH.cons rfl (fun K hK => ?sh_54) AllReadyH.nil
  go_simp
  refine (oneUpTo_fit 3 (B := w.heap.size) _ (Nat.le_trans HWV.out B4.size)).mono ?_
  rintro e y5 ⟨v5, rfl, q5, hy⟩
  have B5 : Below V.heap.size V y5 := B4.trans (hy.mono B4.size)
  have Dh5 := hy
  clear hy
  obtain ⟨F5, cap5, rfl, _⟩ := id q5
  have Q5 := Lib.hid q5
  clear q5
  go_simp
  refine hK.out _ _ (MK.out _ B5) (fun hHeld2 => ?mh_54)
  clear hK K hHeld
  have hHeld := hHeld2
  clear hHeld2
  try simp only [Act.put, List.getElem_toArray, List.getElem_cons_succ, List.getElem_cons_zero, List.setIfInBounds_toArray, List.set_cons_zero, List.set_cons_succ]
  refine wpAnyH_ready (rs := [55]) (by kernel_rfl) (by simp) ?_
  refine AllReadyH.cons rfl (fun K hK => ?sh_55) AllReadyH.nil
  go_simp
  refine (always_mean (m := 0) (by decide) (by decide) (B := w.heap.size) _ (Nat.le_trans HWV.out B5.size)).mono ?_
  rintro e y6 ⟨v6, rfl, q6, hy⟩
  have B6 : Below V.heap.size V y6 := B5.trans (hy.mono B5.size)
  have Dh6 := hy
  clear hy
  obtain ⟨F6, cap6, rfl, _⟩ := id q6
  have Q6 := Lib.hid q6
  clear q6
  go_simp
  refine hK.out _ _ (MK.out _ B6) (fun hHeld2 => ?mh_55)
  clear hK K hHeld
  have hHeld := hHeld2
  clear hHeld2
  try simp only [Act.put, List.getElem_toArray, List.getElem_cons_succ, List.getElem_cons_zero, List.setIfInBounds_toArray, List.set_cons_zero, List.set_cons_succ]
  refine todo [56] ?_
  iterate 1
   first
   | (refine todoH (v := ?_) rfl (by kernel_rfl) (fun _ _ _ h => h) (by assumption) (Or.inl ⟨by rfl, ?_⟩) ?_
      rotate_left
      · intro w hSw; (try dsimp only at hSw); go_simp; (try with_reducible rfl)
      try simp only [Act.put, List.getElem_toArray, List.getElem_cons_succ, List.getElem_cons_zero, List.setIfInBounds_toArray, List.set_cons_zero, List.set_cons_succ])
   | (refine todoH (v := undef) rfl (by kernel_rfl) (fun _ _ _ h => h) (by assumption) (Or.inr ⟨by rfl, rfl⟩) ?_
      try simp only [Act.put, List.getElem_toArray, List.getElem_cons_succ, List.getElem_cons_zero, List.setIfInBounds_toArray, List.set_cons_zero, List.set_cons_succ])
  refine todone ?_
  refine wpAnyH_ready (rs := [66]) (by kernel_rfl) (by simp) ?_
  refine AllReadyH.cons rfl (fun K hK => ?sh_66) AllReadyH.nil
  obtain ⟨r, hr, hrs, hrk⟩ := Great.fill_dense (s := 9) (by omega) ((List.range 20).map fun k => Value.agg (rowC k ((fun k => ([(.func (.func 278) #[] #[]), (.func (.func 278) #[] #[]), (.func (.func 278) #[] #[]), (.func (.func 278) #[] #[]), (.func (.func 278) #[] #[]), .func (.func F1) #[] cap1, (.func (.func 278) #[] #[]), (.func (.func 278) #[] #[]), (.func (.func 281) #[] #[]), (.func (.func 278) #[] #[]), (.func (.func 282) #[] #[]), (.func (.func 284) #[] #[]), (.func (.func 284) #[] #[]), (.func (.func 285) #[] #[]), .func (.func F3) #[] cap3, .func (.func F4) #[] cap4, .func (.func F5) #[] cap5, (.func (.func 278) #[] #[]), (.func (.func 278) #[] #[]), (.func (.func 285) #[] #[])] : List Value).getD k .nilFunc) k) ((fun k => ([.nilFunc, .nilFunc, .nilFunc, .nilFunc, .nilFunc, .func (.func F2) #[] cap2, .nilFunc, .nilFunc, .nilFunc, .nilFunc, (.func (.func 283) #[] #[]), .nilFunc, .nilFunc, (.func (.func 286) #[] #[]), .nilFunc, .nilFunc, .func (.func F6) #[] cap6, .nilFunc, .nilFunc, (.func (.func 286) #[] #[])] : List Value).getD k .nilFunc) k))) 0 ((Array.range (20 * 9)).map ((Value.agg #[.int .i64 0, .string ⟨#[]⟩, .int .i64 0, .int .i64 0, .int .i64 0, .int .i64 0, .nilFunc, .int .i64 0, .nilFunc]).cells[· % (Value.agg #[.int .i64 0, .string ⟨#[]⟩, .int .i64 0, .int .i64 0, .int .i64 0, .int .i64 0, .nilFunc, .int .i64 0, .nilFunc]).cells.size]!))
    (fun v hv => by obtain ⟨k, _, rfl⟩ := List.mem_map.1 hv; rfl) (by simp)
  refine wanted_if (by kernel_rfl) ?_
  refine wp_buildSlice 296 181 20 _ rfl r ie _ Tryz.underlying296 hie hz0 (by rw [hz1]; decide) (by rw [hz1]; decide) (by rw [hz1]; refine Eq.trans ?_ hr; kernel_rfl) ?_
  obtain ⟨y7, hy7⟩ : ∃ Y, y6.alloc (.cells r 181) = Y := ⟨_, rfl⟩
  have B7 : Below V.heap.size V y7 := by rw [← hy7]; exact B6.alloc B6.size _
  have b67 : Below y6.heap.size y6 y7 := by rw [← hy7]; exact (Below.refl _ _).alloc (Nat.le_refl _) _
  have R7 : Row y7 y6.heap.size 181 r := by rw [← hy7]; exact Row.new _ _ _
  rw [hy7]
  clear hy7
  refine hK.out _ _ (MK.out _ B7) (fun hHeld2 => ?mh_66)
  clear hK K hHeld
  have hHeld := hHeld2
  clear hHeld2
  try simp only [Act.put, List.getElem_toArray, List.getElem_cons_succ, List.getElem_cons_zero, List.setIfInBounds_toArray, List.set_cons_zero, List.set_cons_succ]
  refine todo [67] ?_
  iterate 1
   first
   | (refine todoH (v := ?_) rfl (by kernel_rfl) (fun _ _ _ h => h) (by assumption) (Or.inl ⟨by rfl, ?_⟩) ?_
      rotate_left
      · intro w hSw; (try dsimp only at hSw); go_simp; (try with_reducible rfl)
      try simp only [Act.put, List.getElem_toArray, List.getElem_cons_succ, List.getElem_cons_zero, List.setIfInBounds_toArray, List.set_cons_zero, List.set_cons_succ])
   | (refine todoH (v := undef) rfl (by kernel_rfl) (fun _ _ _ h => h) (by assumption) (Or.inr ⟨by rfl, rfl⟩) ?_
      try simp only [Act.put, List.getElem_toArray, List.getElem_cons_succ, List.getElem_cons_zero, List.setIfInBounds_toArray, List.set_cons_zero, List.set_cons_succ])
  refine todone ?_
  refine wpAnyH_done (by kernel_rfl) ?_ _
  (try dsimp only [Straight])
  go_wp2_with fail
  have hbw : Below w.heap.size w y7 := hb1.trans ((hbV.trans (B7.mono hbV.size)).mono hb1.size)
  refine bodyPost_ret (v := .slice (some ⟨y6.heap.size, 0, none⟩) 20 20) (by simp [results, Tryz.results255, go_sem]) rfl ⟨y6.heap.size, rfl, ⟨(fun k => ([(.func (.func 278) #[] #[]), (.func (.func 278) #[] #[]), (.func (.func 278) #[] #[]), (.func (.func 278) #[] #[]), (.func (.func 278) #[] #[]), .func (.func F1) #[] cap1, (.func (.func 278) #[] #[]), (.func (.func 278) #[] #[]), (.func (.func 281) #[] #[]), (.func (.func 278) #[] #[]), (.func (.func 282) #[] #[]), (.func (.func 284) #[] #[]), (.func (.func 284) #[] #[]), (.func (.func 285) #[] #[]), .func (.func F3) #[] cap3, .func (.func F4) #[] cap4, .func (.func F5) #[] cap5, (.func (.func 278) #[] #[]), (.func (.func 278) #[] #[]), (.func (.func 285) #[] #[])] : List Value).getD k .nilFunc), (fun k => ([.nilFunc, .nilFunc, .nilFunc, .nilFunc, .nilFunc, .func (.func F2) #[] cap2, .nilFunc, .nilFunc, .nilFunc, .nilFunc, (.func (.func 283) #[] #[]), .nilFunc, .nilFunc, (.func (.func 286) #[] #[]), .nilFunc, .nilFunc, .func (.func F6) #[] cap6, .nilFunc, .nilFunc, (.func (.func 286) #[] #[])] : List Value).getD k .nilFunc), ⟨⟨r, R7, fun k hk j hj => ?_⟩, fun k hk => ?_, fun k hk hl => ?_, fun k hk => ?_⟩⟩, hbw⟩
  · rw [hrk, if_pos (by simp; omega), show (k * 9 + j) / 9 - 0 = k by omega, show (k * 9 + j) % 9 = j by omega, List.getElem?_map, List.getElem?_range hk]
    rfl
  · match k, hk with
    | 0, _ => exact isNone_fit _ _
    | 1, _ => exact isNone_fit _ _
    | 2, _ => exact isNone_fit _ _
    | 3, _ => exact isNone_fit _ _
    | 4, _ => exact isNone_fit _ _
    | 5, _ => exact ((((((Q1.out.later (.of Dh2)).later (.of Dh3)).later (.of Dh4)).later (.of Dh5)).later (.of Dh6)).later (.of b67))
    | 6, _ => exact isNone_fit _ _
    | 7, _ => exact isNone_fit _ _
    | 8, _ => exact isFraction_fit _ _
    | 9, _ => exact isNone_fit _ _
    | 10, _ => exact isPerm_fit _ _
    | 11, _ => exact isShape_fit _ _
    | 12, _ => exact isShape_fit _ _
    | 13, _ => exact areAxes_fit _ _
    | 14, _ => exact ((((Q3.out.later (.of Dh4)).later (.of Dh5)).later (.of Dh6)).later (.of b67))
    | 15, _ => exact (((Q4.out.later (.of Dh5)).later (.of Dh6)).later (.of b67))
    | 16, _ => exact ((Q5.out.later (.of Dh6)).later (.of b67))
    | 17, _ => exact isNone_fit _ _
    | 18, _ => exact isNone_fit _ _
    | 19, _ => exact areAxes_fit _ _
    | n + 20, h => exact absurd h (by omega)
  · match k, hk, hl with
    | 0, _, hl => exact absurd hl (by decide +kernel)
    | 1, _, hl => exact absurd hl (by decide +kernel)
    | 2, _, hl => exact absurd hl (by decide +kernel)
    | 3, _, hl => exact absurd hl (by decide +kernel)
    | 4, _, hl => exact absurd hl (by decide +kernel)
    | 5, _, hl => exact (((((Q2.out.later (.of Dh3)).later (.of Dh4)).later (.of Dh5)).later (.of Dh6)).later (.of b67))
    | 6, _, hl => exact absurd hl (by decide +kernel)
    | 7, _, hl => exact absurd hl (by decide +kernel)
    | 8, _, hl => exact absurd hl (by decide +kernel)
    | 9, _, hl => exact absurd hl (by decide +kernel)
    | 10, _, hl => exact backward_mean _ _
    | 11, _, hl => exact absurd hl (by decide +kernel)
    | 12, _, hl => exact absurd hl (by decide +kernel)
    | 13, _, hl => exact forward_mean _ _
    | 14, _, hl => exact absurd hl (by decide +kernel)
    | 15, _, hl => exact absurd hl (by decide +kernel)
    | 16, _, hl => exact (Q6.out.later (.of b67))
    | 17, _, hl => exact absurd hl (by decide +kernel)
    | 18, _, hl => exact absurd hl (by decide +kernel)
    | 19, _, hl => exact forward_mean _ _
    | n + 20, h, _ => exact absurd h (by omega)
  · match k, hk with
    | 0, _ => exact .inl rfl
    | 1, _ => exact .inl rfl
    | 2, _ => exact .inl rfl
    | 3, _ => exact .inl rfl
    | 4, _ => exact .inl rfl
    | 5, _ => exact .inr ⟨_, _, rfl⟩
    | 6, _ => exact .inl rfl
    | 7, _ => exact .inl rfl
    | 8, _ => exact .inl rfl
    | 9, _ => exact .inl rfl
    | 10, _ => exact .inr ⟨_, _, rfl⟩
    | 11, _ => exact .inl rfl
    | 12, _ => exact .inl rfl
    | 13, _ => exact .inr ⟨_, _, rfl⟩
    | 14, _ => exact .inl rfl
    | 15, _ => exact .inl rfl
    | 16, _ => exact .inr ⟨_, _, rfl⟩
    | 17, _ => exact .inl rfl
    | 18, _ => exact .inl rfl
    | 19, _ => exact .inr ⟨_, _, rfl⟩
    | n + 20, h => exact absurd h (by omega)
end
section
open Go.RowKit
set_option linter.unusedVariables false
set_option linter.unusedSimpArgs false
/-- the row of no operation -/
def zeroC : Array Value := #[.int .i64 0, .string ⟨#[]⟩, .int .i64 0, .int .i64 0, .int .i64 0, .int .i64 0, .nilFunc, .int .i64 0, .nilFunc]
/-- the place of a row for which p holds, or -1 -/
def Idx (p : Nat → Bool) (i : Int) : Prop := (∃ k : Nat, i = (k : Int) ∧ k < 20 ∧ p k = true) ∨ (i = -1 ∧ ∀ k, k < 20 → p k = false)
set_option maxRecDepth 100000 in
set_option maxHeartbeats 4000000 in
theorem indexRow_any {B F : Nat} {cap : Array Value} {p : Nat → Bool} {w : World} {b : Nat} {Fs Ms : Nat → Value} (T : Tab B w b Fs Ms) (heF : ∀ args w, (callFunc F args).run Tryz.prog w = .ok (.enter F args) w)
    (hdo : ∀ W k G M, k < 20 → Below w.heap.size w W → Calls Tryz.prog F (#[.agg (rowC k G M)] ++ cap) W fun e w' => e = .returned (.bool (p k)) ∧ Below W.heap.size W w') :
    Calls Tryz.prog 256 #[.slice (some ⟨b, 0, none⟩) 20 20, .func (.func F) #[] cap] w fun e w' => ∃ i : Int, e = .returned (.int .i64 i) ∧ Idx p i ∧ Below w.heap.size w w' := by
  have HT := Lib.hid T
  have HDO := Lib.hid hdo
  clear T hdo
  go_enter Tryz.func256, Tryz.ntmps256
  go_wp2_with fail
  go_loopw [5, 8] (fun _ i wr => ∃ k : Nat, i = .int .i64 (k : Int) ∧ k ≤ 20 ∧ (∀ j, j < k → p j = false) ∧ Below w.heap.size w wr) (fun _ i _ => 20 - (intOf i).toNat)
  case atStart => exact ⟨0, rfl, by omega, fun j hj => by omega, Below.refl _ _⟩
  case round =>
    obtain ⟨k, rfl, hk, hall, hb⟩ := hrel
    have HALL := Lib.hid hall
    clear hall
    by_cases hlt : k < 20
    · have hltI : (k : Int) < 20 := by omega
      have hk0 : (0 : Int) ≤ (k : Int) := by omega
      have hcall := HDO.out wr k (Fs k) (Ms k) hlt hb
      have hc := fun j hj => (HT.out.later hb).cell (k := k) (j := j) hlt hj
      obtain ⟨v0, v1, v2, v3, v4, v5, v6, v7, v8, hv⟩ : ∃ v0 v1 v2 v3 v4 v5 v6 v7 v8, rowC k (Fs k) (Ms k) = #[v0, v1, v2, v3, v4, v5, v6, v7, v8] := ⟨_, _, _, _, _, _, _, _, _, rfl⟩
      rw [hv] at hcall hc
      have c0 : wr.cell? ⟨b, k * 9, none⟩ = some v0 := hc 0 (by omega)
      have c1 : wr.cell? ⟨b, k * 9 + 1, none⟩ = some v1 := hc 1 (by omega)
      have c2 : wr.cell? ⟨b, k * 9 + 2, none⟩ = some v2 := hc 2 (by omega)
      have c3 : wr.cell? ⟨b, k * 9 + 3, none⟩ = some v3 := hc 3 (by omega)
      have c4 : wr.cell? ⟨b, k * 9 + 4, none⟩ = some v4 := hc 4 (by omega)
      have c5 : wr.cell? ⟨b, k * 9 + 5, none⟩ = some v5 := hc 5 (by omega)
      have c6 : wr.cell? ⟨b, k * 9 + 6, none⟩ = some v6 := hc 6 (by omega)
      have c7 : wr.cell? ⟨b, k * 9 + 7, none⟩ = some v7 := hc 7 (by omega)
      have c8 : wr.cell? ⟨b, k * 9 + 8, none⟩ = some v8 := hc 8 (by omega)
      obtain ⟨t, ht⟩ : ∃ t, p k = t := ⟨_, rfl⟩
      rw [ht] at hcall
      have HTT := Lib.hid ht
      clear hc hv ht
      go_wp2_with fail
      refine hcall.mono ?_
      rintro e y1 ⟨rfl, hy⟩
      cases t with
      | true =>
        go_wp2_with fail
        go_ret
        exact ⟨_, rfl, .inl ⟨k, rfl, hlt, HTT.out⟩, hb.trans (hy.mono hb.size)⟩
      | false =>
        go_wp2_with fail
        go_roundw
        case rel =>
          refine ⟨k + 1, by go_num, by omega, fun j hj => ?_, hb.trans (hy.mono hb.size)⟩
          by_cases hjk : j < k
          · exact HALL.out j hjk
          · obtain rfl : j = k := by omega
            exact HTT.out
        case measure => simp [intOf]; omega
    · obtain rfl : k = 20 := by omega
      go_wp2_with fail
      go_ret
      exact ⟨_, rfl, .inr ⟨rfl, HALL.out⟩, hb⟩
theorem below_setRow {B g : Nat} {w w' : World} {cs : Array Value} (h : Below B w w') (hg : B ≤ g) : Below B w (w'.setRow g cs) :=
  ⟨h.os, h.tape, h.output, by rw [setRow_size]; exact h.size, fun k hk => (setRow_other _ _ _ _ (by omega)).trans (h.block k hk)⟩
theorem Row.setRow {w : World} {g : Nat} {t : TypeId} {old cs : Array Value} (h : Row w g t old) : Row (w.setRow g cs) g t cs := setRow_heap w g old cs t (0, 0) h
theorem RowV.one {v : Value} (h : RowV v) : v.oneCell' = true := by
  rcases h with rfl | ⟨F, cap, rfl⟩ <;> rfl
theorem FitV.one {B : Nat} {w : World} {v : Value} {P : List Int → Bool} (h : FitV B w v P) : v.oneCell' = true := by
  obtain ⟨F, cap, rfl, _⟩ := h
  rfl
theorem rowC_one {k : Nat} {F M : Value} (hF : F.oneCell' = true) (hM : M.oneCell' = true) : (rowC k F M).all (·.oneCell') = true := by
  have e1 : ∀ n : Int, (Value.int .i64 n).oneCell' = true := fun _ => rfl
  have e2 : ∀ s : ByteArray, (Value.string s).oneCell' = true := fun _ => rfl
  unfold rowC
  simp [hF, hM, e1, e2]
/-- what is found: a row for which p holds, or none -/
def Found (B : Nat) (w : World) (p : Nat → Bool) (r : Array Value) (ok : Bool) : Prop :=
  (ok = true ∧ ∃ (k : Nat) (F M : Value), k < 20 ∧ p k = true ∧ r = rowC k F M ∧ M.oneCell' = true ∧ FitV B w F (fitO ((k : Int) + 1)) ∧ (1 ≤ (rowO ((k : Int) + 1)).lo → MeanV B w M (meantO ((k : Int) + 1)))) ∨ (ok = false ∧ (∀ k, k < 20 → p k = false) ∧ r = zeroC)
set_option maxRecDepth 100000 in
set_option maxHeartbeats 4000000 in
theorem find_any {F : Nat} {cap : Array Value} {p : Nat → Bool} {w : World} (heF : ∀ args w, (callFunc F args).run Tryz.prog w = .ok (.enter F args) w)
    (hdo : ∀ W k G M, k < 20 → Below w.heap.size w W → Calls Tryz.prog F (#[.agg (rowC k G M)] ++ cap) W fun e w' => e = .returned (.bool (p k)) ∧ Below W.heap.size W w') :
    Calls Tryz.prog 221 #[.func (.func F) #[] cap] w fun e w' => ∃ r ok, e = .returned (.tuple #[.agg r, .bool ok]) ∧ Found w.heap.size w' p r ok ∧ Below w.heap.size w w' := by
  have HDO := Lib.hid hdo
  obtain ⟨W, hW⟩ : ∃ W, w.alloc (.cells #[.int .i64 0, .string ⟨#[]⟩, .int .i64 0, .int .i64 0, .int .i64 0, .int .i64 0, .nilFunc, .int .i64 0, .nilFunc] 181) = W := ⟨_, rfl⟩
  have R : Row W w.heap.size 181 #[.int .i64 0, .string ⟨#[]⟩, .int .i64 0, .int .i64 0, .int .i64 0, .int .i64 0, .nilFunc, .int .i64 0, .nilFunc] := by rw [← hW]; exact Row.new _ _ _
  have hbW : Below w.heap.size w W := by rw [← hW]; exact (Below.refl _ _).alloc (Nat.le_refl _) _
  have hsW : w.heap.size < W.heap.size := by rw [← hW]; simp
  clear hdo
  go_enter Tryz.func221, Tryz.ntmps221
  (try rw [hW])
  go_wp2_with fail
  (try rw [hW])
  clear hW
  refine (rows_any W).mono ?_
  rintro e y1 ⟨b, rfl, ⟨Fs, Ms, hT⟩, hy⟩
  have b1 : Below w.heap.size w y1 := hbW.trans (hy.mono hbW.size)
  have R1 := R.later hy
  have HT := Lib.hid hT
  clear hT hy R
  go_wp2_with fail
  refine (indexRow_any HT.out heF (fun X k G M hk hX => HDO.out X k G M hk (b1.trans (hX.mono b1.size)))).mono ?_
  rintro e y2 ⟨i, rfl, hi, hy⟩
  have b2 : Below w.heap.size w y2 := b1.trans (hy.mono b1.size)
  have T2 := HT.out.later hy
  have R2 := R1.later hy
  have HR2 := Lib.hid R2
  clear hy R1
  rcases hi with ⟨k, rfl, hk, hp⟩ | ⟨rfl, hno⟩
  · have hkI : ¬ (k : Int) < 0 := by omega
    have hltI : (k : Int) < 20 := by omega
    have hk0 : (0 : Int) ≤ (k : Int) := by omega
    have hc := fun j hj => T2.cell (k := k) (j := j) hk hj
    have HF := Lib.hid (T2.fit k hk)
    have HM := Lib.hid (T2.mean k hk)
    have HFO := Lib.hid (T2.form k hk)
    have HP := Lib.hid hp
    have hone := rowC_one (k := k) HF.out.one HFO.out.one
    obtain ⟨v0, v1, v2, v3, v4, v5, v6, v7, v8, hv⟩ : ∃ v0 v1 v2 v3 v4 v5 v6 v7 v8, rowC k (Fs k) (Ms k) = #[v0, v1, v2, v3, v4, v5, v6, v7, v8] := ⟨_, _, _, _, _, _, _, _, _, rfl⟩
    rw [hv] at hc hone
    have c0 : y2.cell? ⟨b, k * 9, none⟩ = some v0 := hc 0 (by omega)
    have c1 : y2.cell? ⟨b, k * 9 + 1, none⟩ = some v1 := hc 1 (by omega)
    have c2 : y2.cell? ⟨b, k * 9 + 2, none⟩ = some v2 := hc 2 (by omega)
    have c3 : y2.cell? ⟨b, k * 9 + 3, none⟩ = some v3 := hc 3 (by omega)
    have c4 : y2.cell? ⟨b, k * 9 + 4, none⟩ = some v4 := hc 4 (by omega)
    have c5 : y2.cell? ⟨b, k * 9 + 5, none⟩ = some v5 := hc 5 (by omega)
    have c6 : y2.cell? ⟨b, k * 9 + 6, none⟩ = some v6 := hc 6 (by omega)
    have c7 : y2.cell? ⟨b, k * 9 + 7, none⟩ = some v7 := hc 7 (by omega)
    have c8 : y2.cell? ⟨b, k * 9 + 8, none⟩ = some v8 := hc 8 (by omega)
    have HONE := Lib.hid hone
    have HV := Lib.hid hv
    clear hc hv hone hp T2
    have P3 := R2.setRow (cs := #[v0, v1, v2, v3, v4, v5, v6, v7, v8])
    have z0 := P3.cell 0
    have z1 := P3.cell 1
    have z2 := P3.cell 2
    have z3 := P3.cell 3
    have z4 := P3.cell 4
    have z5 := P3.cell 5
    have z6 := P3.cell 6
    have z7 := P3.cell 7
    have z8 := P3.cell 8
    have HE := Lib.hid (below_setRow (cs := #[v0, v1, v2, v3, v4, v5, v6, v7, v8]) b2 (Nat.le_refl _))
    clear P3
    go_wp2_with (refine wpList_store_row rfl 181 _ _ rfl w.heap.size #[v0, v1, v2, v3, v4, v5, v6, v7, v8] (by rfl) (by rfl) 181 #[.int .i64 0, .string ⟨#[]⟩, .int .i64 0, .int .i64 0, .int .i64 0, .int .i64 0, .nilFunc, .int .i64 0, .nilFunc] R2 (by kernel_rfl) rfl HONE.out ?_)
    have hFr : From W.heap.size y2 (y2.setRow w.heap.size #[v0, v1, v2, v3, v4, v5, v6, v7, v8]) := (From.of (Below.refl _ _)).setRow hsW
    exact bodyPost_ret (v := .tuple #[.agg #[v0, v1, v2, v3, v4, v5, v6, v7, v8], .bool true]) (by simp [results, Tryz.results221, go_sem, z0, z1, z2, z3, z4, z5, z6, z7, z8]) rfl ⟨_, _, rfl, .inl ⟨rfl, k, Fs k, Ms k, hk, HP.out, HV.out.symm, HFO.out.one, (HF.out.later hFr).mono (Nat.le_of_lt hsW), fun hl => ((HM.out hl).later hFr).mono (Nat.le_of_lt hsW)⟩, HE.out⟩
  · have HNO := Lib.hid hno
    have HONE := Lib.hid (show (#[.int .i64 0, .string ⟨#[]⟩, .int .i64 0, .int .i64 0, .int .i64 0, .int .i64 0, .nilFunc, .int .i64 0, .nilFunc] : Array Value).all (·.oneCell') = true by kernel_rfl)
    clear hno
    have P3 := R2.setRow (cs := #[.int .i64 0, .string ⟨#[]⟩, .int .i64 0, .int .i64 0, .int .i64 0, .int .i64 0, .nilFunc, .int .i64 0, .nilFunc])
    have z0 := P3.cell 0
    have z1 := P3.cell 1
    have z2 := P3.cell 2
    have z3 := P3.cell 3
    have z4 := P3.cell 4
    have z5 := P3.cell 5
    have z6 := P3.cell 6
    have z7 := P3.cell 7
    have z8 := P3.cell 8
    have HE := Lib.hid (below_setRow (cs := #[.int .i64 0, .string ⟨#[]⟩, .int .i64 0, .int .i64 0, .int .i64 0, .int .i64 0, .nilFunc, .int .i64 0, .nilFunc]) b2 (Nat.le_refl _))
    clear P3
    go_wp2_with (refine wpList_store_row rfl 181 _ _ rfl w.heap.size #[.int .i64 0, .string ⟨#[]⟩, .int .i64 0, .int .i64 0, .int .i64 0, .int .i64 0, .nilFunc, .int .i64 0, .nilFunc] (by rfl) (by rfl) 181 #[.int .i64 0, .string ⟨#[]⟩, .int .i64 0, .int .i64 0, .int .i64 0, .int .i64 0, .nilFunc, .int .i64 0, .nilFunc] R2 (by kernel_rfl) rfl HONE.out ?_)
    exact bodyPost_ret (v := .tuple #[.agg #[.int .i64 0, .string ⟨#[]⟩, .int .i64 0, .int .i64 0, .int .i64 0, .int .i64 0, .nilFunc, .int .i64 0, .nilFunc], .bool false]) (by simp [results, Tryz.results221, go_sem, z0, z1, z2, z3, z4, z5, z6, z7, z8]) rfl ⟨_, _, rfl, .inr ⟨rfl, HNO.out, rfl⟩, HE.out⟩
end
end Go.Proofs.YtjgiacghlkkjfaaGreatDoor
