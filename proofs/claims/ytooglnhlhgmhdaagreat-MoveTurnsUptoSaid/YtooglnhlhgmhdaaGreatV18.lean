/-
  Rows of structs of three cells (rational numbers): as they came in, as they are made.
-/
import Derived.Test.YtooglnhlhgmhdaaGreatV1
import Derived.Test.YtooglnhlhgmhdaaGreatV2
import Derived.Test.YtooglnhlhgmhdaaGreatV3
import Derived.Test.YtooglnhlhgmhdaaGreatV4
import Derived.Test.YtooglnhlhgmhdaaGreatV5
import Derived.Test.YtooglnhlhgmhdaaGreatV7
import Derived.Test.YtooglnhlhgmhdaaGreatV9
import Derived.Test.YtooglnhlhgmhdaaGreatV12
import Derived.Test.YtooglnhlhgmhdaaGreatV13
import Derived.Test.YtooglnhlhgmhdaaGreatV14
import Derived.Test.YtooglnhlhgmhdaaGreatV16
import Derived.WalkKit
import Derived.Test.YtooglnhlhgmhdaaGreatRows
import Derived.BigQuiet
import Derived.Deep.QuietTactic
import Derived.Lib.Hide
import Derived.Lib.Small
import Derived.Lib.Walk
import Derived.Lib.BitFns
import Derived.Maps.AppendAt
import Derived.RangeFuncNested
import Derived.RangeFuncBound
import Derived.RangeFuncCalls
import Derived.RangeFuncLeaves
import Derived.Shelf.Abstract
import Derived.OwnWalkIn
import Derived.TacticsInMore
import Derived.LoopNIn
import Derived.LoopIn
import Derived.RangeFuncBox
import Derived.Deep.RegionHeld3
import Derived.OrdersIn
import Derived.StillTailTactics
import Derived.RangeFuncFrom
import Derived.Laws.EntriesVeiled
import Derived.ProofKit
import Derived.OpenShut
import Derived.JoinedCond
import Derived.Carry
import Derived.Laws.AppendOwnNone
import Derived.Lib.ItoaNum
import Derived.Deep.RegionLaw
import Derived.WalkMore
import Derived.Lib.SmallJoins
import Derived.IntWalk
import Derived.Deep.DeepCutAuto
import Derived.Laws.OwnMore
namespace Go.Proofs.YtooglnhlhgmhdaaGreat
set_option maxRecDepth 100000
section
open Go.RowKit
set_option linter.unusedVariables false
set_option linter.unusedSimpArgs false
theorem ArgR.box {w : World} {v : Value} {x : Rat} {n : Nat} (h : ArgR w v x n) : ∃ (m : Bool) (zs ys : List Int) (ad bd : Option Addr) (ca cb : Nat), v = .agg #[.bool m, .slice ad zs.length ca, .slice bd ys.length cb] := by
  obtain ⟨zs, ys, ad, bd, ca, cb, rfl, _⟩ := h
  exact ⟨_, zs, ys, ad, bd, ca, cb, rfl⟩
end
section
open Go.RowKit
set_option linter.unusedVariables false
set_option linter.unusedSimpArgs false
/-- block g has room for cap numbers, of which the first are zs -/
def PartS (w : World) (g cap : Nat) (zs : List Int) : Prop := ∃ cur : Array Value, w.heap[g]? = some (.cells cur 3 (0, 0)) ∧ cur.size = cap ∧ zs.length ≤ cap ∧ cur.toList.take zs.length = zs.map (Value.int .i64)
theorem PartS.cell {w : World} {g cap : Nat} {zs : List Int} (h : PartS w g cap zs) (i : Nat) (hi : i < zs.length) : w.cell? ⟨g, i, none⟩ = some (.int .i64 (zs.getD i 0)) := by
  obtain ⟨cur, hh, hs, hl, ht⟩ := h
  have e : w.cell? ⟨g, i, none⟩ = cur[i]? := cell_of_row w g i _ 3 (0, 0) hh
  rw [e]
  have h1 : (cur.toList.take zs.length)[i]? = cur[i]? := by rw [List.getElem?_take_of_lt hi]; simp
  rw [← h1, ht]
  simp [hi]
theorem PartS.free {w : World} {g cap : Nat} {zs : List Int} (h : PartS w g cap zs) (i : Nat) : w.frozen? ⟨g, i, none⟩ = false := by
  obtain ⟨cur, hh, _⟩ := h
  exact frozen_of_row w g i _ 3 hh
theorem PartS.lt {w : World} {g cap : Nat} {zs : List Int} (h : PartS w g cap zs) : g < w.heap.size := by obtain ⟨cur, hh, _⟩ := h; exact lt_of_block hh
theorem PartS.le {w : World} {g cap : Nat} {zs : List Int} (h : PartS w g cap zs) : zs.length ≤ cap := by obtain ⟨_, _, _, h, _⟩ := h; exact h
theorem PartS.same {w w' : World} {g cap : Nat} {zs : List Int} (h : PartS w g cap zs) (e : w'.heap[g]? = w.heap[g]?) : PartS w' g cap zs := by
  obtain ⟨cur, hh, r⟩ := h
  exact ⟨cur, e.trans hh, r⟩
theorem PartS.later {w w' : World} {g cap : Nat} {zs : List Int} (h : PartS w g cap zs) (k : Below w.heap.size w w') : PartS w' g cap zs := h.same (k.block g h.lt)
theorem PartS.far {w : World} {g cap : Nat} {zs : List Int} (h : PartS w g cap zs) {p : Addr} (hne : g ≠ p.block) (u : Value) : PartS (w.setCell p u) g cap zs := h.same (Below.heap_setCell _ _ _ _ hne)
theorem PartS.set {w : World} {g cap : Nat} {zs : List Int} (h : PartS w g cap zs) (i : Nat) (hi : i < zs.length) (x : Int) : PartS (w.setCell ⟨g, i, none⟩ (.int .i64 x)) g cap (zs.set i x) := by
  obtain ⟨cur, hh, hs, hl, ht⟩ := h
  refine ⟨cur.setIfInBounds i (.int .i64 x), ?_, by simpa using hs, by simpa using hl, ?_⟩
  · have e := heap_setCell_same w g i _ 3 (.int .i64 x) hh
    rw [e]
  · rw [List.length_set, Array.toList_setIfInBounds, List.take_set, ht, List.map_set]
theorem PartS.num {base g cap : Nat} {w : World} {zs : List Int} (h : PartS w g cap zs) (hb : base ≤ g) (hm : cap ≤ maxLen) : NumS base w (.slice (some ⟨g, 0, none⟩) zs.length cap) zs := by
  obtain ⟨cur, hh, hs, hl, ht⟩ := h
  exact ⟨by simp, .inr ⟨g, cap, cur, rfl, hb, hh, hl, hm, by simpa using hs, by simpa using ht⟩⟩
theorem ResS.grown {base : Nat} {w w' : World} {u : Value} {xs : List Int} {row : Option Nat} (h : ResS base w u xs) (k : w.grownBy w' row) (hb : ∀ g, u.ownBlock = some g → some g ≠ row) : ResS base w' u xs := by
  refine ⟨?_, h.wf⟩
  obtain ⟨h1, h2⟩ := h.num
  refine ⟨h1, ?_⟩
  rcases h2 with h2 | ⟨r, cap, cur, rfl, hr, hh, hrest⟩
  · exact .inl h2
  · exact .inr ⟨r, cap, cur, rfl, hr, (k.block r (lt_of_block hh) (hb r rfl)).trans hh, hrest⟩
/-- a slice of slices of numbers, all of the call's own -/
def RowsS (base : Nat) (w : World) (v : Value) (L : List (List Int)) : Prop :=
  ∃ vals : List Value, w.ownsRow base 22 1 v vals.length vals ∧ vals.length = L.length ∧ ∀ i, i < L.length → ∃ u, vals[i]? = some u ∧ ResS base w u (L.getD i [])
theorem RowsS.later {base : Nat} {w w' : World} {v : Value} {L : List (List Int)} (h : RowsS base w v L) (hb : Below w.heap.size w w') : RowsS base w' v L := by
  obtain ⟨vals, h1, h2, h3⟩ := h
  refine ⟨vals, ?_, h2, fun i hi => ?_⟩
  · obtain ⟨m1, m2⟩ := h1
    refine ⟨m1, ?_⟩
    rcases m2 with m2 | ⟨r, cap, cur, rfl, hr, hh, hrest⟩
    · exact .inl m2
    · exact .inr ⟨r, cap, cur, rfl, hr, (hb.block r (lt_of_block hh)).trans hh, hrest⟩
  · obtain ⟨u, e, R⟩ := h3 i hi
    exact ⟨u, e, R.later hb⟩
theorem RowsS.slice {base : Nat} {w : World} {v : Value} {L : List (List Int)} (h : RowsS base w v L) (hn : L ≠ []) : ∃ g cap, v = .slice (some ⟨g, 0, none⟩) L.length cap ∧ base ≤ g ∧ L.length ≤ cap ∧ cap ≤ maxLen ∧
    ∀ i, i < L.length → ∃ u, w.cell? ⟨g, i, none⟩ = some u ∧ ResS base w u (L.getD i []) := by
  obtain ⟨vals, h1, h2, h3⟩ := h
  obtain ⟨m1, m2⟩ := h1
  rcases m2 with ⟨e, h0⟩ | ⟨r, cap, cur, rfl, hr, hh, hc, hm, hs, ht⟩
  · exact absurd (List.eq_nil_of_length_eq_zero (by omega)) hn
  · refine ⟨r, cap, by rw [h2], hr, by omega, hm, fun i hi => ?_⟩
    obtain ⟨u, e, R⟩ := h3 i hi
    refine ⟨u, ?_, R⟩
    have hj := World.ownsRow.cellAt (w := w) (base := base) (e := 22) (size := 1) (g := r) (n := vals.length) (cap := cap) (xs := vals) ⟨m1, .inr ⟨r, cap, cur, rfl, hr, hh, hc, hm, hs, ht⟩⟩ i (by omega)
    rw [hj, e]
theorem RowsS.apart {base : Nat} {w : World} {v u : Value} {vals : List Value} {n : Nat} {xs : List Int} (h : w.ownsRow base 22 1 v n vals) (R : ResS base w u xs) : ∀ g, u.ownBlock = some g → some g ≠ v.ownBlock := by
  intro g hg he
  obtain ⟨_, m2⟩ := h
  obtain ⟨_, r2⟩ := R.num
  rcases r2 with ⟨rfl, _⟩ | ⟨r, cap, cur, rfl, _, hh, _⟩
  · cases hg
  · simp [Value.ownBlock] at hg
    subst hg
    rcases m2 with ⟨rfl, _⟩ | ⟨q, cap2, cur2, rfl, _, hh2, _⟩
    · cases he
    · simp [Value.ownBlock] at he
      subst he
      have := hh.symm.trans hh2
      simp at this
end
section
open Go.RowKit
set_option linter.unusedVariables false
set_option linter.unusedSimpArgs false
theorem inS_wid {s xs : List Int} (h : inS s xs) (hs : Wid s) : Wid xs := by
  intro x hx
  obtain ⟨i, hi, rfl⟩ := List.getElem_of_mem hx
  have hl := inS_length h
  have h1 := inS_at h (i := i) (by omega)
  have h2 := hs.getD i
  have e : xs.getD i 0 = xs[i] := by simp [hi]
  rw [e] at h1
  omega
end
section
open Go.RowKit
set_option linter.unusedVariables false
set_option linter.unusedSimpArgs false
theorem make_runS (n : Nat) (hc : n ≤ 17592186044416) (w : World) :
    (Instr.makeSlice 22 (.int .i64 (n : Int)) (.int .i64 (n : Int))).run Tryz.prog w = .ok (.slice (some ⟨w.heap.size, 0, none⟩) n n) (w.alloc (.cells (madeCells #[.int .i64 0] n) 3)) := by
  obtain ⟨i0, hi, hz0, hz1, hz2⟩ := info_parts infoS
  have h := run_make (P := Tryz.prog) w 22 3 i0 (.int .i64 0) Tryz.underlying22 hi hz0 .i64 .i64 n n (by omega) (by omega) (by rw [hz2]; omega) (by omega)
  simpa [hz1, Value.cells] using h
/-- why an index has no place: 0, or an error; its place -/
def offC (s xs : List Int) : Int := if mayC s ≠ 0 then mayC s else if xs.length ≠ s.length then 2 else if inS s xs then 0 else 21
def offV (s xs : List Int) : Int := if offC s xs = 0 then placeS s xs else 0
theorem offC_may {s xs : List Int} (h : mayC s ≠ 0) : offC s xs = mayC s := by unfold offC; rw [if_pos h]
theorem offC_arg {s xs : List Int} (h : mayC s = 0) (h2 : xs.length ≠ s.length) : offC s xs = 2 := by unfold offC; rw [if_neg (by rw [h]; simp), if_pos h2]
theorem offC_in {s xs : List Int} (h : mayC s = 0) (h3 : inS s xs) : offC s xs = 0 := by unfold offC; rw [if_neg (by rw [h]; simp), if_neg (by rw [inS_length h3]; simp), if_pos h3]
theorem offC_out {s xs : List Int} (h : mayC s = 0) (h2 : xs.length = s.length) (h3 : ¬ inS s xs) : offC s xs = 21 := by unfold offC; rw [if_neg (by rw [h]; simp), if_neg (by rw [h2]; simp), if_neg h3]
theorem offV_in {s xs : List Int} (h : mayC s = 0) (h3 : inS s xs) : offV s xs = placeS s xs := by unfold offV; rw [if_pos (offC_in h h3)]
theorem offV_bad {s xs : List Int} (h : offC s xs ≠ 0) : offV s xs = 0 := by unfold offV; rw [if_neg h]
end
section
open Go.RowKit Go.Shelf
attribute [local go_sem] Oper.semAt_some
set_option linter.unusedVariables false
set_option linter.unusedSimpArgs false
theorem wideCallS {n : Nat} {P : Program} {f : FuncId} {args : Array Value} {w : World} {R : Ending → World → Prop} (h : Calls P f args w R) :
    Fence.wide.fn f ∧ (Fence.wide.depth.isSome = true → 1 ≤ n) ∧ CallsIn Fence.wide (n - 1) P f args w R := ⟨trivial, (fun h => by cases h), callsIn_wide.2 h⟩
/-- what a round is handed: the place, the number -/
def numAt (xs : List Int) {n : Nat} (x : Fin n) : Array Value := #[.int .i64 (x.val : Int), .int .i64 (xs[x.val]?.getD 0)]
/-- the last k places, from above -/
def DowntoS {n : Nat} (pre : List (Fin n)) (k : Nat) : Prop := pre.length = k ∧ ∀ i (h : i < pre.length), (pre[i]).val + i + 1 = n
theorem DowntoS.nil {n : Nat} : DowntoS ([] : List (Fin n)) 0 := ⟨rfl, fun i h => by simp at h⟩
theorem DowntoS.snoc {n k : Nat} {pre : List (Fin n)} (h : DowntoS pre k) (x : Fin n) (hx : x.val + k + 1 = n) : DowntoS (pre ++ [x]) (k + 1) := by
  obtain ⟨h1, h2⟩ := h
  refine ⟨by simp [h1], fun i hi => ?_⟩
  by_cases hlt : i < pre.length
  · rw [List.getElem_append_left hlt]; exact h2 i hlt
  · have : i = k := by simp at hi; omega
    subst this
    rw [List.getElem_append_right (by omega)]
    simp [h1, hx]
/-- nothing below G has changed, nor block Bs -/
structure KpS (G Bs : Nat) (W W' : World) : Prop where
  below : Below G W W'
  box : W'.heap[Bs]? = W.heap[Bs]?
theorem KpS.refl (G Bs : Nat) (W : World) : KpS G Bs W W := ⟨Below.refl _ _, rfl⟩
theorem KpS.trans {G Bs : Nat} {A B C : World} (h : KpS G Bs A B) (k : KpS G Bs B C) : KpS G Bs A C := ⟨h.below.trans k.below, k.box.trans h.box⟩
theorem KpS.b {G Bs : Nat} {w : World} (hg : G ≤ w.heap.size) (hn : Bs < w.heap.size) (W : World) (l : Nat) (o o' : Obj) (hl : w.heap.size ≤ l) (h : W.heap[l]? = some o) (h1 : o.isCells = false) (h2 : o.isWalk = false) : KpS G Bs W (W.putObj l o') :=
  ⟨belowK_b hg W l o o' hl h h1 h2, World.putObj_heap_other (by omega)⟩
set_option maxRecDepth 100000 in
set_option maxHeartbeats 2000000 in
theorem backS1_in (n l Bs n₀ : Nat) (ad : Option Addr) (xs : List Int) (cap : Nat) (hm : xs.length ≤ 35184372088832) (hb : xs ≠ [] → ∀ a, ad = some a → a.block < n₀) (J Jx : List (Fin xs.length) → World → Prop)
    (hY : ∀ pre x W, J pre W → pre.length < xs.length → YieldAt Fence.wide (n - 1) Tryz.prog l (numAt xs x) W fun e W' =>
      (e = .returned (.bool true) ∧ J (pre ++ [x]) W' ∧ KpS n₀ Bs W W') ∨ (e = .returned (.bool false) ∧ Jx (pre ++ [x]) W'))
    (W : World) (hBs : W.cell? ⟨Bs, 0, none⟩ = some (.slice ad xs.length cap)) (hl : LimS W ad xs) (h0 : J [] W) :
    CallsIn Fence.wide n Tryz.prog 154 #[.func (.yield l) #[] #[], .pointer (some ⟨Bs, 0, none⟩)] W fun e W' => (∃ v, e = .returned v) ∧
      ((∃ ys, DowntoS ys xs.length ∧ J ys W') ∨ (∃ pre, (∃ k, k ≤ xs.length ∧ DowntoS pre k) ∧ Jx pre W')) := by
  refine callsIn_of_wp Tryz.func154 rfl trivial ?_ rfl
  simp only [Tryz.ntmps154, List.size_toArray, List.length_cons, List.length_nil, Nat.reduceAdd, Nat.reduceSub, Array.replicate_succ, Array.replicate_zero, List.push_toArray, List.append_toArray, List.nil_append, List.cons_append]
  gi_wp2_with fail
  gi_loopw [3] (fun i wr => ∃ (k : Nat) (pre : List (Fin xs.length)), k ≤ xs.length ∧ i = .int .i64 ((xs.length : Int) - 1 - k) ∧ DowntoS pre k ∧ J pre wr ∧ KpS n₀ Bs W wr)
    (fun i _ => (intOf i + 1).toNat)
  case atStart => exact ⟨0, [], Nat.zero_le _, by simp, DowntoS.nil, h0, KpS.refl _ _ _⟩
  case round =>
    obtain ⟨k, pre, hk, rfl, hdn, hJs, hnx⟩ := hrel
    have hBr := (World.cell?_of_block (a := ⟨Bs, 0, none⟩) hnx.box).trans hBs
    by_cases hlt : k < xs.length
    · rcases hl with rfl | ⟨b, off, rfl, hc⟩
      · simp at hlt
      · obtain ⟨j, hj⟩ : ∃ j, j + k + 1 = xs.length := ⟨xs.length - k - 1, by omega⟩
        have hji : ((xs.length : Int) - 1 - k) = (j : Int) := by omega
        rw [hji]
        have hjl : j < xs.length := by omega
        obtain ⟨fn, tmps, assign, body, hy, hR⟩ := hY pre ⟨j, hjl⟩ wr hJs (by rw [hdn.1]; exact hlt)
        simp only [numAt] at hy
        have hcx := (hnx.below.cell (p := ⟨b, off + j, none⟩) (hb (by rintro rfl; simp at hlt) ⟨b, off, none⟩ rfl)).trans (hc j (by omega))
        have ej : xs[j]?.getD 0 = xs[j] := by simp [hjl]
        rw [ej] at hy
        have HJ := Lib.hid hj
        clear hc hj hji ej
        gi_wp2
        refine ⟨(fun h => by cases h), hR.mono ?_⟩
        rintro e W3 (⟨rfl, hJ3, hk3⟩ | ⟨rfl, hJx3⟩)
        · gi_wp2
          go_roundw
          case rel => exact ⟨k + 1, _, by omega, by have := HJ.out; congr 1; omega, hdn.snoc ⟨j, hjl⟩ HJ.out, hJ3, hnx.trans hk3⟩
          case measure => simp [intOf]
        · gi_wp2
          refine bodyPost_ret (results_none rfl _ _ _) rfl ?_
          exact ⟨⟨_, rfl⟩, .inr ⟨_, ⟨k + 1, by omega, hdn.snoc ⟨j, hjl⟩ HJ.out⟩, hJx3⟩⟩
    · obtain rfl : k = xs.length := by omega
      have hji : ((xs.length : Int) - 1 - xs.length) = -1 := by omega
      rw [hji]
      clear hji
      gi_wp2
      go_end0
      exact ⟨⟨_, rfl⟩, .inl ⟨_, hdn, hJs⟩⟩
theorem backI_any (ad : Option Addr) (n cap : Nat) (w : World) :
    Calls Tryz.prog 131 #[.slice ad n cap] w fun e w' => e = .returned (.func (.func 154) #[] #[.pointer (some ⟨w.heap.size, 0, none⟩)]) ∧ w' = w.alloc (.cells #[.slice ad n cap] 23) := by
  go_enter Tryz.func131, Tryz.ntmps131
  go_wp2
  go_ret
  exact ⟨rfl, rfl⟩
theorem backI_stops (n Bs n₀ : Nat) (ad : Option Addr) (xs : List Int) (cap : Nat) (hm : xs.length ≤ 35184372088832) (hb : xs ≠ [] → ∀ a, ad = some a → a.block < n₀) (w : World) (hBs : Bs < w.heap.size)
    (hc : w.cell? ⟨Bs, 0, none⟩ = some (.slice ad xs.length cap)) (hl : LimS w ad xs) :
    SeqStopsK Fence.wide n Tryz.prog 154 #[.pointer (some ⟨Bs, 0, none⟩)] (numAt xs (n := xs.length)) (KpS n₀ Bs) (fun ys => DowntoS ys xs.length) (fun pre => ∃ k, k ≤ xs.length ∧ DowntoS pre k) xs.length w := fun l J Jx W hW _ _ hY h0 =>
  backS1_in n l Bs n₀ ad xs cap hm hb J Jx hY W ((hW.cell (p := ⟨Bs, 0, none⟩) hBs).trans hc) (hl.later hW) h0
theorem blkS_own {β : Type} (g : Nat) (f : β → List Int) : Own (fun s W => BlkS W g (f s)) := fun s X Y row hs hg hrow =>
  hs.grown hg (fun e' => by obtain ⟨o, ho, hc⟩ := hrow g e'.symm; rw [show X.heap[g]? = _ from hs] at ho; cases ho; cases hc)
theorem boxS_far {W : World} {B : Nat} {t : TypeId} {v : Value} (h : Boxed W B t v) {p : Addr} (hne : B ≠ p.block) (u : Value) : Boxed (W.setCell p u) B t v := (Below.heap_setCell _ _ _ _ hne).trans h
theorem ownS_and2 {β : Type} {I J : β → World → Prop} (h : Own I) (k : Own J) : Own (fun s W => I s W ∧ J s W) := fun s X Y row hs hg hr => ⟨h s X Y row hs.1 hg hr, k s X Y row hs.2 hg hr⟩
theorem BlkS.far {w : World} {g : Nat} {zs : List Int} (h : BlkS w g zs) {p : Addr} (hne : g ≠ p.block) (u : Value) : BlkS (w.setCell p u) g zs := h.same (Below.heap_setCell _ _ _ _ hne)
/-- the last k places, from above -/
def downs (L k : Nat) : List Nat := (List.range k).map fun i => L - 1 - i
theorem downs_next (L k : Nat) : downs L (k + 1) = downs L k ++ [L - 1 - k] := by
  unfold downs
  rw [List.range_succ, List.map_append]; rfl
theorem DowntoS.downs {n k : Nat} {pre : List (Fin n)} (h : DowntoS pre k) : pre.map Fin.val = downs n k := by
  obtain ⟨h1, h2⟩ := h
  apply List.ext_getElem
  · simp [Proofs.YtooglnhlhgmhdaaGreat.downs, h1]
  · intro i g1 g2
    have h3 := h2 i (by simpa using g1)
    simp only [List.getElem_map, Proofs.YtooglnhlhgmhdaaGreat.downs, List.getElem_range]
    omega
end
section
open Go.RowKit Go.Shelf
attribute [local go_sem] Oper.semAt_some
set_option linter.unusedVariables false
set_option linter.unusedSimpArgs false
/-- one round of Index: the row, what is left of the place -/
def idxStep (s : List Int) (t : List Int × Int) (i : Nat) : List Int × Int := (t.1.set i (t.2 % s.getD i 0), t.2 / s.getD i 0)
def idxOf (s : List Int) (n : Int) (ks : List Nat) : List Int × Int := ks.foldl (idxStep s) (List.replicate s.length 0, n)
theorem idxOf_snoc (s : List Int) (n : Int) (ks : List Nat) (k : Nat) : idxOf s n (ks ++ [k]) = idxStep s (idxOf s n ks) k := by simp [idxOf]
theorem idxOf_len {s : List Int} {n : Int} (ok : OkS s) (h0 : 0 ≤ n) (h1 : n < 1024) (ks : List Nat) (hk : ∀ k ∈ ks, k < s.length) : (idxOf s n ks).1.length = s.length ∧ 0 ≤ (idxOf s n ks).2 ∧ (idxOf s n ks).2 < 1024 := by
  suffices h : ∀ t : List Int × Int, t.1.length = s.length ∧ 0 ≤ t.2 ∧ t.2 < 1024 → (ks.foldl (idxStep s) t).1.length = s.length ∧ 0 ≤ (ks.foldl (idxStep s) t).2 ∧ (ks.foldl (idxStep s) t).2 < 1024 from h _ ⟨by simp, h0, h1⟩
  induction ks with
  | nil => exact fun t h => h
  | cons k ks ih =>
    intro t ⟨h1, h2, h3⟩
    have hd := ok.pos.getD (hk k (List.mem_cons_self ..))
    refine ih (fun j hj => hk j (List.mem_cons_of_mem _ hj)) _ ⟨by simp only [idxStep, List.length_set]; exact h1, ?_, ?_⟩
    · exact Int.ediv_nonneg h2 (by omega)
    · have := Int.ediv_le_self (s.getD k 0) h2
      simp only [idxStep]
      omega
theorem mod_divS {n d p : Int} (h0 : 0 ≤ n) (hd : 1 ≤ d) (hp : 1 ≤ p) : n % (d * p) / p = n / p % d := by
  obtain ⟨N, rfl⟩ : ∃ N : Nat, n = (N : Int) := ⟨n.toNat, by omega⟩
  obtain ⟨D, rfl⟩ : ∃ N : Nat, d = (N : Int) := ⟨d.toNat, by omega⟩
  obtain ⟨P, rfl⟩ : ∃ N : Nat, p = (N : Int) := ⟨p.toNat, by omega⟩
  have := Nat.mod_mul_left_div_self N P D
  rw [← Int.natCast_mul, ← Int.natCast_emod, ← Int.natCast_ediv, ← Int.natCast_ediv, ← Int.natCast_emod]
  rw [show D * P = D * P from rfl]
  exact congrArg Int.ofNat this
theorem idxS_drop {s : List Int} (hp : posS s) {n : Int} (h0 : 0 ≤ n) (j : Nat) : (idxS s n).drop j = idxS (s.drop j) (if j = 0 then n else n % prodS (s.drop j)) := by
  induction j generalizing s n with
  | zero => simp
  | succ j ih =>
    cases s with
    | nil => simp [idxS]
    | cons d ds =>
      simp only [idxS, List.drop_succ_cons]
      have hP := prodS_pos hp.tail
      rw [ih hp.tail (Int.emod_nonneg _ (by omega))]
      rw [if_neg (Nat.succ_ne_zero j)]
      by_cases hj : j = 0
      · subst hj; simp
      · rw [if_neg hj]
        congr 1
        rw [prodS_split ds j, Int.emod_emod_of_dvd _ (Int.dvd_mul_left _ _)]
theorem idxOf_downs {s : List Int} {n : Int} (ok : OkS s) (h0 : 0 ≤ n) (h1 : n < prodS s) {k : Nat} (hk : k ≤ s.length) : idxOf s n (downs s.length k) = (List.replicate (s.length - k) 0 ++ (idxS s n).drop (s.length - k), n / prodS (s.drop (s.length - k))) := by
  induction k with
  | zero =>
    have : (idxS s n).drop s.length = [] := List.drop_of_length_le (by rw [idx_length]; exact Nat.le_refl _)
    simp [idxOf, downs, this, prodS]
  | succ k ih =>
    rw [downs_next, idxOf_snoc, ih (by omega)]
    obtain ⟨j, hj⟩ : ∃ j, s.length - (k + 1) = j := ⟨_, rfl⟩
    have hjl : j < s.length := by omega
    rw [show s.length - k = j + 1 by omega, show s.length - 1 - k = j by omega, hj]
    unfold idxStep
    have e3 := prodS_pos (ok.pos.drop (j + 1))
    have hd := ok.pos.getD hjl
    have e1 := prodS_drop hjl
    refine Prod.ext ?_ ?_
    · show (List.replicate (j + 1) 0 ++ (idxS s n).drop (j + 1)).set j (n / prodS (s.drop (j + 1)) % s.getD j 0) = List.replicate j 0 ++ (idxS s n).drop j
      have hdr := idxS_drop ok.pos h0 j
      have ei : (idxS s n).drop j = (n / prodS (s.drop (j + 1)) % s.getD j 0) :: (idxS s n).drop (j + 1) := by
        have hl : j < (idxS s n).length := by rw [idx_length]; exact hjl
        rw [List.drop_eq_getElem_cons hl]
        congr 1
        have hm : (if j = 0 then n else n % prodS (s.drop j)) = n % prodS (s.drop j) := by
          by_cases hz : j = 0
          · subst hz
            rw [if_pos rfl, List.drop_zero, Int.emod_eq_of_lt h0 h1]
          · rw [if_neg hz]
        rw [hm, List.drop_eq_getElem_cons hl, List.drop_eq_getElem_cons hjl] at hdr
        simp only [idxS, List.cons.injEq] at hdr
        rw [hdr.1, ← mod_divS h0 hd e3]
        congr 2
        rw [getD_elem hjl]
        rfl
      rw [ei, List.replicate_succ', List.append_assoc, List.set_append_right _ _ (by simp), List.length_replicate, Nat.sub_self]
      rfl
    · show n / prodS (s.drop (j + 1)) / s.getD j 0 = n / prodS (s.drop j)
      rw [Int.ediv_ediv_of_nonneg (by omega), e1, Int.mul_comm]
theorem idxOf_all {s : List Int} {n : Int} (ok : OkS s) (h0 : 0 ≤ n) (h1 : n < prodS s) : idxOf s n (downs s.length s.length) = (idxS s n, n / prodS s) := by
  rw [idxOf_downs ok h0 h1 (Nat.le_refl _), Nat.sub_self]
  simp
set_option maxRecDepth 100000 in
set_option maxHeartbeats 4000000 in
theorem indexS_any {u : Value} {s : List Int} {a : Option Addr} {ca : Nat} {w : World} (n : Int) (A : ArgS w u s a ca) (ha : a = none → ca = 0) (hx : s.length ≤ 17592186044416) (h0 : -9223372036854775808 ≤ n) (h1 : n ≤ 9223372036854775807) :
    Calls Tryz.prog 111 #[u, .int .i64 n] w fun e w' => ∃ r, e = .returned (.tuple #[r, .int .i64 (idxC s n)]) ∧ ResS w.heap.size w' r (idxV s n) ∧ Below w.heap.size w w' := by
  have hb0 : Below w.heap.size w (w.alloc (.cells #[.int .i64 n] 3)) := (Below.refl _ w).alloc (Nat.le_refl _) _
  have A0 := A.later hb0
  have hc := cnt_any A0
  have hAl := A0.lim
  have hAw := A.lim
  have hle := A.le
  have HA := Lib.hid A
  obtain rfl := A.is
  have hbox := Boxed.new w 3 (.int .i64 n)
  have hboxc := hbox.cell
  have hq := below_any n (countS s) (w.alloc (.cells #[.int .i64 n] 3))
  obtain ⟨nn, hnn⟩ : ∃ nn : Nat, Hid (3 ≤ nn) := ⟨3, Nat.le_refl 3⟩
  by_cases hm : mayC s = 0
  · have ok := mayC_zero.1 hm
    have HO := Lib.hid ok
    have h4 := ok.rank
    have hfew := ok.few
    rw [hm, ok.count] at hc
    rw [ok.count] at hq
    by_cases hin : 0 ≤ n ∧ n < prodS s
    · obtain ⟨n0, n1⟩ := hin
      have hic := idxC_in hm n0 n1
      rw [hic, idxV_in hic]
      rw [belowB_yes n0 n1] at hq
      have N0 := Lib.hid n0
      have N1 := Lib.hid n1
      have hmk := make_runS s.length (by omega)
      obtain ⟨P, hP⟩ : ∃ P, prodS s = P := ⟨_, rfl⟩
      rw [hP] at hc hq
      have HP := Lib.hid hP
      clear A A0 ha hm ok hic hP n1 hfew
      refine (callsIn_wide (n := nn)).1 ?_
      refine callsIn_of_wp_marks Tryz.func111 rfl trivial ?_ rfl
      simp only [Tryz.ntmps111, List.size_toArray, List.length_cons, List.length_nil, Nat.reduceAdd, Nat.reduceSub, Array.replicate_succ, Array.replicate_zero, List.push_toArray, List.append_toArray, List.nil_append, List.cons_append]
      gi_wp2_with fail
      refine wideCallS (hc.mono ?_)
      rintro e w' ⟨rfl, rfl⟩
      gi_wp2_with fail
      refine wideCallS (hq.mono ?_)
      rintro e w' ⟨rfl, rfl⟩
      gi_wp2_with fail
      have k0 := ((Boxed.new w 3 (.int .i64 n)).alloc (.cells (madeCells #[.int .i64 0] s.length) 3)).alloc (.cells #[.slice (some ⟨w.heap.size + 1, 0, none⟩) s.length s.length] 22)
      have k1 := ((BlkS.made (w.alloc (.cells #[.int .i64 n] 3)) s.length).alloc (.cells #[.slice (some ⟨w.heap.size + 1, 0, none⟩) s.length s.length] 22))
      have k2 := Boxed.new ((w.alloc (.cells #[.int .i64 n] 3)).alloc (.cells (madeCells #[.int .i64 0] s.length) 3)) 22 (.slice (some ⟨w.heap.size + 1, 0, none⟩) s.length s.length)
      have k4 : Below w.heap.size w (((w.alloc (.cells #[.int .i64 n] 3)).alloc (.cells (madeCells #[.int .i64 0] s.length) 3)).alloc (.cells #[.slice (some ⟨w.heap.size + 1, 0, none⟩) s.length s.length] 22)) :=
        (((Below.refl _ w).alloc (Nat.le_refl _) _).alloc (by simp) _).alloc (by simp; omega) _
      have k5 : (((w.alloc (.cells #[.int .i64 n] 3)).alloc (.cells (madeCells #[.int .i64 0] s.length) 3)).alloc (.cells #[.slice (some ⟨w.heap.size + 1, 0, none⟩) s.length s.length] 22)).heap.size = w.heap.size + 1 + 1 + 1 := by simp
      simp only [World.size_alloc] at k1 k2
      generalize (((w.alloc (.cells #[.int .i64 n] 3)).alloc (.cells (madeCells #[.int .i64 0] s.length) 3)).alloc (.cells #[.slice (some ⟨w.heap.size + 1, 0, none⟩) s.length s.length] 22)) = V at *
      refine wideCallS ((backI_any _ _ _ _).mono ?_)
      rintro e w' ⟨rfl, rfl⟩
      gi_wp2_with fail
      have bN := Boxed.new V 23 (.slice a s.length ca)
      have j0 := k0.alloc (.cells #[.slice a s.length ca] 23)
      have j1 := k1.alloc (.cells #[.slice a s.length ca] 23)
      have j2 := k2.alloc (.cells #[.slice a s.length ca] 23)
      have j4 := k4.alloc (by omega) (.cells #[.slice a s.length ca] 23)
      have j5 : (V.alloc (.cells #[.slice a s.length ca] 23)).heap.size = w.heap.size + 1 + 1 + 1 + 1 := by simp; omega
      rw [k5] at bN
      (try rw [k5])
      generalize (V.alloc (.cells #[.slice a s.length ca] 23)) = W5 at *
      clear k0 k1 k2 k4 k5 hmk hbox hboxc hb0 hAl hc hq
      have h3 : 3 ≤ nn := hnn
      have hlt0 : ∀ x, s ≠ [] → a = some x → x.block < w.heap.size := fun x h1 h2 => hAw.lt h1 x h2
      refine wpIn_rangeFunc_ownF rfl (by omega) (gf := 154) (lb := #[.pointer (some ⟨w.heap.size + 1 + 1 + 1, 0, none⟩)]) rfl trivial (enters_of Tryz.func154 (by kernel_rfl) rfl)
        (backI_stops (nn - 1) (w.heap.size + 1 + 1 + 1) w.heap.size a s ca (by omega) (fun h x hx => hlt0 x h hx) _ (by omega) bN.cell (hAw.later j4)) KpS.trans (KpS.b (by omega) (by omega)) (Below.refl _ _) (fun _ => rfl)
        (fun (pre : List (Fin s.length)) X => ((BlkS X (w.heap.size + 1) (idxOf s n (pre.map Fin.val)).1 ∧ Boxed X (w.heap.size + 1 + 1) 22 (.slice (some ⟨w.heap.size + 1, 0, none⟩) s.length s.length)) ∧ Boxed X w.heap.size 3 (.int .i64 (idxOf s n (pre.map Fin.val)).2)) ∧ Below w.heap.size w X)
        (fun _ _ _ => False)
        (OwnFrom.and (Own.from (ownS_and2 (ownS_and2 (blkS_own _ _) (boxed_own _ _ _)) (boxed_own _ _ _)) _) (ownFrom_below (Nat.le_refl _) (by omega)))
        (fun _ _ _ _ _ hs _ _ => hs)
        ⟨⟨⟨j1, j2⟩, j0⟩, j4⟩
        (fun (x : Fin s.length) => { tmps := #[.slice a s.length ca, .int .i64 n, undef, .pointer (some ⟨w.heap.size, 0, none⟩), .slice none 0 0, .int .i64 0, .int .i64 P, .int .i64 0, .pointer (some ⟨w.heap.size + 1 + 1, 0, none⟩), .int .i64 (x.val : Int), .int .i64 (s[x.val]?.getD 0),
          .tuple #[.int .i64 P, .int .i64 0], .slice a s.length ca, .tuple #[.int .i64 P, .int .i64 0], .int .i64 P, .int .i64 0, .int .i64 0, .bool false, undef, .int .i64 n, .int .i64 P, .bool true, .bool false, .slice a s.length ca, .int .i64 s.length,
          .slice (some ⟨w.heap.size + 1, 0, none⟩) s.length s.length, .slice a s.length ca,
          .func (.func 154) #[] #[.pointer (some ⟨w.heap.size + 1 + 1 + 1, 0, none⟩)], .int .i64 (x.val : Int), .int .i64 (s[x.val]?.getD 0), undef, undef, undef, undef, undef, undef, undef, undef, undef, undef], defers := [] }) ?assign ?body ?done ?stop
      case assign =>
        intro l x X K hK
        simp only [numAt]
        rw [show s[x.val]?.getD 0 = s[x.val] by simp] at hK
        gi_wp2
        exact hK
      case body =>
        rintro l pre ⟨k, hk⟩ X ⟨⟨⟨hblk, q1⟩, q2⟩, hB⟩ hlt
        obtain ⟨hl, hc0, hc1⟩ := idxOf_len HO.out N0.out (by have := N1.out; have := HO.out.few; omega) (pre.map Fin.val) (by intro j hj; rw [List.mem_map] at hj; obtain ⟨y, _, rfl⟩ := hj; exact y.isLt)
        obtain ⟨st, hst⟩ : ∃ st, idxOf s n (pre.map Fin.val) = st := ⟨_, rfl⟩
        rw [hst] at hblk q2 hl hc0 hc1
        have HS := Lib.hid hst
        obtain ⟨zs, c⟩ := st
        simp only at hblk q2 hl hc0 hc1
        have c1 := q1.cell
        have c2 := q2.cell
        have hd1 := HO.out.pos.getD hk
        have hd2 := getD_le_prod HO.out.pos hk
        have hd3 := HO.out.few
        obtain ⟨d, hdk⟩ : ∃ d, s.getD k 0 = d := ⟨_, rfl⟩
        have hdk2 : s[k]?.getD 0 = d := hdk
        rw [hdk] at hd1 hd2
        have hd4 : d ≤ 1024 := by omega
        simp only [hdk2]
        have HX := Lib.hid hdk
        have hb2 : BlkS X.drew (w.heap.size + 1) zs := hblk
        have hck := hb2.cell k (by omega)
        have hfk := hb2.free k
        have hdz : ¬ d = 0 := by omega
        have ht : Int.tmod c d = c % d := Int.tmod_eq_emod_of_nonneg hc0
        have htd : Int.tdiv c d = c / d := Int.tdiv_eq_ediv_of_nonneg hc0
        have m0 := Int.emod_nonneg c (show d ≠ 0 by omega)
        have m1 := Int.emod_lt_of_pos c (show 0 < d by omega)
        have e0 := Int.ediv_nonneg hc0 (show 0 ≤ d by omega)
        have e1 := Int.ediv_le_self d hc0
        have q1d : Boxed X.drew (w.heap.size + 1 + 1) 22 (.slice (some ⟨w.heap.size + 1, 0, none⟩) s.length s.length) := q1
        have q2d : Boxed X.drew w.heap.size 3 (.int .i64 c) := q2
        have s2 : Boxed (X.setCell ⟨w.heap.size + 1, k, none⟩ (.int .i64 (c % d))).drew w.heap.size 3 (.int .i64 c) := boxS_far q2 (p := ⟨w.heap.size + 1, k, none⟩) (by show w.heap.size ≠ w.heap.size + 1; omega) (.int .i64 (c % d))
        have s1 : Boxed (X.setCell ⟨w.heap.size + 1, k, none⟩ (.int .i64 (c % d))).drew (w.heap.size + 1 + 1) 22 (.slice (some ⟨w.heap.size + 1, 0, none⟩) s.length s.length) := boxS_far q1 (p := ⟨w.heap.size + 1, k, none⟩) (by show w.heap.size + 1 + 1 ≠ w.heap.size + 1; omega) (.int .i64 (c % d))
        have hb3 : BlkS (X.setCell ⟨w.heap.size + 1, k, none⟩ (.int .i64 (c % d))).drew (w.heap.size + 1) (zs.set k (c % d)) := hblk.set k (c % d)
        have d2 := s2.cell
        have f2 := s2.frozen
        have HB3 := Lib.hid hb3
        have HBK := Lib.hid hb2
        have HL := Lib.hid hl
        clear hst hdk hdk2 hblk hl hd2 hd3 hb3
        gi_wp2_with fail
        refine region_round (fun X' => X'.cell? ⟨w.heap.size + 1 + 1, 0, none⟩ = some (.slice (some ⟨w.heap.size + 1, 0, none⟩) s.length s.length) ∧ X'.cell? ⟨w.heap.size, 0, none⟩ = some (.int .i64 c))
          (by kernel_rfl) (by kernel_rfl) (by rintro ⟨a', w', h⟩; exact h) ⟨c1, c2⟩ (fun hHeld => ?_)
        refine wpAnyH_take (i := 0) (v := ?va0) rfl (by kernel_rfl) (by kernel_rfl) (by kernel_rfl) (fun _ _ _ h => h) (Or.inl ⟨by rfl, ?ha0⟩) (by assumption) ?ra0
        case ha0 =>
          intro w hSw
          try dsimp only at hSw
          go_simp
          try with_reducible rfl
        try simp only [Act.put, List.setIfInBounds_toArray, List.set_cons_zero, List.set_cons_succ]
        refine wpAnyH_take (i := 1) (v := ?va1) rfl (by kernel_rfl) (by kernel_rfl) (by kernel_rfl) (fun _ _ _ h => h) (Or.inl ⟨by rfl, ?ha1⟩) (by assumption) ?ra1
        case ha1 =>
          intro w hSw
          try dsimp only at hSw
          go_simp
          try with_reducible rfl
        try simp only [Act.put, List.setIfInBounds_toArray, List.set_cons_zero, List.set_cons_succ]
        refine wpAnyH_take (i := 2) (v := ?va2) rfl (by kernel_rfl) (by kernel_rfl) (by kernel_rfl) (fun _ _ _ h => h) (Or.inl ⟨by rfl, ?ha2⟩) (by assumption) ?ra2
        case ha2 =>
          intro w hSw
          try dsimp only at hSw
          go_simp
          try with_reducible rfl
        try simp only [Act.put, List.setIfInBounds_toArray, List.set_cons_zero, List.set_cons_succ]
        refine wpAnyH_take (i := 3) (v := ?va3) rfl (by kernel_rfl) (by kernel_rfl) (by kernel_rfl) (fun _ _ _ h => h) (Or.inl ⟨by rfl, ?ha3⟩) (by assumption) ?ra3
        case ha3 =>
          intro w hSw
          try dsimp only at hSw
          go_simp
          try with_reducible rfl
        try simp only [Act.put, List.setIfInBounds_toArray, List.set_cons_zero, List.set_cons_succ]
        refine wpAnyH_take (i := 4) (v := ?va4) rfl (by kernel_rfl) (by kernel_rfl) (by kernel_rfl) (fun _ _ _ h => h) (Or.inl ⟨by rfl, ?ha4⟩) (by assumption) ?ra4
        case ha4 =>
          intro w hSw
          try dsimp only at hSw
          go_simp
          try with_reducible rfl
        try simp only [Act.put, List.setIfInBounds_toArray, List.set_cons_zero, List.set_cons_succ]
        refine wpAnyH_take (i := 5) (v := ?va5) rfl (by kernel_rfl) (by kernel_rfl) (by kernel_rfl) (fun _ _ _ h => h) (Or.inl ⟨by rfl, ?ha5⟩) (by assumption) ?ra5
        case ha5 =>
          intro w hSw
          try dsimp only at hSw
          go_simp
          try with_reducible rfl
        try simp only [Act.put, List.setIfInBounds_toArray, List.set_cons_zero, List.set_cons_succ]
        refine wpAnyH_ready (rs := [6]) (by kernel_rfl) (by simp) ?_
        refine AllReadyH.cons rfl (fun K hK => ?sb6) AllReadyH.nil
        go_simp
        refine hK.out _ _ ?kb6 (fun hHeld => ?mb6)
        case kb6 =>
          try dsimp only
          exact ⟨(World.cell?_setCell_far _ _ _ _ (by simp <;> omega)).trans hHeld.1, (World.cell?_setCell_far _ _ _ _ (by simp <;> omega)).trans hHeld.2⟩
        clear hK K
        try simp only [Act.put, List.setIfInBounds_toArray, List.set_cons_zero, List.set_cons_succ]
        refine wpAnyH_done (by kernel_rfl) ?_ _
        gi_wp2_with fail
        have hko : KeepsOthers X (X.setCell ⟨w.heap.size + 1, k, none⟩ (.int .i64 (c % d))).drew := (KeepsOthers.setCell _ _ _).trans (KeepsOthers.drew _)
        have hbo : Below w.heap.size X (X.setCell ⟨w.heap.size + 1, k, none⟩ (.int .i64 (c % d))).drew := ((Below.refl _ X).setCell (p := ⟨w.heap.size + 1, k, none⟩) (Nat.le_succ _) _).drew
        have hbx : (X.setCell ⟨w.heap.size + 1, k, none⟩ (.int .i64 (c % d))).drew.heap[w.heap.size + 1 + 1 + 1]? = X.heap[w.heap.size + 1 + 1 + 1]? := Below.heap_setCell _ _ _ _ (by show w.heap.size + 1 + 1 + 1 ≠ w.heap.size + 1; omega)
        refine ⟨hko.trans (KeepsOthers.setCell _ _ _), ⟨hbo.setCell (p := ⟨w.heap.size, 0, none⟩) (Nat.le_refl _) _, ?_⟩, ?_, (hB.trans hbo).setCell (p := ⟨w.heap.size, 0, none⟩) (Nat.le_refl _) _⟩
        · have e2 : ((X.setCell ⟨w.heap.size + 1, k, none⟩ (.int .i64 (c % d))).setCell ⟨w.heap.size, 0, none⟩ (.int .i64 (c / d))).heap[w.heap.size + 1 + 1 + 1]? = (X.setCell ⟨w.heap.size + 1, k, none⟩ (.int .i64 (c % d))).heap[w.heap.size + 1 + 1 + 1]? := Below.heap_setCell _ _ _ _ (by show w.heap.size + 1 + 1 + 1 ≠ w.heap.size; omega)
          exact e2.trans hbx
        · rw [List.map_append, List.map_cons, List.map_nil, idxOf_snoc, HS.out]
          simp only [idxStep, HX.out]
          exact ⟨⟨HB3.out.far (by show w.heap.size + 1 ≠ w.heap.size; omega) _, boxS_far s1 (by show w.heap.size + 1 + 1 ≠ w.heap.size; omega) _⟩, s2.set _⟩
      case done =>
        rintro D ks X hD hdn ⟨⟨⟨hblk, q1⟩, q2⟩, hB⟩ hK
        rw [hdn.downs, idxOf_all HO.out N0.out N1.out] at hblk q2
        have c1 := q1.cell
        gi_wp2_with fail
        refine ⟨by simp, .inl ⟨_, _, rfl, run_takeDeferred hK, ?_⟩⟩
        have hn := NumS.ofBlk hblk (Nat.le_succ w.heap.size) s.length (by rw [idx_length]; exact Nat.le_refl _) (by rw [idx_length]; unfold maxLen; omega)
        rw [idx_length, take_all (idx_length s n)] at hn
        refine ⟨_, results_tmp2 rfl _ _ _, _, rfl, ⟨?_, ?_⟩, hB.trans (belowK_b (w := w) (Nat.le_refl _) X D _ _ (by omega) hK rfl rfl)⟩
        · exact ownsRow_putObj hn (.deferred none) hK rfl
        · exact inS_wid (place_idx HO.out.pos N0.out N1.out).1 HA.out.wf
      case stop =>
        rintro D c pre X _ _ h _
        exact h.elim
    · have hic := idxC_out hm (n := n) (by rw [ok.count]; omega)
      rw [hic, idxV_bad (by rw [hic]; decide)]
      rw [belowB_no (by omega)] at hq
      obtain ⟨P, hP⟩ : ∃ P, prodS s = P := ⟨_, rfl⟩
      rw [hP] at hc hq
      clear A A0 ha hm ok hic hP hin hfew HO
      refine (callsIn_wide (n := nn)).1 ?_
      refine callsIn_of_wp_marks Tryz.func111 rfl trivial ?_ rfl
      simp only [Tryz.ntmps111, List.size_toArray, List.length_cons, List.length_nil, Nat.reduceAdd, Nat.reduceSub, Array.replicate_succ, Array.replicate_zero, List.push_toArray, List.append_toArray, List.nil_append, List.cons_append]
      gi_wp2_with fail
      refine wideCallS (hc.mono ?_)
      rintro e w' ⟨rfl, rfl⟩
      gi_wp2_with fail
      refine wideCallS (hq.mono ?_)
      rintro e w' ⟨rfl, rfl⟩
      gi_wp2_with fail
      exact ⟨_, results_tmp2 rfl _ _ _, _, rfl, ResS.nil _ _, hb0⟩
  · have hic := idxC_may (s := s) (n := n) hm
    rw [hic, idxV_bad (by rw [hic]; exact hm)]
    obtain ⟨m, hmm⟩ : ∃ m, mayC s = m := ⟨_, rfl⟩
    obtain ⟨P, hP⟩ : ∃ P, countS s = P := ⟨_, rfl⟩
    rw [hmm, hP] at hc
    rw [hmm]
    rw [hmm] at hm
    have hne : (m != 0) = true := by simpa using hm
    clear A A0 ha hic hq hmm hm hP
    refine (callsIn_wide (n := nn)).1 ?_
    refine callsIn_of_wp_marks Tryz.func111 rfl trivial ?_ rfl
    simp only [Tryz.ntmps111, List.size_toArray, List.length_cons, List.length_nil, Nat.reduceAdd, Nat.reduceSub, Array.replicate_succ, Array.replicate_zero, List.push_toArray, List.append_toArray, List.nil_append, List.cons_append]
    gi_wp2_with fail
    refine wideCallS (hc.mono ?_)
    rintro e w' ⟨rfl, rfl⟩
    gi_wp2_with fail
    exact ⟨_, results_tmp2 rfl _ _ _, _, rfl, ResS.nil _ _, hb0⟩
end
section
open Go.RowKit
set_option linter.unusedVariables false
set_option linter.unusedSimpArgs false
/-- three cells -/
structure E3 where
  a : Value
  b : Value
  c : Value
def E3.agg (e : E3) : Value := .agg #[e.a, e.b, e.c]
def flat3 : List E3 → List Value
  | [] => []
  | e :: r => e.a :: e.b :: e.c :: flat3 r
theorem flat3_append (a b : List E3) : flat3 (a ++ b) = flat3 a ++ flat3 b := by
  induction a with
  | nil => rfl
  | cons e r ih => simp only [List.cons_append, flat3, ih]
theorem flat3_at {es : List E3} {i : Nat} {e : E3} (h : es[i]? = some e) : (flat3 es)[i * 3]? = some e.a ∧ (flat3 es)[i * 3 + 1]? = some e.b ∧ (flat3 es)[i * 3 + 2]? = some e.c := by
  induction es generalizing i with
  | nil => simp at h
  | cons d r ih =>
    cases i with
    | zero =>
      simp only [List.getElem?_cons_zero, Option.some.injEq] at h
      subst h
      exact ⟨rfl, rfl, rfl⟩
    | succ i =>
      have h2 := ih (i := i) (by simpa using h)
      rw [show (i + 1) * 3 = i * 3 + 1 + 1 + 1 by omega]
      simp only [flat3]
      exact h2
/-- where es lie -/
def CellsE (w : World) (b o : Nat) (es : List E3) : Prop := ∀ i e, es[i]? = some e → w.cell? ⟨b, o + i * 3, none⟩ = some e.a ∧ w.cell? ⟨b, o + i * 3 + 1, none⟩ = some e.b ∧ w.cell? ⟨b, o + i * 3 + 2, none⟩ = some e.c
/-- a row of structs, of the call's own -/
def OwnE (base : Nat) (T : TypeId) (w : World) (v : Value) (es : List E3) : Prop := w.ownsRow base T 3 v es.length (flat3 es)
theorem OwnE.nil (base : Nat) (T : TypeId) (w : World) : OwnE base T w (.slice none 0 0) [] := ⟨rfl, .inl ⟨rfl, rfl⟩⟩
theorem OwnE.lt {base : Nat} {T : TypeId} {w : World} {v : Value} {es : List E3} (h : OwnE base T w v es) : ∀ k, v.ownBlock = some k → base ≤ k ∧ k < w.heap.size := World.ownsRow.lt h
theorem OwnE.same {base : Nat} {T : TypeId} {w w' : World} {v : Value} {es : List E3} (h : OwnE base T w v es) (hk : ∀ k, v.ownBlock = some k → w'.heap[k]? = w.heap[k]?) : OwnE base T w' v es := by
  obtain ⟨h1, h2⟩ := h
  refine ⟨h1, ?_⟩
  rcases h2 with h2 | ⟨g, cap, cur, rfl, hg0, hg, hc, hm, hs, ht⟩
  · exact .inl h2
  · exact .inr ⟨g, cap, cur, rfl, hg0, (hk g rfl).trans hg, hc, hm, hs, ht⟩
theorem OwnE.later {base : Nat} {T : TypeId} {w w' : World} {v : Value} {es : List E3} (h : OwnE base T w v es) (hb : Below w.heap.size w w') : OwnE base T w' v es := h.same fun k hk => hb.block k (h.lt k hk).2
theorem OwnE.mono {base base' : Nat} {T : TypeId} {w : World} {v : Value} {es : List E3} (h : OwnE base T w v es) (hb : base' ≤ base) : OwnE base' T w v es := by
  obtain ⟨h1, h2⟩ := h
  refine ⟨h1, ?_⟩
  rcases h2 with h2 | ⟨g, cap, cur, rfl, hg0, hr⟩
  · exact .inl h2
  · exact .inr ⟨g, cap, cur, rfl, Nat.le_trans hb hg0, hr⟩
theorem OwnE.row {base : Nat} {T : TypeId} {w : World} {v : Value} {es : List E3} (h : OwnE base T w v es) : (v = .slice none 0 0 ∧ es = []) ∨ ∃ g cap, v = .slice (some ⟨g, 0, none⟩) es.length cap ∧ base ≤ g ∧ g < w.heap.size ∧ es.length ≤ cap ∧ cap ≤ maxLen ∧ CellsE w g 0 es := by
  obtain ⟨h1, h2⟩ := h
  rcases h2 with ⟨hv, hn⟩ | ⟨g, cap, cur, hv, hb, hg, hc, hm, hs, ht⟩
  · exact .inl ⟨hv, List.eq_nil_of_length_eq_zero hn⟩
  · refine .inr ⟨g, cap, hv, hb, lt_of_block hg, hc, hm, fun i e he => ?_⟩
    have hi : i < es.length := by
      rcases Nat.lt_or_ge i es.length with k | k
      · exact k
      · rw [List.getElem?_eq_none k] at he; cases he
    have hat : ∀ j, j < es.length * 3 → w.cell? ⟨g, j, none⟩ = (flat3 es)[j]? := fun j hj =>
      World.ownsRow.cellAt (w := w) (base := base) (e := T) (size := 3) (g := g) (n := es.length) (cap := cap) (xs := flat3 es) ⟨h1, .inr ⟨g, cap, cur, rfl, hb, hg, hc, hm, hs, ht⟩⟩ j hj
    obtain ⟨f0, f1, f2⟩ := flat3_at he
    simp only [Nat.zero_add]
    exact ⟨(hat _ (by omega)).trans f0, (hat _ (by omega)).trans f1, (hat _ (by omega)).trans f2⟩
theorem CellsE.later {w w' : World} {b o : Nat} {es : List E3} (h : CellsE w b o es) (hb : Below w.heap.size w w') : CellsE w' b o es := fun i e he => by
  obtain ⟨h0, h1, h2⟩ := h i e he
  exact ⟨(hb.cell (World.block_lt_of_cell? w _ h0)).trans h0, (hb.cell (World.block_lt_of_cell? w _ h1)).trans h1, (hb.cell (World.block_lt_of_cell? w _ h2)).trans h2⟩
/-- each struct is what the list says -/
def AllE {α : Type} (P : Value → α → Prop) (es : List E3) (L : List α) : Prop := es.length = L.length ∧ ∀ (i : Nat) (e : E3) (x : α), es[i]? = some e → L[i]? = some x → P e.agg x
theorem AllE.nil {α : Type} (P : Value → α → Prop) : AllE P [] ([] : List α) := ⟨rfl, fun i e x h => by simp at h⟩
theorem AllE.imp {α : Type} {P Q : Value → α → Prop} {es : List E3} {L : List α} (h : AllE P es L) (k : ∀ v x, x ∈ L → P v x → Q v x) : AllE Q es L := ⟨h.1, fun i e x h1 h2 => k _ _ (List.mem_of_getElem? h2) (h.2 i e x h1 h2)⟩
theorem AllE.snoc {α : Type} {P : Value → α → Prop} {es : List E3} {L : List α} {e : E3} {x : α} (h : AllE P es L) (hx : P e.agg x) : AllE P (es ++ [e]) (L ++ [x]) := by
  refine ⟨by simp [h.1], fun i d y h1 h2 => ?_⟩
  by_cases hlt : i < es.length
  · rw [List.getElem?_append_left hlt] at h1
    rw [List.getElem?_append_left (by rw [← h.1]; exact hlt)] at h2
    exact h.2 i d y h1 h2
  · have hi : i = es.length := by
      rcases Nat.lt_or_ge i (es ++ [e]).length with k | k
      · simp at k; omega
      · rw [List.getElem?_eq_none k] at h1; cases h1
    subst hi
    rw [List.getElem?_append_right (Nat.le_refl _), Nat.sub_self] at h1
    rw [List.getElem?_append_right (by rw [h.1]; exact Nat.le_refl _), h.1, Nat.sub_self] at h2
    simp only [List.getElem?_cons_zero, Option.some.injEq] at h1 h2
    subst h1
    subst h2
    exact hx
theorem AllE.at {α : Type} {P : Value → α → Prop} {es : List E3} {L : List α} (h : AllE P es L) {i : Nat} (hi : i < L.length) : ∃ e x, es[i]? = some e ∧ L[i]? = some x ∧ P e.agg x := by
  have h1 : i < es.length := by rw [h.1]; exact hi
  exact ⟨es[i], L[i], List.getElem?_eq_getElem h1, List.getElem?_eq_getElem hi, h.2 i _ _ (List.getElem?_eq_getElem h1) (List.getElem?_eq_getElem hi)⟩
/-- an argument: a slice of structs -/
structure RowA {α : Type} (P : World → Value → α → Prop) (w : World) (u : Value) (L : List α) (ad : Option Addr) (cap : Nat) : Prop where
  is : u = .slice ad L.length cap
  le : L.length ≤ cap
  els : L = [] ∨ ∃ b o es, ad = some ⟨b, o, none⟩ ∧ CellsE w b o es ∧ AllE (P w) es L
theorem RowA.later {α : Type} {P : World → Value → α → Prop} {w w' : World} {u : Value} {L : List α} {ad : Option Addr} {cap : Nat} (h : RowA P w u L ad cap) (hb : Below w.heap.size w w') (hP : ∀ v x, x ∈ L → P w v x → P w' v x) : RowA P w' u L ad cap := by
  refine ⟨h.is, h.le, ?_⟩
  rcases h.els with e | ⟨b, o, es, e, c, k⟩
  · exact .inl e
  · exact .inr ⟨b, o, es, e, c.later hb, k.imp hP⟩
theorem RowA.at {α : Type} {P : World → Value → α → Prop} {w : World} {u : Value} {L : List α} {ad : Option Addr} {cap : Nat} (h : RowA P w u L ad cap) {i : Nat} (hi : i < L.length) :
    ∃ b o x y z q, ad = some ⟨b, o, none⟩ ∧ L[i]? = some q ∧ w.cell? ⟨b, o + i * 3, none⟩ = some x ∧ w.cell? ⟨b, o + i * 3 + 1, none⟩ = some y ∧ w.cell? ⟨b, o + i * 3 + 2, none⟩ = some z ∧ P w (.agg #[x, y, z]) q := by
  rcases h.els with e | ⟨b, o, es, e, c, k⟩
  · rw [e] at hi; simp at hi
  · obtain ⟨d, q, h1, h2, h3⟩ := k.at hi
    obtain ⟨c0, c1, c2⟩ := c i d h1
    exact ⟨b, o, d.a, d.b, d.c, q, e, h2, c0, c1, c2, h3⟩
/-- a result: a slice of structs in new memory -/
def RowO {α : Type} (base : Nat) (T : TypeId) (P : World → Value → α → Prop) (w : World) (u : Value) (L : List α) : Prop := ∃ es, OwnE base T w u es ∧ AllE (P w) es L
theorem RowO.nil {α : Type} (base : Nat) (T : TypeId) (P : World → Value → α → Prop) (w : World) : RowO base T P w (.slice none 0 0) ([] : List α) := ⟨[], OwnE.nil _ _ _, AllE.nil _⟩
theorem RowO.later {α : Type} {base : Nat} {T : TypeId} {P : World → Value → α → Prop} {w w' : World} {u : Value} {L : List α} (h : RowO base T P w u L) (hb : Below w.heap.size w w') (hP : ∀ v x, P w v x → P w' v x) : RowO base T P w' u L := by
  obtain ⟨es, h1, h2⟩ := h
  exact ⟨es, h1.later hb, h2.imp fun v x _ => hP v x⟩
theorem RowO.mono {α : Type} {base base' : Nat} {T : TypeId} {P Q : World → Value → α → Prop} {w : World} {u : Value} {L : List α} (h : RowO base T P w u L) (hb : base' ≤ base) (hP : ∀ v x, P w v x → Q w v x) : RowO base' T Q w u L := by
  obtain ⟨es, h1, h2⟩ := h
  exact ⟨es, h1.mono hb, h2.imp fun v x _ => hP v x⟩
theorem RowO.arg {α : Type} {base : Nat} {T : TypeId} {P : World → Value → α → Prop} {w : World} {u : Value} {L : List α} (h : RowO base T P w u L) : ∃ ad cap, RowA P w u L ad cap ∧ (ad = none → cap = 0) ∧ cap ≤ maxLen := by
  obtain ⟨es, h1, h2⟩ := h
  rcases h1.row with ⟨rfl, rfl⟩ | ⟨g, cap, rfl, _, _, hc, hm, hcells⟩
  · have e : L = [] := List.eq_nil_of_length_eq_zero h2.1.symm
    subst e
    exact ⟨none, 0, ⟨rfl, Nat.le_refl _, .inl rfl⟩, fun _ => rfl, by unfold maxLen; omega⟩
  · exact ⟨some ⟨g, 0, none⟩, cap, ⟨by rw [h2.1], by rw [← h2.1]; exact hc, .inr ⟨g, 0, es, rfl, hcells, h2⟩⟩, (fun h => by cases h), hm⟩
theorem OwnE.typed {base : Nat} {T : TypeId} {w : World} {v : Value} {es : List E3} (h : OwnE base T w v es) {g : Nat} (hg : v.ownBlock = some g) : ∃ cur, w.heap[g]? = some (.cells cur T (0, 0)) := by
  obtain ⟨_, h2⟩ := h
  rcases h2 with ⟨rfl, _⟩ | ⟨g', cap, cur, rfl, _, hh, _⟩
  · cases hg
  · simp [Value.ownBlock] at hg
    subst hg
    exact ⟨cur, hh⟩
/-- a row of another type is not felt -/
theorem apartV {base base' size n sz m : Nat} {T t : TypeId} {w w' : World} {v u : Value} {ys : List Value} {xs : List Value} {o : Obj} (h : w.ownsRow base T sz v m ys) (hg : (w.alloc o).grownBy w' v.ownBlock) (hT : T ≠ t) (k : w.ownsRow base' t size u n xs) : w'.ownsRow base' t size u n xs := by
  obtain ⟨k1, k2⟩ := k
  refine ⟨k1, ?_⟩
  rcases k2 with k2 | ⟨g, cap, cur, rfl, hg0, hh, hrest⟩
  · exact .inl k2
  · refine .inr ⟨g, cap, cur, rfl, hg0, ?_, hrest⟩
    have hlt := lt_of_block hh
    rw [hg.block g (by rw [World.size_alloc]; omega) (fun e => by
      obtain ⟨_, h2⟩ := h
      rcases h2 with ⟨rfl, _⟩ | ⟨g', cap', cur', rfl, _, hc, _⟩
      · cases e
      · simp only [Value.ownBlock, Option.some.injEq] at e
        subst e
        rw [hh] at hc
        simp only [Option.some.injEq, Obj.cells.injEq] at hc
        exact hT hc.2.1.symm), Below.heap_alloc _ _ _ hlt]
    exact hh
theorem apartE {base base' size n : Nat} {T t : TypeId} {w w' : World} {v u : Value} {es : List E3} {xs : List Value} {o : Obj} (h : OwnE base T w v es) (hg : (w.alloc o).grownBy w' v.ownBlock) (hT : T ≠ t) (k : w.ownsRow base' t size u n xs) : w'.ownsRow base' t size u n xs := apartV h hg hT k
theorem pushE {α : Type} {base : Nat} {T : TypeId} {P : World → Value → α → Prop} {w wr w1 : World} {v v' : Value} {es : List E3} {L : List α} {e : E3} {x : α} {o : Obj} (hb : Below base w wr) (hbase : base ≤ wr.heap.size)
    (hown : OwnE base T wr v es) (hall : AllE (P wr) es L) (hx : P wr e.agg x) (hst : ∀ u y, P wr u y → P w1 u y)
    (hown' : w1.ownsRow base T 3 v' (es.length + 1) (flat3 es ++ [e.a, e.b, e.c])) (hgrow : (wr.alloc o).grownBy w1 v.ownBlock) : RowO base T P w1 v' (L ++ [x]) ∧ Below base w w1 := by
  refine ⟨⟨es ++ [e], ?_, (hall.snoc hx).imp fun u y _ => hst u y⟩, (hb.alloc hbase o).grown hgrow (by simp; omega) (fun k hk => (hown.lt k hk).1)⟩
  unfold OwnE
  rw [List.length_append, flat3_append]
  exact hown'
theorem cell_three_new (w : World) (a b c : Value) (t : TypeId) : ∀ j u, [a, b, c][j]? = some u → (w.alloc (.cells #[a, b, c] t)).cell? ((⟨w.heap.size, 0, none⟩ : Addr).add j) = some u := by
  intro j u hj
  match j, hj with
  | 0, hj => simp at hj; subst hj; simp [Addr.add]
  | 1, hj => simp at hj; subst hj; simp [Addr.add]
  | 2, hj => simp at hj; subst hj; simp [Addr.add]
  | j + 3, hj => simp at hj
/-- append, as one step of a region that draws its order -/
theorem step_append_ownT {P : Program} {ops : Array Oper} {o : Oper} {a : Act} {w : World} {K : Act → World → Prop} {Q : Exit → Act → World → Prop} {E : Prop} (hgd : o.guard = none) (s x : Operand) (t : TypeId)
    (ho : o.op = .call { callee := .builtin .append, args := #[s, x], argTypes := #[t, t] })
    (base : Nat) (e : TypeId) (i : TypeInfo) (z : Value) (size bytes : Nat) (ht : P.underlying t = some (.slice e)) (hi : P.info? e = some i) (hz : i.zero = some z)
    (hsize : i.size = size) (hby : i.bytes = bytes) (hzs : z.cells.size = size) (hsz : 0 < size)
    (v : Value) (n : Nat) (xs : List Value) (hs : a.eval s = v) (hown : w.ownsRow base e size v n xs)
    (ad : Addr) (m c : Nat) (news : List Value) (hx : a.eval x = .slice (some ad) m c) (hl : news.length = m * size) (hnews : ∀ j u, news[j]? = some u → w.cell? (ad.add j) = some u) (h1 : ∀ u ∈ news, u.oneCell' = true)
    (h63 : n + m ≤ maxLen) (hbytes : (n + m) * bytes ≤ 140737488355328) (hbase : base ≤ w.heap.size)
    (h : ∀ v' w', w'.ownsRow base e size v' (n + m) (xs ++ news) → w.grownBy w' v.ownBlock → (v' = .slice none 0 0 ↔ v = .slice none 0 0 ∧ m = 0) → K (a.put o.dst v') w') :
    if Region.wanted o (yielded ops a.tmps) = true then Oper.wp P o a w K Q else E := by
  have hw : Region.wanted o (yielded ops a.tmps) = true := by simp [Region.wanted, hgd]
  rw [if_pos hw]
  exact wp_append_own w s x t ho base e i z size bytes ht hi hz hsize hby hzs hsz v n xs hs hown ad m c news hx hl hnews h1 h63 hbytes hbase h
end
end Go.Proofs.YtooglnhlhgmhdaaGreat
