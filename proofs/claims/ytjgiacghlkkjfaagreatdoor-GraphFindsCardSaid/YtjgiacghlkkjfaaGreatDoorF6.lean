/-
  Part 6 of 29: contracts and what they rest on (RRefF, TBits, TCode7, MMath2, MRow2, MTurnA, OKit).
-/
import Derived.Test.YtjgiacghlkkjfaaGreatDoorF1
import Derived.Test.YtjgiacghlkkjfaaGreatDoorF2
import Derived.Test.YtjgiacghlkkjfaaGreatDoorF3
import Derived.WalkKit
import Derived.Test.YtjgiacghlkkjfaaGreatDoorRows
import Derived.OrdersHeld
import Derived.Deep.RegionHeld
import Derived.BigQuiet
import Derived.Deep.QuietTactic
import Derived.Lib.Hide
import Derived.Lib.Small
import Derived.Lib.Walk
import Derived.Lib.BitFns
import Derived.Maps.AppendAt
import Derived.RangeFuncNested
import Derived.RangeFuncBound
import Derived.RangeFuncCalls
import Derived.RangeFuncLeaves
import Derived.Shelf.Abstract
import Derived.OwnWalkIn
import Derived.TacticsInMore
import Derived.LoopNIn
import Derived.LoopIn
import Derived.RangeFuncBox
import Derived.Deep.RegionHeld3
import Derived.OrdersIn
import Derived.StillTailTactics
import Derived.RangeFuncFrom
import Derived.Laws.EntriesVeiled
import Derived.ProofKit
import Derived.OpenShut
import Derived.JoinedCond
import Derived.Carry
import Derived.Laws.AppendOwnNone
import Derived.Lib.ItoaNum
import Derived.Deep.RegionLaw
import Derived.WalkMore
import Derived.Lib.SmallJoins
import Derived.IntWalk
import Derived.Deep.DeepCutAuto
import Derived.Laws.OwnMore
import Derived.ArgAppend
import Derived.Deep.Slices
import Derived.Laws.CopyOwn
import Derived.Lib.SliceRun
import Derived.SizedLaws
import Derived.Great.BuildSlice
namespace Go.Proofs.YtjgiacghlkkjfaaGreatDoor
set_option maxRecDepth 100000
section
open Go.RowKit
set_option linter.unusedVariables false
set_option linter.unusedSimpArgs false
/-- the limbs zs are those of the number N, as it is answered -/
def isB (zs : List Int) (N : Int) : Bool := decide (trimN zs zs.length = zs.length ∧ val zs = N)
/-- a sign and two rows of limbs are the number X in its valid form -/
def validB (m : Bool) (xs ys : List Int) (X : Rat) : Bool := (m == decide (X.num < 0)) && (isB xs (X.num.natAbs : Int) && isB ys (X.den : Int))
end
section
open Go.RowKit
set_option linter.unusedVariables false
set_option linter.unusedSimpArgs false
theorem ResS.at_ {base : Nat} {w : World} {ad : Option Addr} {n cap : Nat} {xs : List Int} (h : ResS base w (.slice ad n cap) xs) : n = xs.length ∧ ArgS w (.slice ad n cap) xs ad cap ∧ (ad = none → cap = 0) := by
  obtain ⟨ad', cap', e, _, A, hn⟩ := h.slice
  simp only [Value.slice.injEq] at e
  obtain ⟨rfl, rfl, rfl⟩ := e
  exact ⟨rfl, A, hn⟩
end
section
open Go.RowKit Go.Shelf
attribute [local go_sem] Oper.semAt_some
set_option linter.unusedVariables false
set_option linter.unusedSimpArgs false
theorem setSize (w : World) (g : Nat) (v : Value) : (w.setCell ⟨g, 0, none⟩ v).heap.size = w.heap.size := (Only.set w g 0 v).size
end
section
set_option linter.unusedVariables false
set_option linter.unusedSimpArgs false
def slS (s cuts : List Int) : List Int := (List.range s.length).map fun i : Nat => sndP cuts i - fstP cuts i
theorem slS_len (s cuts : List Int) : (slS s cuts).length = s.length := by simp [slS]
theorem slS_at (s cuts : List Int) {i : Nat} (h : i < s.length) : (slS s cuts).getD i 0 = sndP cuts i - fstP cuts i := getD_map_range _ h
theorem pos_of {s : List Int} (h : ∀ i, i < s.length → 1 ≤ s.getD i 0) : posS s := fun x hx => by
  obtain ⟨i, hi, rfl⟩ := List.mem_iff_getElem.1 hx
  rw [← getD_elem hi]
  exact h i hi
end
section
open Go.RowKit
set_option linter.unusedVariables false
set_option linter.unusedSimpArgs false
/-- a row of one kind stands while a row of another kind grows -/
theorem ownsRow_apart2 {base base' n m size size' : Nat} {T T' : TypeId} {w w1 : World} {o : Obj} {v u : Value} {xs ys : List Value} (hown : w.ownsRow base T size v n xs) (hgrow : (w.alloc o).grownBy w1 v.ownBlock) (ht : T ≠ T') (h : w.ownsRow base' T' size' u m ys) : w1.ownsRow base' T' size' u m ys := by
  obtain ⟨h1, h2⟩ := h
  refine ⟨h1, ?_⟩
  rcases h2 with h2 | ⟨g, cap, cur, rfl, hb, hg, hc, hm, hs, htk⟩
  · exact .inl h2
  · have hlt := lt_of_block hg
    refine .inr ⟨g, cap, cur, rfl, hb, ?_, hc, hm, hs, htk⟩
    refine ((hgrow.block g (by simp; omega) (fun e => ?_)).trans (Below.heap_alloc _ _ _ hlt)).trans hg
    obtain ⟨_, k2⟩ := hown
    rcases k2 with ⟨rfl, _⟩ | ⟨g2, cap2, cur2, rfl, _, hg2, _⟩
    · cases e
    · have e2 : g2 = g := by simpa [Value.ownBlock] using e.symm
      subst e2
      rw [hg] at hg2
      simp only [Option.some.injEq, Obj.cells.injEq] at hg2
      exact ht hg2.2.1.symm
theorem ResS.apart2 {base base' n size : Nat} {T : TypeId} {w w1 : World} {o : Obj} {v u : Value} {xs : List Value} {zs : List Int} (h : ResS base' w u zs) (hown : w.ownsRow base T size v n xs) (hgrow : (w.alloc o).grownBy w1 v.ownBlock) (ht : T ≠ 3) : ResS base' w1 u zs := ⟨ownsRow_apart2 hown hgrow ht h.num, h.wf⟩
/-- rows of structs of two cells -/
structure E2 where
  a : Value
  b : Value
end
section
open Go.RowKit
set_option linter.unusedVariables false
set_option linter.unusedSimpArgs false
/-- the places of a shape, in their order -/
def placesTo (s : List Int) (n : Nat) : List (List Int) := (List.range n).map fun k : Nat => idxS s (k : Int)
def places (s : List Int) : List (List Int) := placesTo s (prodS s).toNat
end
section
open Go.RowKit
set_option linter.unusedVariables false
set_option linter.unusedSimpArgs false
theorem res_slice11 {B : Nat} {w : World} {u : Value} {xs : List Int} (h : ResS B w u xs) : ∃ ad cap, u = .slice ad xs.length cap ∧ ResS B w (.slice ad xs.length cap) xs := by
  obtain ⟨ad, cap, h1, h2, _⟩ := h.slice
  exact ⟨ad, cap, h1, h2⟩
end
end Go.Proofs.YtjgiacghlkkjfaaGreatDoor
