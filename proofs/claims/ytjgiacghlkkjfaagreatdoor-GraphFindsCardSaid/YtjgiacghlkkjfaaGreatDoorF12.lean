/-
  Part 12 of 29: contracts and what they rest on (RInt, RVar, TDef, TCode3, MTens).
-/
import Derived.Test.YtjgiacghlkkjfaaGreatDoorF1
import Derived.Test.YtjgiacghlkkjfaaGreatDoorF2
import Derived.Test.YtjgiacghlkkjfaaGreatDoorF4
import Derived.Test.YtjgiacghlkkjfaaGreatDoorF9
import Derived.WalkKit
import Derived.Test.YtjgiacghlkkjfaaGreatDoorRows
import Derived.OrdersHeld
import Derived.Deep.RegionHeld
import Derived.BigQuiet
import Derived.Deep.QuietTactic
import Derived.Lib.Hide
import Derived.Lib.Small
import Derived.Lib.Walk
import Derived.Lib.BitFns
import Derived.Maps.AppendAt
import Derived.RangeFuncNested
import Derived.RangeFuncBound
import Derived.RangeFuncCalls
import Derived.RangeFuncLeaves
import Derived.Shelf.Abstract
import Derived.OwnWalkIn
import Derived.TacticsInMore
import Derived.LoopNIn
import Derived.LoopIn
import Derived.RangeFuncBox
import Derived.Deep.RegionHeld3
import Derived.OrdersIn
import Derived.StillTailTactics
import Derived.RangeFuncFrom
import Derived.Laws.EntriesVeiled
import Derived.ProofKit
import Derived.OpenShut
import Derived.JoinedCond
import Derived.Carry
import Derived.Laws.AppendOwnNone
import Derived.Lib.ItoaNum
import Derived.Deep.RegionLaw
import Derived.WalkMore
import Derived.Lib.SmallJoins
import Derived.IntWalk
import Derived.Deep.DeepCutAuto
import Derived.Laws.OwnMore
import Derived.ArgAppend
import Derived.Deep.Slices
import Derived.Laws.CopyOwn
import Derived.Lib.SliceRun
import Derived.SizedLaws
namespace Go.Proofs.YtjgiacghlkkjfaaGreatDoor
set_option maxRecDepth 100000
section
open Go.RowKit
set_option linter.unusedVariables false
set_option linter.unusedSimpArgs false
/-- a whole number -/
def intQ (n : Int) : Rat := ratOf (decide (n < 0)) (n.natAbs : Int) 1
theorem intQ_parts (n : Int) : decide ((intQ n).num < 0) = decide (n < 0) ∧ ((intQ n).num.natAbs : Int) = (n.natAbs : Int) ∧ ((intQ n).den : Int) = 1 := by
  unfold intQ
  have hg : (Int.gcd (n.natAbs : Int) 1 : Int) = 1 := by simp
  refine ⟨ratOf_neg (by omega) (by omega) fun h => decide_eq_false (by omega), ?_, ?_⟩
  · rw [ratOf_abs (by omega) (by omega), hg, Int.ediv_one]
  · rw [ratOf_den (by omega), hg]; rfl
theorem intQ_zero : intQ 0 = 0 := by unfold intQ; exact ratOf_zero_left _ _
set_option maxHeartbeats 1000000 in
theorem int_any (n : Int) (w : World) (h0 : -9223372036854775808 ≤ n) (h1 : n ≤ 9223372036854775807) :
    Calls Tryz.prog 195 #[.int .i64 n] w fun e w' => ∃ r, e = .returned r ∧ ResQ w.heap.size w' r (intQ n) 2 ∧ Below w.heap.size w w' := by
  obtain ⟨p1, p2, p3⟩ := intQ_parts n
  obtain ⟨d, hd⟩ : ∃ d, decide (n < 0) = d := ⟨_, rfl⟩
  rw [hd] at p1
  have P1 := Lib.hid p1
  have P2 := Lib.hid p2
  have P3 := Lib.hid p3
  clear p1 p2 p3
  have R := Row.new w 93 #[.bool false, .slice none 0 0, .slice none 0 0]
  have hB := (Below.refl w.heap.size w).alloc (Nat.le_refl _) (.cells #[.bool false, .slice none 0 0, .slice none 0 0] 93)
  go_enter Tryz.func195, Tryz.ntmps195
  go_wp2_with fail
  refine (size_any n _ h0 h1).mono ?_
  rintro e w1 ⟨r1, z1, rfl, q1, n1, hb1⟩
  obtain ⟨ad1, c1, rfl, q1, A1⟩ := q1.slice
  replace R := R.later hb1
  have hs0 : w.heap.size + 1 ≤ w1.heap.size := by have := hb1.size; simpa using this
  replace hB := hB.trans (hb1.mono (by simp))
  go_wp2_with fail
  refine (ofN_any 1 _ (by omega) (by omega)).mono ?_
  rintro e w2 ⟨r2, z2, rfl, q2, n2, hb2⟩
  obtain ⟨ad2, c2, rfl, q2, A2⟩ := q2.slice
  replace R := R.later hb2
  replace hB := hB.trans (hb2.mono (by omega))
  replace q1 := q1.later hb2
  obtain ⟨c0, c1', c2', f0, f1, f2⟩ := R.three
  go_wp2_with fail
  refine bodyPost_ret (v := .agg #[.bool d, .slice ad1 z1.length c1, .slice ad2 z2.length c2]) (by simp [results, Tryz.results195, go_sem, c0, c1', c2']) rfl ⟨_, rfl, ?_, below_set3 hB (Nat.le_refl _) _ _ _⟩
  refine ⟨z1, z2, ad1, ad2, c1, c2, by rw [P1.out], ?_, ?_, n1, n2⟩
  · rw [P2.out]
    exact (q1.kept (kept3 _ _ _) (by simp)).mono (by simp)
  · rw [P3.out]
    exact (q2.kept (kept3 _ _ _) (by omega)).mono (by omega)
end
section
open Go.RowKit Go.ChangeShapes Go.WideShapes Go.ChangeAt
set_option linter.unusedVariables false
set_option linter.unusedSimpArgs false
theorem afterSet3 {K : World → Prop} {V : World} {g : Nat} {t : TypeId} {a b c x y z : Value} (R : Row V g t #[a, b, c]) (h : ∀ X, Only g V X → Row X g t #[x, y, z] → K X) :
    K (((V.setCell ⟨g, 0, none⟩ x).setCell ⟨g, 1, none⟩ y).setCell ⟨g, 2, none⟩ z) :=
  h _ (((Only.set V g 0 x).trans (Only.set _ g 1 y)).trans (Only.set _ g 2 z)) (R.set3 x y z)
end
section
open Go.RowKit
set_option linter.unusedVariables false
set_option linter.unusedSimpArgs false
/-- all parts are at most n limbs long -/
def lensQ (qs : List Q3) (n : Nat) : Prop := ∀ q ∈ qs, q.num.length ≤ n ∧ q.den.length ≤ n
/-- why there is no tensor of a shape and so many numbers -/
def makeC (s : List Int) (n : Nat) : Int := if mayC s ≠ 0 then mayC s else if (n : Int) ≠ countS s then 13 else 0
end
section
open Go.RowKit Go.Shelf
attribute [local go_sem] Oper.semAt_some
set_option linter.unusedVariables false
set_option linter.unusedSimpArgs false
set_option maxHeartbeats 2000000 in
theorem room_any {u : Value} {s : List Int} {a : Option Addr} {ca : Nat} {w : World} (A : ArgS w u s a ca) (n : Nat) :
    Calls Tryz.prog 138 #[u, .int .i64 (n : Int)] w fun e w' => e = .returned (.int .i64 (makeC s n)) ∧ w = w' := by
  have h1 := mayS_eq A
  have h2 := countS_eq A
  have e : makeC s n = if mayC s ≠ 0 then mayC s else if (n : Int) ≠ countS s then 13 else 0 := rfl
  obtain rfl := A.is
  rw [e]
  generalize mayC s = m at *
  generalize countS s = c at *
  clear e A
  by_cases h : m = 0
  · subst h
    by_cases hc : (n : Int) = c
    · have hn : ((n : Int) != c) = false := by simp [hc]
      have hd : (if (0 : Int) ≠ 0 then (0 : Int) else if (n : Int) ≠ c then 13 else 0) = 0 := by simp [hc]
      rw [hd]
      go_enter Tryz.func138, Tryz.ntmps138
      go_wp2_with (first | (go_at_call 107; refine h1.mono ?_; rintro e w1 ⟨rfl, rfl⟩) | (go_at_call 172; refine h2.mono ?_; rintro e w1 ⟨rfl, rfl⟩))
      go_ret
      exact ⟨rfl, rfl⟩
    · have hn : ((n : Int) != c) = true := by simp [hc]
      have hd : (if (0 : Int) ≠ 0 then (0 : Int) else if (n : Int) ≠ c then 13 else 0) = 13 := by simp [hc]
      rw [hd]
      go_enter Tryz.func138, Tryz.ntmps138
      go_wp2_with (first | (go_at_call 107; refine h1.mono ?_; rintro e w1 ⟨rfl, rfl⟩) | (go_at_call 172; refine h2.mono ?_; rintro e w1 ⟨rfl, rfl⟩))
      go_ret
      exact ⟨rfl, rfl⟩
  · have hn : (m != 0) = true := by simp [h]
    rw [if_pos h]
    go_enter Tryz.func138, Tryz.ntmps138
    go_wp2_with (first | (go_at_call 107; refine h1.mono ?_; rintro e w1 ⟨rfl, rfl⟩) | (go_at_call 172; refine h2.mono ?_; rintro e w1 ⟨rfl, rfl⟩))
    go_ret
    exact ⟨rfl, rfl⟩
theorem elements_any (a b : Option Addr) (n m ca cb : Nat) (w : World) :
    Calls Tryz.prog 86 #[.agg #[.slice a n ca, .slice b m cb]] w fun e w' => e = .returned (.slice b m cb) ∧ Below w.heap.size w w' := by
  go_enter Tryz.func86, Tryz.ntmps86
  go_wp2
  go_ret
  exact ⟨rfl, (Below.refl _ _).alloc (Nat.le_refl _) _⟩
end
section
open Go.RowKit Go.ChangeShapes Go.WideShapes Go.ChangeAt Go.Joins Go.Deep
set_option linter.unusedVariables false
set_option linter.unusedSimpArgs false
set_option maxRecDepth 100000
/-- a tensor of a row: its shape, its elements -/
structure X2 where
  s : List Int
  q : List Q3
end
end Go.Proofs.YtjgiacghlkkjfaaGreatDoor
