/-
  Layer 9's laws: what they share. (Made by wip/gen/gen_mlaw.py.)
-/
import Derived.Test.YtooglnhlhgmhdaaGreatV1
import Derived.Test.YtooglnhlhgmhdaaGreatV2
import Derived.Test.YtooglnhlhgmhdaaGreatV3
import Derived.Test.YtooglnhlhgmhdaaGreatV4
import Derived.Test.YtooglnhlhgmhdaaGreatV5
import Derived.Test.YtooglnhlhgmhdaaGreatV7
import Derived.Test.YtooglnhlhgmhdaaGreatV9
import Derived.Test.YtooglnhlhgmhdaaGreatV13
import Derived.Test.YtooglnhlhgmhdaaGreatV16
import Derived.Test.YtooglnhlhgmhdaaGreatV18
import Derived.Test.YtooglnhlhgmhdaaGreatV20
import Derived.Test.YtooglnhlhgmhdaaGreatV22
import Derived.Test.YtooglnhlhgmhdaaGreatV25
import Derived.WalkKit
import Derived.Test.YtooglnhlhgmhdaaGreatRows
import Derived.BigQuiet
import Derived.Deep.QuietTactic
import Derived.Lib.Hide
import Derived.Lib.Small
import Derived.Lib.Walk
import Derived.Lib.BitFns
import Derived.Maps.AppendAt
import Derived.RangeFuncNested
import Derived.RangeFuncBound
import Derived.RangeFuncCalls
import Derived.RangeFuncLeaves
import Derived.Shelf.Abstract
import Derived.OwnWalkIn
import Derived.TacticsInMore
import Derived.LoopNIn
import Derived.LoopIn
import Derived.RangeFuncBox
import Derived.Deep.RegionHeld3
import Derived.OrdersIn
import Derived.StillTailTactics
import Derived.RangeFuncFrom
import Derived.Laws.EntriesVeiled
import Derived.ProofKit
import Derived.OpenShut
import Derived.JoinedCond
import Derived.Carry
import Derived.Laws.AppendOwnNone
import Derived.Lib.ItoaNum
import Derived.Deep.RegionLaw
import Derived.WalkMore
import Derived.Lib.SmallJoins
import Derived.IntWalk
import Derived.Deep.DeepCutAuto
import Derived.Laws.OwnMore
import Derived.OrdersHeld
import Derived.Deep.RegionHeld
import Derived.ArgAppend
import Derived.Deep.Slices
import Derived.Laws.CopyOwn
import Derived.Lib.SliceRun
namespace Go.Proofs.YtooglnhlhgmhdaaGreat
set_option maxRecDepth 100000
section
open Go.RowKit
set_option linter.unusedVariables false
set_option linter.unusedSimpArgs false
theorem sizeQs_take {qs : List Q3} {k : Nat} {q : Q3} (h : qs[k]? = some q) : sizeQs (qs.take (k + 1)) = sizeQs (qs.take k) + sizeQ q := by
  induction qs generalizing k with
  | nil => simp at h
  | cons p r ih =>
    cases k with
    | zero => simp only [List.getElem?_cons_zero, Option.some.injEq] at h; subst h; simp [sizeQs]
    | succ k =>
      have h2 := ih (k := k) (by simpa using h)
      simp only [List.take_succ_cons, sizeQs] at h2 ⊢
      omega
theorem sizeQs_takeLe (qs : List Q3) (k : Nat) : sizeQs (qs.take k) ≤ sizeQs qs := by
  induction qs generalizing k with
  | nil => simp
  | cons p r ih =>
    cases k with
    | zero => simp [sizeQs]
    | succ k => have := ih k; simp only [List.take_succ_cons, sizeQs]; omega
/-- all parts are rows of limbs -/
def WfQs (qs : List Q3) : Prop := ∀ q ∈ qs, Wf q.num ∧ Wf q.den
theorem TensQ.wfs {w : World} {v : Value} {s : List Int} {qs : List Q3} {a b : Option Addr} {ca cb : Nat} (T : TensQ w v s qs a ca b cb) : WfQs qs := fun q hq => by
  obtain ⟨i, hi, rfl⟩ := List.mem_iff_getElem.1 hq
  obtain ⟨_, _, _, _, _, q', _, hq', _, _, _, hr⟩ := T.el.at hi
  rw [List.getElem?_eq_getElem hi] at hq'
  cases hq'
  obtain ⟨_, _, _, _, _, A, B, _⟩ := hr
  exact ⟨A.wf, B.wf⟩
theorem fit_Q3 {q : Q3} (h : Wf q.num ∧ Wf q.den) : FitQ q.rat (32 * sizeQ q - 32) :=
  (FitQ.raw (m := q.num.length + q.den.length) h.1 h.2 (by omega) (by omega)).mono (by unfold sizeQ; omega)
theorem getD_someL {α : Type} {l : List α} {k : Nat} {x d : α} (h : l[k]? = some x) : l.getD k d = x := by
  rw [List.getD_eq_getElem?_getD, h]; rfl
end
section
open Go.RowKit Go.ChangeShapes Go.WideShapes Go.ChangeAt Go.Joins Go.Deep
set_option linter.unusedVariables false
set_option linter.unusedSimpArgs false
set_option maxRecDepth 100000
theorem afterSet2 {K : World → Prop} {V : World} {g : Nat} {t : TypeId} {a b x y : Value} (R : Row V g t #[a, b]) (h : ∀ X, Only g V X → Row X g t #[x, y] → K X) :
    K ((V.setCell ⟨g, 0, none⟩ x).setCell ⟨g, 1, none⟩ y) :=
  h _ ((Only.set V g 0 x).trans (Only.set _ g 1 y)) (R.set2 x y)
/-- what Dot answers -/
def DotQ (base : Nat) (w : World) (r : Value) (x : Rat) (n : Nat) (c : Int) : Prop := (c = 0 → ResQ base w r x n) ∧ (c ≠ 0 → r = noRat)
theorem DotQ.later {base n : Nat} {w w' : World} {r : Value} {x : Rat} {c : Int} (h : DotQ base w r x n c) (hb : Below w.heap.size w w') : DotQ base w' r x n c := ⟨fun k => (h.1 k).later hb, h.2⟩
theorem DotQ.only {base n g : Nat} {w w' : World} {r : Value} {x : Rat} {c : Int} {cs : Array Value} (h : DotQ base w r x n c) (R : Row w g 58 cs) (k : Only g w w') : DotQ base w' r x n c := ⟨fun e => (h.1 e).only R k, h.2⟩
theorem DotQ.shape {base n : Nat} {w : World} {r : Value} {x : Rat} {c : Int} (h : DotQ base w r x n c) : ∃ m f1 l1 j1 f2 l2 j2, r = .agg #[.bool m, .slice f1 l1 j1, .slice f2 l2 j2] ∧ (c ≠ 0 → l1 = 0 ∧ l2 = 0) := by
  by_cases hc : c = 0
  · obtain ⟨m, a, b, d, e, f, g, rfl⟩ := (h.1 hc).shape
    exact ⟨m, a, b, d, e, f, g, rfl, fun k => absurd hc k⟩
  · exact ⟨_, _, _, _, _, _, _, h.2 hc, fun _ => ⟨rfl, rfl⟩⟩
/-- what Full and Make answer -/
def TenC (base : Nat) (w : World) (r : Value) (s : List Int) (L : List Rat) (n : Nat) (c : Int) : Prop := (c = 0 → ResT base w r s L n) ∧ (c ≠ 0 → r = noTensor)
theorem TenC.later {base n : Nat} {w w' : World} {r : Value} {s : List Int} {L : List Rat} {c : Int} (h : TenC base w r s L n c) (hb : Below w.heap.size w w') : TenC base w' r s L n c := ⟨fun k => (h.1 k).later hb, h.2⟩
theorem TenC.only {base n g : Nat} {w w' : World} {r : Value} {s : List Int} {L : List Rat} {c : Int} {cs : Array Value} (h : TenC base w r s L n c) (R : Row w g 26 cs) (k : Only g w w') : TenC base w' r s L n c := ⟨fun e => (h.1 e).far R (by decide) (by decide) (by decide) k.block, h.2⟩
theorem TenC.shape {base n : Nat} {w : World} {r : Value} {s : List Int} {L : List Rat} {c : Int} (h : TenC base w r s L n c) : ∃ f1 l1 j1 f2 l2 j2, r = .agg #[.slice f1 l1 j1, .slice f2 l2 j2] ∧ (c ≠ 0 → l1 = 0 ∧ l2 = 0) := by
  by_cases hc : c = 0
  · obtain ⟨a, b, d, e, rfl, _, _⟩ := h.1 hc
    exact ⟨_, _, _, _, _, _, rfl, fun k => absurd hc k⟩
  · exact ⟨_, _, _, _, _, _, h.2 hc, fun _ => ⟨rfl, rfl⟩⟩
end
section
open Go.RowKit
set_option linter.unusedVariables false
set_option linter.unusedSimpArgs false
theorem One.ans9 {base N : Nat} {w : World} {e : Ending} {c : Int} {s : List Int} {L : List Rat} (h : One base w e c s L N) : ∃ (x0 : Option Addr) (x1 x2 : Nat) (x3 : Option Addr) (x4 x5 : Nat),
    e = .returned (.tuple #[.agg #[.slice x0 x1 x2, .slice x3 x4 x5], .int .i64 c]) ∧ ((c = 0 ∧ ResT base w (.agg #[.slice x0 x1 x2, .slice x3 x4 x5]) s L N) ∨ (c ≠ 0 ∧ (.agg #[.slice x0 x1 x2, .slice x3 x4 x5] : Value) = noTensor)) := by
  rcases h with ⟨h0, r, rfl, hT⟩ | ⟨h0, rfl⟩
  · obtain ⟨a, b, ca, cb, rfl, _⟩ := id hT
    exact ⟨_, _, _, _, _, _, by rw [h0], .inl ⟨h0, hT⟩⟩
  · exact ⟨none, 0, 0, none, 0, 0, rfl, .inr ⟨h0, rfl⟩⟩
def AnsM (base : Nat) (w : World) (r : Value) (c : Int) (s : List Int) (L : List Rat) (N : Nat) : Prop := (c = 0 ∧ ResT base w r s L N) ∨ (c ≠ 0 ∧ r = noTensor)
theorem AnsM.later {base N : Nat} {w w' : World} {r : Value} {c : Int} {s : List Int} {L : List Rat} (h : AnsM base w r c s L N) (hb : Below w.heap.size w w') : AnsM base w' r c s L N := h.imp (fun h => ⟨h.1, h.2.later hb⟩) id
end
end Go.Proofs.YtooglnhlhgmhdaaGreat
