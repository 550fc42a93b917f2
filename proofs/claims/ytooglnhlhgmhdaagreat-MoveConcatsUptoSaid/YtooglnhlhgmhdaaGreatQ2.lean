/-
  Layer 9's laws: the helpers whole, own, of, is; the functions of move at answers that are handed in again. (Made by wip/gen/gen_mkit.py.)
-/
import Derived.Test.YtooglnhlhgmhdaaGreatQ1
import Derived.Test.YtooglnhlhgmhdaaGreatZ28
import Derived.WalkKit
import Derived.Test.YtooglnhlhgmhdaaGreatRows
import Derived.BigQuiet
import Derived.Deep.QuietTactic
import Derived.Lib.Hide
import Derived.Lib.Small
import Derived.Lib.Walk
import Derived.Lib.BitFns
import Derived.Maps.AppendAt
import Derived.RangeFuncNested
import Derived.RangeFuncBound
import Derived.RangeFuncCalls
import Derived.RangeFuncLeaves
import Derived.Shelf.Abstract
import Derived.OwnWalkIn
import Derived.TacticsInMore
import Derived.LoopNIn
import Derived.LoopIn
import Derived.RangeFuncBox
import Derived.Deep.RegionHeld3
import Derived.OrdersIn
import Derived.StillTailTactics
import Derived.RangeFuncFrom
import Derived.Laws.EntriesVeiled
import Derived.ProofKit
import Derived.OpenShut
import Derived.JoinedCond
import Derived.Carry
import Derived.Laws.AppendOwnNone
import Derived.Lib.ItoaNum
import Derived.Deep.RegionLaw
import Derived.WalkMore
import Derived.Lib.SmallJoins
import Derived.IntWalk
import Derived.Deep.DeepCutAuto
import Derived.Laws.OwnMore
import Derived.OrdersHeld
import Derived.Deep.RegionHeld
import Derived.ArgAppend
import Derived.Deep.Slices
import Derived.Laws.CopyOwn
import Derived.Lib.SliceRun
namespace Go.Proofs.YtooglnhlhgmhdaaGreat
set_option maxRecDepth 100000
section
open Go.RowKit
set_option linter.unusedVariables false
set_option linter.unusedSimpArgs false
theorem of_ok {s : List Int} {qs : List Q3} : Ok9 (shV s qs) (elsV s qs).length := by
  unfold shV elsV
  split
  · rename_i h
    have := ok9_of h
    simpa using this
  · exact ⟨OkS.nil, rfl⟩
theorem allBC_eq9 {s : List Int} {L : List Rat} {qs : List Q3} (h : qs.map Q3.rat = L) (hok : ∀ q ∈ qs, okQ q = true) : allBC (fun (x : Rat) (q : Q3) => validB q.neg q.num q.den x) s s L qs = true := by
  subst h
  refine allBC_yes rfl (by simp) fun k x q hx hq => ?_
  rw [List.getElem?_map, hq] at hx
  cases hx
  exact hok q (List.mem_of_getElem? hq)
end
end Go.Proofs.YtooglnhlhgmhdaaGreat
