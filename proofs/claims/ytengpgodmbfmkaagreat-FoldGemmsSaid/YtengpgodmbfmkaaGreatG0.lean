/-
  Short names of simp rules that the walks use.
-/
import Derived.Test.YtengpgodmbfmkaaGreatRows
namespace Go.Proofs.YtengpgodmbfmkaaGreat
abbrev nA := @List.getElem_toArray
abbrev nB := @List.getElem_cons_succ
abbrev nC := @List.getElem_cons_zero
abbrev nD := @List.setIfInBounds_toArray
abbrev nE := @List.set_cons_zero
abbrev nF := @List.set_cons_succ
end Go.Proofs.YtengpgodmbfmkaaGreat
