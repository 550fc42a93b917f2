/-
  Part 2 of 2: contracts and what they rest on (FTot0).
-/
import Derived.Test.YtengpgodmbfmkaaGreatLb1
namespace Go.Proofs.YtengpgodmbfmkaaGreat
set_option linter.unusedVariables false
set_option linter.unusedSimpArgs false
set_option maxRecDepth 100000
set_option maxHeartbeats 40000000
section
open Go.RowKit
theorem ArgR.more10 {w : World} {v : Value} {X : Rat} {n m : Nat} (h : ArgR w v X n) (hm : n ≤ m) : ArgR w v X m := by
 obtain ⟨xs, ds, a1, a2, c1, c2, hv, A, B, hX1, hX2, hx, hd⟩ := h
 exact ⟨xs, ds, a1, a2, c1, c2, hv, A, B, hX1, hX2, by omega, by omega⟩
end
end Go.Proofs.YtengpgodmbfmkaaGreat
