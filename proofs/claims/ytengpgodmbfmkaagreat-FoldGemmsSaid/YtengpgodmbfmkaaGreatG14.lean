/-
  Part 14 of 39: contracts and what they rest on (RRefD).
-/
import Derived.Test.YtengpgodmbfmkaaGreatG11
import Derived.Test.YtengpgodmbfmkaaGreatG12
namespace Go.Proofs.YtengpgodmbfmkaaGreat
set_option linter.unusedVariables false
set_option linter.unusedSimpArgs false
set_option maxRecDepth 100000
set_option maxHeartbeats 40000000
section
open Go.RowKit
theorem ArgR.parts {w : World} {v : Value} {x : Rat} {n : Nat} (h : ArgR w v x n) : ∃ (m : Bool) (zs ys : List Int) (ad bd : Option Addr) (ca cb : Nat), v = .agg #[.bool m, .slice ad zs.length ca, .slice bd ys.length cb] ∧
 ArgD w (.slice ad zs.length ca) zs ad ca ∧ ArgD w (.slice bd ys.length cb) ys bd cb ∧ ratOf m (valD zs) (valD ys) = x ∧ zs.length ≤ n ∧ ys.length ≤ n := by
 obtain ⟨zs, ys, ad, bd, ca, cb, rfl, A, B, h1, h2, h3, h4⟩ := h
 exact ⟨_, zs, ys, ad, bd, ca, cb, rfl, A, B, by rw [h1, h2, ratOf_self], h3, h4⟩
end
end Go.Proofs.YtengpgodmbfmkaaGreat
