/-
  Part 30 of 30: contracts and what they rest on (FMats).
-/
import Derived.Test.YtengpgodmbfmkaaGreatD29
namespace Go.Proofs.YtengpgodmbfmkaaGreat
set_option linter.unusedVariables false
set_option linter.unusedSimpArgs false
set_option maxRecDepth 100000
set_option maxHeartbeats 40000000
section
open Go.RowKit
structure Few10 (a b : Nat) : Prop where
 a1 : 1 ≤ a
 a5 : a ≤ 5
 b1 : 1 ≤ b
 b5 : b ≤ 5
theorem Few10.prod {a b : Nat} (h : Few10 a b) : a * b ≤ 25 := Nat.mul_le_mul h.a5 h.b5
theorem Few10.ok {a b : Nat} (h : Few10 a b) : OkS [(a : Int), (b : Int)] := by
 refine ⟨by simp, fun x hx => ?_, ?_⟩
 · have h1 := h.a1
   have h2 := h.b1
   simp at hx
   rcases hx with rfl | rfl <;> omega
 · have h1 := h.prod
   have : prodS [(a : Int), (b : Int)] = ((a * b : Nat) : Int) := by
    simp only [prodS, Int.mul_one]
    exact (Int.natCast_mul a b).symm
   rw [this]
   omega
end
end Go.Proofs.YtengpgodmbfmkaaGreat
