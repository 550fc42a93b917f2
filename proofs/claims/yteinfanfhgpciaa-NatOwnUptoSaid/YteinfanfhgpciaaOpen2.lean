/-
  Opening an argument of a law, once more: a nil slice has no capacity.
-/
import Derived.Test.YteinfanfhgpciaaOpen
namespace Go.Proofs.Yteinfanfhgpciaa
open Go.RowKit Go.ChangeShapes Go.WideShapes Go.ChangeAt
theorem open_nat2 {H : Type} {enc : TypeId × Value → H} {W : World} {v : Value} {d : DataW H} {p : List MemPlace}
    (hv : ∃ ad n cap, v = .slice ad n cap) (h : DataW.Trod enc Try.prog W 0 (fun _ => true) true 24 v d p) (hk : Rows.uptoBulk d ≤ 1048576) : ∃ ad xs cap, Arg W v xs ad cap ∧ xs.length ≤ 1048576 ∧ (ad = none → cap = 0) := by
  obtain ⟨ad, xs, cap, hA, hl⟩ := open_nat hv h hk
  refine ⟨ad, xs, cap, hA, hl, fun hn => ?_⟩
  subst hn
  obtain ⟨fuel, hf⟩ := h
  rw [hA.is] at hf
  rcases open_ints Try.underlying24 Try.underlying56 cellsLimb hf with ⟨hcs, _⟩ | ⟨a, _, _, _, hcs, _⟩
  · simp [Value.cells] at hcs
    exact hcs.2
  · simp [Value.cells] at hcs
end Go.Proofs.Yteinfanfhgpciaa
