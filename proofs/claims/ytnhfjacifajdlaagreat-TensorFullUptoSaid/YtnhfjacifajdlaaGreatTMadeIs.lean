/-
  Layer 7's laws: what Is and May find of a made tensor.
-/
import Derived.Test.YtnhfjacifajdlaaGreatTWSame
namespace Go.Proofs.YtnhfjacifajdlaaGreat
open Go.RowKit
set_option linter.unusedVariables false
set_option linter.unusedSimpArgs false

theorem calls_below {P : Program} {f : FuncId} {args : Array Value} {w : World} {r : Ending} (h : Calls P f args w fun e w' => e = r ∧ w = w') : Calls P f args w fun e w' => e = r ∧ Below w.heap.size w w' := h.mono fun _ _ ⟨h1, h2⟩ => ⟨h1, h2 ▸ Below.refl _ _⟩
/-- a made tensor is what Is finds -/
theorem made_is {s : List Int} {L : List Rat} {qs : List Q3} (h : qs.map Q3.rat = L) (ok : ∀ q ∈ qs, okQ q = true) : allBC (fun (x : Rat) (q : Q3) => validB q.neg q.num q.den x) s s L qs = true := by
  subst h
  refine allBC_yes rfl (by simp) fun i x q hx hq => ?_
  rw [List.getElem?_map, hq] at hx
  simp only [Option.map_some, Option.some.injEq] at hx
  subst hx
  exact ok q (List.mem_of_getElem? hq)
theorem made_may {s : List Int} {qs : List Q3} {n : Nat} (h : makeC s n = 0) (hl : qs.length = n) (ok : ∀ q ∈ qs, okQ q = true) : mayT s qs = 0 := by
  rw [mayT_all (by rw [hl]; exact h), if_pos (List.all_eq_true.2 ok)]
end Go.Proofs.YtnhfjacifajdlaaGreat
