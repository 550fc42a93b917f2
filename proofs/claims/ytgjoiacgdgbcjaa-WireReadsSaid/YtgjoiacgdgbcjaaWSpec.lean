/-
  Layer 5's contracts (package wire), as the laws want them.
-/
import Derived.Test.YtgjoiacgdgbcjaaWBlok
namespace Go.Proofs.Ytgjoiacgdgbcjaa
open Go.RowKit
set_option linter.unusedVariables false
set_option linter.unusedSimpArgs false

theorem atC_any {base g p : Nat} {w : World} {b : List Int} (C : Cur base w g b p) :
    Calls Try.prog 25 #[.pointer (some ⟨g, 0, none⟩)] w fun e w' => e = .returned (.int .i64 (p : Int)) ∧ Below w.heap.size w w' := (atW_any C).mono fun e w' h => ⟨h.1, h.2 ▸ Below.refl _ _⟩
theorem leftC_any {base g p : Nat} {w : World} {b : List Int} (C : Cur base w g b p) :
    Calls Try.prog 22 #[.pointer (some ⟨g, 0, none⟩)] w fun e w' => e = .returned (.int .i64 ((b.length : Int) - p)) ∧ Below w.heap.size w w' := leftW_any C
theorem endC_any {base g p : Nat} {w : World} {b : List Int} (C : Cur base w g b p) :
    Calls Try.prog 23 #[.pointer (some ⟨g, 0, none⟩)] w fun e w' => e = .returned (.int .i64 (if p < b.length then 5 else 0)) ∧ Below w.heap.size w w' := endW_any C
end Go.Proofs.Ytgjoiacgdgbcjaa
