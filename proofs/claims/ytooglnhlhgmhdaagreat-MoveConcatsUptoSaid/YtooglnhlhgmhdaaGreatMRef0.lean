/-
  The reference of layer 9: a small one.
-/
import Derived.Test.YtooglnhlhgmhdaaGreatZ28
namespace Go.Proofs.YtooglnhlhgmhdaaGreat
open Go.RowKit
set_option linter.unusedVariables false
set_option linter.unusedSimpArgs false

theorem Row.set20 {w : World} {g : Nat} {t : TypeId} {a b : Value} (h : Row w g t #[a, b]) (x : Value) : Row (w.setCell ⟨g, 0, none⟩ x) g t #[x, b] := h.set 0 x
end Go.Proofs.YtooglnhlhgmhdaaGreat
