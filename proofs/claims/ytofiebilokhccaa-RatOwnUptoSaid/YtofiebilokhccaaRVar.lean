/-
  A region that draws its order and makes variables: the world behind an alloc, and behind a store of a struct, as a letter with what is known of it.
-/
import Derived.Test.YtofiebilokhccaaRArg
namespace Go.Proofs.Ytofiebilokhccaa
open Go.RowKit Go.ChangeShapes Go.WideShapes Go.ChangeAt
set_option linter.unusedVariables false
set_option linter.unusedSimpArgs false

theorem afterAlloc {K : World → Prop} {V : World} {t : TypeId} {cs : Array Value} (h : ∀ X, Below V.heap.size V X → V.heap.size < X.heap.size → Row X V.heap.size t cs → K X) : K (V.alloc (.cells cs t)) :=
  h _ ((Below.refl _ _).alloc (Nat.le_refl _) _) (by simp) (Row.new _ _ _)
theorem afterSet3 {K : World → Prop} {V : World} {g : Nat} {t : TypeId} {a b c x y z : Value} (R : Row V g t #[a, b, c]) (h : ∀ X, Only g V X → Row X g t #[x, y, z] → K X) :
    K (((V.setCell ⟨g, 0, none⟩ x).setCell ⟨g, 1, none⟩ y).setCell ⟨g, 2, none⟩ z) :=
  h _ (((Only.set V g 0 x).trans (Only.set _ g 1 y)).trans (Only.set _ g 2 z)) (R.set3 x y z)
theorem Row.only {w w' : World} {g b : Nat} {t : TypeId} {cs : Array Value} (R : Row w g t cs) (h : Only b w w') (hb : g ≠ b) : Row w' g t cs := (h.block g hb).trans R
theorem ArgR.only {w w' : World} {v : Value} {x : Rat} {n g : Nat} {t : TypeId} {p : Bool} {ad bd : Option Addr} {l cap m cbp : Nat} (h : ArgR w v x n) (R : Row w g t #[.bool p, .slice ad l cap, .slice bd m cbp]) (k : Only g w w') : ArgR w' v x n :=
  h.far R (noInts3 _ _ _ _ _ _ _) k.block
theorem ArgQ.only {w w' : World} {v : Value} {x : Rat} {n g : Nat} {t : TypeId} {p : Bool} {ad bd : Option Addr} {l cap m cbp : Nat} (h : ArgQ w v x n) (R : Row w g t #[.bool p, .slice ad l cap, .slice bd m cbp]) (k : Only g w w') : ArgQ w' v x n :=
  h.far R (noInts3 _ _ _ _ _ _ _) k.block
theorem ResQ.only {base : Nat} {w w' : World} {v : Value} {x : Rat} {n g : Nat} {cs : Array Value} (h : ResQ base w v x n) (R : Row w g 25 cs) (k : Only g w w') : ResQ base w' v x n :=
  h.far R (by decide) k.block
end Go.Proofs.Ytofiebilokhccaa
