/-
  Rational numbers in memory: what comes in, what comes out, the reference's; whole numbers with a sign.
-/
import Derived.Test.YtofiebilokhccaaB6
import Derived.Deep.RegionHeld3
namespace Go.Proofs.Ytofiebilokhccaa
open Go.RowKit
set_option linter.unusedVariables false
set_option linter.unusedSimpArgs false

/-- a rational number, as it came in: a sign, two rows of limbs -/
def ArgQ (w : World) (v : Value) (x : Rat) (n : Nat) : Prop :=
  ∃ (neg : Bool) (xs ys : List Int) (ad bd : Option Addr) (ca cb : Nat), v = .agg #[.bool neg, .slice ad xs.length ca, .slice bd ys.length cb] ∧
    Arg w (.slice ad xs.length ca) xs ad ca ∧ Arg w (.slice bd ys.length cb) ys bd cb ∧ ratOf neg (val xs) (val ys) = x ∧ xs.length ≤ n ∧ ys.length ≤ n
/-- the same, with a denominator above 0, and 0 without a sign -/
def PlainQ (w : World) (v : Value) (x : Rat) (n : Nat) : Prop :=
  ∃ (neg : Bool) (xs ys : List Int) (ad bd : Option Addr) (ca cb : Nat), v = .agg #[.bool neg, .slice ad xs.length ca, .slice bd ys.length cb] ∧
    Arg w (.slice ad xs.length ca) xs ad ca ∧ Arg w (.slice bd ys.length cb) ys bd cb ∧ ratOf neg (val xs) (val ys) = x ∧ xs.length ≤ n ∧ ys.length ≤ n ∧ 0 < val ys ∧ (val xs = 0 → neg = false)
/-- a rational number as it is answered: its parts, each in its one way, in new memory -/
def ResQ (base : Nat) (w : World) (v : Value) (x : Rat) (n : Nat) : Prop :=
  ∃ (zs ys : List Int) (ad bd : Option Addr) (ca cb : Nat), v = .agg #[.bool (decide (x.num < 0)), .slice ad zs.length ca, .slice bd ys.length cb] ∧
    Res base w (.slice ad zs.length ca) zs (x.num.natAbs : Int) ∧ Res base w (.slice bd ys.length cb) ys (x.den : Int) ∧ zs.length ≤ n ∧ ys.length ≤ n
/-- the reference's rational number: its parts, in digits -/
def ArgR (w : World) (v : Value) (x : Rat) (n : Nat) : Prop :=
  ∃ (zs ys : List Int) (ad bd : Option Addr) (ca cb : Nat), v = .agg #[.bool (decide (x.num < 0)), .slice ad zs.length ca, .slice bd ys.length cb] ∧
    ArgD w (.slice ad zs.length ca) zs ad ca ∧ ArgD w (.slice bd ys.length cb) ys bd cb ∧ valD zs = (x.num.natAbs : Int) ∧ valD ys = (x.den : Int) ∧ zs.length ≤ n ∧ ys.length ≤ n
/-- a whole number with a sign -/
def SgnQ (w : World) (v : Value) (S : Int) (n : Nat) : Prop :=
  ∃ (neg : Bool) (xs : List Int) (ad : Option Addr) (ca : Nat), v = .agg #[.bool neg, .slice ad xs.length ca] ∧ Arg w (.slice ad xs.length ca) xs ad ca ∧ sgn neg (val xs) = S ∧ xs.length ≤ n

theorem ArgQ.later {w w' : World} {v : Value} {x : Rat} {n : Nat} (h : ArgQ w v x n) (hb : Below w.heap.size w w') : ArgQ w' v x n := by
  obtain ⟨neg, xs, ys, ad, bd, ca, cb, rfl, A, B, h⟩ := h
  exact ⟨neg, xs, ys, ad, bd, ca, cb, rfl, A.later hb, B.later hb, h⟩
theorem PlainQ.later {w w' : World} {v : Value} {x : Rat} {n : Nat} (h : PlainQ w v x n) (hb : Below w.heap.size w w') : PlainQ w' v x n := by
  obtain ⟨neg, xs, ys, ad, bd, ca, cb, rfl, A, B, h⟩ := h
  exact ⟨neg, xs, ys, ad, bd, ca, cb, rfl, A.later hb, B.later hb, h⟩
theorem ResQ.later {base : Nat} {w w' : World} {v : Value} {x : Rat} {n : Nat} (h : ResQ base w v x n) (hb : Below w.heap.size w w') : ResQ base w' v x n := by
  obtain ⟨zs, ys, ad, bd, ca, cb, rfl, A, B, h⟩ := h
  exact ⟨zs, ys, ad, bd, ca, cb, rfl, A.later hb, B.later hb, h⟩
theorem ArgR.later {w w' : World} {v : Value} {x : Rat} {n : Nat} (h : ArgR w v x n) (hb : Below w.heap.size w w') : ArgR w' v x n := by
  obtain ⟨zs, ys, ad, bd, ca, cb, rfl, A, B, h⟩ := h
  exact ⟨zs, ys, ad, bd, ca, cb, rfl, A.later hb, B.later hb, h⟩
theorem SgnQ.later {w w' : World} {v : Value} {S : Int} {n : Nat} (h : SgnQ w v S n) (hb : Below w.heap.size w w') : SgnQ w' v S n := by
  obtain ⟨neg, xs, ad, ca, rfl, A, h⟩ := h
  exact ⟨neg, xs, ad, ca, rfl, A.later hb, h⟩
theorem ArgQ.more {w : World} {v : Value} {x : Rat} {n m : Nat} (h : ArgQ w v x n) (hm : n ≤ m) : ArgQ w v x m := by
  obtain ⟨neg, xs, ys, ad, bd, ca, cb, rfl, A, B, h, h1, h2⟩ := h
  exact ⟨neg, xs, ys, ad, bd, ca, cb, rfl, A, B, h, by omega, by omega⟩
theorem PlainQ.more {w : World} {v : Value} {x : Rat} {n m : Nat} (h : PlainQ w v x n) (hm : n ≤ m) : PlainQ w v x m := by
  obtain ⟨neg, xs, ys, ad, bd, ca, cb, rfl, A, B, h, h1, h2, h3⟩ := h
  exact ⟨neg, xs, ys, ad, bd, ca, cb, rfl, A, B, h, by omega, by omega, h3⟩
theorem ResQ.more {base : Nat} {w : World} {v : Value} {x : Rat} {n m : Nat} (h : ResQ base w v x n) (hm : n ≤ m) : ResQ base w v x m := by
  obtain ⟨zs, ys, ad, bd, ca, cb, rfl, A, B, h1, h2⟩ := h
  exact ⟨zs, ys, ad, bd, ca, cb, rfl, A, B, by omega, by omega⟩
theorem ArgR.more {w : World} {v : Value} {x : Rat} {n m : Nat} (h : ArgR w v x n) (hm : n ≤ m) : ArgR w v x m := by
  obtain ⟨zs, ys, ad, bd, ca, cb, rfl, A, B, h1, h2, h3, h4⟩ := h
  exact ⟨zs, ys, ad, bd, ca, cb, rfl, A, B, h1, h2, by omega, by omega⟩
theorem PlainQ.arg {w : World} {v : Value} {x : Rat} {n : Nat} (h : PlainQ w v x n) : ArgQ w v x n := by
  obtain ⟨neg, xs, ys, ad, bd, ca, cb, rfl, A, B, h, h1, h2, _⟩ := h
  exact ⟨neg, xs, ys, ad, bd, ca, cb, rfl, A, B, h, h1, h2⟩
theorem Res.at_ {base : Nat} {w : World} {ad : Option Addr} {n cap : Nat} {zs : List Int} {N : Int} (h : Res base w (.slice ad n cap) zs N) : n = zs.length ∧ Arg w (.slice ad n cap) zs ad cap := by
  obtain ⟨ad', cap', A⟩ := h.arg
  have e := A.is
  simp only [Value.slice.injEq] at e
  obtain ⟨rfl, rfl, rfl⟩ := e
  exact ⟨rfl, A⟩
theorem Res.slice {base : Nat} {w : World} {u : Value} {zs : List Int} {N : Int} (h : Res base w u zs N) : ∃ ad cap, u = .slice ad zs.length cap ∧ Res base w (.slice ad zs.length cap) zs N ∧ Arg w (.slice ad zs.length cap) zs ad cap := by
  obtain ⟨ad, cap, A⟩ := h.arg
  have e := A.is
  subst e
  exact ⟨ad, cap, rfl, h, A⟩
theorem ResD.slice {base : Nat} {w : World} {u : Value} {zs : List Int} {N : Int} (h : ResD base w u zs N) : ∃ ad cap, u = .slice ad zs.length cap ∧ ResD base w (.slice ad zs.length cap) zs N ∧ ArgD w (.slice ad zs.length cap) zs ad cap := by
  obtain ⟨ad, cap, A⟩ := h.arg
  have e := A.is
  subst e
  exact ⟨ad, cap, rfl, h, A⟩
theorem Res.mono {base base' : Nat} {w : World} {u : Value} {zs : List Int} {n : Int} (h : Res base w u zs n) (hb : base' ≤ base) : Res base' w u zs n := ⟨h.num.mono hb, h.wf, h.full, h.eq⟩
theorem ResQ.mono {base base' : Nat} {w : World} {v : Value} {x : Rat} {n : Nat} (h : ResQ base w v x n) (hb : base' ≤ base) : ResQ base' w v x n := by
  obtain ⟨zs, ys, ad, bd, ca, cb, rfl, A, B, h⟩ := h
  exact ⟨zs, ys, ad, bd, ca, cb, rfl, A.mono hb, B.mono hb, h⟩
theorem ResQ.arg {base : Nat} {w : World} {v : Value} {x : Rat} {n : Nat} (h : ResQ base w v x n) : ArgQ w v x n := by
  obtain ⟨zs, ys, ad, bd, ca, cb, rfl, A, B, h1, h2⟩ := h
  exact ⟨_, zs, ys, ad, bd, ca, cb, rfl, A.at_.2, B.at_.2, by rw [A.eq, B.eq, ratOf_self], h1, h2⟩
theorem ResQ.plain {base : Nat} {w : World} {v : Value} {x : Rat} {n : Nat} (h : ResQ base w v x n) : PlainQ w v x n := by
  obtain ⟨zs, ys, ad, bd, ca, cb, rfl, A, B, h1, h2⟩ := h
  exact ⟨_, zs, ys, ad, bd, ca, cb, rfl, A.at_.2, B.at_.2, by rw [A.eq, B.eq, ratOf_self], h1, h2, by rw [B.eq]; exact den_pos' x, fun h0 => decide_eq_false (by rw [A.eq] at h0; omega)⟩

/-! ## variables that hold structs -/
/-- block g holds just the cells cs, of type t -/
def Row (w : World) (g : Nat) (t : TypeId) (cs : Array Value) : Prop := w.heap[g]? = some (.cells cs t (0, 0))
theorem Row.new (w : World) (t : TypeId) (cs : Array Value) : Row (w.alloc (.cells cs t)) w.heap.size t cs := heap_alloc_new w _
theorem Row.lt {w : World} {g : Nat} {t : TypeId} {cs : Array Value} (h : Row w g t cs) : g < w.heap.size := lt_of_block h
theorem Row.cell {w : World} {g : Nat} {t : TypeId} {cs : Array Value} (h : Row w g t cs) (i : Nat) : w.cell? ⟨g, i, none⟩ = cs[i]? := cell_of_row w g i cs t (0, 0) h
theorem Row.free {w : World} {g : Nat} {t : TypeId} {cs : Array Value} (h : Row w g t cs) (i : Nat) : w.frozen? ⟨g, i, none⟩ = false := frozen_of_row w g i cs t h
theorem Row.alloc {w : World} {g : Nat} {t : TypeId} {cs : Array Value} (h : Row w g t cs) (o : Obj) : Row (w.alloc o) g t cs := (Below.heap_alloc _ _ _ h.lt).trans h
theorem Row.drew {w : World} {g : Nat} {t : TypeId} {cs : Array Value} (h : Row w g t cs) : Row w.drew g t cs := h
theorem Row.below {w w' : World} {g B : Nat} {t : TypeId} {cs : Array Value} (h : Row w g t cs) (hb : Below B w w') (hg : g < B) : Row w' g t cs := (hb.block g hg).trans h
theorem Row.later {w w' : World} {g : Nat} {t : TypeId} {cs : Array Value} (h : Row w g t cs) (hb : Below w.heap.size w w') : Row w' g t cs := h.below hb h.lt
theorem Row.set {w : World} {g : Nat} {t : TypeId} {cs : Array Value} (h : Row w g t cs) (i : Nat) (u : Value) : Row (w.setCell ⟨g, i, none⟩ u) g t (cs.setIfInBounds i u) := heap_setCell_same w g i cs t u h
theorem Row.far {w : World} {g : Nat} {t : TypeId} {cs : Array Value} (h : Row w g t cs) {p : Addr} (hp : g ≠ p.block) (u : Value) : Row (w.setCell p u) g t cs := (Below.heap_setCell w p u g hp).trans h
theorem Below.undrew {B : Nat} {a w : World} (h : Below B a w.drew) : Below B a w := ⟨h.os, h.tape, h.output, h.size, h.block⟩
theorem Row.two {w : World} {g : Nat} {t : TypeId} {a b : Value} (h : Row w g t #[a, b]) :
    w.cell? ⟨g, 0, none⟩ = some a ∧ w.cell? ⟨g, 1, none⟩ = some b ∧ w.frozen? ⟨g, 0, none⟩ = false ∧ w.frozen? ⟨g, 1, none⟩ = false := ⟨h.cell 0, h.cell 1, h.free 0, h.free 1⟩
theorem Row.three {w : World} {g : Nat} {t : TypeId} {a b c : Value} (h : Row w g t #[a, b, c]) :
    w.cell? ⟨g, 0, none⟩ = some a ∧ w.cell? ⟨g, 1, none⟩ = some b ∧ w.cell? ⟨g, 2, none⟩ = some c ∧ w.frozen? ⟨g, 0, none⟩ = false ∧ w.frozen? ⟨g, 1, none⟩ = false ∧ w.frozen? ⟨g, 2, none⟩ = false :=
  ⟨h.cell 0, h.cell 1, h.cell 2, h.free 0, h.free 1, h.free 2⟩
theorem Row.set2 {w : World} {g : Nat} {t : TypeId} {a b : Value} (h : Row w g t #[a, b]) (x y : Value) : Row ((w.setCell ⟨g, 0, none⟩ x).setCell ⟨g, 1, none⟩ y) g t #[x, y] := (h.set 0 x).set 1 y
theorem Row.set3 {w : World} {g : Nat} {t : TypeId} {a b c : Value} (h : Row w g t #[a, b, c]) (x y z : Value) : Row (((w.setCell ⟨g, 0, none⟩ x).setCell ⟨g, 1, none⟩ y).setCell ⟨g, 2, none⟩ z) g t #[x, y, z] := ((h.set 0 x).set 1 y).set 2 z
theorem below_set2 {B g : Nat} {w w' : World} (h : Below B w w') (hg : B ≤ g) (x y : Value) : Below B w ((w'.setCell ⟨g, 0, none⟩ x).setCell ⟨g, 1, none⟩ y) := (h.setCell hg x).setCell hg y
theorem below_set3 {B g : Nat} {w w' : World} (h : Below B w w') (hg : B ≤ g) (x y z : Value) : Below B w (((w'.setCell ⟨g, 0, none⟩ x).setCell ⟨g, 1, none⟩ y).setCell ⟨g, 2, none⟩ z) := ((h.setCell hg x).setCell hg y).setCell hg z
/-- a result, where only block g has been written to, which lies below what was made -/
theorem Res.kept {base g : Nat} {w w' : World} {u : Value} {zs : List Int} {n : Int} (h : Res base w u zs n) (hk : ∀ k, k ≠ g → w'.heap[k]? = w.heap[k]?) (hg : g < base) : Res base w' u zs n := by
  refine ⟨?_, h.wf, h.full, h.eq⟩
  obtain ⟨h1, h2⟩ := h.num
  refine ⟨h1, ?_⟩
  rcases h2 with h2 | ⟨k, cap, cur, rfl, hg0, hg', hc, hm, hs, ht⟩
  · exact .inl h2
  · exact .inr ⟨k, cap, cur, rfl, hg0, (hk k (by omega)).trans hg', hc, hm, hs, ht⟩
theorem kept3 {g : Nat} {w : World} (x y z : Value) : ∀ k, k ≠ g → (((w.setCell ⟨g, 0, none⟩ x).setCell ⟨g, 1, none⟩ y).setCell ⟨g, 2, none⟩ z).heap[k]? = w.heap[k]? := fun k hk =>
  ((Below.heap_setCell _ _ _ _ hk).trans (Below.heap_setCell _ _ _ _ hk)).trans (Below.heap_setCell _ _ _ _ hk)
theorem kept2 {g : Nat} {w : World} (x y : Value) : ∀ k, k ≠ g → ((w.setCell ⟨g, 0, none⟩ x).setCell ⟨g, 1, none⟩ y).heap[k]? = w.heap[k]? := fun k hk =>
  (Below.heap_setCell _ _ _ _ hk).trans (Below.heap_setCell _ _ _ _ hk)

/-- all blocks of w but g are in w' as they were -/
structure Kept (g : Nat) (w w' : World) : Prop where
  os : w'.os = w.os
  tape : w'.tape = w.tape
  output : w'.output = w.output
  size : w.heap.size ≤ w'.heap.size
  block : ∀ k, k < w.heap.size → k ≠ g → w'.heap[k]? = w.heap[k]?
theorem Kept.refl (g : Nat) (w : World) : Kept g w w := ⟨rfl, rfl, rfl, Nat.le_refl _, fun _ _ _ => rfl⟩
theorem Kept.drew {g : Nat} {a w : World} (h : Kept g a w) : Kept g a w.drew := ⟨h.os, h.tape, h.output, h.size, h.block⟩
theorem Kept.undrew {g : Nat} {a w : World} (h : Kept g a w.drew) : Kept g a w := ⟨h.os, h.tape, h.output, h.size, h.block⟩
theorem Kept.below {g : Nat} {a w w' : World} (h : Kept g a w) (hb : Below w.heap.size w w') : Kept g a w' :=
  ⟨hb.os.trans h.os, hb.tape.trans h.tape, hb.output.trans h.output, Nat.le_trans h.size hb.size, fun k hk hg => (hb.block k (Nat.lt_of_lt_of_le hk h.size)).trans (h.block k hk hg)⟩
theorem Kept.alloc {g : Nat} {a w : World} (h : Kept g a w) (o : Obj) : Kept g a (w.alloc o) := h.below ((Below.refl _ _).alloc (Nat.le_refl _) o)
theorem Kept.set {g : Nat} {a w : World} (h : Kept g a w) (i : Nat) (u : Value) : Kept g a (w.setCell ⟨g, i, none⟩ u) := by
  have hb := (Below.refl 0 w).setCell (Nat.zero_le (⟨g, i, none⟩ : Addr).block) u
  exact ⟨hb.os.trans h.os, hb.tape.trans h.tape, hb.output.trans h.output, Nat.le_trans h.size hb.size, fun k hk hg => (Below.heap_setCell w _ u k hg).trans (h.block k hk hg)⟩
theorem Kept.under {B g : Nat} {a w w' : World} (k : Kept g w w') (h : Below B a w) (hB : B ≤ w.heap.size) (hg : B ≤ g) : Below B a w' :=
  ⟨k.os.trans h.os, k.tape.trans h.tape, k.output.trans h.output, Nat.le_trans h.size k.size, fun j hj => (k.block j (by omega) (by omega)).trans (h.block j hj)⟩
theorem Row.kept {w w' : World} {g r : Nat} {t : TypeId} {cs : Array Value} (h : Row w g t cs) (k : Kept r w w') (hg : g ≠ r) : Row w' g t cs := (k.block g h.lt hg).trans h

/-! ## a store into a variable that holds a struct leaves limbs and digits alone -/
/-- cells that are neither limbs nor digits -/
def NoInts (cs : Array Value) : Prop := ∀ (i : Nat) (k : IntKind) (x : Int), cs[i]? ≠ some (Value.int k x)
theorem noInts2 (p : Bool) (ad : Option Addr) (n cap : Nat) : NoInts #[.bool p, .slice ad n cap] := by
  intro i k x
  match i with
  | 0 => simp
  | 1 => simp
  | _ + 2 => simp
theorem noInts3 (p : Bool) (ad bd : Option Addr) (n cap m cbp : Nat) : NoInts #[.bool p, .slice ad n cap, .slice bd m cbp] := by
  intro i k x
  match i with
  | 0 => simp
  | 1 => simp
  | 2 => simp
  | _ + 3 => simp
theorem Lim.far {w w' : World} {ad : Option Addr} {xs : List Int} {g : Nat} {t : TypeId} {cs : Array Value} (h : Lim w ad xs) (R : Row w g t cs) (hn : NoInts cs) (hk : ∀ k, k ≠ g → w'.heap[k]? = w.heap[k]?) : Lim w' ad xs := by
  rcases h with rfl | ⟨b, off, rfl, hc⟩
  · exact .inl rfl
  · refine .inr ⟨b, off, rfl, fun i hi => ?_⟩
    by_cases hb : b = g
    · subst hb
      have h1 := hc i hi
      rw [R.cell] at h1
      exact absurd h1 (hn _ _ _)
    · rw [World.cell?_of_block (hk b hb)]
      exact hc i hi
theorem LimI.far {w w' : World} {ad : Option Addr} {xs : List Int} {g : Nat} {t : TypeId} {cs : Array Value} (h : LimI w ad xs) (R : Row w g t cs) (hn : NoInts cs) (hk : ∀ k, k ≠ g → w'.heap[k]? = w.heap[k]?) : LimI w' ad xs := by
  rcases h with rfl | ⟨b, off, rfl, hc⟩
  · exact .inl rfl
  · refine .inr ⟨b, off, rfl, fun i hi => ?_⟩
    by_cases hb : b = g
    · subst hb
      have h1 := hc i hi
      rw [R.cell] at h1
      exact absurd h1 (hn _ _ _)
    · rw [World.cell?_of_block (hk b hb)]
      exact hc i hi
theorem Arg.far {w w' : World} {u : Value} {ad : Option Addr} {xs : List Int} {cap g : Nat} {t : TypeId} {cs : Array Value} (h : Arg w u xs ad cap) (R : Row w g t cs) (hn : NoInts cs) (hk : ∀ k, k ≠ g → w'.heap[k]? = w.heap[k]?) : Arg w' u xs ad cap :=
  ⟨h.is, h.lim.far R hn hk, h.le, h.wf⟩
theorem ArgD.far {w w' : World} {u : Value} {ad : Option Addr} {xs : List Int} {cap g : Nat} {t : TypeId} {cs : Array Value} (h : ArgD w u xs ad cap) (R : Row w g t cs) (hn : NoInts cs) (hk : ∀ k, k ≠ g → w'.heap[k]? = w.heap[k]?) : ArgD w' u xs ad cap :=
  ⟨h.is, h.lim.far R hn hk, h.le, h.wf, h.full⟩
theorem Res.far {base : Nat} {w w' : World} {u : Value} {zs : List Int} {n : Int} {g : Nat} {t : TypeId} {cs : Array Value} (h : Res base w u zs n) (R : Row w g t cs) (ht : t ≠ 62) (hk : ∀ k, k ≠ g → w'.heap[k]? = w.heap[k]?) : Res base w' u zs n := by
  refine ⟨?_, h.wf, h.full, h.eq⟩
  obtain ⟨h1, h2⟩ := h.num
  refine ⟨h1, ?_⟩
  rcases h2 with h2 | ⟨k, cap, cur, rfl, hg0, hg', hc, hm, hs, ht'⟩
  · exact .inl h2
  · refine .inr ⟨k, cap, cur, rfl, hg0, (hk k ?_).trans hg', hc, hm, hs, ht'⟩
    rintro rfl
    have e := hg'.symm.trans R
    injection e with e
    injection e with _ e
    exact ht e.symm
theorem ArgQ.far {w w' : World} {v : Value} {x : Rat} {n : Nat} {g : Nat} {t : TypeId} {cs : Array Value} (h : ArgQ w v x n) (R : Row w g t cs) (hn : NoInts cs) (hk : ∀ k, k ≠ g → w'.heap[k]? = w.heap[k]?) : ArgQ w' v x n := by
  obtain ⟨neg, xs, ys, ad, bd, ca, cb, rfl, A, B, h⟩ := h
  exact ⟨neg, xs, ys, ad, bd, ca, cb, rfl, A.far R hn hk, B.far R hn hk, h⟩
theorem PlainQ.far {w w' : World} {v : Value} {x : Rat} {n : Nat} {g : Nat} {t : TypeId} {cs : Array Value} (h : PlainQ w v x n) (R : Row w g t cs) (hn : NoInts cs) (hk : ∀ k, k ≠ g → w'.heap[k]? = w.heap[k]?) : PlainQ w' v x n := by
  obtain ⟨neg, xs, ys, ad, bd, ca, cb, rfl, A, B, h⟩ := h
  exact ⟨neg, xs, ys, ad, bd, ca, cb, rfl, A.far R hn hk, B.far R hn hk, h⟩
theorem SgnQ.far {w w' : World} {v : Value} {X : Int} {n : Nat} {g : Nat} {t : TypeId} {cs : Array Value} (h : SgnQ w v X n) (R : Row w g t cs) (hn : NoInts cs) (hk : ∀ k, k ≠ g → w'.heap[k]? = w.heap[k]?) : SgnQ w' v X n := by
  obtain ⟨neg, xs, ad, ca, rfl, A, h⟩ := h
  exact ⟨neg, xs, ad, ca, rfl, A.far R hn hk, h⟩
theorem ResQ.far {base : Nat} {w w' : World} {v : Value} {x : Rat} {n : Nat} {g : Nat} {t : TypeId} {cs : Array Value} (h : ResQ base w v x n) (R : Row w g t cs) (ht : t ≠ 62) (hk : ∀ k, k ≠ g → w'.heap[k]? = w.heap[k]?) : ResQ base w' v x n := by
  obtain ⟨zs, ys, ad, bd, ca, cb, rfl, A, B, h⟩ := h
  exact ⟨zs, ys, ad, bd, ca, cb, rfl, A.far R ht hk, B.far R ht hk, h⟩
theorem ArgR.far {w w' : World} {v : Value} {x : Rat} {n : Nat} {g : Nat} {t : TypeId} {cs : Array Value} (h : ArgR w v x n) (R : Row w g t cs) (hn : NoInts cs) (hk : ∀ k, k ≠ g → w'.heap[k]? = w.heap[k]?) : ArgR w' v x n := by
  obtain ⟨zs, ys, ad, bd, ca, cb, rfl, A, B, h⟩ := h
  exact ⟨zs, ys, ad, bd, ca, cb, rfl, A.far R hn hk, B.far R hn hk, h⟩

/-! ## whole numbers -/
theorem wrap_abs (a : Nat) (h : a ≤ 9223372036854775808) : IntKind.u64.wrap (wrap64 (a : Int)) = (a : Int) := by
  unfold wrap64
  simp only [IntKind.wrap, IntKind.signed, IntKind.bits]
  simp
  omega
theorem wrap_abs' (a : Nat) (h : a ≤ 9223372036854775808) : IntKind.u64.wrap (IntKind.i64.wrap (a : Int)) = (a : Int) := by
  simp only [IntKind.wrap, IntKind.signed, IntKind.bits]
  simp
  omega
set_option maxHeartbeats 1000000 in
theorem size_any (n : Int) (w : World) (h0 : -9223372036854775808 ≤ n) (h1 : n ≤ 9223372036854775807) :
    Calls Try.prog 61 #[.int .i64 n] w fun e w' => ∃ r zs, e = .returned r ∧ Res w.heap.size w' r zs (n.natAbs : Int) ∧ zs.length ≤ 2 ∧ Below w.heap.size w w' := by
  by_cases hn : n < 0
  · have hd : decide (n < 0) = true := decide_eq_true hn
    obtain ⟨a, ha⟩ : ∃ a, n.natAbs = a := ⟨_, rfl⟩
    have ha2 : n = -(a : Int) := by omega
    rw [ha]
    subst ha2
    have hc : IntKind.u64.wrap (wrap64 (a : Int)) = (a : Int) := wrap_abs a (by omega)
    have hc2 : IntKind.u64.wrap (IntKind.i64.wrap (a : Int)) = (a : Int) := wrap_abs' a (by omega)
    clear ha
    go_enter Try.func61, Try.ntmps61
    go_wp2_with fail
    refine (ofN_any (a : Int) _ (by omega) (by omega)).mono ?_
    rintro e w' ⟨r, z, rfl, q, nz, hb⟩
    go_wp2_with fail
    go_ret
    exact ⟨r, z, rfl, q, nz, hb⟩
  · have hd : decide (n < 0) = false := decide_eq_false hn
    obtain ⟨a, ha⟩ : ∃ a, n.natAbs = a := ⟨_, rfl⟩
    have ha2 : n = (a : Int) := by omega
    rw [ha]
    subst ha2
    have hc : IntKind.u64.wrap (a : Int) = (a : Int) := wrap_u64 (by omega) (by omega)
    clear ha
    go_enter Try.func61, Try.ntmps61
    go_wp2_with fail
    refine (ofN_any (a : Int) _ (by omega) (by omega)).mono ?_
    rintro e w' ⟨r, z, rfl, q, nz, hb⟩
    go_wp2_with fail
    go_ret
    exact ⟨r, z, rfl, q, nz, hb⟩
end Go.Proofs.Ytofiebilokhccaa
