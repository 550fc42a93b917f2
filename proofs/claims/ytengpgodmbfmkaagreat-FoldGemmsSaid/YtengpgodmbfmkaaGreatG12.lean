/-
  Part 12 of 39: contracts and what they rest on (RArg, RInt, RProd, RSgn, TReg).
-/
import Derived.Test.YtengpgodmbfmkaaGreatG8
import Derived.Test.YtengpgodmbfmkaaGreatG9
namespace Go.Proofs.YtengpgodmbfmkaaGreat
set_option linter.unusedVariables false
set_option linter.unusedSimpArgs false
set_option maxRecDepth 100000
set_option maxHeartbeats 40000000
section
open Go.RowKit
def ArgQ (w : World) (v : Value) (x : Rat) (n : Nat) : Prop :=
 ∃ (neg : Bool) (xs ys : List Int) (ad bd : Option Addr) (ca cb : Nat), v = .agg #[.bool neg, .slice ad xs.length ca, .slice bd ys.length cb] ∧
  Arg w (.slice ad xs.length ca) xs ad ca ∧ Arg w (.slice bd ys.length cb) ys bd cb ∧ ratOf neg (val xs) (val ys) = x ∧ xs.length ≤ n ∧ ys.length ≤ n
def PlainQ (w : World) (v : Value) (x : Rat) (n : Nat) : Prop :=
 ∃ (neg : Bool) (xs ys : List Int) (ad bd : Option Addr) (ca cb : Nat), v = .agg #[.bool neg, .slice ad xs.length ca, .slice bd ys.length cb] ∧
  Arg w (.slice ad xs.length ca) xs ad ca ∧ Arg w (.slice bd ys.length cb) ys bd cb ∧ ratOf neg (val xs) (val ys) = x ∧ xs.length ≤ n ∧ ys.length ≤ n ∧ 0 < val ys ∧ (val xs = 0 → neg = false)
def ResQ (base : Nat) (w : World) (v : Value) (x : Rat) (n : Nat) : Prop :=
 ∃ (zs ys : List Int) (ad bd : Option Addr) (ca cb : Nat), v = .agg #[.bool (decide (x.num < 0)), .slice ad zs.length ca, .slice bd ys.length cb] ∧
  Res base w (.slice ad zs.length ca) zs (x.num.natAbs : Int) ∧ Res base w (.slice bd ys.length cb) ys (x.den : Int) ∧ zs.length ≤ n ∧ ys.length ≤ n
def ArgR (w : World) (v : Value) (x : Rat) (n : Nat) : Prop :=
 ∃ (zs ys : List Int) (ad bd : Option Addr) (ca cb : Nat), v = .agg #[.bool (decide (x.num < 0)), .slice ad zs.length ca, .slice bd ys.length cb] ∧
  ArgD w (.slice ad zs.length ca) zs ad ca ∧ ArgD w (.slice bd ys.length cb) ys bd cb ∧ valD zs = (x.num.natAbs : Int) ∧ valD ys = (x.den : Int) ∧ zs.length ≤ n ∧ ys.length ≤ n
def SgnQ (w : World) (v : Value) (S : Int) (n : Nat) : Prop :=
 ∃ (neg : Bool) (xs : List Int) (ad : Option Addr) (ca : Nat), v = .agg #[.bool neg, .slice ad xs.length ca] ∧ Arg w (.slice ad xs.length ca) xs ad ca ∧ sgn neg (val xs) = S ∧ xs.length ≤ n
theorem ArgQ.later {w w' : World} {v : Value} {x : Rat} {n : Nat} (h : ArgQ w v x n) (hb : Below w.heap.size w w') : ArgQ w' v x n := by
 obtain ⟨neg, xs, ys, ad, bd, ca, cb, rfl, A, B, h⟩ := h
 exact ⟨neg, xs, ys, ad, bd, ca, cb, rfl, A.later hb, B.later hb, h⟩
theorem ResQ.later {base : Nat} {w w' : World} {v : Value} {x : Rat} {n : Nat} (h : ResQ base w v x n) (hb : Below w.heap.size w w') : ResQ base w' v x n := by
 obtain ⟨zs, ys, ad, bd, ca, cb, rfl, A, B, h⟩ := h
 exact ⟨zs, ys, ad, bd, ca, cb, rfl, A.later hb, B.later hb, h⟩
theorem ArgR.later {w w' : World} {v : Value} {x : Rat} {n : Nat} (h : ArgR w v x n) (hb : Below w.heap.size w w') : ArgR w' v x n := by
 obtain ⟨zs, ys, ad, bd, ca, cb, rfl, A, B, h⟩ := h
 exact ⟨zs, ys, ad, bd, ca, cb, rfl, A.later hb, B.later hb, h⟩
theorem SgnQ.later {w w' : World} {v : Value} {S : Int} {n : Nat} (h : SgnQ w v S n) (hb : Below w.heap.size w w') : SgnQ w' v S n := by
 obtain ⟨neg, xs, ad, ca, rfl, A, h⟩ := h
 exact ⟨neg, xs, ad, ca, rfl, A.later hb, h⟩
theorem ArgQ.more {w : World} {v : Value} {x : Rat} {n m : Nat} (h : ArgQ w v x n) (hm : n ≤ m) : ArgQ w v x m := by
 obtain ⟨neg, xs, ys, ad, bd, ca, cb, rfl, A, B, h, h1, h2⟩ := h
 exact ⟨neg, xs, ys, ad, bd, ca, cb, rfl, A, B, h, by omega, by omega⟩
theorem PlainQ.more {w : World} {v : Value} {x : Rat} {n m : Nat} (h : PlainQ w v x n) (hm : n ≤ m) : PlainQ w v x m := by
 obtain ⟨neg, xs, ys, ad, bd, ca, cb, rfl, A, B, h, h1, h2, h3⟩ := h
 exact ⟨neg, xs, ys, ad, bd, ca, cb, rfl, A, B, h, by omega, by omega, h3⟩
theorem ResQ.more {base : Nat} {w : World} {v : Value} {x : Rat} {n m : Nat} (h : ResQ base w v x n) (hm : n ≤ m) : ResQ base w v x m := by
 obtain ⟨zs, ys, ad, bd, ca, cb, rfl, A, B, h1, h2⟩ := h
 exact ⟨zs, ys, ad, bd, ca, cb, rfl, A, B, by omega, by omega⟩
theorem Res.at_ {base : Nat} {w : World} {ad : Option Addr} {n cap : Nat} {zs : List Int} {N : Int} (h : Res base w (.slice ad n cap) zs N) : n = zs.length ∧ Arg w (.slice ad n cap) zs ad cap := by
 obtain ⟨ad', cap', A⟩ := h.arg
 have e := A.is
 simp only [Value.slice.injEq] at e
 obtain ⟨rfl, rfl, rfl⟩ := e
 exact ⟨rfl, A⟩
theorem Res.slice {base : Nat} {w : World} {u : Value} {zs : List Int} {N : Int} (h : Res base w u zs N) : ∃ ad cap, u = .slice ad zs.length cap ∧ Res base w (.slice ad zs.length cap) zs N ∧ Arg w (.slice ad zs.length cap) zs ad cap := by
 obtain ⟨ad, cap, A⟩ := h.arg
 have e := A.is
 subst e
 exact ⟨ad, cap, rfl, h, A⟩
theorem ResD.slice {base : Nat} {w : World} {u : Value} {zs : List Int} {N : Int} (h : ResD base w u zs N) : ∃ ad cap, u = .slice ad zs.length cap ∧ ResD base w (.slice ad zs.length cap) zs N ∧ ArgD w (.slice ad zs.length cap) zs ad cap := by
 obtain ⟨ad, cap, A⟩ := h.arg
 have e := A.is
 subst e
 exact ⟨ad, cap, rfl, h, A⟩
theorem Res.mono {base base' : Nat} {w : World} {u : Value} {zs : List Int} {n : Int} (h : Res base w u zs n) (hb : base' ≤ base) : Res base' w u zs n := ⟨h.num.mono hb, h.wf, h.full, h.eq⟩
theorem ResQ.mono {base base' : Nat} {w : World} {v : Value} {x : Rat} {n : Nat} (h : ResQ base w v x n) (hb : base' ≤ base) : ResQ base' w v x n := by
 obtain ⟨zs, ys, ad, bd, ca, cb, rfl, A, B, h⟩ := h
 exact ⟨zs, ys, ad, bd, ca, cb, rfl, A.mono hb, B.mono hb, h⟩
theorem ResQ.arg {base : Nat} {w : World} {v : Value} {x : Rat} {n : Nat} (h : ResQ base w v x n) : ArgQ w v x n := by
 obtain ⟨zs, ys, ad, bd, ca, cb, rfl, A, B, h1, h2⟩ := h
 exact ⟨_, zs, ys, ad, bd, ca, cb, rfl, A.at_.2, B.at_.2, by rw [A.eq, B.eq, ratOf_self], h1, h2⟩
theorem ResQ.plain {base : Nat} {w : World} {v : Value} {x : Rat} {n : Nat} (h : ResQ base w v x n) : PlainQ w v x n := by
 obtain ⟨zs, ys, ad, bd, ca, cb, rfl, A, B, h1, h2⟩ := h
 exact ⟨_, zs, ys, ad, bd, ca, cb, rfl, A.at_.2, B.at_.2, by rw [A.eq, B.eq, ratOf_self], h1, h2, by rw [B.eq]; exact den_pos' x, fun h0 => decide_eq_false (by rw [A.eq] at h0; omega)⟩
def Row (w : World) (g : Nat) (t : TypeId) (cs : Array Value) : Prop := w.heap[g]? = some (.cells cs t (0, 0))
theorem Row.new (w : World) (t : TypeId) (cs : Array Value) : Row (w.alloc (.cells cs t)) w.heap.size t cs := heap_alloc_new w _
theorem Row.lt {w : World} {g : Nat} {t : TypeId} {cs : Array Value} (h : Row w g t cs) : g < w.heap.size := lt_of_block h
theorem Row.cell {w : World} {g : Nat} {t : TypeId} {cs : Array Value} (h : Row w g t cs) (i : Nat) : w.cell? ⟨g, i, none⟩ = cs[i]? := cell_of_row w g i cs t (0, 0) h
theorem Row.free {w : World} {g : Nat} {t : TypeId} {cs : Array Value} (h : Row w g t cs) (i : Nat) : w.frozen? ⟨g, i, none⟩ = false := frozen_of_row w g i cs t h
theorem Row.alloc {w : World} {g : Nat} {t : TypeId} {cs : Array Value} (h : Row w g t cs) (o : Obj) : Row (w.alloc o) g t cs := (Below.heap_alloc _ _ _ h.lt).trans h
theorem Row.below {w w' : World} {g B : Nat} {t : TypeId} {cs : Array Value} (h : Row w g t cs) (hb : Below B w w') (hg : g < B) : Row w' g t cs := (hb.block g hg).trans h
theorem Row.later {w w' : World} {g : Nat} {t : TypeId} {cs : Array Value} (h : Row w g t cs) (hb : Below w.heap.size w w') : Row w' g t cs := h.below hb h.lt
theorem Row.set {w : World} {g : Nat} {t : TypeId} {cs : Array Value} (h : Row w g t cs) (i : Nat) (u : Value) : Row (w.setCell ⟨g, i, none⟩ u) g t (cs.setIfInBounds i u) := heap_setCell_same w g i cs t u h
theorem Row.far {w : World} {g : Nat} {t : TypeId} {cs : Array Value} (h : Row w g t cs) {p : Addr} (hp : g ≠ p.block) (u : Value) : Row (w.setCell p u) g t cs := (Below.heap_setCell w p u g hp).trans h
theorem Row.two {w : World} {g : Nat} {t : TypeId} {a b : Value} (h : Row w g t #[a, b]) :
 w.cell? ⟨g, 0, none⟩ = some a ∧ w.cell? ⟨g, 1, none⟩ = some b ∧ w.frozen? ⟨g, 0, none⟩ = false ∧ w.frozen? ⟨g, 1, none⟩ = false := ⟨h.cell 0, h.cell 1, h.free 0, h.free 1⟩
theorem Row.three {w : World} {g : Nat} {t : TypeId} {a b c : Value} (h : Row w g t #[a, b, c]) :
 w.cell? ⟨g, 0, none⟩ = some a ∧ w.cell? ⟨g, 1, none⟩ = some b ∧ w.cell? ⟨g, 2, none⟩ = some c ∧ w.frozen? ⟨g, 0, none⟩ = false ∧ w.frozen? ⟨g, 1, none⟩ = false ∧ w.frozen? ⟨g, 2, none⟩ = false :=
 ⟨h.cell 0, h.cell 1, h.cell 2, h.free 0, h.free 1, h.free 2⟩
theorem Row.set2 {w : World} {g : Nat} {t : TypeId} {a b : Value} (h : Row w g t #[a, b]) (x y : Value) : Row ((w.setCell ⟨g, 0, none⟩ x).setCell ⟨g, 1, none⟩ y) g t #[x, y] := (h.set 0 x).set 1 y
theorem Row.set3 {w : World} {g : Nat} {t : TypeId} {a b c : Value} (h : Row w g t #[a, b, c]) (x y z : Value) : Row (((w.setCell ⟨g, 0, none⟩ x).setCell ⟨g, 1, none⟩ y).setCell ⟨g, 2, none⟩ z) g t #[x, y, z] := ((h.set 0 x).set 1 y).set 2 z
theorem below_set2 {B g : Nat} {w w' : World} (h : Below B w w') (hg : B ≤ g) (x y : Value) : Below B w ((w'.setCell ⟨g, 0, none⟩ x).setCell ⟨g, 1, none⟩ y) := (h.setCell hg x).setCell hg y
theorem below_set3 {B g : Nat} {w w' : World} (h : Below B w w') (hg : B ≤ g) (x y z : Value) : Below B w (((w'.setCell ⟨g, 0, none⟩ x).setCell ⟨g, 1, none⟩ y).setCell ⟨g, 2, none⟩ z) := ((h.setCell hg x).setCell hg y).setCell hg z
theorem Res.kept {base g : Nat} {w w' : World} {u : Value} {zs : List Int} {n : Int} (h : Res base w u zs n) (hk : ∀ k, k ≠ g → w'.heap[k]? = w.heap[k]?) (hg : g < base) : Res base w' u zs n := by
 refine ⟨?_, h.wf, h.full, h.eq⟩
 obtain ⟨h1, h2⟩ := h.num
 refine ⟨h1, ?_⟩
 rcases h2 with h2 | ⟨k, cap, cur, rfl, hg0, hg', hc, hm, hs, ht⟩
 · exact .inl h2
 · exact .inr ⟨k, cap, cur, rfl, hg0, (hk k (by omega)).trans hg', hc, hm, hs, ht⟩
theorem kept3 {g : Nat} {w : World} (x y z : Value) : ∀ k, k ≠ g → (((w.setCell ⟨g, 0, none⟩ x).setCell ⟨g, 1, none⟩ y).setCell ⟨g, 2, none⟩ z).heap[k]? = w.heap[k]? := fun k hk =>
 ((Below.heap_setCell _ _ _ _ hk).trans (Below.heap_setCell _ _ _ _ hk)).trans (Below.heap_setCell _ _ _ _ hk)
theorem kept2 {g : Nat} {w : World} (x y : Value) : ∀ k, k ≠ g → ((w.setCell ⟨g, 0, none⟩ x).setCell ⟨g, 1, none⟩ y).heap[k]? = w.heap[k]? := fun k hk =>
 (Below.heap_setCell _ _ _ _ hk).trans (Below.heap_setCell _ _ _ _ hk)
structure Kept (g : Nat) (w w' : World) : Prop where
 os : w'.os = w.os
 tape : w'.tape = w.tape
 output : w'.output = w.output
 size : w.heap.size ≤ w'.heap.size
 block : ∀ k, k < w.heap.size → k ≠ g → w'.heap[k]? = w.heap[k]?
theorem Kept.refl (g : Nat) (w : World) : Kept g w w := ⟨rfl, rfl, rfl, Nat.le_refl _, fun _ _ _ => rfl⟩
theorem Kept.drew {g : Nat} {a w : World} (h : Kept g a w) : Kept g a w.drew := ⟨h.os, h.tape, h.output, h.size, h.block⟩
theorem Kept.below {g : Nat} {a w w' : World} (h : Kept g a w) (hb : Below w.heap.size w w') : Kept g a w' :=
 ⟨hb.os.trans h.os, hb.tape.trans h.tape, hb.output.trans h.output, Nat.le_trans h.size hb.size, fun k hk hg => (hb.block k (Nat.lt_of_lt_of_le hk h.size)).trans (h.block k hk hg)⟩
theorem Kept.alloc {g : Nat} {a w : World} (h : Kept g a w) (o : Obj) : Kept g a (w.alloc o) := h.below ((Below.refl _ _).alloc (Nat.le_refl _) o)
theorem Kept.set {g : Nat} {a w : World} (h : Kept g a w) (i : Nat) (u : Value) : Kept g a (w.setCell ⟨g, i, none⟩ u) := by
 have hb := (Below.refl 0 w).setCell (Nat.zero_le (⟨g, i, none⟩ : Addr).block) u
 exact ⟨hb.os.trans h.os, hb.tape.trans h.tape, hb.output.trans h.output, Nat.le_trans h.size hb.size, fun k hk hg => (Below.heap_setCell w _ u k hg).trans (h.block k hk hg)⟩
theorem Kept.under {B g : Nat} {a w w' : World} (k : Kept g w w') (h : Below B a w) (hB : B ≤ w.heap.size) (hg : B ≤ g) : Below B a w' :=
 ⟨k.os.trans h.os, k.tape.trans h.tape, k.output.trans h.output, Nat.le_trans h.size k.size, fun j hj => (k.block j (by omega) (by omega)).trans (h.block j hj)⟩
theorem Row.kept {w w' : World} {g r : Nat} {t : TypeId} {cs : Array Value} (h : Row w g t cs) (k : Kept r w w') (hg : g ≠ r) : Row w' g t cs := (k.block g h.lt hg).trans h
def NoInts (cs : Array Value) : Prop := ∀ (i : Nat) (k : IntKind) (x : Int), cs[i]? ≠ some (Value.int k x)
theorem noInts3 (p : Bool) (ad bd : Option Addr) (n cap m cbp : Nat) : NoInts #[.bool p, .slice ad n cap, .slice bd m cbp] := by
 intro i k x
 match i with
 | 0 => simp
 | 1 => simp
 | 2 => simp
 | _ + 3 => simp
theorem Lim.far {w w' : World} {ad : Option Addr} {xs : List Int} {g : Nat} {t : TypeId} {cs : Array Value} (h : Lim w ad xs) (R : Row w g t cs) (hn : NoInts cs) (hk : ∀ k, k ≠ g → w'.heap[k]? = w.heap[k]?) : Lim w' ad xs := by
 rcases h with rfl | ⟨b, off, rfl, hc⟩
 · exact .inl rfl
 · refine .inr ⟨b, off, rfl, fun i hi => ?_⟩
   by_cases hb : b = g
   · subst hb
     have h1 := hc i hi
     rw [R.cell] at h1
     exact absurd h1 (hn _ _ _)
   · rw [World.cell?_of_block (hk b hb)]
     exact hc i hi
theorem LimI.far {w w' : World} {ad : Option Addr} {xs : List Int} {g : Nat} {t : TypeId} {cs : Array Value} (h : LimI w ad xs) (R : Row w g t cs) (hn : NoInts cs) (hk : ∀ k, k ≠ g → w'.heap[k]? = w.heap[k]?) : LimI w' ad xs := by
 rcases h with rfl | ⟨b, off, rfl, hc⟩
 · exact .inl rfl
 · refine .inr ⟨b, off, rfl, fun i hi => ?_⟩
   by_cases hb : b = g
   · subst hb
     have h1 := hc i hi
     rw [R.cell] at h1
     exact absurd h1 (hn _ _ _)
   · rw [World.cell?_of_block (hk b hb)]
     exact hc i hi
theorem Arg.far {w w' : World} {u : Value} {ad : Option Addr} {xs : List Int} {cap g : Nat} {t : TypeId} {cs : Array Value} (h : Arg w u xs ad cap) (R : Row w g t cs) (hn : NoInts cs) (hk : ∀ k, k ≠ g → w'.heap[k]? = w.heap[k]?) : Arg w' u xs ad cap :=
 ⟨h.is, h.lim.far R hn hk, h.le, h.wf⟩
theorem ArgD.far {w w' : World} {u : Value} {ad : Option Addr} {xs : List Int} {cap g : Nat} {t : TypeId} {cs : Array Value} (h : ArgD w u xs ad cap) (R : Row w g t cs) (hn : NoInts cs) (hk : ∀ k, k ≠ g → w'.heap[k]? = w.heap[k]?) : ArgD w' u xs ad cap :=
 ⟨h.is, h.lim.far R hn hk, h.le, h.wf, h.full⟩
theorem Res.far {base : Nat} {w w' : World} {u : Value} {zs : List Int} {n : Int} {g : Nat} {t : TypeId} {cs : Array Value} (h : Res base w u zs n) (R : Row w g t cs) (ht : t ≠ 144) (hk : ∀ k, k ≠ g → w'.heap[k]? = w.heap[k]?) : Res base w' u zs n := by
 refine ⟨?_, h.wf, h.full, h.eq⟩
 obtain ⟨h1, h2⟩ := h.num
 refine ⟨h1, ?_⟩
 rcases h2 with h2 | ⟨k, cap, cur, rfl, hg0, hg', hc, hm, hs, ht'⟩
 · exact .inl h2
 · refine .inr ⟨k, cap, cur, rfl, hg0, (hk k ?_).trans hg', hc, hm, hs, ht'⟩
   rintro rfl
   have e := hg'.symm.trans R
   injection e with e
   injection e with _ e
   exact ht e.symm
theorem PlainQ.far {w w' : World} {v : Value} {x : Rat} {n : Nat} {g : Nat} {t : TypeId} {cs : Array Value} (h : PlainQ w v x n) (R : Row w g t cs) (hn : NoInts cs) (hk : ∀ k, k ≠ g → w'.heap[k]? = w.heap[k]?) : PlainQ w' v x n := by
 obtain ⟨neg, xs, ys, ad, bd, ca, cb, rfl, A, B, h⟩ := h
 exact ⟨neg, xs, ys, ad, bd, ca, cb, rfl, A.far R hn hk, B.far R hn hk, h⟩
theorem ResQ.far {base : Nat} {w w' : World} {v : Value} {x : Rat} {n : Nat} {g : Nat} {t : TypeId} {cs : Array Value} (h : ResQ base w v x n) (R : Row w g t cs) (ht : t ≠ 144) (hk : ∀ k, k ≠ g → w'.heap[k]? = w.heap[k]?) : ResQ base w' v x n := by
 obtain ⟨zs, ys, ad, bd, ca, cb, rfl, A, B, h⟩ := h
 exact ⟨zs, ys, ad, bd, ca, cb, rfl, A.far R ht hk, B.far R ht hk, h⟩
theorem ArgR.far {w w' : World} {v : Value} {x : Rat} {n : Nat} {g : Nat} {t : TypeId} {cs : Array Value} (h : ArgR w v x n) (R : Row w g t cs) (hn : NoInts cs) (hk : ∀ k, k ≠ g → w'.heap[k]? = w.heap[k]?) : ArgR w' v x n := by
 obtain ⟨zs, ys, ad, bd, ca, cb, rfl, A, B, h⟩ := h
 exact ⟨zs, ys, ad, bd, ca, cb, rfl, A.far R hn hk, B.far R hn hk, h⟩
theorem wrap_abs (a : Nat) (h : a ≤ 9223372036854775808) : IntKind.u64.wrap (wrap64 (a : Int)) = (a : Int) := by
 unfold wrap64
 simp only [IntKind.wrap, IntKind.signed, IntKind.bits]
 simp
 omega
theorem wrap_abs' (a : Nat) (h : a ≤ 9223372036854775808) : IntKind.u64.wrap (IntKind.i64.wrap (a : Int)) = (a : Int) := by
 simp only [IntKind.wrap, IntKind.signed, IntKind.bits]
 simp
 omega
theorem size_any (n : Int) (w : World) (h0 : -9223372036854775808 ≤ n) (h1 : n ≤ 9223372036854775807) :
 Calls Tryz.prog 89 #[.int .i64 n] w fun e w' => ∃ r zs, e = .returned r ∧ Res w.heap.size w' r zs (n.natAbs : Int) ∧ zs.length ≤ 2 ∧ Below w.heap.size w w' := by
 by_cases hn : n < 0
 · have hd : decide (n < 0) = true := decide_eq_true hn
   obtain ⟨a, ha⟩ : ∃ a, n.natAbs = a := ⟨_, rfl⟩
   have ha2 : n = -(a : Int) := by omega
   rw [ha]
   subst ha2
   have hc : IntKind.u64.wrap (wrap64 (a : Int)) = (a : Int) := wrap_abs a (by omega)
   have hc2 : IntKind.u64.wrap (IntKind.i64.wrap (a : Int)) = (a : Int) := wrap_abs' a (by omega)
   clear ha
   go_enter Tryz.func89, Tryz.ntmps89
   go_wp2_with fail
   refine (ofN_any (a : Int) _ (by omega) (by omega)).mono ?_
   rintro e w' ⟨r, z, rfl, q, nz, hb⟩
   go_wp2_with fail
   go_ret
   exact ⟨r, z, rfl, q, nz, hb⟩
 · have hd : decide (n < 0) = false := decide_eq_false hn
   obtain ⟨a, ha⟩ : ∃ a, n.natAbs = a := ⟨_, rfl⟩
   have ha2 : n = (a : Int) := by omega
   rw [ha]
   subst ha2
   have hc : IntKind.u64.wrap (a : Int) = (a : Int) := wrap_u64 (by omega) (by omega)
   clear ha
   go_enter Tryz.func89, Tryz.ntmps89
   go_wp2_with fail
   refine (ofN_any (a : Int) _ (by omega) (by omega)).mono ?_
   rintro e w' ⟨r, z, rfl, q, nz, hb⟩
   go_wp2_with fail
   go_ret
   exact ⟨r, z, rfl, q, nz, hb⟩
end
section
open Go.RowKit
def intQ (n : Int) : Rat := ratOf (decide (n < 0)) (n.natAbs : Int) 1
theorem intQ_parts (n : Int) : decide ((intQ n).num < 0) = decide (n < 0) ∧ ((intQ n).num.natAbs : Int) = (n.natAbs : Int) ∧ ((intQ n).den : Int) = 1 := by
 unfold intQ
 have hg : (Int.gcd (n.natAbs : Int) 1 : Int) = 1 := by simp
 refine ⟨ratOf_neg (by omega) (by omega) fun h => decide_eq_false (by omega), ?_, ?_⟩
 · rw [ratOf_abs (by omega) (by omega), hg, Int.ediv_one]
 · rw [ratOf_den (by omega), hg]; rfl
theorem intQ_zero : intQ 0 = 0 := by unfold intQ; exact ratOf_zero_left _ _
theorem int_any (n : Int) (w : World) (h0 : -9223372036854775808 ≤ n) (h1 : n ≤ 9223372036854775807) :
 Calls Tryz.prog 148 #[.int .i64 n] w fun e w' => ∃ r, e = .returned r ∧ ResQ w.heap.size w' r (intQ n) 2 ∧ Below w.heap.size w w' := by
 obtain ⟨p1, p2, p3⟩ := intQ_parts n
 obtain ⟨d, hd⟩ : ∃ d, decide (n < 0) = d := ⟨_, rfl⟩
 rw [hd] at p1
 have P1 := Lib.hid p1
 have P2 := Lib.hid p2
 have P3 := Lib.hid p3
 clear p1 p2 p3
 have R := Row.new w 54 #[.bool false, .slice none 0 0, .slice none 0 0]
 have hB := (Below.refl w.heap.size w).alloc (Nat.le_refl _) (.cells #[.bool false, .slice none 0 0, .slice none 0 0] 54)
 go_enter Tryz.func148, Tryz.ntmps148
 go_wp2_with fail
 refine (size_any n _ h0 h1).mono ?_
 rintro e w1 ⟨r1, z1, rfl, q1, n1, hb1⟩
 obtain ⟨ad1, c1, rfl, q1, A1⟩ := q1.slice
 replace R := R.later hb1
 have hs0 : w.heap.size + 1 ≤ w1.heap.size := by have := hb1.size; simpa using this
 replace hB := hB.trans (hb1.mono (by simp))
 go_wp2_with fail
 refine (ofN_any 1 _ (by omega) (by omega)).mono ?_
 rintro e w2 ⟨r2, z2, rfl, q2, n2, hb2⟩
 obtain ⟨ad2, c2, rfl, q2, A2⟩ := q2.slice
 replace R := R.later hb2
 replace hB := hB.trans (hb2.mono (by omega))
 replace q1 := q1.later hb2
 obtain ⟨c0, c1', c2', f0, f1, f2⟩ := R.three
 go_wp2_with fail
 refine bodyPost_ret (v := .agg #[.bool d, .slice ad1 z1.length c1, .slice ad2 z2.length c2]) (by simp [results, Tryz.results148, go_sem, c0, c1', c2']) rfl ⟨_, rfl, ?_, below_set3 hB (Nat.le_refl _) _ _ _⟩
 refine ⟨z1, z2, ad1, ad2, c1, c2, by rw [P1.out], ?_, ?_, n1, n2⟩
 · rw [P2.out]
   exact (q1.kept (kept3 _ _ _) (by simp)).mono (by simp)
 · rw [P3.out]
   exact (q2.kept (kept3 _ _ _) (by omega)).mono (by omega)
end
section
open Go.RowKit
def prodK (X Y : Int) : Nat → Int
 | 0 => 1
 | 1 => X
 | _ => X * Y
theorem product_any {xs ys : List Int} {ad bd : Option Addr} {ca cb g m : Nat} {w : World} (R : Row w g 52 #[.slice ad xs.length ca, .slice bd ys.length cb])
 (A : Arg w (.slice ad xs.length ca) xs ad ca) (B : Arg w (.slice bd ys.length cb) ys bd cb) (hx : xs.length ≤ m) (hy : ys.length ≤ m) (hm : m ≤ 1073741824) :
 Calls Tryz.prog 140 #[.slice (some ⟨g, 0, none⟩) 2 2] w fun e w' => ∃ r zs, e = .returned r ∧ Res w.heap.size w' r zs (val xs * val ys) ∧ zs.length ≤ 2 * m + 2 ∧ Below w.heap.size w w' := by
 go_enter Tryz.func140, Tryz.ntmps140
 go_wp2_with fail
 refine (ofN_any 1 _ (by omega) (by omega)).mono ?_
 rintro e w0 ⟨r0, z0, rfl, q0, n0, hb0⟩
 go_wp2_with fail
 go_loopw [3, 5, 9] (fun p _ i wr => ∃ (k : Nat) (q : Value) (us : List Int), q = p ∧ i = .int .i64 k ∧ k ≤ 2 ∧ Res w.heap.size wr q us (prodK (val xs) (val ys) k) ∧ us.length ≤ k * m + 2 ∧ Below w.heap.size w wr) (fun _ _ i _ => 2 - (intOf i).toNat)
 case atStart => exact ⟨0, _, z0, rfl, rfl, by omega, q0, by omega, hb0⟩
 case round =>
  obtain ⟨k, q, us, rfl, rfl, hk, hq, hl, hb⟩ := hrel
  have hsz := hb.size
  clear q0 n0 hb0
  have R' := R.below hb R.lt
  obtain ⟨c0, c1, _, _⟩ := R'.two
  have A' := A.later hb
  have B' := B.later hb
  obtain ⟨adq, cq, rfl, hq, AQ⟩ := hq.slice
  match k, hk, hl, hq with
  | 0, _, hl, hq =>
    have hl0 : us.length ≤ 2 := by omega
    go_wp2_with fail
    refine (mul_res AQ A' (by omega) (by omega)).mono ?_
    rintro e w2 ⟨r2, z2, rfl, q2, n2, hb2⟩
    have hv : val us * val xs = prodK (val xs) (val ys) 1 := by rw [hq.eq]; show 1 * val xs = val xs; omega
    have HV := Lib.hid hv
    clear hv
    go_wp2_with fail
    go_roundw
    case rel => exact ⟨1, r2, z2, rfl, rfl, by omega, ⟨q2.num.mono hsz, q2.wf, q2.full, q2.eq.trans HV.out⟩, by omega, hb.trans (hb2.mono hsz)⟩
    case measure => simp [intOf]
  | 1, _, hl, hq =>
    go_wp2_with fail
    refine (mul_res AQ B' (by omega) (by omega)).mono ?_
    rintro e w2 ⟨r2, z2, rfl, q2, n2, hb2⟩
    have hv : val us * val ys = prodK (val xs) (val ys) 2 := by rw [hq.eq]; rfl
    have HV := Lib.hid hv
    clear hv
    go_wp2_with fail
    go_roundw
    case rel => exact ⟨2, r2, z2, rfl, rfl, by omega, ⟨q2.num.mono hsz, q2.wf, q2.full, q2.eq.trans HV.out⟩, by omega, hb.trans (hb2.mono hsz)⟩
    case measure => simp [intOf]
  | 2, _, hl, hq =>
    go_wp2_with fail
    go_ret
    exact ⟨_, us, rfl, hq, by omega, hb⟩
theorem over_any {m n2 n3 c1 c2 c3 c4 : Nat} {w : World} {neg neg' : Bool} {xs ys : List Int} {a1 a2 a3 a4 : Option Addr}
 (A : Arg w (.slice a1 xs.length c1) xs a1 c1) (B : Arg w (.slice a4 ys.length c4) ys a4 c4) (hx : xs.length ≤ m) (hy : ys.length ≤ m) (hm : m ≤ 1073741824) :
 Calls Tryz.prog 120 #[.agg #[.bool neg, .slice a1 xs.length c1, .slice a2 n2 c2], .agg #[.bool neg', .slice a3 n3 c3, .slice a4 ys.length c4]] w fun e w' =>
  ∃ r, e = .returned r ∧ SgnQ w' r (sgn neg (val xs * val ys)) (2 * m + 2) ∧ Below w.heap.size w w' := by
 obtain ⟨W, hW⟩ : ∃ W, (((w.alloc (.cells #[.bool neg, .slice a1 xs.length c1, .slice a2 n2 c2] 54)).alloc (.cells #[.bool neg', .slice a3 n3 c3, .slice a4 ys.length c4] 54)).alloc (.cells #[.bool false, .slice none 0 0] 157)) = W := ⟨_, rfl⟩
 have R0 : Row W (w.heap.size) 54 #[.bool neg, .slice a1 xs.length c1, .slice a2 n2 c2] := by rw [← hW]; exact (((Row.new _ _ _).alloc _).alloc _)
 have R1 : Row W (w.heap.size + 1) 54 #[.bool neg', .slice a3 n3 c3, .slice a4 ys.length c4] := by rw [← hW]; have h := (Row.new (w.alloc (.cells #[.bool neg, .slice a1 xs.length c1, .slice a2 n2 c2] 54)) 54 #[.bool neg', .slice a3 n3 c3, .slice a4 ys.length c4]); simp only [World.size_alloc] at h; exact (h.alloc _)
 have R2 : Row W (w.heap.size + 1 + 1) 157 #[.bool false, .slice none 0 0] := by rw [← hW]; have h := (Row.new ((w.alloc (.cells #[.bool neg, .slice a1 xs.length c1, .slice a2 n2 c2] 54)).alloc (.cells #[.bool neg', .slice a3 n3 c3, .slice a4 ys.length c4] 54)) 157 #[.bool false, .slice none 0 0]); simp only [World.size_alloc] at h; exact h
 have hBW : Below w.heap.size w W := by rw [← hW]; exact ((((Below.refl _ _).alloc (by (try simp) <;> omega) _).alloc (by (try simp) <;> omega) _).alloc (by (try simp) <;> omega) _)
 have hsW : w.heap.size + 1 + 1 + 1 ≤ W.heap.size := by rw [← hW]; simp
 have mkS : ∀ X, Below (w.heap.size + 1 + 1) W X → X.cell? ⟨w.heap.size, 0, none⟩ = some (.bool neg) ∧ X.cell? ⟨w.heap.size, 1, none⟩ = some (.slice a1 xs.length c1) ∧ X.cell? ⟨w.heap.size + 1, 2, none⟩ = some (.slice a4 ys.length c4) ∧ Below w.heap.size w X ∧ Below (w.heap.size + 1 + 1) W X := fun X h => ⟨(R0.below h (by omega)).cell 0, (R0.below h (by omega)).cell 1, (R1.below h (by omega)).cell 2, hBW.trans (h.mono (by omega)), h⟩
 go_enter Tryz.func120, Tryz.ntmps120
 go_wp2_with fail
 clear hW
 go_region_held3 (fun X => X.cell? ⟨w.heap.size, 0, none⟩ = some (.bool neg) ∧ X.cell? ⟨w.heap.size, 1, none⟩ = some (.slice a1 xs.length c1) ∧ X.cell? ⟨w.heap.size + 1, 2, none⟩ = some (.slice a4 ys.length c4) ∧ Below w.heap.size w X ∧ Below (w.heap.size + 1 + 1) W X)
  (((refine mkS _ ?_; (repeat' (first | exact Below.refl _ _ | refine Below.drew ?_ | refine Below.alloc ?_ (by (try simp) <;> omega) _ | refine below_set3 ?_ (by (try simp) <;> omega) _ _ _ | refine below_set2 ?_ (by (try simp) <;> omega) _ _ | refine Below.setCell ?_ (by (try simp) <;> omega) _ | refine Below.trans ?_ (Below.mono (by assumption) (by (try simp) <;> omega)))))))
  ((go_at_call 140; refine (product_any (by first | exact Row.new _ _ _ | exact (Row.new _ _ _).drew) (A.later (by (repeat' (first | exact Below.refl _ _ | exact hBW | refine Below.drew ?_ | refine Below.alloc ?_ (by (try simp) <;> omega) _ | refine below_set3 ?_ (by (try simp) <;> omega) _ _ _ | refine below_set2 ?_ (by (try simp) <;> omega) _ _ | refine Below.setCell ?_ (by (try simp) <;> omega) _ | refine Below.trans ?_ (Below.mono (by assumption) (by (try simp) <;> omega)))))) (B.later (by (repeat' (first | exact Below.refl _ _ | exact hBW | refine Below.drew ?_ | refine Below.alloc ?_ (by (try simp) <;> omega) _ | refine below_set3 ?_ (by (try simp) <;> omega) _ _ _ | refine below_set2 ?_ (by (try simp) <;> omega) _ _ | refine Below.setCell ?_ (by (try simp) <;> omega) _ | refine Below.trans ?_ (Below.mono (by assumption) (by (try simp) <;> omega)))))) hx hy hm).mono ?_; rintro e w2 ⟨r2, z2, rfl, q2, l2, hb2⟩; have hs2 := hb2.size; simp at hs2; obtain ⟨ad2, cp2, rfl, q2, A2⟩ := q2.slice; have R2' := R2.later (show Below W.heap.size W w2 by (repeat' (first | exact Below.refl _ _ | refine Below.drew ?_ | refine Below.alloc ?_ (by (try simp) <;> omega) _ | refine below_set3 ?_ (by (try simp) <;> omega) _ _ _ | refine below_set2 ?_ (by (try simp) <;> omega) _ _ | refine Below.setCell ?_ (by (try simp) <;> omega) _ | refine Below.trans ?_ (Below.mono (by assumption) (by (try simp) <;> omega))))); obtain ⟨u0, u1, g0, g1⟩ := R2'.two))
 go_wp2_with fail
 refine bodyPost_ret (v := .agg #[.bool neg, .slice ad2 z2.length cp2]) (by simp [results, Tryz.results120, go_sem, u0, u1]) rfl ⟨_, rfl, ?_, ?_⟩
 · exact ⟨neg, z2, ad2, cp2, rfl, (q2.kept (kept2 _ _) (by simp; omega)).at_.2, by rw [q2.eq], l2⟩
 · (repeat' (first | exact Below.refl _ _ | exact hBW | refine Below.drew ?_ | refine Below.alloc ?_ (by (try simp) <;> omega) _ | refine below_set3 ?_ (by (try simp) <;> omega) _ _ _ | refine below_set2 ?_ (by (try simp) <;> omega) _ _ | refine Below.setCell ?_ (by (try simp) <;> omega) _ | refine Below.trans ?_ (Below.mono (by assumption) (by (try simp) <;> omega))))
end
section
open Go.RowKit
theorem sgn_add (p : Bool) (X Y : Int) : sgn p (X + Y) = sgn p X + sgn p Y := by cases p <;> simp [sgn] <;> omega
theorem sgn_sub {p q : Bool} (h : p ≠ q) (X Y : Int) : sgn p (X - Y) = sgn p X + sgn q Y := by cases p <;> cases q <;> simp_all [sgn] <;> omega
theorem cmp_geN {u v : Value} {xs ys : List Int} {a b : Option Addr} {capa capb : Nat} {w : World} (h1 : Arg w u xs a capa) (h2 : Arg w v ys b capb) (hx : xs.length ≤ 35184372088832) (hy : ys.length ≤ 35184372088832) (h : val ys ≤ val xs) :
 Calls Tryz.prog 150 #[u, v] w fun e w' => ∃ r : Int, e = .returned (.int .i64 r) ∧ decide (r < 0) = false ∧ Below w.heap.size w w' := by
 refine (cmp_res h1 h2 hx hy).mono fun e w' ⟨he, hb⟩ => ⟨_, he, decide_eq_false ?_, hb⟩
 unfold sign
 rw [if_neg (by omega)]
 split <;> omega
theorem plus_any {n : Nat} {w : World} {u v : Value} {X Y : Int} (hu : SgnQ w u X n) (hv : SgnQ w v Y n) (hn : n ≤ 2147483648) :
 Calls Tryz.prog 121 #[u, v] w fun e w' => ∃ r, e = .returned r ∧ SgnQ w' r (X + Y) (n + 1) ∧ Below w.heap.size w w' := by
 obtain ⟨p, xs, a1, c1, rfl, A, hX, hx⟩ := hu
 obtain ⟨q, ys, a2, c2, rfl, B, hY, hy⟩ := hv
 obtain ⟨W, hW⟩ : ∃ W, (((w.alloc (.cells #[.bool p, .slice a1 xs.length c1] 157)).alloc (.cells #[.bool q, .slice a2 ys.length c2] 157)).alloc (.cells #[.bool false, .slice none 0 0] 157)) = W := ⟨_, rfl⟩
 have R0 : Row W (w.heap.size) 157 #[.bool p, .slice a1 xs.length c1] := by rw [← hW]; exact (((Row.new _ _ _).alloc _).alloc _)
 have R1 : Row W (w.heap.size + 1) 157 #[.bool q, .slice a2 ys.length c2] := by rw [← hW]; have h := (Row.new (w.alloc (.cells #[.bool p, .slice a1 xs.length c1] 157)) 157 #[.bool q, .slice a2 ys.length c2]); simp only [World.size_alloc] at h; exact (h.alloc _)
 have R2 : Row W (w.heap.size + 1 + 1) 157 #[.bool false, .slice none 0 0] := by rw [← hW]; have h := (Row.new ((w.alloc (.cells #[.bool p, .slice a1 xs.length c1] 157)).alloc (.cells #[.bool q, .slice a2 ys.length c2] 157)) 157 #[.bool false, .slice none 0 0]); simp only [World.size_alloc] at h; exact h
 have hBW : Below w.heap.size w W := by rw [← hW]; exact ((((Below.refl _ _).alloc (by (try simp) <;> omega) _).alloc (by (try simp) <;> omega) _).alloc (by (try simp) <;> omega) _)
 have hsW : w.heap.size + 1 + 1 + 1 ≤ W.heap.size := by rw [← hW]; simp
 by_cases hpq : p = q
 · subst hpq
   have hfin : sgn p (val xs + val ys) = X + Y := by rw [sgn_add, hX, hY]
   have HF := Lib.hid hfin
   clear hX hY hfin
   have mkS : ∀ X, Below (w.heap.size + 1 + 1) W X → X.cell? ⟨w.heap.size, 0, none⟩ = some (.bool p) ∧ X.cell? ⟨w.heap.size, 1, none⟩ = some (.slice a1 xs.length c1) ∧ X.cell? ⟨w.heap.size + 1, 1, none⟩ = some (.slice a2 ys.length c2) ∧ Below w.heap.size w X ∧ Below (w.heap.size + 1 + 1) W X := fun X h => ⟨(R0.below h (by omega)).cell 0, (R0.below h (by omega)).cell 1, (R1.below h (by omega)).cell 1, hBW.trans (h.mono (by omega)), h⟩
   obtain ⟨e0, e1, _, _⟩ := R0.two
   obtain ⟨o0, o1, _, _⟩ := R1.two
   have hbb : (p == p) = true := by simp
   go_enter Tryz.func121, Tryz.ntmps121
   go_wp2_with fail
   clear hW e0 e1 o0 o1
   go_region_held3 (fun X => X.cell? ⟨w.heap.size, 0, none⟩ = some (.bool p) ∧ X.cell? ⟨w.heap.size, 1, none⟩ = some (.slice a1 xs.length c1) ∧ X.cell? ⟨w.heap.size + 1, 1, none⟩ = some (.slice a2 ys.length c2) ∧ Below w.heap.size w X ∧ Below (w.heap.size + 1 + 1) W X)
    (((refine mkS _ ?_; (repeat' (first | exact Below.refl _ _ | refine Below.drew ?_ | refine Below.alloc ?_ (by (try simp) <;> omega) _ | refine below_set3 ?_ (by (try simp) <;> omega) _ _ _ | refine below_set2 ?_ (by (try simp) <;> omega) _ _ | refine Below.setCell ?_ (by (try simp) <;> omega) _ | refine Below.trans ?_ (Below.mono (by assumption) (by (try simp) <;> omega)))))))
    ((go_at_call 149; refine (add_res (A.later (by (repeat' (first | exact Below.refl _ _ | exact hBW | refine Below.drew ?_ | refine Below.alloc ?_ (by (try simp) <;> omega) _ | refine below_set3 ?_ (by (try simp) <;> omega) _ _ _ | refine below_set2 ?_ (by (try simp) <;> omega) _ _ | refine Below.setCell ?_ (by (try simp) <;> omega) _ | refine Below.trans ?_ (Below.mono (by assumption) (by (try simp) <;> omega)))))) (B.later (by (repeat' (first | exact Below.refl _ _ | exact hBW | refine Below.drew ?_ | refine Below.alloc ?_ (by (try simp) <;> omega) _ | refine below_set3 ?_ (by (try simp) <;> omega) _ _ _ | refine below_set2 ?_ (by (try simp) <;> omega) _ _ | refine Below.setCell ?_ (by (try simp) <;> omega) _ | refine Below.trans ?_ (Below.mono (by assumption) (by (try simp) <;> omega)))))) (by omega) (by omega)).mono ?_; rintro e w2 ⟨r2, z2, rfl, q2, l2, hb2⟩; have hs2 := hb2.size; simp at hs2; obtain ⟨ad2, cp2, rfl, q2, A2⟩ := q2.slice; have R2' := R2.later (show Below W.heap.size W w2 by (repeat' (first | exact Below.refl _ _ | refine Below.drew ?_ | refine Below.alloc ?_ (by (try simp) <;> omega) _ | refine below_set3 ?_ (by (try simp) <;> omega) _ _ _ | refine below_set2 ?_ (by (try simp) <;> omega) _ _ | refine Below.setCell ?_ (by (try simp) <;> omega) _ | refine Below.trans ?_ (Below.mono (by assumption) (by (try simp) <;> omega))))); obtain ⟨u0, u1, g0, g1⟩ := R2'.two))
   go_wp2_with fail
   refine bodyPost_ret (v := .agg #[.bool p, .slice ad2 z2.length cp2]) (by simp [results, Tryz.results121, go_sem, u0, u1]) rfl ⟨_, rfl, ?_, ?_⟩
   · exact ⟨p, z2, ad2, cp2, rfl, (q2.kept (kept2 _ _) (by simp; omega)).at_.2, by rw [q2.eq, HF.out], by omega⟩
   · (repeat' (first | exact Below.refl _ _ | exact hBW | refine Below.drew ?_ | refine Below.alloc ?_ (by (try simp) <;> omega) _ | refine below_set3 ?_ (by (try simp) <;> omega) _ _ _ | refine below_set2 ?_ (by (try simp) <;> omega) _ _ | refine Below.setCell ?_ (by (try simp) <;> omega) _ | refine Below.trans ?_ (Below.mono (by assumption) (by (try simp) <;> omega))))
 · have hbb : (p == q) = false := by simpa using hpq
   have A' := A.later hBW
   have B' := B.later hBW
   obtain ⟨e0, e1, h0, h1⟩ := R0.two
   obtain ⟨o0, o1, i0, i1⟩ := R1.two
   by_cases hlt : val xs < val ys
   · have hfin : sgn q (val ys - val xs) = X + Y := by rw [sgn_sub (fun h => hpq h.symm), hX, hY, Int.add_comm]
     have HF := Lib.hid hfin
     clear hX hY hfin
     go_enter Tryz.func121, Tryz.ntmps121
     go_wp2_with fail
     refine (cmp_lt A' B' (by omega) (by omega) hlt).mono ?_
     rintro e w1 ⟨rfl, hb1⟩
     have hs1 := hb1.size
     have R0' := R0.later hb1
     have R1' := R1.later hb1
     have R2' := R2.later hb1
     have A1 := A'.later hb1
     have B1 := B'.later hb1
     clear e0 e1 h0 h1 o0 o1 i0 i1 hW R0 R1 R2 A' B'
     have hBW1 := hBW.trans (hb1.mono (by omega))
     obtain ⟨e0, e1, h0, h1⟩ := R0'.two
     obtain ⟨o0, o1, i0, i1⟩ := R1'.two
     obtain ⟨V, hV⟩ : ∃ V, (((w1.setCell ⟨w.heap.size, 0, none⟩ (.bool q)).setCell ⟨w.heap.size, 1, none⟩ (.slice a2 ys.length c2)).setCell ⟨w.heap.size + 1, 0, none⟩ (.bool p)).setCell ⟨w.heap.size + 1, 1, none⟩ (.slice a1 xs.length c1) = V := ⟨_, rfl⟩
     have hBV : Below w.heap.size w V := by rw [← hV]; exact below_set2 (below_set2 hBW1 (by omega) _ _) (by omega) _ _
     have hsV : V.heap.size = w1.heap.size := by rw [← hV]; simp
     have Q0 : Row V (w.heap.size) 157 #[.bool q, .slice a2 ys.length c2] := by rw [← hV]; exact ((R0'.set2 _ _).far (by simp <;> omega) _).far (by simp <;> omega) _
     have Q1 : Row V (w.heap.size + 1) 157 #[.bool p, .slice a1 xs.length c1] := by rw [← hV]; exact ((R1'.far (by simp <;> omega) _).far (by simp <;> omega) _).set2 _ _
     have Q2 : Row V (w.heap.size + 1 + 1) 157 #[.bool false, .slice none 0 0] := by rw [← hV]; exact (((R2'.far (by simp <;> omega) _).far (by simp <;> omega) _).far (by simp <;> omega) _).far (by simp <;> omega) _
     have AV := A.later hBV
     have BV := B.later hBV
     obtain ⟨j0, j1, _, _⟩ := Q0.two
     obtain ⟨k0, k1, _, _⟩ := Q1.two
     go_wp2_with fail
     refine (sub_res BV AV (by omega) (by omega) (by omega)).mono ?_
     rintro e w2 ⟨r2, z2, rfl, q2, l2, hb2⟩
     obtain ⟨ad2, cp2, rfl, q2, A2⟩ := q2.slice
     have hs2 := hb2.size
     clear e0 e1 h0 h1 o0 o1 i0 i1 j0 j1 k0 k1 hV
     obtain ⟨j0, j1, _, _⟩ := (Q0.later hb2).two
     obtain ⟨u0, u1, g0, g1⟩ := (Q2.later hb2).two
     go_wp2_with fail
     refine bodyPost_ret (v := .agg #[.bool q, .slice ad2 z2.length cp2]) (by simp [results, Tryz.results121, go_sem, u0, u1]) rfl ⟨_, rfl, ?_, ?_⟩
     · exact ⟨q, z2, ad2, cp2, rfl, (q2.kept (kept2 _ _) (by omega)).at_.2, by rw [q2.eq, HF.out], by omega⟩
     · exact below_set2 (hBV.trans (hb2.mono (by omega))) (by omega) _ _
   · have hfin : sgn p (val xs - val ys) = X + Y := by rw [sgn_sub hpq, hX, hY]
     have HF := Lib.hid hfin
     clear hX hY hfin
     go_enter Tryz.func121, Tryz.ntmps121
     go_wp2_with fail
     refine (cmp_geN A' B' (by omega) (by omega) (by omega)).mono ?_
     rintro e w1 ⟨r1, rfl, hr1, hb1⟩
     have hs1 := hb1.size
     have R0' := R0.later hb1
     have R1' := R1.later hb1
     have R2' := R2.later hb1
     have A1 := A'.later hb1
     have B1 := B'.later hb1
     clear e0 e1 h0 h1 o0 o1 i0 i1 hW R0 R1 R2 A' B'
     have hBW1 := hBW.trans (hb1.mono (by omega))
     obtain ⟨e0, e1, h0, h1⟩ := R0'.two
     obtain ⟨o0, o1, i0, i1⟩ := R1'.two
     go_wp2_with fail
     refine (sub_res A1 B1 (by omega) (by omega) (by omega)).mono ?_
     rintro e w2 ⟨r2, z2, rfl, q2, l2, hb2⟩
     obtain ⟨ad2, cp2, rfl, q2, A2⟩ := q2.slice
     have hs2 := hb2.size
     clear e0 e1 h0 h1 o0 o1 i0 i1
     obtain ⟨j0, j1, _, _⟩ := (R0'.later hb2).two
     obtain ⟨u0, u1, g0, g1⟩ := (R2'.later hb2).two
     go_wp2_with fail
     refine bodyPost_ret (v := .agg #[.bool p, .slice ad2 z2.length cp2]) (by simp [results, Tryz.results121, go_sem, u0, u1]) rfl ⟨_, rfl, ?_, ?_⟩
     · exact ⟨p, z2, ad2, cp2, rfl, (q2.kept (kept2 _ _) (by omega)).at_.2, by rw [q2.eq, HF.out], by omega⟩
     · exact below_set2 (hBW1.trans (hb2.mono (by omega))) (by omega) _ _
end
section
open Go.RowKit Go.ChangeShapes Go.WideShapes Go.ChangeAt Go.Joins Go.Deep
theorem afterSet2 {K : World → Prop} {V : World} {g : Nat} {t : TypeId} {a b x y : Value} (R : Row V g t #[a, b]) (h : ∀ X, Only g V X → Row X g t #[x, y] → K X) :
 K ((V.setCell ⟨g, 0, none⟩ x).setCell ⟨g, 1, none⟩ y) :=
 h _ ((Only.set V g 0 x).trans (Only.set _ g 1 y)) (R.set2 x y)
end
end Go.Proofs.YtengpgodmbfmkaaGreat
