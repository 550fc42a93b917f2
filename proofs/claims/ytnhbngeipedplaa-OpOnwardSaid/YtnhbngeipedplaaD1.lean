/-
  Part 1 of 11: contracts and what they rest on (Todo, Open, RArg, SMem, SMath, SRefB, SRefC, SPart, SRefF, SDef, SFacts, SCode1, SCode4, SCode5, OMath, OCode1).
-/
import Derived.WalkKit
import Derived.Test.YtnhbngeipedplaaRows
import Derived.OrdersHeld
import Derived.Deep.RegionHeld
import Derived.BigQuiet
import Derived.Deep.QuietTactic
import Derived.Lib.Hide
import Derived.Lib.Small
import Derived.Lib.Walk
import Derived.Lib.BitFns
import Derived.Maps.AppendAt
import Derived.RangeFuncNested
import Derived.RangeFuncBound
import Derived.RangeFuncCalls
import Derived.RangeFuncLeaves
import Derived.Shelf.Abstract
import Derived.OwnWalkIn
import Derived.TacticsInMore
import Derived.LoopNIn
import Derived.LoopIn
import Derived.RangeFuncBox
import Derived.Deep.RegionHeld3
import Derived.OrdersIn
import Derived.StillTailTactics
import Derived.RangeFuncFrom
import Derived.Laws.EntriesVeiled
import Derived.ProofKit
import Derived.OpenShut
import Derived.JoinedCond
import Derived.Carry
import Derived.Laws.AppendOwnNone
import Derived.Lib.ItoaNum
import Derived.Deep.RegionLaw
import Derived.WalkMore
import Derived.Lib.SmallJoins
import Derived.IntWalk
import Derived.Deep.DeepCutAuto
import Derived.Laws.OwnMore
import Derived.ArgAppend
import Derived.Deep.Slices
import Derived.Laws.CopyOwn
import Derived.Lib.SliceRun
import Derived.SizedLaws
namespace Go.Proofs.Ytnhbngeipedplaa
set_option maxRecDepth 100000
section
variable {P : Program} {ops : Array Oper} {Q : Exit → Act → World → Prop} {md : Region.Mode} {S : World → Prop}
set_option linter.unusedVariables false
/-- these operations are taken next -/
def Todo (_ : List Nat) (G : Prop) : Prop := G
theorem todo {G : Prop} (is : List Nat) (h : Todo is G) : G := h
theorem todone {G : Prop} (h : G) : Todo [] G := h
theorem todoH {i : Nat} {is : List Nat} {oi : Oper} {v : Value} {fuel : Nat} {listed : Array Bool} {a : Act} {w : World} (hi : ops[i]? = some oi)
    (hk : (Region.noSelect ops && Region.free md ops listed i && (Region.ready md ops listed).contains i) = true)
    (hQ : ∀ c a w, Q (.panic c) (a.put oi.dst v) w → Q (.panic c) a w) (hS : S w) (hy : YieldsIf P ops S oi v a)
    (h : Todo is (wpAnyH P md ops Q S fuel (listed.setIfInBounds i true) (a.put oi.dst v) w)) : Todo (i :: is) (wpAnyH P md ops Q S (fuel + 1) listed a w) := by
  simp only [Bool.and_eq_true] at hk
  exact wpAnyH_take hi hk.1.1 hk.1.2 hk.2 hQ hy hS h
end
section
open Go.RowKit Go.ChangeShapes Go.WideShapes Go.ChangeAt
theorem own : ownKnob Try.prog.godebug = none := by kernel_rfl
end
section
open Go.RowKit
set_option linter.unusedVariables false
set_option linter.unusedSimpArgs false
/-- block g holds just the cells cs, of type t -/
def Row (w : World) (g : Nat) (t : TypeId) (cs : Array Value) : Prop := w.heap[g]? = some (.cells cs t (0, 0))
theorem Row.new (w : World) (t : TypeId) (cs : Array Value) : Row (w.alloc (.cells cs t)) w.heap.size t cs := heap_alloc_new w _
theorem Row.lt {w : World} {g : Nat} {t : TypeId} {cs : Array Value} (h : Row w g t cs) : g < w.heap.size := lt_of_block h
theorem Row.cell {w : World} {g : Nat} {t : TypeId} {cs : Array Value} (h : Row w g t cs) (i : Nat) : w.cell? ⟨g, i, none⟩ = cs[i]? := cell_of_row w g i cs t (0, 0) h
theorem Row.free {w : World} {g : Nat} {t : TypeId} {cs : Array Value} (h : Row w g t cs) (i : Nat) : w.frozen? ⟨g, i, none⟩ = false := frozen_of_row w g i cs t h
theorem Row.alloc {w : World} {g : Nat} {t : TypeId} {cs : Array Value} (h : Row w g t cs) (o : Obj) : Row (w.alloc o) g t cs := (Below.heap_alloc _ _ _ h.lt).trans h
theorem Row.below {w w' : World} {g B : Nat} {t : TypeId} {cs : Array Value} (h : Row w g t cs) (hb : Below B w w') (hg : g < B) : Row w' g t cs := (hb.block g hg).trans h
theorem Row.later {w w' : World} {g : Nat} {t : TypeId} {cs : Array Value} (h : Row w g t cs) (hb : Below w.heap.size w w') : Row w' g t cs := h.below hb h.lt
theorem Row.set {w : World} {g : Nat} {t : TypeId} {cs : Array Value} (h : Row w g t cs) (i : Nat) (u : Value) : Row (w.setCell ⟨g, i, none⟩ u) g t (cs.setIfInBounds i u) := heap_setCell_same w g i cs t u h
theorem Row.two {w : World} {g : Nat} {t : TypeId} {a b : Value} (h : Row w g t #[a, b]) :
    w.cell? ⟨g, 0, none⟩ = some a ∧ w.cell? ⟨g, 1, none⟩ = some b ∧ w.frozen? ⟨g, 0, none⟩ = false ∧ w.frozen? ⟨g, 1, none⟩ = false := ⟨h.cell 0, h.cell 1, h.free 0, h.free 1⟩
theorem Row.three {w : World} {g : Nat} {t : TypeId} {a b c : Value} (h : Row w g t #[a, b, c]) :
    w.cell? ⟨g, 0, none⟩ = some a ∧ w.cell? ⟨g, 1, none⟩ = some b ∧ w.cell? ⟨g, 2, none⟩ = some c ∧ w.frozen? ⟨g, 0, none⟩ = false ∧ w.frozen? ⟨g, 1, none⟩ = false ∧ w.frozen? ⟨g, 2, none⟩ = false :=
  ⟨h.cell 0, h.cell 1, h.cell 2, h.free 0, h.free 1, h.free 2⟩
theorem Row.set2 {w : World} {g : Nat} {t : TypeId} {a b : Value} (h : Row w g t #[a, b]) (x y : Value) : Row ((w.setCell ⟨g, 0, none⟩ x).setCell ⟨g, 1, none⟩ y) g t #[x, y] := (h.set 0 x).set 1 y
theorem below_set2 {B g : Nat} {w w' : World} (h : Below B w w') (hg : B ≤ g) (x y : Value) : Below B w ((w'.setCell ⟨g, 0, none⟩ x).setCell ⟨g, 1, none⟩ y) := (h.setCell hg x).setCell hg y
end
section
open Go.RowKit
set_option linter.unusedVariables false
set_option linter.unusedSimpArgs false
/-- the numbers xs lie from the address ad on -/
def LimS (w : World) (ad : Option Addr) (xs : List Int) : Prop :=
  xs = [] ∨ ∃ b off, ad = some ⟨b, off, none⟩ ∧ ∀ i, i < xs.length → w.cell? ⟨b, off + i, none⟩ = some (.int .i64 (xs.getD i 0))
theorem LimS.later {w w' : World} {ad : Option Addr} {xs : List Int} (h : LimS w ad xs) (hb : Below w.heap.size w w') : LimS w' ad xs := by
  rcases h with rfl | ⟨b, off, rfl, hc⟩
  · exact .inl rfl
  · refine .inr ⟨b, off, rfl, fun i hi => ?_⟩
    have hlt := World.block_lt_of_cell? w _ (hc i hi)
    exact (hb.cell (p := ⟨b, off + i, none⟩) hlt).trans (hc i hi)
/-- v is a slice of the call's own numbers xs -/
def NumS (base : Nat) (w : World) (v : Value) (xs : List Int) : Prop := w.ownsRow base 3 1 v xs.length (xs.map (Value.int .i64))
theorem NumS.read {base : Nat} {w : World} {v : Value} {xs : List Int} (h : NumS base w v xs) : ∃ ad cap, v = .slice ad xs.length cap ∧ LimS w ad xs ∧ xs.length ≤ cap ∧ cap ≤ maxLen ∧ (∀ a, ad = some a → base ≤ a.block ∧ a.block < w.heap.size) := by
  obtain ⟨h1, h2⟩ := h
  rcases h2 with ⟨rfl, hn⟩ | ⟨g, cap, cur, rfl, hb, hg, hc, hm, hs, ht⟩
  · obtain rfl := List.eq_nil_of_length_eq_zero hn
    exact ⟨none, 0, rfl, .inl rfl, Nat.le_refl _, by unfold maxLen; omega, fun a ha => by cases ha⟩
  · refine ⟨_, cap, rfl, .inr ⟨g, 0, rfl, fun i hi => ?_⟩, hc, hm, fun a ha => by cases ha; exact ⟨hb, lt_of_block hg⟩⟩
    have hj := World.ownsRow.cellAt (w := w) (base := base) (e := 3) (size := 1) (g := g) (n := xs.length) (cap := cap) (xs := xs.map (Value.int .i64)) ⟨h1, .inr ⟨g, cap, cur, rfl, hb, hg, hc, hm, hs, ht⟩⟩ i (by omega)
    rw [Nat.zero_add, hj]
    simp [hi]
theorem NumS.lt {base : Nat} {w : World} {v : Value} {xs : List Int} (h : NumS base w v xs) : ∀ k, v.ownBlock = some k → base ≤ k ∧ k < w.heap.size := World.ownsRow.lt h
theorem NumS.kept {base B : Nat} {w w' : World} {v : Value} {xs : List Int} (h : NumS base w v xs) (hb : Below B w w') (hB : ∀ k, v.ownBlock = some k → k < B) : NumS base w' v xs := by
  obtain ⟨h1, h2⟩ := h
  refine ⟨h1, ?_⟩
  rcases h2 with h2 | ⟨g, cap, cur, rfl, hg0, hg, hc, hm, hs, ht⟩
  · exact .inl h2
  · exact .inr ⟨g, cap, cur, rfl, hg0, (hb.block g (hB g rfl)).trans hg, hc, hm, hs, ht⟩
theorem NumS.later {base : Nat} {w w' : World} {v : Value} {xs : List Int} (h : NumS base w v xs) (hb : Below w.heap.size w w') : NumS base w' v xs := h.kept hb fun k hk => (h.lt k hk).2
theorem NumS.mono {base base' : Nat} {w : World} {v : Value} {xs : List Int} (h : NumS base w v xs) (hb : base' ≤ base) : NumS base' w v xs := by
  obtain ⟨h1, h2⟩ := h
  refine ⟨h1, ?_⟩
  rcases h2 with h2 | ⟨g, cap, cur, rfl, hg0, hg, hc, hm, hs, ht⟩
  · exact .inl h2
  · exact .inr ⟨g, cap, cur, rfl, Nat.le_trans hb hg0, hg, hc, hm, hs, ht⟩
/-- a block of numbers, known whole -/
def BlkS (w : World) (g : Nat) (zs : List Int) : Prop := w.heap[g]? = some (.cells (zs.map (Value.int .i64)).toArray 3 (0, 0))
theorem BlkS.made (w : World) (n : Nat) : BlkS (w.alloc (.cells (madeCells #[.int .i64 0] n) 3)) w.heap.size (List.replicate n 0) := by
  have h := heap_alloc_new w (.cells (madeCells #[.int .i64 0] n) 3)
  unfold BlkS
  rw [h]
  congr 2
  apply Array.ext
  · simp [madeCells]
  · intro i h1 h2
    simp [madeCells, Nat.mod_one]
/-- all are of 64 bits -/
def Wid (xs : List Int) : Prop := ∀ x ∈ xs, -9223372036854775808 ≤ x ∧ x ≤ 9223372036854775807
theorem Wid.nil : Wid [] := fun _ h => by cases h
theorem Wid.one {x : Int} (h : -9223372036854775808 ≤ x ∧ x ≤ 9223372036854775807) : Wid [x] := fun y hy => by rw [List.mem_singleton.1 hy]; exact h
/-- an argument: numbers -/
structure ArgS (w : World) (u : Value) (xs : List Int) (ad : Option Addr) (cap : Nat) : Prop where
  is : u = .slice ad xs.length cap
  lim : LimS w ad xs
  le : xs.length ≤ cap
  wf : Wid xs
theorem ArgS.later {w w' : World} {u : Value} {xs : List Int} {ad : Option Addr} {cap : Nat} (h : ArgS w u xs ad cap) (hb : Below w.heap.size w w') : ArgS w' u xs ad cap := ⟨h.is, h.lim.later hb, h.le, h.wf⟩
/-- a result: numbers in new memory -/
structure ResS (base : Nat) (w : World) (u : Value) (xs : List Int) : Prop where
  num : NumS base w u xs
  wf : Wid xs
theorem ResS.later {base : Nat} {w w' : World} {u : Value} {xs : List Int} (h : ResS base w u xs) (hb : Below w.heap.size w w') : ResS base w' u xs := ⟨h.num.later hb, h.wf⟩
theorem infoS : (Try.prog.info? 3).map (fun i => (i.zero, i.size, i.bytes)) = some (some (.int .i64 0), 1, 8) := by kernel_rfl
theorem ArgS.at {w : World} {u : Value} {xs : List Int} {ad : Option Addr} {cap : Nat} (h : ArgS w u xs ad cap) {i : Nat} (hi : i < xs.length) :
    ∃ b off, ad = some ⟨b, off, none⟩ ∧ w.cell? ⟨b, off + i, none⟩ = some (.int .i64 (xs.getD i 0)) := by
  rcases h.lim with rfl | ⟨b, off, e, hc⟩
  · simp at hi
  · exact ⟨b, off, e, hc i hi⟩
theorem ResS.nil (base : Nat) (w : World) : ResS base w (.slice none 0 0) [] := ⟨⟨rfl, .inl ⟨rfl, rfl⟩⟩, Wid.nil⟩
theorem nil_argS (w : World) : ArgS w (.slice none 0 0) [] none 0 := ⟨rfl, .inl rfl, Nat.le_refl _, Wid.nil⟩
theorem ResS.mono {base base' : Nat} {w : World} {u : Value} {xs : List Int} (h : ResS base w u xs) (hb : base' ≤ base) : ResS base' w u xs := ⟨h.num.mono hb, h.wf⟩
theorem ResS.slice {base : Nat} {w : World} {u : Value} {xs : List Int} (h : ResS base w u xs) : ∃ ad cap, u = .slice ad xs.length cap ∧ ResS base w (.slice ad xs.length cap) xs ∧ ArgS w (.slice ad xs.length cap) xs ad cap ∧ (ad = none → cap = 0) := by
  obtain ⟨ad, cap, h1, h2, h3, h4, _⟩ := h.num.read
  subst h1
  refine ⟨ad, cap, rfl, h, ⟨rfl, h2, h3, h.wf⟩, fun hn => ?_⟩
  subst hn
  obtain ⟨_, h5⟩ := h.num
  rcases h5 with ⟨e, _⟩ | ⟨g, c, cur, e, _⟩
  · simp only [Value.slice.injEq] at e; exact e.2.2
  · simp at e
theorem cells_argS {w : World} {ys : List Int} {ad : Addr} {cap : Nat} (lx : LimS w (some ad) ys) : ∀ j u, (ys.map (Value.int .i64))[j]? = some u → w.cell? (ad.add j) = some u := by
  intro j u hj
  rcases lx with rfl | ⟨b, off, e, hc⟩
  · simp at hj
  · cases e
    rw [List.getElem?_map] at hj
    have hjl : j < ys.length := by
      rcases Nat.lt_or_ge j ys.length with h | h
      · exact h
      · rw [List.getElem?_eq_none h] at hj; cases hj
    rw [show (⟨b, off, none⟩ : Addr).add j = ⟨b, off + j, none⟩ from (by unfold Addr.add; split <;> simp_all), hc j hjl, ← hj]
    simp [hjl]
/-- a literal -/
theorem ArgS.lit (w : World) (xs : List Int) (h : Wid xs) : ArgS (w.alloc (.cells (xs.map (Value.int .i64)).toArray 3)) (.slice (some ⟨w.heap.size, 0, none⟩) xs.length xs.length) xs (some ⟨w.heap.size, 0, none⟩) xs.length := by
  refine ⟨rfl, .inr ⟨w.heap.size, 0, rfl, fun i hi => ?_⟩, Nat.le_refl _, h⟩
  have e : (w.alloc (.cells (xs.map (Value.int .i64)).toArray 3)).cell? ⟨w.heap.size, i, none⟩ = ((xs.map (Value.int .i64)).toArray)[i]? := cell_of_row _ _ i _ 3 (0, 0) (heap_alloc_new w _)
  rw [Nat.zero_add, e]
  simp [hi]
end
section
set_option linter.unusedVariables false
set_option linter.unusedSimpArgs false
/-- the product -/
def prodS : List Int → Int
  | [] => 1
  | d :: ds => d * prodS ds
/-- all are at least 1 -/
def posS (s : List Int) : Prop := ∀ x ∈ s, 1 ≤ x
theorem posS.tail {d : Int} {ds : List Int} (h : posS (d :: ds)) : posS ds := fun x hx => h x (List.mem_cons_of_mem _ hx)
theorem posS.head {d : Int} {ds : List Int} (h : posS (d :: ds)) : 1 ≤ d := h d (List.mem_cons_self ..)
theorem posS.drop {s : List Int} (h : posS s) (n : Nat) : posS (s.drop n) := fun x hx => h x (List.mem_of_mem_drop hx)
theorem posS.take {s : List Int} (h : posS s) (n : Nat) : posS (s.take n) := fun x hx => h x (List.mem_of_mem_take hx)
theorem posS.getD {s : List Int} (h : posS s) {i : Nat} (hi : i < s.length) : 1 ≤ s.getD i 0 := by
  rw [List.getD_eq_getElem?_getD, List.getElem?_eq_getElem hi]; exact h _ (List.getElem_mem hi)
theorem prodS_pos {s : List Int} (h : posS s) : 1 ≤ prodS s := by
  induction s with
  | nil => exact Int.le_refl _
  | cons d ds ih =>
    have h1 := h.head
    have h2 := ih h.tail
    have h3 := Int.mul_le_mul h1 h2 (by omega) (by omega)
    unfold prodS
    omega
theorem prodS_append (a b : List Int) : prodS (a ++ b) = prodS a * prodS b := by
  induction a with
  | nil => simp [prodS]
  | cons x xs ih => rw [List.cons_append]; simp only [prodS]; rw [ih, Int.mul_assoc]
theorem prodS_take {s : List Int} {k : Nat} (hk : k < s.length) : prodS (s.take (k + 1)) = prodS (s.take k) * s.getD k 0 := by
  rw [List.take_add_one, List.getElem?_eq_getElem hk, prodS_append, Option.toList_some]
  simp [prodS, List.getD_eq_getElem?_getD, List.getElem?_eq_getElem hk]
theorem prodS_split (s : List Int) (k : Nat) : prodS s = prodS (s.take k) * prodS (s.drop k) := by rw [← prodS_append, List.take_append_drop]
theorem prodS_take_le {s : List Int} (h : posS s) (k : Nat) : prodS (s.take k) ≤ prodS s := by
  have h1 := prodS_pos (h.take k)
  have h2 := prodS_pos (h.drop k)
  rw [prodS_split s k]
  have := Int.mul_le_mul_of_nonneg_left h2 (show 0 ≤ prodS (s.take k) by omega)
  omega
theorem getD_le_prod {s : List Int} (h : posS s) {k : Nat} (hk : k < s.length) : s.getD k 0 ≤ prodS s := by
  have h1 := prodS_pos (h.take k)
  have h2 := prodS_take_le h (k + 1)
  have h3 := h.getD hk
  rw [prodS_take hk] at h2
  have := Int.mul_le_mul_of_nonneg_right h1 (show 0 ≤ s.getD k 0 by omega)
  omega
/-- why a shape may not be: 0, or an error -/
def mayC (s : List Int) : Int := if 4 < s.length then 14 else if s.any (fun x => decide (x < 1)) = true then 13 else if 1024 < prodS s then 14 else 0
theorem any_pos (s : List Int) : s.any (fun x => decide (x < 1)) = true ↔ ¬ posS s := by
  rw [List.any_eq_true]
  unfold posS
  constructor
  · intro ⟨x, hx, h⟩ hp
    have := hp x hx
    simp at h
    omega
  · intro h
    apply Classical.byContradiction
    intro hn
    apply h
    intro x hx
    rcases Int.lt_or_le x 1 with g | g
    · exact absurd ⟨x, hx, by simpa using g⟩ hn
    · exact g
structure OkS (s : List Int) : Prop where
  rank : s.length ≤ 4
  pos : posS s
  few : prodS s ≤ 1024
theorem mayC_zero {s : List Int} : mayC s = 0 ↔ OkS s := by
  unfold mayC
  constructor
  · intro h
    split at h
    · cases h
    · split at h
      · cases h
      · next h1 h2 =>
        split at h
        · cases h
        · rw [any_pos, Classical.not_not] at h2
          exact ⟨by omega, h2, by omega⟩
  · intro h
    rw [if_neg (by have := h.rank; omega), if_neg (by rw [any_pos, Classical.not_not]; exact h.pos), if_neg (by have := h.few; omega)]
theorem mayC_ok {s : List Int} (h : OkS s) : mayC s = 0 := mayC_zero.2 h
theorem mayC_rank {s : List Int} (h : 4 < s.length) : mayC s = 14 := by unfold mayC; rw [if_pos h]
theorem mayC_dim {s : List Int} (h : s.length ≤ 4) (h2 : ¬ posS s) : mayC s = 13 := by unfold mayC; rw [if_neg (by omega), if_pos ((any_pos s).2 h2)]
theorem mayC_count {s : List Int} (h : s.length ≤ 4) (h2 : posS s) (h3 : 1024 < prodS s) : mayC s = 14 := by unfold mayC; rw [if_neg (by omega), if_neg (by rw [any_pos, Classical.not_not]; exact h2), if_pos h3]
/-- how many elements -/
def countS (s : List Int) : Int := if mayC s = 0 then prodS s else 0
theorem OkS.count {s : List Int} (h : OkS s) : countS s = prodS s := by unfold countS; rw [if_pos (mayC_ok h)]
theorem count_bad {s : List Int} (h : mayC s ≠ 0) : countS s = 0 := by unfold countS; rw [if_neg h]
end
section
open Go.RowKit
set_option linter.unusedVariables false
set_option linter.unusedSimpArgs false
theorem belowS_drew (B : Nat) (w : World) (n : Nat) : Below B w (w.drewN n) := ⟨rfl, rfl, rfl, Nat.le_refl _, fun _ _ => rfl⟩
theorem take_all {xs : List Int} {n : Nat} (h : xs.length = n) : xs.take n = xs := List.take_of_length_le (by omega)
theorem getD_some {xs : List Int} {k : Nat} (h : k < xs.length) : xs[k]? = some (xs.getD k 0) := by rw [List.getD_eq_getElem?_getD, List.getElem?_eq_getElem h]; rfl
theorem take_next {xs : List Int} {k : Nat} (h : k < xs.length) : xs.take (k + 1) = xs.take k ++ [xs.getD k 0] := by rw [List.take_add_one, getD_some h]; rfl
/-- is it a permutation? -/
def permB (p : List Int) (rank : Int) : Bool := decide (∀ n, n < p.length → (n : Int) ∈ p) && decide ((p.length : Int) = max rank 0)
end
section
open Go.RowKit
set_option linter.unusedVariables false
set_option linter.unusedSimpArgs false
/-- are these axes? -/
def axesB (l : List Int) (rank : Int) : Bool := decide (∀ i, i < l.length → (0 ≤ l.getD i 0 ∧ l.getD i 0 < rank) ∧ (0 < i → l.getD (i - 1) 0 < l.getD i 0))
end
section
open Go.RowKit
set_option linter.unusedVariables false
set_option linter.unusedSimpArgs false
/-- block g has room for cap numbers, of which the first are zs -/
def PartS (w : World) (g cap : Nat) (zs : List Int) : Prop := ∃ cur : Array Value, w.heap[g]? = some (.cells cur 3 (0, 0)) ∧ cur.size = cap ∧ zs.length ≤ cap ∧ cur.toList.take zs.length = zs.map (Value.int .i64)
theorem PartS.cell {w : World} {g cap : Nat} {zs : List Int} (h : PartS w g cap zs) (i : Nat) (hi : i < zs.length) : w.cell? ⟨g, i, none⟩ = some (.int .i64 (zs.getD i 0)) := by
  obtain ⟨cur, hh, hs, hl, ht⟩ := h
  have e : w.cell? ⟨g, i, none⟩ = cur[i]? := cell_of_row w g i _ 3 (0, 0) hh
  rw [e]
  have h1 : (cur.toList.take zs.length)[i]? = cur[i]? := by rw [List.getElem?_take_of_lt hi]; simp
  rw [← h1, ht]
  simp [hi]
theorem PartS.free {w : World} {g cap : Nat} {zs : List Int} (h : PartS w g cap zs) (i : Nat) : w.frozen? ⟨g, i, none⟩ = false := by
  obtain ⟨cur, hh, _⟩ := h
  exact frozen_of_row w g i _ 3 hh
theorem PartS.same {w w' : World} {g cap : Nat} {zs : List Int} (h : PartS w g cap zs) (e : w'.heap[g]? = w.heap[g]?) : PartS w' g cap zs := by
  obtain ⟨cur, hh, r⟩ := h
  exact ⟨cur, e.trans hh, r⟩
theorem PartS.far {w : World} {g cap : Nat} {zs : List Int} (h : PartS w g cap zs) {p : Addr} (hne : g ≠ p.block) (u : Value) : PartS (w.setCell p u) g cap zs := h.same (Below.heap_setCell _ _ _ _ hne)
theorem PartS.set {w : World} {g cap : Nat} {zs : List Int} (h : PartS w g cap zs) (i : Nat) (hi : i < zs.length) (x : Int) : PartS (w.setCell ⟨g, i, none⟩ (.int .i64 x)) g cap (zs.set i x) := by
  obtain ⟨cur, hh, hs, hl, ht⟩ := h
  refine ⟨cur.setIfInBounds i (.int .i64 x), ?_, by simpa using hs, by simpa using hl, ?_⟩
  · have e := heap_setCell_same w g i _ 3 (.int .i64 x) hh
    rw [e]
  · rw [List.length_set, Array.toList_setIfInBounds, List.take_set, ht, List.map_set]
theorem PartS.num {base g cap : Nat} {w : World} {zs : List Int} (h : PartS w g cap zs) (hb : base ≤ g) (hm : cap ≤ maxLen) : NumS base w (.slice (some ⟨g, 0, none⟩) zs.length cap) zs := by
  obtain ⟨cur, hh, hs, hl, ht⟩ := h
  exact ⟨by simp, .inr ⟨g, cap, cur, rfl, hb, hh, hl, hm, by simpa using hs, by simpa using ht⟩⟩
end
section
open Go.RowKit
set_option linter.unusedVariables false
set_option linter.unusedSimpArgs false
theorem make_runS (n : Nat) (hc : n ≤ 17592186044416) (w : World) :
    (Instr.makeSlice 35 (.int .i64 (n : Int)) (.int .i64 (n : Int))).run Try.prog w = .ok (.slice (some ⟨w.heap.size, 0, none⟩) n n) (w.alloc (.cells (madeCells #[.int .i64 0] n) 3)) := by
  obtain ⟨i0, hi, hz0, hz1, hz2⟩ := info_parts infoS
  have h := run_make (P := Try.prog) w 35 3 i0 (.int .i64 0) Try.underlying35 hi hz0 .i64 .i64 n n (by omega) (by omega) (by rw [hz2]; omega) (by omega)
  simpa [hz1, Value.cells] using h
end
section
set_option linter.unusedVariables false
set_option linter.unusedSimpArgs false
def permC (p : List Int) (rank : Int) : Int := if permB p rank = true then 0 else 11
def invL (p : List Int) : List Int := (List.range p.length).map fun i : Nat => (p.idxOf (i : Int) : Int)
def invV (p : List Int) : List Int := if permB p p.length = true then invL p else []
def axesC (l : List Int) (rank : Int) : Int := if axesB l rank = true then 0 else 11
end
section
set_option linter.unusedVariables false
set_option linter.unusedSimpArgs false
theorem perm_of_all {p q : List Int} (hq : q.Nodup) (hs : ∀ x, x ∈ q → x ∈ p) (hl : p.length ≤ q.length) : p.Perm q := by
  induction q generalizing p with
  | nil =>
    obtain rfl := List.eq_nil_of_length_eq_zero (show p.length = 0 by simpa using hl)
    exact List.Perm.refl _
  | cons a q ih =>
    obtain ⟨l1, l2, rfl⟩ := List.append_of_mem (hs a (List.mem_cons_self ..))
    rw [List.nodup_cons] at hq
    have h2 := ih (p := l1 ++ l2) hq.2 (fun x hx => by
      have := hs x (List.mem_cons_of_mem _ hx)
      have hne : x ≠ a := fun e => hq.1 (e ▸ hx)
      rcases List.mem_append.1 this with h | h
      · exact List.mem_append.2 (.inl h)
      · rcases List.mem_cons.1 h with h | h
        · exact absurd h hne
        · exact List.mem_append.2 (.inr h)) (by simp only [List.length_append, List.length_cons] at hl ⊢; omega)
    exact (List.perm_middle).trans (List.Perm.cons a h2)
def upS (n : Nat) : List Int := (List.range n).map fun i : Nat => (i : Int)
theorem upS_length (n : Nat) : (upS n).length = n := by simp [upS]
theorem mem_upS {n : Nat} {x : Int} : x ∈ upS n ↔ 0 ≤ x ∧ x < n := by
  unfold upS
  rw [List.mem_map]
  constructor
  · rintro ⟨i, hi, rfl⟩
    rw [List.mem_range] at hi
    omega
  · intro h
    exact ⟨x.toNat, List.mem_range.2 (by omega), by omega⟩
theorem upS_nodup (n : Nat) : (upS n).Nodup := by
  unfold upS
  induction n with
  | zero => simp
  | succ n ih =>
    rw [List.range_succ, List.map_append, List.nodup_append]
    refine ⟨ih, by simp, fun a ha b hb => ?_⟩
    simp only [List.map_cons, List.map_nil, List.mem_singleton] at hb
    rw [List.mem_map] at ha
    obtain ⟨i, hi, rfl⟩ := ha
    rw [List.mem_range] at hi
    omega
structure IsPerm (p : List Int) : Prop where
  nodup : p.Nodup
  mem : ∀ x, x ∈ p ↔ 0 ≤ x ∧ x < p.length
theorem permB_is {p : List Int} {r : Int} (h : permB p r = true) : IsPerm p ∧ (p.length : Int) = max r 0 := by
  unfold permB at h
  rw [Bool.and_eq_true, decide_eq_true_iff, decide_eq_true_iff] at h
  have hp := perm_of_all (upS_nodup p.length) (fun x hx => by
    rw [mem_upS] at hx
    have := h.1 x.toNat (by omega)
    rwa [show ((x.toNat : Nat) : Int) = x by omega] at this) (by rw [upS_length]; exact Nat.le_refl _)
  exact ⟨⟨hp.nodup_iff.2 (upS_nodup _), fun x => by rw [hp.mem_iff, mem_upS]⟩, h.2⟩
theorem is_permB {p : List Int} (h : IsPerm p) : permB p p.length = true := by
  unfold permB
  rw [Bool.and_eq_true, decide_eq_true_iff, decide_eq_true_iff]
  exact ⟨fun n hn => (h.mem _).2 (by omega), by omega⟩
theorem invL_length (p : List Int) : (invL p).length = p.length := by simp [invL]
theorem invL_at (p : List Int) {i : Nat} (h : i < p.length) : (invL p).getD i 0 = (p.idxOf (i : Int) : Int) := by
  unfold invL
  rw [List.getD_eq_getElem?_getD, List.getElem?_map, List.getElem?_range h]; rfl
theorem getD_elem {p : List Int} {i : Nat} (h : i < p.length) : p.getD i 0 = p[i] := by simp [List.getD_eq_getElem?_getD, List.getElem?_eq_getElem h]
theorem IsPerm.back {p : List Int} (h : IsPerm p) {i : Nat} (hi : i < p.length) : (0 ≤ p.getD i 0 ∧ p.getD i 0 < p.length) ∧ (invL p).getD (p.getD i 0).toNat 0 = (i : Int) := by
  have hm := (h.mem (p.getD i 0)).1 (by rw [getD_elem hi]; exact List.getElem_mem hi)
  refine ⟨hm, ?_⟩
  rw [invL_at p (by omega), show (((p.getD i 0).toNat : Nat) : Int) = p.getD i 0 by omega, getD_elem hi, h.nodup.idxOf_getElem]
theorem IsPerm.inv {p : List Int} (h : IsPerm p) : IsPerm (invL p) := by
  have hall : ∀ x, x ∈ upS p.length → x ∈ invL p := fun x hx => by
    rw [mem_upS] at hx
    obtain ⟨h1, h2⟩ := h.back (i := x.toNat) (by omega)
    have hlt : (p.getD x.toNat 0).toNat < (invL p).length := by rw [invL_length]; omega
    have := List.getElem_mem hlt
    rw [← getD_elem hlt, h2] at this
    rwa [show ((x.toNat : Nat) : Int) = x by omega] at this
  have hp := perm_of_all (upS_nodup p.length) hall (by rw [upS_length, invL_length]; exact Nat.le_refl _)
  exact ⟨hp.nodup_iff.2 (upS_nodup _), fun x => by rw [hp.mem_iff, mem_upS, invL_length]⟩
end
section
open Go.RowKit
set_option linter.unusedVariables false
set_option linter.unusedSimpArgs false
def belowB (n m : Int) : Bool := decide (0 ≤ n ∧ n < m)
theorem belowB_yes {n m : Int} (h : 0 ≤ n) (h2 : n < m) : belowB n m = true := decide_eq_true ⟨h, h2⟩
theorem belowB_no {n m : Int} (h : n < 0 ∨ m ≤ n) : belowB n m = false := decide_eq_false (by omega)
set_option maxRecDepth 100000 in
set_option maxHeartbeats 2000000 in
theorem below_any (n m : Int) (w : World) : Calls Try.prog 67 #[.int .i64 n, .int .i64 m] w fun e w' => e = .returned (.bool (belowB n m)) ∧ w = w' := by
  obtain ⟨b, hb⟩ : ∃ b, belowB n m = b := ⟨_, rfl⟩
  rw [hb]
  by_cases h0 : 0 ≤ n
  · by_cases h1 : n < m
    · obtain rfl : b = true := by rw [← hb, belowB_yes h0 h1]
      clear hb
      go_enter Try.func67, Try.ntmps67
      go_wp2
      go_ret
      exact ⟨rfl, rfl⟩
    · obtain rfl : b = false := by rw [← hb, belowB_no (by omega)]
      clear hb
      go_enter Try.func67, Try.ntmps67
      go_wp2
      go_ret
      exact ⟨rfl, rfl⟩
  · obtain rfl : b = false := by rw [← hb, belowB_no (by omega)]
    clear hb
    go_enter Try.func67, Try.ntmps67
    go_wp2
    go_ret
    exact ⟨rfl, rfl⟩
/-- what has been counted of the first k dimensions: the product, the error -/
def Cnt (s : List Int) (k : Nat) (n e : Int) : Prop := posS (s.take k) ∧ 1 ≤ n ∧ n ≤ 1024 ∧ (e = 0 ∧ n = prodS (s.take k) ∨ e = 14 ∧ 1024 < prodS (s.take k))
theorem Cnt.nil (s : List Int) : Cnt s 0 1 0 := ⟨(fun x h => by simp at h), by omega, by omega, .inl ⟨rfl, rfl⟩⟩
theorem quo_lt {d n : Int} (h1 : 1 ≤ n) : 1024 / n < d ↔ 1024 < n * d := by
  rw [Int.ediv_lt_iff_lt_mul (by omega), Int.mul_comm]
theorem take_pos {s : List Int} {k : Nat} {d : Int} (h : posS (s.take k)) (hd : s[k]? = some d) (h1 : 1 ≤ d) : posS (s.take (k + 1)) := by
  rw [List.take_add_one, hd, Option.toList_some]
  intro x hx
  rcases List.mem_append.1 hx with h2 | h2
  · exact h x h2
  · rw [List.mem_singleton.1 h2]; exact h1
theorem prod_next {s : List Int} {k : Nat} {d : Int} (hd : s[k]? = some d) : prodS (s.take (k + 1)) = prodS (s.take k) * d := by
  have hk : k < s.length := by
    rcases Nat.lt_or_ge k s.length with g | g
    · exact g
    · rw [List.getElem?_eq_none g] at hd; cases hd
  rw [prodS_take hk, List.getD_eq_getElem?_getD, hd]
  rfl
theorem Cnt.big {s : List Int} {k : Nat} {n e d : Int} (h : Cnt s k n e) (hd : s[k]? = some d) (h1 : 1 ≤ d) (h2 : 1024 / n < d) : Cnt s (k + 1) n 14 := by
  obtain ⟨hp, n1, n2, h3⟩ := h
  refine ⟨take_pos hp hd h1, n1, n2, .inr ⟨rfl, ?_⟩⟩
  rw [prod_next hd]
  rw [quo_lt n1] at h2
  rcases h3 with ⟨_, rfl⟩ | ⟨_, h4⟩
  · exact h2
  · have := Int.mul_le_mul_of_nonneg_left h1 (show 0 ≤ prodS (s.take k) by omega)
    omega
theorem Cnt.next {s : List Int} {k : Nat} {n e d : Int} (h : Cnt s k n e) (hd : s[k]? = some d) (h1 : 1 ≤ d) (h2 : ¬ 1024 / n < d) : Cnt s (k + 1) (n * d) e ∧ 1 ≤ n * d ∧ n * d ≤ 1024 := by
  obtain ⟨hp, n1, n2, h3⟩ := h
  rw [quo_lt n1] at h2
  have h5 : 1 * 1 ≤ n * d := Int.mul_le_mul n1 h1 (by omega) (by omega)
  refine ⟨⟨take_pos hp hd h1, by omega, by omega, ?_⟩, by omega, by omega⟩
  rw [prod_next hd]
  rcases h3 with ⟨h3, rfl⟩ | ⟨h3, h4⟩
  · exact .inl ⟨h3, rfl⟩
  · refine .inr ⟨h3, ?_⟩
    have := Int.mul_le_mul_of_nonneg_left h1 (show 0 ≤ prodS (s.take k) by omega)
    omega
set_option maxRecDepth 100000 in
set_option maxHeartbeats 2000000 in
theorem cnt_any {u : Value} {xs : List Int} {ad : Option Addr} {cap : Nat} {w : World} (A : ArgS w u xs ad cap) :
    Calls Try.prog 66 #[u] w fun e w' => e = .returned (.tuple #[.int .i64 (countS xs), .int .i64 (mayC xs)]) ∧ w = w' := by
  have HA := Lib.hid A
  obtain rfl := A.is
  obtain ⟨L, hL⟩ : ∃ L, xs.length = L := ⟨_, rfl⟩
  have HL := Lib.hid hL
  obtain ⟨c, hc⟩ : ∃ c, mayC xs = c := ⟨_, rfl⟩
  have HC := Lib.hid hc
  obtain ⟨t, ht⟩ : ∃ t, countS xs = t := ⟨_, rfl⟩
  have HT := Lib.hid ht
  rw [hL, hc, ht]
  clear A hL hc ht
  by_cases h4 : 4 < L
  · have hm : mayC xs = 14 := mayC_rank (by rw [HL.out]; exact h4)
    obtain rfl : c = 14 := by rw [← HC.out]; exact hm
    obtain rfl : t = 0 := by rw [← HT.out]; exact count_bad (by rw [hm]; decide)
    have h4I : (4 : Int) < (L : Int) := by omega
    clear hm
    go_enter Try.func66, Try.ntmps66
    go_wp2
    go_step3
    go_wp2
    rw [Exit.noGoto_ret]
    go_ret2
    exact ⟨rfl, rfl⟩
  · have h4I : ¬ (4 : Int) < (L : Int) := by omega
    go_enter Try.func66, Try.ntmps66
    go_wp2
    go_step3
    go_wp2
    go_step3
    go_wp2
    go_loop [4, 5, 13] (fun n e i => ∃ (k : Nat) (N E : Int), i = .int .i64 (k : Int) ∧ n = .int .i64 N ∧ e = .int .i64 E ∧ k ≤ L ∧ Cnt xs k N E) (fun _ _ i => L - (intOf i).toNat)
    case atStart => exact ⟨0, 1, 0, rfl, rfl, rfl, Nat.zero_le _, Cnt.nil _⟩
    case round =>
      obtain ⟨k, N, E, rfl, rfl, rfl, hkL, hI⟩ := hrel
      obtain ⟨hp, n1, n2, hE⟩ := hI
      by_cases hlt : k < L
      · obtain ⟨b, off, rfl, hc⟩ := HA.out.at (i := k) (by rw [HL.out]; exact hlt)
        have hx : xs[k]? = some (xs.getD k 0) := by rw [List.getD_eq_getElem?_getD, List.getElem?_eq_getElem (by rw [HL.out]; exact hlt)]; rfl
        obtain ⟨x, hxe⟩ : ∃ x, xs.getD k 0 = x := ⟨_, rfl⟩
        rw [hxe] at hc hx
        have HX := Lib.hid hx
        have hltI : (k : Int) < (L : Int) := by omega
        have HI : Hid (Cnt xs k N E) := Lib.hid ⟨hp, n1, n2, hE⟩
        clear hxe hx hp hE
        by_cases h1 : x < 1
        · have hm : mayC xs = 13 := by
            refine mayC_dim (by rw [HL.out]; omega) fun hp => ?_
            have := hp x (List.mem_of_getElem? HX.out)
            omega
          obtain rfl : c = 13 := by rw [← HC.out]; exact hm
          obtain rfl : t = 0 := by rw [← HT.out]; exact count_bad (by rw [hm]; decide)
          clear hm
          go_wp2
          go_ret2
          exact ⟨rfl, rfl⟩
        · by_cases h2 : 1024 / N < x
          · go_wp2
            go_round
            case rel => exact ⟨k + 1, N, 14, by go_num, rfl, rfl, by omega, HI.out.big HX.out (by omega) h2⟩
            case measure => simp [intOf]; omega
          · obtain ⟨hI, m1, m2⟩ := HI.out.next HX.out (by omega) h2
            have hw : wrap64 (N * x) = N * x := by unfold wrap64; omega
            have HJ := Lib.hid hI
            clear hI
            go_wp2
            go_round
            case rel => exact ⟨k + 1, _, E, by go_num, by first | rfl | rw [hw], rfl, by omega, HJ.out⟩
            case measure => simp [intOf]; omega
      · obtain rfl : k = L := by omega
        have hltI : ¬ (k : Int) < (k : Int) := by omega
        rw [List.take_of_length_le (by rw [HL.out]; exact Nat.le_refl _)] at hE hp
        rcases hE with ⟨rfl, hN⟩ | ⟨rfl, hN⟩
        · have ok : OkS xs := ⟨by rw [HL.out]; omega, hp, by omega⟩
          obtain rfl : c = 0 := by rw [← HC.out]; exact mayC_ok ok
          obtain rfl : t = N := by rw [← HT.out, ok.count]; exact hN.symm
          clear hN hp ok
          go_wp2
          go_ret2
          exact ⟨rfl, rfl⟩
        · have hm : mayC xs = 14 := mayC_count (by rw [HL.out]; omega) hp hN
          obtain rfl : c = 14 := by rw [← HC.out]; exact hm
          obtain rfl : t = 0 := by rw [← HT.out]; exact count_bad (by rw [hm]; decide)
          clear hN hp hm
          go_wp2
          go_ret2
          exact ⟨rfl, rfl⟩
set_option maxRecDepth 100000 in
set_option maxHeartbeats 2000000 in
theorem mayS_eq {u : Value} {xs : List Int} {ad : Option Addr} {cap : Nat} {w : World} (A : ArgS w u xs ad cap) :
    Calls Try.prog 61 #[u] w fun e w' => e = .returned (.int .i64 (mayC xs)) ∧ w = w' := by
  have h := cnt_any A
  obtain rfl := A.is
  obtain ⟨c, hc⟩ : ∃ c, mayC xs = c := ⟨_, rfl⟩
  obtain ⟨t, ht⟩ : ∃ t, countS xs = t := ⟨_, rfl⟩
  obtain ⟨L, hL⟩ : ∃ L, xs.length = L := ⟨_, rfl⟩
  rw [hc, ht, hL] at h
  rw [hc, hL]
  clear A hc ht hL
  go_enter Try.func61, Try.ntmps61
  go_wp2_with (go_at_call 66; refine h.mono ?_; rintro e w1 ⟨rfl, rfl⟩)
  go_ret
  exact ⟨rfl, rfl⟩
theorem mayS_any {u : Value} {xs : List Int} {ad : Option Addr} {cap : Nat} {w : World} (A : ArgS w u xs ad cap) (hx : xs.length ≤ 17592186044416) :
    Calls Try.prog 61 #[u] w fun e w' => e = .returned (.int .i64 (mayC xs)) ∧ Below w.heap.size w w' :=
  (mayS_eq A).mono fun _ _ ⟨h1, h2⟩ => ⟨h1, h2 ▸ Below.refl _ _⟩
end
section
open Go.RowKit
set_option linter.unusedVariables false
set_option linter.unusedSimpArgs false
/-- a block of marks, known whole -/
def MrkS (w : World) (g : Nat) (zs : List Bool) : Prop := w.heap[g]? = some (.cells (zs.map Value.bool).toArray 4 (0, 0))
theorem MrkS.cell {w : World} {g : Nat} {zs : List Bool} (h : MrkS w g zs) (i : Nat) (hi : i < zs.length) : w.cell? ⟨g, i, none⟩ = some (.bool (zs.getD i false)) := by
  have e : w.cell? ⟨g, i, none⟩ = ((zs.map Value.bool).toArray)[i]? := cell_of_row w g i _ 4 (0, 0) h
  rw [e]; simp [hi]
theorem MrkS.free {w : World} {g : Nat} {zs : List Bool} (h : MrkS w g zs) (i : Nat) : w.frozen? ⟨g, i, none⟩ = false := frozen_of_row w g i _ 4 h
theorem MrkS.lt {w : World} {g : Nat} {zs : List Bool} (h : MrkS w g zs) : g < w.heap.size := lt_of_block h
theorem MrkS.same {w w' : World} {g : Nat} {zs : List Bool} (h : MrkS w g zs) (e : w'.heap[g]? = w.heap[g]?) : MrkS w' g zs := e.trans h
theorem MrkS.alloc {w : World} {g : Nat} {zs : List Bool} (h : MrkS w g zs) (o : Obj) : MrkS (w.alloc o) g zs := h.same (Below.heap_alloc _ _ _ h.lt)
theorem MrkS.far {w : World} {g : Nat} {zs : List Bool} (h : MrkS w g zs) {p : Addr} (hne : g ≠ p.block) (u : Value) : MrkS (w.setCell p u) g zs := h.same (Below.heap_setCell _ _ _ _ hne)
theorem MrkS.set {w : World} {g : Nat} {zs : List Bool} (h : MrkS w g zs) (i : Nat) (x : Bool) : MrkS (w.setCell ⟨g, i, none⟩ (.bool x)) g (zs.set i x) := by
  have hh := heap_setCell_same w g i _ 4 (.bool x) h
  unfold MrkS
  rw [hh]
  congr 2
  simp [List.map_set]
theorem MrkS.made (w : World) (n : Nat) : MrkS (w.alloc (.cells (madeCells #[.bool false] n) 4)) w.heap.size (List.replicate n false) := by
  have h := heap_alloc_new w (.cells (madeCells #[.bool false] n) 4)
  unfold MrkS
  rw [h]
  congr 2
  apply Array.ext
  · simp [madeCells]
  · intro i h1 h2
    simp [madeCells, Nat.mod_one]
theorem infoM : (Try.prog.info? 4).map (fun i => (i.zero, i.size, i.bytes)) = some (some (.bool false), 1, 1) := by kernel_rfl
theorem make_runM (n : Nat) (hc : n ≤ 17592186044416) (w : World) :
    (Instr.makeSlice 85 (.int .i64 (n : Int)) (.int .i64 (n : Int))).run Try.prog w = .ok (.slice (some ⟨w.heap.size, 0, none⟩) n n) (w.alloc (.cells (madeCells #[.bool false] n) 4)) := by
  obtain ⟨i0, hi, hz0, hz1, hz2⟩ := info_parts infoM
  have h := run_make (P := Try.prog) w 85 4 i0 (.bool false) Try.underlying85 hi hz0 .i64 .i64 n n (by omega) (by omega) (by rw [hz2]; omega) (by omega)
  simpa [hz1, Value.cells] using h
/-- the marks, when the first k numbers have been seen -/
def SeenM (l : List Int) (n k : Nat) (M : List Bool) : Prop := M.length = n ∧ ∀ i, i < n → M.getD i false = decide ((i : Int) ∈ l.take k)
theorem SeenM.nil (l : List Int) (n : Nat) : SeenM l n 0 (List.replicate n false) := ⟨by simp, fun i hi => by simp [List.getD_eq_getElem?_getD, hi]⟩
theorem mem_next {l : List Int} {k : Nat} {x y : Int} (hx : l[k]? = some x) : y ∈ l.take (k + 1) ↔ y ∈ l.take k ∨ y = x := by
  rw [List.take_add_one, hx, Option.toList_some, List.mem_append, List.mem_singleton]
theorem SeenM.mark {l : List Int} {n k j : Nat} {M : List Bool} (h : SeenM l n k M) (hx : l[k]? = some (j : Int)) (hj : j < n) : SeenM l n (k + 1) (M.set j true) := by
  refine ⟨by rw [List.length_set]; exact h.1, fun i hi => ?_⟩
  by_cases e : i = j
  · subst e
    rw [List.getD_eq_getElem?_getD, List.getElem?_set_self (by rw [h.1]; exact hi)]
    exact (decide_eq_true ((mem_next hx).2 (.inr rfl))).symm
  · rw [List.getD_eq_getElem?_getD, List.getElem?_set_ne (by omega), ← List.getD_eq_getElem?_getD, h.2 i hi]
    apply decide_eq_decide.2
    rw [mem_next hx]
    exact ⟨.inl, fun h => h.elim id fun e2 => by omega⟩
end
section
open Go.RowKit
set_option linter.unusedVariables false
set_option linter.unusedSimpArgs false
/-- the first k numbers of a list are different ones, below L; each one's place is told -/
def SeenP (p : List Int) (L k : Nat) (zs : List Int) : Prop := zs.length = L ∧ (p.take k).Nodup ∧ (∀ x, x ∈ p.take k → 0 ≤ x ∧ x < L) ∧ ∀ j, j < k → zs.getD (p.getD j 0).toNat 0 = (j : Int)
theorem SeenP.nil (p : List Int) (L : Nat) : SeenP p L 0 (List.replicate L 0) := ⟨by simp, by simp, fun x h => by simp at h, fun j hj => by omega⟩
theorem mem_takeS {p : List Int} {j k : Nat} (hj : j < k) (hl : j < p.length) : p.getD j 0 ∈ p.take k := by
  rw [getD_elem hl, List.mem_take_iff_getElem]
  exact ⟨j, by omega, rfl⟩
theorem SeenP.next {p : List Int} {L k m : Nat} {zs : List Int} (h : SeenP p L k zs) (hk : k < p.length) (hx : p[k]? = some (m : Int)) (hm : m < L) (hn : ¬ (m : Int) ∈ p.take k) : SeenP p L (k + 1) (zs.set m (k : Int)) := by
  obtain ⟨h1, h2, h3, h4⟩ := h
  have ht : p.take (k + 1) = p.take k ++ [(m : Int)] := by rw [List.take_add_one, hx]; rfl
  refine ⟨by rw [List.length_set]; exact h1, ?_, fun x hx2 => ?_, fun j hj => ?_⟩
  · rw [ht, List.nodup_append]
    refine ⟨h2, by simp, fun a ha b hb e => ?_⟩
    rw [List.mem_singleton] at hb
    subst hb
    subst e
    exact hn ha
  · rw [ht, List.mem_append, List.mem_singleton] at hx2
    rcases hx2 with g | g
    · exact h3 x g
    · omega
  · by_cases e : j = k
    · subst e
      have e2 : p.getD j 0 = (m : Int) := by rw [List.getD_eq_getElem?_getD, hx]; rfl
      rw [e2, List.getD_eq_getElem?_getD, show (m : Int).toNat = m by omega, List.getElem?_set_self (by omega)]
      rfl
    · have hmem := mem_takeS (p := p) (j := j) (k := k) (by omega) (by omega)
      have hr := h3 _ hmem
      have hne : m ≠ (p.getD j 0).toNat := fun e2 => hn (by rw [e2, show (((p.getD j 0).toNat : Nat) : Int) = p.getD j 0 by omega]; exact hmem)
      rw [List.getD_eq_getElem?_getD, List.getElem?_set_ne hne, ← List.getD_eq_getElem?_getD]
      exact h4 j (by omega)
theorem SeenP.full {p : List Int} {L : Nat} {zs : List Int} (h : SeenP p L L zs) (hL : p.length = L) : IsPerm p ∧ zs = invL p := by
  obtain ⟨h1, h2, h3, h4⟩ := h
  rw [take_all hL] at h2 h3
  have hp := perm_of_all (p := upS L) (q := p) h2 (fun x hx => mem_upS.2 (h3 x hx)) (by rw [upS_length, hL]; exact Nat.le_refl _)
  have ip : IsPerm p := ⟨h2, fun x => by rw [← hp.mem_iff, mem_upS, hL]⟩
  refine ⟨ip, ?_⟩
  apply List.ext_getElem
  · rw [h1, invL_length, hL]
  · intro i g1 g2
    rw [← getD_elem g1, ← getD_elem g2, invL_at p (by omega)]
    have hmem := (ip.mem (i : Int)).2 (by omega)
    have hlt := List.idxOf_lt_length_of_mem hmem
    have hget := List.getElem_idxOf hlt
    have h5 := h4 (p.idxOf (i : Int)) (by omega)
    rw [getD_elem hlt, hget, show ((i : Nat) : Int).toNat = i by omega] at h5
    exact h5
theorem permC_no {p : List Int} (h : ¬ IsPerm p) (r : Int) : permC p r = 11 := by
  unfold permC
  rw [if_neg]
  exact fun e => h (permB_is e).1
theorem permC_yes {p : List Int} (h : IsPerm p) : permC p p.length = 0 := by unfold permC; rw [if_pos (is_permB h)]
theorem invV_no {p : List Int} (h : ¬ IsPerm p) : invV p = [] := by
  unfold invV
  rw [if_neg]
  exact fun e => h (permB_is e).1
theorem invV_yes {p : List Int} (h : IsPerm p) : invV p = invL p := by unfold invV; rw [if_pos (is_permB h)]
theorem not_twice {p : List Int} {k : Nat} (hk : k < p.length) (h : p.getD k 0 ∈ p.take k) : ¬ IsPerm p := by
  intro ip
  have hn := ip.nodup
  rw [← List.take_append_drop k p, List.nodup_append] at hn
  refine hn.2.2 _ h (p.getD k 0) ?_ rfl
  rw [List.drop_eq_getElem_cons hk, getD_elem hk]
  exact List.mem_cons_self ..
set_option maxRecDepth 100000 in
set_option maxHeartbeats 4000000 in
theorem inverseS_any {u : Value} {p : List Int} {a : Option Addr} {ca : Nat} {w : World} (A : ArgS w u p a ca) (ha : a = none → ca = 0) (hx : p.length ≤ 1000) :
    Calls Try.prog 65 #[u] w fun e w' => ∃ r, e = .returned (.tuple #[r, .int .i64 (permC p p.length)]) ∧ ResS w.heap.size w' r (invV p) ∧ Below w.heap.size w w' := by
  have HA := Lib.hid A
  obtain rfl := A.is
  obtain ⟨c, hc⟩ : ∃ c, permC p p.length = c := ⟨_, rfl⟩
  obtain ⟨r, hr⟩ : ∃ r, invV p = r := ⟨_, rfl⟩
  have HC := Lib.hid hc
  have HR := Lib.hid hr
  rw [hc, hr]
  obtain ⟨L, hL⟩ : ∃ L, p.length = L := ⟨_, rfl⟩
  have HL := Lib.hid hL
  rw [hL] at hx ⊢
  have hmk1 := make_runM L (by omega)
  have hmk2 := make_runS L (by omega)
  clear A ha hc hr hL
  go_enter Try.func65, Try.ntmps65
  go_wp2
  have hb0 : Below w.heap.size w ((w.alloc (.cells (madeCells #[.bool false] L) 4)).alloc (.cells (madeCells #[.int .i64 0] L) 3)) := ((Below.refl _ w).alloc (Nat.le_refl _) _).alloc (by simp) _
  have hm0 : MrkS ((w.alloc (.cells (madeCells #[.bool false] L) 4)).alloc (.cells (madeCells #[.int .i64 0] L) 3)) w.heap.size (List.replicate L false) := (MrkS.made w L).alloc _
  have hp0 : PartS ((w.alloc (.cells (madeCells #[.bool false] L) 4)).alloc (.cells (madeCells #[.int .i64 0] L) 3)) (w.heap.size + 1) L (List.replicate L 0) := by
    have h := BlkS.made (w.alloc (.cells (madeCells #[.bool false] L) 4)) L
    simp only [World.size_alloc] at h
    exact ⟨_, h, by simp, by simp, by simp⟩
  have HB0 := Lib.hid hb0
  have HM0 := Lib.hid hm0
  have HP0 := Lib.hid hp0
  clear hb0 hm0 hp0 hmk1 hmk2
  go_loopw [6, 7, 16] (fun _ _ i wr => ∃ (k : Nat) (M : List Bool) (zs : List Int), i = .int .i64 (k : Int) ∧ k ≤ L ∧ MrkS wr w.heap.size M ∧ SeenM p L k M ∧ PartS wr (w.heap.size + 1) L zs ∧ SeenP p L k zs ∧ Below w.heap.size w wr) (fun _ _ i _ => L - (intOf i).toNat)
  case atStart => exact ⟨0, _, _, rfl, Nat.zero_le _, HM0.out, SeenM.nil p L, HP0.out, SeenP.nil p L, HB0.out⟩
  case round =>
    obtain ⟨k, M, zs, rfl, hk, hM, hS, hP, hQ, hb⟩ := hrel
    have hsz := hb.size
    have HMK := Lib.hid hM
    have HS := Lib.hid hS
    have HP := Lib.hid hP
    have HQ := Lib.hid hQ
    clear hS hQ
    by_cases hlt : k < L
    · obtain ⟨b1, o1, rfl, c1⟩ := (HA.out.later hb).at (i := k) (by rw [HL.out]; exact hlt)
      have hxx := getD_some (xs := p) (k := k) (by rw [HL.out]; exact hlt)
      obtain ⟨x, hxe⟩ : ∃ x, p.getD k 0 = x := ⟨_, rfl⟩
      rw [hxe] at c1 hxx
      have HX := Lib.hid hxx
      have HXE := Lib.hid hxe
      have hbw := below_any x (L : Int) wr
      have hltI : (k : Int) < (L : Int) := by omega
      clear hxx hxe
      by_cases hg : 0 ≤ x ∧ x < L
      · obtain ⟨g0, g1⟩ := hg
        rw [belowB_yes g0 g1] at hbw
        obtain ⟨j, rfl⟩ : ∃ j : Nat, x = (j : Int) := ⟨x.toNat, by omega⟩
        have hj : j < L := by omega
        have hf := hM.free j
        have hcj := hM.cell j (by rw [HS.out.1]; exact hj)
        rw [HS.out.2 j hj] at hcj
        by_cases hmem : (j : Int) ∈ p.take k
        · rw [decide_eq_true hmem] at hcj
          have hno : ¬ IsPerm p := not_twice (k := k) (by rw [HL.out]; exact hlt) (by rw [HXE.out]; exact hmem)
          obtain rfl : c = 11 := by rw [← HC.out]; exact permC_no hno _
          obtain rfl : r = [] := by rw [← HR.out]; exact invV_no hno
          clear hM hP hmem hno
          go_wp2_with (go_at_call 67; refine hbw.mono ?_; rintro e w1 ⟨rfl, rfl⟩)
          go_ret2
          exact ⟨_, rfl, ResS.nil _ _, hb⟩
        · rw [decide_eq_false hmem] at hcj
          have hP1 := hP.far (p := ⟨w.heap.size, j, none⟩) (by show w.heap.size + 1 ≠ w.heap.size; omega) (.bool true)
          have hf2 := hP1.free j
          have hc2 := hP1.cell j (by rw [HQ.out.1]; exact hj)
          have HP1 := Lib.hid hP1
          have HME := Lib.hid hmem
          have hkp : k < p.length := by rw [HL.out]; exact hlt
          have HKP := Lib.hid hkp
          clear hM hP hP1 hmem hkp
          go_wp2_with (go_at_call 67; refine hbw.mono ?_; rintro e w1 ⟨rfl, rfl⟩)
          go_roundw
          case rel =>
            refine ⟨k + 1, _, _, by go_num, by omega, ((HMK.out.set j true).far ?_ _), HS.out.mark HX.out hj, HP1.out.set j (by rw [HQ.out.1]; exact hj) (k : Int), HQ.out.next HKP.out HX.out hj HME.out, ?_⟩
            · show w.heap.size ≠ w.heap.size + 1
              omega
            · exact (hb.setCell (Nat.le_refl _) _).setCell (by show w.heap.size ≤ w.heap.size + 1; omega) _
          case measure => simp [intOf]; omega
      · rw [belowB_no (by omega)] at hbw
        have hno : ¬ IsPerm p := fun ip => by
          have h := (ip.mem x).1 (by rw [← HXE.out, getD_elem (by rw [HL.out]; exact hlt)]; exact List.getElem_mem _)
          rw [HL.out] at h
          exact hg h
        obtain rfl : c = 11 := by rw [← HC.out]; exact permC_no hno _
        obtain rfl : r = [] := by rw [← HR.out]; exact invV_no hno
        clear hM hP hno hg
        go_wp2_with (go_at_call 67; refine hbw.mono ?_; rintro e w1 ⟨rfl, rfl⟩)
        go_ret2
        exact ⟨_, rfl, ResS.nil _ _, hb⟩
    · obtain rfl : k = L := by omega
      obtain ⟨ip, hzs⟩ := HQ.out.full HL.out
      obtain rfl : c = 0 := by rw [← HC.out]; exact permC_yes ip
      have hzr : zs = r := by rw [← HR.out, invV_yes ip]; exact hzs
      have hltI : ¬ (k : Int) < (k : Int) := by omega
      have hwid : Wid zs := by
        rw [hzs]
        intro x hx2
        have := (ip.inv.mem x).1 hx2
        rw [invL_length, HL.out] at this
        omega
      have HW := Lib.hid hwid
      clear hM hP ip hzs hwid
      go_wp2
      go_ret2
      have hn := HP.out.num (base := w.heap.size) (by omega) (by unfold maxLen; omega)
      rw [HQ.out.1] at hn
      exact ⟨_, rfl, by rw [← hzr]; exact ⟨hn, HW.out⟩, hb⟩
set_option maxRecDepth 100000 in
set_option maxHeartbeats 2000000 in
theorem permS_any {u : Value} {p : List Int} {a : Option Addr} {ca : Nat} {w : World} (rank : Int) (A : ArgS w u p a ca) (ha : a = none → ca = 0) (hx : p.length ≤ 1000) (h0 : -9223372036854775808 ≤ rank) (h1 : rank ≤ 9223372036854775807) :
    Calls Try.prog 60 #[u, .int .i64 rank] w fun e w' => e = .returned (.int .i64 (permC p rank)) ∧ Below w.heap.size w w' := by
  have hv := inverseS_any A ha hx
  obtain rfl := A.is
  obtain ⟨c, hc⟩ : ∃ c, permC p rank = c := ⟨_, rfl⟩
  obtain ⟨d, hd⟩ : ∃ d, permC p p.length = d := ⟨_, rfl⟩
  obtain ⟨z, hz⟩ : ∃ z, invV p = z := ⟨_, rfl⟩
  obtain ⟨m, hm⟩ : ∃ m, max rank 0 = m := ⟨_, rfl⟩
  have h2 : (p.length : Int) ≠ m → c = 11 := fun h => by
    rw [← hc]
    unfold permC
    rw [if_neg]
    intro e
    unfold permB at e
    rw [Bool.and_eq_true, decide_eq_true_iff, decide_eq_true_iff] at e
    exact h (e.2.trans hm)
  have h3 : (p.length : Int) = m → c = d := fun h => by
    rw [← hc, ← hd]
    unfold permC permB
    rw [show max rank 0 = max (p.length : Int) 0 by omega]
  rw [hd, hz] at hv
  rw [hc]
  obtain ⟨L, hL⟩ : ∃ L, p.length = L := ⟨_, rfl⟩
  rw [hL] at hv h2 h3 ⊢
  clear A ha hx hc hd hz hL
  by_cases h : (L : Int) = m
  · obtain rfl := h3 h
    have hne : ((L : Int) != m) = false := by simpa using h
    clear h h2 h3
    go_enter Try.func60, Try.ntmps60
    go_wp2_with (go_at_call 65; refine hv.mono ?_; rintro e w1 ⟨r, rfl, R, hb⟩)
    all_goals (go_ret; exact ⟨rfl, hb⟩)
  · obtain rfl := h2 h
    have hne : ((L : Int) != m) = true := by simpa using h
    clear h h2 h3
    go_enter Try.func60, Try.ntmps60
    go_wp2
    all_goals (go_ret; exact ⟨rfl, Below.refl _ _⟩)
end
section
open Go.RowKit
set_option linter.unusedVariables false
set_option linter.unusedSimpArgs false
/-- an operation's row: its name, versions, numbers of arguments, up to which version attributes may be left out -/
structure OpR where
  name : ByteArray
  vl : Int
  vh : Int
  al : Int
  ah : Int
  lo : Int
def noO : OpR := ⟨⟨#[]⟩, 0, 0, 0, 0, 0⟩
def opsO : List OpR := [⟨⟨#[]⟩, 0, 0, 0, 0, 0⟩,
  ⟨⟨#[97, 100, 100]⟩, 1, 3, 2, 2, 0⟩,
  ⟨⟨#[115, 117, 98]⟩, 1, 3, 2, 2, 0⟩,
  ⟨⟨#[109, 117, 108]⟩, 1, 3, 2, 2, 0⟩,
  ⟨⟨#[100, 105, 118]⟩, 1, 3, 2, 2, 0⟩,
  ⟨⟨#[110, 101, 103]⟩, 1, 3, 1, 1, 0⟩,
  ⟨⟨#[112, 111, 119]⟩, 1, 3, 1, 1, 1⟩,
  ⟨⟨#[114, 101, 108, 117]⟩, 1, 3, 1, 1, 0⟩,
  ⟨⟨#[115, 116, 101, 112]⟩, 3, 3, 1, 1, 0⟩,
  ⟨⟨#[115, 99, 97, 108, 101]⟩, 3, 3, 1, 1, 0⟩,
  ⟨⟨#[109, 97, 116, 109, 117, 108]⟩, 1, 3, 2, 2, 0⟩,
  ⟨⟨#[116, 114, 97, 110, 115, 112, 111, 115, 101]⟩, 1, 3, 1, 1, 1⟩,
  ⟨⟨#[114, 101, 115, 104, 97, 112, 101]⟩, 1, 3, 1, 1, 0⟩,
  ⟨⟨#[98, 114, 111, 97, 100, 99, 97, 115, 116]⟩, 1, 3, 1, 1, 0⟩,
  ⟨⟨#[115, 117, 109]⟩, 1, 3, 1, 1, 2⟩,
  ⟨⟨#[115, 108, 105, 99, 101]⟩, 1, 3, 1, 1, 0⟩,
  ⟨⟨#[112, 97, 100]⟩, 1, 3, 1, 1, 0⟩,
  ⟨⟨#[99, 111, 110, 99, 97, 116]⟩, 1, 3, 1, 8, 1⟩,
  ⟨⟨#[115, 113, 117, 97, 114, 101]⟩, 1, 1, 1, 1, 0⟩,
  ⟨⟨#[103, 101, 109, 109]⟩, 1, 2, 3, 3, 0⟩,
  ⟨⟨#[109, 101, 97, 110]⟩, 1, 2, 1, 1, 2⟩]
def inO (o : Int) : Bool := decide (1 ≤ o ∧ o ≤ 20)
def rowO (o : Int) : OpR := opsO.getD (if inO o = true then o.toNat else 0) noO
theorem rowO_nat {k : Nat} (h : k < 20) : inO ((k : Int) + 1) = true ∧ rowO ((k : Int) + 1) = opsO.getD (k + 1) noO := by
  have h1 : inO ((k : Int) + 1) = true := decide_eq_true ⟨by omega, by omega⟩
  refine ⟨h1, ?_⟩
  unfold rowO
  rw [if_pos h1]
  rfl
theorem rowO_out {o : Int} (h : inO o = false) : rowO o = noO := by
  unfold rowO
  rw [if_neg (by rw [h]; simp)]
  rfl
theorem inO_nat {o : Int} (h : inO o = true) : ∃ k : Nat, k < 20 ∧ o = (k : Int) + 1 := by
  have := of_decide_eq_true h
  exact ⟨(o - 1).toNat, by omega, by omega⟩
/-- which attributes fit -/
def oneB (m : Int) (xs : List Int) : Bool := decide (xs.length = 1 ∧ 0 ≤ xs.getD 0 0 ∧ xs.getD 0 0 ≤ m)
def copB (p q : Int) : Bool := decide (Int.gcd p q = 1)
def fracB (xs : List Int) : Bool := decide (xs.length = 2 ∧ 1 ≤ xs.getD 1 0) && copB (xs.getD 0 0) (xs.getD 1 0)
def perB (xs : List Int) : Bool := decide (xs.length ≤ 4) && permB xs xs.length
def shB (xs : List Int) : Bool := decide (mayC xs = 0)
def pairsB (f : Int → Int → Bool) (xs : List Int) : Bool := decide (xs.length % 2 = 0 ∧ xs.length ≤ 8 ∧ ∀ k, k < xs.length → 2 * k + 1 < xs.length → f (xs.getD (2 * k) 0) (xs.getD (2 * k + 1) 0) = true)
def slB (a b : Int) : Bool := decide (0 ≤ a ∧ a < b)
def paB (a b : Int) : Bool := decide (0 ≤ a ∧ 0 ≤ b)
def noB (xs : List Int) : Bool := decide (xs.length = 0)
def fitO (o : Int) (xs : List Int) : Bool :=
  if o = 6 then oneB 16 xs else if o = 9 then fracB xs else if o = 11 then perB xs else if o = 12 ∨ o = 13 then shB xs else if o = 14 ∨ o = 20 then axesB xs 4
  else if o = 15 then pairsB slB xs else if o = 16 then pairsB paB xs else if o = 17 then oneB 3 xs else noB xs
def bndB (xs : List Int) : Bool := xs.all fun x => decide (-2147483647 ≤ x ∧ x ≤ 2147483647)
def attB (o : Int) (xs : List Int) : Bool := bndB xs && fitO o xs
def leaveB (o v : Int) (xs : List Int) : Bool := decide (xs.length = 0 ∧ v ≤ (rowO o).lo)
def verO (o v : Int) : Bool := inO o && decide ((rowO o).vl ≤ v ∧ v ≤ (rowO o).vh)
def chkO (v o : Int) (n : Nat) (xs : List Int) : Int :=
  if ¬ (1 ≤ v ∧ v ≤ 3) then 8 else if verO o v = false then 9 else if ¬ ((rowO o).al ≤ (n : Int) ∧ (n : Int) ≤ (rowO o).ah) then 10 else if leaveB o v xs = false ∧ attB o xs = false then 11 else 0
/-- what none means -/
def fwdI (r : Int) : List Int := (List.range r.toNat).map fun i : Nat => (i : Int)
def bwdI (r : Int) : List Int := (List.range r.toNat).map fun i : Nat => r - 1 - (i : Int)
def meantO (o r : Int) : List Int := if o = 6 then [2] else if o = 17 then [0] else if o = 11 then bwdI r else fwdI r
def rkI (r : Int) : Int := if 0 ≤ r ∧ r ≤ 4 then r else 0
def expO (v o : Int) (n : Nat) (xs : List Int) (r : Int) : List Int := if chkO v o n xs = 0 ∧ leaveB o v xs = true then meantO o (rkI r) else xs
theorem rkI_in (r : Int) : 0 ≤ rkI r ∧ rkI r ≤ 4 := by unfold rkI; split <;> omega
end
section
open Go.RowKit
set_option linter.unusedVariables false
set_option linter.unusedSimpArgs false
set_option maxRecDepth 100000 in
set_option maxHeartbeats 4000000 in
theorem allV_any (w : World) : Calls Try.prog 39 #[] w fun e w' => e = .returned (.agg #[.int .i64 1, .int .i64 3]) ∧ Below w.heap.size w w' := by
  obtain ⟨W, hW⟩ : ∃ W, w.alloc (.cells #[.int .i64 0, .int .i64 0] 48) = W := ⟨_, rfl⟩
  have R : Row W w.heap.size 48 #[.int .i64 0, .int .i64 0] := by rw [← hW]; exact Row.new _ _ _
  have hb : Below w.heap.size w W := by rw [← hW]; exact (Below.refl _ _).alloc (Nat.le_refl _) _
  obtain ⟨c0, c1, f0, f1⟩ := R.two
  obtain ⟨z0, z1, _, _⟩ := (R.set2 (.int .i64 1) (.int .i64 3)).two
  have hE := below_set2 hb (Nat.le_refl _) (.int .i64 1) (.int .i64 3)
  go_enter Try.func39, Try.ntmps39
  (try rw [hW])
  go_wp2_with fail
  exact bodyPost_ret (v := .agg #[.int .i64 1, .int .i64 3]) (by simp [results, Try.results39, go_sem, z0, z1]) rfl ⟨rfl, hE⟩
/-- is a number from low to high? -/
def hasB (a b n : Int) : Bool := decide (a ≤ n ∧ n ≤ b)
set_option maxRecDepth 100000 in
set_option maxHeartbeats 4000000 in
theorem has_any (a b n : Int) (w : World) : Calls Try.prog 29 #[.agg #[.int .i64 a, .int .i64 b], .int .i64 n] w fun e w' => e = .returned (.bool (hasB a b n)) ∧ Below w.heap.size w w' := by
  obtain ⟨c, hc⟩ : ∃ c, hasB a b n = c := ⟨_, rfl⟩
  rw [hc]
  obtain ⟨W, hW⟩ : ∃ W, w.alloc (.cells #[.int .i64 a, .int .i64 b] 48) = W := ⟨_, rfl⟩
  have R : Row W w.heap.size 48 #[.int .i64 a, .int .i64 b] := by rw [← hW]; exact Row.new _ _ _
  have hb : Below w.heap.size w W := by rw [← hW]; exact (Below.refl _ _).alloc (Nat.le_refl _) _
  obtain ⟨c0, c1, _, _⟩ := R.two
  by_cases h1 : a ≤ n
  · by_cases h2 : n ≤ b
    · obtain rfl : c = true := by rw [← hc]; unfold hasB; exact decide_eq_true (by omega)
      clear hc
      go_enter Try.func29, Try.ntmps29
      (try rw [hW])
      go_wp2_with fail
      go_ret
      exact ⟨rfl, hb⟩
    · obtain rfl : c = false := by rw [← hc]; unfold hasB; exact decide_eq_false (by omega)
      clear hc
      go_enter Try.func29, Try.ntmps29
      (try rw [hW])
      go_wp2_with fail
      go_ret
      exact ⟨rfl, hb⟩
  · obtain rfl : c = false := by rw [← hc]; unfold hasB; exact decide_eq_false (by omega)
    clear hc
    go_enter Try.func29, Try.ntmps29
    (try rw [hW])
    go_wp2_with fail
    go_ret
    exact ⟨rfl, hb⟩
end
end Go.Proofs.Ytnhbngeipedplaa
