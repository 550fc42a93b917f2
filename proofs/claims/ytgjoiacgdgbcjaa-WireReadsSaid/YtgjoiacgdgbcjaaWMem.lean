/-
  Memory of bytes: slices of uint8. (Made out of the texts for limbs by wip/gen/gen_wmem.py.)
-/
import Derived.Test.YtgjoiacgdgbcjaaMath
import Derived.Test.YtgjoiacgdgbcjaaRows
import Derived.WalkKit
import Derived.BigQuiet
import Derived.Deep.QuietTactic
import Derived.Lib.Hide
import Derived.IntWalk
import Derived.Maps.AppendAt
namespace Go.Proofs.Ytgjoiacgdgbcjaa
open Go.RowKit
set_option linter.unusedVariables false
set_option linter.unusedSimpArgs false

/-- the bytes xs lie from the address ad on -/
def LimB (w : World) (ad : Option Addr) (xs : List Int) : Prop :=
  xs = [] ∨ ∃ b off, ad = some ⟨b, off, none⟩ ∧ ∀ i, i < xs.length → w.cell? ⟨b, off + i, none⟩ = some (.int .u8 (xs.getD i 0))

theorem LimB.nil (w : World) (ad : Option Addr) : LimB w ad [] := .inl rfl
theorem LimB.below {w w' : World} {ad : Option Addr} {xs : List Int} {B : Nat} (h : LimB w ad xs) (hb : Below B w w') (hB : ∀ a, ad = some a → a.block < B) : LimB w' ad xs := by
  rcases h with rfl | ⟨b, off, rfl, hc⟩
  · exact .inl rfl
  · exact .inr ⟨b, off, rfl, fun i hi => (hb.cell (p := ⟨b, off + i, none⟩) (hB ⟨b, off, none⟩ rfl)).trans (hc i hi)⟩
theorem LimB.later {w w' : World} {ad : Option Addr} {xs : List Int} (h : LimB w ad xs) (hb : Below w.heap.size w w') : LimB w' ad xs := by
  rcases h with rfl | ⟨b, off, rfl, hc⟩
  · exact .inl rfl
  · refine .inr ⟨b, off, rfl, fun i hi => ?_⟩
    have hlt := World.block_lt_of_cell? w _ (hc i hi)
    exact (hb.cell (p := ⟨b, off + i, none⟩) hlt).trans (hc i hi)
theorem LimB.take {w : World} {ad : Option Addr} {xs : List Int} (h : LimB w ad xs) (n : Nat) : LimB w ad (xs.take n) := by
  rcases h with rfl | ⟨b, off, rfl, hc⟩
  · exact .inl (by simp)
  · refine .inr ⟨b, off, rfl, fun i hi => ?_⟩
    rw [List.length_take] at hi
    rw [hc i (by omega)]
    simp [show i < n by omega]

theorem LimB.lt {w : World} {ad : Option Addr} {xs : List Int} (h : LimB w ad xs) (hn : xs ≠ []) : ∀ a, ad = some a → a.block < w.heap.size := by
  rcases h with rfl | ⟨b, off, rfl, hc⟩
  · exact absurd rfl hn
  · intro a ha
    cases ha
    exact World.block_lt_of_cell? w _ (hc 0 (List.length_pos_iff.2 hn))

/-- v is a slice of the call's own bytes xs -/
def NumB (base : Nat) (w : World) (v : Value) (xs : List Int) : Prop := w.ownsRow base 5 1 v xs.length (xs.map (Value.int .u8))

theorem NumB.read {base : Nat} {w : World} {v : Value} {xs : List Int} (h : NumB base w v xs) : ∃ ad cap, v = .slice ad xs.length cap ∧ LimB w ad xs ∧ xs.length ≤ cap ∧ cap ≤ maxLen ∧ (∀ a, ad = some a → base ≤ a.block ∧ a.block < w.heap.size) := by
  obtain ⟨h1, h2⟩ := h
  rcases h2 with ⟨rfl, hn⟩ | ⟨g, cap, cur, rfl, hb, hg, hc, hm, hs, ht⟩
  · obtain rfl := List.eq_nil_of_length_eq_zero hn
    exact ⟨none, 0, rfl, .inl rfl, Nat.le_refl _, by unfold maxLen; omega, fun a ha => by cases ha⟩
  · refine ⟨_, cap, rfl, .inr ⟨g, 0, rfl, fun i hi => ?_⟩, hc, hm, fun a ha => by cases ha; exact ⟨hb, lt_of_block hg⟩⟩
    have hj := World.ownsRow.cellAt (w := w) (base := base) (e := 5) (size := 1) (g := g) (n := xs.length) (cap := cap) (xs := xs.map (Value.int .u8)) ⟨h1, .inr ⟨g, cap, cur, rfl, hb, hg, hc, hm, hs, ht⟩⟩ i (by omega)
    rw [Nat.zero_add, hj]
    simp [hi]
theorem NumB.lt {base : Nat} {w : World} {v : Value} {xs : List Int} (h : NumB base w v xs) : ∀ k, v.ownBlock = some k → base ≤ k ∧ k < w.heap.size := World.ownsRow.lt h
theorem NumB.kept {base B : Nat} {w w' : World} {v : Value} {xs : List Int} (h : NumB base w v xs) (hb : Below B w w') (hB : ∀ k, v.ownBlock = some k → k < B) : NumB base w' v xs := by
  obtain ⟨h1, h2⟩ := h
  refine ⟨h1, ?_⟩
  rcases h2 with h2 | ⟨g, cap, cur, rfl, hg0, hg, hc, hm, hs, ht⟩
  · exact .inl h2
  · exact .inr ⟨g, cap, cur, rfl, hg0, (hb.block g (hB g rfl)).trans hg, hc, hm, hs, ht⟩
theorem NumB.later {base : Nat} {w w' : World} {v : Value} {xs : List Int} (h : NumB base w v xs) (hb : Below w.heap.size w w') : NumB base w' v xs := h.kept hb fun k hk => (h.lt k hk).2
theorem NumB.mono {base base' : Nat} {w : World} {v : Value} {xs : List Int} (h : NumB base w v xs) (hb : base' ≤ base) : NumB base' w v xs := by
  obtain ⟨h1, h2⟩ := h
  refine ⟨h1, ?_⟩
  rcases h2 with h2 | ⟨g, cap, cur, rfl, hg0, hg, hc, hm, hs, ht⟩
  · exact .inl h2
  · exact .inr ⟨g, cap, cur, rfl, Nat.le_trans hb hg0, hg, hc, hm, hs, ht⟩

/-- a block of bytes, known whole -/
def BlkB (w : World) (g : Nat) (zs : List Int) : Prop := w.heap[g]? = some (.cells (zs.map (Value.int .u8)).toArray 5 (0, 0))

theorem BlkB.cell {w : World} {g : Nat} {zs : List Int} (h : BlkB w g zs) (i : Nat) (hi : i < zs.length) : w.cell? ⟨g, i, none⟩ = some (.int .u8 (zs.getD i 0)) := by
  have e : w.cell? ⟨g, i, none⟩ = ((zs.map (Value.int .u8)).toArray)[i]? := cell_of_row w g i _ 5 (0, 0) h
  rw [e]; simp [hi]
theorem BlkB.free {w : World} {g : Nat} {zs : List Int} (h : BlkB w g zs) (i : Nat) : w.frozen? ⟨g, i, none⟩ = false := by
  exact frozen_of_row w g i _ 5 h
theorem BlkB.lt {w : World} {g : Nat} {zs : List Int} (h : BlkB w g zs) : g < w.heap.size := lt_of_block h
theorem BlkB.same {w w' : World} {g : Nat} {zs : List Int} (h : BlkB w g zs) (e : w'.heap[g]? = w.heap[g]?) : BlkB w' g zs := e.trans h
theorem BlkB.alloc {w : World} {g : Nat} {zs : List Int} (h : BlkB w g zs) (o : Obj) : BlkB (w.alloc o) g zs := h.same (Below.heap_alloc _ _ _ h.lt)
theorem BlkB.only {w w' : World} {g b : Nat} {zs : List Int} (h : BlkB w g zs) (k : Only b w w') (hb : g ≠ b) : BlkB w' g zs := h.same (k.block g hb)
theorem BlkB.below {w w' : World} {g B : Nat} {zs : List Int} (h : BlkB w g zs) (k : Below B w w') (hb : g < B) : BlkB w' g zs := h.same (k.block g hb)
theorem BlkB.set {w : World} {g : Nat} {zs : List Int} (h : BlkB w g zs) (i : Nat) (x : Int) : BlkB (w.setCell ⟨g, i, none⟩ (.int .u8 x)) g (zs.set i x) := by
  have hh := heap_setCell_same w g i _ 5 (.int .u8 x) h
  unfold BlkB
  rw [hh]
  congr 2
  simp [List.map_set]
theorem BlkB.made (w : World) (n : Nat) : BlkB (w.alloc (.cells (madeCells #[.int .u8 0] n) 5)) w.heap.size (List.replicate n 0) := by
  have h := heap_alloc_new w (.cells (madeCells #[.int .u8 0] n) 5)
  unfold BlkB
  rw [h]
  congr 2
  apply Array.ext
  · simp [madeCells]
  · intro i h1 h2
    simp [madeCells, Nat.mod_one]

theorem NumB.ofBlk {base g : Nat} {w : World} {zs : List Int} (h : BlkB w g zs) (hb : base ≤ g) (n : Nat) (hn : n ≤ zs.length) (hm : zs.length ≤ maxLen) : NumB base w (.slice (some ⟨g, 0, none⟩) n zs.length) (zs.take n) := by
  have e : (zs.take n).length = n := by rw [List.length_take]; omega
  unfold NumB
  rw [e]
  refine ⟨by rw [List.length_map, e, Nat.mul_one], .inr ⟨g, zs.length, _, rfl, hb, h, hn, hm, by simp, ?_⟩⟩
  simp [List.map_take]
theorem BlkB.grown {w w' : World} {g : Nat} {row : Option Nat} {zs : List Int} (h : BlkB w g zs) (k : w.grownBy w' row) (hb : some g ≠ row) : BlkB w' g zs := h.same (k.block g h.lt hb)

/-- all are bytes -/
def Byt (xs : List Int) : Prop := ∀ x ∈ xs, 0 ≤ x ∧ x < 256
theorem Byt.nil : Byt [] := fun _ h => by cases h
theorem Byt.append {xs ys : List Int} (h : Byt xs) (k : Byt ys) : Byt (xs ++ ys) := fun x hx => (List.mem_append.1 hx).elim (h x) (k x)
theorem Byt.one {x : Int} (h : 0 ≤ x ∧ x < 256) : Byt [x] := fun y hy => by rw [List.mem_singleton.1 hy]; exact h
theorem Byt.take {xs : List Int} (h : Byt xs) (n : Nat) : Byt (xs.take n) := fun x hx => h x (List.mem_of_mem_take hx)
theorem Byt.drop {xs : List Int} (h : Byt xs) (n : Nat) : Byt (xs.drop n) := fun x hx => h x (List.mem_of_mem_drop hx)
theorem Byt.getD {xs : List Int} (h : Byt xs) (i : Nat) : 0 ≤ xs.getD i 0 ∧ xs.getD i 0 < 256 := by
  by_cases hi : i < xs.length
  · rw [List.getD_eq_getElem?_getD, List.getElem?_eq_getElem hi]; exact h _ (List.getElem_mem hi)
  · simp [List.getElem?_eq_none (Nat.le_of_not_lt hi)]
/-- an argument: bytes -/
structure ArgB (w : World) (u : Value) (xs : List Int) (ad : Option Addr) (cap : Nat) : Prop where
  is : u = .slice ad xs.length cap
  lim : LimB w ad xs
  le : xs.length ≤ cap
  wf : Byt xs
theorem ArgB.later {w w' : World} {u : Value} {xs : List Int} {ad : Option Addr} {cap : Nat} (h : ArgB w u xs ad cap) (hb : Below w.heap.size w w') : ArgB w' u xs ad cap := ⟨h.is, h.lim.later hb, h.le, h.wf⟩
/-- a result: bytes in new memory -/
structure ResB (base : Nat) (w : World) (u : Value) (xs : List Int) : Prop where
  num : NumB base w u xs
  wf : Byt xs
theorem ResB.later {base : Nat} {w w' : World} {u : Value} {xs : List Int} (h : ResB base w u xs) (hb : Below w.heap.size w w') : ResB base w' u xs := ⟨h.num.later hb, h.wf⟩
theorem ResB.arg {base : Nat} {w : World} {u : Value} {xs : List Int} (h : ResB base w u xs) : ∃ ad cap, ArgB w u xs ad cap := by
  obtain ⟨ad, cap, h1, h2, h3, _, _⟩ := h.num.read
  exact ⟨ad, cap, h1, h2, h3, h.wf⟩
theorem infoByte : (Try.prog.info? 5).map (fun i => (i.zero, i.size, i.bytes)) = some (some (.int .u8 0), 1, 1) := by kernel_rfl
theorem pushB {base : Nat} {w wr w1 : World} {v v' : Value} {ds : List Int} {d : Int} {o : Obj} (hb : Below base w wr) (hbase : base ≤ wr.heap.size) (hown : NumB base wr v ds)
    (hown' : w1.ownsRow base 5 1 v' (ds.length + 1) (ds.map (Value.int .u8) ++ [Value.int .u8 d])) (hgrow : (wr.alloc o).grownBy w1 v.ownBlock) : NumB base w1 v' (ds ++ [d]) ∧ Below base w w1 := by
  refine ⟨?_, (hb.alloc hbase o).grown hgrow (by simp; omega) (fun k hk => (hown.lt k hk).1)⟩
  unfold NumB
  rw [List.length_append, List.map_append]
  exact hown'
end Go.Proofs.Ytgjoiacgdgbcjaa
