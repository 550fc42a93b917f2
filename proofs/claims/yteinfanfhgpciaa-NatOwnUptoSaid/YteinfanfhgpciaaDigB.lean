/-
  Blocks of digits. (Made out of the texts for limbs by wip/gen/gen_digb.py.)
-/
import Derived.Test.YteinfanfhgpciaaRefA
import Derived.Test.YteinfanfhgpciaaNat2
namespace Go.Proofs.Yteinfanfhgpciaa
open Go.RowKit

/-- a block of limbs, known whole -/
def BlkI (w : World) (g : Nat) (zs : List Int) : Prop := w.heap[g]? = some (.cells (zs.map (Value.int .i64)).toArray 3 (0, 0))

theorem BlkI.cell {w : World} {g : Nat} {zs : List Int} (h : BlkI w g zs) (i : Nat) (hi : i < zs.length) : w.cell? ⟨g, i, none⟩ = some (.int .i64 (zs.getD i 0)) := by
  have e : w.cell? ⟨g, i, none⟩ = ((zs.map (Value.int .i64)).toArray)[i]? := cell_of_row w g i _ 3 (0, 0) h
  rw [e]; simp [hi]
theorem BlkI.free {w : World} {g : Nat} {zs : List Int} (h : BlkI w g zs) (i : Nat) : w.frozen? ⟨g, i, none⟩ = false := by
  exact frozen_of_row w g i _ 3 h
theorem BlkI.lt {w : World} {g : Nat} {zs : List Int} (h : BlkI w g zs) : g < w.heap.size := lt_of_block h
theorem BlkI.same {w w' : World} {g : Nat} {zs : List Int} (h : BlkI w g zs) (e : w'.heap[g]? = w.heap[g]?) : BlkI w' g zs := e.trans h
theorem BlkI.alloc {w : World} {g : Nat} {zs : List Int} (h : BlkI w g zs) (o : Obj) : BlkI (w.alloc o) g zs := h.same (Below.heap_alloc _ _ _ h.lt)
theorem BlkI.only {w w' : World} {g b : Nat} {zs : List Int} (h : BlkI w g zs) (k : Only b w w') (hb : g ≠ b) : BlkI w' g zs := h.same (k.block g hb)
theorem BlkI.below {w w' : World} {g B : Nat} {zs : List Int} (h : BlkI w g zs) (k : Below B w w') (hb : g < B) : BlkI w' g zs := h.same (k.block g hb)
theorem BlkI.set {w : World} {g : Nat} {zs : List Int} (h : BlkI w g zs) (i : Nat) (x : Int) : BlkI (w.setCell ⟨g, i, none⟩ (.int .i64 x)) g (zs.set i x) := by
  have hh := heap_setCell_same w g i _ 3 (.int .i64 x) h
  unfold BlkI
  rw [hh]
  congr 2
  simp [List.map_set]
theorem BlkI.made (w : World) (n : Nat) : BlkI (w.alloc (.cells (madeCells #[.int .i64 0] n) 3)) w.heap.size (List.replicate n 0) := by
  have h := heap_alloc_new w (.cells (madeCells #[.int .i64 0] n) 3)
  unfold BlkI
  rw [h]
  congr 2
  apply Array.ext
  · simp [madeCells]
  · intro i h1 h2
    simp [madeCells, Nat.mod_one]

theorem NumI.ofBlk {base g : Nat} {w : World} {zs : List Int} (h : BlkI w g zs) (hb : base ≤ g) (n : Nat) (hn : n ≤ zs.length) (hm : zs.length ≤ maxLen) : NumI base w (.slice (some ⟨g, 0, none⟩) n zs.length) (zs.take n) := by
  have e : (zs.take n).length = n := by rw [List.length_take]; omega
  unfold NumI
  rw [e]
  refine ⟨by rw [List.length_map, e, Nat.mul_one], .inr ⟨g, zs.length, _, rfl, hb, h, hn, hm, by simp, ?_⟩⟩
  simp [List.map_take]
theorem BlkI.grown {w w' : World} {g : Nat} {row : Option Nat} {zs : List Int} (h : BlkI w g zs) (k : w.grownBy w' row) (hb : some g ≠ row) : BlkI w' g zs := h.same (k.block g h.lt hb)

/-- make([]limb, n, c) -/
theorem makeI_run (n c : Int) (h0 : 0 ≤ n) (hnc : n ≤ c) (hc : c ≤ 17592186044416) (w : World) :
    (Instr.makeSlice 30 (.int .i64 n) (.int .i64 c)).run Try.prog w = .ok (.slice (some ⟨w.heap.size, 0, none⟩) n.toNat c.toNat) (w.alloc (.cells (madeCells #[.int .i64 0] c.toNat) 3)) := by
  obtain ⟨i0, hi, hz0, hz1, hz2⟩ := info_parts infoInt
  have h := run_make (P := Try.prog) w 30 3 i0 (.int .i64 0) Try.underlying30 hi hz0 .i64 .i64 n c h0 hnc (by rw [hz2]; omega) (by omega)
  simpa [hz1, Value.cells] using h

theorem makeI_runN (n c : Nat) (hnc : n ≤ c) (hc : c ≤ 17592186044416) (w : World) :
    (Instr.makeSlice 30 (.int .i64 n) (.int .i64 c)).run Try.prog w = .ok (.slice (some ⟨w.heap.size, 0, none⟩) n c) (w.alloc (.cells (madeCells #[.int .i64 0] c) 3)) := by
  simpa using makeI_run n c (by omega) (by omega) (by omega) w

theorem makeI_run0 (c : Nat) (hc : c ≤ 17592186044416) (w : World) :
    (Instr.makeSlice 30 (.int .i64 0) (.int .i64 c)).run Try.prog w = .ok (.slice (some ⟨w.heap.size, 0, none⟩) 0 c) (w.alloc (.cells (madeCells #[.int .i64 0] c) 3)) := by
  simpa using makeI_run 0 c (by omega) (by omega) (by omega) w

end Go.Proofs.Yteinfanfhgpciaa
