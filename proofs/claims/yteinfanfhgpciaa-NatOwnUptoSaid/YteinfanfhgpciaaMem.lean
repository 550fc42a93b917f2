/-
  Memory of limbs: what a slice of limbs reads, blocks that are known whole, results in new memory.
-/
import Derived.Test.YteinfanfhgpciaaLeaf
import Derived.Maps.AppendAt
namespace Go.Proofs.Yteinfanfhgpciaa
open Go.RowKit

theorem Lim.nil (w : World) (ad : Option Addr) : Lim w ad [] := .inl rfl
theorem Lim.below {w w' : World} {ad : Option Addr} {xs : List Int} {B : Nat} (h : Lim w ad xs) (hb : Below B w w') (hB : ∀ a, ad = some a → a.block < B) : Lim w' ad xs := by
  rcases h with rfl | ⟨b, off, rfl, hc⟩
  · exact .inl rfl
  · exact .inr ⟨b, off, rfl, fun i hi => (hb.cell (p := ⟨b, off + i, none⟩) (hB ⟨b, off, none⟩ rfl)).trans (hc i hi)⟩
theorem Lim.later {w w' : World} {ad : Option Addr} {xs : List Int} (h : Lim w ad xs) (hb : Below w.heap.size w w') : Lim w' ad xs := by
  rcases h with rfl | ⟨b, off, rfl, hc⟩
  · exact .inl rfl
  · refine .inr ⟨b, off, rfl, fun i hi => ?_⟩
    have hlt := World.block_lt_of_cell? w _ (hc i hi)
    exact (hb.cell (p := ⟨b, off + i, none⟩) hlt).trans (hc i hi)
theorem Lim.take {w : World} {ad : Option Addr} {xs : List Int} (h : Lim w ad xs) (n : Nat) : Lim w ad (xs.take n) := by
  rcases h with rfl | ⟨b, off, rfl, hc⟩
  · exact .inl (by simp)
  · refine .inr ⟨b, off, rfl, fun i hi => ?_⟩
    rw [List.length_take] at hi
    rw [hc i (by omega)]
    simp [show i < n by omega]

theorem Lim.lt {w : World} {ad : Option Addr} {xs : List Int} (h : Lim w ad xs) (hn : xs ≠ []) : ∀ a, ad = some a → a.block < w.heap.size := by
  rcases h with rfl | ⟨b, off, rfl, hc⟩
  · exact absurd rfl hn
  · intro a ha
    cases ha
    exact World.block_lt_of_cell? w _ (hc 0 (List.length_pos_iff.2 hn))

/-- a block of limbs, known whole -/
def Blk (w : World) (g : Nat) (zs : List Int) : Prop := w.heap[g]? = some (.cells (zs.map (Value.int .u32)).toArray 56 (0, 0))

theorem Blk.cell {w : World} {g : Nat} {zs : List Int} (h : Blk w g zs) (i : Nat) (hi : i < zs.length) : w.cell? ⟨g, i, none⟩ = some (.int .u32 (zs.getD i 0)) := by
  have e : w.cell? ⟨g, i, none⟩ = ((zs.map (Value.int .u32)).toArray)[i]? := cell_of_row w g i _ 56 (0, 0) h
  rw [e]; simp [hi]
theorem Blk.free {w : World} {g : Nat} {zs : List Int} (h : Blk w g zs) (i : Nat) : w.frozen? ⟨g, i, none⟩ = false := by
  exact frozen_of_row w g i _ 56 h
theorem Blk.lt {w : World} {g : Nat} {zs : List Int} (h : Blk w g zs) : g < w.heap.size := lt_of_block h
theorem Blk.same {w w' : World} {g : Nat} {zs : List Int} (h : Blk w g zs) (e : w'.heap[g]? = w.heap[g]?) : Blk w' g zs := e.trans h
theorem Blk.alloc {w : World} {g : Nat} {zs : List Int} (h : Blk w g zs) (o : Obj) : Blk (w.alloc o) g zs := h.same (Below.heap_alloc _ _ _ h.lt)
theorem Blk.only {w w' : World} {g b : Nat} {zs : List Int} (h : Blk w g zs) (k : Only b w w') (hb : g ≠ b) : Blk w' g zs := h.same (k.block g hb)
theorem Blk.below {w w' : World} {g B : Nat} {zs : List Int} (h : Blk w g zs) (k : Below B w w') (hb : g < B) : Blk w' g zs := h.same (k.block g hb)
theorem Blk.set {w : World} {g : Nat} {zs : List Int} (h : Blk w g zs) (i : Nat) (x : Int) : Blk (w.setCell ⟨g, i, none⟩ (.int .u32 x)) g (zs.set i x) := by
  have hh := heap_setCell_same w g i _ 56 (.int .u32 x) h
  unfold Blk
  rw [hh]
  congr 2
  simp [List.map_set]
theorem Blk.made (w : World) (n : Nat) : Blk (w.alloc (.cells (madeCells #[.int .u32 0] n) 56)) w.heap.size (List.replicate n 0) := by
  have h := heap_alloc_new w (.cells (madeCells #[.int .u32 0] n) 56)
  unfold Blk
  rw [h]
  congr 2
  apply Array.ext
  · simp [madeCells]
  · intro i h1 h2
    simp [madeCells, Nat.mod_one]

/-- v is a slice of the call's own limbs xs -/
def Num (base : Nat) (w : World) (v : Value) (xs : List Int) : Prop := w.ownsRow base 56 1 v xs.length (xs.map (Value.int .u32))

theorem Num.read {base : Nat} {w : World} {v : Value} {xs : List Int} (h : Num base w v xs) : ∃ ad cap, v = .slice ad xs.length cap ∧ Lim w ad xs ∧ xs.length ≤ cap ∧ cap ≤ maxLen ∧ (∀ a, ad = some a → base ≤ a.block ∧ a.block < w.heap.size) := by
  obtain ⟨h1, h2⟩ := h
  rcases h2 with ⟨rfl, hn⟩ | ⟨g, cap, cur, rfl, hb, hg, hc, hm, hs, ht⟩
  · obtain rfl := List.eq_nil_of_length_eq_zero hn
    exact ⟨none, 0, rfl, .inl rfl, Nat.le_refl _, by unfold maxLen; omega, fun a ha => by cases ha⟩
  · refine ⟨_, cap, rfl, .inr ⟨g, 0, rfl, fun i hi => ?_⟩, hc, hm, fun a ha => by cases ha; exact ⟨hb, lt_of_block hg⟩⟩
    have hj := World.ownsRow.cellAt (w := w) (base := base) (e := 56) (size := 1) (g := g) (n := xs.length) (cap := cap) (xs := xs.map (Value.int .u32)) ⟨h1, .inr ⟨g, cap, cur, rfl, hb, hg, hc, hm, hs, ht⟩⟩ i (by omega)
    rw [Nat.zero_add, hj]
    simp [hi]
theorem Num.cut {base : Nat} {w : World} {ad : Option Addr} {xs : List Int} {n cap : Nat} (h : Num base w (.slice ad n cap) xs) : Num base w (.slice ad (trimN xs xs.length) cap) (trim xs) := by
  have hl := trim_le xs
  unfold Num at *
  rw [trim_length]
  obtain ⟨h1, h2⟩ := h
  rcases h2 with ⟨hv, hn⟩ | ⟨g, cap', cur, hv, hb, hg, hc, hm, hs, ht⟩
  · obtain rfl := List.eq_nil_of_length_eq_zero hn
    cases hv
    exact ⟨rfl, .inl ⟨rfl, rfl⟩⟩
  · cases hv
    refine ⟨by rw [List.length_map, trim_length, Nat.mul_one], .inr ⟨g, cap, cur, rfl, hb, hg, by omega, hm, hs, ?_⟩⟩
    unfold trim
    rw [List.map_take, ← ht, List.take_take]
    congr 1
    omega
theorem Num.ofBlk {base g : Nat} {w : World} {zs : List Int} (h : Blk w g zs) (hb : base ≤ g) (n : Nat) (hn : n ≤ zs.length) (hm : zs.length ≤ maxLen) : Num base w (.slice (some ⟨g, 0, none⟩) n zs.length) (zs.take n) := by
  have e : (zs.take n).length = n := by rw [List.length_take]; omega
  unfold Num
  rw [e]
  refine ⟨by rw [List.length_map, e, Nat.mul_one], .inr ⟨g, zs.length, _, rfl, hb, h, hn, hm, by simp, ?_⟩⟩
  simp [List.map_take]
theorem Num.lt {base : Nat} {w : World} {v : Value} {xs : List Int} (h : Num base w v xs) : ∀ k, v.ownBlock = some k → base ≤ k ∧ k < w.heap.size := World.ownsRow.lt h
theorem Num.kept {base B : Nat} {w w' : World} {v : Value} {xs : List Int} (h : Num base w v xs) (hb : Below B w w') (hB : ∀ k, v.ownBlock = some k → k < B) : Num base w' v xs := by
  obtain ⟨h1, h2⟩ := h
  refine ⟨h1, ?_⟩
  rcases h2 with h2 | ⟨g, cap, cur, rfl, hg0, hg, hc, hm, hs, ht⟩
  · exact .inl h2
  · exact .inr ⟨g, cap, cur, rfl, hg0, (hb.block g (hB g rfl)).trans hg, hc, hm, hs, ht⟩
theorem Num.later {base : Nat} {w w' : World} {v : Value} {xs : List Int} (h : Num base w v xs) (hb : Below w.heap.size w w') : Num base w' v xs := h.kept hb fun k hk => (h.lt k hk).2
theorem Num.mono {base base' : Nat} {w : World} {v : Value} {xs : List Int} (h : Num base w v xs) (hb : base' ≤ base) : Num base' w v xs := by
  obtain ⟨h1, h2⟩ := h
  refine ⟨h1, ?_⟩
  rcases h2 with h2 | ⟨g, cap, cur, rfl, hg0, hg, hc, hm, hs, ht⟩
  · exact .inl h2
  · exact .inr ⟨g, cap, cur, rfl, Nat.le_trans hb hg0, hg, hc, hm, hs, ht⟩
theorem cut_still (ad : Option Addr) (xs : List Int) (cap : Nat) (w : World) (hl : Lim w ad xs) (hm : xs.length ≤ 35184372088832) (hcap : xs.length ≤ cap) :
    Calls Try.prog 38 #[.slice ad xs.length cap] w fun e w' => e = .returned (.slice ad (trimN xs xs.length) cap) ∧ w' = w :=
  (cut_any ad xs cap w hl (by unfold maxLen; omega) hcap).mono fun _ _ ⟨he, hw⟩ => ⟨he, hw.symm⟩
theorem cut_num {base : Nat} {v : Value} {xs : List Int} {w : World} (h : Num base w v xs) :
    Calls Try.prog 38 #[v] w fun e w' => ∃ u, e = .returned u ∧ Num base w u (trim xs) ∧ w = w' := by
  obtain ⟨ad, cap, rfl, hl, hc, hm, _⟩ := h.read
  exact (cut_any ad xs cap w hl (by omega) hc).mono fun e w' ⟨he, hw⟩ => ⟨_, he, h.cut, hw⟩

theorem Blk.grown {w w' : World} {g : Nat} {row : Option Nat} {zs : List Int} (h : Blk w g zs) (k : w.grownBy w' row) (hb : some g ≠ row) : Blk w' g zs := h.same (k.block g h.lt hb)

/-! ## the carrier, with the parts in a new block -/
def Stepped (b : Nat) (v : Int) (w w' : World) : Prop := w'.heap[b]? = some (.cells #[.int .u64 v] 22 (0, 0)) ∧ w.grownBy w' (some b)

theorem Only.grown {b : Nat} {w w' : World} (h : Only b w w') : w.grownBy w' (some b) := ⟨h.os, h.tape, h.output, Nat.le_of_eq h.size.symm, fun k _ hb => h.block k (fun e => hb (by rw [e]))⟩
theorem grown_alloc_only {b : Nat} {w w' : World} {o : Obj} (h : Only b (w.alloc o) w') : w.grownBy w' (some b) :=
  ⟨h.os, h.tape, h.output, by have := h.size; simp at this; omega, fun k hk hb => (h.block k (fun e => hb (by rw [e]))).trans (Below.heap_alloc _ _ _ hk)⟩

theorem carry2 (c x y : Int) (b : Nat) (w : World) (hc : 0 ≤ c) (hx : 0 ≤ x) (hy : 0 ≤ y) (hs : c + x + y < 18446744073709551616) (hb : w.heap[b]? = some (.cells #[.int .u64 c] 22 (0, 0))) :
    Calls Try.prog 56 #[.slice (some ⟨w.heap.size, 0, none⟩) 2 2, .pointer (some ⟨b, 0, none⟩)] (w.alloc (.cells #[.int .u64 x, .int .u64 y] 22)) fun e w' =>
      e = .returned (.int .u32 ((c + x + y) % 4294967296)) ∧ Stepped b ((c + x + y) / 4294967296) w w' := by
  have hlt := lt_of_block hb
  have e : c + sumL [x, y] = c + x + y := by simp only [sumL]; omega
  have h := carry_any c [x, y] b (some ⟨w.heap.size, 0, none⟩) (w.alloc (.cells #[.int .u64 x, .int .u64 y] 22)) hc (by intro z hz; simp at hz; omega) (by omega) (by simp)
    ((Below.heap_alloc _ _ _ hlt).trans hb) (fun _ => ⟨w.heap.size, rfl, by omega, fun i hi => by
      rw [cell_of_row _ _ _ _ _ _ (heap_alloc_new w _)]
      match i, hi with
      | 0, _ => rfl
      | 1, _ => rfl⟩)
  rw [e] at h
  exact h.mono fun e w' ⟨he, hh, ho⟩ => ⟨he, hh, grown_alloc_only ho⟩
theorem carry1 (c x : Int) (b : Nat) (w : World) (hc : 0 ≤ c) (hx : 0 ≤ x) (hs : c + x < 18446744073709551616) (hb : w.heap[b]? = some (.cells #[.int .u64 c] 22 (0, 0))) :
    Calls Try.prog 56 #[.slice (some ⟨w.heap.size, 0, none⟩) 1 1, .pointer (some ⟨b, 0, none⟩)] (w.alloc (.cells #[.int .u64 x] 22)) fun e w' =>
      e = .returned (.int .u32 ((c + x) % 4294967296)) ∧ Stepped b ((c + x) / 4294967296) w w' := by
  have hlt := lt_of_block hb
  have e : c + sumL [x] = c + x := by simp only [sumL]; omega
  have h := carry_any c [x] b (some ⟨w.heap.size, 0, none⟩) (w.alloc (.cells #[.int .u64 x] 22)) hc (by intro z hz; simp at hz; omega) (by omega) (by simp)
    ((Below.heap_alloc _ _ _ hlt).trans hb) (fun _ => ⟨w.heap.size, rfl, by omega, fun i hi => by
      rw [cell_of_row _ _ _ _ _ _ (heap_alloc_new w _)]
      match i, hi with
      | 0, _ => rfl⟩)
  rw [e] at h
  exact h.mono fun e w' ⟨he, hh, ho⟩ => ⟨he, hh, grown_alloc_only ho⟩
theorem carry0 (c : Int) (b : Nat) (w : World) (hc : 0 ≤ c) (hs : c < 18446744073709551616) (hb : w.heap[b]? = some (.cells #[.int .u64 c] 22 (0, 0))) :
    Calls Try.prog 56 #[.slice none 0 0, .pointer (some ⟨b, 0, none⟩)] w fun e w' =>
      e = .returned (.int .u32 (c % 4294967296)) ∧ Stepped b (c / 4294967296) w w' := by
  have e : c + sumL [] = c := by simp [sumL]
  have h := carry_any c [] b none w hc (by intro z hz; cases hz) (by omega) (by simp) hb (fun h => absurd rfl h)
  rw [e] at h
  exact h.mono fun e w' ⟨he, hh, ho⟩ => ⟨he, hh, ho.grown⟩
end Go.Proofs.Yteinfanfhgpciaa
