/-
  Memory of digits: slices of int. (Made out of the texts for limbs by wip/gen/gen_dig.py.)
-/
import Derived.Test.YteinfanfhgpciaaSame
namespace Go.Proofs.Yteinfanfhgpciaa
open Go.RowKit

/-- the limbs xs lie from the address ad on -/
def LimI (w : World) (ad : Option Addr) (xs : List Int) : Prop :=
  xs = [] ∨ ∃ b off, ad = some ⟨b, off, none⟩ ∧ ∀ i, i < xs.length → w.cell? ⟨b, off + i, none⟩ = some (.int .i64 (xs.getD i 0))

theorem LimI.nil (w : World) (ad : Option Addr) : LimI w ad [] := .inl rfl
theorem LimI.below {w w' : World} {ad : Option Addr} {xs : List Int} {B : Nat} (h : LimI w ad xs) (hb : Below B w w') (hB : ∀ a, ad = some a → a.block < B) : LimI w' ad xs := by
  rcases h with rfl | ⟨b, off, rfl, hc⟩
  · exact .inl rfl
  · exact .inr ⟨b, off, rfl, fun i hi => (hb.cell (p := ⟨b, off + i, none⟩) (hB ⟨b, off, none⟩ rfl)).trans (hc i hi)⟩
theorem LimI.later {w w' : World} {ad : Option Addr} {xs : List Int} (h : LimI w ad xs) (hb : Below w.heap.size w w') : LimI w' ad xs := by
  rcases h with rfl | ⟨b, off, rfl, hc⟩
  · exact .inl rfl
  · refine .inr ⟨b, off, rfl, fun i hi => ?_⟩
    have hlt := World.block_lt_of_cell? w _ (hc i hi)
    exact (hb.cell (p := ⟨b, off + i, none⟩) hlt).trans (hc i hi)
theorem LimI.take {w : World} {ad : Option Addr} {xs : List Int} (h : LimI w ad xs) (n : Nat) : LimI w ad (xs.take n) := by
  rcases h with rfl | ⟨b, off, rfl, hc⟩
  · exact .inl (by simp)
  · refine .inr ⟨b, off, rfl, fun i hi => ?_⟩
    rw [List.length_take] at hi
    rw [hc i (by omega)]
    simp [show i < n by omega]

theorem LimI.lt {w : World} {ad : Option Addr} {xs : List Int} (h : LimI w ad xs) (hn : xs ≠ []) : ∀ a, ad = some a → a.block < w.heap.size := by
  rcases h with rfl | ⟨b, off, rfl, hc⟩
  · exact absurd rfl hn
  · intro a ha
    cases ha
    exact World.block_lt_of_cell? w _ (hc 0 (List.length_pos_iff.2 hn))

/-- v is a slice of the call's own limbs xs -/
def NumI (base : Nat) (w : World) (v : Value) (xs : List Int) : Prop := w.ownsRow base 3 1 v xs.length (xs.map (Value.int .i64))

theorem NumI.read {base : Nat} {w : World} {v : Value} {xs : List Int} (h : NumI base w v xs) : ∃ ad cap, v = .slice ad xs.length cap ∧ LimI w ad xs ∧ xs.length ≤ cap ∧ cap ≤ maxLen ∧ (∀ a, ad = some a → base ≤ a.block ∧ a.block < w.heap.size) := by
  obtain ⟨h1, h2⟩ := h
  rcases h2 with ⟨rfl, hn⟩ | ⟨g, cap, cur, rfl, hb, hg, hc, hm, hs, ht⟩
  · obtain rfl := List.eq_nil_of_length_eq_zero hn
    exact ⟨none, 0, rfl, .inl rfl, Nat.le_refl _, by unfold maxLen; omega, fun a ha => by cases ha⟩
  · refine ⟨_, cap, rfl, .inr ⟨g, 0, rfl, fun i hi => ?_⟩, hc, hm, fun a ha => by cases ha; exact ⟨hb, lt_of_block hg⟩⟩
    have hj := World.ownsRow.cellAt (w := w) (base := base) (e := 3) (size := 1) (g := g) (n := xs.length) (cap := cap) (xs := xs.map (Value.int .i64)) ⟨h1, .inr ⟨g, cap, cur, rfl, hb, hg, hc, hm, hs, ht⟩⟩ i (by omega)
    rw [Nat.zero_add, hj]
    simp [hi]
theorem NumI.cut {base : Nat} {w : World} {ad : Option Addr} {xs : List Int} {n cap : Nat} (h : NumI base w (.slice ad n cap) xs) : NumI base w (.slice ad (trimN xs xs.length) cap) (trim xs) := by
  have hl := trim_le xs
  unfold NumI at *
  rw [trim_length]
  obtain ⟨h1, h2⟩ := h
  rcases h2 with ⟨hv, hn⟩ | ⟨g, cap', cur, hv, hb, hg, hc, hm, hs, ht⟩
  · obtain rfl := List.eq_nil_of_length_eq_zero hn
    cases hv
    exact ⟨rfl, .inl ⟨rfl, rfl⟩⟩
  · cases hv
    refine ⟨by rw [List.length_map, trim_length, Nat.mul_one], .inr ⟨g, cap, cur, rfl, hb, hg, by omega, hm, hs, ?_⟩⟩
    unfold trim
    rw [List.map_take, ← ht, List.take_take]
    congr 1
    omega
theorem NumI.lt {base : Nat} {w : World} {v : Value} {xs : List Int} (h : NumI base w v xs) : ∀ k, v.ownBlock = some k → base ≤ k ∧ k < w.heap.size := World.ownsRow.lt h
theorem NumI.kept {base B : Nat} {w w' : World} {v : Value} {xs : List Int} (h : NumI base w v xs) (hb : Below B w w') (hB : ∀ k, v.ownBlock = some k → k < B) : NumI base w' v xs := by
  obtain ⟨h1, h2⟩ := h
  refine ⟨h1, ?_⟩
  rcases h2 with h2 | ⟨g, cap, cur, rfl, hg0, hg, hc, hm, hs, ht⟩
  · exact .inl h2
  · exact .inr ⟨g, cap, cur, rfl, hg0, (hb.block g (hB g rfl)).trans hg, hc, hm, hs, ht⟩
theorem NumI.later {base : Nat} {w w' : World} {v : Value} {xs : List Int} (h : NumI base w v xs) (hb : Below w.heap.size w w') : NumI base w' v xs := h.kept hb fun k hk => (h.lt k hk).2
theorem NumI.mono {base base' : Nat} {w : World} {v : Value} {xs : List Int} (h : NumI base w v xs) (hb : base' ≤ base) : NumI base' w v xs := by
  obtain ⟨h1, h2⟩ := h
  refine ⟨h1, ?_⟩
  rcases h2 with h2 | ⟨g, cap, cur, rfl, hg0, hg, hc, hm, hs, ht⟩
  · exact .inl h2
  · exact .inr ⟨g, cap, cur, rfl, Nat.le_trans hb hg0, hg, hc, hm, hs, ht⟩

/-- all are digits -/
def WfD (xs : List Int) : Prop := ∀ x ∈ xs, 0 ≤ x ∧ x < 10000
end Go.Proofs.Yteinfanfhgpciaa
