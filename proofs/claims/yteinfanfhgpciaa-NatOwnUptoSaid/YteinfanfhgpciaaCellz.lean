/-
  Results that may be written to: slices of limbs in blocks of the call's own, whatever the limbs.
-/
import Derived.Test.YteinfanfhgpciaaShl
import Derived.Test.YteinfanfhgpciaaRefD
import Derived.StillTailTactics
namespace Go.Proofs.Yteinfanfhgpciaa
open Go.RowKit

/-- a slice of limbs, in a block from lo on, that is not block g -/
def Cellz (lo g : Nat) (w : World) (v : Value) : Prop :=
  ∃ ad n cap, v = .slice ad n cap ∧ n ≤ maxLen ∧ (n = 0 ∨ ∃ b cur, ad = some ⟨b, 0, none⟩ ∧ lo ≤ b ∧ b < g ∧ w.heap[b]? = some (.cells cur 56 (0, 0)) ∧ ∀ k, k < n → ∃ z, cur[k]? = some (.int .u32 z))
theorem Cellz.nil (lo g : Nat) (w : World) : Cellz lo g w (.slice none 0 0) := ⟨none, 0, 0, rfl, by unfold maxLen; omega, .inl rfl⟩
theorem Num.cellz {base lo : Nat} {w : World} {v : Value} {xs : List Int} (h : Num base w v xs) (hl : lo ≤ base) : Cellz lo w.heap.size w v := by
  obtain ⟨h1, h2⟩ := h
  rcases h2 with ⟨rfl, hn⟩ | ⟨g, cap, cur, rfl, hb, hg, hc, hm, hs, ht⟩
  · exact Cellz.nil _ _ _
  · refine ⟨_, _, _, rfl, by omega, .inr ⟨g, cur, rfl, by omega, lt_of_block hg, hg, fun k hk => ⟨xs.getD k 0, ?_⟩⟩⟩
    have e : (cur.toList.take (xs.length * 1))[k]? = (xs.map (Value.int .u32))[k]? := by rw [ht]
    rw [List.getElem?_take, if_pos (by omega), List.getElem?_map] at e
    rw [← Array.getElem?_toList, e]
    simp [hk]
theorem Cellz.later {lo g : Nat} {w w' : World} {v : Value} (h : Cellz lo g w v) (hb : Below g w w') : Cellz lo g w' v := by
  obtain ⟨ad, n, cap, rfl, hm, h⟩ := h
  refine ⟨ad, n, cap, rfl, hm, ?_⟩
  rcases h with h | ⟨b, cur, rfl, h1, h2, h3, h4⟩
  · exact .inl h
  · exact .inr ⟨b, cur, rfl, h1, h2, (hb.block b h2).trans h3, h4⟩
theorem Cellz.mono {lo g g' : Nat} {w : World} {v : Value} (h : Cellz lo g w v) (hg : g ≤ g') : Cellz lo g' w v := by
  obtain ⟨ad, n, cap, rfl, hm, h⟩ := h
  refine ⟨ad, n, cap, rfl, hm, ?_⟩
  rcases h with h | ⟨b, cur, rfl, h1, h2, h3, h4⟩
  · exact .inl h
  · exact .inr ⟨b, cur, rfl, h1, by omega, h3, h4⟩
theorem Cellz.next {lo : Nat} {w w' : World} {v : Value} (h : Cellz lo w.heap.size w v) (hb : Below w.heap.size w w') : Cellz lo w'.heap.size w' v := (h.later hb).mono hb.size
theorem Cellz.set {lo g : Nat} {w : World} {v : Value} (h : Cellz lo g w v) (b' k' : Nat) (z' : Int) : Cellz lo g (w.setCell ⟨b', k', none⟩ (.int .u32 z')) v := by
  obtain ⟨ad, n, cap, rfl, hm, h⟩ := h
  refine ⟨ad, n, cap, rfl, hm, ?_⟩
  rcases h with h | ⟨b, cur, rfl, h1, h2, h3, h4⟩
  · exact .inl h
  · by_cases e : b = b'
    · subst e
      refine .inr ⟨b, _, rfl, h1, h2, heap_setCell_same w b k' cur 56 (.int .u32 z') h3, fun k hk => ?_⟩
      obtain ⟨z, hz⟩ := h4 k hk
      rw [Array.getElem?_setIfInBounds]
      by_cases ek : k' = k
      · subst ek
        rw [if_pos rfl, if_pos (Array.getElem?_eq_some_iff.1 hz).1]
        exact ⟨z', rfl⟩
      · rw [if_neg ek]
        exact ⟨z, hz⟩
    · exact .inr ⟨b, cur, rfl, h1, h2, (Below.heap_setCell _ _ _ _ e).trans h3, h4⟩
end Go.Proofs.Yteinfanfhgpciaa
