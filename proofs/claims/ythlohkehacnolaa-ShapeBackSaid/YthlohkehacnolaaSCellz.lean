/-
  Results that may be written to: slices of numbers in blocks of the call's own, whatever the numbers. (Made out of XCellz.)
-/
import Derived.Test.YthlohkehacnolaaSRefF
import Derived.StillTailTactics
namespace Go.Proofs.Ythlohkehacnolaa
open Go.RowKit

/-- a slice of numbers, in a block from lo on, that is not block g -/
def CellzS (lo g : Nat) (w : World) (v : Value) : Prop :=
  ∃ ad n cap, v = .slice ad n cap ∧ n ≤ maxLen ∧ (n = 0 ∨ ∃ b cur, ad = some ⟨b, 0, none⟩ ∧ lo ≤ b ∧ b < g ∧ w.heap[b]? = some (.cells cur 3 (0, 0)) ∧ ∀ k, k < n → ∃ z, cur[k]? = some (.int .i64 z))
theorem CellzS.nil (lo g : Nat) (w : World) : CellzS lo g w (.slice none 0 0) := ⟨none, 0, 0, rfl, by unfold maxLen; omega, .inl rfl⟩
theorem NumS.cellz {base lo : Nat} {w : World} {v : Value} {xs : List Int} (h : NumS base w v xs) (hl : lo ≤ base) : CellzS lo w.heap.size w v := by
  obtain ⟨h1, h2⟩ := h
  rcases h2 with ⟨rfl, hn⟩ | ⟨g, cap, cur, rfl, hb, hg, hc, hm, hs, ht⟩
  · exact CellzS.nil _ _ _
  · refine ⟨_, _, _, rfl, by omega, .inr ⟨g, cur, rfl, by omega, lt_of_block hg, hg, fun k hk => ⟨xs.getD k 0, ?_⟩⟩⟩
    have e : (cur.toList.take (xs.length * 1))[k]? = (xs.map (Value.int .i64))[k]? := by rw [ht]
    rw [List.getElem?_take, if_pos (by omega), List.getElem?_map] at e
    rw [← Array.getElem?_toList, e]
    simp [hk]
theorem CellzS.later {lo g : Nat} {w w' : World} {v : Value} (h : CellzS lo g w v) (hb : Below g w w') : CellzS lo g w' v := by
  obtain ⟨ad, n, cap, rfl, hm, h⟩ := h
  refine ⟨ad, n, cap, rfl, hm, ?_⟩
  rcases h with h | ⟨b, cur, rfl, h1, h2, h3, h4⟩
  · exact .inl h
  · exact .inr ⟨b, cur, rfl, h1, h2, (hb.block b h2).trans h3, h4⟩
theorem CellzS.mono {lo g g' : Nat} {w : World} {v : Value} (h : CellzS lo g w v) (hg : g ≤ g') : CellzS lo g' w v := by
  obtain ⟨ad, n, cap, rfl, hm, h⟩ := h
  refine ⟨ad, n, cap, rfl, hm, ?_⟩
  rcases h with h | ⟨b, cur, rfl, h1, h2, h3, h4⟩
  · exact .inl h
  · exact .inr ⟨b, cur, rfl, h1, by omega, h3, h4⟩
theorem CellzS.next {lo : Nat} {w w' : World} {v : Value} (h : CellzS lo w.heap.size w v) (hb : Below w.heap.size w w') : CellzS lo w'.heap.size w' v := (h.later hb).mono hb.size
theorem CellzS.set {lo g : Nat} {w : World} {v : Value} (h : CellzS lo g w v) (b' k' : Nat) (z' : Int) : CellzS lo g (w.setCell ⟨b', k', none⟩ (.int .i64 z')) v := by
  obtain ⟨ad, n, cap, rfl, hm, h⟩ := h
  refine ⟨ad, n, cap, rfl, hm, ?_⟩
  rcases h with h | ⟨b, cur, rfl, h1, h2, h3, h4⟩
  · exact .inl h
  · by_cases e : b = b'
    · subst e
      refine .inr ⟨b, _, rfl, h1, h2, heap_setCell_same w b k' cur 3 (.int .i64 z') h3, fun k hk => ?_⟩
      obtain ⟨z, hz⟩ := h4 k hk
      rw [Array.getElem?_setIfInBounds]
      by_cases ek : k' = k
      · subst ek
        rw [if_pos rfl, if_pos (Array.getElem?_eq_some_iff.1 hz).1]
        exact ⟨z', rfl⟩
      · rw [if_neg ek]
        exact ⟨z, hz⟩
    · exact .inr ⟨b, cur, rfl, h1, h2, (Below.heap_setCell _ _ _ _ e).trans h3, h4⟩
end Go.Proofs.Ythlohkehacnolaa
