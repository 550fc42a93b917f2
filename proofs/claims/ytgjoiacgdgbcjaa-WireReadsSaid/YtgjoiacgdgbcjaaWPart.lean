/-
  A row of bytes in memory, with room behind it: reading it, storing into it.
-/
import Derived.Test.YtgjoiacgdgbcjaaWLaw0
namespace Go.Proofs.Ytgjoiacgdgbcjaa
open Go.RowKit
set_option linter.unusedVariables false
set_option linter.unusedSimpArgs false

/-- block g has room for cap bytes, of which the first are zs -/
def PartB (w : World) (g cap : Nat) (zs : List Int) : Prop := ∃ cur : Array Value, w.heap[g]? = some (.cells cur 5 (0, 0)) ∧ cur.size = cap ∧ zs.length ≤ cap ∧ cur.toList.take zs.length = zs.map (Value.int .u8)
theorem PartB.cell {w : World} {g cap : Nat} {zs : List Int} (h : PartB w g cap zs) (i : Nat) (hi : i < zs.length) : w.cell? ⟨g, i, none⟩ = some (.int .u8 (zs.getD i 0)) := by
  obtain ⟨cur, hh, hs, hl, ht⟩ := h
  have e : w.cell? ⟨g, i, none⟩ = cur[i]? := cell_of_row w g i _ 5 (0, 0) hh
  rw [e]
  have h1 : (cur.toList.take zs.length)[i]? = cur[i]? := by rw [List.getElem?_take_of_lt hi]; simp
  rw [← h1, ht]
  simp [hi]
theorem PartB.free {w : World} {g cap : Nat} {zs : List Int} (h : PartB w g cap zs) (i : Nat) : w.frozen? ⟨g, i, none⟩ = false := by
  obtain ⟨cur, hh, _⟩ := h
  exact frozen_of_row w g i _ 5 hh
theorem PartB.lt {w : World} {g cap : Nat} {zs : List Int} (h : PartB w g cap zs) : g < w.heap.size := by obtain ⟨cur, hh, _⟩ := h; exact lt_of_block hh
theorem PartB.le {w : World} {g cap : Nat} {zs : List Int} (h : PartB w g cap zs) : zs.length ≤ cap := by obtain ⟨_, _, _, h, _⟩ := h; exact h
theorem PartB.same {w w' : World} {g cap : Nat} {zs : List Int} (h : PartB w g cap zs) (e : w'.heap[g]? = w.heap[g]?) : PartB w' g cap zs := by
  obtain ⟨cur, hh, r⟩ := h
  exact ⟨cur, e.trans hh, r⟩
theorem PartB.later {w w' : World} {g cap : Nat} {zs : List Int} (h : PartB w g cap zs) (k : Below w.heap.size w w') : PartB w' g cap zs := h.same (k.block g h.lt)
theorem PartB.far {w : World} {g cap : Nat} {zs : List Int} (h : PartB w g cap zs) {p : Addr} (hne : g ≠ p.block) (u : Value) : PartB (w.setCell p u) g cap zs := h.same (Below.heap_setCell _ _ _ _ hne)
theorem PartB.set {w : World} {g cap : Nat} {zs : List Int} (h : PartB w g cap zs) (i : Nat) (hi : i < zs.length) (x : Int) : PartB (w.setCell ⟨g, i, none⟩ (.int .u8 x)) g cap (zs.set i x) := by
  obtain ⟨cur, hh, hs, hl, ht⟩ := h
  refine ⟨cur.setIfInBounds i (.int .u8 x), ?_, by simpa using hs, by simpa using hl, ?_⟩
  · have e := heap_setCell_same w g i _ 5 (.int .u8 x) hh
    rw [e]
  · rw [List.length_set, Array.toList_setIfInBounds, List.take_set, ht, List.map_set]
theorem PartB.num {base g cap : Nat} {w : World} {zs : List Int} (h : PartB w g cap zs) (hb : base ≤ g) (hm : cap ≤ maxLen) : NumB base w (.slice (some ⟨g, 0, none⟩) zs.length cap) zs := by
  obtain ⟨cur, hh, hs, hl, ht⟩ := h
  exact ⟨by simp, .inr ⟨g, cap, cur, rfl, hb, hh, hl, hm, by simpa using hs, by simpa using ht⟩⟩
theorem NumB.partB {base : Nat} {w : World} {v : Value} {zs : List Int} (h : NumB base w v zs) (hz : zs ≠ []) :
    ∃ g cap, v = .slice (some ⟨g, 0, none⟩) zs.length cap ∧ base ≤ g ∧ cap ≤ maxLen ∧ PartB w g cap zs := by
  obtain ⟨h1, h2⟩ := h
  rcases h2 with ⟨hv, hn⟩ | ⟨g, cap, cur, hv, hb, hg, hc, hm, hs, ht⟩
  · exact absurd (List.eq_nil_of_length_eq_zero hn) hz
  · exact ⟨g, cap, hv, hb, hm, cur, hg, by simpa using hs, hc, by simpa using ht⟩

theorem or_u8 {x : Int} (h0 : 0 ≤ x) (h1 : x < 128) : bits .or .u8 x 128 = x + 128 := by
  have key : ∀ n : Fin 128, bits .or .u8 (n.val : Int) 128 = (n.val : Int) + 128 := by decide +kernel
  have := key ⟨x.toNat, by omega⟩
  have e : ((x.toNat : Nat) : Int) = x := by omega
  simpa [e] using this

/-! bytes that go on -/
def High (t : List Int) : Prop := ∀ x ∈ t, 128 ≤ x
theorem lead_high {t : List Int} (h : High t) (r : List Int) (hr : ∀ x, r.head? = some x → x < 128) : lead (t ++ r) = t.length := by
  induction t with
  | nil =>
    rcases r with _ | ⟨x, s⟩
    · rfl
    · have := hr x rfl
      show lead (x :: s) = 0
      unfold lead
      rw [if_neg (by omega)]
  | cons y t ih =>
    have hy := h y (by simp)
    have := ih (fun x hx => h x (by simp [hx]))
    show lead (y :: (t ++ r)) = _
    unfold lead
    rw [if_pos hy, this]; rfl
theorem high_short {t : List Int} (h : High t) (hl : t.length < 10) : getC t = 3 := by
  have e := lead_high h [] (fun x hx => by cases hx)
  rw [List.append_nil] at e
  exact getC_short (by omega) (by omega)
theorem high_nought {t : List Int} (h : High t) (hl : t.length < 10) (h0 : 0 < t.length) : getC (t ++ [0]) = 4 := by
  have e := lead_high h [0] (fun x hx => by simp at hx; omega)
  refine getC_longer (by omega) (by rw [List.length_append]; simp; omega) (.inl ⟨?_, by omega⟩)
  rw [e]
  simp
theorem enc_high {N a : Nat} (ha : (encN N).length = a) : High ((encN N).set (a - 1) ((encN N).getD (a - 1) 0 + 128)) ∧ 0 ≤ (encN N).getD (a - 1) 0 ∧ (encN N).getD (a - 1) 0 < 128 := by
  have hp := encN_pos N
  have hl := lead_enc N []
  rw [List.append_nil, ha] at hl
  have hlt : a - 1 < (encN N).length := by omega
  have hg : (encN N)[a - 1]? = some ((encN N).getD (a - 1) 0) := by simp [hlt]
  have h1 := lead_stop (l := encN N) (x := (encN N).getD (a - 1) 0) (by rw [hl]; exact hg)
  have h2 := (encN_bytes N _ (List.mem_of_getElem? hg)).1
  refine ⟨fun x hx => ?_, h2, h1⟩
  obtain ⟨i, hi, rfl⟩ := List.getElem_of_mem hx
  rw [List.getElem_set]
  split
  · omega
  · rename_i hne
    rw [List.length_set] at hi
    obtain ⟨y, hy, hy2⟩ := lead_at (l := encN N) (i := i) (by omega)
    have e : (encN N)[i] = y := by
      obtain ⟨_, e⟩ := List.getElem?_eq_some_iff.1 hy
      exact e
    rw [e]; exact hy2
theorem High.snoc {t : List Int} (h : High t) : High (t ++ [128]) := fun x hx => by
  rcases List.mem_append.1 hx with hx | hx
  · exact h x hx
  · simp at hx; omega
theorem high_bytes {N a : Nat} (ha : (encN N).length = a) : Byt ((encN N).set (a - 1) ((encN N).getD (a - 1) 0 + 128)) := by
  obtain ⟨_, h0, h1⟩ := enc_high ha
  intro x hx
  rcases List.mem_or_eq_of_mem_set hx with hx | rfl
  · exact encN_bytes N x hx
  · omega
/-- an argument: numbers of type int -/
structure ArgI (w : World) (u : Value) (xs : List Int) (ad : Option Addr) (cap : Nat) : Prop where
  is : u = .slice ad xs.length cap
  lim : xs = [] ∨ ∃ b off, ad = some ⟨b, off, none⟩ ∧ ∀ i, i < xs.length → w.cell? ⟨b, off + i, none⟩ = some (.int .i64 (xs.getD i 0))
  le : xs.length ≤ cap
  wf : ∀ x ∈ xs, -9223372036854775808 ≤ x ∧ x ≤ 9223372036854775807
theorem ArgI.later {w w' : World} {u : Value} {xs : List Int} {ad : Option Addr} {cap : Nat} (h : ArgI w u xs ad cap) (hb : Below w.heap.size w w') : ArgI w' u xs ad cap := by
  refine ⟨h.is, ?_, h.le, h.wf⟩
  rcases h.lim with rfl | ⟨b, off, rfl, hc⟩
  · exact .inl rfl
  · refine .inr ⟨b, off, rfl, fun i hi => ?_⟩
    exact (hb.cell (p := ⟨b, off + i, none⟩) (World.block_lt_of_cell? w _ (hc i hi))).trans (hc i hi)
theorem ArgI.at {w : World} {u : Value} {xs : List Int} {ad : Option Addr} {cap : Nat} (h : ArgI w u xs ad cap) {i : Nat} (hi : i < xs.length) :
    ∃ b off, ad = some ⟨b, off, none⟩ ∧ w.cell? ⟨b, off + i, none⟩ = some (.int .i64 (xs.getD i 0)) ∧ -9223372036854775808 ≤ xs.getD i 0 ∧ xs.getD i 0 ≤ 9223372036854775807 := by
  rcases h.lim with rfl | ⟨b, off, rfl, hc⟩
  · simp at hi
  · have e : xs.getD i 0 = xs[i] := by simp [hi]
    have := h.wf _ (List.getElem_mem hi)
    exact ⟨b, off, rfl, hc i hi, by rw [e]; exact this.1, by rw [e]; exact this.2⟩
end Go.Proofs.Ytgjoiacgdgbcjaa
