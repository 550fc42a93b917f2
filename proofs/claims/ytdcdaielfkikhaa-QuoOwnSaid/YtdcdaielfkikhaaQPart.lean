/-
  A row of limbs in memory, with room behind it: reading it, storing into it.
-/
import Derived.Test.YtdcdaielfkikhaaQMath
import Derived.Test.YtdcdaielfkikhaaB3
import Derived.Test.YtdcdaielfkikhaaSeen
namespace Go.Proofs.Ytdcdaielfkikhaa
open Go.RowKit
set_option linter.unusedVariables false
set_option linter.unusedSimpArgs false

/-- block g has room for cap limbs, of which the first are zs -/
def Part (w : World) (g cap : Nat) (zs : List Int) : Prop := ∃ cur : Array Value, w.heap[g]? = some (.cells cur 38 (0, 0)) ∧ cur.size = cap ∧ zs.length ≤ cap ∧ cur.toList.take zs.length = zs.map (Value.int .u32)

theorem Part.cell {w : World} {g cap : Nat} {zs : List Int} (h : Part w g cap zs) (i : Nat) (hi : i < zs.length) : w.cell? ⟨g, i, none⟩ = some (.int .u32 (zs.getD i 0)) := by
  obtain ⟨cur, hh, hs, hl, ht⟩ := h
  have e : w.cell? ⟨g, i, none⟩ = cur[i]? := cell_of_row w g i _ 38 (0, 0) hh
  rw [e]
  have h1 : (cur.toList.take zs.length)[i]? = cur[i]? := by rw [List.getElem?_take_of_lt hi]; simp
  rw [← h1, ht]
  simp [hi]
theorem Part.free {w : World} {g cap : Nat} {zs : List Int} (h : Part w g cap zs) (i : Nat) : w.frozen? ⟨g, i, none⟩ = false := by
  obtain ⟨cur, hh, _⟩ := h
  exact frozen_of_row w g i _ 38 hh
theorem Part.lt {w : World} {g cap : Nat} {zs : List Int} (h : Part w g cap zs) : g < w.heap.size := by obtain ⟨cur, hh, _⟩ := h; exact lt_of_block hh
theorem Part.le {w : World} {g cap : Nat} {zs : List Int} (h : Part w g cap zs) : zs.length ≤ cap := by obtain ⟨_, _, _, h, _⟩ := h; exact h
theorem Part.same {w w' : World} {g cap : Nat} {zs : List Int} (h : Part w g cap zs) (e : w'.heap[g]? = w.heap[g]?) : Part w' g cap zs := by
  obtain ⟨cur, hh, r⟩ := h
  exact ⟨cur, e.trans hh, r⟩
theorem Part.alloc {w : World} {g cap : Nat} {zs : List Int} (h : Part w g cap zs) (o : Obj) : Part (w.alloc o) g cap zs := h.same (Below.heap_alloc _ _ _ h.lt)
theorem Part.below {w w' : World} {g cap B : Nat} {zs : List Int} (h : Part w g cap zs) (k : Below B w w') (hb : g < B) : Part w' g cap zs := h.same (k.block g hb)
theorem Part.later {w w' : World} {g cap : Nat} {zs : List Int} (h : Part w g cap zs) (k : Below w.heap.size w w') : Part w' g cap zs := h.below k h.lt
theorem Part.grown {w w' : World} {g cap : Nat} {row : Option Nat} {zs : List Int} (h : Part w g cap zs) (k : w.grownBy w' row) (hb : some g ≠ row) : Part w' g cap zs := h.same (k.block g h.lt hb)
theorem Part.far {w : World} {g cap : Nat} {zs : List Int} (h : Part w g cap zs) {p : Addr} (hne : g ≠ p.block) (u : Value) : Part (w.setCell p u) g cap zs := h.same (Below.heap_setCell _ _ _ _ hne)
theorem Part.set {w : World} {g cap : Nat} {zs : List Int} (h : Part w g cap zs) (i : Nat) (hi : i < zs.length) (x : Int) : Part (w.setCell ⟨g, i, none⟩ (.int .u32 x)) g cap (zs.set i x) := by
  obtain ⟨cur, hh, hs, hl, ht⟩ := h
  refine ⟨cur.setIfInBounds i (.int .u32 x), ?_, by simpa using hs, by simpa using hl, ?_⟩
  · have e := heap_setCell_same w g i _ 38 (.int .u32 x) hh
    rw [e]
  · rw [List.length_set, Array.toList_setIfInBounds, List.take_set, ht, List.map_set]
theorem Part.own (g cap : Nat) {β : Type} (f : β → List Int) : Own (fun s W => Part W g cap (f s)) := fun s X Y row hs hg hrow =>
  hs.grown hg (fun e' => by
    obtain ⟨o, ho, hc⟩ := hrow g e'.symm
    obtain ⟨cur, hh, _⟩ := hs
    rw [hh] at ho; cases ho; cases hc)
theorem Part.num {base g cap : Nat} {w : World} {zs : List Int} (h : Part w g cap zs) (hb : base ≤ g) (hm : cap ≤ maxLen) : Num base w (.slice (some ⟨g, 0, none⟩) zs.length cap) zs := by
  obtain ⟨cur, hh, hs, hl, ht⟩ := h
  exact ⟨by simp, .inr ⟨g, cap, cur, rfl, hb, hh, hl, hm, by simpa using hs, by simpa using ht⟩⟩
theorem Part.lim {w : World} {g cap : Nat} {zs : List Int} (h : Part w g cap zs) : Lim w (some ⟨g, 0, none⟩) zs := .inr ⟨g, 0, rfl, fun i hi => by rw [Nat.zero_add]; exact h.cell i hi⟩
/-- a slice of the call's own limbs: none, or a row -/
theorem Num.parts {base : Nat} {w : World} {v : Value} {zs : List Int} (h : Num base w v zs) : (v = .slice none 0 0 ∧ zs = []) ∨ ∃ g cap, v = .slice (some ⟨g, 0, none⟩) zs.length cap ∧ base ≤ g ∧ cap ≤ maxLen ∧ Part w g cap zs := by
  obtain ⟨h1, h2⟩ := h
  rcases h2 with ⟨hv, hn⟩ | ⟨g, cap, cur, hv, hb, hg, hc, hm, hs, ht⟩
  · exact .inl ⟨hv, List.eq_nil_of_length_eq_zero hn⟩
  · exact .inr ⟨g, cap, hv, hb, hm, cur, hg, by simpa using hs, hc, by simpa using ht⟩

theorem Num.nil_slice {base : Nat} {w : World} {n cap : Nat} {zs : List Int} (h : Num base w (.slice none n cap) zs) : zs = [] ∧ n = 0 ∧ cap = 0 := by
  rcases h.parts with ⟨e, hz⟩ | ⟨g, cp, e, _⟩
  · simp only [Value.slice.injEq] at e
    exact ⟨hz, e.2.1, e.2.2⟩
  · simp at e
theorem Num.some_slice {base : Nat} {w : World} {ad : Addr} {n cap : Nat} {zs : List Int} (h : Num base w (.slice (some ad) n cap) zs) : ∃ g, ad = ⟨g, 0, none⟩ ∧ base ≤ g ∧ n = zs.length ∧ cap ≤ maxLen ∧ Part w g cap zs := by
  rcases h.parts with ⟨e, hz⟩ | ⟨g, cp, e, hb, hm, hp⟩
  · simp at e
  · simp only [Value.slice.injEq, Option.some.injEq] at e
    obtain ⟨rfl, rfl, rfl⟩ := e
    exact ⟨g, rfl, hb, rfl, hm, hp⟩
theorem Num.own (base : Nat) (v : Value) {β : Type} (f : β → List Int) : Own (fun s W => Num base W v (f s)) := fun s X Y row hs hg hrow => by
  rcases hs.parts with ⟨rfl, e⟩ | ⟨g, cp, rfl, hb, hm, hp⟩
  · have h : Num base Y (.slice none 0 0) [] := ⟨rfl, .inl ⟨rfl, rfl⟩⟩
    rw [← e] at h
    exact h
  · exact (Part.own g cp f s X Y row hp hg hrow).num hb hm

/-! ## limbs, counted -/
theorem bitsN_count {xs : List Int} (h : Wf xs) : (bitsN xs + 31) / 32 = trimN xs xs.length ∧ trimN xs xs.length * 32 ≤ bitsN xs + 31 ∧ bitsN xs ≤ trimN xs xs.length * 32 := by
  unfold bitsN
  split
  · rename_i h0; omega
  · rename_i h0
    obtain ⟨m, hm⟩ : ∃ m, trimN xs xs.length = m + 1 := ⟨trimN xs xs.length - 1, by omega⟩
    have hne := trimN_last xs xs.length (by omega)
    rw [hm, Nat.add_sub_cancel] at hne ⊢
    have hb := h.getD m
    obtain ⟨j, hj, h1, h2⟩ := bitLen_is (show 0 < xs.getD m 0 by omega) (by omega)
    have hj2 : j < 32 := by
      rcases Nat.lt_or_ge j 32 with k | k
      · exact k
      · have := two_mono k
        have e : (2 : Int) ^ 32 = 4294967296 := rfl
        omega
    omega
set_option maxHeartbeats 400000 in
theorem count_any {u : Value} {xs : List Int} {a : Option Addr} {cap : Nat} {w : World} (h1 : Arg w u xs a cap) (hx : xs.length ≤ 35184372088832) :
    Calls Try.prog 31 #[u] w fun e w' => e = .returned (.int .i64 (trimN xs xs.length)) ∧ w = w' := by
  obtain ⟨c1, _, c2⟩ := bitsN_count h1.wf
  have hl := trim_le xs
  have hbits := bits_any a xs cap w h1.lim hx h1.le h1.wf
  obtain ⟨rfl, _, _, _⟩ := h1
  obtain ⟨b, hb⟩ : ∃ b, bitsN xs = b := ⟨_, rfl⟩
  rw [hb] at hbits c1 c2
  have hq : Int.tdiv ((b : Int) + 32 - 1) 32 = (trimN xs xs.length : Int) := by
    rw [Int.tdiv_eq_ediv_of_nonneg (by omega), ← c1]
    omega
  have HQ := Lib.hid hq
  clear hq hb
  go_enter Try.func31, Try.ntmps31
  go_wp2_with fail
  refine hbits.mono ?_
  rintro e w' ⟨rfl, rfl⟩
  clear hbits c1
  have hq := HQ.out
  go_wp2
  go_ret
  exact ⟨rfl, rfl⟩
end Go.Proofs.Ytdcdaielfkikhaa
