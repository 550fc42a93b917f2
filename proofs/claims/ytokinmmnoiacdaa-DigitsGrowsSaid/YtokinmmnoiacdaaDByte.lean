/-
  A row of bytes in memory; slices.Reverse of bytes.
-/
import Derived.Test.YtokinmmnoiacdaaDIter
import Derived.Test.YtokinmmnoiacdaaB5
import Derived.Shelf.RegionOpenPlain
namespace Go.Proofs.Ytokinmmnoiacdaa
open Go.RowKit Go.Shelf
set_option linter.unusedVariables false
set_option linter.unusedSimpArgs false

/-- block g has room for cap bytes, of which the first are zs -/
def PartY (w : World) (g cap : Nat) (zs : List Int) : Prop := ∃ cur : Array Value, w.heap[g]? = some (.cells cur 5 (0, 0)) ∧ cur.size = cap ∧ zs.length ≤ cap ∧ cur.toList.take zs.length = zs.map (Value.int .u8)
theorem PartY.cell {w : World} {g cap : Nat} {zs : List Int} (h : PartY w g cap zs) (i : Nat) (hi : i < zs.length) : w.cell? ⟨g, i, none⟩ = some (.int .u8 (zs.getD i 0)) := by
  obtain ⟨cur, hh, hs, hl, ht⟩ := h
  have e : w.cell? ⟨g, i, none⟩ = cur[i]? := cell_of_row w g i _ 5 (0, 0) hh
  rw [e]
  have h1 : (cur.toList.take zs.length)[i]? = cur[i]? := by rw [List.getElem?_take_of_lt hi]; simp
  rw [← h1, ht]
  simp [hi]
theorem PartY.free {w : World} {g cap : Nat} {zs : List Int} (h : PartY w g cap zs) (i : Nat) : w.frozen? ⟨g, i, none⟩ = false := by
  obtain ⟨cur, hh, _⟩ := h
  exact frozen_of_row w g i _ 5 hh
theorem PartY.lt {w : World} {g cap : Nat} {zs : List Int} (h : PartY w g cap zs) : g < w.heap.size := by obtain ⟨cur, hh, _⟩ := h; exact lt_of_block hh
theorem PartY.le {w : World} {g cap : Nat} {zs : List Int} (h : PartY w g cap zs) : zs.length ≤ cap := by obtain ⟨_, _, _, h, _⟩ := h; exact h
theorem PartY.same {w w' : World} {g cap : Nat} {zs : List Int} (h : PartY w g cap zs) (e : w'.heap[g]? = w.heap[g]?) : PartY w' g cap zs := by
  obtain ⟨cur, hh, r⟩ := h
  exact ⟨cur, e.trans hh, r⟩
theorem PartY.drew {w : World} {g cap : Nat} {zs : List Int} (h : PartY w g cap zs) : PartY w.drew g cap zs := h
theorem PartY.set {w : World} {g cap : Nat} {zs : List Int} (h : PartY w g cap zs) (i : Nat) (hi : i < zs.length) (x : Int) : PartY (w.setCell ⟨g, i, none⟩ (.int .u8 x)) g cap (zs.set i x) := by
  obtain ⟨cur, hh, hs, hl, ht⟩ := h
  refine ⟨cur.setIfInBounds i (.int .u8 x), ?_, by simpa using hs, by simpa using hl, ?_⟩
  · have e := heap_setCell_same w g i _ 5 (.int .u8 x) hh
    rw [e]
  · rw [List.length_set, Array.toList_setIfInBounds, List.take_set, ht, List.map_set]
theorem PartY.of {base : Nat} {w : World} {v : Value} {zs : List Int} (h : w.ownsRow base 5 1 v zs.length (zs.map (Value.int .u8))) (hz : zs ≠ []) :
    ∃ g cap, v = .slice (some ⟨g, 0, none⟩) zs.length cap ∧ base ≤ g ∧ cap ≤ maxLen ∧ PartY w g cap zs := by
  obtain ⟨h1, h2⟩ := h
  rcases h2 with ⟨hv, hn⟩ | ⟨g, cap, cur, hv, hb, hg, hc, hm, hs, ht⟩
  · exact absurd (List.eq_nil_of_length_eq_zero hn) hz
  · exact ⟨g, cap, hv, hb, hm, cur, hg, by simpa using hs, hc, by simpa using ht⟩

/-- i elements at each end were exchanged -/
def Turned (zs ws : List Int) (i : Nat) : Prop := ws.length = zs.length ∧ ∀ p, p < zs.length → ws.getD p 0 = if p < i ∨ zs.length ≤ p + i then zs.getD (zs.length - 1 - p) 0 else zs.getD p 0
theorem Turned.nil (zs : List Int) : Turned zs zs 0 := ⟨rfl, fun p hp => by rw [if_neg (by omega)]⟩
theorem getD_put (l : List Int) (i p : Nat) (x : Int) (h : i < l.length) : (l.set i x).getD p 0 = if p = i then x else l.getD p 0 := by
  by_cases e : p = i
  · subst e; rw [if_pos rfl]; simp [h]
  · rw [if_neg e]; simp [List.getElem?_set, show ¬ i = p by omega]
theorem Turned.step {zs ws : List Int} {i j : Nat} (h : Turned zs ws i) (hij : i + j + 1 = zs.length) (hlt : i < j) : Turned zs ((ws.set i (zs.getD j 0)).set j (zs.getD i 0)) (i + 1) := by
  obtain ⟨h1, h2⟩ := h
  refine ⟨by simp [h1], fun p hp => ?_⟩
  rw [getD_put _ _ _ _ (by simp; omega), getD_put _ _ _ _ (by omega), h2 p hp]
  by_cases e1 : p = j
  · subst e1
    rw [if_pos rfl, if_pos (by omega)]
    congr 1; omega
  · rw [if_neg e1]
    by_cases e2 : p = i
    · subst e2
      rw [if_pos rfl, if_pos (by omega)]
      congr 1; omega
    · rw [if_neg e2]
      by_cases e3 : p < i ∨ zs.length ≤ p + i
      · rw [if_pos e3, if_pos (by omega)]
      · rw [if_neg e3, if_neg (by omega)]
theorem Turned.end {zs ws : List Int} {i : Nat} (h : Turned zs ws i) (hi : zs.length ≤ 2 * i + 1) : ws = zs.reverse := by
  obtain ⟨h1, h2⟩ := h
  apply List.ext_getElem (by simp [h1])
  intro p hp hp2
  have h3 := h2 p (by omega)
  rw [List.getElem_reverse]
  have e1 : ws.getD p 0 = ws[p] := by simp [hp]
  rw [e1] at h3
  rw [h3]
  by_cases e : p < i ∨ zs.length ≤ p + i
  · rw [if_pos e]; simp [show zs.length - 1 - p < zs.length by omega]
  · rw [if_neg e]
    have e2 : zs.length - 1 - p = p := by omega
    simp only [e2]
    simp [show p < zs.length by omega]

set_option maxRecDepth 100000 in
set_option maxHeartbeats 2000000 in
theorem rev_any (g cap : Nat) (zs : List Int) (w : World) (h : PartY w g cap zs) (hm : zs.length ≤ 4611686018427387904) :
    Calls Try.prog 39 #[.slice (some ⟨g, 0, none⟩) zs.length cap] w fun e w' => e = .returned (.tuple #[]) ∧ PartY w' g cap zs.reverse ∧ Kept g w w' := by
  obtain ⟨L, hL⟩ : ∃ L, zs.length = L := ⟨_, rfl⟩
  rw [hL] at hm ⊢
  have HL := Lib.hid hL
  clear hL
  go_enter Try.func39, Try.ntmps39
  go_wp2_with fail
  go_loopw [2, 3] (fun a b wr => ∃ (i : Nat) (ws : List Int), i ≤ L ∧ a = .int .i64 (i : Int) ∧ b = .int .i64 ((L : Int) - 1 - i) ∧ Turned zs ws i ∧ PartY wr g cap ws ∧ Kept g w wr) (fun a _ _ => L - (intOf a).toNat)
  case atStart => exact ⟨0, zs, Nat.zero_le _, rfl, by simp, Turned.nil zs, h, Kept.refl _ _⟩
  case round =>
    obtain ⟨i, ws, hi, rfl, rfl, ht, hp, hk⟩ := hrel
    by_cases hlt : 2 * i + 1 < L
    · obtain ⟨j, hj⟩ : ∃ j, i + j + 1 = L := ⟨L - 1 - i, by omega⟩
      have hji : ((L : Int) - 1 - i) = (j : Int) := by omega
      rw [hji]
      have hij : i < j := by omega
      have hwl : ws.length = L := by rw [ht.1, HL.out]
      have ei := ht.2 i (by rw [HL.out]; omega)
      have ej := ht.2 j (by rw [HL.out]; omega)
      rw [HL.out, if_neg (by omega)] at ei ej
      have ci := hp.cell i (by omega)
      have cj := hp.cell j (by omega)
      rw [ei] at ci
      rw [ej] at cj
      have fi := hp.free i
      have fj := hp.free j
      obtain ⟨x, hx⟩ : ∃ x, zs.getD i 0 = x := ⟨_, rfl⟩
      obtain ⟨y, hy⟩ : ∃ y, zs.getD j 0 = y := ⟨_, rfl⟩
      rw [hx] at ci
      rw [hy] at cj
      have hil : (i : Int) < (L : Int) := by omega
      have hjl : (j : Int) < (L : Int) := by omega
      have hijz : (i : Int) < (j : Int) := by omega
      have hst := ht.step (i := i) (j := j) (by rw [HL.out]; exact hj) hij
      rw [hx, hy] at hst
      have HS := Lib.hid hst
      have HWL := Lib.hid hwl
      clear hst hx hy ei ej ht hji h hwl
      have mixed : Try.prog.follows .mixedOrders = true := by kernel_rfl
      go_wp2_with fail
      go_region_o
      go_wp2
      go_roundw
      case rel =>
        have hwl := HWL.out
        exact ⟨i + 1, _, by omega, by go_num, by congr 1; omega, HS.out, (hp.set i (by omega) y).set j (by simp; omega) x, ((hk.set i _).set j _).drew⟩
      case measure => simp [intOf]; omega
    · have hnl : ¬ ((i : Int) < (L : Int) - 1 - i) := by omega
      have hr := ht.end (by rw [HL.out]; omega)
      rw [hr] at hp
      go_wp2
      go_end0
      exact ⟨rfl, hp, hk⟩
end Go.Proofs.Ytokinmmnoiacdaa
