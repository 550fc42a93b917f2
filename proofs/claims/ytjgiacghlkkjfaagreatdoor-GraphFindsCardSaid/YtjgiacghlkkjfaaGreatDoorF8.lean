/-
  Part 8 of 29: contracts and what they rest on (QMath, QRefC, QPart, QShort, QTake).
-/
import Derived.Test.YtjgiacghlkkjfaaGreatDoorF1
import Derived.Test.YtjgiacghlkkjfaaGreatDoorF2
import Derived.Test.YtjgiacghlkkjfaaGreatDoorF4
import Derived.Test.YtjgiacghlkkjfaaGreatDoorF5
import Derived.WalkKit
import Derived.Test.YtjgiacghlkkjfaaGreatDoorRows
import Derived.OrdersHeld
import Derived.Deep.RegionHeld
import Derived.BigQuiet
import Derived.Deep.QuietTactic
import Derived.Lib.Hide
import Derived.Lib.Small
import Derived.Lib.Walk
import Derived.Lib.BitFns
import Derived.Maps.AppendAt
import Derived.RangeFuncNested
import Derived.RangeFuncBound
import Derived.RangeFuncCalls
import Derived.RangeFuncLeaves
import Derived.Shelf.Abstract
import Derived.OwnWalkIn
import Derived.TacticsInMore
import Derived.LoopNIn
import Derived.LoopIn
import Derived.RangeFuncBox
import Derived.Deep.RegionHeld3
import Derived.OrdersIn
import Derived.StillTailTactics
import Derived.RangeFuncFrom
import Derived.Laws.EntriesVeiled
import Derived.ProofKit
import Derived.OpenShut
import Derived.JoinedCond
import Derived.Carry
import Derived.Laws.AppendOwnNone
import Derived.Lib.ItoaNum
import Derived.Deep.RegionLaw
import Derived.WalkMore
namespace Go.Proofs.YtjgiacghlkkjfaaGreatDoor
set_option maxRecDepth 100000
section
open Go.RowKit
set_option linter.unusedVariables false
set_option linter.unusedSimpArgs false
/-- what an estimate is held against: the three highest limbs, what is below them, and the divisor's -/
structure Est (U V high low v1 v2 P U2 V2 : Int) : Prop where
  u : U = high * (4294967296 * P) + low * P + U2
  v : V = v1 * (4294967296 * P) + v2 * P + V2
  p : 1 ≤ P
  u0 : 0 ≤ U2
  u1 : U2 < P
  w0 : 0 ≤ V2
  w1 : V2 < P
  a0 : 2147483648 ≤ v1
  a1 : v1 < 4294967296
  b0 : 0 ≤ v2
  b1 : v2 < 4294967296
  l0 : 0 ≤ low
  l1 : low < 4294967296
  h0 : 0 ≤ high
  lt : U < 4294967296 * V
theorem Est.diff {U V high low v1 v2 P U2 V2 q r : Int} (h : Est U V high low v1 v2 P U2 V2) (hq : q * v1 + r = high) : U - q * V = (r * 4294967296 + low - q * v2) * P + U2 - q * V2 := by
  rw [h.u, h.v, ← hq]
  grind
theorem mul_le_l {a b c : Int} (hc : 0 ≤ c) (h : a ≤ b) : c * a ≤ c * b := Int.mul_le_mul_of_nonneg_left h hc
theorem mul_le_r {a b c : Int} (hc : 0 ≤ c) (h : a ≤ b) : a * c ≤ b * c := Int.mul_le_mul_of_nonneg_right h hc
/-- the high limbs are below those of the divisor and one more -/
theorem Est.high {U V high low v1 v2 P U2 V2 : Int} (h : Est U V high low v1 v2 P U2 V2) : high < (v1 + 1) * 4294967296 := by
  rcases Int.lt_or_le high ((v1 + 1) * 4294967296) with k | k
  · exact k
  · exfalso
    have h1 := mul_le_r (c := 4294967296 * P) (by have := h.p; omega) k
    have h2 : 0 ≤ low * P := Int.mul_nonneg h.l0 (by have := h.p; omega)
    have h3 : v2 * P ≤ 4294967295 * P := mul_le_r (by have := h.p; omega) (by have := h.b1; omega)
    have h4 := h.u; have h5 := h.v; have h6 := h.lt; have h7 := h.w1; have h8 := h.u0
    have e : (v1 + 1) * 4294967296 * (4294967296 * P) = 4294967296 * (v1 * (4294967296 * P)) + 4294967296 * (4294967296 * P) := by grind
    rw [e] at h1
    omega
/-- the first estimate is not too small -/
theorem Est.first {U V high low v1 v2 P U2 V2 : Int} (h : Est U V high low v1 v2 P U2 V2) : U < (high / v1 + 1) * V := by
  have hv : 0 < v1 := by have := h.a0; omega
  have h1 : high < (high / v1 + 1) * v1 := Int.lt_mul_of_ediv_lt hv (by omega)
  have h2 := mul_le_r (a := high + 1) (b := (high / v1 + 1) * v1) (c := 4294967296 * P) (by have := h.p; omega) (by omega)
  have hq : 0 ≤ high / v1 := Int.ediv_nonneg h.h0 (by omega)
  generalize high / v1 = q at *
  have h3 : (q + 1) * v1 * (4294967296 * P) ≤ (q + 1) * V := by
    rw [Int.mul_assoc]
    refine mul_le_l (by omega) ?_
    have h4 : 0 ≤ v2 * P := Int.mul_nonneg h.b0 (by have := h.p; omega)
    have h5 := h.v; have h6 := h.w0
    omega
  have h4 : low * P ≤ 4294967295 * P := mul_le_r (by have := h.p; omega) (by have := h.l1; omega)
  have h5 := h.u; have h6 := h.u1
  rw [Int.add_mul, Int.one_mul] at h2
  omega
/-- an estimate that is too great is lowered -/
theorem Est.step {U V high low v1 v2 P U2 V2 q r : Int} (h : Est U V high low v1 v2 P U2 V2) (hq : q * v1 + r = high) (h0 : 0 ≤ q) (hc : 4294967295 < q ∨ r * 4294967296 + low < q * v2) : U < (q - 1 + 1) * V := by
  rw [Int.sub_add_cancel]
  have hV : 0 ≤ V := by
    have h4 : 0 ≤ v2 * P := Int.mul_nonneg h.b0 (by have := h.p; omega)
    have h7 : 0 ≤ v1 * (4294967296 * P) := Int.mul_nonneg (by have := h.a0; omega) (by have := h.p; omega)
    have h5 := h.v; have h6 := h.w0
    omega
  rcases hc with hc | hc
  · have h1 := mul_le_r (a := 4294967296) (b := q) hV (by omega)
    have h2 := h.lt
    omega
  · have h1 := h.diff hq
    have h2 := mul_le_r (a := r * 4294967296 + low - q * v2) (b := -1) (c := P) (by have := h.p; omega) (by omega)
    have h3 : 0 ≤ q * V2 := Int.mul_nonneg h0 h.w0
    have h4 := h.u1
    omega
/-- where it is left, it is the quotient, or 1 more -/
theorem Est.done {U V high low v1 v2 P U2 V2 q r : Int} (h : Est U V high low v1 v2 P U2 V2) (hq : q * v1 + r = high) (h0 : 0 ≤ q) (hr0 : 0 ≤ r)
    (hc : 4294967295 < r ∨ (q ≤ 4294967295 ∧ q * v2 ≤ r * 4294967296 + low)) : q ≤ 4294967295 ∧ 0 ≤ U - q * V + V := by
  have hv : 0 < v1 := by have := h.a0; omega
  have hb := h.b0; have hb1 := h.b1
  have hq1 : q ≤ 4294967295 := by
    rcases hc with hc | hc
    · rcases Int.lt_or_le 4294967295 q with k | k
      · exfalso
        have h1 := mul_le_r (a := 4294967296) (b := q) (c := v1) (by omega) (by omega)
        have h2 := h.high
        omega
      · exact k
    · exact hc.1
  have hq2 : q * v2 ≤ r * 4294967296 + low := by
    rcases hc with hc | hc
    · have h1 := mul_le_r (a := q) (b := 4294967295) hb hq1
      have h2 := h.l0
      omega
    · exact hc.2
  refine ⟨hq1, ?_⟩
  have h1 := h.diff hq
  have h2 := Int.mul_nonneg (show 0 ≤ r * 4294967296 + low - q * v2 by omega) (show 0 ≤ P by have := h.p; omega)
  have h3 := mul_le_r (a := q) (b := 4294967295) h.w0 hq1
  have h4 : 0 ≤ v2 * P := Int.mul_nonneg h.b0 (by have := h.p; omega)
  have h5 := mul_le_r (a := 1) (b := v1) (c := 4294967296 * P) (by have := h.p; omega) (by omega)
  have h6 := h.v; have h7 := h.w1; have h8 := h.w0; have h9 := h.u0
  omega
/-- the state behind k limbs: the limbs, what is owed -/
def takeTo (ps ys : List Int) (q : Int) : Nat → List Int × Int
  | 0 => ([], 0)
  | k + 1 => ((takeTo ps ys q k).1 ++ [(ps.getD k 0 - ((takeTo ps ys q k).2 + q * ys.getD k 0) % 4294967296) % 4294967296],
      ((takeTo ps ys q k).2 + q * ys.getD k 0) / 4294967296 + (if ps.getD k 0 < ((takeTo ps ys q k).2 + q * ys.getD k 0) % 4294967296 then 1 else 0))
theorem takeTo_length (ps ys : List Int) (q : Int) (k : Nat) : (takeTo ps ys q k).1.length = k := by
  induction k with
  | zero => rfl
  | succ k ih => simp [takeTo, ih]
theorem limb_prod {q y : Int} (hq : 0 ≤ q ∧ q ≤ 4294967295) (hy : 0 ≤ y ∧ y < 4294967296) : 0 ≤ q * y ∧ q * y ≤ 18446744065119617025 := by
  have h1 := Int.mul_nonneg hq.1 hy.1
  have h2 := mul_le_r (a := q) (b := 4294967295) hy.1 hq.2
  omega
theorem takeTo_owed (ps ys : List Int) (q : Int) (hy : Wf ys) (hq : 0 ≤ q ∧ q ≤ 4294967295) (k : Nat) : 0 ≤ (takeTo ps ys q k).2 ∧ (takeTo ps ys q k).2 ≤ 4294967296 := by
  induction k with
  | zero => simp [takeTo]
  | succ k ih =>
    have h1 := limb_prod hq (hy.getD k)
    simp only [takeTo]
    split <;> omega
theorem takeTo_wf (ps ys : List Int) (q : Int) (k : Nat) : Wf (takeTo ps ys q k).1 := by
  induction k with
  | zero => exact Wf.nil
  | succ k ih => exact ih.append (Wf.cons (by omega) Wf.nil)
theorem val_takeTo (ps ys : List Int) (q : Int) (hp : Wf ps) (k : Nat) : val (takeTo ps ys q k).1 - 4294967296 ^ k * (takeTo ps ys q k).2 = val (ps.take k) - q * val (ys.take k) := by
  induction k with
  | zero => simp [takeTo, val]
  | succ k ih =>
    rw [val_take_succ, val_take_succ]
    simp only [takeTo]
    rw [val_append, takeTo_length]
    simp only [val, Int.pow_succ]
    have hb := hp.getD k
    generalize (takeTo ps ys q k).2 = o at *
    generalize val (takeTo ps ys q k).1 = L at *
    generalize ps.getD k 0 = p at *
    generalize ys.getD k 0 = y at *
    generalize val (ps.take k) = A at *
    generalize val (ys.take k) = B at *
    have hm := mod_div (o + q * y)
    have hl : 0 ≤ (o + q * y) % 4294967296 ∧ (o + q * y) % 4294967296 < 4294967296 := by omega
    generalize (o + q * y) % 4294967296 = low at *
    generalize (o + q * y) / 4294967296 = hi at *
    have hs : (p - low) % 4294967296 = p - low + 4294967296 * (if p < low then 1 else 0) := by split <;> omega
    rw [hs]
    generalize (if p < low then (1 : Int) else 0) = c at *
    generalize (4294967296 : Int) ^ k = Q at *
    grind
theorem val_cat3 (xs ys zs : List Int) : val (xs ++ ys ++ zs) = val xs + 4294967296 ^ xs.length * (val ys + 4294967296 ^ ys.length * val zs) := by
  rw [List.append_assoc, val_append, val_append]
theorem val_drop0 {xs : List Int} (hx : Wf xs) (k : Nat) (h : val xs < 4294967296 ^ k) : val (xs.drop k) = 0 := by
  by_cases hk : k < xs.length
  · have h1 := val_append (xs.take k) (xs.drop k)
    rw [List.take_append_drop, List.length_take, Nat.min_eq_left (by omega)] at h1
    have h2 := val_nonneg (hx.take k)
    have h3 := val_nonneg (hx.drop k)
    rcases Int.lt_or_le 0 (val (xs.drop k)) with h4 | h4
    · exfalso
      have h5 := mul_le_l (a := 1) (b := val (xs.drop k)) (c := 4294967296 ^ k) (Int.le_of_lt (pow_pos' k)) (by omega)
      omega
    · omega
  · rw [List.drop_of_length_le (by omega)]; rfl
/-- the part of limbs from i on -/
theorem val_split {xs : List Int} (i : Nat) (h : i ≤ xs.length) : val xs = val (xs.take i) + 4294967296 ^ i * val (xs.drop i) := by
  have h1 := val_append (xs.take i) (xs.drop i)
  rwa [List.take_append_drop, List.length_take, Nat.min_eq_left h] at h1
end
section
open Go.RowKit
set_option linter.unusedVariables false
set_option linter.unusedSimpArgs false
theorem gcd_step (a b : Int) : Int.gcd b (a % b) = Int.gcd a b := by
  have h := Int.gcd_add_mul_right_right b (a % b) (a / b)
  rw [Int.emod_add_ediv_mul] at h
  rw [← h, Int.gcd_comm]
theorem gcd_end {a : Int} (h : 0 ≤ a) : (Int.gcd a 0 : Int) = a := by rw [Int.gcd_zero_right]; omega
/-- what a slice of numbers reads: for a loop's measure -/
def readV (w : World) : Value → List Int
  | .slice (some ad) n _ => (List.range n).map fun i => match w.cell? ⟨ad.block, ad.off + i, none⟩ with | some (.int _ x) => x | _ => 0
  | _ => []
theorem readV_lim {w : World} {ad : Option Addr} {xs : List Int} {cap : Nat} (h : Lim w ad xs) : readV w (.slice ad xs.length cap) = xs := by
  rcases h with rfl | ⟨b, off, rfl, hc⟩
  · cases ad <;> simp [readV]
  · simp only [readV]
    apply List.ext_getElem
    · simp
    · intro i h1 h2
      rw [List.getElem_map, List.getElem_range, hc i h2]
      simp [h2]
theorem Arg.read {w : World} {u : Value} {xs : List Int} {a : Option Addr} {cap : Nat} (h : Arg w u xs a cap) : readV w u = xs := by rw [h.is]; exact readV_lim h.lim
end
section
open Go.RowKit
set_option linter.unusedVariables false
set_option linter.unusedSimpArgs false
/-- block g has room for cap limbs, of which the first are zs -/
def Part (w : World) (g cap : Nat) (zs : List Int) : Prop := ∃ cur : Array Value, w.heap[g]? = some (.cells cur 96 (0, 0)) ∧ cur.size = cap ∧ zs.length ≤ cap ∧ cur.toList.take zs.length = zs.map (Value.int .u32)
theorem Part.cell {w : World} {g cap : Nat} {zs : List Int} (h : Part w g cap zs) (i : Nat) (hi : i < zs.length) : w.cell? ⟨g, i, none⟩ = some (.int .u32 (zs.getD i 0)) := by
  obtain ⟨cur, hh, hs, hl, ht⟩ := h
  have e : w.cell? ⟨g, i, none⟩ = cur[i]? := cell_of_row w g i _ 96 (0, 0) hh
  rw [e]
  have h1 : (cur.toList.take zs.length)[i]? = cur[i]? := by rw [List.getElem?_take_of_lt hi]; simp
  rw [← h1, ht]
  simp [hi]
theorem Part.free {w : World} {g cap : Nat} {zs : List Int} (h : Part w g cap zs) (i : Nat) : w.frozen? ⟨g, i, none⟩ = false := by
  obtain ⟨cur, hh, _⟩ := h
  exact frozen_of_row w g i _ 96 hh
theorem Part.lt {w : World} {g cap : Nat} {zs : List Int} (h : Part w g cap zs) : g < w.heap.size := by obtain ⟨cur, hh, _⟩ := h; exact lt_of_block hh
theorem Part.le {w : World} {g cap : Nat} {zs : List Int} (h : Part w g cap zs) : zs.length ≤ cap := by obtain ⟨_, _, _, h, _⟩ := h; exact h
theorem Part.same {w w' : World} {g cap : Nat} {zs : List Int} (h : Part w g cap zs) (e : w'.heap[g]? = w.heap[g]?) : Part w' g cap zs := by
  obtain ⟨cur, hh, r⟩ := h
  exact ⟨cur, e.trans hh, r⟩
theorem Part.alloc {w : World} {g cap : Nat} {zs : List Int} (h : Part w g cap zs) (o : Obj) : Part (w.alloc o) g cap zs := h.same (Below.heap_alloc _ _ _ h.lt)
theorem Part.below {w w' : World} {g cap B : Nat} {zs : List Int} (h : Part w g cap zs) (k : Below B w w') (hb : g < B) : Part w' g cap zs := h.same (k.block g hb)
theorem Part.later {w w' : World} {g cap : Nat} {zs : List Int} (h : Part w g cap zs) (k : Below w.heap.size w w') : Part w' g cap zs := h.below k h.lt
theorem Part.grown {w w' : World} {g cap : Nat} {row : Option Nat} {zs : List Int} (h : Part w g cap zs) (k : w.grownBy w' row) (hb : some g ≠ row) : Part w' g cap zs := h.same (k.block g h.lt hb)
theorem Part.far {w : World} {g cap : Nat} {zs : List Int} (h : Part w g cap zs) {p : Addr} (hne : g ≠ p.block) (u : Value) : Part (w.setCell p u) g cap zs := h.same (Below.heap_setCell _ _ _ _ hne)
theorem Part.set {w : World} {g cap : Nat} {zs : List Int} (h : Part w g cap zs) (i : Nat) (hi : i < zs.length) (x : Int) : Part (w.setCell ⟨g, i, none⟩ (.int .u32 x)) g cap (zs.set i x) := by
  obtain ⟨cur, hh, hs, hl, ht⟩ := h
  refine ⟨cur.setIfInBounds i (.int .u32 x), ?_, by simpa using hs, by simpa using hl, ?_⟩
  · have e := heap_setCell_same w g i _ 96 (.int .u32 x) hh
    rw [e]
  · rw [List.length_set, Array.toList_setIfInBounds, List.take_set, ht, List.map_set]
theorem Part.own (g cap : Nat) {β : Type} (f : β → List Int) : Own (fun s W => Part W g cap (f s)) := fun s X Y row hs hg hrow =>
  hs.grown hg (fun e' => by
    obtain ⟨o, ho, hc⟩ := hrow g e'.symm
    obtain ⟨cur, hh, _⟩ := hs
    rw [hh] at ho; cases ho; cases hc)
theorem Part.num {base g cap : Nat} {w : World} {zs : List Int} (h : Part w g cap zs) (hb : base ≤ g) (hm : cap ≤ maxLen) : Num base w (.slice (some ⟨g, 0, none⟩) zs.length cap) zs := by
  obtain ⟨cur, hh, hs, hl, ht⟩ := h
  exact ⟨by simp, .inr ⟨g, cap, cur, rfl, hb, hh, hl, hm, by simpa using hs, by simpa using ht⟩⟩
theorem Part.lim {w : World} {g cap : Nat} {zs : List Int} (h : Part w g cap zs) : Lim w (some ⟨g, 0, none⟩) zs := .inr ⟨g, 0, rfl, fun i hi => by rw [Nat.zero_add]; exact h.cell i hi⟩
/-- a slice of the call's own limbs: none, or a row -/
theorem Num.parts {base : Nat} {w : World} {v : Value} {zs : List Int} (h : Num base w v zs) : (v = .slice none 0 0 ∧ zs = []) ∨ ∃ g cap, v = .slice (some ⟨g, 0, none⟩) zs.length cap ∧ base ≤ g ∧ cap ≤ maxLen ∧ Part w g cap zs := by
  obtain ⟨h1, h2⟩ := h
  rcases h2 with ⟨hv, hn⟩ | ⟨g, cap, cur, hv, hb, hg, hc, hm, hs, ht⟩
  · exact .inl ⟨hv, List.eq_nil_of_length_eq_zero hn⟩
  · exact .inr ⟨g, cap, hv, hb, hm, cur, hg, by simpa using hs, hc, by simpa using ht⟩
theorem Num.nil_slice {base : Nat} {w : World} {n cap : Nat} {zs : List Int} (h : Num base w (.slice none n cap) zs) : zs = [] ∧ n = 0 ∧ cap = 0 := by
  rcases h.parts with ⟨e, hz⟩ | ⟨g, cp, e, _⟩
  · simp only [Value.slice.injEq] at e
    exact ⟨hz, e.2.1, e.2.2⟩
  · simp at e
theorem Num.some_slice {base : Nat} {w : World} {ad : Addr} {n cap : Nat} {zs : List Int} (h : Num base w (.slice (some ad) n cap) zs) : ∃ g, ad = ⟨g, 0, none⟩ ∧ base ≤ g ∧ n = zs.length ∧ cap ≤ maxLen ∧ Part w g cap zs := by
  rcases h.parts with ⟨e, hz⟩ | ⟨g, cp, e, hb, hm, hp⟩
  · simp at e
  · simp only [Value.slice.injEq, Option.some.injEq] at e
    obtain ⟨rfl, rfl, rfl⟩ := e
    exact ⟨g, rfl, hb, rfl, hm, hp⟩
theorem Num.own (base : Nat) (v : Value) {β : Type} (f : β → List Int) : Own (fun s W => Num base W v (f s)) := fun s X Y row hs hg hrow => by
  rcases hs.parts with ⟨rfl, e⟩ | ⟨g, cp, rfl, hb, hm, hp⟩
  · have h : Num base Y (.slice none 0 0) [] := ⟨rfl, .inl ⟨rfl, rfl⟩⟩
    rw [← e] at h
    exact h
  · exact (Part.own g cp f s X Y row hp hg hrow).num hb hm
theorem bitsN_count {xs : List Int} (h : Wf xs) : (bitsN xs + 31) / 32 = trimN xs xs.length ∧ trimN xs xs.length * 32 ≤ bitsN xs + 31 ∧ bitsN xs ≤ trimN xs xs.length * 32 := by
  unfold bitsN
  split
  · rename_i h0; omega
  · rename_i h0
    obtain ⟨m, hm⟩ : ∃ m, trimN xs xs.length = m + 1 := ⟨trimN xs xs.length - 1, by omega⟩
    have hne := trimN_last xs xs.length (by omega)
    rw [hm, Nat.add_sub_cancel] at hne ⊢
    have hb := h.getD m
    obtain ⟨j, hj, h1, h2⟩ := bitLen_is (show 0 < xs.getD m 0 by omega) (by omega)
    have hj2 : j < 32 := by
      rcases Nat.lt_or_ge j 32 with k | k
      · exact k
      · have := two_mono k
        have e : (2 : Int) ^ 32 = 4294967296 := rfl
        omega
    omega
set_option maxHeartbeats 400000 in
theorem count_any {u : Value} {xs : List Int} {a : Option Addr} {cap : Nat} {w : World} (h1 : Arg w u xs a cap) (hx : xs.length ≤ 35184372088832) :
    Calls Tryz.prog 252 #[u] w fun e w' => e = .returned (.int .i64 (trimN xs xs.length)) ∧ w = w' := by
  obtain ⟨c1, _, c2⟩ := bitsN_count h1.wf
  have hl := trim_le xs
  have hbits := bits_any a xs cap w h1.lim hx h1.le h1.wf
  obtain ⟨rfl, _, _, _⟩ := h1
  obtain ⟨b, hb⟩ : ∃ b, bitsN xs = b := ⟨_, rfl⟩
  rw [hb] at hbits c1 c2
  have hq : Int.tdiv ((b : Int) + 32 - 1) 32 = (trimN xs xs.length : Int) := by
    rw [Int.tdiv_eq_ediv_of_nonneg (by omega), ← c1]
    omega
  have HQ := Lib.hid hq
  clear hq hb
  go_enter Tryz.func252, Tryz.ntmps252
  go_wp2_with fail
  refine hbits.mono ?_
  rintro e w' ⟨rfl, rfl⟩
  clear hbits c1
  have hq := HQ.out
  go_wp2
  go_ret
  exact ⟨rfl, rfl⟩
end
section
open Go.RowKit Go.Shelf
set_option linter.unusedVariables false
set_option linter.unusedSimpArgs false
attribute [local go_sem] Oper.semAt_some
/-- quotient and rest by one limb, from the highest limb on -/
def shortW (d : Int) : List Int → List Int × Int
  | [] => ([], 0)
  | x :: l => (((shortW d l).2 * 4294967296 + x) / d :: (shortW d l).1, ((shortW d l).2 * 4294967296 + x) % d)
theorem shortW_length (d : Int) (xs : List Int) : (shortW d xs).1.length = xs.length := by
  induction xs with
  | nil => rfl
  | cons x xs ih => simp [shortW, ih]
theorem shortW_rest {d : Int} (hd : 0 < d) (xs : List Int) : 0 ≤ (shortW d xs).2 ∧ (shortW d xs).2 < d := by
  cases xs with
  | nil => exact ⟨Int.le_refl _, hd⟩
  | cons x xs => exact ⟨Int.emod_nonneg _ (by omega), Int.emod_lt_of_pos _ hd⟩
theorem shortW_limb {d r x : Int} (hd : 0 < d) (hr : 0 ≤ r ∧ r < d) (hx : 0 ≤ x ∧ x < 4294967296) : 0 ≤ (r * 4294967296 + x) / d ∧ (r * 4294967296 + x) / d < 4294967296 := by
  refine ⟨Int.ediv_nonneg (by omega) (by omega), ?_⟩
  rw [Int.ediv_lt_iff_lt_mul hd]
  have h := mul_le_r (a := r + 1) (b := d) (c := 4294967296) (by omega) (by omega)
  rw [Int.mul_comm 4294967296 d]
  omega
theorem shortW_wf {d : Int} (hd : 0 < d) {xs : List Int} (hx : Wf xs) : Wf (shortW d xs).1 := by
  induction xs with
  | nil => exact Wf.nil
  | cons x xs ih => exact Wf.cons (shortW_limb hd (shortW_rest hd xs) hx.head) (ih hx.tail)
theorem val_shortW (d : Int) (xs : List Int) : val (shortW d xs).1 * d + (shortW d xs).2 = val xs := by
  induction xs with
  | nil => simp [shortW, val]
  | cons x xs ih =>
    simp only [shortW, val]
    have h := Int.emod_add_mul_ediv ((shortW d xs).2 * 4294967296 + x) d
    generalize ((shortW d xs).2 * 4294967296 + x) / d = q at *
    generalize ((shortW d xs).2 * 4294967296 + x) % d = r at *
    grind
/-- what lies in memory where k limbs are still to come -/
def shortM (d : Int) (zs : List Int) (k : Nat) : List Int := zs.take k ++ (shortW d (zs.drop k)).1
theorem shortM_length (d : Int) (zs : List Int) (k : Nat) (hk : k ≤ zs.length) : (shortM d zs k).length = zs.length := by
  unfold shortM
  rw [List.length_append, shortW_length, List.length_take, List.length_drop]
  omega
theorem shortM_top (d : Int) (zs : List Int) : shortM d zs zs.length = zs := by simp [shortM, shortW]
theorem shortW_drop (d : Int) (zs : List Int) (k : Nat) (hk : k < zs.length) : shortW d (zs.drop k) = (((shortW d (zs.drop (k + 1))).2 * 4294967296 + zs.getD k 0) / d :: (shortW d (zs.drop (k + 1))).1, ((shortW d (zs.drop (k + 1))).2 * 4294967296 + zs.getD k 0) % d) := by
  rw [List.drop_eq_getElem_cons hk]
  simp only [shortW]
  rw [show zs[k] = zs.getD k 0 by simp [hk]]
theorem shortM_step (d : Int) (zs : List Int) (k : Nat) (hk : k < zs.length) : (shortM d zs (k + 1)).set k (((shortW d (zs.drop (k + 1))).2 * 4294967296 + zs.getD k 0) / d) = shortM d zs k := by
  unfold shortM
  rw [shortW_drop d zs k hk, List.take_succ_eq_append_getElem hk, List.append_assoc, List.set_append_right _ _ (by rw [List.length_take]; omega)]
  rw [List.length_take, Nat.min_eq_left (by omega), Nat.sub_self]
  simp
theorem shortM_low (d : Int) (zs : List Int) (k i : Nat) (hk : k ≤ zs.length) (hi : i < k) : (shortM d zs k).getD i 0 = zs.getD i 0 := by
  unfold shortM
  simp only [List.getD]
  rw [List.getElem?_append_left (by rw [List.length_take]; omega), List.getElem?_take_of_lt hi]
theorem or_u64' {x y : Int} (hx : 0 ≤ x ∧ x < 4294967296) (hy : 0 ≤ y ∧ y < 4294967296) : bits .or .u64 (x * 4294967296) y = x * 4294967296 + y := by rw [or_u64 hx hy]; omega
/-- how far a walk from above has come -/
structure Down (N : Nat) (pre : List (Fin N)) : Prop where
  on : Downto pre pre.length
  le : pre.length ≤ N
theorem Down.snoc {N : Nat} {pre : List (Fin N)} (h : Down N pre) (x : Fin N) (hx : x.val + pre.length + 1 = N) : Down N (pre ++ [x]) := by
  have e : (pre ++ [x]).length = pre.length + 1 := by simp
  exact ⟨by rw [e]; exact h.on.snoc x hx, by rw [e]; omega⟩
set_option maxRecDepth 100000 in
set_option maxHeartbeats 4000000 in
theorem short1_any {u : Value} {w : World} {xs : List Int} {a : Option Addr} {cap : Nat} (d : Int) (h1 : Arg w u xs a cap) (hx : xs.length ≤ 35184372088832) (hd : 0 < d ∧ d < 4294967296) :
    Calls Tryz.prog 253 #[u, .int .u32 d] w fun e w' => ∃ r, e = .returned (.tuple #[r, .int .u32 (val xs % d), .int .i64 0]) ∧ ∃ zs, Res w.heap.size w' r zs (val xs / d) ∧ zs.length ≤ xs.length ∧ Below w.heap.size w w' := by
  obtain ⟨hd0, hd1⟩ := hd
  obtain ⟨n, hn⟩ : ∃ n : Nat, Hid (3 ≤ n) := ⟨3, Nat.le_refl 3⟩
  refine (callsIn_wide (n := n)).1 ?_
  refine callsIn_of_wp_marks Tryz.func253 rfl trivial ?_ rfl
  simp only [Tryz.ntmps253, List.size_toArray, List.length_cons, List.length_nil, Nat.reduceAdd, Nat.reduceSub, Array.replicate_succ, Array.replicate_zero, List.push_toArray, List.append_toArray, List.nil_append, List.cons_append]
  have hdz : (d == 0) = false := by simp; omega
  gi_wp2_with fail
  have A1 := h1.later ((Below.refl _ w).alloc (Nat.le_refl _) (Obj.cells #[Value.int IntKind.u32 d] 96))
  refine wideCall ((trim_res A1 hx).mono ?_)
  rintro e w1 ⟨r1, zs, rfl, q1, n1, hb1⟩
  rw [World.size_alloc] at q1 hb1
  have k1 : Boxed w1 w.heap.size 96 (.int .u32 d) := (hb1.block _ (Nat.lt_succ_self _)).trans (Boxed.new w 96 (.int .u32 d))
  have hB1 : Below w.heap.size w w1 := ((Below.refl _ w).alloc (Nat.le_refl _) _).trans (hb1.mono (Nat.le_succ _))
  have hs1 : w.heap.size + 1 ≤ w1.heap.size := by have := hb1.size; rw [World.size_alloc] at this; exact this
  obtain ⟨ad, cp, rfl, _, _, _, _⟩ := q1.num.read
  gi_wp2_with fail
  refine wideCall ((back_any _ _ _ _).mono ?_)
  rintro e w' ⟨rfl, rfl⟩
  gi_wp2_with fail
  have h3 : 3 ≤ n := hn
  obtain ⟨N, hN⟩ : ∃ N, zs.length = N := ⟨_, rfl⟩
  rw [hN]
  have nq0 := q1.num
  rw [hN] at nq0
  have j7 := ((Boxed.new w1 91 (.slice ad N cp)).alloc (Obj.cells #[Value.int IntKind.u64 0] 239)).alloc (Obj.cells #[Value.slice ad N cp] 91)
  have j8 := (Boxed.new (w1.alloc (Obj.cells #[Value.slice ad N cp] 91)) 239 (.int .u64 0)).alloc (Obj.cells #[Value.slice ad N cp] 91)
  have j9 := Boxed.new ((w1.alloc (Obj.cells #[Value.slice ad N cp] 91)).alloc (Obj.cells #[Value.int IntKind.u64 0] 239)) 91 (.slice ad N cp)
  have j3 := ((k1.alloc (Obj.cells #[Value.slice ad N cp] 91)).alloc (Obj.cells #[Value.int IntKind.u64 0] 239)).alloc (Obj.cells #[Value.slice ad N cp] 91)
  have jb : Below w1.heap.size w1 (((w1.alloc (Obj.cells #[Value.slice ad N cp] 91)).alloc (Obj.cells #[Value.int IntKind.u64 0] 239)).alloc (Obj.cells #[Value.slice ad N cp] 91)) :=
    (((Below.refl _ w1).alloc (Nat.le_refl _) _).alloc (by simp) _).alloc (by simp; omega) _
  have js : (((w1.alloc (Obj.cells #[Value.slice ad N cp] 91)).alloc (Obj.cells #[Value.int IntKind.u64 0] 239)).alloc (Obj.cells #[Value.slice ad N cp] 91)).heap.size = w1.heap.size + 3 := by simp
  have jq := nq0.later jb
  have jB := hB1.trans (jb.mono (Nat.le_trans (Nat.le_succ _) hs1))
  simp only [World.size_alloc] at j8 j9
  generalize ((w1.alloc (Obj.cells #[Value.slice ad N cp] 91)).alloc (Obj.cells #[Value.int IntKind.u64 0] 239)).alloc (Obj.cells #[Value.slice ad N cp] 91) = W0 at *
  have hNw : N ≤ 35184372088832 := by omega
  have wz := q1.wf
  have hqe := q1.eq
  have hglt : ∀ g, ad = some ⟨g, 0, none⟩ → g < w1.heap.size := fun g e => (nq0.lt g (by rw [e]; rfl)).2
  have HN := Lib.hid hN
  have HQE := Lib.hid hqe
  have hn1 : N ≤ xs.length := by omega
  have jq2 : Num (w.heap.size + 1) W0 (.slice ad N cp) (shortM d zs N) := by rw [← hN, shortM_top, hN]; exact jq
  clear q1 nq0 k1 hB1 hb1 A1 jb h1 hN hqe n1
  refine range_seen (gf := 293) (lb := #[.pointer (some ⟨w1.heap.size + 1 + 1, 0, none⟩)]) rfl (enters_of Tryz.func293 (by kernel_rfl) rfl) (encs := limbAt zs (n := N)) (fun _ => rfl)
    (fun (pre : List (Fin N)) X => Down N pre ∧ ((((Num (w.heap.size + 1) X (.slice ad N cp) (shortM d zs (N - pre.length)) ∧ Boxed X w.heap.size 96 (.int .u32 d)) ∧ Boxed X w1.heap.size 91 (.slice ad N cp)) ∧
      Boxed X (w1.heap.size + 1) 239 (.int .u64 (shortW d (zs.drop (N - pre.length))).2)) ∧ Boxed X (w1.heap.size + 1 + 1) 91 (.slice ad N cp)) ∧ Below w.heap.size w X)
    (fun pre x => Downto pre pre.length ∧ x.val + pre.length + 1 = N) (fun ys => Downto ys N)
    (OwnFrom.and (ownFrom_pure _ _) (OwnFrom.and (Own.from (Own.and2 (Own.and2 (Own.and2 (Own.and2 (Num.own _ _ _) (boxed_own _ _ _)) (boxed_own _ _ _)) (boxed_own _ _ _)) (boxed_own _ _ _)) _) (ownFrom_below (by omega) (by omega))))
    ?start (fun (x : Fin N) => { tmps := #[u, .int .u32 d, undef, .pointer (some ⟨w.heap.size, 0, none⟩), .slice none 0 0, .int .u32 0, .int .i64 0, .pointer (some ⟨w1.heap.size, 0, none⟩), .pointer (some ⟨w1.heap.size + 1, 0, none⟩), .int .i64 (x.val : Int), .int .u32 (zs[x.val]?.getD 0), .int .u32 d,
      .bool false, u, .slice ad N cp, .slice ad N cp, .func (.func 293) #[] #[.pointer (some ⟨w1.heap.size + 1 + 1, 0, none⟩)], .int .i64 (x.val : Int), .int .u32 (zs[x.val]?.getD 0),
      undef, undef, undef, undef, undef, undef, undef, undef, undef, undef, undef, undef, undef, undef, undef, undef, undef, undef, undef, undef, undef], defers := [] }) ?seq ?assign ?body ?done
  case start =>
    refine ⟨⟨Downto.nil, Nat.zero_le _⟩, ⟨⟨⟨⟨?_, j3⟩, j7⟩, ?_⟩, j9⟩, jB⟩
    · exact jq2
    · rw [List.length_nil, Nat.sub_zero, ← HN.out, List.drop_length]; exact j8
  case seq =>
    intro l J hJ hY W hJ0
    obtain ⟨g, hg⟩ : ∃ g, 0 < N → ad = some ⟨g, 0, none⟩ := by
      rcases ad with _ | ad
      · exact ⟨0, fun h => by have h2 := jq.nil_slice; rw [h2.2.1] at h; exact absurd h (Nat.lt_irrefl 0)⟩
      · obtain ⟨g, rfl, _⟩ := jq.some_slice
        exact ⟨g, fun _ => rfl⟩
    refine back_seen (n - 1) (w1.heap.size + 1 + 1) g N cp ad hg hNw zs HN.out _ (fun pre X h => ⟨h.2.1.2.cell, fun i hi => ?_⟩) l J hJ hY W hJ0
    have hq := h.2.1.1.1.1.1
    rw [hg (by omega)] at hq
    obtain ⟨g', e, _, _, _, hp⟩ := hq.some_slice
    cases e
    have hl := HN.out
    have hc := hp.cell i (by rw [shortM_length _ _ _ (by omega)]; omega)
    rw [shortM_low _ _ _ _ (by omega) (by omega)] at hc
    exact hc
  case assign =>
    intro l x X K hK
    simp only [limbAt]
    gi_wp2
    exact hK
  case body =>
    rintro l pre ⟨j, hj⟩ X ⟨hdn, ⟨⟨⟨⟨nq, b3⟩, b7⟩, b8⟩, b9⟩, hB⟩ ⟨_, hnx⟩
    simp only at hnx
    have hl := HN.out
    have ejp : N - pre.length = j + 1 := by omega
    have ejp2 : N - (pre ++ [(⟨j, hj⟩ : Fin N)]).length = j := by simp; omega
    rw [ejp] at nq b8
    rw [ejp2]
    have hdn' : Down N (pre ++ [(⟨j, hj⟩ : Fin N)]) := hdn.snoc ⟨j, hj⟩ hnx
    have HDN := Lib.hid hdn'
    clear hdn'
    obtain ⟨br0, br1⟩ := shortW_rest hd0 (zs.drop (j + 1))
    obtain ⟨bx0, bx1⟩ := wz.getD j
    obtain ⟨bq0, bq1⟩ := shortW_limb hd0 ⟨br0, br1⟩ ⟨bx0, bx1⟩
    have hstep := shortM_step d zs j (by omega)
    have hdrop := shortW_drop d zs j (by omega)
    obtain ⟨x, hx⟩ : ∃ x, zs.getD j 0 = x := ⟨_, rfl⟩
    obtain ⟨r, hr⟩ : ∃ r, (shortW d (zs.drop (j + 1))).2 = r := ⟨_, rfl⟩
    rw [hx] at bx0 bx1 bq0 bq1 hstep hdrop
    rw [hr] at br0 br1 b8 bq0 bq1 hstep hdrop
    have hx' : zs[j]?.getD 0 = x := hx
    simp only [hx']
    rw [hdrop]
    have hor : bits .or .u64 (r * 4294967296) x = r * 4294967296 + x := or_u64' ⟨br0, by omega⟩ ⟨bx0, bx1⟩
    obtain ⟨q, hq⟩ : ∃ q, (r * 4294967296 + x) / d = q := ⟨_, rfl⟩
    obtain ⟨m, hm⟩ : ∃ m, (r * 4294967296 + x) % d = m := ⟨_, rfl⟩
    rw [hq] at bq0 bq1 hstep
    have htd : Int.tdiv (r * 4294967296 + x) d = q := by rw [Int.tdiv_eq_ediv_of_nonneg (by omega), hq]
    have htm : Int.tmod (r * 4294967296 + x) d = m := by rw [Int.tmod_eq_emod_of_nonneg (by omega), hm]
    have hm0 : 0 ≤ m := by rw [← hm]; exact Int.emod_nonneg _ (by omega)
    have hm1 : m < d := by rw [← hm]; exact Int.emod_lt_of_pos _ hd0
    obtain ⟨g, rfl, hg, hp⟩ : ∃ g, ad = some ⟨g, 0, none⟩ ∧ w.heap.size + 1 ≤ g ∧ Part X g cp (shortM d zs (j + 1)) := by
      rcases ad with _ | ad
      · have h2 := nq.nil_slice; omega
      · obtain ⟨g, rfl, h1, _, _, h2⟩ := nq.some_slice
        exact ⟨g, rfl, h1, h2⟩
    have hgw := hglt g rfl
    have hle : cp ≤ maxLen := by obtain ⟨g', e, _, _, h, _⟩ := nq.some_slice; exact h
    have hlen : (shortM d zs (j + 1)).length = N := by rw [shortM_length _ _ _ (by omega), hl]
    have c8 := b8.cell
    have f8 := b8.frozen
    have c7 := b7.cell
    have c3 := b3.cell
    have hsX := hB.size
    have HST := Lib.hid hstep
    have HM := Lib.hid hm
    have hjN : (j : Int) < (N : Int) := by omega
    clear hstep hdrop hq hm hx hr hx' hl hlen nq
    gi_wp2_with fail
    have p8 : Boxed (X.setCell ⟨w1.heap.size + 1, 0, none⟩ (.int .u64 (r * 4294967296 + x))) (w1.heap.size + 1) 239 (.int .u64 (r * 4294967296 + x)) := b8.set _
    have p7 : Boxed (X.setCell ⟨w1.heap.size + 1, 0, none⟩ (.int .u64 (r * 4294967296 + x))) w1.heap.size 91 (.slice (some ⟨g, 0, none⟩) N cp) := Boxed.far b7 (by simp) _
    have p9 : Boxed (X.setCell ⟨w1.heap.size + 1, 0, none⟩ (.int .u64 (r * 4294967296 + x))) (w1.heap.size + 1 + 1) 91 (.slice (some ⟨g, 0, none⟩) N cp) := Boxed.far b9 (by simp) _
    have p3 : Boxed (X.setCell ⟨w1.heap.size + 1, 0, none⟩ (.int .u64 (r * 4294967296 + x))) w.heap.size 96 (.int .u32 d) := Boxed.far b3 (by simp; omega) _
    have pp := hp.far (p := ⟨w1.heap.size + 1, 0, none⟩) (by simp; omega) (.int .u64 (r * 4294967296 + x))
    have pB : Below w.heap.size w (X.setCell ⟨w1.heap.size + 1, 0, none⟩ (.int .u64 (r * 4294967296 + x))) := hB.setCell (p := ⟨w1.heap.size + 1, 0, none⟩) (by simp; omega) _
    have pK : KeepsOthers X (X.setCell ⟨w1.heap.size + 1, 0, none⟩ (.int .u64 (r * 4294967296 + x))) := KeepsOthers.setCell _ _ _
    clear b8 b7 b9 b3 hp hB c8 f8 c7 c3
    generalize (X.setCell ⟨w1.heap.size + 1, 0, none⟩ (.int .u64 (r * 4294967296 + x))) = Y at *
    have c8 := p8.cell
    have c7 := p7.cell
    have c3 := p3.cell
    have hwd : IntKind.u64.wrap d = d := wrap_u64 (by omega) (by omega)
    have hwq : IntKind.u64.wrap q = q := wrap_u64 (by omega) (by omega)
    have hwq2 : IntKind.u32.wrap q = q := by rw [wrap_u32]; exact Int.emod_eq_of_lt bq0 bq1
    have hdne : d ≠ 0 := by omega
    have cg := pp.cell j (by rw [shortM_length _ _ _ (by have := HN.out; omega)]; have := HN.out; omega)
    have fg := pp.free j
    refine region_round (fun X' => X'.cell? ⟨w1.heap.size, 0, none⟩ = some (.slice (some ⟨g, 0, none⟩) N cp) ∧ X'.cell? ⟨w1.heap.size + 1, 0, none⟩ = some (.int .u64 (r * 4294967296 + x)) ∧ X'.cell? ⟨w.heap.size, 0, none⟩ = some (.int .u32 d))
      (by kernel_rfl) (by kernel_rfl) (by rintro ⟨a', w', h⟩; exact absurd (show Exit.outgrown = Exit.normal from h.1) (by simp)) ⟨c7, c8, c3⟩ (fun hHeld => ?_)
    refine todo [0, 1, 2, 3, 4, 5, 6, 7] ?_
    iterate 8
     refine todoH (v := ?_) rfl (by kernel_rfl) (fun _ _ _ h => h) (by assumption) (Or.inl ⟨by rfl, ?_⟩) ?_
     rotate_left
     · intro w hSw; (try dsimp only at hSw); go_simp; (try with_reducible rfl)
     try simp only [Act.put, List.getElem_toArray, List.getElem_cons_succ, List.getElem_cons_zero, List.setIfInBounds_toArray, List.set_cons_zero, List.set_cons_succ]
    refine todone ?_
    refine wpAnyH_ready (rs := [8]) (by kernel_rfl) (by simp) ?_
    refine AllReadyH.cons rfl (fun K hK => ?sb8) AllReadyH.nil
    go_simp
    refine hK.out _ _ ?kb8 (fun hHeld => ?mb8)
    case kb8 =>
      try dsimp only
      exact ⟨(World.cell?_setCell_far _ _ _ _ (by simp <;> omega)).trans hHeld.1, (World.cell?_setCell_far _ _ _ _ (by simp <;> omega)).trans hHeld.2.1, (World.cell?_setCell_far _ _ _ _ (by simp <;> omega)).trans hHeld.2.2⟩
    clear hK K
    try simp only [Act.put, List.setIfInBounds_toArray, List.set_cons_zero, List.set_cons_succ]
    refine wpAnyH_done (by kernel_rfl) ?_ _
    have hj' : (shortM d zs j).length = N := shortM_length _ _ _ (by have := HN.out; omega) |>.trans HN.out
    have hz1 : (shortM d zs (j + 1)).length = N := shortM_length _ _ _ (by have := HN.out; omega) |>.trans HN.out
    have t8 : Boxed (Y.setCell ⟨g, j, none⟩ (.int .u32 q)).drew (w1.heap.size + 1) 239 (.int .u64 (r * 4294967296 + x)) := Boxed.far p8 (by simp; omega) _
    have t7 : Boxed (Y.setCell ⟨g, j, none⟩ (.int .u32 q)).drew w1.heap.size 91 (.slice (some ⟨g, 0, none⟩) N cp) := Boxed.far p7 (by simp; omega) _
    have t9 : Boxed (Y.setCell ⟨g, j, none⟩ (.int .u32 q)).drew (w1.heap.size + 1 + 1) 91 (.slice (some ⟨g, 0, none⟩) N cp) := Boxed.far p9 (by simp; omega) _
    have t3 : Boxed (Y.setCell ⟨g, j, none⟩ (.int .u32 q)).drew w.heap.size 96 (.int .u32 d) := Boxed.far p3 (by simp; omega) _
    have tp : Part (Y.setCell ⟨g, j, none⟩ (.int .u32 q)).drew g cp (shortM d zs j) := by
      have h := pp.set j (by omega) q
      rw [HST.out] at h
      exact h
    have tB : Below w.heap.size w (Y.setCell ⟨g, j, none⟩ (.int .u32 q)).drew := (pB.setCell (p := ⟨g, j, none⟩) (by simp; omega) _).drew
    have tK : KeepsOthers X (Y.setCell ⟨g, j, none⟩ (.int .u32 q)).drew := (pK.trans (KeepsOthers.setCell _ _ _)).trans (KeepsOthers.drew _)
    clear hHeld p8 p7 p9 p3 pp pB pK c8 c7 c3 cg fg
    generalize (Y.setCell ⟨g, j, none⟩ (.int .u32 q)).drew = Z at *
    have d8 := t8.cell
    have f8 := t8.frozen
    have d3 := t3.cell
    gi_wp2_with fail
    refine ⟨(tK.trans (KeepsOthers.setCell _ _ _)).from _, HDN.out, ⟨⟨⟨⟨?_, Boxed.far t3 (by simp; omega) _⟩, Boxed.far t7 (by simp) _⟩, ?_⟩, Boxed.far t9 (by simp) _⟩, tB.setCell (p := ⟨w1.heap.size + 1, 0, none⟩) (by simp; omega) _⟩
    · have h := (tp.far (p := ⟨w1.heap.size + 1, 0, none⟩) (by simp; omega) (.int .u64 m)).num hg hle
      rw [hj'] at h
      exact h
    · rw [HM.out]
      exact t8.set _
  case done =>
    rintro D ys X hD hdn ⟨_, ⟨⟨⟨⟨nq, b3⟩, b7⟩, b8⟩, b9⟩, hB⟩ hK
    have hyl : ys.length = N := hdn.1
    rw [hyl, Nat.sub_self] at nq b8
    have e1 : shortM d zs 0 = (shortW d zs).1 := by simp [shortM]
    rw [e1] at nq
    rw [List.drop_zero] at b8
    have hsX := hB.size
    have hl := HN.out
    obtain ⟨br0, br1⟩ := shortW_rest hd0 zs
    have hv := val_shortW d zs
    obtain ⟨e2, e3⟩ := quo_eq (show 0 < d by omega) hv ⟨br0, br1⟩
    rw [HQE.out] at e2 e3
    have wq := shortW_wf hd0 wz
    obtain ⟨r, hr⟩ : ∃ r, (shortW d zs).2 = r := ⟨_, rfl⟩
    have hln : (shortW d zs).1.length = N := by rw [shortW_length, hl]
    rw [hr] at b8 br0 br1 e3
    have hwr : IntKind.u32.wrap r = r := by rw [wrap_u32]; exact Int.emod_eq_of_lt br0 (by omega)
    have c8 := b8.cell
    have c7 := b7.cell
    have E2 := Lib.hid e2
    have E3 := Lib.hid e3
    obtain ⟨qs, hqs⟩ : ∃ qs, (shortW d zs).1 = qs := ⟨_, rfl⟩
    rw [hqs] at nq wq hln
    have E4 := Lib.hid hqs
    obtain ⟨adq, capq, hq1, hq2, hq3, _, _⟩ := nq.read
    rw [hln] at hq1
    simp only [Value.slice.injEq, true_and] at hq1
    obtain ⟨rfl, rfl⟩ := hq1
    have Aq : Arg X.drew (.slice ad N cp) qs ad cp := ⟨by rw [hln], hq2.later ((Below.refl X.heap.size X).drew), hq3, wq⟩
    clear hv e1 e2 e3 hqs hr nq hq2 hq3 jq jq2 j3 j7 j8 j9
    gi_wp2_with fail
    refine wpIn_wide.2 ?_
    go_region_held3 (fun X' => X'.cell? ⟨w1.heap.size, 0, none⟩ = some (.slice ad N cp) ∧ X'.cell? ⟨w1.heap.size + 1, 0, none⟩ = some (.int .u64 r))
      (first | exact ⟨(hb2.cell (p := ⟨w1.heap.size, 0, none⟩) (World.block_lt_of_cell? X _ c7)).trans c7, (hb2.cell (p := ⟨w1.heap.size + 1, 0, none⟩) (World.block_lt_of_cell? X _ c8)).trans c8⟩ | go_keep)
      (first | (go_at_call 251; refine (trim_res Aq (by omega)).mono ?_; rintro e w2 ⟨r2, z2, rfl, q2, n2, hb2⟩))
    gi_wp2_with fail
    have hDX : D < X.heap.size := (Array.getElem?_eq_some_iff.1 hK).1
    have hK2 : w2.heap[D]? = some (.deferred (some [])) := (hb2.block D hDX).trans hK
    refine ⟨by simp, .inl ⟨_, _, rfl, run_takeDeferred hK2, ?_⟩⟩
    have hs2 : X.heap.size ≤ w2.heap.size := hb2.size
    have ev : val qs = val xs / d := by rw [← E4.out, E2.out]
    refine ⟨.tuple #[r2, .int .u32 r, .int .i64 0], by simp [results, Tryz.f253, go_sem], r2, by rw [← E3.out], z2, ⟨ownsRow_putObj (q2.num.mono (show w.heap.size ≤ X.drew.heap.size from hsX)) (.deferred none) hK2 rfl, q2.wf, q2.full, q2.eq.trans ev⟩, by omega, ?_⟩
    have hb2' : Below w.heap.size X w2 := Below.mono (show Below X.heap.size X w2 from ⟨hb2.os, hb2.tape, hb2.output, hb2.size, hb2.block⟩) hsX
    exact (hB.trans hb2').trans (belowK_b (w := w) (Nat.le_refl _) w2 D _ _ (by omega) hK2 rfl rfl)
end
section
open Go.RowKit
set_option linter.unusedVariables false
set_option linter.unusedSimpArgs false
/-- the row zs, from i on k limbs replaced by ls -/
def putAt (zs : List Int) (i : Nat) (ls : List Int) : List Int := zs.take i ++ ls ++ zs.drop (i + ls.length)
theorem putAt_length (zs ls : List Int) (i : Nat) (h : i + ls.length ≤ zs.length) : (putAt zs i ls).length = zs.length := by
  unfold putAt; simp only [List.length_append, List.length_take, List.length_drop]; omega
theorem putAt_nil (zs : List Int) (i : Nat) : putAt zs i [] = zs := by simp [putAt]
theorem putAt_far (zs ls : List Int) (i k : Nat) (h : i + ls.length ≤ zs.length) (hk : i + ls.length ≤ k) : (putAt zs i ls).getD k 0 = zs.getD k 0 := by
  unfold putAt
  simp only [List.getD]
  rw [List.getElem?_append_right (by simp only [List.length_append, List.length_take]; omega), List.getElem?_drop]
  congr 2
  simp only [List.length_append, List.length_take]
  omega
theorem putAt_snoc (zs ls : List Int) (i : Nat) (x : Int) (h : i + ls.length < zs.length) : (putAt zs i ls).set (i + ls.length) x = putAt zs i (ls ++ [x]) := by
  unfold putAt
  have hl : (zs.take i ++ ls).length = i + ls.length := by simp only [List.length_append, List.length_take]; omega
  rw [List.set_append_right _ _ (by omega), hl, Nat.sub_self, List.drop_eq_getElem_cons h, List.set_cons_zero]
  simp [List.append_assoc, Nat.add_assoc]
theorem putAt_take (zs ls : List Int) (i : Nat) (h : i + ls.length ≤ zs.length) : (putAt zs i ls).take i = zs.take i := by
  unfold putAt
  rw [List.append_assoc, List.take_append_of_le_length (by rw [List.length_take]; omega), List.take_take]
  congr 1; omega
theorem putAt_mid (zs ls : List Int) (i : Nat) (h : i + ls.length ≤ zs.length) : ((putAt zs i ls).drop i).take ls.length = ls := by
  unfold putAt
  rw [List.append_assoc, List.drop_left' (by rw [List.length_take]; omega), List.take_left' rfl]
theorem putAt_drop (zs ls : List Int) (i : Nat) (h : i + ls.length ≤ zs.length) : (putAt zs i ls).drop (i + ls.length) = zs.drop (i + ls.length) := by
  unfold putAt
  rw [List.drop_left' (by simp only [List.length_append, List.length_take]; omega)]
theorem putAt_wf {zs ls : List Int} (i : Nat) (hz : Wf zs) (hl : Wf ls) : Wf (putAt zs i ls) := ((hz.take i).append hl).append (hz.drop _)
/-- m limbs from i on -/
def sub (zs : List Int) (i m : Nat) : List Int := (zs.drop i).take m
theorem sub_getD (zs : List Int) (i m k : Nat) (h : k < m) : (sub zs i m).getD k 0 = zs.getD (i + k) 0 := by
  unfold sub
  simp only [List.getD]
  rw [List.getElem?_take_of_lt h, List.getElem?_drop]
theorem sub_length (zs : List Int) (i m : Nat) (h : i + m ≤ zs.length) : (sub zs i m).length = m := by unfold sub; rw [List.length_take, List.length_drop]; omega
theorem sub_wf {zs : List Int} (i m : Nat) (h : Wf zs) : Wf (sub zs i m) := (h.drop i).take m
theorem sub_putAt (zs ls : List Int) (i m : Nat) (hm : ls.length = m) (h : i + m ≤ zs.length) : sub (putAt zs i ls) i m = ls := by unfold sub; rw [← hm]; exact putAt_mid _ _ _ (by omega)
theorem putAt_twice (zs ls ks : List Int) (i : Nat) (h : i + ls.length ≤ zs.length) (hk : ks.length = ls.length) : putAt (putAt zs i ls) i ks = putAt zs i ks := by
  have h1 := putAt_take zs ls i h
  have h2 := putAt_drop zs ls i h
  unfold putAt at *
  rw [hk, h1, h2]
/-- what takeAway leaves, of n + 1 limbs, and whether they were less -/
def takeL (ps ys : List Int) (q : Int) : List Int := (takeTo ps ys q ys.length).1 ++ [(ps.getD ys.length 0 - (takeTo ps ys q ys.length).2 % 4294967296) % 4294967296]
def takeB (ps ys : List Int) (q : Int) : Bool := decide (ps.getD ys.length 0 < (takeTo ps ys q ys.length).2)
theorem takeL_length (ps ys : List Int) (q : Int) : (takeL ps ys q).length = ys.length + 1 := by simp [takeL, takeTo_length]
theorem takeL_wf (ps ys : List Int) (q : Int) : Wf (takeL ps ys q) := (takeTo_wf _ _ _ _).append (Wf.cons (by omega) Wf.nil)
theorem val_takeL {ps ys : List Int} {q : Int} (hp : Wf ps) (hy : Wf ys) (hq : 0 ≤ q ∧ q ≤ 4294967295) (hl : ps.length = ys.length + 1) :
    val (takeL ps ys q) = val ps - q * val ys + (if takeB ps ys q then 4294967296 ^ (ys.length + 1) else 0) := by
  have h1 := val_takeTo ps ys q hp ys.length
  have h2 := takeTo_owed ps ys q hy hq ys.length
  have h3 := val_take_succ ps ys.length
  rw [← hl, List.take_of_length_le (Nat.le_refl _)] at h3
  rw [List.take_of_length_le (Nat.le_refl ys.length)] at h1
  have hb := hp.getD ys.length
  unfold takeL takeB
  rw [val_append, takeTo_length]
  simp only [val, Int.mul_zero, Int.add_zero]
  generalize (takeTo ps ys q ys.length).2 = o at *
  generalize ps.getD ys.length 0 = p at *
  rw [Int.pow_succ]
  generalize (4294967296 : Int) ^ ys.length = P at *
  have hs : (p - o % 4294967296) % 4294967296 = p - o + (if decide (p < o) = true then 4294967296 else 0) := by
    by_cases h : p < o
    · rw [if_pos (decide_eq_true h)]; omega
    · rw [if_neg (by simpa using h)]; omega
  rw [hs, h3]
  by_cases h : p < o
  · rw [if_pos (decide_eq_true h), if_pos (decide_eq_true h)]
    have e : P * (p - o + 4294967296) = P * p - P * o + P * 4294967296 := by rw [Int.mul_add, Int.mul_sub]
    omega
  · rw [if_neg (by simpa using h), if_neg (by simpa using h)]
    have e : P * (p - o + 0) = P * p - P * o := by rw [Int.add_zero, Int.mul_sub]
    omega
set_option maxRecDepth 100000 in
set_option maxHeartbeats 4000000 in
theorem take_any {g cap capp i : Nat} {bg bo capb : Nat} {zs ys : List Int} {w : World} (q : Int) (hz : Part w g cap zs) (hwz : Wf zs) (hwy : Wf ys) (hq : 0 ≤ q ∧ q ≤ 4294967295) (hi : i + ys.length < zs.length) (hm : zs.length ≤ 1099511627776)
    (cy : ∀ j, j < ys.length → w.cell? ⟨bg, bo + j, none⟩ = some (.int .u32 (ys.getD j 0))) (hbg : bg ≠ g) :
    Calls Tryz.prog 297 #[.slice (some ⟨g, i, none⟩) (ys.length + 1 : Nat) capp, .int .u64 q, .slice (some ⟨bg, bo, none⟩) ys.length capb] w fun e w' =>
      e = .returned (.bool (takeB (sub zs i (ys.length + 1)) ys q)) ∧ Part w' g cap (putAt zs i (takeL (sub zs i (ys.length + 1)) ys q)) ∧ Only g w w' := by
  obtain ⟨N, hN⟩ : ∃ N, ys.length + 1 = N := ⟨_, rfl⟩
  rw [hN]
  obtain ⟨hq0, hq1⟩ := hq
  go_enter Tryz.func297, Tryz.ntmps297
  go_wp2
  go_loopw [7, 8, 9, 10, 15] (fun o _ _ _ k wr => ∃ k' : Nat, k' ≤ ys.length ∧ k = .int .i64 k' ∧ o = .int .u64 (takeTo (sub zs i N) ys q k').2 ∧ Part wr g cap (putAt zs i (takeTo (sub zs i N) ys q k').1) ∧ Only g w wr) (fun _ _ _ _ k _ => ys.length - (intOf k).toNat)
  case atStart => exact ⟨0, Nat.zero_le _, rfl, rfl, by simp only [takeTo, putAt_nil]; exact hz, Only.refl _ _⟩
  case round =>
    obtain ⟨k, hk, rfl, rfl, hpart, ho⟩ := hrel
    obtain ⟨o, hok⟩ : ∃ o, (takeTo (sub zs i N) ys q k).2 = o := ⟨_, rfl⟩
    obtain ⟨bo0, bo1⟩ : 0 ≤ o ∧ o ≤ 4294967296 := hok ▸ takeTo_owed (sub zs i N) ys q hwy ⟨hq0, hq1⟩ k
    have hll := takeTo_length (sub zs i N) ys q k
    rw [hok]
    by_cases hlt : k < ys.length
    · obtain ⟨y, hyk⟩ : ∃ y, ys.getD k 0 = y := ⟨_, rfl⟩
      obtain ⟨by0, by1⟩ : 0 ≤ y ∧ y < 4294967296 := hyk ▸ hwy.getD k
      obtain ⟨p, hpk⟩ : ∃ p, zs.getD (i + k) 0 = p := ⟨_, rfl⟩
      have hpk2 : (sub zs i N).getD k 0 = p := by rw [← hpk]; exact sub_getD _ _ _ _ (by omega)
      obtain ⟨bp0, bp1⟩ : 0 ≤ p ∧ p < 4294967296 := hpk ▸ hwz.getD (i + k)
      have cY := (ho.cell (p := ⟨bg, bo + k, none⟩) hbg).trans (cy k hlt)
      rw [hyk] at cY
      have hpl : (putAt zs i (takeTo (sub zs i N) ys q k).1).length = zs.length := putAt_length _ _ _ (by omega)
      have cZ := hpart.cell (i + k) (by omega)
      rw [putAt_far _ _ _ _ (by omega) (by omega), hpk] at cZ
      have fZ := hpart.free (i + k)
      have hpr := limb_prod (q := q) (y := y) ⟨hq0, hq1⟩ ⟨by0, by1⟩
      obtain ⟨s, hs⟩ : ∃ s, q * y = s := ⟨_, rfl⟩
      rw [hs] at hpr
      obtain ⟨bs0, bs1⟩ := hpr
      have hkN : (k : Int) < (N : Int) := by omega
      have hset := hpart.set (i + k) (by omega) ((p - (o + s) % 4294967296) % 4294967296)
      have e1 : takeTo (sub zs i N) ys q (k + 1) = ((takeTo (sub zs i N) ys q k).1 ++ [(p - (o + s) % 4294967296) % 4294967296], (o + s) / 4294967296 + (if p < (o + s) % 4294967296 then 1 else 0)) := by
        simp only [takeTo]; rw [hpk2, hyk, hok, hs]
      rw [show i + k = i + (takeTo (sub zs i N) ys q k).1.length by omega, putAt_snoc _ _ _ _ (by omega), hll] at hset
      have e2 : (p - (o + s) % 4294967296) % 4294967296 = (p - (o + s)) % 4294967296 := by omega
      rw [e2] at e1 hset
      have H1 := Lib.hid e1
      have hsv : ∀ v, v = (p - (o + s)) % 4294967296 → Part (wr.setCell ⟨g, i + k, none⟩ (.int .u32 v)) g cap (putAt zs i ((takeTo (sub zs i N) ys q k).1 ++ [(p - (o + s)) % 4294967296])) := fun v hv => by rw [hv]; exact hset
      have HSET := Lib.hid hsv
      clear hsv
      have HSS := Lib.hid hs
      clear hpart cy hyk hpk hpk2 e1 e2 hset hok hll hpl hN
      have hO : ∀ v, Only g w (wr.setCell ⟨g, i + k, none⟩ v) := fun v => ho.trans (Only.set _ _ _ _)
      have HO := Lib.hid hO
      clear hO
      by_cases hb : p < (o + s) % 4294967296
      · have e3 : takeTo (sub zs i N) ys q (k + 1) = ((takeTo (sub zs i N) ys q k).1 ++ [(p - (o + s)) % 4294967296], (o + s) / 4294967296 + 1) := by rw [H1.out, if_pos hb]
        have H3 := Lib.hid e3
        clear e3
        go_wp2
        go_roundw
        case rel => exact ⟨k + 1, by omega, by go_num, by rw [H3.out], by rw [H3.out]; exact HSET.out _ (by omega), HO.out _⟩
        case measure => simp [intOf]; omega
      · have e3 : takeTo (sub zs i N) ys q (k + 1) = ((takeTo (sub zs i N) ys q k).1 ++ [(p - (o + s)) % 4294967296], (o + s) / 4294967296) := by rw [H1.out, if_neg hb, Int.add_zero]
        have H3 := Lib.hid e3
        clear e3
        go_wp2
        go_roundw
        case rel => exact ⟨k + 1, by omega, by go_num, by rw [H3.out], by rw [H3.out]; exact HSET.out _ (by omega), HO.out _⟩
        case measure => simp [intOf]; omega
    · obtain rfl : k = ys.length := by omega
      obtain ⟨p, hpk⟩ : ∃ p, zs.getD (i + ys.length) 0 = p := ⟨_, rfl⟩
      have hpk2 : (sub zs i N).getD ys.length 0 = p := by rw [← hpk]; exact sub_getD _ _ _ _ (by omega)
      obtain ⟨bp0, bp1⟩ : 0 ≤ p ∧ p < 4294967296 := hpk ▸ hwz.getD (i + ys.length)
      have hpl : (putAt zs i (takeTo (sub zs i N) ys q ys.length).1).length = zs.length := putAt_length _ _ _ (by omega)
      have cZ := hpart.cell (i + ys.length) (by omega)
      rw [putAt_far _ _ _ _ (by omega) (by omega), hpk] at cZ
      have fZ := hpart.free (i + ys.length)
      have hmN : (ys.length : Int) < (N : Int) := by omega
      have hset := hpart.set (i + ys.length) (by omega) ((p - o % 4294967296) % 4294967296)
      have eL : takeL (sub zs i N) ys q = (takeTo (sub zs i N) ys q ys.length).1 ++ [(p - o % 4294967296) % 4294967296] := by unfold takeL; rw [hpk2, hok]
      have eB : takeB (sub zs i N) ys q = decide (p < o) := by unfold takeB; rw [hpk2, hok]
      rw [show i + ys.length = i + (takeTo (sub zs i N) ys q ys.length).1.length by omega, putAt_snoc _ _ _ _ (by omega), hll, ← eL] at hset
      have e2 : (p - o % 4294967296) % 4294967296 = (p - o) % 4294967296 := by omega
      rw [e2] at hset
      have HB := Lib.hid eB
      have hsv : ∀ v, v = (p - o) % 4294967296 → Part (wr.setCell ⟨g, i + ys.length, none⟩ (.int .u32 v)) g cap (putAt zs i (takeL (sub zs i N) ys q)) ∧ Only g w (wr.setCell ⟨g, i + ys.length, none⟩ (.int .u32 v)) := fun v hv => by rw [hv]; exact ⟨hset, ho.trans (Only.set _ _ _ _)⟩
      have HSET := Lib.hid hsv
      clear hsv
      clear hpart cy hpk hpk2 e2 hset hok hll hpl hN eL eB ho
      go_wp2
      go_ret
      exact ⟨by rw [HB.out]; rfl, HSET.out _ (by omega)⟩
/-- what giveBack leaves -/
def giveL (ps ys : List Int) : List Int := (addTo ps ys ys.length).1 ++ [(ps.getD ys.length 0 + (addTo ps ys ys.length).2) % 4294967296]
theorem giveL_length (ps ys : List Int) : (giveL ps ys).length = ys.length + 1 := by simp [giveL, addTo_length]
theorem giveL_wf (ps ys : List Int) : Wf (giveL ps ys) := (addTo_wf _ _ _).append (Wf.cons (by omega) Wf.nil)
theorem val_giveL {ps ys : List Int} (hp : Wf ps) (hy : Wf ys) (hl : ps.length = ys.length + 1) :
    val (giveL ps ys) = val ps + val ys ∨ val (giveL ps ys) = val ps + val ys - 4294967296 ^ (ys.length + 1) := by
  have h1 := val_addTo ps ys ys.length
  have h2 := addTo_carry ps ys hp hy ys.length
  have h3 := val_take_succ ps ys.length
  rw [← hl, List.take_of_length_le (Nat.le_refl _)] at h3
  rw [List.take_of_length_le (Nat.le_refl ys.length)] at h1
  have hb := hp.getD ys.length
  unfold giveL
  rw [val_append, addTo_length]
  simp only [val, Int.mul_zero, Int.add_zero]
  generalize (addTo ps ys ys.length).2 = o at *
  generalize ps.getD ys.length 0 = p at *
  rw [Int.pow_succ]
  generalize (4294967296 : Int) ^ ys.length = P at *
  rw [h3]
  by_cases h : p + o < 4294967296
  · left
    have e : P * ((p + o) % 4294967296) = P * p + P * o := by rw [Int.emod_eq_of_lt (by omega) h, Int.mul_add]
    omega
  · right
    have e1 : (p + o) % 4294967296 = p + o - 4294967296 := by omega
    have e : P * ((p + o) % 4294967296) = P * p + P * o - P * 4294967296 := by rw [e1, Int.mul_sub, Int.mul_add]
    omega
set_option maxRecDepth 100000 in
set_option maxHeartbeats 4000000 in
theorem give_any {g cap capp i : Nat} {bg bo capb : Nat} {zs ys : List Int} {w : World} (hz : Part w g cap zs) (hwz : Wf zs) (hwy : Wf ys) (hi : i + ys.length < zs.length) (hm : zs.length ≤ 1099511627776)
    (cy : ∀ j, j < ys.length → w.cell? ⟨bg, bo + j, none⟩ = some (.int .u32 (ys.getD j 0))) (hbg : bg ≠ g) :
    Calls Tryz.prog 298 #[.slice (some ⟨g, i, none⟩) (ys.length + 1 : Nat) capp, .slice (some ⟨bg, bo, none⟩) ys.length capb] w fun e w' =>
      e = .returned (.tuple #[]) ∧ Part w' g cap (putAt zs i (giveL (sub zs i (ys.length + 1)) ys)) ∧ Only g w w' := by
  obtain ⟨N, hN⟩ : ∃ N, ys.length + 1 = N := ⟨_, rfl⟩
  rw [hN]
  have hws := sub_wf i N hwz
  go_enter Tryz.func298, Tryz.ntmps298
  go_wp2
  go_loopw [4, 5, 6, 9] (fun o _ _ k wr => ∃ k' : Nat, k' ≤ ys.length ∧ k = .int .i64 k' ∧ o = .int .u64 (addTo (sub zs i N) ys k').2 ∧ Part wr g cap (putAt zs i (addTo (sub zs i N) ys k').1) ∧ Only g w wr) (fun _ _ _ k _ => ys.length - (intOf k).toNat)
  case atStart => exact ⟨0, Nat.zero_le _, rfl, rfl, by simp only [addTo, putAt_nil]; exact hz, Only.refl _ _⟩
  case round =>
    obtain ⟨k, hk, rfl, rfl, hpart, ho⟩ := hrel
    obtain ⟨o, hok⟩ : ∃ o, (addTo (sub zs i N) ys k).2 = o := ⟨_, rfl⟩
    obtain ⟨bo0, bo1⟩ : 0 ≤ o ∧ o ≤ 1 := hok ▸ addTo_carry (sub zs i N) ys hws hwy k
    have hll := addTo_length (sub zs i N) ys k
    rw [hok]
    obtain ⟨p, hpk⟩ : ∃ p, zs.getD (i + k) 0 = p := ⟨_, rfl⟩
    have hpk2 : (sub zs i N).getD k 0 = p := by rw [← hpk]; exact sub_getD _ _ _ _ (by omega)
    obtain ⟨bp0, bp1⟩ : 0 ≤ p ∧ p < 4294967296 := hpk ▸ hwz.getD (i + k)
    have hpl : (putAt zs i (addTo (sub zs i N) ys k).1).length = zs.length := putAt_length _ _ _ (by omega)
    have cZ := hpart.cell (i + k) (by omega)
    rw [putAt_far _ _ _ _ (by omega) (by omega), hpk] at cZ
    have fZ := hpart.free (i + k)
    have hkN : (k : Int) < (N : Int) := by omega
    by_cases hlt : k < ys.length
    · obtain ⟨y, hyk⟩ : ∃ y, ys.getD k 0 = y := ⟨_, rfl⟩
      obtain ⟨by0, by1⟩ : 0 ≤ y ∧ y < 4294967296 := hyk ▸ hwy.getD k
      have cY := (ho.cell (p := ⟨bg, bo + k, none⟩) hbg).trans (cy k hlt)
      rw [hyk] at cY
      have hset := hpart.set (i + k) (by omega) ((o + p + y) % 4294967296)
      have e1 : addTo (sub zs i N) ys (k + 1) = ((addTo (sub zs i N) ys k).1 ++ [(o + p + y) % 4294967296], (o + p + y) / 4294967296) := by
        simp only [addTo]; rw [hpk2, hyk, hok]
      rw [show i + k = i + (addTo (sub zs i N) ys k).1.length by omega, putAt_snoc _ _ _ _ (by omega), hll] at hset
      have hsv : ∀ v, v = (o + p + y) % 4294967296 → Part (wr.setCell ⟨g, i + k, none⟩ (.int .u32 v)) g cap (putAt zs i ((addTo (sub zs i N) ys k).1 ++ [(o + p + y) % 4294967296])) ∧ Only g w (wr.setCell ⟨g, i + k, none⟩ (.int .u32 v)) := fun v hv => by rw [hv]; exact ⟨hset, ho.trans (Only.set _ _ _ _)⟩
      have HSET := Lib.hid hsv
      have H1 := Lib.hid e1
      clear hsv hpart cy hyk hpk hpk2 e1 hset hok hll hpl hN ho
      go_wp2
      go_roundw
      case rel => exact ⟨k + 1, by omega, by go_num, by rw [H1.out]; congr 1; omega, by rw [H1.out]; exact (HSET.out _ (by omega)).1, (HSET.out _ (by omega)).2⟩
      case measure => simp [intOf]; omega
    · obtain rfl : k = ys.length := by omega
      have hset := hpart.set (i + ys.length) (by omega) ((p + o) % 4294967296)
      have eL : giveL (sub zs i N) ys = (addTo (sub zs i N) ys ys.length).1 ++ [(p + o) % 4294967296] := by unfold giveL; rw [hpk2, hok]
      rw [show i + ys.length = i + (addTo (sub zs i N) ys ys.length).1.length by omega, putAt_snoc _ _ _ _ (by omega), hll, ← eL] at hset
      have hsv : ∀ v, v = (p + o) % 4294967296 → Part (wr.setCell ⟨g, i + ys.length, none⟩ (.int .u32 v)) g cap (putAt zs i (giveL (sub zs i N) ys)) ∧ Only g w (wr.setCell ⟨g, i + ys.length, none⟩ (.int .u32 v)) := fun v hv => by rw [hv]; exact ⟨hset, ho.trans (Only.set _ _ _ _)⟩
      have HSET := Lib.hid hsv
      clear hsv hpart cy hpk hpk2 hset hok hll hpl hN eL ho
      go_wp2
      go_end0
      exact ⟨rfl, HSET.out _ (by omega)⟩
end
end Go.Proofs.YtjgiacghlkkjfaaGreatDoor
