/-
  Part 7 of 39: contracts and what they rest on (QMath).
-/
import Derived.Test.YtengpgodmbfmkaaGreatG5
namespace Go.Proofs.YtengpgodmbfmkaaGreat
set_option linter.unusedVariables false
set_option linter.unusedSimpArgs false
set_option maxRecDepth 100000
set_option maxHeartbeats 40000000
section
open Go.RowKit
structure Est (U V high low v1 v2 P U2 V2 : Int) : Prop where
 u : U = high * (4294967296 * P) + low * P + U2
 v : V = v1 * (4294967296 * P) + v2 * P + V2
 p : 1 ≤ P
 u0 : 0 ≤ U2
 u1 : U2 < P
 w0 : 0 ≤ V2
 w1 : V2 < P
 a0 : 2147483648 ≤ v1
 a1 : v1 < 4294967296
 b0 : 0 ≤ v2
 b1 : v2 < 4294967296
 l0 : 0 ≤ low
 l1 : low < 4294967296
 h0 : 0 ≤ high
 lt : U < 4294967296 * V
theorem Est.diff {U V high low v1 v2 P U2 V2 q r : Int} (h : Est U V high low v1 v2 P U2 V2) (hq : q * v1 + r = high) : U - q * V = (r * 4294967296 + low - q * v2) * P + U2 - q * V2 := by
 rw [h.u, h.v, ← hq]
 grind
theorem mul_le_l {a b c : Int} (hc : 0 ≤ c) (h : a ≤ b) : c * a ≤ c * b := Int.mul_le_mul_of_nonneg_left h hc
theorem mul_le_r {a b c : Int} (hc : 0 ≤ c) (h : a ≤ b) : a * c ≤ b * c := Int.mul_le_mul_of_nonneg_right h hc
theorem Est.high {U V high low v1 v2 P U2 V2 : Int} (h : Est U V high low v1 v2 P U2 V2) : high < (v1 + 1) * 4294967296 := by
 rcases Int.lt_or_le high ((v1 + 1) * 4294967296) with k | k
 · exact k
 · exfalso
   have h1 := mul_le_r (c := 4294967296 * P) (by have := h.p; omega) k
   have h2 : 0 ≤ low * P := Int.mul_nonneg h.l0 (by have := h.p; omega)
   have h3 : v2 * P ≤ 4294967295 * P := mul_le_r (by have := h.p; omega) (by have := h.b1; omega)
   have h4 := h.u; have h5 := h.v; have h6 := h.lt; have h7 := h.w1; have h8 := h.u0
   have e : (v1 + 1) * 4294967296 * (4294967296 * P) = 4294967296 * (v1 * (4294967296 * P)) + 4294967296 * (4294967296 * P) := by grind
   rw [e] at h1
   omega
theorem Est.first {U V high low v1 v2 P U2 V2 : Int} (h : Est U V high low v1 v2 P U2 V2) : U < (high / v1 + 1) * V := by
 have hv : 0 < v1 := by have := h.a0; omega
 have h1 : high < (high / v1 + 1) * v1 := Int.lt_mul_of_ediv_lt hv (by omega)
 have h2 := mul_le_r (a := high + 1) (b := (high / v1 + 1) * v1) (c := 4294967296 * P) (by have := h.p; omega) (by omega)
 have hq : 0 ≤ high / v1 := Int.ediv_nonneg h.h0 (by omega)
 generalize high / v1 = q at *
 have h3 : (q + 1) * v1 * (4294967296 * P) ≤ (q + 1) * V := by
  rw [Int.mul_assoc]
  refine mul_le_l (by omega) ?_
  have h4 : 0 ≤ v2 * P := Int.mul_nonneg h.b0 (by have := h.p; omega)
  have h5 := h.v; have h6 := h.w0
  omega
 have h4 : low * P ≤ 4294967295 * P := mul_le_r (by have := h.p; omega) (by have := h.l1; omega)
 have h5 := h.u; have h6 := h.u1
 rw [Int.add_mul, Int.one_mul] at h2
 omega
theorem Est.step {U V high low v1 v2 P U2 V2 q r : Int} (h : Est U V high low v1 v2 P U2 V2) (hq : q * v1 + r = high) (h0 : 0 ≤ q) (hc : 4294967295 < q ∨ r * 4294967296 + low < q * v2) : U < (q - 1 + 1) * V := by
 rw [Int.sub_add_cancel]
 have hV : 0 ≤ V := by
  have h4 : 0 ≤ v2 * P := Int.mul_nonneg h.b0 (by have := h.p; omega)
  have h7 : 0 ≤ v1 * (4294967296 * P) := Int.mul_nonneg (by have := h.a0; omega) (by have := h.p; omega)
  have h5 := h.v; have h6 := h.w0
  omega
 rcases hc with hc | hc
 · have h1 := mul_le_r (a := 4294967296) (b := q) hV (by omega)
   have h2 := h.lt
   omega
 · have h1 := h.diff hq
   have h2 := mul_le_r (a := r * 4294967296 + low - q * v2) (b := -1) (c := P) (by have := h.p; omega) (by omega)
   have h3 : 0 ≤ q * V2 := Int.mul_nonneg h0 h.w0
   have h4 := h.u1
   omega
theorem Est.done {U V high low v1 v2 P U2 V2 q r : Int} (h : Est U V high low v1 v2 P U2 V2) (hq : q * v1 + r = high) (h0 : 0 ≤ q) (hr0 : 0 ≤ r)
 (hc : 4294967295 < r ∨ (q ≤ 4294967295 ∧ q * v2 ≤ r * 4294967296 + low)) : q ≤ 4294967295 ∧ 0 ≤ U - q * V + V := by
 have hv : 0 < v1 := by have := h.a0; omega
 have hb := h.b0; have hb1 := h.b1
 have hq1 : q ≤ 4294967295 := by
  rcases hc with hc | hc
  · rcases Int.lt_or_le 4294967295 q with k | k
    · exfalso
      have h1 := mul_le_r (a := 4294967296) (b := q) (c := v1) (by omega) (by omega)
      have h2 := h.high
      omega
    · exact k
  · exact hc.1
 have hq2 : q * v2 ≤ r * 4294967296 + low := by
  rcases hc with hc | hc
  · have h1 := mul_le_r (a := q) (b := 4294967295) hb hq1
    have h2 := h.l0
    omega
  · exact hc.2
 refine ⟨hq1, ?_⟩
 have h1 := h.diff hq
 have h2 := Int.mul_nonneg (show 0 ≤ r * 4294967296 + low - q * v2 by omega) (show 0 ≤ P by have := h.p; omega)
 have h3 := mul_le_r (a := q) (b := 4294967295) h.w0 hq1
 have h4 : 0 ≤ v2 * P := Int.mul_nonneg h.b0 (by have := h.p; omega)
 have h5 := mul_le_r (a := 1) (b := v1) (c := 4294967296 * P) (by have := h.p; omega) (by omega)
 have h6 := h.v; have h7 := h.w1; have h8 := h.w0; have h9 := h.u0
 omega
def takeTo (ps ys : List Int) (q : Int) : Nat → List Int × Int
 | 0 => ([], 0)
 | k + 1 => ((takeTo ps ys q k).1 ++ [(ps.getD k 0 - ((takeTo ps ys q k).2 + q * ys.getD k 0) % 4294967296) % 4294967296],
    ((takeTo ps ys q k).2 + q * ys.getD k 0) / 4294967296 + (if ps.getD k 0 < ((takeTo ps ys q k).2 + q * ys.getD k 0) % 4294967296 then 1 else 0))
theorem takeTo_length (ps ys : List Int) (q : Int) (k : Nat) : (takeTo ps ys q k).1.length = k := by
 induction k with
 | zero => rfl
 | succ k ih => simp [takeTo, ih]
theorem limb_prod {q y : Int} (hq : 0 ≤ q ∧ q ≤ 4294967295) (hy : 0 ≤ y ∧ y < 4294967296) : 0 ≤ q * y ∧ q * y ≤ 18446744065119617025 := by
 have h1 := Int.mul_nonneg hq.1 hy.1
 have h2 := mul_le_r (a := q) (b := 4294967295) hy.1 hq.2
 omega
theorem takeTo_owed (ps ys : List Int) (q : Int) (hy : Wf ys) (hq : 0 ≤ q ∧ q ≤ 4294967295) (k : Nat) : 0 ≤ (takeTo ps ys q k).2 ∧ (takeTo ps ys q k).2 ≤ 4294967296 := by
 induction k with
 | zero => simp [takeTo]
 | succ k ih =>
   have h1 := limb_prod hq (hy.getD k)
   simp only [takeTo]
   split <;> omega
theorem takeTo_wf (ps ys : List Int) (q : Int) (k : Nat) : Wf (takeTo ps ys q k).1 := by
 induction k with
 | zero => exact Wf.nil
 | succ k ih => exact ih.append (Wf.cons (by omega) Wf.nil)
theorem val_takeTo (ps ys : List Int) (q : Int) (hp : Wf ps) (k : Nat) : val (takeTo ps ys q k).1 - 4294967296 ^ k * (takeTo ps ys q k).2 = val (ps.take k) - q * val (ys.take k) := by
 induction k with
 | zero => simp [takeTo, val]
 | succ k ih =>
   rw [val_take_succ, val_take_succ]
   simp only [takeTo]
   rw [val_append, takeTo_length]
   simp only [val, Int.pow_succ]
   have hb := hp.getD k
   generalize (takeTo ps ys q k).2 = o at *
   generalize val (takeTo ps ys q k).1 = L at *
   generalize ps.getD k 0 = p at *
   generalize ys.getD k 0 = y at *
   generalize val (ps.take k) = A at *
   generalize val (ys.take k) = B at *
   have hm := mod_div (o + q * y)
   have hl : 0 ≤ (o + q * y) % 4294967296 ∧ (o + q * y) % 4294967296 < 4294967296 := by omega
   generalize (o + q * y) % 4294967296 = low at *
   generalize (o + q * y) / 4294967296 = hi at *
   have hs : (p - low) % 4294967296 = p - low + 4294967296 * (if p < low then 1 else 0) := by split <;> omega
   rw [hs]
   generalize (if p < low then (1 : Int) else 0) = c at *
   generalize (4294967296 : Int) ^ k = Q at *
   grind
theorem val_cat3 (xs ys zs : List Int) : val (xs ++ ys ++ zs) = val xs + 4294967296 ^ xs.length * (val ys + 4294967296 ^ ys.length * val zs) := by
 rw [List.append_assoc, val_append, val_append]
theorem val_drop0 {xs : List Int} (hx : Wf xs) (k : Nat) (h : val xs < 4294967296 ^ k) : val (xs.drop k) = 0 := by
 by_cases hk : k < xs.length
 · have h1 := val_append (xs.take k) (xs.drop k)
   rw [List.take_append_drop, List.length_take, Nat.min_eq_left (by omega)] at h1
   have h2 := val_nonneg (hx.take k)
   have h3 := val_nonneg (hx.drop k)
   rcases Int.lt_or_le 0 (val (xs.drop k)) with h4 | h4
   · exfalso
     have h5 := mul_le_l (a := 1) (b := val (xs.drop k)) (c := 4294967296 ^ k) (Int.le_of_lt (pow_pos' k)) (by omega)
     omega
   · omega
 · rw [List.drop_of_length_le (by omega)]; rfl
theorem val_split {xs : List Int} (i : Nat) (h : i ≤ xs.length) : val xs = val (xs.take i) + 4294967296 ^ i * val (xs.drop i) := by
 have h1 := val_append (xs.take i) (xs.drop i)
 rwa [List.take_append_drop, List.length_take, Nat.min_eq_left h] at h1
end
end Go.Proofs.YtengpgodmbfmkaaGreat
