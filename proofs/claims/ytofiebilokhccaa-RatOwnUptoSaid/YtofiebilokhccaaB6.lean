/-
  Rational numbers, as Lean's own Rat, against a sign and two natural numbers: plain mathematics.
-/
import Derived.Test.YtofiebilokhccaaB5
namespace Go.Proofs.Ytofiebilokhccaa
set_option maxRecDepth 100000
section
open Go.RowKit
set_option linter.unusedVariables false
set_option linter.unusedSimpArgs false
/-- a natural number with a sign -/
def sgn (neg : Bool) (A : Int) : Int := if neg = true then -A else A
/-- the number of a sign and two natural numbers; 0, if one of them is 0 -/
def ratOf (neg : Bool) (A B : Int) : Rat := Rat.divInt (sgn neg A) B
theorem sgn_neg (A : Int) : sgn true A = -A := rfl
theorem sgn_pos (A : Int) : sgn false A = A := rfl
theorem sgn_zero (n : Bool) : sgn n 0 = 0 := by cases n <;> rfl
theorem sgn_mul (m n : Bool) (A B : Int) : sgn m A * sgn n B = sgn (m != n) (A * B) := by
  cases m <;> cases n <;> simp [sgn, Int.neg_mul, Int.mul_neg]
theorem ratOf_zero_left (n : Bool) (B : Int) : ratOf n 0 B = 0 := by unfold ratOf; rw [sgn_zero, Rat.zero_divInt]
theorem ratOf_zero_right (n : Bool) (A : Int) : ratOf n A 0 = 0 := by unfold ratOf; rw [Rat.divInt_zero]
theorem gcd_pos {A B : Int} (hA : 0 < A) : (0 : Int) < (Int.gcd A B : Int) := by
  have := Int.gcd_pos_of_ne_zero_left (a := A) B (by omega)
  omega
theorem gcd_pos_right {A B : Int} (hB : 0 < B) : (0 : Int) < (Int.gcd A B : Int) := by rw [Int.gcd_comm]; exact gcd_pos hB
/-- what the number's parts are: reduced -/
theorem ratOf_num {n : Bool} {A B : Int} (hA : 0 ≤ A) (hB : 0 < B) : (ratOf n A B).num = sgn n (A / (Int.gcd A B : Int)) := by
  unfold ratOf
  rw [Rat.num_divInt, Int.sign_eq_one_of_pos hB, Int.one_mul]
  cases n with
  | false => simp only [sgn_pos]; rw [Int.gcd_comm]
  | true =>
    simp only [sgn_neg]
    rw [Int.gcd_neg, Int.gcd_comm, Int.neg_ediv_of_dvd (Int.gcd_dvd_left _ _)]
theorem ratOf_den {n : Bool} {A B : Int} (hB : 0 < B) : ((ratOf n A B).den : Int) = B / (Int.gcd A B : Int) := by
  unfold ratOf
  rw [Rat.den_divInt, if_neg (by omega)]
  have e : Int.gcd B (sgn n A) = Int.gcd A B := by
    cases n with
    | false => rw [sgn_pos, Int.gcd_comm]
    | true => rw [sgn_neg, Int.gcd_neg, Int.gcd_comm]
  rw [e, Int.natCast_ediv, Int.natAbs_of_nonneg (by omega)]
theorem quo_pos {A g : Int} (hA : 0 < A) (hg : 0 < g) (hd : g ∣ A) : 0 < A / g := Int.ediv_pos_of_pos_of_dvd hA (by omega) hd
theorem ratOf_abs {n : Bool} {A B : Int} (hA : 0 ≤ A) (hB : 0 < B) : ((ratOf n A B).num.natAbs : Int) = A / (Int.gcd A B : Int) := by
  rw [ratOf_num hA hB]
  have h := Int.ediv_nonneg hA (Int.natCast_nonneg (Int.gcd A B))
  cases n with
  | false => rw [sgn_pos]; omega
  | true => rw [sgn_neg]; omega
theorem ratOf_lt {n : Bool} {A B : Int} (hA : 0 ≤ A) (hB : 0 < B) : decide ((ratOf n A B).num < 0) = (n && decide (A ≠ 0)) := by
  rw [ratOf_num hA hB]
  by_cases h : A = 0
  · subst h; cases n <;> simp [sgn]
  · have h2 := quo_pos (A := A) (g := (Int.gcd A B : Int)) (by omega) (gcd_pos (by omega)) (Int.gcd_dvd_left _ _)
    cases n with
    | false => simp only [sgn_pos, Bool.false_and]; exact decide_eq_false (by omega)
    | true =>
      have e1 : decide (sgn true (A / (Int.gcd A B : Int)) < 0) = true := decide_eq_true (by rw [sgn_neg]; omega)
      rw [e1, decide_eq_true h]; rfl
/-- a number is that of its own parts -/
theorem ratOf_self (x : Rat) : ratOf (decide (x.num < 0)) (x.num.natAbs : Int) (x.den : Int) = x := by
  unfold ratOf
  have e : sgn (decide (x.num < 0)) (x.num.natAbs : Int) = x.num := by
    by_cases h : x.num < 0
    · rw [decide_eq_true h, sgn_neg]; omega
    · rw [decide_eq_false h, sgn_pos]; omega
  rw [e, Rat.num_divInt_den]
theorem sgn_num (x : Rat) : sgn (decide (x.num < 0)) (x.num.natAbs : Int) = x.num := by
  by_cases h : x.num < 0
  · rw [decide_eq_true h, sgn_neg]; omega
  · rw [decide_eq_false h, sgn_pos]; omega
theorem den_pos' (x : Rat) : (0 : Int) < (x.den : Int) := by have := Rat.den_pos x; omega
theorem abs_zero (x : Rat) : (x.num.natAbs : Int) = 0 ↔ x = 0 := by
  rw [← Rat.num_eq_zero]; omega
theorem x_eq (x : Rat) : x = Rat.divInt x.num x.den := (Rat.num_divInt_den x).symm
theorem rat_mul (x y : Rat) : ratOf ((decide (x.num < 0)) != (decide (y.num < 0))) ((x.num.natAbs : Int) * (y.num.natAbs : Int)) ((x.den : Int) * (y.den : Int)) = x * y := by
  unfold ratOf
  rw [← sgn_mul, sgn_num, sgn_num]
  conv => rhs; rw [x_eq x, x_eq y]
  rw [Rat.divInt_mul_divInt]
theorem rat_add_same (x y : Rat) (h : decide (x.num < 0) = decide (y.num < 0)) :
    ratOf (decide (x.num < 0)) ((x.num.natAbs : Int) * (y.den : Int) + (y.num.natAbs : Int) * (x.den : Int)) ((x.den : Int) * (y.den : Int)) = x + y := by
  have e : sgn (decide (x.num < 0)) ((x.num.natAbs : Int) * (y.den : Int) + (y.num.natAbs : Int) * (x.den : Int)) = x.num * y.den + y.num * x.den := by
    have h1 := sgn_num x
    have h2 := sgn_num y
    rw [← h] at h2
    generalize decide (x.num < 0) = s at *
    generalize (x.num.natAbs : Int) = X at *
    generalize (y.num.natAbs : Int) = Y at *
    rw [← h1, ← h2]
    cases s
    · simp only [sgn_pos]
    · simp only [sgn_neg, Int.neg_mul]; omega
  unfold ratOf
  rw [e]
  conv => rhs; rw [x_eq x, x_eq y]
  rw [Rat.divInt_add_divInt _ _ (by have := den_pos' x; omega) (by have := den_pos' y; omega)]
theorem rat_add_left (x y : Rat) (h : decide (x.num < 0) ≠ decide (y.num < 0)) :
    ratOf (decide (x.num < 0)) ((x.num.natAbs : Int) * (y.den : Int) - (y.num.natAbs : Int) * (x.den : Int)) ((x.den : Int) * (y.den : Int)) = x + y := by
  have e : sgn (decide (x.num < 0)) ((x.num.natAbs : Int) * (y.den : Int) - (y.num.natAbs : Int) * (x.den : Int)) = x.num * y.den + y.num * x.den := by
    have h1 := sgn_num x
    have h2 := sgn_num y
    by_cases hx : x.num < 0
    · have hy : ¬ y.num < 0 := fun hy => h (by rw [decide_eq_true hx, decide_eq_true hy])
      rw [decide_eq_true hx, sgn_neg]
      rw [show x.num = -(x.num.natAbs : Int) by omega, show y.num = (y.num.natAbs : Int) by omega]
      simp only [Int.neg_mul, Int.natAbs_neg, Int.natAbs_natCast]; omega
    · have hy : y.num < 0 := by
        rcases Int.lt_or_le y.num 0 with k | k
        · exact k
        · exact absurd (by rw [decide_eq_false hx, decide_eq_false (by omega)]) h
      rw [decide_eq_false hx, sgn_pos]
      rw [show x.num = (x.num.natAbs : Int) by omega, show y.num = -(y.num.natAbs : Int) by omega]
      simp only [Int.neg_mul, Int.natAbs_neg, Int.natAbs_natCast]; omega
  unfold ratOf
  rw [e]
  conv => rhs; rw [x_eq x, x_eq y]
  rw [Rat.divInt_add_divInt _ _ (by have := den_pos' x; omega) (by have := den_pos' y; omega)]
theorem rat_add_right (x y : Rat) (h : decide (x.num < 0) ≠ decide (y.num < 0)) :
    ratOf (decide (y.num < 0)) ((y.num.natAbs : Int) * (x.den : Int) - (x.num.natAbs : Int) * (y.den : Int)) ((x.den : Int) * (y.den : Int)) = x + y := by
  rw [Rat.add_comm, Int.mul_comm (x.den : Int)]
  exact rat_add_left y x (Ne.symm h)
theorem rat_neg (x : Rat) : decide ((-x).num < 0) = (!decide (x.num < 0) && decide (x ≠ 0)) ∧ (-x).num.natAbs = x.num.natAbs ∧ (-x).den = x.den := by
  have hz := Rat.num_eq_zero (q := x)
  refine ⟨?_, by rw [Rat.neg_num, Int.natAbs_neg], rfl⟩
  rw [Rat.neg_num]
  by_cases h : x = 0
  · subst h; decide
  · have h2 : x.num ≠ 0 := fun e => h (hz.1 e)
    rw [decide_eq_true (show x ≠ 0 from h), Bool.and_true]
    by_cases hx : x.num < 0
    · rw [decide_eq_true hx, decide_eq_false (by omega)]; rfl
    · rw [decide_eq_false hx, decide_eq_true (by omega)]; rfl
theorem rat_inv (y : Rat) (h : y ≠ 0) : ratOf (decide (y.num < 0)) (y.den : Int) (y.num.natAbs : Int) = y⁻¹ := by
  unfold ratOf
  rw [Rat.inv_def]
  have h2 : y.num ≠ 0 := fun e => h (Rat.num_eq_zero.1 e)
  by_cases hy : y.num < 0
  · rw [decide_eq_true hy, sgn_neg]
    have e : Rat.divInt (-(y.den : Int)) (y.num.natAbs : Int) = Rat.divInt (y.den : Int) y.num := by
      rw [Rat.divInt_eq_divInt_iff (by omega) h2, show y.num = -(y.num.natAbs : Int) by omega]
      simp [Int.natAbs_neg, Int.neg_mul_neg]
    exact e
  · rw [decide_eq_false hy, sgn_pos, show ((y.num.natAbs : Nat) : Int) = y.num by omega]
theorem ratOf_neg {n : Bool} {A B : Int} (hA : 0 ≤ A) (hB : 0 < B) (h : A = 0 → n = false) : decide ((ratOf n A B).num < 0) = n := by
  rw [ratOf_lt hA hB]
  by_cases k : A = 0
  · rw [h k]; rfl
  · rw [decide_eq_true k, Bool.and_true]
theorem rat_sum {m n r : Bool} {A B C D S : Int} (hB : 0 < B) (hD : 0 < D) (h : sgn r S = sgn m (A * D) + sgn n (C * B)) : ratOf r S (B * D) = ratOf m A B + ratOf n C D := by
  unfold ratOf
  rw [h, Rat.divInt_add_divInt _ _ (by omega) (by omega)]
  have e : ∀ (m : Bool) (A D : Int), sgn m (A * D) = sgn m A * D := fun m A D => by cases m <;> simp [sgn, Int.neg_mul]
  rw [e, e]
theorem rat_diff {m n r : Bool} {A B C D S : Int} (hB : 0 < B) (hD : 0 < D) (h : sgn r S = sgn m (A * D) + sgn (!n) (C * B)) : ratOf r S (B * D) = ratOf m A B - ratOf n C D := by
  rw [rat_sum hB hD h, Rat.sub_eq_add_neg]
  congr 1
  unfold ratOf
  rw [Rat.neg_divInt]
  congr 1
  cases n <;> simp [sgn]
theorem rat_prod (m n : Bool) (A B C D : Int) : ratOf (m != n) (A * C) (B * D) = ratOf m A B * ratOf n C D := by
  unfold ratOf
  rw [← sgn_mul, Rat.divInt_mul_divInt]
theorem rat_turned (n : Bool) (A B : Int) : ratOf (!n) A B = -ratOf n A B := by
  unfold ratOf
  rw [Rat.neg_divInt]
  congr 1
  cases n <;> simp [sgn]
theorem rat_over (n : Bool) (C D : Int) (hC : 0 ≤ C) (hD : 0 ≤ D) : ratOf n D C = (ratOf n C D)⁻¹ := by
  by_cases h : C = 0
  · subst h
    rw [ratOf_zero_left, ratOf_zero_right, Rat.inv_zero]
  by_cases k : D = 0
  · subst k
    rw [ratOf_zero_left, ratOf_zero_right, Rat.inv_zero]
  unfold ratOf
  rw [Rat.inv_divInt]
  cases n with
  | false => rfl
  | true => rw [sgn_neg, sgn_neg, Rat.divInt_eq_divInt_iff (by omega) (by omega)]; simp [Int.neg_mul_neg]
/-- -1, 0, 1 -/
def sgR (x : Rat) : Int := x.num.sign
theorem sgR_zero (x : Rat) : sgR x = 0 ↔ x = 0 := by unfold sgR; rw [Int.sign_eq_zero_iff_zero, Rat.num_eq_zero]
theorem sgR_divInt (a : Int) {b : Int} (hb : 0 < b) : sgR (Rat.divInt a b) = a.sign := by
  unfold sgR
  rw [Rat.num_divInt, Int.sign_eq_one_of_pos hb, Int.one_mul]
  have hg : (0 : Int) < (Int.gcd b a : Int) := gcd_pos hb
  rcases Int.lt_trichotomy a 0 with h | h | h
  · rw [Int.sign_eq_neg_one_of_neg h]
    apply Int.sign_eq_neg_one_of_neg
    have h2 := quo_pos (A := -a) (g := (Int.gcd b a : Int)) (by omega) hg (Int.dvd_neg.2 (Int.gcd_dvd_right _ _))
    rw [Int.neg_ediv_of_dvd (Int.gcd_dvd_right _ _)] at h2
    omega
  · rw [h]; simp
  · rw [Int.sign_eq_one_of_pos h]
    exact Int.sign_eq_one_of_pos (quo_pos h hg (Int.gcd_dvd_right _ _))
theorem sgR_ratOf (n : Bool) (A : Int) {B : Int} (hB : 0 < B) : sgR (ratOf n A B) = (sgn n A).sign := sgR_divInt _ hB
theorem ratOf_zero {n : Bool} {A B : Int} (hB : 0 < B) : ratOf n A B = 0 ↔ A = 0 := by
  rw [← sgR_zero, sgR_ratOf n A hB, Int.sign_eq_zero_iff_zero]
  cases n <;> simp [sgn]
theorem sgR_neg (x : Rat) : sgR (-x) = -sgR x := by unfold sgR; rw [Rat.neg_num, Int.sign_neg]
theorem sgR_mul (x y : Rat) : sgR (x * y) = sgR x * sgR y := by
  have e : x * y = Rat.divInt (x.num * y.num) (x.den * y.den) := by
    conv => lhs; rw [x_eq x, x_eq y]
    rw [Rat.divInt_mul_divInt]
  rw [e, sgR_divInt _ (Int.mul_pos (den_pos' x) (den_pos' y)), Int.sign_mul]
  rfl
theorem sgR_swap (x y : Rat) : sgR (y - x) = -sgR (x - y) := by rw [← sgR_neg]; congr 1; grind
theorem sgR_both (x y z : Rat) : sgR ((x + z) - (y + z)) = sgR (x - y) := by congr 1; grind
theorem sgR_times (x y z : Rat) : sgR (x * z - y * z) = sgR (x - y) * sgR z := by rw [← sgR_mul]; congr 1; grind
theorem sgR_range (x : Rat) : sgR x = -1 ∨ sgR x = 0 ∨ sgR x = 1 := by
  unfold sgR
  rcases Int.lt_trichotomy x.num 0 with h | h | h
  · exact .inl (Int.sign_eq_neg_one_of_neg h)
  · exact .inr (.inl (by rw [h]; rfl))
  · exact .inr (.inr (Int.sign_eq_one_of_pos h))
theorem sgn_sign (n : Bool) {A : Int} (hA : 0 ≤ A) : (sgn n A).sign = if A = 0 then 0 else if n = true then -1 else 1 := by
  by_cases h : A = 0
  · rw [if_pos h, h, sgn_zero]; rfl
  · rw [if_neg h]
    cases n with
    | false => rw [sgn_pos]; exact Int.sign_eq_one_of_pos (by omega)
    | true => rw [sgn_neg, if_pos rfl]; exact Int.sign_eq_neg_one_of_neg (by omega)
theorem rat_back (x y : Rat) : x + y - y = x := by grind
theorem rat_away (x : Rat) : x + -x = 0 := by grind
theorem rat_divided (x y : Rat) (h : y ≠ 0) : x * y / y = x := by grind
theorem rat_ext {x y : Rat} (h1 : decide (x.num < 0) = decide (y.num < 0)) (h2 : x.num.natAbs = y.num.natAbs) (h3 : x.den = y.den) : x = y := by
  apply Rat.ext _ h3
  have e := decide_eq_decide.1 h1
  omega
end
end Go.Proofs.Ytofiebilokhccaa
