/-
  What the limbs of sums, differences and products stand for: plain mathematics.
-/
import Derived.Test.YteinfanfhgpciaaMul
namespace Go.Proofs.Yteinfanfhgpciaa
open Go.RowKit

theorem pow_pos' (k : Nat) : (0 : Int) < 4294967296 ^ k := Int.pow_pos (by omega)
theorem val_take_succ (xs : List Int) (k : Nat) : val (xs.take (k + 1)) = val (xs.take k) + 4294967296 ^ k * xs.getD k 0 := by
  by_cases h : k < xs.length
  · rw [List.take_succ_eq_append_getElem h, val_append, List.length_take, Nat.min_eq_left (by omega)]
    simp [val, h]
  · rw [List.take_of_length_le (by omega), List.take_of_length_le (by omega)]
    simp [List.getElem?_eq_none (Nat.le_of_not_lt h)]
theorem val_lt {xs : List Int} (h : Wf xs) : val xs < 4294967296 ^ xs.length := by
  induction xs with
  | nil => simp [val]
  | cons x xs ih =>
    have h1 := ih h.tail
    have h2 := h.head
    simp only [val, List.length_cons, Int.pow_succ]
    omega
theorem val_trimN (xs : List Int) (n : Nat) : val (xs.take (trimN xs n)) = val (xs.take n) := by
  induction n with
  | zero => rfl
  | succ n ih =>
    unfold trimN
    split
    · rename_i hz
      rw [val_take_succ, hz, ih]
      simp
    · rfl
theorem val_trim (xs : List Int) : val (trim xs) = val xs := by
  unfold trim
  rw [val_trimN, List.take_length]
theorem getD_ge_trimN (xs : List Int) (n k : Nat) (h1 : trimN xs n ≤ k) (h2 : k < n) : xs.getD k 0 = 0 := by
  induction n with
  | zero => omega
  | succ n ih =>
    unfold trimN at h1
    split at h1
    · rename_i hz
      by_cases e : k = n
      · rw [e]; exact hz
      · exact ih h1 (by omega)
    · omega
theorem val_take_ge (xs : List Int) (k : Nat) (h : trimN xs xs.length ≤ k) : val (xs.take k) = val xs := by
  induction k with
  | zero =>
    have h0 : trimN xs xs.length = 0 := by omega
    rw [← val_trim xs]
    unfold trim
    rw [h0]
  | succ k ih =>
    by_cases hk : trimN xs xs.length ≤ k
    · rw [val_take_succ, ih hk]
      by_cases hl : k < xs.length
      · rw [getD_ge_trimN xs xs.length k hk hl]; simp
      · simp [List.getElem?_eq_none (Nat.le_of_not_lt hl)]
    · have e : trimN xs xs.length = k + 1 := by omega
      rw [← e]
      exact val_trim xs
theorem trim_wf {xs : List Int} (h : Wf xs) : Wf (trim xs) := h.trim

/-- numbers are told in one way -/
theorem getD_eq_of_val {us vs : List Int} (hu : Wf us) (hv : Wf vs) (h : val us = val vs) : ∀ k, us.getD k 0 = vs.getD k 0 := by
  induction us generalizing vs with
  | nil =>
    induction vs with
    | nil => intro k; rfl
    | cons y ys ih =>
      have h1 := hv.head
      have h2 := val_nonneg hv.tail
      simp only [val] at h
      have hy : y = 0 := by omega
      have hys : val [] = val ys := by simp only [val]; omega
      intro k
      cases k with
      | zero => simp [hy]
      | succ k => have := ih hv.tail hys k; simpa using this
  | cons x xs ih =>
    cases vs with
    | nil =>
      have h1 := hu.head
      have h2 := val_nonneg hu.tail
      simp only [val] at h
      have hx : x = 0 := by omega
      intro k
      cases k with
      | zero => simp [hx]
      | succ k => have := ih hu.tail Wf.nil (by simp only [val]; omega) k; simpa using this
    | cons y ys =>
      have h1 := hu.head
      have h2 := hv.head
      simp only [val] at h
      intro k
      cases k with
      | zero => simp; omega
      | succ k => have := ih hu.tail hv.tail (by omega) k; simpa using this
theorem canon {us vs : List Int} (hu : Wf us) (hv : Wf vs) (fu : trimN us us.length = us.length) (fv : trimN vs vs.length = vs.length) (h : val us = val vs) : us = vs := by
  have hd := getD_eq_of_val hu hv h
  have lu := trimN_last us us.length
  have lv := trimN_last vs vs.length
  rw [fu] at lu
  rw [fv] at lv
  have hl : us.length = vs.length := by
    rcases Nat.lt_trichotomy us.length vs.length with h1 | h1 | h1
    · exfalso
      refine lv (by omega) ?_
      rw [← hd]
      simp [List.getElem?_eq_none (show us.length ≤ vs.length - 1 by omega)]
    · exact h1
    · exfalso
      refine lu (by omega) ?_
      rw [hd]
      simp [List.getElem?_eq_none (show vs.length ≤ us.length - 1 by omega)]
  apply List.ext_getElem hl
  intro i h1 h2
  have := hd i
  simpa [h1, h2] using this

theorem mod_div (s : Int) : s % 4294967296 + 4294967296 * (s / 4294967296) = s := by omega

/-! ## sums -/
theorem val_addTo (xs ys : List Int) (k : Nat) : val (addTo xs ys k).1 + 4294967296 ^ k * (addTo xs ys k).2 = val (xs.take k) + val (ys.take k) := by
  induction k with
  | zero => simp [addTo, val]
  | succ k ih =>
    rw [val_take_succ, val_take_succ]
    simp only [addTo]
    rw [val_append, addTo_length]
    simp only [val, Int.pow_succ]
    have hm := mod_div ((addTo xs ys k).2 + xs.getD k 0 + ys.getD k 0)
    generalize (addTo xs ys k).2 = c at *
    generalize ((c + xs.getD k 0 + ys.getD k 0) % 4294967296) = r at *
    generalize ((c + xs.getD k 0 + ys.getD k 0) / 4294967296) = q at *
    generalize (4294967296 : Int) ^ k = P at *
    grind
theorem val_addL (xs ys : List Int) : val (addL xs ys) = val xs + val ys := by
  unfold addL
  rw [val_append, addTo_length]
  have h := val_addTo xs ys (addN xs ys)
  rw [val_take_ge xs _ (by unfold addN; omega), val_take_ge ys _ (by unfold addN; omega)] at h
  simp only [val, Int.mul_zero, Int.add_zero]
  exact h
theorem addL_wf {xs ys : List Int} (hx : Wf xs) (hy : Wf ys) : Wf (addL xs ys) := by
  have h := addTo_carry xs ys hx hy (addN xs ys)
  exact (addTo_wf xs ys _).append (Wf.cons (by omega) Wf.nil)

/-! ## stores -/
theorem val_set (xs : List Int) (k : Nat) (a : Int) (h : k < xs.length) : val (xs.set k a) = val xs + 4294967296 ^ k * (a - xs.getD k 0) := by
  induction xs generalizing k with
  | nil => simp at h
  | cons x xs ih =>
    cases k with
    | zero => simp [val]; omega
    | succ k =>
      have := ih k (by simpa using h)
      simp only [List.set_cons_succ, val, this, Int.pow_succ]
      simp only [List.getD_cons_succ]
      grind
theorem getD_set (xs : List Int) (k j : Nat) (a : Int) (hk : k < xs.length) : (xs.set k a).getD j 0 = if j = k then a else xs.getD j 0 := by
  by_cases e : j = k
  · subst e; simp [hk]
  · simp only [List.getD, List.getElem?_set]
    rw [if_neg (Ne.symm e), if_neg e]

/-! ## rows and products -/
theorem rowOf_val (zs : List Int) (off : Nat) (x : Int) (vs : List Int) (hl : off + vs.length < zs.length) (k : Nat) (hk : k ≤ vs.length) :
    (rowOf zs off x vs (List.range k)).1.length = zs.length ∧
    val (rowOf zs off x vs (List.range k)).1 + 4294967296 ^ (off + k) * (rowOf zs off x vs (List.range k)).2 = val zs + 4294967296 ^ off * (x * val (vs.take k)) ∧
    (∀ j, off + k ≤ j → (rowOf zs off x vs (List.range k)).1.getD j 0 = zs.getD j 0) := by
  induction k with
  | zero => simp [rowOf, val]
  | succ k ih =>
    obtain ⟨h1, h2, h3⟩ := ih (by omega)
    rw [List.range_succ, rowOf_snoc]
    generalize rowOf zs off x vs (List.range k) = st at *
    obtain ⟨z, c⟩ := st
    simp only at h1 h2 h3
    simp only [rowStep]
    refine ⟨by simp [h1], ?_, fun j hj => ?_⟩
    · rw [val_set _ _ _ (by omega), val_take_succ]
      have hm := mod_div (c + x * vs.getD k 0 + z.getD (off + k) 0)
      have hp : (4294967296 : Int) ^ (off + (k + 1)) = 4294967296 ^ (off + k) * 4294967296 := by rw [show off + (k + 1) = (off + k) + 1 from by omega, Int.pow_succ]
      have hq : (4294967296 : Int) ^ (off + k) = 4294967296 ^ off * 4294967296 ^ k := Int.pow_add ..
      rw [hp]
      generalize ((c + x * vs.getD k 0 + z.getD (off + k) 0) % 4294967296) = r at *
      generalize ((c + x * vs.getD k 0 + z.getD (off + k) 0) / 4294967296) = q at *
      generalize (4294967296 : Int) ^ (off + k) = P at *
      generalize (4294967296 : Int) ^ k = P2 at *
      generalize (4294967296 : Int) ^ off = P1 at *
      generalize vs.getD k 0 = y at *
      generalize z.getD (off + k) 0 = t at *
      generalize val (vs.take k) = vv at *
      grind
    · rw [getD_set _ _ _ _ (by omega), if_neg (by omega)]
      exact h3 j (by omega)
theorem rowL_val (zs : List Int) (off : Nat) (x : Int) (vs : List Int) (hl : off + vs.length < zs.length) (h0 : zs.getD (off + vs.length) 0 = 0) :
    val (rowL zs off x vs) = val zs + 4294967296 ^ off * (x * val vs) ∧ (∀ j, off + vs.length < j → (rowL zs off x vs).getD j 0 = zs.getD j 0) := by
  obtain ⟨h1, h2, h3⟩ := rowOf_val zs off x vs hl vs.length (Nat.le_refl _)
  rw [List.take_length] at h2
  unfold rowL
  generalize rowOf zs off x vs (List.range vs.length) = st at *
  obtain ⟨z, c⟩ := st
  simp only at h1 h2 h3
  refine ⟨?_, fun j hj => ?_⟩
  · rw [val_set _ _ _ (show off + vs.length < z.length by omega), h3 _ (Nat.le_refl _), h0, ← h2, Int.sub_zero]
  · rw [getD_set _ _ _ _ (show off + vs.length < z.length by omega), if_neg (by omega)]
    exact h3 j (by omega)
theorem mulOf_val (us vs : List Int) (k : Nat) (hk : k ≤ us.length) : (mulOf us vs (List.range k)).length = us.length + vs.length ∧ val (mulOf us vs (List.range k)) = val (us.take k) * val vs ∧
    (∀ j, k + vs.length ≤ j → (mulOf us vs (List.range k)).getD j 0 = 0) := by
  induction k with
  | zero =>
    simp only [List.range_zero, mulOf, List.foldl_nil, List.length_replicate, val_zeros, List.take_zero, val, Int.zero_mul, true_and]
    intro j _
    by_cases h : j < us.length + vs.length
    · simp [h]
    · simp [h]
  | succ k ih =>
    obtain ⟨h1, h2, h3⟩ := ih (by omega)
    rw [List.range_succ, mulOf_snoc]
    obtain ⟨g1, g2⟩ := rowL_val (mulOf us vs (List.range k)) k (us.getD k 0) vs (by omega) (h3 _ (Nat.le_refl _))
    obtain ⟨g0, _, _⟩ := rowOf_val (mulOf us vs (List.range k)) k (us.getD k 0) vs (by omega) vs.length (Nat.le_refl _)
    refine ⟨by unfold rowL; rw [List.length_set]; exact g0.trans h1, ?_, fun j hj => by rw [g2 j (by omega)]; exact h3 j (by omega)⟩
    rw [g1, h2, val_take_succ]
    generalize val (us.take k) = A
    generalize (4294967296 : Int) ^ k = P
    grind
theorem val_mulL (us vs : List Int) : val (mulL us vs) = val us * val vs := by
  have h := (mulOf_val us vs us.length (Nat.le_refl _)).2.1
  rw [List.take_length] at h
  exact h
theorem mulL_wf {us vs : List Int} (hu : Wf us) (hv : Wf vs) : Wf (mulL us vs) := (mulOf_ok us vs hu hv _).2

/-! ## differences -/
theorem subOf_val (xs ys : List Int) (m k : Nat) (hk : k ≤ m) : (subOf xs ys m (List.range k)).1.length = m ∧
    val ((subOf xs ys m (List.range k)).1.take k) + 4294967296 ^ k * (subOf xs ys m (List.range k)).2 = val (xs.take k) - val (ys.take k) + 4294967296 ^ k := by
  induction k with
  | zero => simp [subOf, val]
  | succ k ih =>
    obtain ⟨h1, h2⟩ := ih (by omega)
    rw [List.range_succ, subOf_snoc]
    generalize subOf xs ys m (List.range k) = st at *
    obtain ⟨z, c⟩ := st
    simp only at h1 h2
    simp only [subStep]
    refine ⟨by simp [h1], ?_⟩
    rw [val_take_succ, val_take_succ, val_take_succ, getD_set _ _ _ _ (by omega), if_pos rfl]
    have e : (z.set k ((c + xs.getD k 0 + (4294967295 - ys.getD k 0)) % 4294967296)).take k = z.take k := by
      rw [List.take_set, List.set_eq_of_length_le (by rw [List.length_take]; omega)]
    rw [e]
    have hm := mod_div (c + xs.getD k 0 + (4294967295 - ys.getD k 0))
    simp only [Int.pow_succ]
    generalize ((c + xs.getD k 0 + (4294967295 - ys.getD k 0)) % 4294967296) = r at *
    generalize ((c + xs.getD k 0 + (4294967295 - ys.getD k 0)) / 4294967296) = q at *
    generalize (4294967296 : Int) ^ k = P at *
    generalize xs.getD k 0 = x at *
    generalize ys.getD k 0 = y at *
    generalize val (z.take k) = Z at *
    generalize val (xs.take k) = XX at *
    generalize val (ys.take k) = YY at *
    grind
theorem subOf_wf (xs ys : List Int) (m : Nat) (ks : List Nat) : Wf (subOf xs ys m ks).1 := by
  suffices h : ∀ s : List Int × Int, Wf s.1 → Wf (ks.foldl (subStep xs ys) s).1 from h _ (Wf.zeros m)
  induction ks with
  | nil => exact fun s h => h
  | cons k ks ih => exact fun s h => ih _ (h.set _ (by omega))
theorem subL_wf (xs ys : List Int) : Wf (subL xs ys) := subOf_wf _ _ _ _
theorem one_of_mul {P c d z : Int} (h : z + P * c = d + P) (hz : 0 ≤ z) (hz2 : z < P) (hd : 0 ≤ d) (hd2 : d < P) : z = d := by
  have h1 : P * (c - 1) = d - z := by rw [Int.mul_sub]; omega
  have h2 : c = 1 := by
    rcases Int.lt_trichotomy c 1 with h3 | h3 | h3
    · have : P * (c - 1) ≤ P * (-1) := Int.mul_le_mul_of_nonneg_left (by omega) (by omega)
      omega
    · exact h3
    · have : P * 1 ≤ P * (c - 1) := Int.mul_le_mul_of_nonneg_left (by omega) (by omega)
      omega
  subst h2
  omega
theorem val_subL {xs ys : List Int} (hx : Wf xs) (hy : Wf ys) (hl : trimN ys ys.length ≤ trimN xs xs.length) (h : val ys ≤ val xs) : val (subL xs ys) = val xs - val ys := by
  obtain ⟨h1, h2⟩ := subOf_val xs ys (trimN xs xs.length) (trimN xs xs.length) (Nat.le_refl _)
  have hw := subL_wf xs ys
  unfold subL at hw ⊢
  rw [val_take_ge xs _ (Nat.le_refl _), val_take_ge ys _ hl, List.take_of_length_le (by omega)] at h2
  have hb := val_lt hx.trim
  rw [val_trim, trim_length] at hb
  have hz := val_lt hw
  rw [h1] at hz
  have hy0 := val_nonneg hy
  exact one_of_mul h2 (val_nonneg hw) hz (by omega) (by omega)

/-! ## orders -/
theorem full_ge {us : List Int} (hu : Wf us) (f : trimN us us.length = us.length) (j : Nat) (hj : us.length = j + 1) : 4294967296 ^ j ≤ val us := by
  have h1 := trimN_last us us.length (by omega)
  rw [f, hj, Nat.add_sub_cancel] at h1
  have h2 := hu.getD j
  have h3 := val_take_succ us j
  rw [← hj, List.take_length] at h3
  have h4 := val_nonneg (hu.take j)
  have h5 : (4294967296 : Int) ^ j * 1 ≤ 4294967296 ^ j * us.getD j 0 := Int.mul_le_mul_of_nonneg_left (by omega) (Int.le_of_lt (pow_pos' j))
  omega
theorem len_lt {us vs : List Int} (hu : Wf us) (hv : Wf vs) (fv : trimN vs vs.length = vs.length) (h : us.length < vs.length) : val us < val vs := by
  obtain ⟨j, hj⟩ : ∃ j, vs.length = j + 1 := ⟨vs.length - 1, by omega⟩
  have h1 := full_ge hv fv j hj
  have h2 := val_lt hu
  have h3 : (4294967296 : Int) ^ us.length ≤ 4294967296 ^ j := by
    rw [show j = us.length + (j - us.length) from by omega, Int.pow_add]
    have h4 : (4294967296 : Int) ^ us.length * 1 ≤ 4294967296 ^ us.length * 4294967296 ^ (j - us.length) := Int.mul_le_mul_of_nonneg_left (by have := pow_pos' (j - us.length); omega) (Int.le_of_lt (pow_pos' _))
    omega
  omega
theorem take_above (us vs : List Int) (i : Nat) (n : Nat) (h : ∀ j, i < j → j < n → us.getD j 0 = vs.getD j 0) (k : Nat) (hk : i + 1 ≤ k) (hn : k ≤ n) :
    val (us.take k) - val (vs.take k) = val (us.take (i + 1)) - val (vs.take (i + 1)) := by
  induction k with
  | zero => omega
  | succ k ih =>
    by_cases e : k = i
    · subst e; rfl
    · rw [val_take_succ us k, val_take_succ vs k, h k (by omega) (by omega)]
      have := ih (by omega) (by omega)
      omega
theorem top_lt {us vs : List Int} (hu : Wf us) (hv : Wf vs) (i : Nat) (h : us.getD i 0 < vs.getD i 0) : val (us.take (i + 1)) < val (vs.take (i + 1)) := by
  rw [val_take_succ, val_take_succ]
  have h1 := val_lt (hu.take i)
  have h2 := val_nonneg (hv.take i)
  have h3 : (4294967296 : Int) ^ (us.take i).length ≤ 4294967296 ^ i := by
    rw [List.length_take]
    rw [show i = min i us.length + (i - min i us.length) from by omega, Int.pow_add]
    rw [show min (min i us.length + (i - min i us.length)) us.length = min i us.length from by omega]
    have h4 : (4294967296 : Int) ^ min i us.length * 1 ≤ 4294967296 ^ min i us.length * 4294967296 ^ (i - min i us.length) := Int.mul_le_mul_of_nonneg_left (by have := pow_pos' (i - min i us.length); omega) (Int.le_of_lt (pow_pos' _))
    omega
  have h5 : (4294967296 : Int) ^ i * (us.getD i 0 + 1) ≤ 4294967296 ^ i * vs.getD i 0 := Int.mul_le_mul_of_nonneg_left (by omega) (Int.le_of_lt (pow_pos' i))
  rw [Int.mul_add, Int.mul_one] at h5
  omega
theorem sign_lt {a b : Int} (h : a < b) : sign a b = -1 := if_pos h
theorem sign_gt {a b : Int} (h : b < a) : sign a b = 1 := by unfold sign; rw [if_neg (by omega), if_pos h]
theorem sign_self (a : Int) : sign a a = 0 := by unfold sign; rw [if_neg (by omega), if_neg (by omega)]
theorem cmp_val {us vs : List Int} {r : Int} (hu : Wf us) (hv : Wf vs) (fu : trimN us us.length = us.length) (fv : trimN vs vs.length = vs.length) (h : CmpT us vs r) :
    r = sign (val us) (val vs) ∧ (0 ≤ r → vs.length ≤ us.length) := by
  rcases h with ⟨hne, rfl⟩ | ⟨hl, he, rfl⟩ | ⟨hl, i, hi, hne, ha, rfl⟩
  · rcases Nat.lt_or_gt_of_ne hne with h1 | h1
    · rw [sign_lt (show ((us.length : Int) < vs.length) by omega), sign_lt (len_lt hu hv fv h1)]
      exact ⟨rfl, fun h => by omega⟩
    · rw [sign_gt (show ((vs.length : Int) < us.length) by omega), sign_gt (len_lt hv hu fu h1)]
      exact ⟨rfl, fun _ => by omega⟩
  · have e : us = vs := by
      apply List.ext_getElem hl
      intro j h1 h2
      have := he j h1
      simpa [h1, h2] using this
    rw [e, sign_self]
    exact ⟨rfl, fun _ => Nat.le_refl _⟩
  · have h1 := take_above us vs i us.length ha us.length (by omega) (Nat.le_refl _)
    rw [List.take_length] at h1
    rw [hl, List.take_length] at h1
    refine ⟨?_, fun _ => by omega⟩
    have hne' : us.getD i 0 ≠ vs.getD i 0 := hne
    rcases Int.lt_or_gt_of_ne hne' with h2 | h2
    · have h3 := top_lt hu hv i h2
      rw [sign_lt (show val us < val vs by omega)]
      exact sign_lt h2
    · have h3 := top_lt hv hu i h2
      rw [sign_gt (show val vs < val us by omega)]
      exact sign_gt h2
end Go.Proofs.Yteinfanfhgpciaa
