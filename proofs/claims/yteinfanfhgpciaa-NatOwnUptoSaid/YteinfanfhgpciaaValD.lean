/-
  What digits of 10000 stand for: plain mathematics. (Made out of the texts for limbs by wip/gen/gen_dig.py.)
-/
import Derived.Test.YteinfanfhgpciaaDig
namespace Go.Proofs.Yteinfanfhgpciaa
open Go.RowKit

theorem WfD.nil : WfD [] := by intro x h; cases h
theorem WfD.cons {x : Int} {xs : List Int} (h : 0 ≤ x ∧ x < 10000) (hs : WfD xs) : WfD (x :: xs) := by
  intro y hy
  rcases List.mem_cons.1 hy with rfl | hy
  · exact h
  · exact hs y hy
theorem WfD.tail {x : Int} {xs : List Int} (h : WfD (x :: xs)) : WfD xs := fun y hy => h y (List.mem_cons_of_mem _ hy)
theorem WfD.head {x : Int} {xs : List Int} (h : WfD (x :: xs)) : 0 ≤ x ∧ x < 10000 := h x List.mem_cons_self
theorem WfD.append {xs ys : List Int} (h : WfD xs) (k : WfD ys) : WfD (xs ++ ys) := by
  intro x hx
  rcases List.mem_append.1 hx with hx | hx
  · exact h x hx
  · exact k x hx
theorem WfD.take {xs : List Int} (h : WfD xs) (n : Nat) : WfD (xs.take n) := fun x hx => h x (List.mem_of_mem_take hx)
theorem WfD.drop {xs : List Int} (h : WfD xs) (n : Nat) : WfD (xs.drop n) := fun x hx => h x (List.mem_of_mem_drop hx)
theorem WfD.getD {xs : List Int} (h : WfD xs) (i : Nat) : 0 ≤ xs.getD i 0 ∧ xs.getD i 0 < 10000 := by
  by_cases hi : i < xs.length
  · have : xs.getD i 0 = xs[i] := by simp [List.getD, hi]
    rw [this]
    exact h _ (List.getElem_mem hi)
  · have : xs.getD i 0 = 0 := by simp [List.getD, List.getElem?_eq_none (Nat.le_of_not_lt hi)]
    rw [this]; omega

theorem WfD.trim {xs : List Int} (h : WfD xs) : WfD (trim xs) := h.take _
/-- the number that limbs stand for -/
def valD : List Int → Int
  | [] => 0
  | x :: xs => x + 10000 * valD xs

theorem val_nonnegD {xs : List Int} (h : WfD xs) : 0 ≤ valD xs := by
  induction xs with
  | nil => simp [valD]
  | cons x xs ih => have := ih h.tail; have := h.head; simp only [valD]; omega
theorem val_appendD (xs ys : List Int) : valD (xs ++ ys) = valD xs + 10000 ^ xs.length * valD ys := by
  induction xs with
  | nil => simp [valD]
  | cons x xs ih => simp only [List.cons_append, valD, ih, List.length_cons, Int.pow_succ]; grind
theorem val_zerosD (n : Nat) : valD (List.replicate n 0) = 0 := by
  induction n with
  | zero => rfl
  | succ n ih => simp [List.replicate_succ, valD, ih]

theorem pow_posD (k : Nat) : (0 : Int) < 10000 ^ k := Int.pow_pos (by omega)
theorem val_take_succD (xs : List Int) (k : Nat) : valD (xs.take (k + 1)) = valD (xs.take k) + 10000 ^ k * xs.getD k 0 := by
  by_cases h : k < xs.length
  · rw [List.take_succ_eq_append_getElem h, val_appendD, List.length_take, Nat.min_eq_left (by omega)]
    simp [valD, h]
  · rw [List.take_of_length_le (by omega), List.take_of_length_le (by omega)]
    simp [List.getElem?_eq_none (Nat.le_of_not_lt h)]
theorem val_ltD {xs : List Int} (h : WfD xs) : valD xs < 10000 ^ xs.length := by
  induction xs with
  | nil => simp [valD]
  | cons x xs ih =>
    have h1 := ih h.tail
    have h2 := h.head
    simp only [valD, List.length_cons, Int.pow_succ]
    omega
theorem val_trimND (xs : List Int) (n : Nat) : valD (xs.take (trimN xs n)) = valD (xs.take n) := by
  induction n with
  | zero => rfl
  | succ n ih =>
    unfold trimN
    split
    · rename_i hz
      rw [val_take_succD, hz, ih]
      simp
    · rfl
theorem val_trimD (xs : List Int) : valD (trim xs) = valD xs := by
  unfold trim
  rw [val_trimND, List.take_length]
theorem val_take_geD (xs : List Int) (k : Nat) (h : trimN xs xs.length ≤ k) : valD (xs.take k) = valD xs := by
  induction k with
  | zero =>
    have h0 : trimN xs xs.length = 0 := by omega
    rw [← val_trimD xs]
    unfold trim
    rw [h0]
  | succ k ih =>
    by_cases hk : trimN xs xs.length ≤ k
    · rw [val_take_succD, ih hk]
      by_cases hl : k < xs.length
      · rw [getD_ge_trimN xs xs.length k hk hl]; simp
      · simp [List.getElem?_eq_none (Nat.le_of_not_lt hl)]
    · have e : trimN xs xs.length = k + 1 := by omega
      rw [← e]
      exact val_trimD xs
theorem trim_wfD {xs : List Int} (h : WfD xs) : WfD (trim xs) := h.trim

/-- numbers are told in one way -/
theorem getD_eq_of_valD {us vs : List Int} (hu : WfD us) (hv : WfD vs) (h : valD us = valD vs) : ∀ k, us.getD k 0 = vs.getD k 0 := by
  induction us generalizing vs with
  | nil =>
    induction vs with
    | nil => intro k; rfl
    | cons y ys ih =>
      have h1 := hv.head
      have h2 := val_nonnegD hv.tail
      simp only [valD] at h
      have hy : y = 0 := by omega
      have hys : valD [] = valD ys := by simp only [valD]; omega
      intro k
      cases k with
      | zero => simp [hy]
      | succ k => have := ih hv.tail hys k; simpa using this
  | cons x xs ih =>
    cases vs with
    | nil =>
      have h1 := hu.head
      have h2 := val_nonnegD hu.tail
      simp only [valD] at h
      have hx : x = 0 := by omega
      intro k
      cases k with
      | zero => simp [hx]
      | succ k => have := ih hu.tail WfD.nil (by simp only [valD]; omega) k; simpa using this
    | cons y ys =>
      have h1 := hu.head
      have h2 := hv.head
      simp only [valD] at h
      intro k
      cases k with
      | zero => simp; omega
      | succ k => have := ih hu.tail hv.tail (by omega) k; simpa using this
theorem canonD {us vs : List Int} (hu : WfD us) (hv : WfD vs) (fu : trimN us us.length = us.length) (fv : trimN vs vs.length = vs.length) (h : valD us = valD vs) : us = vs := by
  have hd := getD_eq_of_valD hu hv h
  have lu := trimN_last us us.length
  have lv := trimN_last vs vs.length
  rw [fu] at lu
  rw [fv] at lv
  have hl : us.length = vs.length := by
    rcases Nat.lt_trichotomy us.length vs.length with h1 | h1 | h1
    · exfalso
      refine lv (by omega) ?_
      rw [← hd]
      simp [List.getElem?_eq_none (show us.length ≤ vs.length - 1 by omega)]
    · exact h1
    · exfalso
      refine lu (by omega) ?_
      rw [hd]
      simp [List.getElem?_eq_none (show vs.length ≤ us.length - 1 by omega)]
  apply List.ext_getElem hl
  intro i h1 h2
  have := hd i
  simpa [h1, h2] using this

theorem full_geD {us : List Int} (hu : WfD us) (f : trimN us us.length = us.length) (j : Nat) (hj : us.length = j + 1) : 10000 ^ j ≤ valD us := by
  have h1 := trimN_last us us.length (by omega)
  rw [f, hj, Nat.add_sub_cancel] at h1
  have h2 := hu.getD j
  have h3 := val_take_succD us j
  rw [← hj, List.take_length] at h3
  have h4 := val_nonnegD (hu.take j)
  have h5 : (10000 : Int) ^ j * 1 ≤ 10000 ^ j * us.getD j 0 := Int.mul_le_mul_of_nonneg_left (by omega) (Int.le_of_lt (pow_posD j))
  omega
theorem len_ltD {us vs : List Int} (hu : WfD us) (hv : WfD vs) (fv : trimN vs vs.length = vs.length) (h : us.length < vs.length) : valD us < valD vs := by
  obtain ⟨j, hj⟩ : ∃ j, vs.length = j + 1 := ⟨vs.length - 1, by omega⟩
  have h1 := full_geD hv fv j hj
  have h2 := val_ltD hu
  have h3 : (10000 : Int) ^ us.length ≤ 10000 ^ j := by
    rw [show j = us.length + (j - us.length) from by omega, Int.pow_add]
    have h4 : (10000 : Int) ^ us.length * 1 ≤ 10000 ^ us.length * 10000 ^ (j - us.length) := Int.mul_le_mul_of_nonneg_left (by have := pow_posD (j - us.length); omega) (Int.le_of_lt (pow_posD _))
    omega
  omega
theorem take_aboveD (us vs : List Int) (i : Nat) (n : Nat) (h : ∀ j, i < j → j < n → us.getD j 0 = vs.getD j 0) (k : Nat) (hk : i + 1 ≤ k) (hn : k ≤ n) :
    valD (us.take k) - valD (vs.take k) = valD (us.take (i + 1)) - valD (vs.take (i + 1)) := by
  induction k with
  | zero => omega
  | succ k ih =>
    by_cases e : k = i
    · subst e; rfl
    · rw [val_take_succD us k, val_take_succD vs k, h k (by omega) (by omega)]
      have := ih (by omega) (by omega)
      omega
theorem top_ltD {us vs : List Int} (hu : WfD us) (hv : WfD vs) (i : Nat) (h : us.getD i 0 < vs.getD i 0) : valD (us.take (i + 1)) < valD (vs.take (i + 1)) := by
  rw [val_take_succD, val_take_succD]
  have h1 := val_ltD (hu.take i)
  have h2 := val_nonnegD (hv.take i)
  have h3 : (10000 : Int) ^ (us.take i).length ≤ 10000 ^ i := by
    rw [List.length_take]
    rw [show i = min i us.length + (i - min i us.length) from by omega, Int.pow_add]
    rw [show min (min i us.length + (i - min i us.length)) us.length = min i us.length from by omega]
    have h4 : (10000 : Int) ^ min i us.length * 1 ≤ 10000 ^ min i us.length * 10000 ^ (i - min i us.length) := Int.mul_le_mul_of_nonneg_left (by have := pow_posD (i - min i us.length); omega) (Int.le_of_lt (pow_posD _))
    omega
  have h5 : (10000 : Int) ^ i * (us.getD i 0 + 1) ≤ 10000 ^ i * vs.getD i 0 := Int.mul_le_mul_of_nonneg_left (by omega) (Int.le_of_lt (pow_posD i))
  rw [Int.mul_add, Int.mul_one] at h5
  omega
theorem cmp_valD {us vs : List Int} {r : Int} (hu : WfD us) (hv : WfD vs) (fu : trimN us us.length = us.length) (fv : trimN vs vs.length = vs.length) (h : CmpT us vs r) :
    r = sign (valD us) (valD vs) ∧ (0 ≤ r → vs.length ≤ us.length) := by
  rcases h with ⟨hne, rfl⟩ | ⟨hl, he, rfl⟩ | ⟨hl, i, hi, hne, ha, rfl⟩
  · rcases Nat.lt_or_gt_of_ne hne with h1 | h1
    · rw [sign_lt (show ((us.length : Int) < vs.length) by omega), sign_lt (len_ltD hu hv fv h1)]
      exact ⟨rfl, fun h => by omega⟩
    · rw [sign_gt (show ((vs.length : Int) < us.length) by omega), sign_gt (len_ltD hv hu fu h1)]
      exact ⟨rfl, fun _ => by omega⟩
  · have e : us = vs := by
      apply List.ext_getElem hl
      intro j h1 h2
      have := he j h1
      simpa [h1, h2] using this
    rw [e, sign_self]
    exact ⟨rfl, fun _ => Nat.le_refl _⟩
  · have h1 := take_aboveD us vs i us.length ha us.length (by omega) (Nat.le_refl _)
    rw [List.take_length] at h1
    rw [hl, List.take_length] at h1
    refine ⟨?_, fun _ => by omega⟩
    have hne' : us.getD i 0 ≠ vs.getD i 0 := hne
    rcases Int.lt_or_gt_of_ne hne' with h2 | h2
    · have h3 := top_ltD hu hv i h2
      rw [sign_lt (show valD us < valD vs by omega)]
      exact sign_lt h2
    · have h3 := top_ltD hv hu i h2
      rw [sign_gt (show valD vs < valD us by omega)]
      exact sign_gt h2
end Go.Proofs.Yteinfanfhgpciaa
