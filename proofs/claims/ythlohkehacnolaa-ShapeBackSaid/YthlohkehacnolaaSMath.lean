/-
  Shapes and indexes: mathematics.
-/
import Derived.Test.YthlohkehacnolaaMath
namespace Go.Proofs.Ythlohkehacnolaa
set_option linter.unusedVariables false
set_option linter.unusedSimpArgs false

/-- the product -/
def prodS : List Int → Int
  | [] => 1
  | d :: ds => d * prodS ds
/-- all are at least 1 -/
def posS (s : List Int) : Prop := ∀ x ∈ s, 1 ≤ x
theorem posS.tail {d : Int} {ds : List Int} (h : posS (d :: ds)) : posS ds := fun x hx => h x (List.mem_cons_of_mem _ hx)
theorem posS.head {d : Int} {ds : List Int} (h : posS (d :: ds)) : 1 ≤ d := h d (List.mem_cons_self ..)
theorem posS.drop {s : List Int} (h : posS s) (n : Nat) : posS (s.drop n) := fun x hx => h x (List.mem_of_mem_drop hx)
theorem posS.take {s : List Int} (h : posS s) (n : Nat) : posS (s.take n) := fun x hx => h x (List.mem_of_mem_take hx)
theorem posS.getD {s : List Int} (h : posS s) {i : Nat} (hi : i < s.length) : 1 ≤ s.getD i 0 := by
  rw [List.getD_eq_getElem?_getD, List.getElem?_eq_getElem hi]; exact h _ (List.getElem_mem hi)
theorem prodS_pos {s : List Int} (h : posS s) : 1 ≤ prodS s := by
  induction s with
  | nil => exact Int.le_refl _
  | cons d ds ih =>
    have h1 := h.head
    have h2 := ih h.tail
    have h3 := Int.mul_le_mul h1 h2 (by omega) (by omega)
    unfold prodS
    omega
theorem prodS_append (a b : List Int) : prodS (a ++ b) = prodS a * prodS b := by
  induction a with
  | nil => simp [prodS]
  | cons x xs ih => rw [List.cons_append]; simp only [prodS]; rw [ih, Int.mul_assoc]
theorem prodS_take {s : List Int} {k : Nat} (hk : k < s.length) : prodS (s.take (k + 1)) = prodS (s.take k) * s.getD k 0 := by
  rw [List.take_add_one, List.getElem?_eq_getElem hk, prodS_append, Option.toList_some]
  simp [prodS, List.getD_eq_getElem?_getD, List.getElem?_eq_getElem hk]
theorem prodS_drop {s : List Int} {k : Nat} (hk : k < s.length) : prodS (s.drop k) = s.getD k 0 * prodS (s.drop (k + 1)) := by
  rw [List.drop_eq_getElem_cons hk]
  simp [prodS, List.getD_eq_getElem?_getD, List.getElem?_eq_getElem hk]
theorem prodS_split (s : List Int) (k : Nat) : prodS s = prodS (s.take k) * prodS (s.drop k) := by rw [← prodS_append, List.take_append_drop]
theorem prodS_take_le {s : List Int} (h : posS s) (k : Nat) : prodS (s.take k) ≤ prodS s := by
  have h1 := prodS_pos (h.take k)
  have h2 := prodS_pos (h.drop k)
  rw [prodS_split s k]
  have := Int.mul_le_mul_of_nonneg_left h2 (show 0 ≤ prodS (s.take k) by omega)
  omega
theorem prodS_drop_le {s : List Int} (h : posS s) (k : Nat) : prodS (s.drop k) ≤ prodS s := by
  have h1 := prodS_pos (h.take k)
  have h2 := prodS_pos (h.drop k)
  rw [prodS_split s k]
  have := Int.mul_le_mul_of_nonneg_right h1 (show 0 ≤ prodS (s.drop k) by omega)
  omega
theorem getD_le_prod {s : List Int} (h : posS s) {k : Nat} (hk : k < s.length) : s.getD k 0 ≤ prodS s := by
  have h1 := prodS_pos (h.take k)
  have h2 := prodS_take_le h (k + 1)
  have h3 := h.getD hk
  rw [prodS_take hk] at h2
  have := Int.mul_le_mul_of_nonneg_right h1 (show 0 ≤ s.getD k 0 by omega)
  omega

/-- why a shape may not be: 0, or an error -/
def mayC (s : List Int) : Int := if 4 < s.length then 14 else if s.any (fun x => decide (x < 1)) = true then 13 else if 1024 < prodS s then 14 else 0
theorem any_pos (s : List Int) : s.any (fun x => decide (x < 1)) = true ↔ ¬ posS s := by
  rw [List.any_eq_true]
  unfold posS
  constructor
  · intro ⟨x, hx, h⟩ hp
    have := hp x hx
    simp at h
    omega
  · intro h
    apply Classical.byContradiction
    intro hn
    apply h
    intro x hx
    rcases Int.lt_or_le x 1 with g | g
    · exact absurd ⟨x, hx, by simpa using g⟩ hn
    · exact g
structure OkS (s : List Int) : Prop where
  rank : s.length ≤ 4
  pos : posS s
  few : prodS s ≤ 1024
theorem mayC_zero {s : List Int} : mayC s = 0 ↔ OkS s := by
  unfold mayC
  constructor
  · intro h
    split at h
    · cases h
    · split at h
      · cases h
      · next h1 h2 =>
        split at h
        · cases h
        · rw [any_pos, Classical.not_not] at h2
          exact ⟨by omega, h2, by omega⟩
  · intro h
    rw [if_neg (by have := h.rank; omega), if_neg (by rw [any_pos, Classical.not_not]; exact h.pos), if_neg (by have := h.few; omega)]
theorem mayC_ok {s : List Int} (h : OkS s) : mayC s = 0 := mayC_zero.2 h
theorem mayC_rank {s : List Int} (h : 4 < s.length) : mayC s = 14 := by unfold mayC; rw [if_pos h]
theorem mayC_dim {s : List Int} (h : s.length ≤ 4) (h2 : ¬ posS s) : mayC s = 13 := by unfold mayC; rw [if_neg (by omega), if_pos ((any_pos s).2 h2)]
theorem mayC_count {s : List Int} (h : s.length ≤ 4) (h2 : posS s) (h3 : 1024 < prodS s) : mayC s = 14 := by unfold mayC; rw [if_neg (by omega), if_neg (by rw [any_pos, Classical.not_not]; exact h2), if_pos h3]
theorem mayC_range (s : List Int) : mayC s = 0 ∨ mayC s = 13 ∨ mayC s = 14 := by
  unfold mayC
  by_cases h1 : 4 < s.length
  · rw [if_pos h1]; simp
  · rw [if_neg h1]
    by_cases h2 : s.any (fun x => decide (x < 1)) = true
    · rw [if_pos h2]; simp
    · rw [if_neg h2]
      by_cases h3 : 1024 < prodS s
      · rw [if_pos h3]; simp
      · rw [if_neg h3]; simp
theorem OkS.nil : OkS [] := ⟨by simp, (fun x h => by cases h), by simp [prodS]⟩

/-- how many elements -/
def countS (s : List Int) : Int := if mayC s = 0 then prodS s else 0
theorem OkS.count {s : List Int} (h : OkS s) : countS s = prodS s := by unfold countS; rw [if_pos (mayC_ok h)]
theorem count_bad {s : List Int} (h : mayC s ≠ 0) : countS s = 0 := by unfold countS; rw [if_neg h]

/-- the index of a place -/
def idxS : List Int → Int → List Int
  | [], _ => []
  | _ :: ds, n => n / prodS ds :: idxS ds (n % prodS ds)
/-- the place of an index -/
def placeS : List Int → List Int → Int
  | _ :: ds, x :: xs => x * prodS ds + placeS ds xs
  | _, _ => 0
/-- is it an index? -/
def inS : List Int → List Int → Prop
  | [], [] => True
  | d :: ds, x :: xs => (0 ≤ x ∧ x < d) ∧ inS ds xs
  | _, _ => False
instance inS.dec : (s xs : List Int) → Decidable (inS s xs)
  | [], [] => .isTrue trivial
  | d :: ds, x :: xs => by unfold inS; exact @instDecidableAnd _ _ _ (inS.dec ds xs)
  | [], _ :: _ => .isFalse id
  | _ :: _, [] => .isFalse id
theorem inS_length {s xs : List Int} (h : inS s xs) : xs.length = s.length := by
  induction s generalizing xs with
  | nil => cases xs with
    | nil => rfl
    | cons => exact h.elim
  | cons d ds ih => cases xs with
    | nil => exact h.elim
    | cons x xs => simp only [List.length_cons]; rw [ih h.2]
theorem inS_at {s xs : List Int} (h : inS s xs) {i : Nat} (hi : i < s.length) : 0 ≤ xs.getD i 0 ∧ xs.getD i 0 < s.getD i 0 := by
  induction s generalizing xs i with
  | nil => simp at hi
  | cons d ds ih => cases xs with
    | nil => exact h.elim
    | cons x xs => cases i with
      | zero => simpa using h.1
      | succ i => simpa using ih h.2 (i := i) (by simpa using hi)
theorem inS_of {s xs : List Int} (hl : xs.length = s.length) (h : ∀ i, i < s.length → 0 ≤ xs.getD i 0 ∧ xs.getD i 0 < s.getD i 0) : inS s xs := by
  induction s generalizing xs with
  | nil =>
    obtain rfl := List.eq_nil_of_length_eq_zero hl
    trivial
  | cons d ds ih => cases xs with
    | nil => simp at hl
    | cons x xs =>
      refine ⟨by simpa using h 0 (by simp), ih (by simpa using hl) fun i hi => ?_⟩
      simpa using h (i + 1) (by simpa using hi)
theorem place_range {s xs : List Int} (h : inS s xs) : 0 ≤ placeS s xs ∧ placeS s xs < prodS s := by
  induction s generalizing xs with
  | nil => cases xs with
    | nil => simp [placeS, prodS]
    | cons => exact h.elim
  | cons d ds ih => cases xs with
    | nil => exact h.elim
    | cons x xs =>
      obtain ⟨⟨h0, h1⟩, h2⟩ := h
      obtain ⟨h3, h4⟩ := ih h2
      simp only [placeS, prodS]
      have e1 := Int.mul_nonneg h0 (show 0 ≤ prodS ds by omega)
      have e2 := Int.mul_le_mul_of_nonneg_right (show x + 1 ≤ d by omega) (show 0 ≤ prodS ds by omega)
      rw [Int.add_mul, Int.one_mul] at e2
      omega
theorem idx_place {s xs : List Int} (h : inS s xs) : idxS s (placeS s xs) = xs := by
  induction s generalizing xs with
  | nil => cases xs with
    | nil => rfl
    | cons => exact h.elim
  | cons d ds ih => cases xs with
    | nil => exact h.elim
    | cons x xs =>
      obtain ⟨_, h2⟩ := h
      obtain ⟨h3, h4⟩ := place_range h2
      simp only [placeS, idxS]
      have e1 : (x * prodS ds + placeS ds xs) / prodS ds = x := by
        rw [Int.add_comm, Int.add_mul_ediv_right _ _ (by omega), Int.ediv_eq_zero_of_lt h3 h4]; omega
      have e2 : (x * prodS ds + placeS ds xs) % prodS ds = placeS ds xs := by
        rw [Int.add_comm, Int.add_mul_emod_self_right, Int.emod_eq_of_lt h3 h4]
      rw [e1, e2, ih h2]
theorem idx_length (s : List Int) (n : Int) : (idxS s n).length = s.length := by
  induction s generalizing n with
  | nil => rfl
  | cons d ds ih => simp [idxS, ih]
theorem place_idx {s : List Int} (hp : posS s) {n : Int} (h0 : 0 ≤ n) (h1 : n < prodS s) : inS s (idxS s n) ∧ placeS s (idxS s n) = n := by
  induction s generalizing n with
  | nil => simp only [prodS] at h1; exact ⟨trivial, by simp [placeS]; omega⟩
  | cons d ds ih =>
    have hP := prodS_pos hp.tail
    simp only [prodS] at h1
    have m0 := Int.emod_nonneg n (show prodS ds ≠ 0 by omega)
    have m1 := Int.emod_lt_of_pos n (show 0 < prodS ds by omega)
    obtain ⟨i1, i2⟩ := ih hp.tail m0 m1
    simp only [idxS, placeS, inS]
    refine ⟨⟨⟨Int.ediv_nonneg h0 (by omega), Int.ediv_lt_of_lt_mul (by omega) h1⟩, i1⟩, ?_⟩
    rw [i2, Int.mul_comm]
    exact Int.mul_ediv_add_emod n (prodS ds)
theorem place_inj {s xs ys : List Int} (hx : inS s xs) (hy : inS s ys) (h : placeS s xs = placeS s ys) : xs = ys := by rw [← idx_place hx, h, idx_place hy]
theorem idx_zero {s : List Int} : idxS s 0 = List.replicate s.length 0 := by
  induction s with
  | nil => rfl
  | cons d ds ih => simp [idxS, ih, List.replicate_succ]

/-- the next index -/
def nextS : List Int → List Int → Option (List Int)
  | d :: ds, x :: xs => match nextS ds xs with
    | some ys => some (x :: ys)
    | none => if x + 1 < d then some ((x + 1) :: List.replicate ds.length 0) else none
  | _, _ => none
theorem next_idx {s xs : List Int} (h : inS s xs) : (placeS s xs + 1 < prodS s → nextS s xs = some (idxS s (placeS s xs + 1))) ∧ (¬ placeS s xs + 1 < prodS s → nextS s xs = none) := by
  induction s generalizing xs with
  | nil => cases xs with
    | nil => exact ⟨fun h => by simp [placeS, prodS] at h, fun _ => rfl⟩
    | cons => exact h.elim
  | cons d ds ih => cases xs with
    | nil => exact h.elim
    | cons x xs =>
      obtain ⟨⟨h0, h1⟩, h2⟩ := h
      obtain ⟨h3, h4⟩ := place_range h2
      obtain ⟨hi1, hi2⟩ := ih h2
      obtain ⟨P, hP⟩ : ∃ P, prodS ds = P := ⟨_, rfl⟩
      obtain ⟨r, hr0⟩ : ∃ r, placeS ds xs = r := ⟨_, rfl⟩
      have ep : placeS (d :: ds) (x :: xs) = x * P + r := by simp only [placeS, hP, hr0]
      have eP : prodS (d :: ds) = d * P := by simp only [prodS, hP]
      have ei : ∀ n, idxS (d :: ds) n = n / P :: idxS ds (n % P) := fun n => by simp only [idxS, hP]
      have en : nextS (d :: ds) (x :: xs) = match nextS ds xs with
        | some ys => some (x :: ys)
        | none => if x + 1 < d then some ((x + 1) :: List.replicate ds.length 0) else none := rfl
      rw [ep, eP, ei, en]
      rw [hP, hr0] at hi1 hi2
      rw [hr0, hP] at h4
      rw [hr0] at h3
      by_cases hr : r + 1 < P
      · rw [hi1 hr]
        have e2 := Int.mul_le_mul_of_nonneg_right (show x + 1 ≤ d by omega) (show 0 ≤ P by omega)
        rw [Int.add_mul, Int.one_mul] at e2
        have e3 : (x * P + r + 1) / P = x := by
          rw [Int.add_assoc, Int.add_comm, Int.add_mul_ediv_right _ _ (by omega), Int.ediv_eq_zero_of_lt (by omega) hr]; omega
        have e4 : (x * P + r + 1) % P = r + 1 := by
          rw [Int.add_assoc, Int.add_comm, Int.add_mul_emod_self_right, Int.emod_eq_of_lt (by omega) hr]
        rw [e3, e4]
        exact ⟨fun _ => rfl, fun h => absurd (by omega) h⟩
      · rw [hi2 hr]
        have e5 : x * P + r + 1 = (x + 1) * P := by rw [Int.add_mul, Int.one_mul]; omega
        rw [e5, Int.mul_ediv_cancel _ (by omega), Int.mul_emod_left, idx_zero]
        by_cases hd : x + 1 < d
        · have := Int.mul_lt_mul_of_pos_right hd (show 0 < P by omega)
          simp only [if_pos hd]
          exact ⟨fun _ => by first | rfl | trivial, fun h => absurd this h⟩
        · obtain rfl : d = x + 1 := by omega
          simp only [if_neg hd]
          exact ⟨fun h => absurd h (Int.lt_irrefl _), fun _ => by first | rfl | trivial⟩
/-- one dimension more -/
theorem next_drop {s xs : List Int} (hl : xs.length = s.length) {i : Nat} (hi : i < s.length) (h : nextS (s.drop (i + 1)) (xs.drop (i + 1)) = none) :
    nextS (s.drop i) (xs.drop i) = if xs.getD i 0 + 1 < s.getD i 0 then some ((xs.getD i 0 + 1) :: List.replicate (s.length - (i + 1)) 0) else none := by
  rw [List.drop_eq_getElem_cons hi, List.drop_eq_getElem_cons (show i < xs.length by omega)]
  simp only [nextS, h]
  simp [List.getD_eq_getElem?_getD, List.getElem?_eq_getElem hi, List.getElem?_eq_getElem (show i < xs.length by omega)]
theorem next_some {s xs ys : List Int} (hl : xs.length = s.length) {i : Nat} (hi : i ≤ s.length) (h : nextS (s.drop i) (xs.drop i) = some ys) : nextS s xs = some (xs.take i ++ ys) := by
  induction i generalizing ys with
  | zero => simpa using h
  | succ i ih =>
    have h2 : nextS (s.drop i) (xs.drop i) = some (xs.getD i 0 :: ys) := by
      rw [List.drop_eq_getElem_cons (show i < s.length by omega), List.drop_eq_getElem_cons (show i < xs.length by omega)]
      simp only [nextS, h]
      simp [List.getD_eq_getElem?_getD, List.getElem?_eq_getElem (show i < xs.length by omega)]
    have e : xs.getD i 0 = xs[i] := by simp [List.getD_eq_getElem?_getD, List.getElem?_eq_getElem (show i < xs.length by omega)]
    rw [ih (by omega) h2, List.take_add_one, List.getElem?_eq_getElem (show i < xs.length by omega), e, Option.toList_some, List.append_assoc, List.singleton_append]

/-- each number times its stride, summed -/
def sumS (s xs : List Int) : Nat → Int
  | 0 => 0
  | k + 1 => sumS s xs k + xs.getD k 0 * prodS (s.drop (k + 1))
theorem sum_place {s xs : List Int} (hl : xs.length = s.length) {k : Nat} (hk : k ≤ s.length) : sumS s xs k + placeS (s.drop k) (xs.drop k) = placeS s xs := by
  induction k with
  | zero => simp [sumS]
  | succ k ih =>
    rw [← ih (by omega)]
    rw [List.drop_eq_getElem_cons (show k < s.length by omega), List.drop_eq_getElem_cons (show k < xs.length by omega)]
    simp only [sumS, placeS]
    rw [show xs.getD k 0 = xs[k] by simp [List.getD_eq_getElem?_getD, List.getElem?_eq_getElem (show k < xs.length by omega)]]
    omega
theorem sum_all {s xs : List Int} (hl : xs.length = s.length) : sumS s xs s.length = placeS s xs := by
  have h := sum_place hl (Nat.le_refl _)
  rw [List.drop_length] at h
  have : placeS [] (xs.drop s.length) = 0 := by cases xs.drop s.length <;> rfl
  omega
end Go.Proofs.Ythlohkehacnolaa
