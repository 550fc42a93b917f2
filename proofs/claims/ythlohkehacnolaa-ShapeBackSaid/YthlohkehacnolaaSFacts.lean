/-
  Permutations, what fits, what is dropped: mathematics.
-/
import Derived.Test.YthlohkehacnolaaSDef
namespace Go.Proofs.Ythlohkehacnolaa
set_option linter.unusedVariables false
set_option linter.unusedSimpArgs false

/-! permutations -/
theorem perm_of_all {p q : List Int} (hq : q.Nodup) (hs : ∀ x, x ∈ q → x ∈ p) (hl : p.length ≤ q.length) : p.Perm q := by
  induction q generalizing p with
  | nil =>
    obtain rfl := List.eq_nil_of_length_eq_zero (show p.length = 0 by simpa using hl)
    exact List.Perm.refl _
  | cons a q ih =>
    obtain ⟨l1, l2, rfl⟩ := List.append_of_mem (hs a (List.mem_cons_self ..))
    rw [List.nodup_cons] at hq
    have h2 := ih (p := l1 ++ l2) hq.2 (fun x hx => by
      have := hs x (List.mem_cons_of_mem _ hx)
      have hne : x ≠ a := fun e => hq.1 (e ▸ hx)
      rcases List.mem_append.1 this with h | h
      · exact List.mem_append.2 (.inl h)
      · rcases List.mem_cons.1 h with h | h
        · exact absurd h hne
        · exact List.mem_append.2 (.inr h)) (by simp only [List.length_append, List.length_cons] at hl ⊢; omega)
    exact (List.perm_middle).trans (List.Perm.cons a h2)
def upS (n : Nat) : List Int := (List.range n).map fun i : Nat => (i : Int)
theorem upS_length (n : Nat) : (upS n).length = n := by simp [upS]
theorem mem_upS {n : Nat} {x : Int} : x ∈ upS n ↔ 0 ≤ x ∧ x < n := by
  unfold upS
  rw [List.mem_map]
  constructor
  · rintro ⟨i, hi, rfl⟩
    rw [List.mem_range] at hi
    omega
  · intro h
    exact ⟨x.toNat, List.mem_range.2 (by omega), by omega⟩
theorem upS_nodup (n : Nat) : (upS n).Nodup := by
  unfold upS
  induction n with
  | zero => simp
  | succ n ih =>
    rw [List.range_succ, List.map_append, List.nodup_append]
    refine ⟨ih, by simp, fun a ha b hb => ?_⟩
    simp only [List.map_cons, List.map_nil, List.mem_singleton] at hb
    rw [List.mem_map] at ha
    obtain ⟨i, hi, rfl⟩ := ha
    rw [List.mem_range] at hi
    omega
structure IsPerm (p : List Int) : Prop where
  nodup : p.Nodup
  mem : ∀ x, x ∈ p ↔ 0 ≤ x ∧ x < p.length
theorem permB_is {p : List Int} {r : Int} (h : permB p r = true) : IsPerm p ∧ (p.length : Int) = max r 0 := by
  unfold permB at h
  rw [Bool.and_eq_true, decide_eq_true_iff, decide_eq_true_iff] at h
  have hp := perm_of_all (upS_nodup p.length) (fun x hx => by
    rw [mem_upS] at hx
    have := h.1 x.toNat (by omega)
    rwa [show ((x.toNat : Nat) : Int) = x by omega] at this) (by rw [upS_length]; exact Nat.le_refl _)
  exact ⟨⟨hp.nodup_iff.2 (upS_nodup _), fun x => by rw [hp.mem_iff, mem_upS]⟩, h.2⟩
theorem is_permB {p : List Int} (h : IsPerm p) : permB p p.length = true := by
  unfold permB
  rw [Bool.and_eq_true, decide_eq_true_iff, decide_eq_true_iff]
  exact ⟨fun n hn => (h.mem _).2 (by omega), by omega⟩
theorem invL_length (p : List Int) : (invL p).length = p.length := by simp [invL]
theorem invL_at (p : List Int) {i : Nat} (h : i < p.length) : (invL p).getD i 0 = (p.idxOf (i : Int) : Int) := by
  unfold invL
  rw [List.getD_eq_getElem?_getD, List.getElem?_map, List.getElem?_range h]; rfl
theorem getD_elem {p : List Int} {i : Nat} (h : i < p.length) : p.getD i 0 = p[i] := by simp [List.getD_eq_getElem?_getD, List.getElem?_eq_getElem h]
theorem IsPerm.back {p : List Int} (h : IsPerm p) {i : Nat} (hi : i < p.length) : (0 ≤ p.getD i 0 ∧ p.getD i 0 < p.length) ∧ (invL p).getD (p.getD i 0).toNat 0 = (i : Int) := by
  have hm := (h.mem (p.getD i 0)).1 (by rw [getD_elem hi]; exact List.getElem_mem hi)
  refine ⟨hm, ?_⟩
  rw [invL_at p (by omega), show (((p.getD i 0).toNat : Nat) : Int) = p.getD i 0 by omega, getD_elem hi, h.nodup.idxOf_getElem]
theorem IsPerm.inv {p : List Int} (h : IsPerm p) : IsPerm (invL p) := by
  have hall : ∀ x, x ∈ upS p.length → x ∈ invL p := fun x hx => by
    rw [mem_upS] at hx
    obtain ⟨h1, h2⟩ := h.back (i := x.toNat) (by omega)
    have hlt : (p.getD x.toNat 0).toNat < (invL p).length := by rw [invL_length]; omega
    have := List.getElem_mem hlt
    rw [← getD_elem hlt, h2] at this
    rwa [show ((x.toNat : Nat) : Int) = x by omega] at this
  have hp := perm_of_all (upS_nodup p.length) hall (by rw [upS_length, invL_length]; exact Nat.le_refl _)
  exact ⟨hp.nodup_iff.2 (upS_nodup _), fun x => by rw [hp.mem_iff, mem_upS, invL_length]⟩
theorem IsPerm.twice {p : List Int} (h : IsPerm p) : invL (invL p) = p := by
  apply List.ext_getElem
  · rw [invL_length, invL_length]
  · intro i h1 h2
    have hi : i < (invL p).length := by rw [invL_length]; exact h2
    rw [← getD_elem h1, ← getD_elem h2, invL_at (invL p) hi]
    obtain ⟨h3, h4⟩ := h.back h2
    have hlt : (p.getD i 0).toNat < (invL p).length := by rw [invL_length]; omega
    rw [getD_elem hlt] at h4
    rw [← h4, h.inv.nodup.idxOf_getElem]
    omega

/-! what fits -/
theorem back_pos {s : List Int} (ok : OkS s) {k : Nat} (h1 : 1 ≤ k) (h2 : k ≤ s.length) : 1 ≤ backS s k := by
  unfold backS
  rw [if_neg (by omega)]
  exact ok.pos.getD (by omega)
theorem back_zero {s : List Int} {k : Nat} (h : s.length < k) : backS s k = 0 := by unfold backS; rw [if_pos h]
theorem fitC_is {f t : List Int} (h : fitC f t = 0) : OkS f ∧ OkS t ∧ fitU f t f.length := by
  by_cases h1 : mayC f = 0
  · by_cases h2 : mayC t = 0
    · by_cases h3 : fitU f t f.length
      · exact ⟨mayC_zero.1 h1, mayC_zero.1 h2, h3⟩
      · rw [fitC_bad h1 h2 h3] at h; cases h
    · rw [fitC_to h1 h2] at h; exact absurd h h2
  · rw [fitC_from h1] at h; exact absurd h h1
theorem fitC_of {f t : List Int} (h1 : OkS f) (h2 : OkS t) (h3 : fitU f t f.length) : fitC f t = 0 := fitC_ok (mayC_ok h1) (mayC_ok h2) h3
theorem fit_len {f t : List Int} (h : fitC f t = 0) : f.length ≤ t.length := by
  obtain ⟨o1, o2, hu⟩ := fitC_is h
  rcases Nat.lt_or_ge t.length f.length with g | g
  · have := (hu f.length (by omega) (Nat.le_refl _)).1
    rw [back_zero g] at this
    exact absurd rfl this
  · exact g
theorem fit_trans {a b c : List Int} (h1 : fitC a b = 0) (h2 : fitC b c = 0) : fitC a c = 0 := by
  obtain ⟨oa, ob, u1⟩ := fitC_is h1
  obtain ⟨_, oc, u2⟩ := fitC_is h2
  have l1 := fit_len h1
  refine fitC_of oa oc fun j j1 j2 => ?_
  obtain ⟨p1, p2⟩ := u1 j j1 j2
  obtain ⟨q1, q2⟩ := u2 j j1 (by omega)
  refine ⟨q1, ?_⟩
  rcases p2 with p2 | p2
  · exact .inl p2
  · rcases q2 with q2 | q2
    · exact .inl (p2.trans q2)
    · exact .inr (p2.trans q2)
theorem fit_self {a : List Int} (h : OkS a) : fitC a a = 0 := fitC_of h h fun j j1 j2 => ⟨by have := back_pos h j1 j2; omega, .inr rfl⟩
theorem fit_nil {a : List Int} (h : OkS a) : fitC [] a = 0 := fitC_of OkS.nil h fun j j1 j2 => by simp at j2; omega
theorem back_inj {a b : List Int} (hl : a.length = b.length) (h : ∀ k, 1 ≤ k → k ≤ a.length → backS a k = backS b k) : a = b := by
  apply List.ext_getElem hl
  intro i h1 h2
  have := h (a.length - i) (by omega) (by omega)
  unfold backS at this
  rw [if_neg (by omega), if_neg (by omega), show a.length - (a.length - i) = i by omega, show b.length - (a.length - i) = i by omega, getD_elem h1, getD_elem h2] at this
  exact this
theorem fit_both {a b : List Int} (h1 : fitC a b = 0) (h2 : fitC b a = 0) : a = b := by
  obtain ⟨oa, ob, u1⟩ := fitC_is h1
  obtain ⟨_, _, u2⟩ := fitC_is h2
  have l1 := fit_len h1
  have l2 := fit_len h2
  refine back_inj (by omega) fun k k1 k2 => ?_
  have p := (u1 k k1 k2).2
  have q := (u2 k k1 (by omega)).2
  omega
theorem grown_self {a : List Int} (h : OkS a) : grownS a a = [] := by
  unfold grownS
  rw [if_pos (fit_self h)]
  have : ∀ j, grownL a a j = [] := fun j => by
    induction j with
    | zero => rfl
    | succ j ih => simp only [grownL, ih, if_true, List.append_nil]
  exact this _
theorem grown_nil {a : List Int} (h : OkS a) : (grownS [] a).length = a.length := by
  unfold grownS
  rw [if_pos (fit_nil h)]
  have : ∀ j, j ≤ a.length → (grownL [] a j).length = j := fun j => by
    induction j with
    | zero => intro _; rfl
    | succ j ih =>
      intro hj
      have hb := back_pos h (k := a.length - j) (by omega) (by omega)
      have hz : backS [] (a.length - j) = 0 := back_zero (by simp; omega)
      simp only [grownL]
      rw [hz, if_neg (by omega), List.length_append, ih (by omega)]
      rfl
  exact this _ (Nat.le_refl _)

/-! what is dropped -/
theorem ones_len (s axes : List Int) : (onesS s axes).length = s.length := onesL_len s axes s.length
theorem onesL_at (s axes : List Int) (j i : Nat) (h : i < j) : (onesL s axes j).getD i 0 = if (i : Int) ∈ axes then 1 else s.getD i 0 := by
  induction j with
  | zero => omega
  | succ j ih =>
    simp only [onesL]
    by_cases hij : i < j
    · rw [List.getD_eq_getElem?_getD, List.getElem?_append_left (by rw [onesL_len]; exact hij), ← List.getD_eq_getElem?_getD]
      exact ih hij
    · obtain rfl : i = j := by omega
      rw [List.getD_eq_getElem?_getD, List.getElem?_append_right (by rw [onesL_len]; exact Nat.le_refl _), onesL_len, Nat.sub_self]
      rfl
theorem ones_at (s axes : List Int) {i : Nat} (h : i < s.length) : (onesS s axes).getD i 0 = if (i : Int) ∈ axes then 1 else s.getD i 0 := onesL_at s axes s.length i h
theorem prod_two (s axes : List Int) (ps : posS s) (j : Nat) (hj : j ≤ s.length) : prodS (dropL s axes j) = prodS (onesL s axes j) ∧ prodS (onesL s axes j) ≤ prodS (s.take j) ∧ posS (onesL s axes j) ∧ posS (dropL s axes j) := by
  induction j with
  | zero => exact ⟨rfl, by simp [onesL, prodS], (fun x h => by simp [onesL] at h), (fun x h => by simp [dropL] at h)⟩
  | succ j ih =>
    obtain ⟨h1, h2, h3, h4⟩ := ih (by omega)
    have hx := ps.getD (i := j) (by omega)
    have p1 := prodS_pos h3
    simp only [onesL, dropL]
    rw [prodS_take (by omega), prodS_append, prodS_append]
    by_cases hm : (j : Int) ∈ axes
    · rw [if_pos hm, if_pos hm]
      simp only [prodS, Int.mul_one]
      have := Int.mul_le_mul_of_nonneg_left hx (show 0 ≤ prodS (s.take j) by have := prodS_pos (ps.take j); omega)
      refine ⟨h1, by omega, fun x h => ?_, fun x h => h4 x (by simpa using h)⟩
      rcases List.mem_append.1 h with h | h
      · exact h3 x h
      · rw [List.mem_singleton.1 h]; omega
    · rw [if_neg hm, if_neg hm]
      simp only [prodS, Int.mul_one]
      refine ⟨by rw [h1], Int.mul_le_mul_of_nonneg_right h2 (by omega), fun x h => ?_, fun x h => ?_⟩
      · rcases List.mem_append.1 h with h | h
        · exact h3 x h
        · rw [List.mem_singleton.1 h]; exact hx
      · rcases List.mem_append.1 h with h | h
        · exact h4 x h
        · rw [List.mem_singleton.1 h]; exact hx
theorem ones_ok {s : List Int} (axes : List Int) (h : OkS s) : OkS (onesS s axes) := by
  obtain ⟨h1, h2, h3, _⟩ := prod_two s axes h.pos s.length (Nat.le_refl _)
  rw [take_all rfl] at h2
  exact ⟨by rw [ones_len]; exact h.rank, h3, by have := h.few; unfold onesS; omega⟩
theorem drop_ok {s : List Int} (axes : List Int) (h : OkS s) : OkS (dropS s axes) := by
  obtain ⟨h1, h2, _, h4⟩ := prod_two s axes h.pos s.length (Nat.le_refl _)
  rw [take_all rfl] at h2
  exact ⟨by have := dropL_le s axes s.length; have := h.rank; unfold dropS; omega, h4, by have := h.few; unfold dropS; omega⟩
theorem count_two {s : List Int} (axes : List Int) (h : OkS s) : countS (dropS s axes) = countS (onesS s axes) := by
  rw [(ones_ok axes h).count, (drop_ok axes h).count]
  exact (prod_two s axes h.pos s.length (Nat.le_refl _)).1
theorem ones_fit {s : List Int} (axes : List Int) (h : OkS s) : fitC (onesS s axes) s = 0 := by
  refine fitC_of (ones_ok axes h) h fun j j1 j2 => ?_
  rw [ones_len] at j2
  refine ⟨by have := back_pos h j1 j2; omega, ?_⟩
  unfold backS
  rw [ones_len, if_neg (by omega), if_neg (by omega), ones_at s axes (by omega)]
  by_cases hm : ((s.length - j : Nat) : Int) ∈ axes
  · rw [if_pos hm]; exact .inl rfl
  · rw [if_neg hm]; exact .inr rfl

/-! sums of numbers times strides -/
theorem inS_drop {s xs : List Int} (h : inS s xs) (k : Nat) : inS (s.drop k) (xs.drop k) := by
  have hl := inS_length h
  refine inS_of (by rw [List.length_drop, List.length_drop, hl]) fun i hi => ?_
  rw [List.length_drop] at hi
  have := inS_at h (i := k + i) (by omega)
  rw [List.getD_eq_getElem?_getD, List.getD_eq_getElem?_getD, List.getElem?_drop, List.getElem?_drop, ← List.getD_eq_getElem?_getD, ← List.getD_eq_getElem?_getD]
  exact this
theorem sum_range {s xs : List Int} (h : inS s xs) (ps : posS s) {k : Nat} (hk : k ≤ s.length) : 0 ≤ sumS s xs k ∧ sumS s xs k ≤ placeS s xs := by
  have h1 := sum_place (inS_length h) hk
  have h2 := (place_range (inS_drop h k)).1
  refine ⟨?_, by omega⟩
  clear h1 h2
  induction k with
  | zero => exact Int.le_refl _
  | succ k ih =>
    have h3 := ih (by omega)
    have h4 := (inS_at h (i := k) (by omega)).1
    have h5 := prodS_pos (ps.drop (k + 1))
    have h6 := Int.mul_nonneg h4 (show 0 ≤ prodS (s.drop (k + 1)) by omega)
    simp only [sumS]
    omega
end Go.Proofs.Ythlohkehacnolaa
