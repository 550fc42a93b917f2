/-
  Numbers as bytes of seven bits, the lowest first: mathematics.
-/
import Derived.Test.YtgjoiacgdgbcjaaMath
namespace Go.Proofs.Ytgjoiacgdgbcjaa
set_option linter.unusedVariables false
set_option linter.unusedSimpArgs false

/-- the bytes of a number -/
def encN (n : Nat) : List Int := if h : n < 128 then [(n : Int)] else ((n % 128 + 128 : Nat) : Int) :: encN (n / 128)
termination_by n
decreasing_by omega
theorem encN_small {n : Nat} (h : n < 128) : encN n = [(n : Int)] := by rw [encN, dif_pos h]
theorem encN_big {n : Nat} (h : 128 ≤ n) : encN n = ((n % 128 + 128 : Nat) : Int) :: encN (n / 128) := by rw [encN, dif_neg (by omega)]
theorem encN_pos (n : Nat) : 0 < (encN n).length := by
  by_cases h : n < 128
  · rw [encN_small h]; simp
  · rw [encN_big (by omega)]; simp
theorem encN_bytes (n : Nat) : ∀ x ∈ encN n, 0 ≤ x ∧ x < 256 := by
  induction n using Nat.strongRecOn with
  | _ n ih =>
    intro x hx
    by_cases h : n < 128
    · rw [encN_small h] at hx
      have := List.mem_singleton.1 hx
      omega
    · rw [encN_big (by omega)] at hx
      rcases List.mem_cons.1 hx with e | e
      · omega
      · exact ih _ (by omega) x e
theorem encN_lt (n : Nat) : n < 128 ^ (encN n).length := by
  induction n using Nat.strongRecOn with
  | _ n ih =>
    by_cases h : n < 128
    · rw [encN_small h]; simpa using h
    · rw [encN_big (by omega), List.length_cons, Nat.pow_succ]
      have := ih (n / 128) (by omega)
      omega
theorem encN_ge (n : Nat) (h : 1 < (encN n).length) : 128 ^ ((encN n).length - 1) ≤ n := by
  induction n using Nat.strongRecOn with
  | _ n ih =>
    by_cases h1 : n < 128
    · rw [encN_small h1] at h; simp at h
    · rw [encN_big (by omega), List.length_cons, Nat.add_sub_cancel]
      by_cases h2 : 1 < (encN (n / 128)).length
      · have := ih (n / 128) (by omega) h2
        obtain ⟨k, hk⟩ : ∃ k, (encN (n / 128)).length = k + 1 := ⟨_, (Nat.sub_add_cancel (by omega)).symm⟩
        rw [hk, Nat.add_sub_cancel] at this
        rw [hk, Nat.pow_succ]
        omega
      · have h3 := encN_pos (n / 128)
        have h4 : (encN (n / 128)).length = 1 := by omega
        rw [h4]
        omega
/-- at most k bytes below 128 to the k -/
theorem encN_le {n k : Nat} (h : n < 128 ^ k) (hk : 0 < k) : (encN n).length ≤ k := by
  rcases Nat.lt_or_ge k (encN n).length with g | g
  · have h1 := encN_ge n (by omega)
    have h2 : 128 ^ k ≤ 128 ^ ((encN n).length - 1) := Nat.pow_le_pow_right (by decide) (by omega)
    omega
  · exact g
theorem encN_ten {n : Nat} (h : n < 18446744073709551616) : (encN n).length ≤ 10 := encN_le (k := 10) (Nat.lt_of_lt_of_le h (by decide)) (by decide)

/-- the number of bytes -/
def valB : List Int → Int
  | [] => 0
  | x :: xs => x % 128 + 128 * valB xs
theorem valB_enc (n : Nat) : valB (encN n) = (n : Int) := by
  induction n using Nat.strongRecOn with
  | _ n ih =>
    by_cases h : n < 128
    · rw [encN_small h]; simp only [valB]; omega
    · rw [encN_big (by omega)]
      simp only [valB]
      rw [ih _ (by omega)]
      omega
/-- how many bytes from 128 on stand in front -/
def lead : List Int → Nat
  | [] => 0
  | x :: xs => if 128 ≤ x then lead xs + 1 else 0
theorem lead_le (l : List Int) : lead l ≤ l.length := by
  induction l with
  | nil => simp [lead]
  | cons x xs ih => unfold lead; split <;> simp <;> omega
theorem lead_enc (n : Nat) (r : List Int) : lead (encN n ++ r) = (encN n).length - 1 := by
  induction n using Nat.strongRecOn with
  | _ n ih =>
    by_cases h : n < 128
    · rw [encN_small h, List.cons_append]
      unfold lead
      rw [if_neg (by omega)]
      simp
    · rw [encN_big (by omega), List.cons_append]
      unfold lead
      rw [if_pos (by omega), ih _ (by omega), List.length_cons]
      have := encN_pos (n / 128)
      omega
theorem lead_at {l : List Int} {i : Nat} (h : i < lead l) : ∃ x, l[i]? = some x ∧ 128 ≤ x := by
  induction l generalizing i with
  | nil => simp [lead] at h
  | cons x xs ih =>
    unfold lead at h
    split at h
    · next hx =>
      cases i with
      | zero => exact ⟨x, rfl, hx⟩
      | succ i => obtain ⟨y, h1, h2⟩ := ih (i := i) (by omega); exact ⟨y, by simpa using h1, h2⟩
    · omega
theorem lead_stop {l : List Int} {x : Int} (h : l[lead l]? = some x) : x < 128 := by
  induction l with
  | nil => simp [lead] at h
  | cons y xs ih =>
    unfold lead at h
    split at h
    · exact ih (by simpa using h)
    · next hy => have e : y = x := by simpa using h
                 omega
/-- bytes that end below 128, the last one not 0 if there are several: the bytes of their number -/
theorem enc_of {l : List Int} {x : Int} (hb : ∀ y ∈ l, 0 ≤ y ∧ y < 256) (hx : l[lead l]? = some x) (hz : x ≠ 0 ∨ lead l = 0) : encN (valB (l.take (lead l + 1))).toNat = l.take (lead l + 1) ∧ (1 < lead l + 1 → 1 ≤ valB (l.take (lead l + 1))) ∧ 0 ≤ valB (l.take (lead l + 1)) := by
  induction l with
  | nil => simp [lead] at hx
  | cons y xs ih =>
    have hy := hb y (by simp)
    unfold lead at hx hz ⊢
    by_cases h : 128 ≤ y
    · rw [if_pos h] at hx hz ⊢
      have hx' : xs[lead xs]? = some x := by simpa using hx
      have hne : x ≠ 0 := by
        rcases hz with h5 | h5
        · exact h5
        · omega
      obtain ⟨h1, h2, h3⟩ := ih (fun z hz => hb z (by simp [hz])) hx' (.inl hne)
      rw [List.take_succ_cons]
      simp only [valB]
      have hpos : 1 ≤ valB (xs.take (lead xs + 1)) := by
        by_cases h0 : 1 < lead xs + 1
        · exact h2 h0
        · have e0 : lead xs = 0 := by omega
          rw [e0] at hx' ⊢
          obtain ⟨z, zs, rfl⟩ : ∃ z zs, xs = z :: zs := by
            cases xs with
            | nil => simp at hx'
            | cons z zs => exact ⟨z, zs, rfl⟩
          have e1 : z = x := by simpa using hx'
          have e2 : z < 128 := lead_stop (l := z :: zs) (by rw [e0]; rfl)
          have e3 := hb z (by simp)
          simp [valB]
          omega
      generalize hv : valB (xs.take (lead xs + 1)) = v at *
      refine ⟨?_, fun _ => by omega, by omega⟩
      rw [encN_big (by omega)]
      have e1 : (y % 128 + 128 * v).toNat % 128 = (y % 128).toNat := by omega
      have e2 : (y % 128 + 128 * v).toNat / 128 = v.toNat := by omega
      rw [e1, e2, h1]
      congr 1
      omega
    · rw [if_neg h] at hx hz ⊢
      have e : y = x := by simpa using hx
      simp only [Nat.zero_add, List.take_succ_cons, List.take_zero, valB]
      refine ⟨?_, by omega, by omega⟩
      rw [encN_small (by omega)]
      congr 1
      omega

/-- why no number stands in front: 0, or an error; and which one does -/
def getC (l : List Int) : Int :=
  if 10 ≤ lead l then 4 else if l.length ≤ lead l then 3 else if (l.getD (lead l) 0 = 0 ∧ 0 < lead l) ∨ (lead l = 9 ∧ 1 < l.getD (lead l) 0) then 4 else 0
def getV (l : List Int) : Int := valB (l.take (lead l + 1))
theorem take_enc (n : Nat) (r : List Int) : (encN n ++ r).take ((encN n).length - 1 + 1) = encN n := by
  rw [Nat.sub_add_cancel (encN_pos n), List.take_left']
  rfl
theorem enc_last (n : Nat) : ∃ x, (encN n)[(encN n).length - 1]? = some x ∧ (1 < (encN n).length → x ≠ 0) ∧ (n : Int) < (x + 1) * 128 ^ ((encN n).length - 1) ∧ x * 128 ^ ((encN n).length - 1) ≤ (n : Int) := by
  induction n using Nat.strongRecOn with
  | _ n ih =>
    by_cases h : n < 128
    · rw [encN_small h]
      exact ⟨n, rfl, by simp, by simp; omega, by simp⟩
    · rw [encN_big (by omega), List.length_cons, Nat.add_sub_cancel]
      obtain ⟨x, h1, h2, h3, h4⟩ := ih (n / 128) (by omega)
      obtain ⟨k, hk⟩ : ∃ k, (encN (n / 128)).length = k + 1 := ⟨_, (Nat.sub_add_cancel (encN_pos _)).symm⟩
      rw [hk] at h1 h2 h3 h4 ⊢
      rw [Nat.add_sub_cancel] at h1 h3 h4
      refine ⟨x, by simpa using h1, fun _ => ?_, ?_, ?_⟩
      · intro e
        subst e
        by_cases h5 : 1 < k + 1
        · exact h2 h5 rfl
        · have h6 : k = 0 := by omega
          subst h6
          simp at h3
          omega
      · rw [Int.pow_succ, ← Int.mul_assoc]
        generalize (x + 1) * 128 ^ k = q at *
        omega
      · rw [Int.pow_succ, ← Int.mul_assoc]
        generalize x * 128 ^ k = q at *
        omega
theorem get_enc {n : Nat} (h : n < 18446744073709551616) (r : List Int) : getC (encN n ++ r) = 0 ∧ getV (encN n ++ r) = (n : Int) ∧ lead (encN n ++ r) = (encN n).length - 1 := by
  have hl := lead_enc n r
  have hp := encN_pos n
  have ht := encN_ten h
  have hb := encN_bytes n
  obtain ⟨x, h1, h2, h3, h4⟩ := enc_last n
  have hx : (encN n ++ r).getD ((encN n).length - 1) 0 = x := by
    rw [List.getD_eq_getElem?_getD, List.getElem?_append_left (by omega), h1]; rfl
  refine ⟨?_, ?_, hl⟩
  · unfold getC
    rw [hl, if_neg (by omega), if_neg (by rw [List.length_append]; omega), hx, if_neg]
    rintro (⟨a, b⟩ | ⟨a, b⟩)
    · exact h2 (by omega) a
    · rw [a] at h4
      have h5 : 2 * (128 : Int) ^ 9 ≤ x * 128 ^ 9 := Int.mul_le_mul_of_nonneg_right (by omega) (by decide)
      have h6 : (2 : Int) * 128 ^ 9 = 18446744073709551616 := by decide
      omega
  · unfold getV
    rw [hl, take_enc, valB_enc]
theorem pow128_le {a b : Nat} (h : a ≤ b) : (128 : Int) ^ a ≤ 128 ^ b := by
  have h1 : (128 : Nat) ^ a ≤ 128 ^ b := Nat.pow_le_pow_right (by decide) h
  have h2 : (((128 : Nat) ^ a : Nat) : Int) ≤ (((128 : Nat) ^ b : Nat) : Int) := Int.ofNat_le.2 h1
  rwa [Int.natCast_pow, Int.natCast_pow] at h2
theorem valB_nonneg (l : List Int) : 0 ≤ valB l := by
  induction l with
  | nil => simp [valB]
  | cons x xs ih => simp only [valB]; omega
theorem valB_lt (l : List Int) : valB l < 128 ^ l.length := by
  induction l with
  | nil => simp [valB]
  | cons x xs ih =>
    simp only [valB, List.length_cons, Int.pow_succ]
    generalize (128 : Int) ^ xs.length = q at *
    omega
theorem valB_snoc (l : List Int) (x : Int) : valB (l ++ [x]) = valB l + 128 ^ l.length * (x % 128) := by
  induction l with
  | nil => simp [valB]
  | cons y ys ih =>
    simp only [List.cons_append, valB, ih, List.length_cons, Int.pow_succ]
    rw [Int.mul_add, ← Int.mul_assoc, Int.mul_comm (128 ^ ys.length) 128]
    omega
theorem enc_get {l : List Int} (hb : ∀ y ∈ l, 0 ≤ y ∧ y < 256) (h : getC l = 0) : encN (getV l).toNat = l.take (lead l + 1) ∧ 0 ≤ getV l ∧ getV l < 18446744073709551616 ∧ lead l < l.length ∧ lead l ≤ 9 := by
  unfold getC at h
  split at h
  · cases h
  · next h1 =>
    split at h
    · cases h
    · next h2 =>
      split at h
      · cases h
      · next h3 =>
        have hlt : lead l < l.length := by omega
        have hx : l[lead l]? = some (l.getD (lead l) 0) := by rw [List.getD_eq_getElem?_getD, List.getElem?_eq_getElem hlt]; rfl
        obtain ⟨a, b, c⟩ := enc_of hb hx (by
          by_cases h0 : l.getD (lead l) 0 = 0
          · exact .inr (by
              rcases Nat.eq_zero_or_pos (lead l) with g | g
              · exact g
              · exact absurd (.inl ⟨h0, g⟩) h3)
          · exact .inl h0)
        refine ⟨a, c, ?_, hlt, by omega⟩
        unfold getV
        have hlen : (l.take (lead l)).length = lead l := by rw [List.length_take]; omega
        have hsnoc : l.take (lead l + 1) = l.take (lead l) ++ [l.getD (lead l) 0] := by rw [List.take_add_one, hx]; rfl
        rw [hsnoc, valB_snoc, hlen]
        have hv := valB_lt (l.take (lead l))
        rw [hlen] at hv
        have hs := lead_stop hx
        have hm : (l.getD (lead l) 0) ∈ l := List.mem_of_getElem? hx
        have hbb := hb _ hm
        by_cases h9 : lead l = 9
        · have h5 : ¬ 1 < l.getD (lead l) 0 := fun g => h3 (.inr ⟨h9, g⟩)
          rw [h9] at hv h5 hs hbb ⊢
          generalize l.getD 9 0 = x at *
          have h6 : x = 0 ∨ x = 1 := by omega
          have h7 : (128 : Int) ^ 9 = 9223372036854775808 := by decide
          rw [h7] at hv ⊢
          rcases h6 with rfl | rfl <;> omega
        · have h8 : (128 : Int) ^ lead l ≤ 128 ^ 8 := pow128_le (by omega)
          have h7 : (128 : Int) ^ 8 = 72057594037927936 := by decide
          rw [h7] at h8
          generalize (128 : Int) ^ lead l = q at *
          generalize l.getD (lead l) 0 = x at *
          have h10 : x % 128 ≤ 127 := by omega
          have h11 : 0 ≤ x % 128 := by omega
          generalize x % 128 = y at *
          have hq : 0 ≤ q := by have := valB_nonneg (l.take (lead l)); omega
          have h12 : q * y ≤ q * 127 := Int.mul_le_mul_of_nonneg_left h10 hq
          omega
/-- with a sign -/
def zig (k : Int) : Int := if k < 0 then 2 * (-(k + 1)) + 1 else 2 * k
def zag (n : Int) : Int := if n % 2 = 1 then -(n / 2) - 1 else n / 2
theorem zag_zig (k : Int) : zag (zig k) = k := by unfold zag zig; split <;> split <;> omega
theorem zig_zag (n : Int) (h : 0 ≤ n) : zig (zag n) = n := by unfold zag zig; split <;> split <;> omega
end Go.Proofs.Ytgjoiacgdgbcjaa
