/-
  Decimal digits as bytes: mathematics.
-/
import Derived.Test.YtokinmmnoiacdaaB5
namespace Go.Proofs.Ytokinmmnoiacdaa
set_option linter.unusedVariables false
set_option linter.unusedSimpArgs false

/-- the byte of a digit -/
def dig (d : Nat) : UInt8 := UInt8.ofNat (48 + d)
theorem dig_toNat {d : Nat} (h : d < 10) : (dig d).toNat = 48 + d := by
  unfold dig; rw [UInt8.toNat_ofNat']; omega
def isDig (c : UInt8) : Bool := decide (48 ≤ c.toNat) && decide (c.toNat ≤ 57)
theorem isDig_iff (c : UInt8) : isDig c = true ↔ 48 ≤ c.toNat ∧ c.toNat ≤ 57 := by unfold isDig; simp
theorem dig_isDig {d : Nat} (h : d < 10) : isDig (dig d) = true := by rw [isDig_iff, dig_toNat h]; omega
theorem isDig_dig {c : UInt8} (h : isDig c = true) : dig (c.toNat - 48) = c := by
  rw [isDig_iff] at h
  apply UInt8.toNat_inj.1
  rw [dig_toNat (by omega)]; omega
/-- the number of a row of digits -/
def numL (l : List UInt8) : Nat := l.foldl (fun a c => a * 10 + (c.toNat - 48)) 0
theorem numL_nil : numL [] = 0 := rfl
theorem numL_snoc (l : List UInt8) (c : UInt8) : numL (l ++ [c]) = numL l * 10 + (c.toNat - 48) := by unfold numL; rw [List.foldl_append]; rfl
theorem snoc_cases (l : List UInt8) : l = [] ∨ ∃ k c, l = k ++ [c] := by
  rcases l.eq_nil_or_concat with h | ⟨k, c, h⟩
  · exact .inl h
  · exact .inr ⟨k, c, by rw [h, List.concat_eq_append]⟩
theorem snoc_ind {P : List UInt8 → Prop} (h0 : P []) (h1 : ∀ l c, P l → P (l ++ [c])) (l : List UInt8) : P l := by
  have : ∀ n (l : List UInt8), l.length = n → P l := by
    intro n
    induction n with
    | zero => intro l h; rw [List.eq_nil_of_length_eq_zero h]; exact h0
    | succ n ih =>
      intro l h
      rcases snoc_cases l with rfl | ⟨k, c, rfl⟩
      · simp at h
      · exact h1 k c (ih k (by simpa using h))
  exact this _ l rfl
theorem numL_append (a b : List UInt8) : numL (a ++ b) = numL a * 10 ^ b.length + numL b := by
  induction b using snoc_ind with
  | h0 => simp [numL_nil]
  | h1 l c ih =>
    rw [← List.append_assoc, numL_snoc, numL_snoc, ih, List.length_append, List.length_singleton, Nat.pow_succ]
    have : numL a * (10 ^ l.length * 10) = numL a * 10 ^ l.length * 10 := (Nat.mul_assoc _ _ _).symm
    omega
theorem numL_one (c : UInt8) : numL [c] = c.toNat - 48 := by unfold numL; simp
theorem numL_cons (c : UInt8) (l : List UInt8) : numL (c :: l) = (c.toNat - 48) * 10 ^ l.length + numL l := by
  have := numL_append [c] l
  rw [numL_one] at this
  exact this
def digs (l : List UInt8) : Bool := l.all isDig
theorem digs_append (a b : List UInt8) : digs (a ++ b) = (digs a && digs b) := by unfold digs; rw [List.all_append]
theorem digs_cons (c : UInt8) (l : List UInt8) : digs (c :: l) = (isDig c && digs l) := by unfold digs; rw [List.all_cons]
theorem numL_lt {l : List UInt8} (h : digs l = true) : numL l < 10 ^ l.length := by
  induction l using snoc_ind with
  | h0 => simp [numL_nil]
  | h1 l c ih =>
    rw [digs_append, Bool.and_eq_true] at h
    have h1 := ih h.1
    have h2 := h.2
    rw [digs_cons, Bool.and_eq_true, isDig_iff] at h2
    rw [numL_snoc, List.length_append, List.length_singleton, Nat.pow_succ]
    omega

/-- the decimal digits of a natural number -/
def dec (n : Nat) : List UInt8 := if h : n < 10 then [dig n] else dec (n / 10) ++ [dig (n % 10)]
termination_by n
decreasing_by omega
theorem dec_small {n : Nat} (h : n < 10) : dec n = [dig n] := by rw [dec, dif_pos h]
theorem dec_big {n : Nat} (h : 10 ≤ n) : dec n = dec (n / 10) ++ [dig (n % 10)] := by rw [dec, dif_neg (by omega)]
theorem dec_snoc {n d : Nat} (hn : 0 < n) (hd : d < 10) : dec (n * 10 + d) = dec n ++ [dig d] := by
  rw [dec_big (by omega)]
  have e1 : (n * 10 + d) / 10 = n := by omega
  have e2 : (n * 10 + d) % 10 = d := by omega
  rw [e1, e2]
theorem dec_num (n : Nat) : numL (dec n) = n := by
  induction n using Nat.strongRecOn with
  | _ n ih =>
    by_cases h : n < 10
    · rw [dec_small h, numL_one, dig_toNat h]; omega
    · rw [dec_big (by omega), numL_snoc, ih _ (by omega), dig_toNat (by omega)]; omega
theorem dec_digs (n : Nat) : digs (dec n) = true := by
  induction n using Nat.strongRecOn with
  | _ n ih =>
    by_cases h : n < 10
    · rw [dec_small h, digs_cons, dig_isDig h]; rfl
    · rw [dec_big (by omega), digs_append, ih _ (by omega), digs_cons, dig_isDig (by omega)]; rfl
theorem dec_ne (n : Nat) : dec n ≠ [] := by
  by_cases h : n < 10
  · rw [dec_small h]; simp
  · rw [dec_big (by omega)]; simp
theorem dec_inj {a b : Nat} (h : dec a = dec b) : a = b := by rw [← dec_num a, h, dec_num]
theorem dig_zero : dig 0 = 48 := rfl
theorem dec_zero : dec 0 = [48] := dec_small (by omega)
theorem dec_head (n : Nat) (h : n ≠ 0) : (dec n).head? ≠ some 48 := by
  induction n using Nat.strongRecOn with
  | _ n ih =>
    by_cases h1 : n < 10
    · rw [dec_small h1]
      intro e
      have e2 : dig n = 48 := by simpa using e
      have := congrArg UInt8.toNat e2
      rw [dig_toNat h1] at this
      simp at this
      omega
    · rw [dec_big (by omega)]
      rcases hd : dec (n / 10) with _ | ⟨c, l⟩
      · exact absurd hd (dec_ne _)
      · have := ih (n / 10) (by omega) (by omega)
        rw [hd] at this
        simpa using this
/-- are these a natural number's digits? -/
def natB (l : List UInt8) : Bool := digs l && !l.isEmpty && (!(l.head? == some 48) || l.length == 1)
theorem natB_iff (l : List UInt8) : natB l = true ↔ digs l = true ∧ l ≠ [] ∧ (l.head? = some 48 → l.length = 1) := by
  unfold natB
  rw [Bool.and_eq_true, Bool.and_eq_true, Bool.or_eq_true, Bool.not_eq_true', Bool.not_eq_true', beq_iff_eq, List.isEmpty_eq_false_iff]
  refine ⟨fun ⟨⟨a, b⟩, c⟩ => ⟨a, b, fun e => ?_⟩, fun ⟨a, b, c⟩ => ⟨⟨a, b⟩, ?_⟩⟩
  · rcases c with c | c
    · rw [e] at c; simp at c
    · exact c
  · by_cases e : l.head? = some 48
    · exact .inr (c e)
    · exact .inl (by simpa using e)
theorem natB_dec (n : Nat) : natB (dec n) = true := by
  rw [natB_iff]
  refine ⟨dec_digs n, dec_ne n, fun h => ?_⟩
  by_cases e : n = 0
  · subst e; rw [dec_zero]; rfl
  · exact absurd h (dec_head n e)
theorem dec_of_natB {l : List UInt8} (h : natB l = true) : dec (numL l) = l := by
  induction l using snoc_ind with
  | h0 => rw [natB_iff] at h; exact absurd rfl h.2.1
  | h1 l c ih =>
    rw [natB_iff, digs_append, Bool.and_eq_true, digs_cons, Bool.and_eq_true] at h
    obtain ⟨⟨h1, h2, _⟩, _, h3⟩ := h
    have hc := (isDig_iff c).1 h2
    rcases hl : l with _ | ⟨b, k⟩
    · rw [List.nil_append, numL_one, dec_small (by omega), isDig_dig h2]
    · have hb : l.head? ≠ some 48 := by
        intro e
        have := h3 (by rw [hl] at e ⊢; simpa using e)
        rw [hl] at this
        simp at this
      have hi := ih ((natB_iff l).2 ⟨h1, by rw [hl]; simp, fun e => absurd e hb⟩)
      have h0 : 0 < numL l := by
        rcases Nat.eq_zero_or_pos (numL l) with e | e
        · rw [e, dec_zero] at hi
          rw [← hi] at hb
          exact absurd rfl hb
        · exact e
      rw [← hl, numL_snoc, dec_snoc h0 (by omega), hi, isDig_dig h2]
theorem dec_lt (n : Nat) : n < 10 ^ (dec n).length := by
  have := numL_lt (dec_digs n)
  rwa [dec_num] at this
theorem dec_ge (n : Nat) (h : n ≠ 0) : 10 ^ ((dec n).length - 1) ≤ n := by
  induction n using Nat.strongRecOn with
  | _ n ih =>
    by_cases h1 : n < 10
    · rw [dec_small h1]; simp; omega
    · rw [dec_big (by omega), List.length_append, List.length_singleton, Nat.add_sub_cancel]
      have := ih (n / 10) (by omega) (by omega)
      have hl : 1 ≤ (dec (n / 10)).length := List.length_pos_iff.2 (dec_ne _)
      obtain ⟨k, hk⟩ : ∃ k, (dec (n / 10)).length = k + 1 := ⟨_, (Nat.sub_add_cancel hl).symm⟩
      rw [hk, Nat.add_sub_cancel] at this
      rw [hk, Nat.pow_succ]
      omega
/-- noughts in front away -/
theorem drop_noughts {l : List UInt8} (h : digs l = true) (h0 : numL l ≠ 0) : ∃ k, k < l.length ∧ (∀ i, i < k → l[i]? = some 48) ∧ l[k]? ≠ some 48 ∧ l.drop k = dec (numL l) := by
  induction l with
  | nil => exact absurd numL_nil h0
  | cons c l ih =>
    rw [digs_cons, Bool.and_eq_true] at h
    obtain ⟨h1, h2⟩ := h
    by_cases hc : c = 48
    · subst hc
      have e : numL (48 :: l) = numL l := by rw [numL_cons]; simp
      rw [e] at h0 ⊢
      obtain ⟨k, a, b, d, f⟩ := ih h2 h0
      refine ⟨k + 1, by simpa using a, fun i hi => ?_, by simpa using d, by simpa using f⟩
      cases i with
      | zero => rfl
      | succ i => simpa using b i (by omega)
    · refine ⟨0, by simp, fun i hi => absurd hi (by omega), by simpa using hc, ?_⟩
      rw [List.drop_zero]
      exact (dec_of_natB ((natB_iff _).2 ⟨by rw [digs_cons, h1, h2]; rfl, by simp, fun e => absurd (by simpa using e) hc⟩)).symm
/-- k digits of a number, with all noughts -/
def pad : Nat → Nat → List UInt8
  | 0, _ => []
  | k + 1, n => pad k (n / 10) ++ [dig (n % 10)]
theorem pad_length (k n : Nat) : (pad k n).length = k := by
  induction k generalizing n with
  | zero => rfl
  | succ k ih => rw [pad, List.length_append, ih]; rfl
theorem pad_digs (k n : Nat) : digs (pad k n) = true := by
  induction k generalizing n with
  | zero => rfl
  | succ k ih => rw [pad, digs_append, ih, digs_cons, dig_isDig (by omega)]; rfl
theorem pad_num (k n : Nat) (h : n < 10 ^ k) : numL (pad k n) = n := by
  induction k generalizing n with
  | zero => simp at h; subst h; rfl
  | succ k ih =>
    rw [Nat.pow_succ] at h
    rw [pad, numL_snoc, ih _ (by omega), dig_toNat (by omega)]
    omega
theorem pad4 (n : Nat) : pad 4 n = [dig (n / 1000 % 10), dig (n / 100 % 10), dig (n / 10 % 10), dig (n % 10)] := by
  simp only [pad, List.nil_append, List.cons_append, Nat.div_div_eq_div_mul]

/-! bytes, as texts are compared -/
theorem numL_less : ∀ (a b : List UInt8), digs a = true → digs b = true → a.length = b.length → (numL a < numL b ↔ Op.bytesLess a b = true)
  | [], [], _, _, _ => by simp [Op.bytesLess, numL_nil]
  | [], d :: y, _, _, h => by simp at h
  | c :: x, [], _, _, h => by simp at h
  | c :: x, d :: y, ha, hb, h => by
    rw [digs_cons, Bool.and_eq_true, isDig_iff] at ha hb
    have hl : x.length = y.length := by simpa using h
    have h1 := numL_lt ha.2
    have h2 := numL_lt hb.2
    have ih := numL_less x y ha.2 hb.2 hl
    rw [numL_cons, numL_cons, hl]
    rw [hl] at h1
    have hP : 0 < 10 ^ y.length := Nat.pow_pos (by omega)
    generalize 10 ^ y.length = P at *
    unfold Op.bytesLess
    rcases Nat.lt_trichotomy c.toNat d.toNat with e | e | e
    · have hlt : c < d := UInt8.lt_iff_toNat_lt.2 e
      have hm : (c.toNat - 48 + 1) * P ≤ (d.toNat - 48) * P := Nat.mul_le_mul_right _ (by omega)
      rw [Nat.add_mul] at hm
      simp [hlt]
      omega
    · have hcd : c = d := UInt8.toNat_inj.1 e
      subst hcd
      simp [← ih, UInt8.lt_irrefl]
    · have hlt : ¬ c < d := by rw [UInt8.lt_iff_toNat_lt]; omega
      have hne : ¬ c = d := by intro e2; rw [e2] at e; omega
      have hm : (d.toNat - 48 + 1) * P ≤ (c.toNat - 48) * P := Nat.mul_le_mul_right _ (by omega)
      rw [Nat.add_mul] at hm
      simp [hlt, hne]
      omega
/-- of two numbers the greater one has more digits, or as many, and then those that come later -/
theorem dec_less (a b : Nat) : a < b ↔ ((dec a).length < (dec b).length ∨ ((dec a).length = (dec b).length ∧ Op.bytesLess (dec a) (dec b) = true)) := by
  have h1 := dec_lt a
  have h2 := dec_lt b
  have key : ∀ {m n : Nat}, (dec m).length < (dec n).length → m < n := by
    intro m n h
    by_cases hn : n = 0
    · subst hn
      rw [dec_zero] at h
      have := List.length_pos_iff.2 (dec_ne m)
      simp at h
      exact absurd h (dec_ne m)
    · exact Nat.lt_of_lt_of_le (Nat.lt_of_lt_of_le (dec_lt m) (Nat.pow_le_pow_right (by omega) (by omega))) (dec_ge n hn)
  refine ⟨fun h => ?_, fun h => ?_⟩
  · rcases Nat.lt_trichotomy (dec a).length (dec b).length with e | e | e
    · exact .inl e
    · exact .inr ⟨e, (numL_less _ _ (dec_digs a) (dec_digs b) e).1 (by rw [dec_num, dec_num]; exact h)⟩
    · have := key e
      omega
  · rcases h with h | ⟨e, h⟩
    · exact key h
    · have := (numL_less _ _ (dec_digs a) (dec_digs b) e).2 h
      rwa [dec_num, dec_num] at this

/-! reading -/
def p2 (k : Nat) : Nat := 2 ^ k
def p10 (k : Nat) : Nat := 10 ^ k
def lim1024 : Nat := p2 1024
theorem p2_mono {a b : Nat} (h : a ≤ b) : p2 a ≤ p2 b := Nat.pow_le_pow_right (by decide) h
theorem p2_p10 (k : Nat) : p2 (3 * k) ≤ p10 k := by unfold p2 p10; rw [Nat.pow_mul]; exact Nat.pow_le_pow_left (by decide) k
theorem p10_p2 (k : Nat) : p10 k ≤ p2 (4 * k) := by unfold p2 p10; rw [Nat.pow_mul]; exact Nat.pow_le_pow_left (by decide) k
theorem p10_le {k m : Nat} (h : k ≤ m) : p10 k ≤ 10 ^ m := Nat.pow_le_pow_right (by decide) h
theorem le_p10 {k m : Nat} (h : m ≤ k) : 10 ^ m ≤ p10 k := Nat.pow_le_pow_right (by decide) h
/-- why a text is no natural number: 0, or an error -/
def codeN (l : List UInt8) : Int := if natB l = true then (if numL l < lim1024 then 0 else 14) else 19
theorem codeN_bad {l : List UInt8} (h : natB l = false) : codeN l = 19 := by unfold codeN; rw [h]; rfl
theorem codeN_ok {l : List UInt8} (h : natB l = true) (h2 : numL l < lim1024) : codeN l = 0 := by unfold codeN; rw [if_pos h, if_pos h2]
theorem codeN_long {l : List UInt8} (h : natB l = true) (h2 : ¬ numL l < lim1024) : codeN l = 14 := by unfold codeN; rw [if_pos h, if_neg h2]
theorem lim_le : lim1024 ≤ p10 400 := Nat.le_trans (p2_mono (a := 1024) (b := 3 * 400) (by decide)) (p2_p10 400)
theorem ten_le : p10 400 ≤ p2 1600 := p10_p2 400
theorem long_digits {l : List UInt8} (h : natB l = true) (hl : 400 < l.length) : ¬ numL l < lim1024 := by
  have e := dec_of_natB h
  have h0 : numL l ≠ 0 := by
    intro h0
    rw [h0, dec_zero] at e
    rw [← e] at hl
    simp at hl
  have h1 := dec_ge _ h0
  rw [e] at h1
  have h2 : p10 400 ≤ 10 ^ (l.length - 1) := p10_le (by omega)
  exact Nat.not_lt.2 (Nat.le_trans lim_le (Nat.le_trans h2 h1))
theorem p2_int (n k : Nat) : n < p2 k ↔ (n : Int) < 2 ^ k := by
  have e : ((p2 k : Nat) : Int) = 2 ^ k := by unfold p2; rw [Int.natCast_pow]; rfl
  rw [← e]
  exact Int.ofNat_lt.symm
/-! texts of rational numbers -/
theorem dec_no {n : Nat} {c : UInt8} (h : isDig c = false) : c ∉ dec n := by
  intro hc
  have := List.all_eq_true.1 (dec_digs n) c hc
  rw [h] at this
  cases this
def ratS (x : Rat) : List UInt8 := (if x.num < 0 then [45] else []) ++ dec x.num.natAbs ++ (if x.den = 1 then [] else 47 :: dec x.den)
theorem ratS_head (x : Rat) : (ratS x).head? = some 45 ↔ x.num < 0 := by
  unfold ratS
  by_cases h : x.num < 0
  · simp [h]
  · rw [if_neg h]
    rcases hd : dec x.num.natAbs with _ | ⟨c, l⟩
    · exact absurd hd (dec_ne _)
    · have hc : c ≠ 45 := by
        rintro rfl
        exact dec_no (c := 45) (n := x.num.natAbs) (by decide) (by rw [hd]; simp)
      simp [hc, h]
/-- what stands ahead of the first stroke -/
def ahead (l : List UInt8) : List UInt8 := l.takeWhile (fun c => c != 47)
def behind (l : List UInt8) : List UInt8 := (l.dropWhile (fun c => c != 47)).drop 1
def hasStroke (l : List UInt8) : Bool := l.any (fun c => c == 47)
theorem ahead_app {a b : List UInt8} (h : 47 ∉ a) : ahead (a ++ 47 :: b) = a ∧ behind (a ++ 47 :: b) = b ∧ hasStroke (a ++ 47 :: b) = true := by
  unfold ahead behind hasStroke
  induction a with
  | nil => simp
  | cons c a ih =>
    have hc : c ≠ 47 := fun e => h (by rw [e]; simp)
    have ha : 47 ∉ a := fun e => h (by simp [e])
    obtain ⟨h1, h2, h3⟩ := ih ha
    simp only [List.cons_append, List.takeWhile_cons, List.dropWhile_cons, List.any_cons]
    simp [hc, h1, h2]
theorem ahead_none {a : List UInt8} (h : 47 ∉ a) : ahead a = a ∧ behind a = [] ∧ hasStroke a = false := by
  unfold ahead behind hasStroke
  induction a with
  | nil => simp
  | cons c a ih =>
    have hc : c ≠ 47 := fun e => h (by rw [e]; simp)
    have ha : 47 ∉ a := fun e => h (by simp [e])
    obtain ⟨h1, h2, h3⟩ := ih ha
    simp only [List.takeWhile_cons, List.dropWhile_cons, List.any_cons]
    simp [hc, h1, h2]
    simpa using h3
/-- without its sign -/
def bare (l : List UInt8) : List UInt8 := if l.head? = some 45 then l.drop 1 else l
theorem bare_ratS (x : Rat) : bare (ratS x) = dec x.num.natAbs ++ (if x.den = 1 then [] else 47 :: dec x.den) := by
  unfold bare
  by_cases h : x.num < 0
  · rw [if_pos ((ratS_head x).2 h)]; unfold ratS; simp [h]
  · rw [if_neg (fun e => h ((ratS_head x).1 e))]; unfold ratS; simp [h]
/-- the two rows of digits of a text -/
def partA (l : List UInt8) : List UInt8 := ahead (bare l)
def partB (l : List UInt8) : List UInt8 := if hasStroke (bare l) = true then behind (bare l) else [49]
def sgnL (l : List UInt8) : Bool := l.head? == some 45
theorem dec_one : dec 1 = [49] := dec_small (by omega)
theorem parts_ratS (x : Rat) : partA (ratS x) = dec x.num.natAbs ∧ partB (ratS x) = dec x.den ∧ sgnL (ratS x) = decide (x.num < 0) := by
  have hn : ∀ n, 47 ∉ dec n := fun n => dec_no (by decide)
  unfold partA partB
  rw [bare_ratS]
  refine ⟨?_, ?_, ?_⟩
  · by_cases h : x.den = 1
    · rw [if_pos h, List.append_nil]; exact (ahead_none (hn _)).1
    · rw [if_neg h]; exact (ahead_app (hn _)).1
  · by_cases h : x.den = 1
    · rw [if_pos h, List.append_nil, (ahead_none (hn _)).2.2, h, dec_one]; rfl
    · rw [if_neg h, (ahead_app (hn _)).2.2, if_pos rfl]; exact (ahead_app (hn _)).2.1
  · unfold sgnL
    rw [Bool.eq_iff_iff, beq_iff_eq, ratS_head, decide_eq_true_iff]
theorem ratS_inj {x y : Rat} (h : ratS x = ratS y) : x = y := by
  obtain ⟨a1, a2, a3⟩ := parts_ratS x
  obtain ⟨b1, b2, b3⟩ := parts_ratS y
  rw [h] at a1 a2 a3
  have e1 := dec_inj (a1.symm.trans b1)
  have e2 := dec_inj (a2.symm.trans b2)
  have e3 : x.num < 0 ↔ y.num < 0 := by
    have := a3.symm.trans b3
    simpa using this
  refine Rat.ext ?_ e2
  omega
/-- the rational number of a text, and why it is none: 0, or an error -/
def valR (l : List UInt8) : Rat := ratOf (sgnL l) (numL (partA l) : Int) (numL (partB l) : Int)
def codeR (l : List UInt8) : Int :=
  if natB (partA l) = true ∧ natB (partB l) = true then (if codeN (partA l) = 0 ∧ codeN (partB l) = 0 then (if ratS (valR l) = l then 0 else 6) else 14) else 19
theorem codeR_bad {l : List UInt8} (h : natB (partA l) = false ∨ natB (partB l) = false) : codeR l = 19 := by
  unfold codeR; rw [if_neg]; rintro ⟨a, b⟩; rcases h with h | h <;> simp_all
theorem codeR_long {l : List UInt8} (h1 : natB (partA l) = true) (h2 : natB (partB l) = true) (h : codeN (partA l) ≠ 0 ∨ codeN (partB l) ≠ 0) : codeR l = 14 := by
  unfold codeR; rw [if_pos ⟨h1, h2⟩, if_neg]; rintro ⟨a, b⟩; rcases h with h | h <;> exact h (by assumption)
theorem codeR_other {l : List UInt8} (h1 : natB (partA l) = true) (h2 : natB (partB l) = true) (h3 : codeN (partA l) = 0) (h4 : codeN (partB l) = 0) (h : ratS (valR l) ≠ l) : codeR l = 6 := by
  unfold codeR; rw [if_pos ⟨h1, h2⟩, if_pos ⟨h3, h4⟩, if_neg h]
theorem codeR_ok {l : List UInt8} (h1 : natB (partA l) = true) (h2 : natB (partB l) = true) (h3 : codeN (partA l) = 0) (h4 : codeN (partB l) = 0) (h : ratS (valR l) = l) : codeR l = 0 := by
  unfold codeR; rw [if_pos ⟨h1, h2⟩, if_pos ⟨h3, h4⟩, if_pos h]
theorem sgnL_nil : sgnL [] = false := rfl
theorem sgnL_cons (c : UInt8) (r : List UInt8) : sgnL (c :: r) = (c == 45) := by unfold sgnL; simp
theorem bare_pos {l : List UInt8} (h : sgnL l = true) : bare l = l.drop 1 := by unfold bare; unfold sgnL at h; rw [if_pos (by simpa using h)]
theorem bare_neg {l : List UInt8} (h : sgnL l = false) : bare l = l := by unfold bare; unfold sgnL at h; rw [if_neg (by simpa using h)]
theorem bare_length (l : List UInt8) : (bare l).length ≤ l.length := by unfold bare; split <;> simp
theorem ahead_length (l : List UInt8) : (ahead l).length ≤ l.length := by unfold ahead; exact (List.takeWhile_sublist _).length_le
theorem behind_length (l : List UInt8) : (behind l).length ≤ l.length := by
  unfold behind
  rw [List.length_drop]
  have := (List.dropWhile_sublist (l := l) (fun c => c != 47)).length_le
  omega
theorem codeN_cases {l : List UInt8} (h : natB l = true) : codeN l = 0 ∨ codeN l = 14 := by
  unfold codeN; rw [if_pos h]; split <;> simp
end Go.Proofs.Ytokinmmnoiacdaa
