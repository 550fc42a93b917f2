/-
  Contracts of the leaves of package nat.
-/
import Derived.Test.YteinfanfhgpciaaMath
import Derived.Test.YteinfanfhgpciaaRows
import Derived.WalkKit
import Derived.BigQuiet
import Derived.Deep.QuietTactic
import Derived.Lib.Hide
namespace Go.Proofs.Yteinfanfhgpciaa
open Go.RowKit

/-- the limbs xs lie from the address ad on -/
def Lim (w : World) (ad : Option Addr) (xs : List Int) : Prop :=
  xs = [] ∨ ∃ b off, ad = some ⟨b, off, none⟩ ∧ ∀ i, i < xs.length → w.cell? ⟨b, off + i, none⟩ = some (.int .u32 (xs.getD i 0))

set_option maxHeartbeats 400000 in
theorem at_any (ad : Option Addr) (xs : List Int) (cap : Nat) (i : Int) (w : World) (hl : Lim w ad xs) (hm : xs.length ≤ maxLen) (hi : 0 ≤ i) :
    Calls Try.prog 47 #[.slice ad xs.length cap, .int .i64 i] w fun e w' => e = .returned (.int .u32 (xs.getD i.toNat 0)) ∧ w = w' := by
  unfold maxLen at hm
  obtain ⟨k, rfl⟩ := Int.eq_ofNat_of_zero_le hi
  by_cases hk : k < xs.length
  · rcases hl with rfl | ⟨b, off, rfl, hc⟩
    · simp at hk
    · have hck := hc k hk
      clear hc
      go_enter Try.func47, Try.ntmps47
      go_wp2
      go_ret
      refine ⟨?_, rfl⟩
      simp [hk]
  · go_enter Try.func47, Try.ntmps47
    go_wp2
    go_ret
    refine ⟨?_, rfl⟩
    simp [List.getElem?_eq_none (Nat.le_of_not_lt hk)]

/-- the same, the limb under a name -/
theorem at_nat (ad : Option Addr) (xs : List Int) (cap : Nat) (k : Nat) (x : Int) (w : World) (hl : Lim w ad xs) (hm : xs.length ≤ maxLen) (hx : xs.getD k 0 = x) :
    Calls Try.prog 47 #[.slice ad xs.length cap, .int .i64 k] w fun e w' => e = .returned (.int .u32 x) ∧ w = w' := by
  have h := at_any ad xs cap k w hl hm (by omega)
  rw [Int.toNat_natCast, hx] at h
  exact h

set_option maxHeartbeats 400000 in
theorem cut_any (ad : Option Addr) (xs : List Int) (cap : Nat) (w : World) (hl : Lim w ad xs) (hm : xs.length ≤ maxLen) (hcap : xs.length ≤ cap) :
    Calls Try.prog 38 #[.slice ad xs.length cap] w fun e w' => e = .returned (.slice ad (trimN xs xs.length) cap) ∧ w = w' := by
  unfold maxLen at hm
  go_enter Try.func38, Try.ntmps38
  go_wp2
  go_loop [3] (fun n => ∃ j : Nat, j ≤ xs.length ∧ n = .int .i64 j ∧ trimN xs j = trimN xs xs.length) (fun n => (intOf n).toNat)
  case atStart => exact ⟨xs.length, Nat.le_refl _, rfl, rfl⟩
  case round =>
    obtain ⟨j, hj, rfl, ht⟩ := hrel
    have HT := Lib.hid ht
    clear ht
    rcases j with _ | m
    · have h0 : trimN xs xs.length = 0 := HT.out.symm
      go_wp2
      go_ret
      exact ⟨rfl, rfl⟩
    · rcases hl with rfl | ⟨b, off, rfl, hc⟩
      · simp at hj
      · have hck := hc m (by omega)
        clear hc
        go_wp2
        · have hz : xs.getD m 0 = 0 := by
            have h : (xs[m]?.getD 0 == 0) = true := by assumption
            simpa using h
          go_round
          case rel => exact ⟨m, by omega, by go_num, by rw [← HT.out]; simp only [trimN]; rw [if_pos hz]⟩
          case measure => simp [intOf]
        · have hz : xs.getD m 0 ≠ 0 := by
            have h : (xs[m]?.getD 0 == 0) = false := by assumption
            simpa using h
          have ht : trimN xs xs.length = m + 1 := by rw [← HT.out]; simp only [trimN]; rw [if_neg hz]
          go_ret
          exact ⟨by rw [ht]; simp, rfl⟩

set_option maxHeartbeats 400000 in
/-- the two limbs from i on, as one number -/
theorem pair_any (ad : Option Addr) (xs : List Int) (cap : Nat) (i : Int) (w : World) (hl : Lim w ad xs) (hm : xs.length ≤ maxLen) (hi : 0 ≤ i) (hi2 : i ≤ 4611686018427387904) (hw : Wf xs) :
    Calls Try.prog 39 #[.slice ad xs.length cap, .int .i64 i] w fun e w' =>
      e = .returned (.int .u64 (4294967296 * xs.getD (i.toNat + 1) 0 + xs.getD i.toNat 0)) ∧ w = w' := by
  obtain ⟨k, rfl⟩ := Int.eq_ofNat_of_zero_le hi
  have b1 := hw.getD (k + 1)
  have b0 := hw.getD k
  go_enter Try.func39, Try.ntmps39
  go_wp2_with fail
  refine (at_any ad xs cap _ _ hl hm (by omega)).mono ?_
  rintro e w' ⟨rfl, rfl⟩
  go_wp2_with fail
  refine (at_any ad xs cap _ _ hl hm (by omega)).mono ?_
  rintro e w' ⟨rfl, rfl⟩
  go_wp2
  go_ret
  refine ⟨?_, rfl⟩
  have e1 : xs[k + 1]?.getD 0 = xs.getD (k + 1) 0 := rfl
  have e0 : xs[k]?.getD 0 = xs.getD k 0 := rfl
  simp only [Int.toNat_natCast, e1, e0]
  rw [wrap_u64 (x := xs.getD (k + 1) 0) (by omega) (by omega), wrap_u64 (x := xs.getD k 0) (by omega) (by omega), wrap_u64 (by omega) (by omega), or_u64 b1 b0]
  rfl

set_option maxHeartbeats 400000 in
theorem split_any (n : Int) (w : World) (hn : -9223372036854775808 ≤ n) (hn2 : n ≤ 9223372036854775807) :
    Calls Try.prog 51 #[.int .i64 n] w fun e w' =>
      e = .returned (.tuple #[.int .i64 ((max n 0) / 32), .int .i64 ((max n 0) % 32)]) ∧ w = w' := by
  go_enter Try.func51, Try.ntmps51
  go_wp2
  all_goals go_ret2
  all_goals refine ⟨?_, rfl⟩
  · rw [show max n 0 = 0 from by omega]; rfl
  · rw [show max n 0 = n from by omega]; rfl

/-! ## the carrier: a closure that keeps the carry in a cell -/

theorem carrier_any (c : Int) (w : World) :
    Calls Try.prog 46 #[.int .u64 c] w fun e w' =>
      e = .returned (.func (.func 56) #[] #[.pointer (some ⟨w.heap.size, 0, none⟩)]) ∧ w' = w.alloc (.cells #[.int .u64 c] 22) := by
  go_enter Try.func46, Try.ntmps46
  go_wp2
  go_ret
  exact ⟨rfl, rfl⟩

/-- called with parts: the sum's low word; the rest is kept -/
def Carried (b : Nat) (v : Int) (w w' : World) : Prop := w'.heap[b]? = some (.cells #[.int .u64 v] 22 (0, 0)) ∧ Only b w w'

def sumL : List Int → Int
  | [] => 0
  | x :: xs => x + sumL xs
theorem sumL_snoc (xs : List Int) (x : Int) : sumL (xs ++ [x]) = sumL xs + x := by
  induction xs with
  | nil => simp [sumL]
  | cons y ys ih => simp only [List.cons_append, sumL, ih]; omega
theorem sumL_take (xs : List Int) (k : Nat) (hk : k < xs.length) : sumL (xs.take (k + 1)) = sumL (xs.take k) + xs.getD k 0 := by
  rw [List.take_succ_eq_append_getElem hk, sumL_snoc]
  simp [List.getD, hk]
theorem sumL_mono (xs : List Int) (h : ∀ x ∈ xs, 0 ≤ x) (k : Nat) : 0 ≤ sumL (xs.take k) ∧ sumL (xs.take k) ≤ sumL xs := by
  induction xs generalizing k with
  | nil => simp [sumL]
  | cons x xs ih =>
    have hx := h x List.mem_cons_self
    cases k with
    | zero => have := (ih (fun y hy => h y (List.mem_cons_of_mem _ hy)) xs.length).1; simp only [List.take_length] at this; simp only [List.take_zero, sumL]; omega
    | succ k => have := ih (fun y hy => h y (List.mem_cons_of_mem _ hy)) k; simp only [List.take_succ_cons, sumL]; omega

set_option maxHeartbeats 400000 in
theorem carry_any (c : Int) (ys : List Int) (b : Nat) (ad : Option Addr) (w : World) (hc : 0 ≤ c) (hy : ∀ y ∈ ys, 0 ≤ y) (hs : c + sumL ys < 18446744073709551616) (hlen : ys.length ≤ 2)
    (hb : w.heap[b]? = some (.cells #[.int .u64 c] 22 (0, 0)))
    (hp : ys ≠ [] → ∃ p, ad = some ⟨p, 0, none⟩ ∧ p ≠ b ∧ ∀ i, i < ys.length → w.cell? ⟨p, i, none⟩ = some (.int .u64 (ys.getD i 0))) :
    Calls Try.prog 56 #[.slice ad ys.length ys.length, .pointer (some ⟨b, 0, none⟩)] w fun e w' =>
      e = .returned (.int .u32 ((c + sumL ys) % 4294967296)) ∧ Carried b ((c + sumL ys) / 4294967296) w w' := by
  go_enter Try.func56, Try.ntmps56
  go_wp2
  go_loopw [5, 9] (fun _ i wr => ∃ k : Nat, k ≤ ys.length ∧ i = .int .i64 k ∧ Carried b (c + sumL (ys.take k)) w wr) (fun _ i _ => ys.length - (intOf i).toNat)
  case atStart => exact ⟨0, Nat.zero_le _, rfl, by simpa [sumL] using hb, Only.refl _ _⟩
  case round =>
    obtain ⟨k, hk, rfl, hcb, ho⟩ := hrel
    have h1 := cell_of_one hcb
    have h2 := free_of_one hcb
    have h3 := sumL_mono ys hy k
    by_cases hlt : k < ys.length
    · obtain ⟨p, rfl, hpb, hpc⟩ := hp (by intro h; simp [h] at hlt)
      have hck := (ho.cell (p := ⟨p, k, none⟩) hpb).trans (hpc k hlt)
      have h4 := sumL_mono ys hy (k + 1)
      have h5 := sumL_take ys k hlt
      have h6 : 0 ≤ ys.getD k 0 := by have := sumL_mono ys hy (k+1); simp only [List.getD, hlt, List.getElem?_eq_getElem, Option.getD_some]; exact hy _ (List.getElem_mem hlt)
      have h7 : c + sumL (ys.take k) + ys.getD k 0 < 18446744073709551616 := by omega
      have h8 : ys.getD k 0 = ys[k] := by simp [hlt]
      rw [h8] at h5 h6 h7
      have H5 := Lib.hid h5
      clear h5 h4 hp hpc h8
      go_wp2
      go_roundw
      case rel =>
        refine ⟨k + 1, by omega, by go_num, ?_, ho.trans (Only.set _ _ _ _)⟩
        rw [one_setCell hcb, H5.out, Int.add_assoc]
      case measure => simp [intOf]; omega
    · have hke : k = ys.length := by omega
      subst hke
      rw [List.take_length] at hcb h1 h3
      have hco := one_setCell hcb (u := .int .u64 ((c + sumL ys) / 4294967296))
      go_wp2
      go_ret
      exact ⟨rfl, hco, ho.trans (Only.set _ _ _ _)⟩

end Go.Proofs.Yteinfanfhgpciaa
