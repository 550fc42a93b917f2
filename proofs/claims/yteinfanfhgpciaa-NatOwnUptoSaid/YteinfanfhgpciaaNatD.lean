/-
  Contracts of nat.Of, Uint, Bits, Bit over what the limbs stand for.
-/
import Derived.Test.YteinfanfhgpciaaNatC
import Derived.Test.YteinfanfhgpciaaRefG
import Derived.Lib.ItoaNum
namespace Go.Proofs.Yteinfanfhgpciaa
open Go.RowKit

theorem bitLen_is {t : Int} (h0 : 0 < t) (h1 : t < 18446744073709551616) : ∃ j : Nat, Lib.bitLen t.toNat = j + 1 ∧ 2 ^ j ≤ t ∧ t < 2 ^ (j + 1) := by
  obtain ⟨n, rfl⟩ := Int.eq_ofNat_of_zero_le (Int.le_of_lt h0)
  obtain ⟨a, b, c⟩ := Lib.bitLenAux_bounds 64 n (by omega) (by omega)
  rw [Int.toNat_natCast]
  unfold Lib.bitLen
  refine ⟨Lib.bitLenAux 64 n - 1, by omega, ?_, ?_⟩
  · exact_mod_cast b
  · rw [show Lib.bitLenAux 64 n - 1 + 1 = Lib.bitLenAux 64 n from by omega]; exact_mod_cast c
theorem pow_limb (m : Nat) : (4294967296 : Int) ^ m = 2 ^ (m * 32) := by rw [Nat.mul_comm, Int.pow_mul, show (2 : Int) ^ 32 = 4294967296 from rfl]
theorem bitsN_is {xs : List Int} (hx : Wf xs) : IsBits (val xs) (bitsN xs) := by
  unfold bitsN
  split
  · rename_i h
    refine .inl ⟨rfl, ?_⟩
    rw [← val_trim xs]
    unfold trim
    rw [h]
    rfl
  · rename_i h
    obtain ⟨m, hm⟩ : ∃ m, trimN xs xs.length = m + 1 := ⟨trimN xs xs.length - 1, by omega⟩
    have hne := trimN_last xs xs.length (by omega)
    have hv := val_take_ge xs (m + 1) (by omega)
    rw [hm, Nat.add_sub_cancel] at hne ⊢
    rw [val_take_succ] at hv
    have b1 := hx.getD m
    have b2 := val_nonneg (hx.take m)
    have b3 := val_lt (hx.take m)
    have b4 : (4294967296 : Int) ^ (xs.take m).length = 4294967296 ^ m := by rw [List.length_take, Nat.min_eq_left (by have := trim_le xs; omega)]
    rw [b4] at b3
    obtain ⟨j, hj, h1, h2⟩ := bitLen_is (show 0 < xs.getD m 0 by omega) (by omega)
    rw [hj]
    refine .inr ⟨m * 32 + j, rfl, ?_⟩
    rw [show m * 32 + j + 1 = m * 32 + (j + 1) from rfl, Int.pow_add, Int.pow_add, ← pow_limb]
    have hp := pow_pos' m
    generalize xs.getD m 0 = x at *
    generalize (4294967296 : Int) ^ m = P at *
    generalize val (xs.take m) = V at *
    have c1 : P * 2 ^ j ≤ P * x := Int.mul_le_mul_of_nonneg_left h1 (by omega)
    have c2 : P * (x + 1) ≤ P * 2 ^ (j + 1) := Int.mul_le_mul_of_nonneg_left (by omega) (by omega)
    rw [Int.mul_add, Int.mul_one] at c2
    omega
theorem two_limbs {xs : List Int} (hx : Wf xs) (h : bitsN xs ≤ 64) : 4294967296 * xs.getD 1 0 + xs.getD 0 0 = val xs := by
  have hb := (bitsN_is hx).lt (m := 64) h
  have ht : trimN xs xs.length ≤ 2 := by
    rcases Nat.lt_or_ge 2 (trimN xs xs.length) with e | e
    · exfalso
      have h1 := full_ge hx.trim (trim_full xs) (trimN xs xs.length - 1) (by rw [trim_length]; omega)
      rw [val_trim] at h1
      have h2 : (2 : Int) ^ 64 ≤ 4294967296 ^ (trimN xs xs.length - 1) := by rw [pow_limb]; exact two_mono (by omega)
      omega
    · exact e
  rw [← val_take_ge xs 2 ht, val_take_succ, val_take_succ]
  simp [val]
  omega

theorem bits_res {u : Value} {xs : List Int} {a : Option Addr} {capa : Nat} {w : World} {n : Nat} (h1 : Arg w u xs a capa) (hx : xs.length ≤ 35184372088832) (hn : IsBits (val xs) n) :
    Calls Try.prog 33 #[u] w fun e w' => e = .returned (.int .i64 n) ∧ w = w' := by
  rw [h1.is]
  refine (bits_any a xs capa w h1.lim hx h1.le h1.wf).mono fun e w' ⟨he, hw⟩ => ⟨?_, hw⟩
  rw [he, hn.unique (bitsN_is h1.wf)]
theorem uint_small {u : Value} {xs : List Int} {a : Option Addr} {capa : Nat} {w : World} (h1 : Arg w u xs a capa) (hx : xs.length ≤ 35184372088832) (hn : val xs < 18446744073709551616) :
    Calls Try.prog 13 #[u] w fun e w' => e = .returned (.tuple #[.int .u64 (val xs), .bool true]) ∧ w = w' := by
  rw [h1.is]
  have hb : bitsN xs ≤ 64 := (bitsN_is h1.wf).le (m := 64) hn
  refine (uint_any a xs capa w h1.lim hx h1.le h1.wf).mono fun e w' ⟨he, hw⟩ => ⟨?_, hw⟩
  rw [he, if_pos hb, two_limbs h1.wf hb]
theorem uint_big {u : Value} {xs : List Int} {a : Option Addr} {capa : Nat} {w : World} (h1 : Arg w u xs a capa) (hx : xs.length ≤ 35184372088832) (hn : 18446744073709551616 ≤ val xs) :
    Calls Try.prog 13 #[u] w fun e w' => e = .returned (.tuple #[.int .u64 0, .bool false]) ∧ w = w' := by
  rw [h1.is]
  have hb : ¬ bitsN xs ≤ 64 := fun h => by have := (bitsN_is h1.wf).lt (m := 64) h; omega
  refine (uint_any a xs capa w h1.lim hx h1.le h1.wf).mono fun e w' ⟨he, hw⟩ => ⟨?_, hw⟩
  rw [he, if_neg hb]

/-! ## a bit -/
theorem bitAt_neg {xs : List Int} {i : Int} (h : i < 0) : bitAt xs i = false := by unfold bitAt; simp; omega
theorem val_parts {xs : List Int} (k : Nat) (hx : Wf xs) : ∃ q r, val xs = r + 4294967296 ^ k * (xs.getD k 0 + 4294967296 * q) ∧ 0 ≤ r ∧ r < 4294967296 ^ k := by
  have h1 := val_nonneg (hx.take k)
  have h2 := val_lt (hx.take k)
  by_cases hk : k < xs.length
  · refine ⟨val (xs.drop (k + 1)), val (xs.take k), ?_, h1, ?_⟩
    · rw [← val_drop xs k hk]
      have h := val_append (xs.take k) (xs.drop k)
      rw [List.take_append_drop, List.length_take, Nat.min_eq_left (by omega)] at h
      exact h
    · rw [List.length_take, Nat.min_eq_left (by omega)] at h2; exact h2
  · refine ⟨0, val xs, ?_, val_nonneg hx, ?_⟩
    · rw [beyond (by omega)]; simp
    · have h3 := val_lt hx
      have h4 : (4294967296 : Int) ^ xs.length ≤ 4294967296 ^ k := by rw [pow_limb, pow_limb]; exact two_mono (by omega)
      omega
theorem bitAt_val {xs : List Int} (i : Nat) (hx : Wf xs) : bitAt xs i = decide (val xs / 2 ^ i % 2 = 1) := by
  obtain ⟨q, r, hv, h0, h1⟩ := val_parts (i / 32) hx
  have e1 : (2 : Int) ^ i = 4294967296 ^ (i / 32) * 2 ^ (i % 32) := by rw [pow_limb, ← Int.pow_add, show i / 32 * 32 + i % 32 = i from by omega]
  have e2 : (4294967296 : Int) = 2 ^ (i % 32) * (2 * 2 ^ (31 - i % 32)) := by
    rw [Int.mul_comm 2, ← Int.pow_succ, ← Int.pow_add, show i % 32 + (31 - i % 32 + 1) = 32 from by omega]; rfl
  have e3 : val xs / 2 ^ i = xs.getD (i / 32) 0 / 2 ^ (i % 32) + 2 * (2 ^ (31 - i % 32) * q) := by
    rw [e1, ← Int.ediv_ediv_of_nonneg (Int.le_of_lt (pow_pos' _)), hv, Int.add_mul_ediv_left _ _ (by have := pow_pos' (i / 32); omega), Int.ediv_eq_zero_of_lt h0 h1, Int.zero_add]
    rw [show xs.getD (i / 32) 0 + 4294967296 * q = xs.getD (i / 32) 0 + 2 ^ (i % 32) * (2 * (2 ^ (31 - i % 32) * q)) from by
      conv => lhs; rw [e2]
      rw [Int.mul_assoc, Int.mul_assoc]]
    rw [Int.add_mul_ediv_left _ _ (by have := two_pos (i % 32); omega)]
  unfold bitAt
  rw [e3]
  simp only [Int.natCast_nonneg, decide_true, Bool.true_and, Int.toNat_natCast]
  congr 1
  rw [Int.add_mul_emod_self_left]
theorem bit_res {u : Value} {xs : List Int} {a : Option Addr} {capa : Nat} {w : World} (i : Nat) (h1 : Arg w u xs a capa) (hx : xs.length ≤ 35184372088832) (hi : i ≤ 9223372036854775807) :
    Calls Try.prog 34 #[u, .int .i64 i] w fun e w' => e = .returned (.bool (decide (val xs / 2 ^ i % 2 = 1))) ∧ w = w' := by
  rw [h1.is, ← bitAt_val i h1.wf]
  exact bit_any a xs capa i w h1.lim (by unfold maxLen; omega) h1.wf (by omega)
theorem bit_neg {u : Value} {xs : List Int} {a : Option Addr} {capa : Nat} {w : World} (i : Int) (h1 : Arg w u xs a capa) (hx : xs.length ≤ 35184372088832) (hi : i < 0) :
    Calls Try.prog 34 #[u, .int .i64 i] w fun e w' => e = .returned (.bool false) ∧ w = w' := by
  rw [h1.is, ← bitAt_neg (xs := xs) hi]
  exact bit_any a xs capa i w h1.lim (by unfold maxLen; omega) h1.wf (by omega)

theorem bit_out {u : Value} {xs : List Int} {a : Option Addr} {capa : Nat} {w : World} {n : Nat} (i : Int) (h1 : Arg w u xs a capa) (hx : xs.length ≤ 35184372088832) (hn : IsBits (val xs) n) (hi : i ≤ 9223372036854775807) (h : i < 0 ∨ (n : Int) ≤ i) :
    Calls Try.prog 34 #[u, .int .i64 i] w fun e w' => e = .returned (.bool false) ∧ w = w' := by
  by_cases h0 : i < 0
  · exact bit_neg i h1 hx h0
  · obtain ⟨k, rfl⟩ := Int.eq_ofNat_of_zero_le (Int.not_lt.1 h0)
    have h2 := hn.lt (m := k) (by omega)
    have h3 := bit_res k h1 hx (by omega)
    rw [Int.ediv_eq_zero_of_lt (val_nonneg h1.wf) h2] at h3
    exact h3
theorem bit_top {u : Value} {xs : List Int} {a : Option Addr} {capa : Nat} {w : World} (j : Nat) (h1 : Arg w u xs a capa) (hx : xs.length ≤ 35184372088832) (hj : j ≤ 9223372036854775807) (hn : IsBits (val xs) (j + 1)) :
    Calls Try.prog 34 #[u, .int .i64 j] w fun e w' => e = .returned (.bool true) ∧ w = w' := by
  have h3 := bit_res j h1 hx (by omega)
  have h4 : val xs / 2 ^ j = 1 := by
    rcases hn with ⟨h, _⟩ | ⟨i, h, h1, h2⟩
    · omega
    · obtain rfl : i = j := by omega
      rw [Int.pow_succ] at h2
      have hp := two_pos i
      have : val xs = (val xs - 2 ^ i) + 2 ^ i * 1 := by omega
      rw [this, Int.add_mul_ediv_left _ _ (by omega), Int.ediv_eq_zero_of_lt (by omega) (by omega)]
      rfl
  rw [h4] at h3
  exact h3

/-! ## Of -/
set_option maxHeartbeats 400000 in
theorem ofN_any (n : Int) (w : World) (h0 : 0 ≤ n) (h1 : n < 18446744073709551616) :
    Calls Try.prog 12 #[.int .u64 n] w fun e w' => ∃ r zs, e = .returned r ∧ Res w.heap.size w' r zs n ∧ zs.length ≤ 2 ∧ Below w.heap.size w w' := by
  have hwf : Wf [n % 4294967296, n / 4294967296] := wf2 (by omega) (by omega)
  have hnum := Num.ofBlk (base := w.heap.size) (g := w.heap.size) (Blk.lit w [n % 4294967296, n / 4294967296]) (Nat.le_refl _) 2 (by simp) (by unfold maxLen; simp)
  go_enter Try.func12, Try.ntmps12
  go_wp2_with fail
  refine (cut_num hnum).mono ?_
  rintro e w' ⟨u, rfl, hu, rfl⟩
  go_wp2_with fail
  go_ret
  refine ⟨_, _, rfl, ⟨hu, hwf.trim, trim_full _, by rw [val_trim]; simp [val]; omega⟩, ?_, (Below.refl _ w).alloc (Nat.le_refl _) _⟩
  exact trim_len_le [n % 4294967296, n / 4294967296]
end Go.Proofs.Yteinfanfhgpciaa
