/-
  Contracts of package nat: numbers of bits.
-/
import Derived.Test.YteinfanfhgpciaaLeaf
import Derived.Lib.Small
import Derived.Lib.Walk
import Derived.Lib.BitFns
namespace Go.Proofs.Yteinfanfhgpciaa
open Go.RowKit

theorem tab_at (i : Int) (h0 : 0 ≤ i) (h1 : i ≤ 255) (h : i.toNat < Lib.len8tab.size) : (Lib.len8tab[i.toNat].toNat : Int) = Lib.bitLen i.toNat := by
  rw [← Lib.len8_of i h0 h1]
  unfold Lib.len8
  rw [getElem?_pos Lib.len8tab i.toNat h]
  rfl
theorem wrap2 (c : Int) (n : Nat) (h0 : 0 ≤ c) (h1 : c ≤ 24) (hn : n ≤ 8) : wrap64 (c + wrap64 (n : Int)) = c + n := by unfold wrap64; omega
theorem wrap64_small (x : Int) (h0 : 0 ≤ x) (h1 : x ≤ 1000) : wrap64 x = x := by unfold wrap64; omega

set_option maxHeartbeats 4000000 in
set_option maxRecDepth 100000 in
theorem len_any (x : Int) (w : World) (hx : 0 ≤ x ∧ x < 4294967296) :
    Calls Try.prog 50 #[.int .u32 x] w fun e w' => e = .returned (.int .i64 (Lib.bitLen x.toNat)) ∧ w = w' := by
  obtain ⟨h0, h1⟩ := hx
  have hsz : (Lib.len8tab.size : Int) = 256 := by rw [Lib.len8tab_size]; rfl
  go_enter Try.func50, Try.ntmps50
  go_wp2
  all_goals (go_ret; refine ⟨congrArg Ending.returned (congrArg (Value.int IntKind.i64) ?_), rfl⟩)
  · have e : (x / 65536 / 256).toNat = x.toNat / 16777216 := by omega
    have t := tab_at (x / 65536 / 256) (by omega) (by omega) (by rw [Lib.len8tab_size]; omega)
    have l := Lib.bitLen_le8' (x / 65536 / 256) (by omega) (by omega)
    have s := Lib.bitLen_shift24 x.toNat (by omega) (by omega)
    rw [t, wrap2 _ _ (by omega) (by omega) l, e, s]
    omega
  · have e : (x / 65536).toNat = x.toNat / 65536 := by omega
    have t := tab_at (x / 65536) (by omega) (by omega) (by rw [Lib.len8tab_size]; omega)
    have l := Lib.bitLen_le8' (x / 65536) (by omega) (by omega)
    have s := Lib.bitLen_shift16 x.toNat (by omega) (by omega)
    rw [t, wrap2 _ _ (by omega) (by omega) l, e, s]
    omega
  · have e : (x / 256).toNat = x.toNat / 256 := by omega
    have t := tab_at (x / 256) (by omega) (by omega) (by rw [Lib.len8tab_size]; omega)
    have l := Lib.bitLen_le8' (x / 256) (by omega) (by omega)
    have s := Lib.bitLen_shift8 x.toNat (by omega) (by omega)
    rw [t, wrap2 _ _ (by omega) (by omega) l, e, s]
    omega
  · have t := tab_at x (by omega) (by omega) (by rw [Lib.len8tab_size]; omega)
    have l := Lib.bitLen_le8' x (by omega) (by omega)
    rw [t, wrap64_small (Lib.bitLen x.toNat) (by omega) (by omega), wrap64_small _ (by omega) (by omega)]

/-- -1, 0 or 1 -/
def sign (a b : Int) : Int := if a < b then -1 else if b < a then 1 else 0

theorem cmpInt_any (a b : Int) (w : World) :
    Calls Try.prog 43 #[.int .i64 a, .int .i64 b] w fun e w' => e = .returned (.int .i64 (sign a b)) ∧ w = w' := by
  go_enter Try.func43, Try.ntmps43
  go_wp2_with go_in
  all_goals go_ret
  all_goals refine ⟨congrArg Ending.returned (congrArg (Value.int IntKind.i64) ?_), rfl⟩
  all_goals unfold sign
  · rw [if_pos (by assumption)]
  · rw [if_neg (by omega), if_pos (by assumption)]
  · rw [if_neg (by omega), if_neg (by omega)]

theorem cmpLimb_any (a b : Int) (w : World) :
    Calls Try.prog 45 #[.int .u32 a, .int .u32 b] w fun e w' => e = .returned (.int .i64 (sign a b)) ∧ w = w' := by
  go_enter Try.func45, Try.ntmps45
  go_wp2_with go_in
  all_goals go_ret
  all_goals refine ⟨congrArg Ending.returned (congrArg (Value.int IntKind.i64) ?_), rfl⟩
  all_goals unfold sign
  · rw [if_pos (by assumption)]
  · rw [if_neg (by omega), if_pos (by assumption)]
  · rw [if_neg (by omega), if_neg (by omega)]

/-- the number of bits -/
def bitsN (xs : List Int) : Nat := if trimN xs xs.length = 0 then 0 else (trimN xs xs.length - 1) * 32 + Lib.bitLen (xs.getD (trimN xs xs.length - 1) 0).toNat

set_option maxHeartbeats 400000 in
theorem bits_any (ad : Option Addr) (xs : List Int) (cap : Nat) (w : World) (hl : Lim w ad xs) (hm : xs.length ≤ 35184372088832) (hcap : xs.length ≤ cap) (hw : Wf xs) :
    Calls Try.prog 33 #[.slice ad xs.length cap] w fun e w' => e = .returned (.int .i64 (bitsN xs)) ∧ w = w' := by
  have ht := trim_le xs
  go_enter Try.func33, Try.ntmps33
  go_wp2_with fail
  refine (cut_any ad xs cap _ hl (by unfold maxLen; omega) hcap).mono ?_
  rintro e w' ⟨rfl, rfl⟩
  have hb : bitsN xs = if trimN xs xs.length = 0 then 0 else (trimN xs xs.length - 1) * 32 + Lib.bitLen (xs.getD (trimN xs xs.length - 1) 0).toNat := rfl
  generalize trimN xs xs.length = t at *
  have HB := Lib.hid hb
  clear hb
  rcases t with _ | m
  · go_wp2_with fail
    go_ret
    rw [HB.out]
    exact ⟨rfl, rfl⟩
  · rcases hl with rfl | ⟨b, off, rfl, hc⟩
    · simp at ht
    · have hcm := hc m (by omega)
      have hwm := hw.getD m
      have h1 : ((m : Int) + 1 == 0) = false := by simp; omega
      clear hc
      go_wp2_with fail
      refine (len_any _ _ hwm).mono ?_
      rintro e w' ⟨rfl, rfl⟩
      have hle := Lib.bitLen_le (xs.getD m 0).toNat 32 (by omega) (by omega)
      have hge : 0 ≤ (Lib.bitLen (xs.getD m 0).toNat : Int) := by omega
      have e2 : bitsN xs = m * 32 + Lib.bitLen (xs.getD m 0).toNat := HB.out
      have HE := Lib.hid e2
      clear e2
      generalize Lib.bitLen (xs.getD m 0).toNat = q at *
      go_wp2_with fail
      go_ret
      refine ⟨congrArg Ending.returned (congrArg (Value.int IntKind.i64) ?_), rfl⟩
      rw [HE.out]
      omega

theorem beq_dec (a b : Int) : (a == b) = decide (a = b) := Bool.eq_iff_iff.2 (by simp)
theorem and_one (y : Int) (h0 : 0 ≤ y) (h1 : y < 4294967296) : bits .and .u32 y 1 = y % 2 := by
  rw [u32_and _ _ h0 h1 (by omega) (by omega)]
  obtain ⟨a, rfl⟩ := Int.eq_ofNat_of_zero_le h0
  simp only [Int.toNat_natCast, Int.reduceToNat, Nat.and_one_is_mod]
  omega

/-- the bit with an index -/
def bitAt (xs : List Int) (i : Int) : Bool := decide (0 ≤ i) && decide (xs.getD (i.toNat / 32) 0 / 2 ^ (i.toNat % 32) % 2 = 1)

set_option maxHeartbeats 400000 in
theorem bit_any (ad : Option Addr) (xs : List Int) (cap : Nat) (i : Int) (w : World) (hl : Lim w ad xs) (hm : xs.length ≤ maxLen) (hw : Wf xs) (hi : i ≤ 9223372036854775807) :
    Calls Try.prog 34 #[.slice ad xs.length cap, .int .i64 i] w fun e w' => e = .returned (.bool (bitAt xs i)) ∧ w = w' := by
  by_cases hn : i < 0
  · go_enter Try.func34, Try.ntmps34
    go_wp2_with fail
    go_ret
    refine ⟨?_, rfl⟩
    simp [bitAt]
    omega
  · obtain ⟨k, rfl⟩ := Int.eq_ofNat_of_zero_le (Int.not_lt.1 hn)
    have hwk := hw.getD (k / 32)
    have hq : 0 ≤ (k : Int) / 32 := by omega
    go_enter Try.func34, Try.ntmps34
    go_wp2_with fail
    refine (at_any ad xs cap _ _ hl hm (by omega)).mono ?_
    rintro e w' ⟨rfl, rfl⟩
    go_wp2_with fail
    go_ret
    refine ⟨?_, rfl⟩
    have hp : (0 : Int) < 2 ^ (k % 32) := Int.pow_pos (by omega)
    have e : xs[k / 32]?.getD 0 = xs.getD (k / 32) 0 := rfl
    have b0 : 0 ≤ xs.getD (k / 32) 0 / 2 ^ (k % 32) := Int.ediv_nonneg hwk.1 (Int.le_of_lt hp)
    have b1 : xs.getD (k / 32) 0 / 2 ^ (k % 32) ≤ xs.getD (k / 32) 0 := Int.ediv_le_self _ hwk.1
    rw [e, and_one _ b0 (by omega)]
    simp only [bitAt, Int.toNat_natCast, Int.natCast_nonneg, decide_true, Bool.true_and]
    rw [beq_dec]
    rfl

set_option maxHeartbeats 400000 in
theorem uint_any (ad : Option Addr) (xs : List Int) (cap : Nat) (w : World) (hl : Lim w ad xs) (hm : xs.length ≤ 35184372088832) (hcap : xs.length ≤ cap) (hw : Wf xs) :
    Calls Try.prog 13 #[.slice ad xs.length cap] w fun e w' =>
      e = .returned (if bitsN xs ≤ 64 then .tuple #[.int .u64 (4294967296 * xs.getD 1 0 + xs.getD 0 0), .bool true] else .tuple #[.int .u64 0, .bool false]) ∧ w = w' := by
  by_cases hb : bitsN xs ≤ 64
  · rw [if_pos hb]
    have hb2 : (bitsN xs : Int) ≤ 64 := by omega
    clear hb
    go_enter Try.func13, Try.ntmps13
    go_wp2_with fail
    refine (bits_any ad xs cap _ hl hm hcap hw).mono ?_
    rintro e w' ⟨rfl, rfl⟩
    go_wp2_with fail
    refine (pair_any ad xs cap _ _ hl (by unfold maxLen; omega) (by omega) (by omega) hw).mono ?_
    rintro e w' ⟨rfl, rfl⟩
    go_wp2_with fail
    go_ret2
    exact ⟨rfl, rfl⟩
  · rw [if_neg hb]
    have hb2 : 64 < (bitsN xs : Int) := by omega
    clear hb
    go_enter Try.func13, Try.ntmps13
    go_wp2_with fail
    refine (bits_any ad xs cap _ hl hm hcap hw).mono ?_
    rintro e w' ⟨rfl, rfl⟩
    go_wp2_with fail
    go_ret2
    exact ⟨rfl, rfl⟩
end Go.Proofs.Yteinfanfhgpciaa
