/-
  What is read of the texts that the program writes: mathematics.
-/
import Derived.Test.YtokinmmnoiacdaaDLaw0
namespace Go.Proofs.Ytokinmmnoiacdaa
open Go.RowKit
theorem val_lt_nat {xs : List Int} (h : Wf xs) {k : Nat} (hl : xs.length ≤ k) : (val xs).toNat < (4294967296 : Nat) ^ k := by
  have h2 := val_lt h
  have h3 := val_nonneg h
  have h4 : ((4294967296 : Nat) ^ xs.length : Nat) ≤ 4294967296 ^ k := Nat.pow_le_pow_right (by decide) hl
  have h7 : ((val xs).toNat : Int) < (((4294967296 : Nat) ^ xs.length : Nat) : Int) := by
    rw [Int.natCast_pow]
    have e : ((val xs).toNat : Int) = val xs := by omega
    rw [e]
    exact h2
  exact Nat.lt_of_lt_of_le (Int.ofNat_lt.1 h7) h4
theorem rat_small {neg : Bool} {xs ds : List Int} (hx : Wf xs) (hd : Wf ds) (lx : xs.length ≤ 8) (ld : ds.length ≤ 8) :
    (ratOf neg (val xs) (val ds)).num.natAbs < lim1024 ∧ (ratOf neg (val xs) (val ds)).den < lim1024 := by
  have h0 := val_nonneg hx
  have h1 := val_nonneg hd
  have key : ∀ {zs : List Int}, Wf zs → zs.length ≤ 8 → (val zs).toNat < lim1024 := by
    intro zs hz hl
    have h5 : (4294967296 : Nat) ^ 8 ≤ p2 256 := by decide +kernel
    exact Nat.lt_of_lt_of_le (val_lt_nat hz hl) (Nat.le_trans h5 (p2_mono (by decide)))
  have hx2 := key hx lx
  have hd2 := key hd ld
  have hone : 1 < lim1024 := Nat.lt_of_lt_of_le (show 1 < p2 1 by decide) (p2_mono (by decide))
  rcases Int.lt_or_eq_of_le h1 with hp | hp
  · have e1 := ratOf_abs (n := neg) h0 hp
    have e2 := ratOf_den (n := neg) (A := val xs) hp
    have hg : 0 < (Int.gcd (val xs) (val ds) : Int) := gcd_pos_right hp
    have i1 : val xs / (Int.gcd (val xs) (val ds) : Int) ≤ val xs := Int.ediv_le_self _ h0
    have i2 : val ds / (Int.gcd (val xs) (val ds) : Int) ≤ val ds := Int.ediv_le_self _ h1
    rw [← e1] at i1
    rw [← e2] at i2
    generalize lim1024 = q at *
    omega
  · rw [← hp, ratOf_zero_right]
    exact ⟨Nat.lt_of_le_of_lt (show (0 : Rat).num.natAbs ≤ 1 by decide) hone, Nat.lt_of_le_of_lt (show (0 : Rat).den ≤ 1 by decide) hone⟩
theorem codeN_dec (x : Nat) : codeN (dec x) = if x < lim1024 then 0 else 14 := by unfold codeN; rw [if_pos (natB_dec x), dec_num]
theorem codeR_ratS {x : Rat} (h1 : x.num.natAbs < lim1024) (h2 : x.den < lim1024) : codeR (ratS x) = 0 ∧ valR (ratS x) = x := by
  obtain ⟨a, b, c⟩ := parts_ratS x
  have hv : valR (ratS x) = x := by
    unfold valR
    rw [a, b, c, dec_num, dec_num]
    exact ratOf_self x
  refine ⟨codeR_ok (by rw [a]; exact natB_dec _) (by rw [b]; exact natB_dec _) (by rw [a, codeN_dec, if_pos h1]) (by rw [b, codeN_dec, if_pos h2]) (by rw [hv]), hv⟩
theorem codeR_zero {l : List UInt8} (h : codeR l = 0) : ratS (valR l) = l := by
  unfold codeR at h
  split at h
  · split at h
    · split at h
      · assumption
      · cases h
    · cases h
  · cases h
theorem codeN_zero {l : List UInt8} (h : codeN l = 0) : dec (numL l) = l := by
  unfold codeN at h
  split at h
  · next hn => exact dec_of_natB hn
  · cases h

end Go.Proofs.Ytokinmmnoiacdaa
