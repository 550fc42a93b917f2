/-
  The cursor: number.
-/
import Derived.Test.YtgjoiacgdgbcjaaWNext
import Derived.Laws.BitsAllLaws
import Derived.WalkMore
namespace Go.Proofs.Ytgjoiacgdgbcjaa
open Go.RowKit
set_option linter.unusedVariables false
set_option linter.unusedSimpArgs false

/-- what a number is read as -/
def numV (l : List Int) : Int := if getC l = 0 then getV l else 0
def numP (l : List Int) (p : Nat) : Nat := if getC l = 0 then p + lead l + 1 else p

theorem valB_next {l : List Int} {k : Nat} {z : Int} (h : l[k]? = some z) : valB (l.take (k + 1)) = valB (l.take k) + z % 128 * ((128 ^ k : Nat) : Int) := by
  have hlt : k < l.length := by
    rcases Nat.lt_or_ge k l.length with g | g
    · exact g
    · rw [List.getElem?_eq_none g] at h; cases h
  rw [List.take_add_one, h, Option.toList_some, valB_snoc, List.length_take, Nat.min_eq_left (by omega), Int.mul_comm, Int.natCast_pow]
  rfl
/-- n | z << 7 k -/
theorem or_seven {n z : Int} {k : Nat} (h0 : 0 ≤ n) (h1 : n < ((128 ^ k : Nat) : Int)) (z0 : 0 ≤ z) (z1 : z * ((128 ^ k : Nat) : Int) < 18446744073709551616) (hk : 128 ^ k ≤ 18446744073709551616) :
    bits .or .u64 n (z * ((128 ^ k : Nat) : Int)) = n + z * ((128 ^ k : Nat) : Int) := by
  obtain ⟨N, rfl⟩ : ∃ N : Nat, n = (N : Int) := ⟨n.toNat, by omega⟩
  obtain ⟨Z, rfl⟩ : ∃ Z : Nat, z = (Z : Int) := ⟨z.toNat, by omega⟩
  have e : (Z : Int) * ((128 ^ k : Nat) : Int) = ((Z * 128 ^ k : Nat) : Int) := (Int.natCast_mul _ _).symm
  rw [e] at z1 ⊢
  have hp : 128 ^ k = 2 ^ (7 * k) := by rw [show (128 : Nat) = 2 ^ 7 from rfl, ← Nat.pow_mul]
  rw [u64_or_nat N (Z * 128 ^ k) (by omega) (by omega), Nat.or_comm, Nat.mul_comm, hp, ← Nat.two_pow_add_eq_or_of_lt (by rw [← hp]; omega)]
  omega

theorem or_step {n z : Int} {k : Nat} (h0 : 0 ≤ n) (h1 : n < ((128 ^ k : Nat) : Int)) (z0 : 0 ≤ z) (z1 : z * ((128 ^ k : Nat) : Int) < 18446744073709551616) (hk : 128 ^ k ≤ 18446744073709551616) :
    bits .or .u64 n (IntKind.u64.wrap (z * 2 ^ (7 * k))) = n + z * ((128 ^ k : Nat) : Int) := by
  have hp : (2 : Int) ^ (7 * k) = ((128 ^ k : Nat) : Int) := by rw [Int.natCast_pow, show ((128 : Nat) : Int) = 2 ^ 7 from rfl, ← Int.pow_mul]
  have hz : 0 ≤ z * ((128 ^ k : Nat) : Int) := Int.mul_nonneg z0 (by omega)
  rw [hp, IntWalk.u64_in _ (by omega)]
  exact or_seven h0 h1 z0 z1 hk
theorem or_range (n m : Int) (h0 : 0 ≤ n) (h1 : n < 18446744073709551616) : 0 ≤ bits .or .u64 n (IntKind.u64.wrap m) ∧ bits .or .u64 n (IntKind.u64.wrap m) < 18446744073709551616 := by
  have e := IntKind.wrap_u64 m
  obtain ⟨N, rfl⟩ : ∃ N : Nat, n = (N : Int) := ⟨n.toNat, by omega⟩
  obtain ⟨M, hM⟩ : ∃ M : Nat, IntKind.u64.wrap m = (M : Int) := ⟨(IntKind.u64.wrap m).toNat, by omega⟩
  rw [hM]
  have hM2 : M < 18446744073709551616 := by omega
  rw [u64_or_nat N M (by omega) hM2]
  have := Nat.or_lt_two_pow (n := 64) (show N < 2 ^ 64 by omega) (show M < 2 ^ 64 by omega)
  omega
theorem mul_small {z : Int} {k : Nat} (z0 : 0 ≤ z) (z1 : z < 128) (h : 128 ^ k ≤ 72057594037927936) : z * ((128 ^ k : Nat) : Int) < 18446744073709551616 := by
  obtain ⟨P, hP⟩ : ∃ P, 128 ^ k = P := ⟨_, rfl⟩
  rw [hP] at h ⊢
  have : z * (P : Int) ≤ 128 * 72057594037927936 := Int.mul_le_mul (by omega) (by omega) (by omega) (by omega)
  omega
theorem pow128 {k : Nat} (hk : k ≤ 8) : 128 ^ k ≤ 72057594037927936 := by
  have := Nat.pow_le_pow_right (n := 128) (by decide) hk
  exact Nat.le_trans this (by decide)

set_option maxRecDepth 100000 in
set_option maxHeartbeats 4000000 in
theorem numberC_any {base g p : Nat} {w : World} {b : List Int} (C : Cur base w g b p) :
    Calls Try.prog 36 #[.pointer (some ⟨g, 0, none⟩)] w fun e w' => e = .returned (.tuple #[.int .u64 (numV (b.drop p)), .int .i64 (getC (b.drop p))]) ∧ (∃ q, Cur base w' g b q ∧ (getC (b.drop p) = 0 → q = p + lead (b.drop p) + 1)) ∧ KeptC g w w' := by
  obtain ⟨l, hl⟩ : ∃ l, b.drop p = l := ⟨_, rfl⟩
  have hll : l.length = b.length - p := by rw [← hl, List.length_drop]
  have hbl : Byt l := by rw [← hl]; exact C.facts.2.2.1.drop p
  obtain ⟨c, hc⟩ : ∃ c, getC l = c := ⟨_, rfl⟩
  obtain ⟨v, hv⟩ : ∃ v, numV l = v := ⟨_, rfl⟩
  obtain ⟨K, hK⟩ : ∃ K, lead l = K := ⟨_, rfl⟩
  rw [hl, hc, hv, hK]
  have HC := Lib.hid C
  have HL := Lib.hid hl
  have HLL := Lib.hid hll
  have HBL := Lib.hid hbl
  have HGC := Lib.hid hc
  have HNV := Lib.hid hv
  have HK := Lib.hid hK
  clear C hl hll hbl hc hv hK
  go_enter Try.func36, Try.ntmps36
  go_wp2
  go_step3
  go_wp2
  go_step3
  go_wp2
  go_loopw [4, 8] (fun n i wr => ∃ (k : Nat) (N : Int), i = .int .i64 (k : Int) ∧ n = .int .u64 N ∧ k ≤ 10 ∧ k ≤ K ∧ (k < 10 → N = valB (l.take k)) ∧ 0 ≤ N ∧ N < 18446744073709551616 ∧ Cur base wr g b (p + k) ∧ KeptC g w wr) (fun _ i _ => 10 - (intOf i).toNat)
  case atStart => exact ⟨0, 0, rfl, rfl, by omega, by omega, fun _ => rfl, by omega, by omega, HC.out, KeptC.refl _ _⟩
  case round =>
    obtain ⟨k, N, rfl, rfl, hk10, hkl, hN, hN0, hN1, C1, hk1⟩ := hrel
    have hn := nextC_any C1
    have HC1 := Lib.hid C1
    have HK1 := Lib.hid hk1
    clear C1 hk1
    by_cases h10 : k = 10
    · subst h10
      have hc : getC l = 4 := getC_ten (by rw [HK.out]; exact hkl)
      have hv : numV l = 0 := by unfold numV; rw [if_neg (by rw [hc]; decide)]
      obtain rfl : c = 4 := by rw [← HGC.out]; exact hc
      obtain rfl : v = 0 := by rw [← HNV.out]; exact hv
      clear hN hn hc hv
      go_wp2
      rw [Exit.noGoto_ret]
      go_ret2
      exact ⟨rfl, ⟨_, HC1.out, fun h => by cases h⟩, HK1.out⟩
    · have hk9 : k < 10 := by omega
      have hNv := hN hk9
      have hklt : (k : Int) < 10 := by omega
      by_cases hsh : b.length ≤ p + k
      · have hll := HLL.out
        have hle := lead_le l
        have hkk := HK.out
        have hc : getC l = 3 := getC_short (by omega) (by omega)
        have hv : numV l = 0 := by unfold numV; rw [if_neg (by rw [hc]; decide)]
        obtain rfl : c = 3 := by rw [← HGC.out]; exact hc
        obtain rfl : v = 0 := by rw [← HNV.out]; exact hv
        rw [if_neg (by omega), if_neg (by omega), if_neg (by omega)] at hn
        clear hN hc hv hll hle hkk hNv
        go_wp2_with (go_at_call 46; refine hn.mono ?_; rintro e w1 ⟨rfl, C2, k2⟩)
        rw [Exit.noGoto_ret]
        go_ret2
        exact ⟨rfl, ⟨_, C2, fun h => by cases h⟩, HK1.out.trans k2⟩
      · rw [if_pos (by omega), if_pos (by omega), if_pos (by omega)] at hn
        have hlz : l[k]? = some (b.getD (p + k) 0) := by
          rw [← HL.out, List.getElem?_drop, List.getD_eq_getElem?_getD, List.getElem?_eq_getElem (by omega)]; rfl
        obtain ⟨z, hz⟩ : ∃ z, b.getD (p + k) 0 = z := ⟨_, rfl⟩
        rw [hz] at hn hlz
        have hzb : 0 ≤ z ∧ z < 256 := HBL.out z (List.mem_of_getElem? hlz)
        obtain ⟨z0, z1⟩ := hzb
        have hnx := valB_next hlz
        have hNlt : N < ((128 ^ k : Nat) : Int) := by
          rw [hNv]
          have := valB_lt (l.take k)
          rw [List.length_take, Nat.min_eq_left (by have := HLL.out; omega)] at this
          rw [Int.natCast_pow]
          exact this
        have HNX := Lib.hid hnx
        have HNlt := Lib.hid hNlt
        have HLZ := Lib.hid hlz
        have HNV2 := Lib.hid hNv
        by_cases hbig : 128 ≤ z
        · clear hN hnx hlz hz hNlt hNv
          go_wp2_with (go_at_call 46; refine hn.mono ?_; rintro e w1 ⟨rfl, C2, k2⟩)
          go_roundw
          case rel =>
            have hkK : k + 1 ≤ K := by
              rcases Nat.lt_or_ge k K with g1 | g1
              · exact g1
              · have e : k = lead l := by rw [HK.out]; omega
                have := lead_stop (l := l) (x := z) (by rw [← e]; exact HLZ.out)
                omega
            have hr := or_range N ((z - 128) * 2 ^ (7 * k)) hN0 hN1
            refine ⟨k + 1, _, by go_num, rfl, by omega, hkK, fun h => ?_, hr.1, hr.2, C2, HK1.out.trans k2⟩
            have h8 := pow128 (k := k) (by omega)
            rw [HNX.out, ← HNV2.out, show z % 128 = z - 128 by omega]
            exact or_step hN0 HNlt.out (by omega) (mul_small (by omega) (by omega) h8) (by omega)
          case measure => simp [intOf]; omega
        · have hkK : k = K := by
            rcases Nat.lt_or_ge k K with g1 | g1
            · obtain ⟨x, hx, hx2⟩ := lead_at (l := l) (i := k) (by rw [HK.out]; exact g1)
              rw [hlz] at hx
              have := Option.some.inj hx
              omega
            · omega
          subst hkK
          have hsm : z < 128 := by omega
          have hkk := HK.out
          have hlen : k < l.length := by have := HLL.out; omega
          have hgd : l.getD (lead l) 0 = z := by rw [hkk, List.getD_eq_getElem?_getD, hlz]; rfl
          by_cases hbad : (z = 0 ∧ 0 < k) ∨ (k = 9 ∧ 1 < z)
          · have hc : getC l = 4 := getC_longer (by omega) (by omega) (by rw [hgd, hkk]; exact hbad)
            have hv : numV l = 0 := by unfold numV; rw [if_neg (by rw [hc]; decide)]
            obtain rfl : c = 4 := by rw [← HGC.out]; exact hc
            obtain rfl : v = 0 := by rw [← HNV.out]; exact hv
            clear hc hv hgd hlen hkk hlz hnx hN hNv hNlt hz
            rcases hbad with ⟨rfl, hpos⟩ | ⟨rfl, hz1⟩
            · have hposI : (0 : Int) < (k : Int) := by omega
              go_wp2_with (go_at_call 46; refine hn.mono ?_; rintro e w1 ⟨rfl, C2, k2⟩)
              (try rw [Exit.noGoto_ret])
              go_ret2
              exact ⟨rfl, ⟨_, C2, fun h => by cases h⟩, HK1.out.trans k2⟩
            · have hzn : (z == 0) = false := by simp; omega
              go_wp2_with (go_at_call 46; refine hn.mono ?_; rintro e w1 ⟨rfl, C2, k2⟩)
              (try rw [Exit.noGoto_ret])
              go_ret2
              exact ⟨rfl, ⟨_, C2, fun h => by cases h⟩, HK1.out.trans k2⟩
          · have hc : getC l = 0 := getC_ok (by omega) (by omega) (by rw [hgd, hkk]; exact hbad)
            have hfin : bits .or .u64 N (IntKind.u64.wrap (z * 2 ^ (7 * k))) = numV l := by
              unfold numV getV
              rw [if_pos hc, hkk, hnx, ← hNv, show z % 128 = z by omega]
              by_cases h9 : k = 9
              · subst h9
                have hz1 : ¬ 1 < z := fun h => hbad (.inr ⟨rfl, h⟩)
                refine or_step hN0 hNlt z0 ?_ (by decide)
                rw [show ((128 ^ 9 : Nat) : Int) = 9223372036854775808 by decide]
                omega
              · have h8 := pow128 (k := k) (by omega)
                exact or_step hN0 hNlt z0 (mul_small z0 hsm h8) (by omega)
            have HF := Lib.hid hfin
            obtain rfl : c = 0 := by rw [← HGC.out]; exact hc
            have hz2 : z = 0 → k = 0 := fun h => by
              rcases Nat.eq_zero_or_pos k with g1 | g1
              · exact g1
              · exact absurd (.inl ⟨h, g1⟩) hbad
            have hz3 : k = 9 → ¬ 1 < z := fun h h2 => hbad (.inr ⟨h, h2⟩)
            clear hc hgd hlen hkk hlz hnx hN hNv hNlt hz hfin hbad
            by_cases hz0 : z = 0
            · obtain rfl := hz2 hz0
              subst hz0
              obtain rfl : N = 0 := HNV2.out
              obtain rfl : v = 0 := by rw [← HNV.out, ← HF.out]; decide
              clear hz2 hz3
              go_wp2_with (go_at_call 46; refine hn.mono ?_; rintro e w1 ⟨rfl, C2, k2⟩)
              (try rw [Exit.noGoto_ret])
              go_ret2
              first | exact ⟨rfl, C2, HK1.out.trans k2⟩ | exact ⟨rfl, ⟨_, C2, fun _ => by omega⟩, HK1.out.trans k2⟩
            · have hzn : (z == 0) = false := by simpa using hz0
              by_cases hz1 : 1 < z
              · have hk9n : ((k : Int) == 9) = false := by simp; intro h; exact hz3 (by omega) hz1
                clear hz2 hz3
                go_wp2_with (go_at_call 46; refine hn.mono ?_; rintro e w1 ⟨rfl, C2, k2⟩)
                (try rw [Exit.noGoto_ret])
                go_ret2
                first | exact ⟨congrArg (fun x => Ending.returned (.tuple #[.int .u64 x, .int .i64 0])) (HF.out.trans HNV.out), C2, HK1.out.trans k2⟩ | exact ⟨congrArg (fun x => Ending.returned (.tuple #[.int .u64 x, .int .i64 0])) (HF.out.trans HNV.out), ⟨_, C2, fun _ => by omega⟩, HK1.out.trans k2⟩
              · clear hz2 hz3
                go_wp2_with (go_at_call 46; refine hn.mono ?_; rintro e w1 ⟨rfl, C2, k2⟩)
                (try rw [Exit.noGoto_ret])
                go_ret2
                first | exact ⟨congrArg (fun x => Ending.returned (.tuple #[.int .u64 x, .int .i64 0])) (HF.out.trans HNV.out), C2, HK1.out.trans k2⟩ | exact ⟨congrArg (fun x => Ending.returned (.tuple #[.int .u64 x, .int .i64 0])) (HF.out.trans HNV.out), ⟨_, C2, fun _ => by omega⟩, HK1.out.trans k2⟩
end Go.Proofs.Ytgjoiacgdgbcjaa
