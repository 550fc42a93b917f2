/-
  Contracts of package quo: Pow.
-/
import Derived.Test.YtdcdaielfkikhaaQGcd
import Derived.Lib.BitFns
import Derived.Lib.Walk
namespace Go.Proofs.Ytdcdaielfkikhaa
open Go.RowKit
set_option linter.unusedVariables false
set_option linter.unusedSimpArgs false

theorem wrap3 (c : Int) (n : Nat) (h0 : 0 ≤ c) (h1 : c ≤ 56) (hn : n ≤ 8) : wrap64 (c + wrap64 (n : Int)) = c + n := by unfold wrap64; omega
set_option maxHeartbeats 4000000 in
set_option maxRecDepth 100000 in
theorem len64_any (x : Int) (w : World) (hx : 0 ≤ x ∧ x < 65536) :
    Calls Try.prog 65 #[.int .u64 x] w fun e w' => e = .returned (.int .i64 (Lib.bitLen x.toNat)) ∧ w = w' := by
  obtain ⟨h0, h1⟩ := hx
  have hsz : (Lib.len8tab.size : Int) = 256 := by rw [Lib.len8tab_size]; rfl
  go_enter Try.func65, Try.ntmps65
  go_wp2
  all_goals (go_ret; refine ⟨congrArg Ending.returned (congrArg (Value.int IntKind.i64) ?_), rfl⟩)
  · have e : (x / 256).toNat = x.toNat / 256 := by omega
    have t := tab_at (x / 256) (by omega) (by omega) (by rw [Lib.len8tab_size]; omega)
    have l := Lib.bitLen_le8' (x / 256) (by omega) (by omega)
    have s := Lib.bitLen_shift8 x.toNat (by omega) (by omega)
    rw [t, wrap2 _ _ (by omega) (by omega) l, e, s]
    omega
  · have t := tab_at x (by omega) (by omega) (by rw [Lib.len8tab_size]; omega)
    have l := Lib.bitLen_le8' x (by omega) (by omega)
    rw [t, wrap64_small (Lib.bitLen x.toNat) (by omega) (by omega), wrap64_small _ (by omega) (by omega)]
theorem lenU_any (x : Int) (w : World) (hx : 0 ≤ x ∧ x < 65536) :
    Calls Try.prog 51 #[.int .u64 x] w fun e w' => e = .returned (.int .i64 (Lib.bitLen x.toNat)) ∧ w = w' := by
  have h := len64_any x w hx
  obtain ⟨h0, h1⟩ := hx
  go_enter Try.func51, Try.ntmps51
  go_wp2_with fail
  refine h.mono ?_
  rintro e w' ⟨rfl, rfl⟩
  go_wp2_with fail
  go_ret
  exact ⟨rfl, rfl⟩

/-- not too long: few limbs, a small exponent -/
theorem notLong_any {u : Value} {xs : List Int} {a : Option Addr} {capa : Nat} {w : World} (n : Int) (h1 : Arg w u xs a capa) (hx : xs.length ≤ 1000) (hn : 0 ≤ n ∧ n ≤ 1000) :
    Calls Try.prog 50 #[u, .int .i64 n] w fun e w' => e = .returned (.bool false) ∧ w = w' := by
  obtain ⟨hn0, hn1⟩ := hn
  have hbits := bits_res h1 (by omega) (bitsN_is h1.wf)
  have hc := (bitsN_count h1.wf).2.2
  have ht := trim_le xs
  obtain ⟨nb, hnb⟩ : ∃ nb, bitsN xs = nb := ⟨_, rfl⟩
  rw [hnb] at hbits hc
  have hb : nb ≤ 32000 := by omega
  clear hc ht hnb
  go_enter Try.func50, Try.ntmps50
  go_wp2_with fail
  refine hbits.mono ?_
  rintro e w' ⟨rfl, rfl⟩
  clear hbits
  by_cases hg : 0 < (nb : Int) - 1
  · have hq : Int.tdiv 17179869176 ((nb : Int) - 1) = 17179869176 / ((nb : Int) - 1) := Int.tdiv_eq_ediv_of_nonneg (by omega)
    have hq2 : 536870 ≤ 17179869176 / ((nb : Int) - 1) := by
      rw [Int.le_ediv_iff_mul_le hg]
      omega
    have hq3 : 17179869176 / ((nb : Int) - 1) ≤ 17179869176 := Int.ediv_le_self _ (by omega)
    generalize 17179869176 / ((nb : Int) - 1) = q at *
    have hd : decide (q < n) = false := decide_eq_false (by omega)
    have hne : (nb : Int) - 1 ≠ 0 := by omega
    go_wp2
    go_ret
    exact ⟨rfl, rfl⟩
  · have hd : decide (0 < (nb : Int) - 1) = false := decide_eq_false hg
    go_wp2
    go_ret
    exact ⟨rfl, rfl⟩

theorem pow_bound {xs : List Int} (h : Wf xs) (e : Nat) : 0 ≤ val xs ^ e ∧ val xs ^ e ≤ 4294967296 ^ (xs.length * e) := by
  have h0 := val_nonneg h
  have h1 := val_lt h
  induction e with
  | zero => simp
  | succ e ih =>
    obtain ⟨i0, i1⟩ := ih
    rw [Int.pow_succ, Nat.mul_succ, Int.pow_add]
    refine ⟨Int.mul_nonneg i0 h0, ?_⟩
    have a := mul_le_r (c := val xs) h0 i1
    have b := mul_le_l (a := val xs) (b := 4294967296 ^ xs.length) (c := 4294967296 ^ (xs.length * e)) (Int.le_of_lt (pow_pos' _)) (Int.le_of_lt h1)
    omega
theorem pow_len {xs ds : List Int} {e : Nat} (h : Wf xs) (hd : Wf ds) (fd : trimN ds ds.length = ds.length) (hv : val ds = val xs ^ e) : ds.length ≤ xs.length * e + 1 := by
  refine full_len hd fd ?_
  have h1 := (pow_bound h e).2
  have h2 : (4294967296 : Int) ^ (xs.length * e) < 4294967296 ^ (xs.length * e + 1) := by
    rw [Int.pow_succ]; have := pow_pos' (xs.length * e); omega
  omega
theorem and_one64 (x : Nat) (h : x < 2147483648) : bits .and .i64 (x : Int) 1 = ((x % 2 : Nat) : Int) := by
  show IntKind.i64.wrap ((BitVec.ofInt 64 (x : Int) &&& BitVec.ofInt 64 ((1 : Nat) : Int)).toNat : Int) = _
  rw [BitVec.toNat_and, ofInt_u64 x (by omega), ofInt_u64 1 (by omega), Nat.and_one_is_mod]
  exact IntWalk.i64_in _ (by omega)
theorem and_shift (N j b : Nat) (h : N < 2147483648) (hb : N / 2 ^ j % 2 = b) : bits .and .i64 ((N : Int) / 2 ^ j) 1 = (b : Int) := by
  have e : (N : Int) / 2 ^ j = ((N / 2 ^ j : Nat) : Int) := by simp
  rw [e, and_one64 _ (Nat.lt_of_le_of_lt (Nat.div_le_self _ _) h), hb]
theorem half_step (N j : Nat) : (N / 2 ^ j % 2 = 1 ∧ N / 2 ^ j = N / 2 ^ (j + 1) + N / 2 ^ (j + 1) + 1) ∨ (N / 2 ^ j % 2 = 0 ∧ N / 2 ^ j = N / 2 ^ (j + 1) + N / 2 ^ (j + 1)) := by
  have h : N / 2 ^ (j + 1) = N / 2 ^ j / 2 := by rw [Nat.pow_succ, Nat.div_div_eq_div_mul]
  rw [h]
  omega

set_option maxRecDepth 100000 in
set_option maxHeartbeats 2000000 in
theorem pow_any {u : Value} {xs : List Int} {a : Option Addr} {capa : Nat} {w : World} (n : Int) (h1 : Arg w u xs a capa) (hx : xs.length ≤ 1000) (hn : -9223372036854775808 ≤ n ∧ n ≤ 1000) :
    Calls Try.prog 28 #[u, .int .i64 n] w fun e w' => ∃ r zs, e = .returned r ∧ Res w.heap.size w' r zs (val xs ^ n.toNat) ∧ zs.length ≤ xs.length * n.toNat + 1 ∧ Below w.heap.size w w' := by
  obtain ⟨hn0, hn1⟩ := hn
  obtain ⟨N, hN⟩ : ∃ N, n.toNat = N := ⟨_, rfl⟩
  have hmax : max n 0 = (N : Int) := by omega
  have hN2 : N ≤ 1000 := by omega
  rw [hN]
  clear hN
  have hlong := notLong_any (w := w) (N : Int) h1 hx (by omega)
  have hlen := lenU_any (N : Int) 
  obtain ⟨B, hB⟩ : ∃ B, Lib.bitLen N = B := ⟨_, rfl⟩
  have hB2 : N < 2 ^ B ∧ B ≤ 10 := by
    rw [← hB]
    rcases Nat.eq_zero_or_pos N with h | h
    · subst h; decide
    · obtain ⟨_, _, c⟩ := Lib.bitLenAux_bounds 64 N (by omega) (by omega)
      exact ⟨c, Lib.bitLen_le N 10 (by omega) (by omega)⟩
  rw [Int.toNat_natCast, hB] at hlen
  obtain ⟨hB3, hB4⟩ := hB2
  have hN0 : N / 2 ^ B = 0 := Nat.div_eq_of_lt hB3
  have HN0 := Lib.hid hN0
  have HN3 := Lib.hid hB3
  clear hN0 hB hB3
  go_enter Try.func28, Try.ntmps28
  go_wp2_with fail
  refine hlong.mono ?_
  rintro e w' ⟨rfl, rfl⟩
  clear hlong
  go_wp2_with fail
  refine (ofN_any 1 _ (by omega) (by omega)).mono ?_
  rintro e w1 ⟨r1, z1, rfl, q1, n1, hb1⟩
  have A1 := h1.later hb1
  have hlen1 := hlen w1 (by omega)
  go_wp2_with fail
  refine hlen1.mono ?_
  rintro e w' ⟨rfl, rfl⟩
  clear hlen hlen1
  go_wp2
  go_loopw [5, 6] (fun s i wr => ∃ (k : Nat) (q : Value) (ds : List Int), k ≤ B ∧ q = s ∧ i = .int .i64 ((k : Int) - 1) ∧ Res w.heap.size wr q ds (val xs ^ (N / 2 ^ k)) ∧ Below w.heap.size w wr) (fun _ i _ => (intOf i + 1).toNat)
  case atStart => exact ⟨B, _, z1, Nat.le_refl _, rfl, rfl, by rw [HN0.out]; simpa using q1, hb1⟩
  case round =>
    obtain ⟨k, q, ds, hk, rfl, rfl, hres, hb⟩ := hrel
    have hsz := hb.size
    have hpl := pow_len h1.wf hres.wf hres.full hres.eq
    clear q1 n1 hb1 A1
    by_cases hgo : 0 < k
    · obtain ⟨j, rfl⟩ : ∃ j, k = j + 1 := ⟨k - 1, by omega⟩
      have hji : (((j + 1 : Nat) : Int) - 1) = (j : Int) := by omega
      rw [hji]
      have hmul : xs.length * (N / 2 ^ (j + 1)) ≤ 1000 * 1000 := Nat.mul_le_mul hx (Nat.le_trans (Nat.div_le_self _ _) hN2)
      obtain ⟨ad, cap, A⟩ := hres.arg
      have hge : (0 : Int) ≤ (j : Int) := by omega
      go_wp2_with fail
      refine (mul_res A A (by omega) (by omega)).mono ?_
      rintro e w2 ⟨r2, z2, rfl, q2, n2, hb2⟩
      have A2 := (h1.later hb).later hb2
      obtain ⟨ad2, cap2, A3⟩ := q2.arg
      have hB2 := hb.trans (hb2.mono hsz)
      have hv2 : val z2 = val xs ^ (N / 2 ^ (j + 1) + N / 2 ^ (j + 1)) := by rw [q2.eq, hres.eq, ← Int.pow_add]
      have hml : z2.length ≤ xs.length * (N / 2 ^ (j + 1) + N / 2 ^ (j + 1)) + 1 := pow_len h1.wf q2.wf q2.full hv2
      have hmul2 : xs.length * (N / 2 ^ (j + 1) + N / 2 ^ (j + 1)) ≤ 2000000 := by rw [Nat.mul_add]; omega
      rcases half_step N j with ⟨hb, he⟩ | ⟨hb, he⟩
      · have hand := and_shift N j 1 (by omega) hb
        have h11 : (((1 : Nat) : Int) == 1) = true := by decide
        have HE := Lib.hid he
        clear he hb
        go_wp2_with fail
        refine (mul_res A3 A2 (by omega) (by omega)).mono ?_
        rintro e w3 ⟨r3, z3, rfl, q3, n3, hb3⟩
        have hB3 := hB2.trans (hb3.mono (by have := hb2.size; omega))
        have hv3 : val z3 = val xs ^ (N / 2 ^ j) := by rw [q3.eq, hv2, HE.out, Int.pow_succ]
        have HV := Lib.hid hv3
        have hs2 := hb2.size
        clear hv3 hand
        go_wp2
        go_roundw
        case rel => exact ⟨j, r3, z3, by omega, rfl, rfl, ⟨q3.num.mono (by omega), q3.wf, q3.full, HV.out⟩, hB3⟩
        case measure => simp [intOf]
      · have hand := and_shift N j 0 (by omega) hb
        have h11 : (((0 : Nat) : Int) == 1) = false := by decide
        have hv3 : val z2 = val xs ^ (N / 2 ^ j) := by rw [hv2, he]
        have HV := Lib.hid hv3
        clear hv3 he hb
        go_wp2
        go_roundw
        case rel => exact ⟨j, r2, z2, by omega, rfl, rfl, ⟨q2.num.mono (by omega), q2.wf, q2.full, HV.out⟩, hB2⟩
        case measure => simp [intOf]
    · obtain rfl : k = 0 := by omega
      have hji : (((0 : Nat) : Int) - 1) = -1 := by omega
      rw [hji]
      have e : N / 2 ^ 0 = N := by simp
      rw [e] at hres hpl
      go_wp2
      go_ret
      exact ⟨_, ds, rfl, hres, hpl, hb⟩
end Go.Proofs.Ytdcdaielfkikhaa
