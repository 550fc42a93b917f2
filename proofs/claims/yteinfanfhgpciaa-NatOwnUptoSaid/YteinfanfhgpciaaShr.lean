/-
  Contracts of package nat: Shr.
-/
import Derived.Test.YteinfanfhgpciaaNatD
namespace Go.Proofs.Yteinfanfhgpciaa
open Go.RowKit

/-- limbs, shifted down by fewer than 32 places -/
def shrW (q : Nat) : List Int → List Int
  | [] => []
  | x :: L => ((4294967296 * L.getD 0 0 + x) / 2 ^ q) % 4294967296 :: shrW q L
theorem shrW_length (q : Nat) (L : List Int) : (shrW q L).length = L.length := by
  induction L with
  | nil => rfl
  | cons x L ih => simp [shrW, ih]
theorem shrW_wf (q : Nat) (L : List Int) : Wf (shrW q L) := by
  induction L with
  | nil => exact Wf.nil
  | cons x L ih => exact Wf.cons (by omega) ih
theorem shrW_at (q : Nat) (L : List Int) (i : Nat) (h : i < L.length) : (shrW q L).getD i 0 = ((4294967296 * L.getD (i + 1) 0 + L.getD i 0) / 2 ^ q) % 4294967296 := by
  induction L generalizing i with
  | nil => simp at h
  | cons x L ih =>
    cases i with
    | zero => simp [shrW]
    | succ i =>
      have := ih i (by simpa using h)
      simpa [shrW] using this
theorem val_head (L : List Int) : val L = L.getD 0 0 + 4294967296 * val L.tail := by
  cases L with
  | nil => simp [val]
  | cons x L => simp [val]
theorem val_shrW (q : Nat) (hq : q < 32) {L : List Int} (hw : Wf L) : val (shrW q L) = val L / 2 ^ q := by
  induction L with
  | nil => simp [shrW, val]
  | cons x L ih =>
    simp only [shrW, val]
    rw [ih hw.tail]
    have hx := hw.head
    have hy := hw.tail.getD 0
    have hP := two_pos q
    have hB : (4294967296 : Int) = 2 ^ q * 2 ^ (32 - q) := by rw [← Int.pow_add, show q + (32 - q) = 32 from by omega]; rfl
    have hv := val_head L
    generalize val L.tail = z at hv
    generalize L.getD 0 0 = y at *
    rw [hv]
    generalize hPd : (2 : Int) ^ q = P at *
    generalize hQd : (2 : Int) ^ (32 - q) = Q at *
    have e1 : (y + 4294967296 * z) / P = y / P + Q * z := by
      rw [show y + 4294967296 * z = y + P * (Q * z) from by rw [← Int.mul_assoc, ← hB], Int.add_mul_ediv_left _ _ (by omega)]
    have e2 : (x + 4294967296 * (y + 4294967296 * z)) / P = (4294967296 * y + x) / P + 4294967296 * (Q * z) := by
      rw [show x + 4294967296 * (y + 4294967296 * z) = 4294967296 * y + x + P * (4294967296 * (Q * z)) from by
        rw [show P * (4294967296 * (Q * z)) = 4294967296 * (P * Q * z) from by rw [Int.mul_assoc P Q z, Int.mul_left_comm], ← hB]; omega]
      rw [Int.add_mul_ediv_left _ _ (by omega)]
    have e3 : (4294967296 * y + x) / P / 4294967296 = y / P := by
      rw [Int.ediv_ediv_of_nonneg (by omega), Int.mul_comm P, ← Int.ediv_ediv_of_nonneg (by omega)]
      congr 1
      omega
    have e4 := Int.mul_ediv_add_emod ((4294967296 * y + x) / P) 4294967296
    rw [e3] at e4
    rw [e1, e2]
    generalize y / P = Y at *
    generalize (4294967296 * y + x) / P = D at *
    generalize Q * z = S at *
    omega
theorem shift_parts (n : Int) (h : n ≤ 9223372036854775807) : ∃ wh q : Nat, max n 0 / 32 = wh ∧ max n 0 % 32 = q ∧ n.toNat = wh * 32 + q ∧ q < 32 ∧ wh ≤ 288230376151711744 :=
  ⟨n.toNat / 32, n.toNat % 32, by omega, by omega, by omega, by omega, by omega⟩
theorem val_shr {xs : List Int} (wh q : Nat) (hw : Wf xs) : val xs / 2 ^ (wh * 32 + q) = val (xs.drop wh) / 2 ^ q := by
  rw [Int.pow_add, ← pow_limb, ← Int.ediv_ediv_of_nonneg (Int.le_of_lt (pow_pos' _))]
  congr 1
  rcases Nat.lt_or_ge wh xs.length with h | h
  · have e := val_append (xs.take wh) (xs.drop wh)
    rw [List.take_append_drop, List.length_take, Nat.min_eq_left (by omega)] at e
    have h1 := val_nonneg (hw.take wh)
    have h2 := val_lt (hw.take wh)
    rw [List.length_take, Nat.min_eq_left (by omega)] at h2
    rw [e, Int.add_mul_ediv_left _ _ (by have := pow_pos' wh; omega), Int.ediv_eq_zero_of_lt h1 h2, Int.zero_add]
  · rw [List.drop_of_length_le h]
    have h2 := val_lt hw
    have h4 : (4294967296 : Int) ^ xs.length ≤ 4294967296 ^ wh := by rw [pow_limb, pow_limb]; exact two_mono (by omega)
    rw [Int.ediv_eq_zero_of_lt (val_nonneg hw) (by omega)]
    rfl

set_option maxHeartbeats 2000000 in
theorem shr_any {u : Value} {xs : List Int} {a : Option Addr} {capa : Nat} {w : World} (n : Int) (h1 : Arg w u xs a capa) (hx : xs.length ≤ 35184372088832) (hn1 : -9223372036854775808 ≤ n) (hn2 : n ≤ 9223372036854775807) :
    Calls Try.prog 37 #[u, .int .i64 n] w fun e w' => ∃ r zs, e = .returned r ∧ Res w.heap.size w' r zs (val xs / 2 ^ n.toNat) ∧ zs.length ≤ xs.length ∧ Below w.heap.size w w' := by
  obtain ⟨rfl, hl, hcap, hwf⟩ := h1
  obtain ⟨wh, q, e1, e2, e3, hq, hwh⟩ := shift_parts n hn2
  have hta := trim_le xs
  have hval : val xs / 2 ^ n.toNat = val ((trim xs).drop wh) / 2 ^ q := by rw [e3, ← val_shr wh q hwf.trim, val_trim]
  have hwt := hwf.trim
  have htl := trim_length xs
  have hlt : Lim w a (trim xs) := hl.take _
  rw [hval]
  have sp := split_any n w hn1 hn2
  rw [e1, e2] at sp
  obtain ⟨t, ht⟩ : ∃ t, trimN xs xs.length = t := ⟨_, rfl⟩
  rw [ht] at hta htl
  generalize trim xs = ys at *
  have HT := Lib.hid htl
  have HTT := Lib.hid ht
  clear hval e1 e2 e3 htl ht hwf
  go_enter Try.func37, Try.ntmps37
  go_wp2_with fail
  refine sp.mono ?_
  rintro e w' ⟨rfl, rfl⟩
  clear sp
  go_wp2_with fail
  refine (cut_any a xs capa _ hl (by unfold maxLen; omega) hcap).mono ?_
  rintro e w' ⟨rfl, rfl⟩
  rw [HTT.out]
  by_cases hge : t ≤ wh
  · have hge2 : (t : Int) ≤ (wh : Int) := by omega
    go_wp2
    go_ret
    exact ⟨_, [], rfl, ⟨World.ownsRow_nil _ _ _ _, Wf.nil, rfl, by rw [List.drop_of_length_le (by rw [HT.out]; exact hge)]; simp [val]⟩, by simp, Below.refl _ _⟩
  · obtain ⟨m, hm⟩ : ∃ m, wh + m = t := ⟨t - wh, by omega⟩
    have hlt2 : ¬ (t : Int) ≤ (wh : Int) := by omega
    have hsub : (t : Int) - (wh : Int) = (m : Int) := by omega
    have hmk := make_runN m m (Nat.le_refl _) (by omega)
    obtain ⟨L, hL⟩ : ∃ L, shrW q (ys.drop wh) = L := ⟨_, rfl⟩
    have hLl : L.length = m := by rw [← hL, shrW_length, List.length_drop, HT.out]; omega
    have HL := Lib.hid hL
    have HLL := Lib.hid hLl
    have hcapt : t ≤ capa := by omega
    clear hL hLl
    go_wp2
    go_loopw [8, 27] (fun _ i wr => ∃ k : Nat, k ≤ m ∧ i = .int .i64 k ∧ Blk wr w.heap.size (L.take k ++ List.replicate (m - k) 0) ∧ Below w.heap.size w wr) (fun _ i _ => m - (intOf i).toNat)
    case atStart => exact ⟨0, Nat.zero_le _, rfl, by simpa using Blk.made w m, (Below.refl _ w).alloc (Nat.le_refl _) _⟩
    case round =>
      obtain ⟨k, hk, rfl, hblk, hb⟩ := hrel
      by_cases hkm : k < m
      · have hkm2 : (k : Int) < (m : Int) := by omega
        have hlz : (L.take k ++ List.replicate (m - k) 0).length = m := by rw [List.length_append, List.length_take, HLL.out, List.length_replicate]; omega
        have hcell := hblk.cell k (by omega)
        have hfree := hblk.free k
        have hset := hblk.set k (L.getD k 0)
        rw [set_mid _ _ _ _ (by rw [List.length_take, HLL.out]; omega) hkm] at hset
        have hpr := pair_any a ys capa ((wh : Int) + k) wr (hlt.later hb) (by rw [HT.out]; unfold maxLen; omega) (by omega) (by omega) hwt
        have ei : ((wh : Int) + k).toNat = wh + k := by omega
        rw [ei, HT.out] at hpr
        have hLk : L.getD k 0 = ((4294967296 * ys.getD (wh + k + 1) 0 + ys.getD (wh + k) 0) / 2 ^ q) % 4294967296 := by
          rw [← HL.out, shrW_at _ _ _ (by rw [List.length_drop, HT.out]; omega)]
          simp [List.getElem?_drop, Nat.add_assoc]
        obtain ⟨p0, p1⟩ : 0 ≤ 4294967296 * ys.getD (wh + k + 1) 0 + ys.getD (wh + k) 0 ∧ 4294967296 * ys.getD (wh + k + 1) 0 + ys.getD (wh + k) 0 < 18446744073709551616 := by have b1 := hwt.getD (wh + k + 1); have b0 := hwt.getD (wh + k); omega
        obtain ⟨d, hd⟩ : ∃ d, 4294967296 * ys.getD (wh + k + 1) 0 + ys.getD (wh + k) 0 = d := ⟨_, rfl⟩
        rw [hd] at hpr hLk p0 p1
        have hp := two_pos q
        have d0 : 0 ≤ d / 2 ^ q := Int.ediv_nonneg p0 (by omega)
        have d1 : d / 2 ^ q ≤ d := Int.ediv_le_self _ p0
        have HSET := Lib.hid hset
        have HLK := Lib.hid hLk
        clear hset hLk hlz hd ei hblk
        go_wp2_with fail
        refine hpr.mono ?_
        rintro e w' ⟨rfl, rfl⟩
        go_wp2
        go_roundw
        case rel =>
          refine ⟨k + 1, by omega, by go_num, ?_, hb.setCell (p := ⟨w.heap.size, k, none⟩) (Nat.le_refl _) _⟩
          have e : L.take (k + 1) = L.take k ++ [L.getD k 0] := by
            have hl := HLL.out
            rw [List.take_succ_eq_append_getElem (by omega)]
            simp [show k < L.length by omega]
          rw [e, ← HLK.out]
          exact HSET.out
        case measure => simp [intOf]; omega
      · obtain rfl : k = m := by omega
        have hl := HLL.out
        rw [Nat.sub_self, List.replicate_zero, List.append_nil, List.take_of_length_le (by omega)] at hblk
        have hnum := Num.ofBlk hblk (Nat.le_refl _) k (by omega) (by rw [hl]; unfold maxLen; omega)
        rw [hl, List.take_of_length_le (by omega)] at hnum
        have hv : val L = val (ys.drop wh) / 2 ^ q := by rw [← HL.out]; exact val_shrW q hq (hwt.drop wh)
        have wL : Wf L := by rw [← HL.out]; exact shrW_wf _ _
        have HV := Lib.hid hv
        clear hv hblk
        go_wp2_with fail
        refine (cut_num hnum).mono ?_
        rintro e w' ⟨z, rfl, hz, rfl⟩
        go_wp2_with fail
        go_ret
        exact ⟨_, _, rfl, ⟨hz, wL.trim, trim_full _, by rw [val_trim, HV.out]⟩, by have := trim_len_le L; have h2 := HLL.out; omega, hb⟩
end Go.Proofs.Yteinfanfhgpciaa
