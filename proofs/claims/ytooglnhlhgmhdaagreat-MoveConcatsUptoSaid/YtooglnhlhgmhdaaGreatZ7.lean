/-
  A row of limbs in memory, with room behind it: reading it, storing into it.
-/
import Derived.Test.YtooglnhlhgmhdaaGreatZ1
import Derived.Test.YtooglnhlhgmhdaaGreatZ2
import Derived.Test.YtooglnhlhgmhdaaGreatZ3
import Derived.Test.YtooglnhlhgmhdaaGreatZ5
import Derived.WalkKit
import Derived.Test.YtooglnhlhgmhdaaGreatRows
import Derived.BigQuiet
import Derived.Deep.QuietTactic
import Derived.Lib.Hide
import Derived.Lib.Small
import Derived.Lib.Walk
import Derived.Lib.BitFns
import Derived.Maps.AppendAt
import Derived.RangeFuncNested
import Derived.RangeFuncBound
import Derived.RangeFuncCalls
import Derived.RangeFuncLeaves
import Derived.Shelf.Abstract
import Derived.OwnWalkIn
import Derived.TacticsInMore
import Derived.LoopNIn
import Derived.LoopIn
import Derived.RangeFuncBox
import Derived.Deep.RegionHeld3
import Derived.OrdersIn
import Derived.StillTailTactics
import Derived.RangeFuncFrom
import Derived.Laws.EntriesVeiled
import Derived.ProofKit
import Derived.OpenShut
import Derived.JoinedCond
import Derived.Carry
import Derived.Laws.AppendOwnNone
import Derived.Lib.ItoaNum
import Derived.Deep.RegionLaw
namespace Go.Proofs.YtooglnhlhgmhdaaGreat
set_option maxRecDepth 100000
section
open Go.RowKit
set_option maxHeartbeats 400000 in
theorem canonical_true {u : Value} {xs : List Int} {a : Option Addr} {capa : Nat} {w : World} (h1 : Arg w u xs a capa) (hx : xs.length ≤ 70368744177664) (hf : trimN xs xs.length = xs.length) :
    Calls Tryz.prog 118 #[u] w fun e w' => e = .returned (.bool true) ∧ w = w' := by
  obtain ⟨rfl, lx, _, _⟩ := h1
  have hl := trimN_last xs xs.length
  rw [hf] at hl
  have HF := Lib.hid hf
  clear hf
  rcases lx with rfl | ⟨b, off, rfl, hc⟩
  · clear hl
    go_enter Tryz.func118, Tryz.ntmps118
    have h0 : ((0 : Int) == 0) = true := by decide
    go_wp2
    go_ret
    exact ⟨rfl, rfl⟩
  · obtain ⟨m, hm⟩ : ∃ m, xs.length = m := ⟨_, rfl⟩
    rw [hm] at hl hc hx
    rw [hm]
    cases m with
    | zero =>
      clear hl hc
      have h0 : ((0 : Int) == 0) = true := by decide
      go_enter Tryz.func118, Tryz.ntmps118
      go_wp2
      go_ret
      exact ⟨rfl, rfl⟩
    | succ j =>
      have hj := hc j (by omega)
      have hne := hl (by omega)
      rw [Nat.add_sub_cancel] at hne
      obtain ⟨x, hxk⟩ : ∃ x, xs.getD j 0 = x := ⟨_, rfl⟩
      rw [hxk] at hj hne
      have hne2 : (x != 0) = true := by simp [hne]
      have h1 : ((j : Int) + 1 == 0) = false := by simp; omega
      clear hl hc hne hxk hm
      go_enter Tryz.func118, Tryz.ntmps118
      go_wp2
      go_ret
      exact ⟨rfl, rfl⟩
set_option maxHeartbeats 400000 in
theorem is_true {u v : Value} {ds zs : List Int} {a b : Option Addr} {capa capb : Nat} {w : World} (h1 : ArgD w u ds a capa) (h2 : Arg w v zs b capb) (hx : ds.length ≤ 68719476736) (hy : zs.length ≤ 134217728)
    (hf : trimN zs zs.length = zs.length) (h : valD ds = val zs) :
    Calls Tryz.prog 97 #[u, v] w fun e w' => e = .returned (.bool true) ∧ Below w.heap.size w w' := by
  go_enter Tryz.func97, Tryz.ntmps97
  go_wp2_with fail
  refine (canonical_true h2 (by omega) hf).mono ?_
  rintro e w' ⟨rfl, rfl⟩
  go_wp2_with fail
  refine (of_any h2 hy).mono ?_
  rintro e w1 ⟨r, rfl, qs, hq, hl, hb⟩
  obtain ⟨ad, cap, A⟩ := hq.arg
  have h1' := h1.later hb
  go_wp2_with fail
  refine (cmpD_any A h1' (by omega) hx).mono ?_
  rintro e w2 ⟨rfl, hb2⟩
  rw [hq.eq, h, sign_self]
  have h0 : ((0 : Int) == 0) = true := by decide
  go_wp2_with fail
  go_ret
  exact ⟨rfl, hb.trans (hb2.mono hb.size)⟩
set_option maxHeartbeats 400000 in
theorem own_any {u : Value} {xs : List Int} {a : Option Addr} {capa : Nat} {w : World} (h1 : Arg w u xs a capa) (hx : xs.length ≤ 134217728) (hn : a = none → capa = 0) :
    Calls Tryz.prog 89 #[u] w fun e w' => ∃ r, e = .returned r ∧ Num w.heap.size w' r xs ∧ ∃ ad cap, Arg w' r xs ad cap ∧ (ad = none → cap = 0) ∧ Below w.heap.size w w' := by
  obtain ⟨rfl, lx, hle, wx⟩ := h1
  obtain ⟨i0, hi, hz0, hz1, hz2⟩ := info_parts infoLimb
  cases a with
  | none =>
    have hc := hn rfl
    subst hc
    have hxs : xs = [] := List.eq_nil_of_length_eq_zero (by omega)
    subst hxs
    have hnil := World.ownsRow_nil w w.heap.size 63 1
    have hrun := run_append_owned_none (P := Tryz.prog) w w.heap.size 56 56 63 i0 1 Tryz.underlying56 hi (.slice none 0 0) 0 [] hnil
    go_enter Tryz.func89, Tryz.ntmps89
    go_wp2
    go_ret
    exact ⟨_, rfl, hnil, none, 0, ⟨rfl, .inl rfl, Nat.le_refl _, Wf.nil⟩, fun _ => rfl, Below.refl _ _⟩
  | some ad =>
    have hnil := World.ownsRow_nil w w.heap.size 63 1
    have hcells : ∀ j u, (xs.map (Value.int .u32))[j]? = some u → w.cell? (ad.add j) = some u := by
      intro j u hj
      rcases lx with rfl | ⟨b, off, e, hc⟩
      · simp at hj
      · cases e
        rw [List.getElem?_map] at hj
        have hjl : j < xs.length := by
          rcases Nat.lt_or_ge j xs.length with h | h
          · exact h
          · rw [List.getElem?_eq_none h] at hj; cases hj
        rw [show (⟨b, off, none⟩ : Addr).add j = ⟨b, off + j, none⟩ from (by unfold Addr.add; split <;> simp_all), hc j hjl, ← hj]
        simp [hjl]
    go_enter Tryz.func89, Tryz.ntmps89
    go_wp2_with (at_builtin; refine wpList_append_own _ rfl _ _ 56 rfl w.heap.size 63 i0 (.int .u32 0) 1 4 Tryz.underlying56 hi hz0 hz1 hz2 rfl (by decide) _ 0 [] rfl hnil ad xs.length capa (xs.map (Value.int .u32)) rfl (by simp) hcells (ints_oneCell _ _) (by unfold maxLen; omega) (by omega) (Nat.le_refl _) ?_; intro v' w1 hown' hgrow _)
    have hnum : Num w.heap.size w1 v' xs := by
      unfold Num
      simpa using hown'
    have hb : Below w.heap.size w w1 := (Below.refl _ w).grown hgrow (Nat.le_refl _) (fun k hk => by cases hk)
    obtain ⟨ad', cap', h1, h2, h3, h4, h5⟩ := hnum.read
    go_wp2
    go_ret
    refine ⟨_, rfl, hnum, ad', cap', ⟨h1, h2, h3, wx⟩, ?_, hb⟩
    intro hno
    subst hno
    rcases hnum.2 with ⟨e, _⟩ | ⟨g, cp, cur, e, _⟩
    · rw [h1] at e; simp only [Value.slice.injEq] at e; exact e.2.2
    · rw [h1] at e; simp at e
end
section
open Go.RowKit
theorem bitLen_is {t : Int} (h0 : 0 < t) (h1 : t < 18446744073709551616) : ∃ j : Nat, Lib.bitLen t.toNat = j + 1 ∧ 2 ^ j ≤ t ∧ t < 2 ^ (j + 1) := by
  obtain ⟨n, rfl⟩ := Int.eq_ofNat_of_zero_le (Int.le_of_lt h0)
  obtain ⟨a, b, c⟩ := Lib.bitLenAux_bounds 64 n (by omega) (by omega)
  rw [Int.toNat_natCast]
  unfold Lib.bitLen
  refine ⟨Lib.bitLenAux 64 n - 1, by omega, ?_, ?_⟩
  · exact_mod_cast b
  · rw [show Lib.bitLenAux 64 n - 1 + 1 = Lib.bitLenAux 64 n from by omega]; exact_mod_cast c
theorem pow_limb (m : Nat) : (4294967296 : Int) ^ m = 2 ^ (m * 32) := by rw [Nat.mul_comm, Int.pow_mul, show (2 : Int) ^ 32 = 4294967296 from rfl]
theorem bitsN_is {xs : List Int} (hx : Wf xs) : IsBits (val xs) (bitsN xs) := by
  unfold bitsN
  split
  · rename_i h
    refine .inl ⟨rfl, ?_⟩
    rw [← val_trim xs]
    unfold trim
    rw [h]
    rfl
  · rename_i h
    obtain ⟨m, hm⟩ : ∃ m, trimN xs xs.length = m + 1 := ⟨trimN xs xs.length - 1, by omega⟩
    have hne := trimN_last xs xs.length (by omega)
    have hv := val_take_ge xs (m + 1) (by omega)
    rw [hm, Nat.add_sub_cancel] at hne ⊢
    rw [val_take_succ] at hv
    have b1 := hx.getD m
    have b2 := val_nonneg (hx.take m)
    have b3 := val_lt (hx.take m)
    have b4 : (4294967296 : Int) ^ (xs.take m).length = 4294967296 ^ m := by rw [List.length_take, Nat.min_eq_left (by have := trim_le xs; omega)]
    rw [b4] at b3
    obtain ⟨j, hj, h1, h2⟩ := bitLen_is (show 0 < xs.getD m 0 by omega) (by omega)
    rw [hj]
    refine .inr ⟨m * 32 + j, rfl, ?_⟩
    rw [show m * 32 + j + 1 = m * 32 + (j + 1) from rfl, Int.pow_add, Int.pow_add, ← pow_limb]
    have hp := pow_pos' m
    generalize xs.getD m 0 = x at *
    generalize (4294967296 : Int) ^ m = P at *
    generalize val (xs.take m) = V at *
    have c1 : P * 2 ^ j ≤ P * x := Int.mul_le_mul_of_nonneg_left h1 (by omega)
    have c2 : P * (x + 1) ≤ P * 2 ^ (j + 1) := Int.mul_le_mul_of_nonneg_left (by omega) (by omega)
    rw [Int.mul_add, Int.mul_one] at c2
    omega
theorem two_limbs {xs : List Int} (hx : Wf xs) (h : bitsN xs ≤ 64) : 4294967296 * xs.getD 1 0 + xs.getD 0 0 = val xs := by
  have hb := (bitsN_is hx).lt (m := 64) h
  have ht : trimN xs xs.length ≤ 2 := by
    rcases Nat.lt_or_ge 2 (trimN xs xs.length) with e | e
    · exfalso
      have h1 := full_ge hx.trim (trim_full xs) (trimN xs xs.length - 1) (by rw [trim_length]; omega)
      rw [val_trim] at h1
      have h2 : (2 : Int) ^ 64 ≤ 4294967296 ^ (trimN xs xs.length - 1) := by rw [pow_limb]; exact two_mono (by omega)
      omega
    · exact e
  rw [← val_take_ge xs 2 ht, val_take_succ, val_take_succ]
  simp [val]
  omega
theorem bits_res {u : Value} {xs : List Int} {a : Option Addr} {capa : Nat} {w : World} {n : Nat} (h1 : Arg w u xs a capa) (hx : xs.length ≤ 35184372088832) (hn : IsBits (val xs) n) :
    Calls Tryz.prog 124 #[u] w fun e w' => e = .returned (.int .i64 n) ∧ w = w' := by
  rw [h1.is]
  refine (bits_any a xs capa w h1.lim hx h1.le h1.wf).mono fun e w' ⟨he, hw⟩ => ⟨?_, hw⟩
  rw [he, hn.unique (bitsN_is h1.wf)]
theorem uint_small {u : Value} {xs : List Int} {a : Option Addr} {capa : Nat} {w : World} (h1 : Arg w u xs a capa) (hx : xs.length ≤ 35184372088832) (hn : val xs < 18446744073709551616) :
    Calls Tryz.prog 136 #[u] w fun e w' => e = .returned (.tuple #[.int .u64 (val xs), .bool true]) ∧ w = w' := by
  rw [h1.is]
  have hb : bitsN xs ≤ 64 := (bitsN_is h1.wf).le (m := 64) hn
  refine (uint_any a xs capa w h1.lim hx h1.le h1.wf).mono fun e w' ⟨he, hw⟩ => ⟨?_, hw⟩
  rw [he, if_pos hb, two_limbs h1.wf hb]
theorem uint_big {u : Value} {xs : List Int} {a : Option Addr} {capa : Nat} {w : World} (h1 : Arg w u xs a capa) (hx : xs.length ≤ 35184372088832) (hn : 18446744073709551616 ≤ val xs) :
    Calls Tryz.prog 136 #[u] w fun e w' => e = .returned (.tuple #[.int .u64 0, .bool false]) ∧ w = w' := by
  rw [h1.is]
  have hb : ¬ bitsN xs ≤ 64 := fun h => by have := (bitsN_is h1.wf).lt (m := 64) h; omega
  refine (uint_any a xs capa w h1.lim hx h1.le h1.wf).mono fun e w' ⟨he, hw⟩ => ⟨?_, hw⟩
  rw [he, if_neg hb]
set_option maxHeartbeats 400000 in
theorem ofN_any (n : Int) (w : World) (h0 : 0 ≤ n) (h1 : n < 18446744073709551616) :
    Calls Tryz.prog 113 #[.int .u64 n] w fun e w' => ∃ r zs, e = .returned r ∧ Res w.heap.size w' r zs n ∧ zs.length ≤ 2 ∧ Below w.heap.size w w' := by
  have hwf : Wf [n % 4294967296, n / 4294967296] := wf2 (by omega) (by omega)
  have hnum := Num.ofBlk (base := w.heap.size) (g := w.heap.size) (Blk.lit w [n % 4294967296, n / 4294967296]) (Nat.le_refl _) 2 (by simp) (by unfold maxLen; simp)
  go_enter Tryz.func113, Tryz.ntmps113
  go_wp2_with fail
  refine (cut_num hnum).mono ?_
  rintro e w' ⟨u, rfl, hu, rfl⟩
  go_wp2_with fail
  go_ret
  refine ⟨_, _, rfl, ⟨hu, hwf.trim, trim_full _, by rw [val_trim]; simp [val]; omega⟩, ?_, (Below.refl _ w).alloc (Nat.le_refl _) _⟩
  exact trim_len_le [n % 4294967296, n / 4294967296]
end
section
open Go.RowKit
/-- limbs, shifted down by fewer than 32 places -/
def shrW (q : Nat) : List Int → List Int
  | [] => []
  | x :: L => ((4294967296 * L.getD 0 0 + x) / 2 ^ q) % 4294967296 :: shrW q L
theorem shrW_length (q : Nat) (L : List Int) : (shrW q L).length = L.length := by
  induction L with
  | nil => rfl
  | cons x L ih => simp [shrW, ih]
theorem shrW_wf (q : Nat) (L : List Int) : Wf (shrW q L) := by
  induction L with
  | nil => exact Wf.nil
  | cons x L ih => exact Wf.cons (by omega) ih
theorem shrW_at (q : Nat) (L : List Int) (i : Nat) (h : i < L.length) : (shrW q L).getD i 0 = ((4294967296 * L.getD (i + 1) 0 + L.getD i 0) / 2 ^ q) % 4294967296 := by
  induction L generalizing i with
  | nil => simp at h
  | cons x L ih =>
    cases i with
    | zero => simp [shrW]
    | succ i =>
      have := ih i (by simpa using h)
      simpa [shrW] using this
theorem val_head (L : List Int) : val L = L.getD 0 0 + 4294967296 * val L.tail := by
  cases L with
  | nil => simp [val]
  | cons x L => simp [val]
theorem val_shrW (q : Nat) (hq : q < 32) {L : List Int} (hw : Wf L) : val (shrW q L) = val L / 2 ^ q := by
  induction L with
  | nil => simp [shrW, val]
  | cons x L ih =>
    simp only [shrW, val]
    rw [ih hw.tail]
    have hx := hw.head
    have hy := hw.tail.getD 0
    have hP := two_pos q
    have hB : (4294967296 : Int) = 2 ^ q * 2 ^ (32 - q) := by rw [← Int.pow_add, show q + (32 - q) = 32 from by omega]; rfl
    have hv := val_head L
    generalize val L.tail = z at hv
    generalize L.getD 0 0 = y at *
    rw [hv]
    generalize hPd : (2 : Int) ^ q = P at *
    generalize hQd : (2 : Int) ^ (32 - q) = Q at *
    have e1 : (y + 4294967296 * z) / P = y / P + Q * z := by
      rw [show y + 4294967296 * z = y + P * (Q * z) from by rw [← Int.mul_assoc, ← hB], Int.add_mul_ediv_left _ _ (by omega)]
    have e2 : (x + 4294967296 * (y + 4294967296 * z)) / P = (4294967296 * y + x) / P + 4294967296 * (Q * z) := by
      rw [show x + 4294967296 * (y + 4294967296 * z) = 4294967296 * y + x + P * (4294967296 * (Q * z)) from by
        rw [show P * (4294967296 * (Q * z)) = 4294967296 * (P * Q * z) from by rw [Int.mul_assoc P Q z, Int.mul_left_comm], ← hB]; omega]
      rw [Int.add_mul_ediv_left _ _ (by omega)]
    have e3 : (4294967296 * y + x) / P / 4294967296 = y / P := by
      rw [Int.ediv_ediv_of_nonneg (by omega), Int.mul_comm P, ← Int.ediv_ediv_of_nonneg (by omega)]
      congr 1
      omega
    have e4 := Int.mul_ediv_add_emod ((4294967296 * y + x) / P) 4294967296
    rw [e3] at e4
    rw [e1, e2]
    generalize y / P = Y at *
    generalize (4294967296 * y + x) / P = D at *
    generalize Q * z = S at *
    omega
theorem shift_parts (n : Int) (h : n ≤ 9223372036854775807) : ∃ wh q : Nat, max n 0 / 32 = wh ∧ max n 0 % 32 = q ∧ n.toNat = wh * 32 + q ∧ q < 32 ∧ wh ≤ 288230376151711744 :=
  ⟨n.toNat / 32, n.toNat % 32, by omega, by omega, by omega, by omega, by omega⟩
theorem val_shr {xs : List Int} (wh q : Nat) (hw : Wf xs) : val xs / 2 ^ (wh * 32 + q) = val (xs.drop wh) / 2 ^ q := by
  rw [Int.pow_add, ← pow_limb, ← Int.ediv_ediv_of_nonneg (Int.le_of_lt (pow_pos' _))]
  congr 1
  rcases Nat.lt_or_ge wh xs.length with h | h
  · have e := val_append (xs.take wh) (xs.drop wh)
    rw [List.take_append_drop, List.length_take, Nat.min_eq_left (by omega)] at e
    have h1 := val_nonneg (hw.take wh)
    have h2 := val_lt (hw.take wh)
    rw [List.length_take, Nat.min_eq_left (by omega)] at h2
    rw [e, Int.add_mul_ediv_left _ _ (by have := pow_pos' wh; omega), Int.ediv_eq_zero_of_lt h1 h2, Int.zero_add]
  · rw [List.drop_of_length_le h]
    have h2 := val_lt hw
    have h4 : (4294967296 : Int) ^ xs.length ≤ 4294967296 ^ wh := by rw [pow_limb, pow_limb]; exact two_mono (by omega)
    rw [Int.ediv_eq_zero_of_lt (val_nonneg hw) (by omega)]
    rfl
set_option maxHeartbeats 2000000 in
theorem shr_any {u : Value} {xs : List Int} {a : Option Addr} {capa : Nat} {w : World} (n : Int) (h1 : Arg w u xs a capa) (hx : xs.length ≤ 35184372088832) (hn1 : -9223372036854775808 ≤ n) (hn2 : n ≤ 9223372036854775807) :
    Calls Tryz.prog 159 #[u, .int .i64 n] w fun e w' => ∃ r zs, e = .returned r ∧ Res w.heap.size w' r zs (val xs / 2 ^ n.toNat) ∧ zs.length ≤ xs.length ∧ Below w.heap.size w w' := by
  obtain ⟨rfl, hl, hcap, hwf⟩ := h1
  obtain ⟨wh, q, e1, e2, e3, hq, hwh⟩ := shift_parts n hn2
  have hta := trim_le xs
  have hval : val xs / 2 ^ n.toNat = val ((trim xs).drop wh) / 2 ^ q := by rw [e3, ← val_shr wh q hwf.trim, val_trim]
  have hwt := hwf.trim
  have htl := trim_length xs
  have hlt : Lim w a (trim xs) := hl.take _
  rw [hval]
  have sp := split_any n w hn1 hn2
  rw [e1, e2] at sp
  obtain ⟨t, ht⟩ : ∃ t, trimN xs xs.length = t := ⟨_, rfl⟩
  rw [ht] at hta htl
  generalize trim xs = ys at *
  have HT := Lib.hid htl
  have HTT := Lib.hid ht
  clear hval e1 e2 e3 htl ht hwf
  go_enter Tryz.func159, Tryz.ntmps159
  go_wp2_with fail
  refine sp.mono ?_
  rintro e w' ⟨rfl, rfl⟩
  clear sp
  go_wp2_with fail
  refine (cut_any a xs capa _ hl (by unfold maxLen; omega) hcap).mono ?_
  rintro e w' ⟨rfl, rfl⟩
  rw [HTT.out]
  by_cases hge : t ≤ wh
  · have hge2 : (t : Int) ≤ (wh : Int) := by omega
    go_wp2
    go_ret
    exact ⟨_, [], rfl, ⟨World.ownsRow_nil _ _ _ _, Wf.nil, rfl, by rw [List.drop_of_length_le (by rw [HT.out]; exact hge)]; simp [val]⟩, by simp, Below.refl _ _⟩
  · obtain ⟨m, hm⟩ : ∃ m, wh + m = t := ⟨t - wh, by omega⟩
    have hlt2 : ¬ (t : Int) ≤ (wh : Int) := by omega
    have hsub : (t : Int) - (wh : Int) = (m : Int) := by omega
    have hmk := make_runN m m (Nat.le_refl _) (by omega)
    obtain ⟨L, hL⟩ : ∃ L, shrW q (ys.drop wh) = L := ⟨_, rfl⟩
    have hLl : L.length = m := by rw [← hL, shrW_length, List.length_drop, HT.out]; omega
    have HL := Lib.hid hL
    have HLL := Lib.hid hLl
    have hcapt : t ≤ capa := by omega
    clear hL hLl
    go_wp2
    go_loopw [8, 27] (fun _ i wr => ∃ k : Nat, k ≤ m ∧ i = .int .i64 k ∧ Blk wr w.heap.size (L.take k ++ List.replicate (m - k) 0) ∧ Below w.heap.size w wr) (fun _ i _ => m - (intOf i).toNat)
    case atStart => exact ⟨0, Nat.zero_le _, rfl, by simpa using Blk.made w m, (Below.refl _ w).alloc (Nat.le_refl _) _⟩
    case round =>
      obtain ⟨k, hk, rfl, hblk, hb⟩ := hrel
      by_cases hkm : k < m
      · have hkm2 : (k : Int) < (m : Int) := by omega
        have hlz : (L.take k ++ List.replicate (m - k) 0).length = m := by rw [List.length_append, List.length_take, HLL.out, List.length_replicate]; omega
        have hcell := hblk.cell k (by omega)
        have hfree := hblk.free k
        have hset := hblk.set k (L.getD k 0)
        rw [set_mid _ _ _ _ (by rw [List.length_take, HLL.out]; omega) hkm] at hset
        have hpr := pair_any a ys capa ((wh : Int) + k) wr (hlt.later hb) (by rw [HT.out]; unfold maxLen; omega) (by omega) (by omega) hwt
        have ei : ((wh : Int) + k).toNat = wh + k := by omega
        rw [ei, HT.out] at hpr
        have hLk : L.getD k 0 = ((4294967296 * ys.getD (wh + k + 1) 0 + ys.getD (wh + k) 0) / 2 ^ q) % 4294967296 := by
          rw [← HL.out, shrW_at _ _ _ (by rw [List.length_drop, HT.out]; omega)]
          simp [List.getElem?_drop, Nat.add_assoc]
        obtain ⟨p0, p1⟩ : 0 ≤ 4294967296 * ys.getD (wh + k + 1) 0 + ys.getD (wh + k) 0 ∧ 4294967296 * ys.getD (wh + k + 1) 0 + ys.getD (wh + k) 0 < 18446744073709551616 := by have b1 := hwt.getD (wh + k + 1); have b0 := hwt.getD (wh + k); omega
        obtain ⟨d, hd⟩ : ∃ d, 4294967296 * ys.getD (wh + k + 1) 0 + ys.getD (wh + k) 0 = d := ⟨_, rfl⟩
        rw [hd] at hpr hLk p0 p1
        have hp := two_pos q
        have d0 : 0 ≤ d / 2 ^ q := Int.ediv_nonneg p0 (by omega)
        have d1 : d / 2 ^ q ≤ d := Int.ediv_le_self _ p0
        have HSET := Lib.hid hset
        have HLK := Lib.hid hLk
        clear hset hLk hlz hd ei hblk
        go_wp2_with fail
        refine hpr.mono ?_
        rintro e w' ⟨rfl, rfl⟩
        go_wp2
        go_roundw
        case rel =>
          refine ⟨k + 1, by omega, by go_num, ?_, hb.setCell (p := ⟨w.heap.size, k, none⟩) (Nat.le_refl _) _⟩
          have e : L.take (k + 1) = L.take k ++ [L.getD k 0] := by
            have hl := HLL.out
            rw [List.take_succ_eq_append_getElem (by omega)]
            simp [show k < L.length by omega]
          rw [e, ← HLK.out]
          exact HSET.out
        case measure => simp [intOf]; omega
      · obtain rfl : k = m := by omega
        have hl := HLL.out
        rw [Nat.sub_self, List.replicate_zero, List.append_nil, List.take_of_length_le (by omega)] at hblk
        have hnum := Num.ofBlk hblk (Nat.le_refl _) k (by omega) (by rw [hl]; unfold maxLen; omega)
        rw [hl, List.take_of_length_le (by omega)] at hnum
        have hv : val L = val (ys.drop wh) / 2 ^ q := by rw [← HL.out]; exact val_shrW q hq (hwt.drop wh)
        have wL : Wf L := by rw [← HL.out]; exact shrW_wf _ _
        have HV := Lib.hid hv
        clear hv hblk
        go_wp2_with fail
        refine (cut_num hnum).mono ?_
        rintro e w' ⟨z, rfl, hz, rfl⟩
        go_wp2_with fail
        go_ret
        exact ⟨_, _, rfl, ⟨hz, wL.trim, trim_full _, by rw [val_trim, HV.out]⟩, by have := trim_len_le L; have h2 := HLL.out; omega, hb⟩
end
section
open Go.RowKit
set_option linter.unusedVariables false
set_option linter.unusedSimpArgs false
set_option maxHeartbeats 400000 in
theorem trimQ_any (ad : Option Addr) (xs : List Int) (cap : Nat) (w : World) (hl : LimI w ad xs) (hm : xs.length ≤ 1099511627776) (hcap : xs.length ≤ cap) :
    Calls Tryz.prog 150 #[.slice ad xs.length cap] w fun e w' => e = .returned (.slice ad (trimN xs xs.length) cap) ∧ w = w' := by
  go_enter Tryz.func150, Tryz.ntmps150
  go_wp2
  go_loop [3] (fun n => ∃ j : Nat, j ≤ xs.length ∧ n = .int .i64 j ∧ trimN xs j = trimN xs xs.length) (fun n => (intOf n).toNat)
  case atStart => exact ⟨xs.length, Nat.le_refl _, rfl, rfl⟩
  case round =>
    obtain ⟨j, hj, rfl, ht⟩ := hrel
    have HT := Lib.hid ht
    clear ht
    rcases j with _ | m
    · have h0 : trimN xs xs.length = 0 := HT.out.symm
      go_wp2
      go_ret
      exact ⟨rfl, rfl⟩
    · rcases hl with rfl | ⟨b, off, rfl, hc⟩
      · simp at hj
      · have hck := hc m (by omega)
        clear hc
        go_wp2
        · have hz : xs.getD m 0 = 0 := by
            have h : (xs[m]?.getD 0 == 0) = true := by assumption
            simpa using h
          go_round
          case rel => exact ⟨m, by omega, by go_num, by rw [← HT.out]; simp only [trimN]; rw [if_pos hz]⟩
          case measure => simp [intOf]
        · have hz : xs.getD m 0 ≠ 0 := by
            have h : (xs[m]?.getD 0 == 0) = false := by assumption
            simpa using h
          have ht : trimN xs xs.length = m + 1 := by rw [← HT.out]; simp only [trimN]; rw [if_neg hz]
          go_ret
          exact ⟨by rw [ht]; simp, rfl⟩
theorem trimQ_num {base : Nat} {v : Value} {xs : List Int} {w : World} (h : NumI base w v xs) (hm : xs.length ≤ 1099511627776) :
    Calls Tryz.prog 150 #[v] w fun e w' => ∃ u, e = .returned u ∧ NumI base w u (trim xs) ∧ w = w' := by
  obtain ⟨ad, cap, rfl, hl, hc, _, _⟩ := h.read
  exact (trimQ_any ad xs cap w hl hm hc).mono fun e w' ⟨he, hw⟩ => ⟨_, he, h.cut, hw⟩
theorem sign_le {x y : Int} : sign x y ≤ 0 ↔ x ≤ y := by unfold sign; split <;> (try split) <;> omega
set_option maxHeartbeats 1000000 in
/-- how often ys goes into rs -/
theorem digitQ_any {u v : Value} {rs ys : List Int} {a b : Option Addr} {capa capb : Nat} {w : World} (h1 : ArgD w u rs a capa) (h2 : ArgD w v ys b capb) (hx : rs.length ≤ 17179869184) (hy : ys.length ≤ 17179869184)
    (hlt : valD rs < valD ys * 10000) :
    Calls Tryz.prog 151 #[u, v] w fun e w' => ∃ d : Int, e = .returned (.int .i64 d) ∧ 0 ≤ d ∧ d < 10000 ∧ valD ys * d ≤ valD rs ∧ valD rs < valD ys * (d + 1) ∧ Below w.heap.size w w' := by
  have hr0 := val_nonnegD h1.wf
  go_enter Tryz.func151, Tryz.ntmps151
  go_wp2
  go_loopw [5, 6, 7] (fun lo hi _ wr => ∃ l h : Int, lo = .int .i64 l ∧ hi = .int .i64 h ∧ 0 ≤ l ∧ l < h ∧ h ≤ 10000 ∧ valD ys * l ≤ valD rs ∧ valD rs < valD ys * h ∧ Below w.heap.size w wr) (fun lo hi _ _ => (intOf hi - intOf lo).toNat)
  case atStart => exact ⟨0, 10000, rfl, rfl, by omega, by omega, by omega, by simpa using hr0, hlt, Below.refl _ _⟩
  case round =>
    obtain ⟨l, h, rfl, rfl, hl0, hlh, hh, hlo, hhi, hb⟩ := hrel
    have hsz := hb.size
    have HLO := Lib.hid hlo
    have HHI := Lib.hid hhi
    clear hlo hhi
    by_cases hgo : 1 < h - l
    · have hq : Int.tdiv (l + h) 2 = (l + h) / 2 := Int.tdiv_eq_ediv_of_nonneg (by omega)
      obtain ⟨m, hm⟩ : ∃ m, (l + h) / 2 = m := ⟨_, rfl⟩
      rw [hm] at hq
      have hm1 : l < m := by omega
      have hm2 : m < h := by omega
      clear hm
      have A1 := h1.later hb
      have A2 := h2.later hb
      go_wp2_with fail
      refine (times_any m A2 (by omega) (by omega)).mono ?_
      rintro e w2 ⟨r2, rfl, z2, q2, n2, hb2⟩
      obtain ⟨ad2, cap2, A3⟩ := q2.arg
      have A1' := A1.later hb2
      have hs2 := hb2.size
      go_wp2_with fail
      refine (cmpD_any A3 A1' (by omega) (by omega)).mono ?_
      rintro e w3 ⟨rfl, hb3⟩
      have hB3 : Below w.heap.size w w3 := (hb.trans (hb2.mono hsz)).trans (hb3.mono (by omega))
      have hv := q2.eq
      rw [hv]
      clear A1 A2 A3 A1' hb2 hb3 q2 hv
      by_cases hle : valD ys * m ≤ valD rs
      · have hd : decide (sign (valD ys * m) (valD rs) ≤ 0) = true := decide_eq_true (sign_le.2 hle)
        have HLE := Lib.hid hle
        clear hle
        go_wp2
        go_roundw
        case rel => exact ⟨m, h, rfl, rfl, by omega, hm2, hh, HLE.out, HHI.out, hB3⟩
        case measure => simp [intOf]; omega
      · have hd : decide (sign (valD ys * m) (valD rs) ≤ 0) = false := decide_eq_false (fun h => hle (sign_le.1 h))
        have HLE := Lib.hid (Int.not_le.1 hle)
        clear hle
        go_wp2
        go_roundw
        case rel => exact ⟨l, m, rfl, rfl, hl0, hm1, by omega, HLO.out, HLE.out, hB3⟩
        case measure => simp [intOf]; omega
    · obtain rfl : h = l + 1 := by omega
      go_wp2
      go_ret
      exact ⟨l, rfl, hl0, by omega, HLO.out, HHI.out, hb⟩
end
section
open Go.RowKit
set_option linter.unusedVariables false
set_option linter.unusedSimpArgs false
theorem ArgD.lenLe {w w' : World} {u v : Value} {xs ys : List Int} {a b : Option Addr} {capa capb : Nat} (h1 : ArgD w u xs a capa) (h2 : ArgD w' v ys b capb) (h : valD xs ≤ valD ys) : xs.length ≤ ys.length := by
  rcases Nat.lt_or_ge ys.length xs.length with k | k
  · have := len_ltD h2.wf h1.wf h1.full k; omega
  · exact k
theorem NumI.only {base b : Nat} {w w' : World} {v : Value} {xs : List Int} (h : NumI base w v xs) (k : Only b w w') (hb : b < base) : NumI base w' v xs := by
  obtain ⟨h1, h2⟩ := h
  refine ⟨h1, ?_⟩
  rcases h2 with h2 | ⟨g, cap, cur, rfl, hg0, hg, hc, hm, hs, ht⟩
  · exact .inl h2
  · exact .inr ⟨g, cap, cur, rfl, hg0, (k.block g (by omega)).trans hg, hc, hm, hs, ht⟩
theorem ResD.only {base b : Nat} {w w' : World} {u : Value} {zs : List Int} {n : Int} (h : ResD base w u zs n) (k : Only b w w') (hb : b < base) : ResD base w' u zs n := ⟨h.num.only k hb, h.wf, h.full, h.eq⟩
theorem ResD.mono {base base' : Nat} {w : World} {u : Value} {zs : List Int} {n : Int} (h : ResD base w u zs n) (hb : base' ≤ base) : ResD base' w u zs n := ⟨h.num.mono hb, h.wf, h.full, h.eq⟩
theorem NumI.nilCap {base : Nat} {w : World} {n cap : Nat} {xs : List Int} (h : NumI base w (.slice none n cap) xs) : xs = [] ∧ n = 0 ∧ cap = 0 := by
  obtain ⟨_, h2⟩ := h
  rcases h2 with ⟨e, hn⟩ | ⟨g, cap', cur, e, _⟩
  · simp only [Value.slice.injEq] at e
    exact ⟨List.eq_nil_of_length_eq_zero hn, e.2.1, e.2.2⟩
  · simp at e
set_option maxHeartbeats 4000000 in
theorem divD_any {u v : Value} {xs ys : List Int} {a b : Option Addr} {capa capb : Nat} {w : World} (h1 : ArgD w u xs a capa) (h2 : ArgD w v ys b capb) (hx : xs.length ≤ 8589934592) (hy : ys.length ≤ 8589934592) (hpos : 0 < valD ys) :
    Calls Tryz.prog 129 #[u, v] w fun e w' => ∃ r s, e = .returned (.tuple #[r, s]) ∧ Below w.heap.size w w' ∧ (∃ zs, ResD w.heap.size w' r zs (valD xs / valD ys) ∧ zs.length ≤ xs.length) ∧
      (∃ zs, ResD w.heap.size w' s zs (valD xs % valD ys) ∧ zs.length ≤ ys.length) := by
  obtain ⟨rfl, lx, _, wx, _⟩ := h1
  obtain ⟨i0, hi, hz0, hz1, hz2⟩ := info_parts infoInt
  obtain ⟨n, hn⟩ : ∃ n, xs.length = n := ⟨_, rfl⟩
  have hmk := makeI_runN n n (Nat.le_refl _) (by omega)
  rw [hn]
  have HN := Lib.hid hn
  rw [hn] at hx
  clear hn
  go_enter Tryz.func129, Tryz.ntmps129
  go_wp2
  go_loopw [7, 8, 9, 10, 11] (fun s i _ _ _ wr => ∃ (k : Nat) (q : Value) (rs qs : List Int), k ≤ n ∧ q = s ∧ i = .int .i64 ((n : Int) - 1 - k) ∧ BlkI wr w.heap.size (List.replicate (n - k) 0 ++ qs) ∧ qs.length = k ∧ WfD qs ∧
      ResD (w.heap.size + 1) wr q rs (valD rs) ∧ valD (xs.drop (n - k)) = valD ys * valD qs + valD rs ∧ valD rs < valD ys ∧ Below w.heap.size w wr) (fun _ i _ _ _ _ => (intOf i + 1).toNat)
  case atStart =>
    have e : xs.drop (n - 0) = [] := by rw [Nat.sub_zero, ← HN.out, List.drop_length]
    refine ⟨0, _, [], [], Nat.zero_le _, rfl, by simp, ?_, rfl, WfD.nil, ⟨World.ownsRow_nil _ _ _ _, WfD.nil, rfl, rfl⟩, by rw [e]; simp [valD], by simpa [valD] using hpos, ((Below.refl _ w).alloc (Nat.le_refl _) _)⟩
    simpa using BlkI.made w n
  case round =>
    obtain ⟨k, q, rs, qs, hk, rfl, rfl, hblk, hql, hqw, hres, hval, hlt, hb⟩ := hrel
    have hsz := hb.size
    by_cases hgo : k < n
    · rcases lx with rfl | ⟨bx, off, rfl, hc⟩
      · have := HN.out; simp at this; omega
      obtain ⟨j, hj⟩ : ∃ j, j + k + 1 = n := ⟨n - k - 1, by omega⟩
      have hji : ((n : Int) - 1 - k) = (j : Int) := by omega
      obtain ⟨x, hxk⟩ : ∃ x, xs.getD j 0 = x := ⟨_, rfl⟩
      obtain ⟨bx0, bx1⟩ : 0 ≤ x ∧ x < 10000 := hxk ▸ wx.getD j
      have hjl : j < xs.length := by have := HN.out; omega
      have hcj := hc j hjl
      rw [hxk] at hcj
      have hc0 : wr.cell? ⟨bx, off + j, none⟩ = some (.int .i64 x) := (hb.cell (p := ⟨bx, off + j, none⟩) (World.block_lt_of_cell? w _ hcj)).trans hcj
      have hge : (0 : Int) ≤ (j : Int) := by omega
      have hjn : (j : Int) < (n : Int) := by omega
      have hstep : valD (xs.drop (n - (k + 1))) = x + 10000 * valD (xs.drop (n - k)) := by
        rw [show n - (k + 1) = j from by omega, valD_drop xs j hjl, hxk, show n - k = j + 1 from by omega]
      rw [show n - k = j + 1 from by omega] at hblk
      rw [hji]
      have hrl : rs.length ≤ ys.length := by
        obtain ⟨ad, cap, A⟩ := hres.arg
        exact A.lenLe h2 (by omega)
      have hgb : w.heap.size < wr.heap.size := hblk.lt
      have HST := Lib.hid hstep
      have HV := Lib.hid hval
      have HJ := Lib.hid hj
      have HL := Lib.hid hlt
      have HB := Lib.hid hblk
      have HQ := Lib.hid hql
      clear hstep hval hj hji hxk hc hlt hblk hql
      have hs1 : w.heap.size + 1 ≤ wr.heap.size := hgb
      have hlit := NumI.lit (base := w.heap.size + 1) (w := wr) hs1 [x] (by unfold maxLen; simp)
      have hrow : (wr.alloc (.cells #[.int .i64 x] 3)).ownsRow (w.heap.size + 1) 3 1 (.slice (some ⟨wr.heap.size, 0, none⟩) 1 1) 1 [.int .i64 x] := hlit
      have hal : Below w.heap.size w (wr.alloc (.cells #[.int .i64 x] 3)) := hb.alloc hsz _
      have hba := HB.out.alloc (.cells #[.int .i64 x] 3)
      obtain ⟨ad, cap, h1q, h2q, h3q, h4q, h5q⟩ := hres.num.read
      clear h5q
      have wrs := hres.wf
      have hnumq := hres.num
      subst h1q
      clear hres
      have HN2 := Lib.hid hnumq
      clear hnumq
      cases ad
      case' none =>
        obtain ⟨hrs, hr0, hcap⟩ := HN2.out.nilCap
        subst hcap
        rw [hr0]
        have HRS := Lib.hid hrs
        clear hrs hr0
        have hrun := run_append_owned_none (P := Tryz.prog) (wr.alloc (.cells #[.int .i64 x] 3)) (w.heap.size + 1) 73 73 3 i0 1 Tryz.underlying73 hi (.slice (some ⟨wr.heap.size, 0, none⟩) 1 1) 1 [.int .i64 x] hrow
        go_wp2_with fail
        have hup : NumI (w.heap.size + 1) (wr.alloc (.cells #[.int .i64 x] 3)) (.slice (some ⟨wr.heap.size, 0, none⟩) 1 1) (x :: rs) := by rw [HRS.out]; exact hlit
        have hB1 := hal
        have hb1 := hba
        clear hrun hlit hrow hal hba h2q hc0
        generalize wr.alloc (.cells #[.int .i64 x] 3) = w1 at *
        generalize Value.slice (some ⟨wr.heap.size, 0, none⟩) 1 1 = v' at *
      case' some ad =>
        have hnews := (h2q.later ((Below.refl wr.heap.size wr).alloc (Nat.le_refl _) (.cells #[.int .i64 x] 3))).news
        go_wp2_with (at_builtin; refine wpList_append_own _ rfl _ _ 73 rfl (w.heap.size + 1) 3 i0 (.int .i64 0) 1 8 Tryz.underlying73 hi hz0 hz1 hz2 rfl (by decide) _ 1 [.int .i64 x] rfl hrow ad rs.length cap (rs.map (Value.int .i64)) rfl (by simp) hnews (ints_oneCell _ _) (by unfold maxLen; omega) (by omega) (by simp; omega) ?_; intro v' w1 hown' hgrow _)
        have hB1 : Below w.heap.size w w1 := hal.grown hgrow (by simp; omega) (fun k hk => by cases hk; exact hsz)
        have hb1 := hba.grown hgrow (fun e => by have h : w.heap.size = wr.heap.size := Option.some.inj e; omega)
        have hup : NumI (w.heap.size + 1) w1 v' (x :: rs) := by
          unfold NumI
          rw [List.length_cons, List.map_cons, Nat.add_comm rs.length 1]
          exact hown'
        clear hown' hgrow hnews hlit hrow hal hba h2q hc0
      all_goals
        have hs2 := hb1.lt
        have hR1 : ResD (w.heap.size + 1) w1 v' (x :: rs) 0 → True := fun _ => trivial
        clear hR1
        go_wp2_with fail
        refine (trimQ_num hup (by simp only [List.length_cons]; omega)).mono ?_
        rintro e w' ⟨q1, rfl, hq1, rfl⟩
        have R1 : ResD (w.heap.size + 1) w1 q1 (trim (x :: rs)) (x + 10000 * valD rs) := ⟨hq1, (WfD.cons ⟨bx0, bx1⟩ wrs).trim, trim_full _, by rw [val_trimD]; rfl⟩
        have hl1 : (trim (x :: rs)).length ≤ rs.length + 1 := Nat.le_trans (Nat.le_of_eq (trim_length _)) (trim_le (x :: rs))
        generalize trim (x :: rs) = rs1 at *
        clear hup hq1
        obtain ⟨ad1, cap1, A1⟩ := R1.arg
        have A2 := h2.later hB1
        have hV := HL.out
        go_wp2_with fail
        refine (digitQ_any A1 A2 (by omega) (by omega) (by rw [R1.eq]; omega)).mono ?_
        rintro e w2 ⟨d, rfl, d0, d1, dlo, dhi, hb2⟩
        rw [R1.eq] at dlo dhi
        have hB2 := hB1.trans (hb2.mono (by omega))
        have R2 := R1.later hb2
        have hblk2 := hb1.below hb2 (by omega)
        have hlz : (List.replicate (j + 1) 0 ++ qs).length = n := by rw [List.length_append, List.length_replicate, HQ.out]; have := HJ.out; omega
        have hcell := hblk2.cell j (by omega)
        have hfree := hblk2.free j
        have hset := hblk2.set j d
        rw [set_front] at hset
        have hO : Only w.heap.size w2 (w2.setCell ⟨w.heap.size, j, none⟩ (.int .i64 d)) := Only.set _ _ _ _
        have R3 := R2.only hO (Nat.lt_succ_self _)
        have hB3 : Below w.heap.size w (w2.setCell ⟨w.heap.size, j, none⟩ (.int .i64 d)) := hB2.setCell (p := ⟨w.heap.size, j, none⟩) (Nat.le_refl _) _
        have hs3 : w.heap.size + 1 ≤ w2.heap.size := hblk2.lt
        have hs3' : w2.heap.size = (w2.setCell ⟨w.heap.size, j, none⟩ (.int .i64 d)).heap.size := hO.size.symm
        have DLO := Lib.hid dlo
        have DHI := Lib.hid dhi
        clear A1 A2 hB1 hb1 hb2 hB2 R1 R2 hblk2 dlo dhi hO hs2 hlz
        go_wp2_with fail
        generalize w2.setCell ⟨w.heap.size, j, none⟩ (.int .i64 d) = w3 at *
        clear hcell hfree
        have A3 := h2.later hB3
        refine (times_any d A3 (by omega) (by omega)).mono ?_
        rintro e w4 ⟨r4, rfl, z4, q4, n4, hb4⟩
        have hB4 := hB3.trans (hb4.mono (by omega))
        have R4 := R3.later hb4
        have hset4 := hset.below hb4 (by omega)
        have hs4 := hb4.size
        obtain ⟨ad4, cap4, A4⟩ := R4.arg
        obtain ⟨ad5, cap5, A5⟩ := q4.arg
        clear hB3 hb4 R3 A3 hset
        go_wp2_with fail
        refine (subD_any A4 A5 (by omega) (by omega)).mono ?_
        rintro e w5 ⟨r5, f5, rfl, hb5, _, hsub⟩
        obtain ⟨rfl, z5, q5, n5⟩ := hsub (by rw [R4.eq, q4.eq]; exact DLO.out)
        have hB5 := hB4.trans (hb5.mono (by omega))
        have hset5 := hset4.below hb5 (by omega)
        have hs5 := hb5.size
        have hv5 : valD z5 = x + 10000 * valD rs - valD ys * d := by rw [q5.eq, R4.eq, q4.eq]
        have fin : ∃ (k' : Nat) (q' : Value) (rs' qs' : List Int), k' ≤ n ∧ q' = r5 ∧ Value.int .i64 ((j : Int) - 1) = .int .i64 ((n : Int) - 1 - k') ∧ BlkI w5 w.heap.size (List.replicate (n - k') 0 ++ qs') ∧ qs'.length = k' ∧ WfD qs' ∧
            ResD (w.heap.size + 1) w5 q' rs' (valD rs') ∧ valD (xs.drop (n - k')) = valD ys * valD qs' + valD rs' ∧ valD rs' < valD ys ∧ Below w.heap.size w w5 := by
          have hj := HJ.out
          refine ⟨k + 1, r5, z5, d :: qs, by omega, rfl, by congr 1; omega, ?_, by rw [List.length_cons, HQ.out], WfD.cons ⟨d0, d1⟩ hqw, ⟨q5.num.mono (by omega), q5.wf, q5.full, rfl⟩, ?_, ?_, hB5⟩
          · rw [show n - (k + 1) = j from by omega]; exact hset5
          · rw [HST.out, HV.out, hv5]
            have e : valD (d :: qs) = d + 10000 * valD qs := rfl
            have e2 : valD ys * (d + 10000 * valD qs) = valD ys * d + 10000 * (valD ys * valD qs) := by rw [Int.mul_add, Int.mul_left_comm]
            rw [e, e2]
            omega
          · rw [hv5]
            have h := DHI.out
            rw [Int.mul_add, Int.mul_one] at h
            omega
        have FIN := Lib.hid fin
        clear fin hset5 hset4 hB5 hB4 hb5 A4 A5 R4 q4 q5 hv5
        go_wp2
        go_roundw
        case rel => exact FIN.out
        case measure => simp [intOf]
    · obtain rfl : k = n := by omega
      have hji : ((k : Int) - 1 - k) = -1 := by omega
      rw [hji]
      clear hji
      rw [Nat.sub_self] at hblk hval
      rw [List.drop_zero] at hval
      rw [List.replicate_zero, List.nil_append] at hblk
      have hnum := NumI.ofBlk hblk (Nat.le_refl _) k (by omega) (by rw [hql]; unfold maxLen; omega)
      rw [hql, List.take_of_length_le (by omega)] at hnum
      have hr0 := val_nonnegD hres.wf
      obtain ⟨e1, e2⟩ := quo_eq (V := valD qs) (d := valD ys) (r := valD rs) (N := valD xs) hpos (by rw [hval, Int.mul_comm]) ⟨hr0, hlt⟩
      have hrl : rs.length ≤ ys.length := by
        obtain ⟨ad, cap, A⟩ := hres.arg
        exact A.lenLe h2 (by omega)
      have hlen : (trim qs).length ≤ k := by have h := Nat.le_trans (Nat.le_of_eq (trim_length _)) (trim_le qs); omega
      have E1 := Lib.hid e1
      have E2 := Lib.hid e2
      clear hblk e1 e2 hval hlt
      go_wp2_with fail
      refine (trimQ_num hnum (by omega)).mono ?_
      rintro e w' ⟨p, rfl, hp, rfl⟩
      go_wp2_with fail
      go_ret2
      exact ⟨p, q, rfl, hb, ⟨trim qs, ⟨hp, hqw.trim, trim_full _, by rw [val_trimD, E1.out]⟩, hlen⟩, ⟨rs, ⟨hres.num.mono (Nat.le_succ _), hres.wf, hres.full, E2.out⟩, hrl⟩⟩
end
section
open Go.RowKit
set_option linter.unusedVariables false
set_option linter.unusedSimpArgs false
theorem gcd_step (a b : Int) : Int.gcd b (a % b) = Int.gcd a b := by
  have h := Int.gcd_add_mul_right_right b (a % b) (a / b)
  rw [Int.emod_add_ediv_mul] at h
  rw [← h, Int.gcd_comm]
theorem gcd_end {a : Int} (h : 0 ≤ a) : (Int.gcd a 0 : Int) = a := by rw [Int.gcd_zero_right]; omega
theorem posD {ds : List Int} {a : Option Addr} {cap : Nat} {w : World} {u : Value} (h : ArgD w u ds a cap) (hl : 0 < ds.length) : 0 < valD ds := by
  have h1 := full_geD h.wf h.full (ds.length - 1) (by omega)
  have h2 := pow_posD (ds.length - 1)
  omega
/-- what a slice of numbers reads: for a loop's measure -/
def readV (w : World) : Value → List Int
  | .slice (some ad) n _ => (List.range n).map fun i => match w.cell? ⟨ad.block, ad.off + i, none⟩ with | some (.int _ x) => x | _ => 0
  | _ => []
theorem readV_limI {w : World} {ad : Option Addr} {xs : List Int} {cap : Nat} (h : LimI w ad xs) : readV w (.slice ad xs.length cap) = xs := by
  rcases h with rfl | ⟨b, off, rfl, hc⟩
  · cases ad <;> simp [readV]
  · simp only [readV]
    apply List.ext_getElem
    · simp
    · intro i h1 h2
      rw [List.getElem_map, List.getElem_range, hc i h2]
      simp [h2]
theorem readV_lim {w : World} {ad : Option Addr} {xs : List Int} {cap : Nat} (h : Lim w ad xs) : readV w (.slice ad xs.length cap) = xs := by
  rcases h with rfl | ⟨b, off, rfl, hc⟩
  · cases ad <;> simp [readV]
  · simp only [readV]
    apply List.ext_getElem
    · simp
    · intro i h1 h2
      rw [List.getElem_map, List.getElem_range, hc i h2]
      simp [h2]
theorem ArgD.read {w : World} {u : Value} {xs : List Int} {a : Option Addr} {cap : Nat} (h : ArgD w u xs a cap) : readV w u = xs := by rw [h.is]; exact readV_limI h.lim
theorem Arg.read {w : World} {u : Value} {xs : List Int} {a : Option Addr} {cap : Nat} (h : Arg w u xs a cap) : readV w u = xs := by rw [h.is]; exact readV_lim h.lim
/-- loops over pairs: how much is left -/
def leftD (w : World) (v : Value) : Nat := (valD (readV w v)).toNat
theorem ArgD.left {w : World} {u : Value} {xs : List Int} {a : Option Addr} {cap : Nat} (h : ArgD w u xs a cap) : leftD w u = (valD xs).toNat := by unfold leftD; rw [h.read]
set_option maxHeartbeats 4000000 in
theorem gcdD_any {u v : Value} {xs ys : List Int} {a b : Option Addr} {capa capb : Nat} {w : World} (h1 : ArgD w u xs a capa) (h2 : ArgD w v ys b capb) (hx : xs.length ≤ 8589934592) (hy : ys.length ≤ 8589934592) :
    Calls Tryz.prog 128 #[u, v] w fun e w' => ∃ r, e = .returned r ∧ ∃ zs ad cap, ArgD w' r zs ad cap ∧ valD zs = (Int.gcd (valD xs) (valD ys) : Int) ∧ zs.length ≤ max xs.length ys.length ∧ Below w.heap.size w w' := by
  obtain ⟨m, hm⟩ : ∃ m, max xs.length ys.length = m := ⟨_, rfl⟩
  have hm2 : m ≤ 8589934592 := by omega
  have hmx : xs.length ≤ m := by omega
  have hmy : ys.length ≤ m := by omega
  rw [hm]
  clear hm hx hy
  go_enter Tryz.func128, Tryz.ntmps128
  go_wp2
  go_loopw [0, 1, 5, 6] (fun p q _ _ wr => ∃ (p' q' : Value) (us vs : List Int) (ad bd : Option Addr) (cp cq : Nat), p' = p ∧ q' = q ∧ ArgD wr p' us ad cp ∧ ArgD wr q' vs bd cq ∧ us.length ≤ m ∧ vs.length ≤ m ∧ Int.gcd (valD us) (valD vs) = Int.gcd (valD xs) (valD ys) ∧ Below w.heap.size w wr) (fun _ q _ _ wr => leftD wr q)
  case atStart => exact ⟨u, v, xs, ys, a, b, capa, capb, rfl, rfl, h1, h2, hmx, hmy, rfl, Below.refl _ _⟩
  case round =>
    obtain ⟨p, q, us, vs, ad, bd, cp, cq, rfl, rfl, A1, A2, hu, hv, hg, hb⟩ := hrel
    have hsz := hb.size
    have HG := Lib.hid hg
    clear hg
    have hq := A2.is
    by_cases hgo : 0 < vs.length
    · have hgo2 : (0 : Int) < (vs.length : Int) := by omega
      have hpos := posD A2 hgo
      have hleft := A2.left
      subst hq
      go_wp2_with fail
      refine (divD_any A1 A2 (by omega) (by omega) hpos).mono ?_
      rintro e w2 ⟨r2, s2, rfl, hb2, _, ⟨z2, q2, n2⟩⟩
      obtain ⟨ad2, cap2, A3⟩ := q2.arg
      have A2' := A2.later hb2
      have hB2 := hb.trans (hb2.mono hsz)
      have hl2 := A3.left
      have hr1 := Int.emod_lt_of_pos (valD us) hpos
      have hr2 := Int.emod_nonneg (valD us) (show valD vs ≠ 0 by omega)
      have hm3 : leftD w2 s2 < leftD wr (.slice bd vs.length cq) := by rw [hleft, hl2, q2.eq]; omega
      have hg3 : Int.gcd (valD vs) (valD z2) = Int.gcd (valD xs) (valD ys) := by rw [q2.eq, gcd_step]; exact HG.out
      have HG3 := Lib.hid hg3
      have HM3 := Lib.hid hm3
      clear hg3 hm3 hr1 hr2 hl2 hleft q2 A1 A2 hb2
      go_wp2
      go_roundw
      case rel => exact ⟨_, _, vs, z2, bd, ad2, cq, cap2, rfl, rfl, A2', A3, hv, by omega, HG3.out, hB2⟩
      case measure => exact HM3.out
    · have h0 : vs.length = 0 := by omega
      have hvs : vs = [] := List.eq_nil_of_length_eq_zero h0
      have hg := HG.out
      rw [hvs] at hg
      have hfin : valD us = (Int.gcd (valD xs) (valD ys) : Int) := by rw [← hg]; simp only [valD]; exact (gcd_end (val_nonnegD A1.wf)).symm
      have HF := Lib.hid hfin
      rw [h0] at hq
      subst hq
      clear hfin hg A2 hvs h0 hgo
      go_wp2
      go_ret
      exact ⟨_, rfl, us, ad, cp, A1, HF.out, hu, hb⟩
end
section
open Go.RowKit
set_option linter.unusedVariables false
set_option linter.unusedSimpArgs false
/-- block g has room for cap limbs, of which the first are zs -/
def Part (w : World) (g cap : Nat) (zs : List Int) : Prop := ∃ cur : Array Value, w.heap[g]? = some (.cells cur 63 (0, 0)) ∧ cur.size = cap ∧ zs.length ≤ cap ∧ cur.toList.take zs.length = zs.map (Value.int .u32)
theorem Part.cell {w : World} {g cap : Nat} {zs : List Int} (h : Part w g cap zs) (i : Nat) (hi : i < zs.length) : w.cell? ⟨g, i, none⟩ = some (.int .u32 (zs.getD i 0)) := by
  obtain ⟨cur, hh, hs, hl, ht⟩ := h
  have e : w.cell? ⟨g, i, none⟩ = cur[i]? := cell_of_row w g i _ 63 (0, 0) hh
  rw [e]
  have h1 : (cur.toList.take zs.length)[i]? = cur[i]? := by rw [List.getElem?_take_of_lt hi]; simp
  rw [← h1, ht]
  simp [hi]
theorem Part.free {w : World} {g cap : Nat} {zs : List Int} (h : Part w g cap zs) (i : Nat) : w.frozen? ⟨g, i, none⟩ = false := by
  obtain ⟨cur, hh, _⟩ := h
  exact frozen_of_row w g i _ 63 hh
theorem Part.lt {w : World} {g cap : Nat} {zs : List Int} (h : Part w g cap zs) : g < w.heap.size := by obtain ⟨cur, hh, _⟩ := h; exact lt_of_block hh
theorem Part.le {w : World} {g cap : Nat} {zs : List Int} (h : Part w g cap zs) : zs.length ≤ cap := by obtain ⟨_, _, _, h, _⟩ := h; exact h
theorem Part.same {w w' : World} {g cap : Nat} {zs : List Int} (h : Part w g cap zs) (e : w'.heap[g]? = w.heap[g]?) : Part w' g cap zs := by
  obtain ⟨cur, hh, r⟩ := h
  exact ⟨cur, e.trans hh, r⟩
theorem Part.alloc {w : World} {g cap : Nat} {zs : List Int} (h : Part w g cap zs) (o : Obj) : Part (w.alloc o) g cap zs := h.same (Below.heap_alloc _ _ _ h.lt)
theorem Part.below {w w' : World} {g cap B : Nat} {zs : List Int} (h : Part w g cap zs) (k : Below B w w') (hb : g < B) : Part w' g cap zs := h.same (k.block g hb)
theorem Part.later {w w' : World} {g cap : Nat} {zs : List Int} (h : Part w g cap zs) (k : Below w.heap.size w w') : Part w' g cap zs := h.below k h.lt
theorem Part.grown {w w' : World} {g cap : Nat} {row : Option Nat} {zs : List Int} (h : Part w g cap zs) (k : w.grownBy w' row) (hb : some g ≠ row) : Part w' g cap zs := h.same (k.block g h.lt hb)
theorem Part.far {w : World} {g cap : Nat} {zs : List Int} (h : Part w g cap zs) {p : Addr} (hne : g ≠ p.block) (u : Value) : Part (w.setCell p u) g cap zs := h.same (Below.heap_setCell _ _ _ _ hne)
theorem Part.set {w : World} {g cap : Nat} {zs : List Int} (h : Part w g cap zs) (i : Nat) (hi : i < zs.length) (x : Int) : Part (w.setCell ⟨g, i, none⟩ (.int .u32 x)) g cap (zs.set i x) := by
  obtain ⟨cur, hh, hs, hl, ht⟩ := h
  refine ⟨cur.setIfInBounds i (.int .u32 x), ?_, by simpa using hs, by simpa using hl, ?_⟩
  · have e := heap_setCell_same w g i _ 63 (.int .u32 x) hh
    rw [e]
  · rw [List.length_set, Array.toList_setIfInBounds, List.take_set, ht, List.map_set]
theorem Part.own (g cap : Nat) {β : Type} (f : β → List Int) : Own (fun s W => Part W g cap (f s)) := fun s X Y row hs hg hrow =>
  hs.grown hg (fun e' => by
    obtain ⟨o, ho, hc⟩ := hrow g e'.symm
    obtain ⟨cur, hh, _⟩ := hs
    rw [hh] at ho; cases ho; cases hc)
theorem Part.num {base g cap : Nat} {w : World} {zs : List Int} (h : Part w g cap zs) (hb : base ≤ g) (hm : cap ≤ maxLen) : Num base w (.slice (some ⟨g, 0, none⟩) zs.length cap) zs := by
  obtain ⟨cur, hh, hs, hl, ht⟩ := h
  exact ⟨by simp, .inr ⟨g, cap, cur, rfl, hb, hh, hl, hm, by simpa using hs, by simpa using ht⟩⟩
theorem Part.lim {w : World} {g cap : Nat} {zs : List Int} (h : Part w g cap zs) : Lim w (some ⟨g, 0, none⟩) zs := .inr ⟨g, 0, rfl, fun i hi => by rw [Nat.zero_add]; exact h.cell i hi⟩
/-- a slice of the call's own limbs: none, or a row -/
theorem Num.parts {base : Nat} {w : World} {v : Value} {zs : List Int} (h : Num base w v zs) : (v = .slice none 0 0 ∧ zs = []) ∨ ∃ g cap, v = .slice (some ⟨g, 0, none⟩) zs.length cap ∧ base ≤ g ∧ cap ≤ maxLen ∧ Part w g cap zs := by
  obtain ⟨h1, h2⟩ := h
  rcases h2 with ⟨hv, hn⟩ | ⟨g, cap, cur, hv, hb, hg, hc, hm, hs, ht⟩
  · exact .inl ⟨hv, List.eq_nil_of_length_eq_zero hn⟩
  · exact .inr ⟨g, cap, hv, hb, hm, cur, hg, by simpa using hs, hc, by simpa using ht⟩
theorem Num.nil_slice {base : Nat} {w : World} {n cap : Nat} {zs : List Int} (h : Num base w (.slice none n cap) zs) : zs = [] ∧ n = 0 ∧ cap = 0 := by
  rcases h.parts with ⟨e, hz⟩ | ⟨g, cp, e, _⟩
  · simp only [Value.slice.injEq] at e
    exact ⟨hz, e.2.1, e.2.2⟩
  · simp at e
theorem Num.some_slice {base : Nat} {w : World} {ad : Addr} {n cap : Nat} {zs : List Int} (h : Num base w (.slice (some ad) n cap) zs) : ∃ g, ad = ⟨g, 0, none⟩ ∧ base ≤ g ∧ n = zs.length ∧ cap ≤ maxLen ∧ Part w g cap zs := by
  rcases h.parts with ⟨e, hz⟩ | ⟨g, cp, e, hb, hm, hp⟩
  · simp at e
  · simp only [Value.slice.injEq, Option.some.injEq] at e
    obtain ⟨rfl, rfl, rfl⟩ := e
    exact ⟨g, rfl, hb, rfl, hm, hp⟩
theorem Num.own (base : Nat) (v : Value) {β : Type} (f : β → List Int) : Own (fun s W => Num base W v (f s)) := fun s X Y row hs hg hrow => by
  rcases hs.parts with ⟨rfl, e⟩ | ⟨g, cp, rfl, hb, hm, hp⟩
  · have h : Num base Y (.slice none 0 0) [] := ⟨rfl, .inl ⟨rfl, rfl⟩⟩
    rw [← e] at h
    exact h
  · exact (Part.own g cp f s X Y row hp hg hrow).num hb hm
theorem bitsN_count {xs : List Int} (h : Wf xs) : (bitsN xs + 31) / 32 = trimN xs xs.length ∧ trimN xs xs.length * 32 ≤ bitsN xs + 31 ∧ bitsN xs ≤ trimN xs xs.length * 32 := by
  unfold bitsN
  split
  · rename_i h0; omega
  · rename_i h0
    obtain ⟨m, hm⟩ : ∃ m, trimN xs xs.length = m + 1 := ⟨trimN xs xs.length - 1, by omega⟩
    have hne := trimN_last xs xs.length (by omega)
    rw [hm, Nat.add_sub_cancel] at hne ⊢
    have hb := h.getD m
    obtain ⟨j, hj, h1, h2⟩ := bitLen_is (show 0 < xs.getD m 0 by omega) (by omega)
    have hj2 : j < 32 := by
      rcases Nat.lt_or_ge j 32 with k | k
      · exact k
      · have := two_mono k
        have e : (2 : Int) ^ 32 = 4294967296 := rfl
        omega
    omega
set_option maxHeartbeats 400000 in
theorem count_any {u : Value} {xs : List Int} {a : Option Addr} {cap : Nat} {w : World} (h1 : Arg w u xs a cap) (hx : xs.length ≤ 35184372088832) :
    Calls Tryz.prog 139 #[u] w fun e w' => e = .returned (.int .i64 (trimN xs xs.length)) ∧ w = w' := by
  obtain ⟨c1, _, c2⟩ := bitsN_count h1.wf
  have hl := trim_le xs
  have hbits := bits_any a xs cap w h1.lim hx h1.le h1.wf
  obtain ⟨rfl, _, _, _⟩ := h1
  obtain ⟨b, hb⟩ : ∃ b, bitsN xs = b := ⟨_, rfl⟩
  rw [hb] at hbits c1 c2
  have hq : Int.tdiv ((b : Int) + 32 - 1) 32 = (trimN xs xs.length : Int) := by
    rw [Int.tdiv_eq_ediv_of_nonneg (by omega), ← c1]
    omega
  have HQ := Lib.hid hq
  clear hq hb
  go_enter Tryz.func139, Tryz.ntmps139
  go_wp2_with fail
  refine hbits.mono ?_
  rintro e w' ⟨rfl, rfl⟩
  clear hbits c1
  have hq := HQ.out
  go_wp2
  go_ret
  exact ⟨rfl, rfl⟩
end
end Go.Proofs.YtooglnhlhgmhdaaGreat
