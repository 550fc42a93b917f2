/-
  Part 1 of 29: contracts and what they rest on (Math, Leaf, Nat1, Mem, Iter, Back, Cmp).
-/
import Derived.WalkKit
import Derived.Test.YtjgiacghlkkjfaaGreatDoorRows
import Derived.OrdersHeld
import Derived.Deep.RegionHeld
import Derived.BigQuiet
import Derived.Deep.QuietTactic
import Derived.Lib.Hide
import Derived.Lib.Small
import Derived.Lib.Walk
import Derived.Lib.BitFns
import Derived.Maps.AppendAt
import Derived.RangeFuncNested
import Derived.RangeFuncBound
import Derived.RangeFuncCalls
import Derived.RangeFuncLeaves
import Derived.Shelf.Abstract
import Derived.OwnWalkIn
import Derived.TacticsInMore
import Derived.LoopNIn
import Derived.LoopIn
import Derived.RangeFuncBox
import Derived.Deep.RegionHeld3
import Derived.OrdersIn
import Derived.StillTailTactics
import Derived.RangeFuncFrom
namespace Go.Proofs.YtjgiacghlkkjfaaGreatDoor
set_option maxRecDepth 100000
section
open Go.RowKit
/-- the number that limbs stand for -/
def val : List Int → Int
  | [] => 0
  | x :: xs => x + 4294967296 * val xs
/-- all are limbs -/
def Wf (xs : List Int) : Prop := ∀ x ∈ xs, 0 ≤ x ∧ x < 4294967296
/-- without the zeros at the end -/
def trimN (xs : List Int) : Nat → Nat
  | 0 => 0
  | n + 1 => if xs.getD n 0 = 0 then trimN xs n else n + 1
def trim (xs : List Int) : List Int := xs.take (trimN xs xs.length)
theorem Wf.nil : Wf [] := by intro x h; cases h
theorem Wf.cons {x : Int} {xs : List Int} (h : 0 ≤ x ∧ x < 4294967296) (hs : Wf xs) : Wf (x :: xs) := by
  intro y hy
  rcases List.mem_cons.1 hy with rfl | hy
  · exact h
  · exact hs y hy
theorem Wf.tail {x : Int} {xs : List Int} (h : Wf (x :: xs)) : Wf xs := fun y hy => h y (List.mem_cons_of_mem _ hy)
theorem Wf.head {x : Int} {xs : List Int} (h : Wf (x :: xs)) : 0 ≤ x ∧ x < 4294967296 := h x List.mem_cons_self
theorem Wf.append {xs ys : List Int} (h : Wf xs) (k : Wf ys) : Wf (xs ++ ys) := by
  intro x hx
  rcases List.mem_append.1 hx with hx | hx
  · exact h x hx
  · exact k x hx
theorem Wf.take {xs : List Int} (h : Wf xs) (n : Nat) : Wf (xs.take n) := fun x hx => h x (List.mem_of_mem_take hx)
theorem Wf.drop {xs : List Int} (h : Wf xs) (n : Nat) : Wf (xs.drop n) := fun x hx => h x (List.mem_of_mem_drop hx)
theorem Wf.getD {xs : List Int} (h : Wf xs) (i : Nat) : 0 ≤ xs.getD i 0 ∧ xs.getD i 0 < 4294967296 := by
  by_cases hi : i < xs.length
  · have : xs.getD i 0 = xs[i] := by simp [List.getD, hi]
    rw [this]
    exact h _ (List.getElem_mem hi)
  · have : xs.getD i 0 = 0 := by simp [List.getD, List.getElem?_eq_none (Nat.le_of_not_lt hi)]
    rw [this]; omega
theorem trimN_le (xs : List Int) (n : Nat) : trimN xs n ≤ n := by
  induction n with
  | zero => exact Nat.le_refl _
  | succ n ih => unfold trimN; split <;> omega
theorem trim_le (xs : List Int) : trimN xs xs.length ≤ xs.length := trimN_le xs _
theorem trim_length (xs : List Int) : (trim xs).length = trimN xs xs.length := by
  unfold trim; rw [List.length_take]; have := trim_le xs; omega
theorem Wf.trim {xs : List Int} (h : Wf xs) : Wf (trim xs) := h.take _
theorem val_nonneg {xs : List Int} (h : Wf xs) : 0 ≤ val xs := by
  induction xs with
  | nil => simp [val]
  | cons x xs ih => have := ih h.tail; have := h.head; simp only [val]; omega
theorem val_append (xs ys : List Int) : val (xs ++ ys) = val xs + 4294967296 ^ xs.length * val ys := by
  induction xs with
  | nil => simp [val]
  | cons x xs ih => simp only [List.cons_append, val, ih, List.length_cons, Int.pow_succ]; grind
theorem val_zeros (n : Nat) : val (List.replicate n 0) = 0 := by
  induction n with
  | zero => rfl
  | succ n ih => simp [List.replicate_succ, val, ih]
theorem wrap_u64 {x : Int} (h0 : 0 ≤ x) (h1 : x < 18446744073709551616) : IntKind.u64.wrap x = x := by
  simp only [IntKind.wrap, IntKind.bits, IntKind.signed, Bool.false_and, Bool.false_eq_true, if_false]
  exact Int.emod_eq_of_lt h0 h1
theorem wrap_u32 (x : Int) : IntKind.u32.wrap x = x % 4294967296 := by
  simp only [IntKind.wrap, IntKind.bits, IntKind.signed, Bool.false_and, Bool.false_eq_true, if_false]
  rfl
theorem or_u64 {x y : Int} (hx : 0 ≤ x ∧ x < 4294967296) (hy : 0 ≤ y ∧ y < 4294967296) : bits .or .u64 (x * 4294967296) y = 4294967296 * x + y := by
  rw [u64_or _ _ (by omega) (by omega) (by omega) (by omega)]
  obtain ⟨a, rfl⟩ := Int.eq_ofNat_of_zero_le hx.1
  obtain ⟨b, rfl⟩ := Int.eq_ofNat_of_zero_le hy.1
  have h1 : ((a : Int) * 4294967296).toNat = 2 ^ 32 * a := by omega
  rw [h1, Int.toNat_natCast, ← Nat.two_pow_add_eq_or_of_lt (by omega)]
  omega
theorem set_mid (l : List Int) (n k : Nat) (z : Int) (hl : l.length = k) (hk : k < n) : (l ++ List.replicate (n - k) 0).set k z = l ++ [z] ++ List.replicate (n - (k + 1)) 0 := by
  obtain ⟨j, hj⟩ : ∃ j, n - k = j + 1 := ⟨n - k - 1, by omega⟩
  have e2 : n - (k + 1) = j := by omega
  rw [hj, e2, List.replicate_succ, List.set_append_right _ _ (by omega), hl, Nat.sub_self, List.set_cons_zero, List.append_assoc]
  rfl
structure Only (b : Nat) (w w' : World) : Prop where
  os : w'.os = w.os
  tape : w'.tape = w.tape
  output : w'.output = w.output
  size : w'.heap.size = w.heap.size
  block : ∀ k, k ≠ b → w'.heap[k]? = w.heap[k]?
theorem Only.refl (b : Nat) (w : World) : Only b w w := ⟨rfl, rfl, rfl, rfl, fun _ _ => rfl⟩
theorem Only.trans {b : Nat} {x y z : World} (h : Only b x y) (k : Only b y z) : Only b x z :=
  ⟨k.os.trans h.os, k.tape.trans h.tape, k.output.trans h.output, k.size.trans h.size, fun i hi => (k.block i hi).trans (h.block i hi)⟩
theorem Only.setCell (w : World) (a : Addr) (u : Value) : Only a.block w (w.setCell a u) :=
  ⟨rfl, rfl, rfl, by simp [World.setCell], fun k hk => Below.heap_setCell _ _ _ _ hk⟩
theorem Only.set (w : World) (b o : Nat) (u : Value) : Only b w (w.setCell ⟨b, o, none⟩ u) := Only.setCell w ⟨b, o, none⟩ u
theorem Only.below {b B : Nat} {w w' : World} (h : Only b w w') (hB : B ≤ b) : Below B w w' :=
  ⟨h.os, h.tape, h.output, Nat.le_of_eq h.size.symm, fun k hk => h.block k (by omega)⟩
theorem Only.cell {b : Nat} {w w' : World} (h : Only b w w') {p : Addr} (hp : p.block ≠ b) : w'.cell? p = w.cell? p := World.cell?_of_block (h.block p.block hp)
end
section
open Go.RowKit
/-- the limbs xs lie from the address ad on -/
def Lim (w : World) (ad : Option Addr) (xs : List Int) : Prop :=
  xs = [] ∨ ∃ b off, ad = some ⟨b, off, none⟩ ∧ ∀ i, i < xs.length → w.cell? ⟨b, off + i, none⟩ = some (.int .u32 (xs.getD i 0))
set_option maxHeartbeats 400000 in
theorem at_any (ad : Option Addr) (xs : List Int) (cap : Nat) (i : Int) (w : World) (hl : Lim w ad xs) (hm : xs.length ≤ maxLen) (hi : 0 ≤ i) :
    Calls Tryz.prog 264 #[.slice ad xs.length cap, .int .i64 i] w fun e w' => e = .returned (.int .u32 (xs.getD i.toNat 0)) ∧ w = w' := by
  unfold maxLen at hm
  obtain ⟨k, rfl⟩ := Int.eq_ofNat_of_zero_le hi
  by_cases hk : k < xs.length
  · rcases hl with rfl | ⟨b, off, rfl, hc⟩
    · simp at hk
    · have hck := hc k hk
      clear hc
      go_enter Tryz.func264, Tryz.ntmps264
      go_wp2
      go_ret
      refine ⟨?_, rfl⟩
      simp [hk]
  · go_enter Tryz.func264, Tryz.ntmps264
    go_wp2
    go_ret
    refine ⟨?_, rfl⟩
    simp [List.getElem?_eq_none (Nat.le_of_not_lt hk)]
set_option maxHeartbeats 400000 in
theorem cut_any (ad : Option Addr) (xs : List Int) (cap : Nat) (w : World) (hl : Lim w ad xs) (hm : xs.length ≤ maxLen) (hcap : xs.length ≤ cap) :
    Calls Tryz.prog 231 #[.slice ad xs.length cap] w fun e w' => e = .returned (.slice ad (trimN xs xs.length) cap) ∧ w = w' := by
  unfold maxLen at hm
  go_enter Tryz.func231, Tryz.ntmps231
  go_wp2
  go_loop [3] (fun n => ∃ j : Nat, j ≤ xs.length ∧ n = .int .i64 j ∧ trimN xs j = trimN xs xs.length) (fun n => (intOf n).toNat)
  case atStart => exact ⟨xs.length, Nat.le_refl _, rfl, rfl⟩
  case round =>
    obtain ⟨j, hj, rfl, ht⟩ := hrel
    have HT := Lib.hid ht
    clear ht
    rcases j with _ | m
    · have h0 : trimN xs xs.length = 0 := HT.out.symm
      go_wp2
      go_ret
      exact ⟨rfl, rfl⟩
    · rcases hl with rfl | ⟨b, off, rfl, hc⟩
      · simp at hj
      · have hck := hc m (by omega)
        clear hc
        go_wp2
        · have hz : xs.getD m 0 = 0 := by
            have h : (xs[m]?.getD 0 == 0) = true := by assumption
            simpa using h
          go_round
          case rel => exact ⟨m, by omega, by go_num, by rw [← HT.out]; simp only [trimN]; rw [if_pos hz]⟩
          case measure => simp [intOf]
        · have hz : xs.getD m 0 ≠ 0 := by
            have h : (xs[m]?.getD 0 == 0) = false := by assumption
            simpa using h
          have ht : trimN xs xs.length = m + 1 := by rw [← HT.out]; simp only [trimN]; rw [if_neg hz]
          go_ret
          exact ⟨by rw [ht]; simp, rfl⟩
set_option maxHeartbeats 400000 in
/-- the two limbs from i on, as one number -/
theorem pair_any (ad : Option Addr) (xs : List Int) (cap : Nat) (i : Int) (w : World) (hl : Lim w ad xs) (hm : xs.length ≤ maxLen) (hi : 0 ≤ i) (hi2 : i ≤ 4611686018427387904) (hw : Wf xs) :
    Calls Tryz.prog 274 #[.slice ad xs.length cap, .int .i64 i] w fun e w' =>
      e = .returned (.int .u64 (4294967296 * xs.getD (i.toNat + 1) 0 + xs.getD i.toNat 0)) ∧ w = w' := by
  obtain ⟨k, rfl⟩ := Int.eq_ofNat_of_zero_le hi
  have b1 := hw.getD (k + 1)
  have b0 := hw.getD k
  go_enter Tryz.func274, Tryz.ntmps274
  go_wp2_with fail
  refine (at_any ad xs cap _ _ hl hm (by omega)).mono ?_
  rintro e w' ⟨rfl, rfl⟩
  go_wp2_with fail
  refine (at_any ad xs cap _ _ hl hm (by omega)).mono ?_
  rintro e w' ⟨rfl, rfl⟩
  go_wp2
  go_ret
  refine ⟨?_, rfl⟩
  have e1 : xs[k + 1]?.getD 0 = xs.getD (k + 1) 0 := rfl
  have e0 : xs[k]?.getD 0 = xs.getD k 0 := rfl
  simp only [Int.toNat_natCast, e1, e0]
  rw [wrap_u64 (x := xs.getD (k + 1) 0) (by omega) (by omega), wrap_u64 (x := xs.getD k 0) (by omega) (by omega), wrap_u64 (by omega) (by omega), or_u64 b1 b0]
  rfl
set_option maxHeartbeats 400000 in
theorem split_any (n : Int) (w : World) (hn : -9223372036854775808 ≤ n) (hn2 : n ≤ 9223372036854775807) :
    Calls Tryz.prog 295 #[.int .i64 n] w fun e w' =>
      e = .returned (.tuple #[.int .i64 ((max n 0) / 32), .int .i64 ((max n 0) % 32)]) ∧ w = w' := by
  go_enter Tryz.func295, Tryz.ntmps295
  go_wp2
  all_goals go_ret2
  all_goals refine ⟨?_, rfl⟩
  all_goals first | rfl | (rw [show max n 0 = 0 from by omega]; rfl) | (rw [show max n 0 = n from by omega]; rfl)
theorem carrier_any (c : Int) (w : World) :
    Calls Tryz.prog 263 #[.int .u64 c] w fun e w' =>
      e = .returned (.func (.func 291) #[] #[.pointer (some ⟨w.heap.size, 0, none⟩)]) ∧ w' = w.alloc (.cells #[.int .u64 c] 239) := by
  go_enter Tryz.func263, Tryz.ntmps263
  go_wp2
  go_ret
  exact ⟨rfl, rfl⟩
/-- called with parts: the sum's low word; the rest is kept -/
def Carried (b : Nat) (v : Int) (w w' : World) : Prop := w'.heap[b]? = some (.cells #[.int .u64 v] 239 (0, 0)) ∧ Only b w w'
def sumL : List Int → Int
  | [] => 0
  | x :: xs => x + sumL xs
theorem sumL_snoc (xs : List Int) (x : Int) : sumL (xs ++ [x]) = sumL xs + x := by
  induction xs with
  | nil => simp [sumL]
  | cons y ys ih => simp only [List.cons_append, sumL, ih]; omega
theorem sumL_take (xs : List Int) (k : Nat) (hk : k < xs.length) : sumL (xs.take (k + 1)) = sumL (xs.take k) + xs.getD k 0 := by
  rw [List.take_succ_eq_append_getElem hk, sumL_snoc]
  simp [List.getD, hk]
theorem sumL_mono (xs : List Int) (h : ∀ x ∈ xs, 0 ≤ x) (k : Nat) : 0 ≤ sumL (xs.take k) ∧ sumL (xs.take k) ≤ sumL xs := by
  induction xs generalizing k with
  | nil => simp [sumL]
  | cons x xs ih =>
    have hx := h x List.mem_cons_self
    cases k with
    | zero => have := (ih (fun y hy => h y (List.mem_cons_of_mem _ hy)) xs.length).1; simp only [List.take_length] at this; simp only [List.take_zero, sumL]; omega
    | succ k => have := ih (fun y hy => h y (List.mem_cons_of_mem _ hy)) k; simp only [List.take_succ_cons, sumL]; omega
set_option maxHeartbeats 400000 in
theorem carry_any (c : Int) (ys : List Int) (b : Nat) (ad : Option Addr) (w : World) (hc : 0 ≤ c) (hy : ∀ y ∈ ys, 0 ≤ y) (hs : c + sumL ys < 18446744073709551616) (hlen : ys.length ≤ 2)
    (hb : w.heap[b]? = some (.cells #[.int .u64 c] 239 (0, 0)))
    (hp : ys ≠ [] → ∃ p, ad = some ⟨p, 0, none⟩ ∧ p ≠ b ∧ ∀ i, i < ys.length → w.cell? ⟨p, i, none⟩ = some (.int .u64 (ys.getD i 0))) :
    Calls Tryz.prog 291 #[.slice ad ys.length ys.length, .pointer (some ⟨b, 0, none⟩)] w fun e w' =>
      e = .returned (.int .u32 ((c + sumL ys) % 4294967296)) ∧ Carried b ((c + sumL ys) / 4294967296) w w' := by
  go_enter Tryz.func291, Tryz.ntmps291
  go_wp2
  go_loopw [5, 9] (fun _ i wr => ∃ k : Nat, k ≤ ys.length ∧ i = .int .i64 k ∧ Carried b (c + sumL (ys.take k)) w wr) (fun _ i _ => ys.length - (intOf i).toNat)
  case atStart => exact ⟨0, Nat.zero_le _, rfl, by simpa [sumL] using hb, Only.refl _ _⟩
  case round =>
    obtain ⟨k, hk, rfl, hcb, ho⟩ := hrel
    have h1 := cell_of_one hcb
    have h2 := free_of_one hcb
    have h3 := sumL_mono ys hy k
    by_cases hlt : k < ys.length
    · obtain ⟨p, rfl, hpb, hpc⟩ := hp (by intro h; simp [h] at hlt)
      have hck := (ho.cell (p := ⟨p, k, none⟩) hpb).trans (hpc k hlt)
      have h4 := sumL_mono ys hy (k + 1)
      have h5 := sumL_take ys k hlt
      have h6 : 0 ≤ ys.getD k 0 := by have := sumL_mono ys hy (k+1); simp only [List.getD, hlt, List.getElem?_eq_getElem, Option.getD_some]; exact hy _ (List.getElem_mem hlt)
      have h7 : c + sumL (ys.take k) + ys.getD k 0 < 18446744073709551616 := by omega
      have h8 : ys.getD k 0 = ys[k] := by simp [hlt]
      rw [h8] at h5 h6 h7
      have H5 := Lib.hid h5
      clear h5 h4 hp hpc h8
      go_wp2
      go_roundw
      case rel =>
        refine ⟨k + 1, by omega, by go_num, ?_, ho.trans (Only.set _ _ _ _)⟩
        rw [one_setCell hcb, H5.out, Int.add_assoc]
      case measure => simp [intOf]; omega
    · have hke : k = ys.length := by omega
      subst hke
      rw [List.take_length] at hcb h1 h3
      have hco := one_setCell hcb (u := .int .u64 ((c + sumL ys) / 4294967296))
      go_wp2
      go_ret
      exact ⟨rfl, hco, ho.trans (Only.set _ _ _ _)⟩
end
section
open Go.RowKit
theorem tab_at (i : Int) (h0 : 0 ≤ i) (h1 : i ≤ 255) (h : i.toNat < Lib.len8tab.size) : (Lib.len8tab[i.toNat].toNat : Int) = Lib.bitLen i.toNat := by
  rw [← Lib.len8_of i h0 h1]
  unfold Lib.len8
  rw [getElem?_pos Lib.len8tab i.toNat h]
  rfl
theorem wrap2 (c : Int) (n : Nat) (h0 : 0 ≤ c) (h1 : c ≤ 24) (hn : n ≤ 8) : wrap64 (c + wrap64 (n : Int)) = c + n := by unfold wrap64; omega
theorem wrap64_small (x : Int) (h0 : 0 ≤ x) (h1 : x ≤ 1000) : wrap64 x = x := by unfold wrap64; omega
set_option maxHeartbeats 4000000 in
set_option maxRecDepth 100000 in
theorem len_any (x : Int) (w : World) (hx : 0 ≤ x ∧ x < 4294967296) :
    Calls Tryz.prog 232 #[.int .u32 x] w fun e w' => e = .returned (.int .i64 (Lib.bitLen x.toNat)) ∧ w = w' := by
  obtain ⟨h0, h1⟩ := hx
  have hsz : (Lib.len8tab.size : Int) = 256 := by rw [Lib.len8tab_size]; rfl
  go_enter Tryz.func232, Tryz.ntmps232
  go_wp2
  all_goals (go_ret; refine ⟨congrArg Ending.returned (congrArg (Value.int IntKind.i64) ?_), rfl⟩)
  · have e : (x / 65536 / 256).toNat = x.toNat / 16777216 := by omega
    have t := tab_at (x / 65536 / 256) (by omega) (by omega) (by rw [Lib.len8tab_size]; omega)
    have l := Lib.bitLen_le8' (x / 65536 / 256) (by omega) (by omega)
    have s := Lib.bitLen_shift24 x.toNat (by omega) (by omega)
    rw [t, wrap2 _ _ (by omega) (by omega) l, e, s]
    omega
  · have e : (x / 65536).toNat = x.toNat / 65536 := by omega
    have t := tab_at (x / 65536) (by omega) (by omega) (by rw [Lib.len8tab_size]; omega)
    have l := Lib.bitLen_le8' (x / 65536) (by omega) (by omega)
    have s := Lib.bitLen_shift16 x.toNat (by omega) (by omega)
    rw [t, wrap2 _ _ (by omega) (by omega) l, e, s]
    omega
  · have e : (x / 256).toNat = x.toNat / 256 := by omega
    have t := tab_at (x / 256) (by omega) (by omega) (by rw [Lib.len8tab_size]; omega)
    have l := Lib.bitLen_le8' (x / 256) (by omega) (by omega)
    have s := Lib.bitLen_shift8 x.toNat (by omega) (by omega)
    rw [t, wrap2 _ _ (by omega) (by omega) l, e, s]
    omega
  · have t := tab_at x (by omega) (by omega) (by rw [Lib.len8tab_size]; omega)
    have l := Lib.bitLen_le8' x (by omega) (by omega)
    rw [t, wrap64_small (Lib.bitLen x.toNat) (by omega) (by omega), wrap64_small _ (by omega) (by omega)]
/-- -1, 0 or 1 -/
def sign (a b : Int) : Int := if a < b then -1 else if b < a then 1 else 0
theorem cmpInt_any (a b : Int) (w : World) :
    Calls Tryz.prog 265 #[.int .i64 a, .int .i64 b] w fun e w' => e = .returned (.int .i64 (sign a b)) ∧ w = w' := by
  go_enter Tryz.func265, Tryz.ntmps265
  go_wp2_with go_in
  all_goals go_ret
  all_goals refine ⟨congrArg Ending.returned (congrArg (Value.int IntKind.i64) ?_), rfl⟩
  all_goals unfold sign
  · rw [if_pos (by assumption)]
  · rw [if_neg (by omega), if_pos (by assumption)]
  · rw [if_neg (by omega), if_neg (by omega)]
theorem cmpLimb_any (a b : Int) (w : World) :
    Calls Tryz.prog 267 #[.int .u32 a, .int .u32 b] w fun e w' => e = .returned (.int .i64 (sign a b)) ∧ w = w' := by
  go_enter Tryz.func267, Tryz.ntmps267
  go_wp2_with go_in
  all_goals go_ret
  all_goals refine ⟨congrArg Ending.returned (congrArg (Value.int IntKind.i64) ?_), rfl⟩
  all_goals unfold sign
  · rw [if_pos (by assumption)]
  · rw [if_neg (by omega), if_pos (by assumption)]
  · rw [if_neg (by omega), if_neg (by omega)]
/-- the number of bits -/
def bitsN (xs : List Int) : Nat := if trimN xs xs.length = 0 then 0 else (trimN xs xs.length - 1) * 32 + Lib.bitLen (xs.getD (trimN xs xs.length - 1) 0).toNat
set_option maxHeartbeats 400000 in
theorem bits_any (ad : Option Addr) (xs : List Int) (cap : Nat) (w : World) (hl : Lim w ad xs) (hm : xs.length ≤ 35184372088832) (hcap : xs.length ≤ cap) (hw : Wf xs) :
    Calls Tryz.prog 194 #[.slice ad xs.length cap] w fun e w' => e = .returned (.int .i64 (bitsN xs)) ∧ w = w' := by
  have ht := trim_le xs
  go_enter Tryz.func194, Tryz.ntmps194
  go_wp2_with fail
  refine (cut_any ad xs cap _ hl (by unfold maxLen; omega) hcap).mono ?_
  rintro e w' ⟨rfl, rfl⟩
  have hb : bitsN xs = if trimN xs xs.length = 0 then 0 else (trimN xs xs.length - 1) * 32 + Lib.bitLen (xs.getD (trimN xs xs.length - 1) 0).toNat := rfl
  generalize trimN xs xs.length = t at *
  have HB := Lib.hid hb
  clear hb
  rcases t with _ | m
  · go_wp2_with fail
    go_ret
    rw [HB.out]
    exact ⟨rfl, rfl⟩
  · rcases hl with rfl | ⟨b, off, rfl, hc⟩
    · simp at ht
    · have hcm := hc m (by omega)
      have hwm := hw.getD m
      have h1 : ((m : Int) + 1 == 0) = false := by simp; omega
      clear hc
      go_wp2_with fail
      refine (len_any _ _ hwm).mono ?_
      rintro e w' ⟨rfl, rfl⟩
      have hle := Lib.bitLen_le (xs.getD m 0).toNat 32 (by omega) (by omega)
      have hge : 0 ≤ (Lib.bitLen (xs.getD m 0).toNat : Int) := by omega
      have e2 : bitsN xs = m * 32 + Lib.bitLen (xs.getD m 0).toNat := HB.out
      have HE := Lib.hid e2
      clear e2
      generalize Lib.bitLen (xs.getD m 0).toNat = q at *
      go_wp2_with fail
      go_ret
      refine ⟨congrArg Ending.returned (congrArg (Value.int IntKind.i64) ?_), rfl⟩
      rw [HE.out]
      omega
set_option maxHeartbeats 400000 in
theorem uint_any (ad : Option Addr) (xs : List Int) (cap : Nat) (w : World) (hl : Lim w ad xs) (hm : xs.length ≤ 35184372088832) (hcap : xs.length ≤ cap) (hw : Wf xs) :
    Calls Tryz.prog 249 #[.slice ad xs.length cap] w fun e w' =>
      e = .returned (if bitsN xs ≤ 64 then .tuple #[.int .u64 (4294967296 * xs.getD 1 0 + xs.getD 0 0), .bool true] else .tuple #[.int .u64 0, .bool false]) ∧ w = w' := by
  by_cases hb : bitsN xs ≤ 64
  · rw [if_pos hb]
    have hb2 : (bitsN xs : Int) ≤ 64 := by omega
    clear hb
    go_enter Tryz.func249, Tryz.ntmps249
    go_wp2_with fail
    refine (bits_any ad xs cap _ hl hm hcap hw).mono ?_
    rintro e w' ⟨rfl, rfl⟩
    go_wp2_with fail
    refine (pair_any ad xs cap _ _ hl (by unfold maxLen; omega) (by omega) (by omega) hw).mono ?_
    rintro e w' ⟨rfl, rfl⟩
    go_wp2_with fail
    go_ret2
    exact ⟨rfl, rfl⟩
  · rw [if_neg hb]
    have hb2 : 64 < (bitsN xs : Int) := by omega
    clear hb
    go_enter Tryz.func249, Tryz.ntmps249
    go_wp2_with fail
    refine (bits_any ad xs cap _ hl hm hcap hw).mono ?_
    rintro e w' ⟨rfl, rfl⟩
    go_wp2_with fail
    go_ret2
    exact ⟨rfl, rfl⟩
end
section
open Go.RowKit
theorem Lim.later {w w' : World} {ad : Option Addr} {xs : List Int} (h : Lim w ad xs) (hb : Below w.heap.size w w') : Lim w' ad xs := by
  rcases h with rfl | ⟨b, off, rfl, hc⟩
  · exact .inl rfl
  · refine .inr ⟨b, off, rfl, fun i hi => ?_⟩
    have hlt := World.block_lt_of_cell? w _ (hc i hi)
    exact (hb.cell (p := ⟨b, off + i, none⟩) hlt).trans (hc i hi)
theorem Lim.take {w : World} {ad : Option Addr} {xs : List Int} (h : Lim w ad xs) (n : Nat) : Lim w ad (xs.take n) := by
  rcases h with rfl | ⟨b, off, rfl, hc⟩
  · exact .inl (by simp)
  · refine .inr ⟨b, off, rfl, fun i hi => ?_⟩
    rw [List.length_take] at hi
    rw [hc i (by omega)]
    simp [show i < n by omega]
theorem Lim.lt {w : World} {ad : Option Addr} {xs : List Int} (h : Lim w ad xs) (hn : xs ≠ []) : ∀ a, ad = some a → a.block < w.heap.size := by
  rcases h with rfl | ⟨b, off, rfl, hc⟩
  · exact absurd rfl hn
  · intro a ha
    cases ha
    exact World.block_lt_of_cell? w _ (hc 0 (List.length_pos_iff.2 hn))
/-- a block of limbs, known whole -/
def Blk (w : World) (g : Nat) (zs : List Int) : Prop := w.heap[g]? = some (.cells (zs.map (Value.int .u32)).toArray 96 (0, 0))
theorem Blk.cell {w : World} {g : Nat} {zs : List Int} (h : Blk w g zs) (i : Nat) (hi : i < zs.length) : w.cell? ⟨g, i, none⟩ = some (.int .u32 (zs.getD i 0)) := by
  have e : w.cell? ⟨g, i, none⟩ = ((zs.map (Value.int .u32)).toArray)[i]? := cell_of_row w g i _ 96 (0, 0) h
  rw [e]; simp [hi]
theorem Blk.free {w : World} {g : Nat} {zs : List Int} (h : Blk w g zs) (i : Nat) : w.frozen? ⟨g, i, none⟩ = false := by
  exact frozen_of_row w g i _ 96 h
theorem Blk.lt {w : World} {g : Nat} {zs : List Int} (h : Blk w g zs) : g < w.heap.size := lt_of_block h
theorem Blk.same {w w' : World} {g : Nat} {zs : List Int} (h : Blk w g zs) (e : w'.heap[g]? = w.heap[g]?) : Blk w' g zs := e.trans h
theorem Blk.alloc {w : World} {g : Nat} {zs : List Int} (h : Blk w g zs) (o : Obj) : Blk (w.alloc o) g zs := h.same (Below.heap_alloc _ _ _ h.lt)
theorem Blk.set {w : World} {g : Nat} {zs : List Int} (h : Blk w g zs) (i : Nat) (x : Int) : Blk (w.setCell ⟨g, i, none⟩ (.int .u32 x)) g (zs.set i x) := by
  have hh := heap_setCell_same w g i _ 96 (.int .u32 x) h
  unfold Blk
  rw [hh]
  congr 2
  simp [List.map_set]
theorem Blk.made (w : World) (n : Nat) : Blk (w.alloc (.cells (madeCells #[.int .u32 0] n) 96)) w.heap.size (List.replicate n 0) := by
  have h := heap_alloc_new w (.cells (madeCells #[.int .u32 0] n) 96)
  unfold Blk
  rw [h]
  congr 2
  apply Array.ext
  · simp [madeCells]
  · intro i h1 h2
    simp [madeCells, Nat.mod_one]
/-- v is a slice of the call's own limbs xs -/
def Num (base : Nat) (w : World) (v : Value) (xs : List Int) : Prop := w.ownsRow base 96 1 v xs.length (xs.map (Value.int .u32))
theorem Num.read {base : Nat} {w : World} {v : Value} {xs : List Int} (h : Num base w v xs) : ∃ ad cap, v = .slice ad xs.length cap ∧ Lim w ad xs ∧ xs.length ≤ cap ∧ cap ≤ maxLen ∧ (∀ a, ad = some a → base ≤ a.block ∧ a.block < w.heap.size) := by
  obtain ⟨h1, h2⟩ := h
  rcases h2 with ⟨rfl, hn⟩ | ⟨g, cap, cur, rfl, hb, hg, hc, hm, hs, ht⟩
  · obtain rfl := List.eq_nil_of_length_eq_zero hn
    exact ⟨none, 0, rfl, .inl rfl, Nat.le_refl _, by unfold maxLen; omega, fun a ha => by cases ha⟩
  · refine ⟨_, cap, rfl, .inr ⟨g, 0, rfl, fun i hi => ?_⟩, hc, hm, fun a ha => by cases ha; exact ⟨hb, lt_of_block hg⟩⟩
    have hj := World.ownsRow.cellAt (w := w) (base := base) (e := 96) (size := 1) (g := g) (n := xs.length) (cap := cap) (xs := xs.map (Value.int .u32)) ⟨h1, .inr ⟨g, cap, cur, rfl, hb, hg, hc, hm, hs, ht⟩⟩ i (by omega)
    rw [Nat.zero_add, hj]
    simp [hi]
theorem Num.cut {base : Nat} {w : World} {ad : Option Addr} {xs : List Int} {n cap : Nat} (h : Num base w (.slice ad n cap) xs) : Num base w (.slice ad (trimN xs xs.length) cap) (trim xs) := by
  have hl := trim_le xs
  unfold Num at *
  rw [trim_length]
  obtain ⟨h1, h2⟩ := h
  rcases h2 with ⟨hv, hn⟩ | ⟨g, cap', cur, hv, hb, hg, hc, hm, hs, ht⟩
  · obtain rfl := List.eq_nil_of_length_eq_zero hn
    cases hv
    exact ⟨rfl, .inl ⟨rfl, rfl⟩⟩
  · cases hv
    refine ⟨by rw [List.length_map, trim_length, Nat.mul_one], .inr ⟨g, cap, cur, rfl, hb, hg, by omega, hm, hs, ?_⟩⟩
    unfold trim
    rw [List.map_take, ← ht, List.take_take]
    congr 1
    omega
theorem Num.ofBlk {base g : Nat} {w : World} {zs : List Int} (h : Blk w g zs) (hb : base ≤ g) (n : Nat) (hn : n ≤ zs.length) (hm : zs.length ≤ maxLen) : Num base w (.slice (some ⟨g, 0, none⟩) n zs.length) (zs.take n) := by
  have e : (zs.take n).length = n := by rw [List.length_take]; omega
  unfold Num
  rw [e]
  refine ⟨by rw [List.length_map, e, Nat.mul_one], .inr ⟨g, zs.length, _, rfl, hb, h, hn, hm, by simp, ?_⟩⟩
  simp [List.map_take]
theorem Num.lt {base : Nat} {w : World} {v : Value} {xs : List Int} (h : Num base w v xs) : ∀ k, v.ownBlock = some k → base ≤ k ∧ k < w.heap.size := World.ownsRow.lt h
theorem Num.kept {base B : Nat} {w w' : World} {v : Value} {xs : List Int} (h : Num base w v xs) (hb : Below B w w') (hB : ∀ k, v.ownBlock = some k → k < B) : Num base w' v xs := by
  obtain ⟨h1, h2⟩ := h
  refine ⟨h1, ?_⟩
  rcases h2 with h2 | ⟨g, cap, cur, rfl, hg0, hg, hc, hm, hs, ht⟩
  · exact .inl h2
  · exact .inr ⟨g, cap, cur, rfl, hg0, (hb.block g (hB g rfl)).trans hg, hc, hm, hs, ht⟩
theorem Num.later {base : Nat} {w w' : World} {v : Value} {xs : List Int} (h : Num base w v xs) (hb : Below w.heap.size w w') : Num base w' v xs := h.kept hb fun k hk => (h.lt k hk).2
theorem Num.mono {base base' : Nat} {w : World} {v : Value} {xs : List Int} (h : Num base w v xs) (hb : base' ≤ base) : Num base' w v xs := by
  obtain ⟨h1, h2⟩ := h
  refine ⟨h1, ?_⟩
  rcases h2 with h2 | ⟨g, cap, cur, rfl, hg0, hg, hc, hm, hs, ht⟩
  · exact .inl h2
  · exact .inr ⟨g, cap, cur, rfl, Nat.le_trans hb hg0, hg, hc, hm, hs, ht⟩
theorem cut_still (ad : Option Addr) (xs : List Int) (cap : Nat) (w : World) (hl : Lim w ad xs) (hm : xs.length ≤ 35184372088832) (hcap : xs.length ≤ cap) :
    Calls Tryz.prog 231 #[.slice ad xs.length cap] w fun e w' => e = .returned (.slice ad (trimN xs xs.length) cap) ∧ w' = w :=
  (cut_any ad xs cap w hl (by unfold maxLen; omega) hcap).mono fun _ _ ⟨he, hw⟩ => ⟨he, hw.symm⟩
theorem cut_num {base : Nat} {v : Value} {xs : List Int} {w : World} (h : Num base w v xs) :
    Calls Tryz.prog 231 #[v] w fun e w' => ∃ u, e = .returned u ∧ Num base w u (trim xs) ∧ w = w' := by
  obtain ⟨ad, cap, rfl, hl, hc, hm, _⟩ := h.read
  exact (cut_any ad xs cap w hl (by omega) hc).mono fun e w' ⟨he, hw⟩ => ⟨_, he, h.cut, hw⟩
theorem Blk.grown {w w' : World} {g : Nat} {row : Option Nat} {zs : List Int} (h : Blk w g zs) (k : w.grownBy w' row) (hb : some g ≠ row) : Blk w' g zs := h.same (k.block g h.lt hb)
def Stepped (b : Nat) (v : Int) (w w' : World) : Prop := w'.heap[b]? = some (.cells #[.int .u64 v] 239 (0, 0)) ∧ w.grownBy w' (some b)
theorem Only.grown {b : Nat} {w w' : World} (h : Only b w w') : w.grownBy w' (some b) := ⟨h.os, h.tape, h.output, Nat.le_of_eq h.size.symm, fun k _ hb => h.block k (fun e => hb (by rw [e]))⟩
theorem grown_alloc_only {b : Nat} {w w' : World} {o : Obj} (h : Only b (w.alloc o) w') : w.grownBy w' (some b) :=
  ⟨h.os, h.tape, h.output, by have := h.size; simp at this; omega, fun k hk hb => (h.block k (fun e => hb (by rw [e]))).trans (Below.heap_alloc _ _ _ hk)⟩
theorem carry1 (c x : Int) (b : Nat) (w : World) (hc : 0 ≤ c) (hx : 0 ≤ x) (hs : c + x < 18446744073709551616) (hb : w.heap[b]? = some (.cells #[.int .u64 c] 239 (0, 0))) :
    Calls Tryz.prog 291 #[.slice (some ⟨w.heap.size, 0, none⟩) 1 1, .pointer (some ⟨b, 0, none⟩)] (w.alloc (.cells #[.int .u64 x] 239)) fun e w' =>
      e = .returned (.int .u32 ((c + x) % 4294967296)) ∧ Stepped b ((c + x) / 4294967296) w w' := by
  have hlt := lt_of_block hb
  have e : c + sumL [x] = c + x := by simp only [sumL]; omega
  have h := carry_any c [x] b (some ⟨w.heap.size, 0, none⟩) (w.alloc (.cells #[.int .u64 x] 239)) hc (by intro z hz; simp at hz; omega) (by omega) (by simp)
    ((Below.heap_alloc _ _ _ hlt).trans hb) (fun _ => ⟨w.heap.size, rfl, by omega, fun i hi => by
      rw [cell_of_row _ _ _ _ _ _ (heap_alloc_new w _)]
      match i, hi with
      | 0, _ => rfl⟩)
  rw [e] at h
  exact h.mono fun e w' ⟨he, hh, ho⟩ => ⟨he, hh, grown_alloc_only ho⟩
theorem carry0 (c : Int) (b : Nat) (w : World) (hc : 0 ≤ c) (hs : c < 18446744073709551616) (hb : w.heap[b]? = some (.cells #[.int .u64 c] 239 (0, 0))) :
    Calls Tryz.prog 291 #[.slice none 0 0, .pointer (some ⟨b, 0, none⟩)] w fun e w' =>
      e = .returned (.int .u32 (c % 4294967296)) ∧ Stepped b (c / 4294967296) w w' := by
  have e : c + sumL [] = c := by simp [sumL]
  have h := carry_any c [] b none w hc (by intro z hz; cases hz) (by omega) (by simp) hb (fun h => absurd rfl h)
  rw [e] at h
  exact h.mono fun e w' ⟨he, hh, ho⟩ => ⟨he, hh, ho.grown⟩
end
section
open Go.RowKit Go.Shelf
attribute [local go_sem] Oper.semAt_some
theorem wideCall {n : Nat} {P : Program} {f : FuncId} {args : Array Value} {w : World} {R : Ending → World → Prop} (h : Calls P f args w R) :
    Fence.wide.fn f ∧ (Fence.wide.depth.isSome = true → 1 ≤ n) ∧ CallsIn Fence.wide (n - 1) P f args w R := ⟨trivial, (fun h => by cases h), callsIn_wide.2 h⟩
theorem roundCall {n l : Nat} {P : Program} {f : FuncId} {args : Array Value} {w : World} {R : Ending → World → Prop} (h : Calls P f args w R) :
    (Fence.wide.inRound l).fn f ∧ ((Fence.wide.inRound l).depth.isSome = true → 1 ≤ n) ∧ CallsIn (Fence.wide.inRound l) (n - 1) P f args w R := ⟨trivial, (fun h => by cases h), CallsIn.inRound l (callsIn_wide.2 h)⟩
/-- the first k places -/
def Upto {n : Nat} (pre : List (Fin n)) (k : Nat) : Prop := pre.map Fin.val = List.range k
theorem Upto.snoc {n k : Nat} {pre : List (Fin n)} (h : Upto pre k) (hk : k < n) : Upto (pre ++ [⟨k, hk⟩]) (k + 1) := by
  unfold Upto at *
  rw [List.map_append, h, List.range_succ]
  rfl
theorem Upto.length {n k : Nat} {pre : List (Fin n)} (h : Upto pre k) : pre.length = k := by
  have := congrArg List.length h
  simpa using this
theorem range_limbs (xs : List Int) (m : Nat) (hm : m ≤ xs.length) : (List.range m).map (fun i => xs[i]?.getD 0) = xs.take m := by
  apply List.ext_getElem
  · simp; omega
  · intro i h1 h2
    simp at h1
    simp [show i < xs.length by omega]
theorem Upto.limbs {xs : List Int} {m : Nat} {ys : List (Fin m)} (h : Upto ys m) (hm : m ≤ xs.length) : ys.map (fun x => xs[x.val]?.getD 0) = xs.take m := by
  rw [← range_limbs xs m hm, ← h, List.map_map]
  rfl
/-- what a round is handed: the place, the limb -/
def limbAt (xs : List Int) {n : Nat} (x : Fin n) : Array Value := #[.int .i64 (x.val : Int), .int .u32 (xs[x.val]?.getD 0)]
set_option maxRecDepth 100000 in
set_option maxHeartbeats 2000000 in
theorem limbs1_in (n l Bs n₀ : Nat) (ad : Option Addr) (xs : List Int) (cap : Nat) (hm : xs.length ≤ 35184372088832) (hcap : xs.length ≤ cap) (hb : xs ≠ [] → ∀ a, ad = some a → a.block < n₀) (J Jx : List (Fin (trimN xs xs.length)) → World → Prop)
    (hY : ∀ pre x W, J pre W → pre.length < trimN xs xs.length → YieldAt Fence.wide (n - 1) Tryz.prog l (limbAt xs x) W fun e W' =>
      (e = .returned (.bool true) ∧ J (pre ++ [x]) W' ∧ Below n₀ W W') ∨ (e = .returned (.bool false) ∧ Jx (pre ++ [x]) W'))
    (W : World) (hBs : W.cell? ⟨Bs, 0, none⟩ = some (.slice ad xs.length cap)) (hl : Lim W ad xs) (h0 : J [] W) :
    CallsIn Fence.wide n Tryz.prog 290 #[.func (.yield l) #[] #[], .pointer (some ⟨Bs, 0, none⟩)] W fun e W' => (∃ v, e = .returned v) ∧
      ((∃ ys, Upto ys (trimN xs xs.length) ∧ J ys W') ∨ (∃ pre, (∃ k, k ≤ trimN xs xs.length ∧ Upto pre k) ∧ Jx pre W')) := by
  have hle := trim_le xs
  refine callsIn_of_wp Tryz.func290 rfl trivial ?_ rfl
  simp only [Tryz.ntmps290, List.size_toArray, List.length_cons, List.length_nil, Nat.reduceAdd, Nat.reduceSub, Array.replicate_succ, Array.replicate_zero, List.push_toArray, List.append_toArray, List.nil_append, List.cons_append]
  gi_wp2_with fail
  refine wideCall ((cut_any ad xs cap _ hl (by unfold maxLen; omega) hcap).mono ?_)
  rintro e w' ⟨rfl, rfl⟩
  generalize trimN xs xs.length = m at *
  gi_wp2_with fail
  gi_loopw [3, 4, 8] (fun _ _ i wr => ∃ (k : Nat) (pre : List (Fin m)), k ≤ m ∧ i = .int .i64 k ∧ Upto pre k ∧ J pre wr ∧ Below n₀ W wr)
    (fun _ _ i _ => m - (intOf i).toNat)
  case atStart => exact ⟨0, [], Nat.zero_le _, rfl, rfl, h0, Below.refl _ _⟩
  case round =>
    obtain ⟨k, pre, hk, rfl, hup, hJs, hnx⟩ := hrel
    by_cases hlt : k < m
    · rcases hl with rfl | ⟨b, off, rfl, hc⟩
      · simp at hle; omega
      · obtain ⟨fn, tmps, assign, body, hy, hR⟩ := hY pre ⟨k, hlt⟩ wr hJs (by rw [hup.length]; exact hlt)
        simp only [limbAt] at hy
        have hcx := (hnx.cell (p := ⟨b, off + k, none⟩) (hb (by rintro rfl; simp at hle; omega) ⟨b, off, none⟩ rfl)).trans (hc k (by omega))
        clear hc
        gi_wp2
        refine ⟨(fun h => by cases h), hR.mono ?_⟩
        rintro e W3 (⟨rfl, hJ3, hk3⟩ | ⟨rfl, hJx3⟩)
        · gi_wp2
          go_roundw
          case rel => exact ⟨k + 1, _, by omega, by go_num, hup.snoc hlt, hJ3, hnx.trans hk3⟩
          case measure => simp [intOf]; omega
        · gi_wp2
          refine bodyPost_ret (results_none rfl _ _ _) rfl ?_
          exact ⟨⟨_, rfl⟩, .inr ⟨_, ⟨k + 1, by omega, hup.snoc hlt⟩, hJx3⟩⟩
    · obtain rfl : k = m := by omega
      gi_wp2
      go_end0
      exact ⟨⟨_, rfl⟩, .inl ⟨_, hup, hJs⟩⟩
theorem limbs_any (ad : Option Addr) (n cap : Nat) (w : World) :
    Calls Tryz.prog 261 #[.slice ad n cap] w fun e w' => e = .returned (.func (.func 290) #[] #[.pointer (some ⟨w.heap.size, 0, none⟩)]) ∧ w' = w.alloc (.cells #[.slice ad n cap] 91) := by
  go_enter Tryz.func261, Tryz.ntmps261
  go_wp2
  go_ret
  exact ⟨rfl, rfl⟩
theorem limbs_stops (n Bs n₀ : Nat) (ad : Option Addr) (xs : List Int) (cap : Nat) (hm : xs.length ≤ 35184372088832) (hcap : xs.length ≤ cap) (hb : xs ≠ [] → ∀ a, ad = some a → a.block < n₀) (w : World) (hBs : Bs < w.heap.size)
    (hc : w.cell? ⟨Bs, 0, none⟩ = some (.slice ad xs.length cap)) (hl : Lim w ad xs) :
    SeqStopsK Fence.wide n Tryz.prog 290 #[.pointer (some ⟨Bs, 0, none⟩)] (limbAt xs (n := trimN xs xs.length)) (Below n₀) (fun ys => Upto ys (trimN xs xs.length)) (fun pre => ∃ k, k ≤ trimN xs xs.length ∧ Upto pre k) (trimN xs xs.length) w := fun l J Jx W hW _ _ hY h0 =>
  limbs1_in n l Bs n₀ ad xs cap hm hcap hb J Jx hY W ((hW.cell (p := ⟨Bs, 0, none⟩) hBs).trans hc) (hl.later hW) h0
end
section
open Go.RowKit Go.Shelf
attribute [local go_sem] Oper.semAt_some
/-- the last k places, from above -/
def Downto {n : Nat} (pre : List (Fin n)) (k : Nat) : Prop := pre.length = k ∧ ∀ i (h : i < pre.length), (pre[i]).val + i + 1 = n
theorem Downto.nil {n : Nat} : Downto ([] : List (Fin n)) 0 := ⟨rfl, fun i h => by simp at h⟩
theorem Downto.snoc {n k : Nat} {pre : List (Fin n)} (h : Downto pre k) (x : Fin n) (hx : x.val + k + 1 = n) : Downto (pre ++ [x]) (k + 1) := by
  obtain ⟨h1, h2⟩ := h
  refine ⟨by simp [h1], fun i hi => ?_⟩
  by_cases hlt : i < pre.length
  · rw [List.getElem_append_left hlt]; exact h2 i hlt
  · have : i = k := by simp at hi; omega
    subst this
    rw [List.getElem_append_right (by omega)]
    simp [h1, hx]
set_option maxRecDepth 100000 in
set_option maxHeartbeats 2000000 in
theorem back1_in (n l Bs n₀ : Nat) (ad : Option Addr) (xs : List Int) (cap : Nat) (hm : xs.length ≤ 35184372088832) (hBn : Bs < n₀) (hb : xs ≠ [] → ∀ a, ad = some a → a.block < n₀) (J Jx : List (Fin xs.length) → World → Prop)
    (hY : ∀ pre x W, J pre W → pre.length < xs.length → YieldAt Fence.wide (n - 1) Tryz.prog l (limbAt xs x) W fun e W' =>
      (e = .returned (.bool true) ∧ J (pre ++ [x]) W' ∧ Below n₀ W W') ∨ (e = .returned (.bool false) ∧ Jx (pre ++ [x]) W'))
    (W : World) (hBs : W.cell? ⟨Bs, 0, none⟩ = some (.slice ad xs.length cap)) (hl : Lim W ad xs) (h0 : J [] W) :
    CallsIn Fence.wide n Tryz.prog 293 #[.func (.yield l) #[] #[], .pointer (some ⟨Bs, 0, none⟩)] W fun e W' => (∃ v, e = .returned v) ∧
      ((∃ ys, Downto ys xs.length ∧ J ys W') ∨ (∃ pre, (∃ k, k ≤ xs.length ∧ Downto pre k) ∧ Jx pre W')) := by
  refine callsIn_of_wp Tryz.func293 rfl trivial ?_ rfl
  simp only [Tryz.ntmps293, List.size_toArray, List.length_cons, List.length_nil, Nat.reduceAdd, Nat.reduceSub, Array.replicate_succ, Array.replicate_zero, List.push_toArray, List.append_toArray, List.nil_append, List.cons_append]
  gi_wp2_with fail
  gi_loopw [3] (fun i wr => ∃ (k : Nat) (pre : List (Fin xs.length)), k ≤ xs.length ∧ i = .int .i64 ((xs.length : Int) - 1 - k) ∧ Downto pre k ∧ J pre wr ∧ Below n₀ W wr)
    (fun i _ => (intOf i + 1).toNat)
  case atStart => exact ⟨0, [], Nat.zero_le _, by simp, Downto.nil, h0, Below.refl _ _⟩
  case round =>
    obtain ⟨k, pre, hk, rfl, hdn, hJs, hnx⟩ := hrel
    have hBr := (hnx.cell (p := ⟨Bs, 0, none⟩) hBn).trans hBs
    by_cases hlt : k < xs.length
    · rcases hl with rfl | ⟨b, off, rfl, hc⟩
      · simp at hlt
      · obtain ⟨j, hj⟩ : ∃ j, j + k + 1 = xs.length := ⟨xs.length - k - 1, by omega⟩
        have hji : ((xs.length : Int) - 1 - k) = (j : Int) := by omega
        rw [hji]
        have hjl : j < xs.length := by omega
        obtain ⟨fn, tmps, assign, body, hy, hR⟩ := hY pre ⟨j, hjl⟩ wr hJs (by rw [hdn.1]; exact hlt)
        simp only [limbAt] at hy
        have hcx := (hnx.cell (p := ⟨b, off + j, none⟩) (hb (by rintro rfl; simp at hlt) ⟨b, off, none⟩ rfl)).trans (hc j (by omega))
        have ej : xs[j]?.getD 0 = xs[j] := by simp [hjl]
        rw [ej] at hy
        have HJ := Lib.hid hj
        clear hc hj hji ej
        gi_wp2
        refine ⟨(fun h => by cases h), hR.mono ?_⟩
        rintro e W3 (⟨rfl, hJ3, hk3⟩ | ⟨rfl, hJx3⟩)
        · gi_wp2
          go_roundw
          case rel => exact ⟨k + 1, _, by omega, by have := HJ.out; congr 1; omega, hdn.snoc ⟨j, hjl⟩ HJ.out, hJ3, hnx.trans hk3⟩
          case measure => simp [intOf]
        · gi_wp2
          refine bodyPost_ret (results_none rfl _ _ _) rfl ?_
          exact ⟨⟨_, rfl⟩, .inr ⟨_, ⟨k + 1, by omega, hdn.snoc ⟨j, hjl⟩ HJ.out⟩, hJx3⟩⟩
    · obtain rfl : k = xs.length := by omega
      have hji : ((xs.length : Int) - 1 - xs.length) = -1 := by omega
      rw [hji]
      clear hji
      gi_wp2
      go_end0
      exact ⟨⟨_, rfl⟩, .inl ⟨_, hdn, hJs⟩⟩
theorem back_any (ad : Option Addr) (n cap : Nat) (w : World) :
    Calls Tryz.prog 266 #[.slice ad n cap] w fun e w' => e = .returned (.func (.func 293) #[] #[.pointer (some ⟨w.heap.size, 0, none⟩)]) ∧ w' = w.alloc (.cells #[.slice ad n cap] 91) := by
  go_enter Tryz.func266, Tryz.ntmps266
  go_wp2
  go_ret
  exact ⟨rfl, rfl⟩
theorem back_stops (n Bs n₀ : Nat) (ad : Option Addr) (xs : List Int) (cap : Nat) (hm : xs.length ≤ 35184372088832) (hBn : Bs < n₀) (hb : xs ≠ [] → ∀ a, ad = some a → a.block < n₀) (w : World) (hBs : Bs < w.heap.size)
    (hc : w.cell? ⟨Bs, 0, none⟩ = some (.slice ad xs.length cap)) (hl : Lim w ad xs) :
    SeqStopsK Fence.wide n Tryz.prog 293 #[.pointer (some ⟨Bs, 0, none⟩)] (limbAt xs (n := xs.length)) (Below n₀) (fun ys => Downto ys xs.length) (fun pre => ∃ k, k ≤ xs.length ∧ Downto pre k) xs.length w := fun l J Jx W hW _ _ hY h0 =>
  back1_in n l Bs n₀ ad xs cap hm hBn hb J Jx hY W ((hW.cell (p := ⟨Bs, 0, none⟩) hBs).trans hc) (hl.later hW) h0
end
section
open Go.RowKit Go.Shelf
attribute [local go_sem] Oper.semAt_some
/-- what Cmp comes to, of numbers without zeros at the end -/
def CmpT (us vs : List Int) (r : Int) : Prop :=
  (us.length ≠ vs.length ∧ r = sign us.length vs.length) ∨
  (us.length = vs.length ∧ (∀ i, i < us.length → us[i]?.getD 0 = vs[i]?.getD 0) ∧ r = 0) ∨
  (us.length = vs.length ∧ ∃ i, i < us.length ∧ us[i]?.getD 0 ≠ vs[i]?.getD 0 ∧ (∀ j, i < j → j < us.length → us[j]?.getD 0 = vs[j]?.getD 0) ∧ r = sign (us[i]?.getD 0) (vs[i]?.getD 0))
set_option maxRecDepth 100000 in
set_option maxHeartbeats 2000000 in
theorem cmp_any (a b : Option Addr) (xs ys : List Int) (capa capb : Nat) (w : World) (hla : Lim w a xs) (hlb : Lim w b ys) (hma : xs.length ≤ 35184372088832) (hmb : ys.length ≤ 35184372088832)
    (hca : xs.length ≤ capa) (hcb : ys.length ≤ capb) :
    Calls Tryz.prog 237 #[.slice a xs.length capa, .slice b ys.length capb] w fun e w' => ∃ r, e = .returned (.int .i64 r) ∧ CmpT (trim xs) (trim ys) r ∧ Below w.heap.size w w' := by
  have hta := trim_le xs
  have htb := trim_le ys
  obtain ⟨n, hn⟩ : ∃ n : Nat, Hid (3 ≤ n) := ⟨3, Nat.le_refl 3⟩
  refine (callsIn_wide (n := n)).1 ?_
  refine callsIn_of_wp_marks Tryz.func237 rfl trivial ?_ rfl
  simp only [Tryz.ntmps237, List.size_toArray, List.length_cons, List.length_nil, Nat.reduceAdd, Nat.reduceSub, Array.replicate_succ, Array.replicate_zero, List.push_toArray, List.append_toArray, List.nil_append, List.cons_append]
  gi_wp2_with fail
  have bB := (Boxed.new w 91 (.slice b ys.length capb)).alloc (Obj.cells #[Value.int IntKind.i64 0] 3)
  have bR := Boxed.new (w.alloc (.cells #[.slice b ys.length capb] 91)) 3 (.int .i64 0)
  have hB0 : Below w.heap.size w ((w.alloc (.cells #[.slice b ys.length capb] 91)).alloc (Obj.cells #[Value.int IntKind.i64 0] 3)) := ((Below.refl _ w).alloc (Nat.le_refl _) _).alloc (by simp) _
  rw [World.size_alloc] at bR
  generalize (w.alloc (.cells #[.slice b ys.length capb] 91)).alloc (Obj.cells #[Value.int IntKind.i64 0] 3) = W at *
  have hcB := bB.cell
  have hfB := bB.frozen
  have hla' : Lim W.drew a xs := hla.later hB0.drew
  have hlb' : Lim W.drew b ys := hlb.later hB0.drew
  refine wpIn_wide.2 ?_
  go_still_tail 5, (by kernel_rfl)
  still_call (cut_still a xs capa _ hla' hma hca)
  repeat still_step
  still_call (cut_still b ys capb _ hlb' hmb hcb)
  repeat still_step
  refine wpStill_nil ?_
  have hlu : Lim w a (trim xs) := hla.take _
  have hlv : Lim w b (trim ys) := hlb.take _
  rw [← trim_length xs, ← trim_length ys]
  have hlen1 : (trim xs).length ≤ 35184372088832 := by rw [trim_length]; omega
  have hlen2 : (trim ys).length ≤ 35184372088832 := by rw [trim_length]; omega
  clear hla hlb hla' hlb' hta htb
  obtain ⟨us, hus⟩ : ∃ us, trim xs = us := ⟨_, rfl⟩
  obtain ⟨vs, hvs⟩ : ∃ vs, trim ys = vs := ⟨_, rfl⟩
  rw [hus] at hlu hlen1 ⊢
  rw [hvs] at hlv hlen2 ⊢
  have HU := Lib.hid hus
  have HV := Lib.hid hvs
  clear hus hvs
  go_wp2_with fail
  have bB2 : Boxed (W.setCell ⟨w.heap.size, 0, none⟩ (.slice b vs.length capb)).drew w.heap.size 91 (.slice b vs.length capb) := bB.set _
  have bR1 : Boxed (W.setCell ⟨w.heap.size, 0, none⟩ (.slice b vs.length capb)) (w.heap.size + 1) 3 (.int .i64 0) := bR.kept (grownBy_setCell' W w.heap.size _) (by simp)
  have bR2 : Boxed (W.setCell ⟨w.heap.size, 0, none⟩ (.slice b vs.length capb)).drew (w.heap.size + 1) 3 (.int .i64 0) := bR1
  have hB2 : Below w.heap.size w (W.setCell ⟨w.heap.size, 0, none⟩ (.slice b vs.length capb)).drew := (hB0.setCell (p := ⟨w.heap.size, 0, none⟩) (Nat.le_refl _) _).drew
  have hlu2 := hlu.later hB2
  have hlv2 := hlv.later hB2
  clear bB bR bR1 hB0 hcB hfB hlu hlv
  generalize (W.setCell ⟨w.heap.size, 0, none⟩ (.slice b vs.length capb)).drew = V at *
  have hcB := bB2.cell
  have hcR := bR2.cell
  have hfR := bR2.frozen
  have hsz := hB2.size
  by_cases hne : us.length = vs.length
  · have hne2 : ((us.length : Int) != (vs.length : Int)) = false := by simp; omega
    have HE := Lib.hid hne
    clear hne
    have hbu : us ≠ [] → ∀ x, a = some x → x.block < V.heap.size + 1 := fun h x hx => Nat.lt_succ_of_lt (hlu2.lt h x hx)
    gi_wp2_with fail
    refine wideCall ((back_any _ _ _ _).mono ?_)
    rintro e w' ⟨rfl, rfl⟩
    gi_wp2_with fail
    have h3 : 3 ≤ n := hn
    have bN := Boxed.new V 91 (.slice a us.length capa)
    refine wpIn_rangeFunc_ownF rfl (by omega) (gf := 293) (lb := #[.pointer (some ⟨V.heap.size, 0, none⟩)]) rfl trivial (enters_of Tryz.func293 (by kernel_rfl) rfl)
      (back_stops (n - 1) V.heap.size (V.heap.size + 1) a us capa hlen1 (Nat.lt_succ_self _) hbu _ (by simp) bN.cell (hlu2.later ((Below.refl _ V).alloc (Nat.le_refl _) _))) belowK_t (belowK_b (by simp)) (Below.refl _ _) (fun _ => rfl)
      (fun (pre : List (Fin us.length)) X => (∀ x ∈ pre, us[x.val]?.getD 0 = vs[x.val]?.getD 0) ∧ Below (V.heap.size + 1) (V.alloc (.cells #[.slice a us.length capa] 91)) X)
      (fun c pre X => (c = .ret ∧ ∃ ini last, pre = ini ++ [last] ∧ (∀ x ∈ ini, us[x.val]?.getD 0 = vs[x.val]?.getD 0) ∧ us[last.val]?.getD 0 ≠ vs[last.val]?.getD 0 ∧ X.cell? ⟨w.heap.size + 1, 0, none⟩ = some (.int .i64 (sign (us[last.val]?.getD 0) (vs[last.val]?.getD 0)))) ∧ Below w.heap.size w X)
      (OwnFrom.and (Own.from (fun s A B row hs hg hr => hs) _) (ownFrom_below (by simp) (by simp)))
      (fun c => OwnFrom.and (Own.from (fun s A B row hs hg hr => by obtain ⟨hc, ini, last, e1, e2, e3, e4⟩ := hs; exact ⟨hc, ini, last, e1, e2, e3, cell_kept e4 hg hr⟩) _) (ownFrom_below (Nat.le_refl _) (by simp; omega)))
      ⟨by simp, Below.refl _ _⟩
      (fun (x : Fin us.length) => { tmps := #[.slice a us.length capa, .slice b ys.length capb, undef, .pointer (some ⟨w.heap.size, 0, none⟩), .pointer (some ⟨w.heap.size + 1, 0, none⟩), .int .i64 (x.val : Int), .int .u32 (us[x.val]?.getD 0),
        .slice a xs.length capa, .slice a us.length capa, .slice b ys.length capb, .slice b vs.length capb, .slice a us.length capa, .int .i64 us.length, .slice b vs.length capb, .int .i64 vs.length, .bool false, undef, undef, undef, undef, undef,
        .slice a us.length capa, .func (.func 293) #[] #[.pointer (some ⟨V.heap.size, 0, none⟩)], .int .i64 (x.val : Int), .int .u32 (us[x.val]?.getD 0), undef, undef, undef, undef, undef, undef, undef, undef, undef, undef, undef, undef], defers := [] }) ?assign ?body ?done ?stop
    case assign =>
      intro l x X K hK
      simp only [limbAt]
      rw [show us[x.val]?.getD 0 = us[x.val] by simp] at hK
      gi_wp2
      exact hK
    case body =>
      rintro l pre ⟨k, hk⟩ X ⟨hpre, hB⟩ hlt
      have hE := HE.out
      rcases hlv2 with rfl | ⟨bb, off, rfl, hcv⟩
      · simp only [List.length_nil] at hE; omega
      have cB := (hB.cell (p := ⟨w.heap.size, 0, none⟩) (show w.heap.size < V.heap.size + 1 by have := bB2.lt; omega)).trans (bB2.alloc (Obj.cells #[.slice a us.length capa] 91)).cell
      have cR : Boxed X (w.heap.size + 1) 3 (.int .i64 0) := (hB.block _ (by have := bR2.lt; omega)).trans (bR2.alloc (Obj.cells #[.slice a us.length capa] 91))
      have hvl : bb < V.heap.size := World.block_lt_of_cell? V _ (hcv k (by omega))
      have cV := (hB.cell (p := ⟨bb, off + k, none⟩) (Nat.lt_succ_of_lt hvl)).trans ((World.cell?_alloc_lt V (Obj.cells #[.slice a us.length capa] 91) ⟨bb, off + k, none⟩ hvl).trans (hcv k (by omega)))
      have hkv : k < vs.length := by omega
      have cR0 := cR.cell
      have cRf := cR.frozen
      have cR2 : ∀ r, (X.setCell ⟨w.heap.size + 1, 0, none⟩ r).cell? ⟨w.heap.size + 1, 0, none⟩ = some r := fun r => (cR.set r).cell
      have hBX : Below w.heap.size w X := ((hB2.alloc hsz _).trans (hB.mono (by omega)))
      obtain ⟨u, hu⟩ : ∃ u, us[k]?.getD 0 = u := ⟨_, rfl⟩
      obtain ⟨v, hv⟩ : ∃ v, vs.getD k 0 = v := ⟨_, rfl⟩
      rw [hv] at cV
      simp only [hu]
      have HU2 := Lib.hid hu
      have HV2 := Lib.hid hv
      clear hu hv hE hcv cR bB2 bR2 hB2 hlu2 hcB hcR hfR bN
      by_cases e : u = v
      · subst e
        have hne3 : (u != u) = false := by simp
        gi_wp2_with fail
        refine ⟨KeepsOthers.refl _, Below.refl _ _, ?_, hB⟩
        intro y hy
        rcases List.mem_append.1 hy with hy | hy
        · exact hpre y hy
        · simp only [List.mem_singleton] at hy
          subst hy
          exact HU2.out.trans HV2.out.symm
      · have hne3 : (u != v) = true := by simp [e]
        gi_wp2_with fail
        refine roundCall ((cmpLimb_any _ _ _).mono ?_)
        rintro e w' ⟨rfl, rfl⟩
        gi_wp2_with fail
        have e1 : us[k]?.getD 0 = u := HU2.out
        have e2 : vs[k]?.getD 0 = v := HV2.out
        refine ⟨KeepsOthers.setCell _ _ _, ⟨rfl, pre, ⟨k, hk⟩, rfl, hpre, by rw [e1, e2]; exact e, ?_⟩, hBX.setCell (p := ⟨w.heap.size + 1, 0, none⟩) (Nat.le_succ _) _⟩
        rw [e1, e2]
        exact cR2 _
    case done =>
      rintro D ys' X hD hdn ⟨hall, hB⟩ hK
      rw [World.size_alloc] at hD
      have cR : Boxed X (w.heap.size + 1) 3 (.int .i64 0) := (hB.block _ (by have := bR2.lt; omega)).trans (bR2.alloc (Obj.cells #[.slice a us.length capa] 91))
      have cR0 := cR.cell
      have cRf := cR.frozen
      have hBX : Below w.heap.size w X := ((hB2.alloc hsz _).trans (hB.mono (by omega)))
      have hE := HE.out
      clear hcB hcR hfR bN hbu
      gi_wp2
      have hK' := (KeepsOthers.setCell X ⟨w.heap.size + 1, 0, none⟩ (.int .i64 0)).same D _ hK rfl
      refine ⟨by simp, .inl ⟨_, _, rfl, run_takeDeferred hK', ?_⟩⟩
      have hc5 := cell_kept ((cR.set (.int .i64 0)).cell) (grownBy_putObj' _ D (.deferred none)) (fun r e => by cases e; exact ⟨_, hK', rfl⟩)
      refine ⟨.int .i64 0, by simp [results, Tryz.f237, go_sem, hc5], 0, rfl, ?_, (hBX.setCell (p := ⟨w.heap.size + 1, 0, none⟩) (Nat.le_succ _) _).trans (belowK_b (w := w) (Nat.le_refl _) _ D _ _ (by omega) hK' rfl rfl)⟩
      rw [HU.out, HV.out]
      refine .inr (.inl ⟨hE, fun i hi => ?_, rfl⟩)
      obtain ⟨h1, h2⟩ := hdn
      have h3 := h2 (us.length - 1 - i) (by omega)
      have h4 := hall _ (List.getElem_mem (show us.length - 1 - i < ys'.length by omega))
      rw [show (ys'[us.length - 1 - i]'(by omega)).val = i from by omega] at h4
      exact h4
    case stop =>
      rintro D c pre X hD ⟨k, hk, hdn⟩ ⟨⟨rfl, ini, last, e1, e2, e3, hcr⟩, hB⟩ hK
      rw [World.size_alloc] at hD
      have hE := HE.out
      clear hcB hcR hfR bN hbu
      gi_wp2
      refine ⟨by simp, .inl ⟨_, _, rfl, run_takeDeferred hK, ?_⟩⟩
      have hc5 := cell_kept hcr (grownBy_putObj' _ D (.deferred none)) (fun r e => by cases e; exact ⟨_, hK, rfl⟩)
      refine ⟨.int .i64 (sign (us[last.val]?.getD 0) (vs[last.val]?.getD 0)), by simp [results, Tryz.f237, go_sem, hc5], _, rfl, ?_, hB.trans (belowK_b (w := w) (Nat.le_refl _) _ D _ _ (by omega) hK rfl rfl)⟩
      rw [HU.out, HV.out]
      refine .inr (.inr ⟨hE, last.val, last.isLt, e3, fun j hj1 hj2 => ?_, rfl⟩)
      obtain ⟨h1, h2⟩ := hdn
      subst e1
      have hl : (ini ++ [last]).length = ini.length + 1 := by simp
      have h3 := h2 ini.length (by omega)
      rw [List.getElem_append_right (by omega)] at h3
      simp only [Nat.sub_self, List.getElem_cons_zero] at h3
      have hj3 : us.length - 1 - j < ini.length := by omega
      have h4 := h2 (us.length - 1 - j) (by omega)
      rw [List.getElem_append_left hj3] at h4
      have h5 := e2 _ (List.getElem_mem hj3)
      rw [show (ini[us.length - 1 - j]).val = j from by omega] at h5
      exact h5
  · have hne2 : ((us.length : Int) != (vs.length : Int)) = true := by simp; omega
    gi_wp2_with fail
    refine wideCall ((cmpInt_any _ _ _).mono ?_)
    rintro e w' ⟨rfl, rfl⟩
    have hcr2 := (bR2.set (.int .i64 (sign us.length vs.length))).cell
    gi_wp2_with fail
    refine ⟨.int .i64 (sign us.length vs.length), by simp [results, Tryz.f237, go_sem, hcr2], _, rfl, ?_, hB2.setCell (p := ⟨w.heap.size + 1, 0, none⟩) (Nat.le_succ _) _⟩
    rw [HU.out, HV.out]
    exact .inl ⟨hne, rfl⟩
end
end Go.Proofs.YtjgiacghlkkjfaaGreatDoor
