/-
  Contracts of the reference: Short.
-/
import Derived.WalkKit
import Derived.Test.YtooglnhlhgmhdaaGreatRows
import Derived.BigQuiet
import Derived.Deep.QuietTactic
import Derived.Lib.Hide
import Derived.Lib.Small
import Derived.Lib.Walk
import Derived.Lib.BitFns
import Derived.Maps.AppendAt
import Derived.RangeFuncNested
import Derived.RangeFuncBound
import Derived.RangeFuncCalls
import Derived.RangeFuncLeaves
import Derived.Shelf.Abstract
import Derived.OwnWalkIn
import Derived.TacticsInMore
import Derived.LoopNIn
import Derived.LoopIn
import Derived.RangeFuncBox
import Derived.Deep.RegionHeld3
import Derived.OrdersIn
import Derived.StillTailTactics
import Derived.RangeFuncFrom
import Derived.Laws.EntriesVeiled
import Derived.ProofKit
import Derived.OpenShut
import Derived.JoinedCond
import Derived.Carry
import Derived.Laws.AppendOwnNone
import Derived.Lib.ItoaNum
import Derived.Laws.CopyOwn
namespace Go.Proofs.YtooglnhlhgmhdaaGreat
set_option maxRecDepth 100000
section
open Go.RowKit
/-- the number that limbs stand for -/
def val : List Int → Int
  | [] => 0
  | x :: xs => x + 4294967296 * val xs
/-- all are limbs -/
def Wf (xs : List Int) : Prop := ∀ x ∈ xs, 0 ≤ x ∧ x < 4294967296
/-- without the zeros at the end -/
def trimN (xs : List Int) : Nat → Nat
  | 0 => 0
  | n + 1 => if xs.getD n 0 = 0 then trimN xs n else n + 1
def trim (xs : List Int) : List Int := xs.take (trimN xs xs.length)
theorem Wf.nil : Wf [] := by intro x h; cases h
theorem Wf.cons {x : Int} {xs : List Int} (h : 0 ≤ x ∧ x < 4294967296) (hs : Wf xs) : Wf (x :: xs) := by
  intro y hy
  rcases List.mem_cons.1 hy with rfl | hy
  · exact h
  · exact hs y hy
theorem Wf.tail {x : Int} {xs : List Int} (h : Wf (x :: xs)) : Wf xs := fun y hy => h y (List.mem_cons_of_mem _ hy)
theorem Wf.head {x : Int} {xs : List Int} (h : Wf (x :: xs)) : 0 ≤ x ∧ x < 4294967296 := h x List.mem_cons_self
theorem Wf.append {xs ys : List Int} (h : Wf xs) (k : Wf ys) : Wf (xs ++ ys) := by
  intro x hx
  rcases List.mem_append.1 hx with hx | hx
  · exact h x hx
  · exact k x hx
theorem Wf.take {xs : List Int} (h : Wf xs) (n : Nat) : Wf (xs.take n) := fun x hx => h x (List.mem_of_mem_take hx)
theorem Wf.drop {xs : List Int} (h : Wf xs) (n : Nat) : Wf (xs.drop n) := fun x hx => h x (List.mem_of_mem_drop hx)
theorem Wf.getD {xs : List Int} (h : Wf xs) (i : Nat) : 0 ≤ xs.getD i 0 ∧ xs.getD i 0 < 4294967296 := by
  by_cases hi : i < xs.length
  · have : xs.getD i 0 = xs[i] := by simp [List.getD, hi]
    rw [this]
    exact h _ (List.getElem_mem hi)
  · have : xs.getD i 0 = 0 := by simp [List.getD, List.getElem?_eq_none (Nat.le_of_not_lt hi)]
    rw [this]; omega
theorem trimN_le (xs : List Int) (n : Nat) : trimN xs n ≤ n := by
  induction n with
  | zero => exact Nat.le_refl _
  | succ n ih => unfold trimN; split <;> omega
theorem trim_le (xs : List Int) : trimN xs xs.length ≤ xs.length := trimN_le xs _
theorem trim_length (xs : List Int) : (trim xs).length = trimN xs xs.length := by
  unfold trim; rw [List.length_take]; have := trim_le xs; omega
theorem Wf.trim {xs : List Int} (h : Wf xs) : Wf (trim xs) := h.take _
theorem val_nonneg {xs : List Int} (h : Wf xs) : 0 ≤ val xs := by
  induction xs with
  | nil => simp [val]
  | cons x xs ih => have := ih h.tail; have := h.head; simp only [val]; omega
theorem val_append (xs ys : List Int) : val (xs ++ ys) = val xs + 4294967296 ^ xs.length * val ys := by
  induction xs with
  | nil => simp [val]
  | cons x xs ih => simp only [List.cons_append, val, ih, List.length_cons, Int.pow_succ]; grind
theorem val_zeros (n : Nat) : val (List.replicate n 0) = 0 := by
  induction n with
  | zero => rfl
  | succ n ih => simp [List.replicate_succ, val, ih]
theorem wrap_u64 {x : Int} (h0 : 0 ≤ x) (h1 : x < 18446744073709551616) : IntKind.u64.wrap x = x := by
  simp only [IntKind.wrap, IntKind.bits, IntKind.signed, Bool.false_and, Bool.false_eq_true, if_false]
  exact Int.emod_eq_of_lt h0 h1
theorem wrap_u32 (x : Int) : IntKind.u32.wrap x = x % 4294967296 := by
  simp only [IntKind.wrap, IntKind.bits, IntKind.signed, Bool.false_and, Bool.false_eq_true, if_false]
  rfl
theorem or_u64 {x y : Int} (hx : 0 ≤ x ∧ x < 4294967296) (hy : 0 ≤ y ∧ y < 4294967296) : bits .or .u64 (x * 4294967296) y = 4294967296 * x + y := by
  rw [u64_or _ _ (by omega) (by omega) (by omega) (by omega)]
  obtain ⟨a, rfl⟩ := Int.eq_ofNat_of_zero_le hx.1
  obtain ⟨b, rfl⟩ := Int.eq_ofNat_of_zero_le hy.1
  have h1 : ((a : Int) * 4294967296).toNat = 2 ^ 32 * a := by omega
  rw [h1, Int.toNat_natCast, ← Nat.two_pow_add_eq_or_of_lt (by omega)]
  omega
theorem set_mid (l : List Int) (n k : Nat) (z : Int) (hl : l.length = k) (hk : k < n) : (l ++ List.replicate (n - k) 0).set k z = l ++ [z] ++ List.replicate (n - (k + 1)) 0 := by
  obtain ⟨j, hj⟩ : ∃ j, n - k = j + 1 := ⟨n - k - 1, by omega⟩
  have e2 : n - (k + 1) = j := by omega
  rw [hj, e2, List.replicate_succ, List.set_append_right _ _ (by omega), hl, Nat.sub_self, List.set_cons_zero, List.append_assoc]
  rfl
structure Only (b : Nat) (w w' : World) : Prop where
  os : w'.os = w.os
  tape : w'.tape = w.tape
  output : w'.output = w.output
  size : w'.heap.size = w.heap.size
  block : ∀ k, k ≠ b → w'.heap[k]? = w.heap[k]?
theorem Only.refl (b : Nat) (w : World) : Only b w w := ⟨rfl, rfl, rfl, rfl, fun _ _ => rfl⟩
theorem Only.trans {b : Nat} {x y z : World} (h : Only b x y) (k : Only b y z) : Only b x z :=
  ⟨k.os.trans h.os, k.tape.trans h.tape, k.output.trans h.output, k.size.trans h.size, fun i hi => (k.block i hi).trans (h.block i hi)⟩
theorem Only.setCell (w : World) (a : Addr) (u : Value) : Only a.block w (w.setCell a u) :=
  ⟨rfl, rfl, rfl, by simp [World.setCell], fun k hk => Below.heap_setCell _ _ _ _ hk⟩
theorem Only.set (w : World) (b o : Nat) (u : Value) : Only b w (w.setCell ⟨b, o, none⟩ u) := Only.setCell w ⟨b, o, none⟩ u
theorem Only.drew (b : Nat) (w : World) : Only b w w.drew := ⟨rfl, rfl, rfl, rfl, fun _ _ => rfl⟩
theorem Only.below {b B : Nat} {w w' : World} (h : Only b w w') (hB : B ≤ b) : Below B w w' :=
  ⟨h.os, h.tape, h.output, Nat.le_of_eq h.size.symm, fun k hk => h.block k (by omega)⟩
theorem Only.cell {b : Nat} {w w' : World} (h : Only b w w') {p : Addr} (hp : p.block ≠ b) : w'.cell? p = w.cell? p := World.cell?_of_block (h.block p.block hp)
theorem Only.frozen {b : Nat} {w w' : World} (h : Only b w w') {p : Addr} (hp : p.block ≠ b) : w'.frozen? p = w.frozen? p := World.frozen?_of_block (h.block p.block hp)
end
section
open Go.RowKit
/-- the limbs xs lie from the address ad on -/
def Lim (w : World) (ad : Option Addr) (xs : List Int) : Prop :=
  xs = [] ∨ ∃ b off, ad = some ⟨b, off, none⟩ ∧ ∀ i, i < xs.length → w.cell? ⟨b, off + i, none⟩ = some (.int .u32 (xs.getD i 0))
set_option maxHeartbeats 400000 in
theorem at_any (ad : Option Addr) (xs : List Int) (cap : Nat) (i : Int) (w : World) (hl : Lim w ad xs) (hm : xs.length ≤ maxLen) (hi : 0 ≤ i) :
    Calls Tryz.prog 146 #[.slice ad xs.length cap, .int .i64 i] w fun e w' => e = .returned (.int .u32 (xs.getD i.toNat 0)) ∧ w = w' := by
  unfold maxLen at hm
  obtain ⟨k, rfl⟩ := Int.eq_ofNat_of_zero_le hi
  by_cases hk : k < xs.length
  · rcases hl with rfl | ⟨b, off, rfl, hc⟩
    · simp at hk
    · have hck := hc k hk
      clear hc
      go_enter Tryz.func146, Tryz.ntmps146
      go_wp2
      go_ret
      refine ⟨?_, rfl⟩
      simp [hk]
  · go_enter Tryz.func146, Tryz.ntmps146
    go_wp2
    go_ret
    refine ⟨?_, rfl⟩
    simp [List.getElem?_eq_none (Nat.le_of_not_lt hk)]
set_option maxHeartbeats 400000 in
theorem cut_any (ad : Option Addr) (xs : List Int) (cap : Nat) (w : World) (hl : Lim w ad xs) (hm : xs.length ≤ maxLen) (hcap : xs.length ≤ cap) :
    Calls Tryz.prog 132 #[.slice ad xs.length cap] w fun e w' => e = .returned (.slice ad (trimN xs xs.length) cap) ∧ w = w' := by
  unfold maxLen at hm
  go_enter Tryz.func132, Tryz.ntmps132
  go_wp2
  go_loop [3] (fun n => ∃ j : Nat, j ≤ xs.length ∧ n = .int .i64 j ∧ trimN xs j = trimN xs xs.length) (fun n => (intOf n).toNat)
  case atStart => exact ⟨xs.length, Nat.le_refl _, rfl, rfl⟩
  case round =>
    obtain ⟨j, hj, rfl, ht⟩ := hrel
    have HT := Lib.hid ht
    clear ht
    rcases j with _ | m
    · have h0 : trimN xs xs.length = 0 := HT.out.symm
      go_wp2
      go_ret
      exact ⟨rfl, rfl⟩
    · rcases hl with rfl | ⟨b, off, rfl, hc⟩
      · simp at hj
      · have hck := hc m (by omega)
        clear hc
        go_wp2
        · have hz : xs.getD m 0 = 0 := by
            have h : (xs[m]?.getD 0 == 0) = true := by assumption
            simpa using h
          go_round
          case rel => exact ⟨m, by omega, by go_num, by rw [← HT.out]; simp only [trimN]; rw [if_pos hz]⟩
          case measure => simp [intOf]
        · have hz : xs.getD m 0 ≠ 0 := by
            have h : (xs[m]?.getD 0 == 0) = false := by assumption
            simpa using h
          have ht : trimN xs xs.length = m + 1 := by rw [← HT.out]; simp only [trimN]; rw [if_neg hz]
          go_ret
          exact ⟨by rw [ht]; simp, rfl⟩
set_option maxHeartbeats 400000 in
/-- the two limbs from i on, as one number -/
theorem pair_any (ad : Option Addr) (xs : List Int) (cap : Nat) (i : Int) (w : World) (hl : Lim w ad xs) (hm : xs.length ≤ maxLen) (hi : 0 ≤ i) (hi2 : i ≤ 4611686018427387904) (hw : Wf xs) :
    Calls Tryz.prog 156 #[.slice ad xs.length cap, .int .i64 i] w fun e w' =>
      e = .returned (.int .u64 (4294967296 * xs.getD (i.toNat + 1) 0 + xs.getD i.toNat 0)) ∧ w = w' := by
  obtain ⟨k, rfl⟩ := Int.eq_ofNat_of_zero_le hi
  have b1 := hw.getD (k + 1)
  have b0 := hw.getD k
  go_enter Tryz.func156, Tryz.ntmps156
  go_wp2_with fail
  refine (at_any ad xs cap _ _ hl hm (by omega)).mono ?_
  rintro e w' ⟨rfl, rfl⟩
  go_wp2_with fail
  refine (at_any ad xs cap _ _ hl hm (by omega)).mono ?_
  rintro e w' ⟨rfl, rfl⟩
  go_wp2
  go_ret
  refine ⟨?_, rfl⟩
  have e1 : xs[k + 1]?.getD 0 = xs.getD (k + 1) 0 := rfl
  have e0 : xs[k]?.getD 0 = xs.getD k 0 := rfl
  simp only [Int.toNat_natCast, e1, e0]
  rw [wrap_u64 (x := xs.getD (k + 1) 0) (by omega) (by omega), wrap_u64 (x := xs.getD k 0) (by omega) (by omega), wrap_u64 (by omega) (by omega), or_u64 b1 b0]
  rfl
set_option maxHeartbeats 400000 in
theorem split_any (n : Int) (w : World) (hn : -9223372036854775808 ≤ n) (hn2 : n ≤ 9223372036854775807) :
    Calls Tryz.prog 165 #[.int .i64 n] w fun e w' =>
      e = .returned (.tuple #[.int .i64 ((max n 0) / 32), .int .i64 ((max n 0) % 32)]) ∧ w = w' := by
  go_enter Tryz.func165, Tryz.ntmps165
  go_wp2
  all_goals go_ret2
  all_goals refine ⟨?_, rfl⟩
  all_goals first | rfl | (rw [show max n 0 = 0 from by omega]; rfl) | (rw [show max n 0 = n from by omega]; rfl)
theorem carrier_any (c : Int) (w : World) :
    Calls Tryz.prog 145 #[.int .u64 c] w fun e w' =>
      e = .returned (.func (.func 161) #[] #[.pointer (some ⟨w.heap.size, 0, none⟩)]) ∧ w' = w.alloc (.cells #[.int .u64 c] 145) := by
  go_enter Tryz.func145, Tryz.ntmps145
  go_wp2
  go_ret
  exact ⟨rfl, rfl⟩
/-- called with parts: the sum's low word; the rest is kept -/
def Carried (b : Nat) (v : Int) (w w' : World) : Prop := w'.heap[b]? = some (.cells #[.int .u64 v] 145 (0, 0)) ∧ Only b w w'
def sumL : List Int → Int
  | [] => 0
  | x :: xs => x + sumL xs
theorem sumL_snoc (xs : List Int) (x : Int) : sumL (xs ++ [x]) = sumL xs + x := by
  induction xs with
  | nil => simp [sumL]
  | cons y ys ih => simp only [List.cons_append, sumL, ih]; omega
theorem sumL_take (xs : List Int) (k : Nat) (hk : k < xs.length) : sumL (xs.take (k + 1)) = sumL (xs.take k) + xs.getD k 0 := by
  rw [List.take_succ_eq_append_getElem hk, sumL_snoc]
  simp [List.getD, hk]
theorem sumL_mono (xs : List Int) (h : ∀ x ∈ xs, 0 ≤ x) (k : Nat) : 0 ≤ sumL (xs.take k) ∧ sumL (xs.take k) ≤ sumL xs := by
  induction xs generalizing k with
  | nil => simp [sumL]
  | cons x xs ih =>
    have hx := h x List.mem_cons_self
    cases k with
    | zero => have := (ih (fun y hy => h y (List.mem_cons_of_mem _ hy)) xs.length).1; simp only [List.take_length] at this; simp only [List.take_zero, sumL]; omega
    | succ k => have := ih (fun y hy => h y (List.mem_cons_of_mem _ hy)) k; simp only [List.take_succ_cons, sumL]; omega
set_option maxHeartbeats 400000 in
theorem carry_any (c : Int) (ys : List Int) (b : Nat) (ad : Option Addr) (w : World) (hc : 0 ≤ c) (hy : ∀ y ∈ ys, 0 ≤ y) (hs : c + sumL ys < 18446744073709551616) (hlen : ys.length ≤ 2)
    (hb : w.heap[b]? = some (.cells #[.int .u64 c] 145 (0, 0)))
    (hp : ys ≠ [] → ∃ p, ad = some ⟨p, 0, none⟩ ∧ p ≠ b ∧ ∀ i, i < ys.length → w.cell? ⟨p, i, none⟩ = some (.int .u64 (ys.getD i 0))) :
    Calls Tryz.prog 161 #[.slice ad ys.length ys.length, .pointer (some ⟨b, 0, none⟩)] w fun e w' =>
      e = .returned (.int .u32 ((c + sumL ys) % 4294967296)) ∧ Carried b ((c + sumL ys) / 4294967296) w w' := by
  go_enter Tryz.func161, Tryz.ntmps161
  go_wp2
  go_loopw [5, 9] (fun _ i wr => ∃ k : Nat, k ≤ ys.length ∧ i = .int .i64 k ∧ Carried b (c + sumL (ys.take k)) w wr) (fun _ i _ => ys.length - (intOf i).toNat)
  case atStart => exact ⟨0, Nat.zero_le _, rfl, by simpa [sumL] using hb, Only.refl _ _⟩
  case round =>
    obtain ⟨k, hk, rfl, hcb, ho⟩ := hrel
    have h1 := cell_of_one hcb
    have h2 := free_of_one hcb
    have h3 := sumL_mono ys hy k
    by_cases hlt : k < ys.length
    · obtain ⟨p, rfl, hpb, hpc⟩ := hp (by intro h; simp [h] at hlt)
      have hck := (ho.cell (p := ⟨p, k, none⟩) hpb).trans (hpc k hlt)
      have h4 := sumL_mono ys hy (k + 1)
      have h5 := sumL_take ys k hlt
      have h6 : 0 ≤ ys.getD k 0 := by have := sumL_mono ys hy (k+1); simp only [List.getD, hlt, List.getElem?_eq_getElem, Option.getD_some]; exact hy _ (List.getElem_mem hlt)
      have h7 : c + sumL (ys.take k) + ys.getD k 0 < 18446744073709551616 := by omega
      have h8 : ys.getD k 0 = ys[k] := by simp [hlt]
      rw [h8] at h5 h6 h7
      have H5 := Lib.hid h5
      clear h5 h4 hp hpc h8
      go_wp2
      go_roundw
      case rel =>
        refine ⟨k + 1, by omega, by go_num, ?_, ho.trans (Only.set _ _ _ _)⟩
        rw [one_setCell hcb, H5.out, Int.add_assoc]
      case measure => simp [intOf]; omega
    · have hke : k = ys.length := by omega
      subst hke
      rw [List.take_length] at hcb h1 h3
      have hco := one_setCell hcb (u := .int .u64 ((c + sumL ys) / 4294967296))
      go_wp2
      go_ret
      exact ⟨rfl, hco, ho.trans (Only.set _ _ _ _)⟩
end
section
open Go.RowKit
theorem tab_at (i : Int) (h0 : 0 ≤ i) (h1 : i ≤ 255) (h : i.toNat < Lib.len8tab.size) : (Lib.len8tab[i.toNat].toNat : Int) = Lib.bitLen i.toNat := by
  rw [← Lib.len8_of i h0 h1]
  unfold Lib.len8
  rw [getElem?_pos Lib.len8tab i.toNat h]
  rfl
theorem wrap2 (c : Int) (n : Nat) (h0 : 0 ≤ c) (h1 : c ≤ 24) (hn : n ≤ 8) : wrap64 (c + wrap64 (n : Int)) = c + n := by unfold wrap64; omega
theorem wrap64_small (x : Int) (h0 : 0 ≤ x) (h1 : x ≤ 1000) : wrap64 x = x := by unfold wrap64; omega
set_option maxHeartbeats 4000000 in
set_option maxRecDepth 100000 in
theorem len_any (x : Int) (w : World) (hx : 0 ≤ x ∧ x < 4294967296) :
    Calls Tryz.prog 144 #[.int .u32 x] w fun e w' => e = .returned (.int .i64 (Lib.bitLen x.toNat)) ∧ w = w' := by
  obtain ⟨h0, h1⟩ := hx
  have hsz : (Lib.len8tab.size : Int) = 256 := by rw [Lib.len8tab_size]; rfl
  go_enter Tryz.func144, Tryz.ntmps144
  go_wp2
  all_goals (go_ret; refine ⟨congrArg Ending.returned (congrArg (Value.int IntKind.i64) ?_), rfl⟩)
  · have e : (x / 65536 / 256).toNat = x.toNat / 16777216 := by omega
    have t := tab_at (x / 65536 / 256) (by omega) (by omega) (by rw [Lib.len8tab_size]; omega)
    have l := Lib.bitLen_le8' (x / 65536 / 256) (by omega) (by omega)
    have s := Lib.bitLen_shift24 x.toNat (by omega) (by omega)
    rw [t, wrap2 _ _ (by omega) (by omega) l, e, s]
    omega
  · have e : (x / 65536).toNat = x.toNat / 65536 := by omega
    have t := tab_at (x / 65536) (by omega) (by omega) (by rw [Lib.len8tab_size]; omega)
    have l := Lib.bitLen_le8' (x / 65536) (by omega) (by omega)
    have s := Lib.bitLen_shift16 x.toNat (by omega) (by omega)
    rw [t, wrap2 _ _ (by omega) (by omega) l, e, s]
    omega
  · have e : (x / 256).toNat = x.toNat / 256 := by omega
    have t := tab_at (x / 256) (by omega) (by omega) (by rw [Lib.len8tab_size]; omega)
    have l := Lib.bitLen_le8' (x / 256) (by omega) (by omega)
    have s := Lib.bitLen_shift8 x.toNat (by omega) (by omega)
    rw [t, wrap2 _ _ (by omega) (by omega) l, e, s]
    omega
  · have t := tab_at x (by omega) (by omega) (by rw [Lib.len8tab_size]; omega)
    have l := Lib.bitLen_le8' x (by omega) (by omega)
    rw [t, wrap64_small (Lib.bitLen x.toNat) (by omega) (by omega), wrap64_small _ (by omega) (by omega)]
/-- -1, 0 or 1 -/
def sign (a b : Int) : Int := if a < b then -1 else if b < a then 1 else 0
theorem cmpInt_any (a b : Int) (w : World) :
    Calls Tryz.prog 147 #[.int .i64 a, .int .i64 b] w fun e w' => e = .returned (.int .i64 (sign a b)) ∧ w = w' := by
  go_enter Tryz.func147, Tryz.ntmps147
  go_wp2_with go_in
  all_goals go_ret
  all_goals refine ⟨congrArg Ending.returned (congrArg (Value.int IntKind.i64) ?_), rfl⟩
  all_goals unfold sign
  · rw [if_pos (by assumption)]
  · rw [if_neg (by omega), if_pos (by assumption)]
  · rw [if_neg (by omega), if_neg (by omega)]
theorem cmpLimb_any (a b : Int) (w : World) :
    Calls Tryz.prog 149 #[.int .u32 a, .int .u32 b] w fun e w' => e = .returned (.int .i64 (sign a b)) ∧ w = w' := by
  go_enter Tryz.func149, Tryz.ntmps149
  go_wp2_with go_in
  all_goals go_ret
  all_goals refine ⟨congrArg Ending.returned (congrArg (Value.int IntKind.i64) ?_), rfl⟩
  all_goals unfold sign
  · rw [if_pos (by assumption)]
  · rw [if_neg (by omega), if_pos (by assumption)]
  · rw [if_neg (by omega), if_neg (by omega)]
/-- the number of bits -/
def bitsN (xs : List Int) : Nat := if trimN xs xs.length = 0 then 0 else (trimN xs xs.length - 1) * 32 + Lib.bitLen (xs.getD (trimN xs xs.length - 1) 0).toNat
set_option maxHeartbeats 400000 in
theorem bits_any (ad : Option Addr) (xs : List Int) (cap : Nat) (w : World) (hl : Lim w ad xs) (hm : xs.length ≤ 35184372088832) (hcap : xs.length ≤ cap) (hw : Wf xs) :
    Calls Tryz.prog 124 #[.slice ad xs.length cap] w fun e w' => e = .returned (.int .i64 (bitsN xs)) ∧ w = w' := by
  have ht := trim_le xs
  go_enter Tryz.func124, Tryz.ntmps124
  go_wp2_with fail
  refine (cut_any ad xs cap _ hl (by unfold maxLen; omega) hcap).mono ?_
  rintro e w' ⟨rfl, rfl⟩
  have hb : bitsN xs = if trimN xs xs.length = 0 then 0 else (trimN xs xs.length - 1) * 32 + Lib.bitLen (xs.getD (trimN xs xs.length - 1) 0).toNat := rfl
  generalize trimN xs xs.length = t at *
  have HB := Lib.hid hb
  clear hb
  rcases t with _ | m
  · go_wp2_with fail
    go_ret
    rw [HB.out]
    exact ⟨rfl, rfl⟩
  · rcases hl with rfl | ⟨b, off, rfl, hc⟩
    · simp at ht
    · have hcm := hc m (by omega)
      have hwm := hw.getD m
      have h1 : ((m : Int) + 1 == 0) = false := by simp; omega
      clear hc
      go_wp2_with fail
      refine (len_any _ _ hwm).mono ?_
      rintro e w' ⟨rfl, rfl⟩
      have hle := Lib.bitLen_le (xs.getD m 0).toNat 32 (by omega) (by omega)
      have hge : 0 ≤ (Lib.bitLen (xs.getD m 0).toNat : Int) := by omega
      have e2 : bitsN xs = m * 32 + Lib.bitLen (xs.getD m 0).toNat := HB.out
      have HE := Lib.hid e2
      clear e2
      generalize Lib.bitLen (xs.getD m 0).toNat = q at *
      go_wp2_with fail
      go_ret
      refine ⟨congrArg Ending.returned (congrArg (Value.int IntKind.i64) ?_), rfl⟩
      rw [HE.out]
      omega
set_option maxHeartbeats 400000 in
theorem uint_any (ad : Option Addr) (xs : List Int) (cap : Nat) (w : World) (hl : Lim w ad xs) (hm : xs.length ≤ 35184372088832) (hcap : xs.length ≤ cap) (hw : Wf xs) :
    Calls Tryz.prog 136 #[.slice ad xs.length cap] w fun e w' =>
      e = .returned (if bitsN xs ≤ 64 then .tuple #[.int .u64 (4294967296 * xs.getD 1 0 + xs.getD 0 0), .bool true] else .tuple #[.int .u64 0, .bool false]) ∧ w = w' := by
  by_cases hb : bitsN xs ≤ 64
  · rw [if_pos hb]
    have hb2 : (bitsN xs : Int) ≤ 64 := by omega
    clear hb
    go_enter Tryz.func136, Tryz.ntmps136
    go_wp2_with fail
    refine (bits_any ad xs cap _ hl hm hcap hw).mono ?_
    rintro e w' ⟨rfl, rfl⟩
    go_wp2_with fail
    refine (pair_any ad xs cap _ _ hl (by unfold maxLen; omega) (by omega) (by omega) hw).mono ?_
    rintro e w' ⟨rfl, rfl⟩
    go_wp2_with fail
    go_ret2
    exact ⟨rfl, rfl⟩
  · rw [if_neg hb]
    have hb2 : 64 < (bitsN xs : Int) := by omega
    clear hb
    go_enter Tryz.func136, Tryz.ntmps136
    go_wp2_with fail
    refine (bits_any ad xs cap _ hl hm hcap hw).mono ?_
    rintro e w' ⟨rfl, rfl⟩
    go_wp2_with fail
    go_ret2
    exact ⟨rfl, rfl⟩
end
section
open Go.RowKit
theorem Lim.nil (w : World) (ad : Option Addr) : Lim w ad [] := .inl rfl
theorem Lim.below {w w' : World} {ad : Option Addr} {xs : List Int} {B : Nat} (h : Lim w ad xs) (hb : Below B w w') (hB : ∀ a, ad = some a → a.block < B) : Lim w' ad xs := by
  rcases h with rfl | ⟨b, off, rfl, hc⟩
  · exact .inl rfl
  · exact .inr ⟨b, off, rfl, fun i hi => (hb.cell (p := ⟨b, off + i, none⟩) (hB ⟨b, off, none⟩ rfl)).trans (hc i hi)⟩
theorem Lim.later {w w' : World} {ad : Option Addr} {xs : List Int} (h : Lim w ad xs) (hb : Below w.heap.size w w') : Lim w' ad xs := by
  rcases h with rfl | ⟨b, off, rfl, hc⟩
  · exact .inl rfl
  · refine .inr ⟨b, off, rfl, fun i hi => ?_⟩
    have hlt := World.block_lt_of_cell? w _ (hc i hi)
    exact (hb.cell (p := ⟨b, off + i, none⟩) hlt).trans (hc i hi)
theorem Lim.take {w : World} {ad : Option Addr} {xs : List Int} (h : Lim w ad xs) (n : Nat) : Lim w ad (xs.take n) := by
  rcases h with rfl | ⟨b, off, rfl, hc⟩
  · exact .inl (by simp)
  · refine .inr ⟨b, off, rfl, fun i hi => ?_⟩
    rw [List.length_take] at hi
    rw [hc i (by omega)]
    simp [show i < n by omega]
theorem Lim.lt {w : World} {ad : Option Addr} {xs : List Int} (h : Lim w ad xs) (hn : xs ≠ []) : ∀ a, ad = some a → a.block < w.heap.size := by
  rcases h with rfl | ⟨b, off, rfl, hc⟩
  · exact absurd rfl hn
  · intro a ha
    cases ha
    exact World.block_lt_of_cell? w _ (hc 0 (List.length_pos_iff.2 hn))
/-- a block of limbs, known whole -/
def Blk (w : World) (g : Nat) (zs : List Int) : Prop := w.heap[g]? = some (.cells (zs.map (Value.int .u32)).toArray 63 (0, 0))
theorem Blk.cell {w : World} {g : Nat} {zs : List Int} (h : Blk w g zs) (i : Nat) (hi : i < zs.length) : w.cell? ⟨g, i, none⟩ = some (.int .u32 (zs.getD i 0)) := by
  have e : w.cell? ⟨g, i, none⟩ = ((zs.map (Value.int .u32)).toArray)[i]? := cell_of_row w g i _ 63 (0, 0) h
  rw [e]; simp [hi]
theorem Blk.free {w : World} {g : Nat} {zs : List Int} (h : Blk w g zs) (i : Nat) : w.frozen? ⟨g, i, none⟩ = false := by
  exact frozen_of_row w g i _ 63 h
theorem Blk.lt {w : World} {g : Nat} {zs : List Int} (h : Blk w g zs) : g < w.heap.size := lt_of_block h
theorem Blk.same {w w' : World} {g : Nat} {zs : List Int} (h : Blk w g zs) (e : w'.heap[g]? = w.heap[g]?) : Blk w' g zs := e.trans h
theorem Blk.alloc {w : World} {g : Nat} {zs : List Int} (h : Blk w g zs) (o : Obj) : Blk (w.alloc o) g zs := h.same (Below.heap_alloc _ _ _ h.lt)
theorem Blk.only {w w' : World} {g b : Nat} {zs : List Int} (h : Blk w g zs) (k : Only b w w') (hb : g ≠ b) : Blk w' g zs := h.same (k.block g hb)
theorem Blk.below {w w' : World} {g B : Nat} {zs : List Int} (h : Blk w g zs) (k : Below B w w') (hb : g < B) : Blk w' g zs := h.same (k.block g hb)
theorem Blk.set {w : World} {g : Nat} {zs : List Int} (h : Blk w g zs) (i : Nat) (x : Int) : Blk (w.setCell ⟨g, i, none⟩ (.int .u32 x)) g (zs.set i x) := by
  have hh := heap_setCell_same w g i _ 63 (.int .u32 x) h
  unfold Blk
  rw [hh]
  congr 2
  simp [List.map_set]
theorem Blk.made (w : World) (n : Nat) : Blk (w.alloc (.cells (madeCells #[.int .u32 0] n) 63)) w.heap.size (List.replicate n 0) := by
  have h := heap_alloc_new w (.cells (madeCells #[.int .u32 0] n) 63)
  unfold Blk
  rw [h]
  congr 2
  apply Array.ext
  · simp [madeCells]
  · intro i h1 h2
    simp [madeCells, Nat.mod_one]
/-- v is a slice of the call's own limbs xs -/
def Num (base : Nat) (w : World) (v : Value) (xs : List Int) : Prop := w.ownsRow base 63 1 v xs.length (xs.map (Value.int .u32))
theorem Num.read {base : Nat} {w : World} {v : Value} {xs : List Int} (h : Num base w v xs) : ∃ ad cap, v = .slice ad xs.length cap ∧ Lim w ad xs ∧ xs.length ≤ cap ∧ cap ≤ maxLen ∧ (∀ a, ad = some a → base ≤ a.block ∧ a.block < w.heap.size) := by
  obtain ⟨h1, h2⟩ := h
  rcases h2 with ⟨rfl, hn⟩ | ⟨g, cap, cur, rfl, hb, hg, hc, hm, hs, ht⟩
  · obtain rfl := List.eq_nil_of_length_eq_zero hn
    exact ⟨none, 0, rfl, .inl rfl, Nat.le_refl _, by unfold maxLen; omega, fun a ha => by cases ha⟩
  · refine ⟨_, cap, rfl, .inr ⟨g, 0, rfl, fun i hi => ?_⟩, hc, hm, fun a ha => by cases ha; exact ⟨hb, lt_of_block hg⟩⟩
    have hj := World.ownsRow.cellAt (w := w) (base := base) (e := 63) (size := 1) (g := g) (n := xs.length) (cap := cap) (xs := xs.map (Value.int .u32)) ⟨h1, .inr ⟨g, cap, cur, rfl, hb, hg, hc, hm, hs, ht⟩⟩ i (by omega)
    rw [Nat.zero_add, hj]
    simp [hi]
theorem Num.cut {base : Nat} {w : World} {ad : Option Addr} {xs : List Int} {n cap : Nat} (h : Num base w (.slice ad n cap) xs) : Num base w (.slice ad (trimN xs xs.length) cap) (trim xs) := by
  have hl := trim_le xs
  unfold Num at *
  rw [trim_length]
  obtain ⟨h1, h2⟩ := h
  rcases h2 with ⟨hv, hn⟩ | ⟨g, cap', cur, hv, hb, hg, hc, hm, hs, ht⟩
  · obtain rfl := List.eq_nil_of_length_eq_zero hn
    cases hv
    exact ⟨rfl, .inl ⟨rfl, rfl⟩⟩
  · cases hv
    refine ⟨by rw [List.length_map, trim_length, Nat.mul_one], .inr ⟨g, cap, cur, rfl, hb, hg, by omega, hm, hs, ?_⟩⟩
    unfold trim
    rw [List.map_take, ← ht, List.take_take]
    congr 1
    omega
theorem Num.ofBlk {base g : Nat} {w : World} {zs : List Int} (h : Blk w g zs) (hb : base ≤ g) (n : Nat) (hn : n ≤ zs.length) (hm : zs.length ≤ maxLen) : Num base w (.slice (some ⟨g, 0, none⟩) n zs.length) (zs.take n) := by
  have e : (zs.take n).length = n := by rw [List.length_take]; omega
  unfold Num
  rw [e]
  refine ⟨by rw [List.length_map, e, Nat.mul_one], .inr ⟨g, zs.length, _, rfl, hb, h, hn, hm, by simp, ?_⟩⟩
  simp [List.map_take]
theorem Num.lt {base : Nat} {w : World} {v : Value} {xs : List Int} (h : Num base w v xs) : ∀ k, v.ownBlock = some k → base ≤ k ∧ k < w.heap.size := World.ownsRow.lt h
theorem Num.kept {base B : Nat} {w w' : World} {v : Value} {xs : List Int} (h : Num base w v xs) (hb : Below B w w') (hB : ∀ k, v.ownBlock = some k → k < B) : Num base w' v xs := by
  obtain ⟨h1, h2⟩ := h
  refine ⟨h1, ?_⟩
  rcases h2 with h2 | ⟨g, cap, cur, rfl, hg0, hg, hc, hm, hs, ht⟩
  · exact .inl h2
  · exact .inr ⟨g, cap, cur, rfl, hg0, (hb.block g (hB g rfl)).trans hg, hc, hm, hs, ht⟩
theorem Num.later {base : Nat} {w w' : World} {v : Value} {xs : List Int} (h : Num base w v xs) (hb : Below w.heap.size w w') : Num base w' v xs := h.kept hb fun k hk => (h.lt k hk).2
theorem Num.mono {base base' : Nat} {w : World} {v : Value} {xs : List Int} (h : Num base w v xs) (hb : base' ≤ base) : Num base' w v xs := by
  obtain ⟨h1, h2⟩ := h
  refine ⟨h1, ?_⟩
  rcases h2 with h2 | ⟨g, cap, cur, rfl, hg0, hg, hc, hm, hs, ht⟩
  · exact .inl h2
  · exact .inr ⟨g, cap, cur, rfl, Nat.le_trans hb hg0, hg, hc, hm, hs, ht⟩
theorem cut_still (ad : Option Addr) (xs : List Int) (cap : Nat) (w : World) (hl : Lim w ad xs) (hm : xs.length ≤ 35184372088832) (hcap : xs.length ≤ cap) :
    Calls Tryz.prog 132 #[.slice ad xs.length cap] w fun e w' => e = .returned (.slice ad (trimN xs xs.length) cap) ∧ w' = w :=
  (cut_any ad xs cap w hl (by unfold maxLen; omega) hcap).mono fun _ _ ⟨he, hw⟩ => ⟨he, hw.symm⟩
theorem cut_num {base : Nat} {v : Value} {xs : List Int} {w : World} (h : Num base w v xs) :
    Calls Tryz.prog 132 #[v] w fun e w' => ∃ u, e = .returned u ∧ Num base w u (trim xs) ∧ w = w' := by
  obtain ⟨ad, cap, rfl, hl, hc, hm, _⟩ := h.read
  exact (cut_any ad xs cap w hl (by omega) hc).mono fun e w' ⟨he, hw⟩ => ⟨_, he, h.cut, hw⟩
theorem Blk.grown {w w' : World} {g : Nat} {row : Option Nat} {zs : List Int} (h : Blk w g zs) (k : w.grownBy w' row) (hb : some g ≠ row) : Blk w' g zs := h.same (k.block g h.lt hb)
def Stepped (b : Nat) (v : Int) (w w' : World) : Prop := w'.heap[b]? = some (.cells #[.int .u64 v] 145 (0, 0)) ∧ w.grownBy w' (some b)
theorem Only.grown {b : Nat} {w w' : World} (h : Only b w w') : w.grownBy w' (some b) := ⟨h.os, h.tape, h.output, Nat.le_of_eq h.size.symm, fun k _ hb => h.block k (fun e => hb (by rw [e]))⟩
theorem grown_alloc_only {b : Nat} {w w' : World} {o : Obj} (h : Only b (w.alloc o) w') : w.grownBy w' (some b) :=
  ⟨h.os, h.tape, h.output, by have := h.size; simp at this; omega, fun k hk hb => (h.block k (fun e => hb (by rw [e]))).trans (Below.heap_alloc _ _ _ hk)⟩
theorem carry1 (c x : Int) (b : Nat) (w : World) (hc : 0 ≤ c) (hx : 0 ≤ x) (hs : c + x < 18446744073709551616) (hb : w.heap[b]? = some (.cells #[.int .u64 c] 145 (0, 0))) :
    Calls Tryz.prog 161 #[.slice (some ⟨w.heap.size, 0, none⟩) 1 1, .pointer (some ⟨b, 0, none⟩)] (w.alloc (.cells #[.int .u64 x] 145)) fun e w' =>
      e = .returned (.int .u32 ((c + x) % 4294967296)) ∧ Stepped b ((c + x) / 4294967296) w w' := by
  have hlt := lt_of_block hb
  have e : c + sumL [x] = c + x := by simp only [sumL]; omega
  have h := carry_any c [x] b (some ⟨w.heap.size, 0, none⟩) (w.alloc (.cells #[.int .u64 x] 145)) hc (by intro z hz; simp at hz; omega) (by omega) (by simp)
    ((Below.heap_alloc _ _ _ hlt).trans hb) (fun _ => ⟨w.heap.size, rfl, by omega, fun i hi => by
      rw [cell_of_row _ _ _ _ _ _ (heap_alloc_new w _)]
      match i, hi with
      | 0, _ => rfl⟩)
  rw [e] at h
  exact h.mono fun e w' ⟨he, hh, ho⟩ => ⟨he, hh, grown_alloc_only ho⟩
theorem carry0 (c : Int) (b : Nat) (w : World) (hc : 0 ≤ c) (hs : c < 18446744073709551616) (hb : w.heap[b]? = some (.cells #[.int .u64 c] 145 (0, 0))) :
    Calls Tryz.prog 161 #[.slice none 0 0, .pointer (some ⟨b, 0, none⟩)] w fun e w' =>
      e = .returned (.int .u32 (c % 4294967296)) ∧ Stepped b (c / 4294967296) w w' := by
  have e : c + sumL [] = c := by simp [sumL]
  have h := carry_any c [] b none w hc (by intro z hz; cases hz) (by omega) (by simp) hb (fun h => absurd rfl h)
  rw [e] at h
  exact h.mono fun e w' ⟨he, hh, ho⟩ => ⟨he, hh, ho.grown⟩
end
section
open Go.RowKit
theorem infoLimb : (Tryz.prog.info? 63).map (fun i => (i.zero, i.size, i.bytes)) = some (some (.int .u32 0), 1, 4) := by kernel_rfl
/-- make([]limb, n, c) -/
theorem make_run (n c : Int) (h0 : 0 ≤ n) (hnc : n ≤ c) (hc : c ≤ 70368744177664) (w : World) :
    (Instr.makeSlice 56 (.int .i64 n) (.int .i64 c)).run Tryz.prog w = .ok (.slice (some ⟨w.heap.size, 0, none⟩) n.toNat c.toNat) (w.alloc (.cells (madeCells #[.int .u32 0] c.toNat) 63)) := by
  obtain ⟨i0, hi, hz0, hz1, hz2⟩ := info_parts infoLimb
  have h := run_make (P := Tryz.prog) w 56 63 i0 (.int .u32 0) Tryz.underlying56 hi hz0 .i64 .i64 n c h0 hnc (by rw [hz2]; omega) (by omega)
  simpa [hz1, Value.cells] using h
theorem make_runN (n c : Nat) (hnc : n ≤ c) (hc : c ≤ 70368744177664) (w : World) :
    (Instr.makeSlice 56 (.int .i64 n) (.int .i64 c)).run Tryz.prog w = .ok (.slice (some ⟨w.heap.size, 0, none⟩) n c) (w.alloc (.cells (madeCells #[.int .u32 0] c) 63)) := by
  simpa using make_run n c (by omega) (by omega) (by omega) w
theorem make_run0 (c : Nat) (hc : c ≤ 70368744177664) (w : World) :
    (Instr.makeSlice 56 (.int .i64 0) (.int .i64 c)).run Tryz.prog w = .ok (.slice (some ⟨w.heap.size, 0, none⟩) 0 c) (w.alloc (.cells (madeCells #[.int .u32 0] c) 63)) := by
  simpa using make_run 0 c (by omega) (by omega) (by omega) w
/-- the state behind k limbs of a sum: the limbs, the carry -/
def addTo (xs ys : List Int) : Nat → List Int × Int
  | 0 => ([], 0)
  | k + 1 => ((addTo xs ys k).1 ++ [((addTo xs ys k).2 + xs.getD k 0 + ys.getD k 0) % 4294967296], ((addTo xs ys k).2 + xs.getD k 0 + ys.getD k 0) / 4294967296)
theorem addTo_length (xs ys : List Int) (k : Nat) : (addTo xs ys k).1.length = k := by
  induction k with
  | zero => rfl
  | succ k ih => simp [addTo, ih]
theorem addTo_carry (xs ys : List Int) (hx : Wf xs) (hy : Wf ys) (k : Nat) : 0 ≤ (addTo xs ys k).2 ∧ (addTo xs ys k).2 ≤ 1 := by
  induction k with
  | zero => simp [addTo]
  | succ k ih => have h1 := hx.getD k; have h2 := hy.getD k; simp only [addTo]; omega
theorem addTo_wf (xs ys : List Int) (k : Nat) : Wf (addTo xs ys k).1 := by
  induction k with
  | zero => exact Wf.nil
  | succ k ih => exact ih.append (Wf.cons (by omega) Wf.nil)
end
section
open Go.RowKit Go.Shelf
attribute [local go_sem] Oper.semAt_some
theorem wideCall {n : Nat} {P : Program} {f : FuncId} {args : Array Value} {w : World} {R : Ending → World → Prop} (h : Calls P f args w R) :
    Fence.wide.fn f ∧ (Fence.wide.depth.isSome = true → 1 ≤ n) ∧ CallsIn Fence.wide (n - 1) P f args w R := ⟨trivial, (fun h => by cases h), callsIn_wide.2 h⟩
theorem roundCall {n l : Nat} {P : Program} {f : FuncId} {args : Array Value} {w : World} {R : Ending → World → Prop} (h : Calls P f args w R) :
    (Fence.wide.inRound l).fn f ∧ ((Fence.wide.inRound l).depth.isSome = true → 1 ≤ n) ∧ CallsIn (Fence.wide.inRound l) (n - 1) P f args w R := ⟨trivial, (fun h => by cases h), CallsIn.inRound l (callsIn_wide.2 h)⟩
/-- the first k places -/
def Upto {n : Nat} (pre : List (Fin n)) (k : Nat) : Prop := pre.map Fin.val = List.range k
theorem Upto.nil {n : Nat} : Upto ([] : List (Fin n)) 0 := rfl
theorem Upto.snoc {n k : Nat} {pre : List (Fin n)} (h : Upto pre k) (hk : k < n) : Upto (pre ++ [⟨k, hk⟩]) (k + 1) := by
  unfold Upto at *
  rw [List.map_append, h, List.range_succ]
  rfl
theorem Upto.length {n k : Nat} {pre : List (Fin n)} (h : Upto pre k) : pre.length = k := by
  have := congrArg List.length h
  simpa using this
theorem range_limbs (xs : List Int) (m : Nat) (hm : m ≤ xs.length) : (List.range m).map (fun i => xs[i]?.getD 0) = xs.take m := by
  apply List.ext_getElem
  · simp; omega
  · intro i h1 h2
    simp at h1
    simp [show i < xs.length by omega]
theorem Upto.limbs {xs : List Int} {m : Nat} {ys : List (Fin m)} (h : Upto ys m) (hm : m ≤ xs.length) : ys.map (fun x => xs[x.val]?.getD 0) = xs.take m := by
  rw [← range_limbs xs m hm, ← h, List.map_map]
  rfl
/-- what a round is handed: the place, the limb -/
def limbAt (xs : List Int) {n : Nat} (x : Fin n) : Array Value := #[.int .i64 (x.val : Int), .int .u32 (xs[x.val]?.getD 0)]
set_option maxRecDepth 100000 in
set_option maxHeartbeats 2000000 in
theorem limbs1_in (n l Bs n₀ : Nat) (ad : Option Addr) (xs : List Int) (cap : Nat) (hm : xs.length ≤ 35184372088832) (hcap : xs.length ≤ cap) (hb : xs ≠ [] → ∀ a, ad = some a → a.block < n₀) (J Jx : List (Fin (trimN xs xs.length)) → World → Prop)
    (hY : ∀ pre x W, J pre W → pre.length < trimN xs xs.length → YieldAt Fence.wide (n - 1) Tryz.prog l (limbAt xs x) W fun e W' =>
      (e = .returned (.bool true) ∧ J (pre ++ [x]) W' ∧ Below n₀ W W') ∨ (e = .returned (.bool false) ∧ Jx (pre ++ [x]) W'))
    (W : World) (hBs : W.cell? ⟨Bs, 0, none⟩ = some (.slice ad xs.length cap)) (hl : Lim W ad xs) (h0 : J [] W) :
    CallsIn Fence.wide n Tryz.prog 160 #[.func (.yield l) #[] #[], .pointer (some ⟨Bs, 0, none⟩)] W fun e W' => (∃ v, e = .returned v) ∧
      ((∃ ys, Upto ys (trimN xs xs.length) ∧ J ys W') ∨ (∃ pre, (∃ k, k ≤ trimN xs xs.length ∧ Upto pre k) ∧ Jx pre W')) := by
  have hle := trim_le xs
  refine callsIn_of_wp Tryz.func160 rfl trivial ?_ rfl
  simp only [Tryz.ntmps160, List.size_toArray, List.length_cons, List.length_nil, Nat.reduceAdd, Nat.reduceSub, Array.replicate_succ, Array.replicate_zero, List.push_toArray, List.append_toArray, List.nil_append, List.cons_append]
  gi_wp2_with fail
  refine wideCall ((cut_any ad xs cap _ hl (by unfold maxLen; omega) hcap).mono ?_)
  rintro e w' ⟨rfl, rfl⟩
  generalize trimN xs xs.length = m at *
  gi_wp2_with fail
  gi_loopw [3, 4, 8] (fun _ _ i wr => ∃ (k : Nat) (pre : List (Fin m)), k ≤ m ∧ i = .int .i64 k ∧ Upto pre k ∧ J pre wr ∧ Below n₀ W wr)
    (fun _ _ i _ => m - (intOf i).toNat)
  case atStart => exact ⟨0, [], Nat.zero_le _, rfl, rfl, h0, Below.refl _ _⟩
  case round =>
    obtain ⟨k, pre, hk, rfl, hup, hJs, hnx⟩ := hrel
    by_cases hlt : k < m
    · rcases hl with rfl | ⟨b, off, rfl, hc⟩
      · simp at hle; omega
      · obtain ⟨fn, tmps, assign, body, hy, hR⟩ := hY pre ⟨k, hlt⟩ wr hJs (by rw [hup.length]; exact hlt)
        simp only [limbAt] at hy
        have hcx := (hnx.cell (p := ⟨b, off + k, none⟩) (hb (by rintro rfl; simp at hle; omega) ⟨b, off, none⟩ rfl)).trans (hc k (by omega))
        clear hc
        gi_wp2
        refine ⟨(fun h => by cases h), hR.mono ?_⟩
        rintro e W3 (⟨rfl, hJ3, hk3⟩ | ⟨rfl, hJx3⟩)
        · gi_wp2
          go_roundw
          case rel => exact ⟨k + 1, _, by omega, by go_num, hup.snoc hlt, hJ3, hnx.trans hk3⟩
          case measure => simp [intOf]; omega
        · gi_wp2
          refine bodyPost_ret (results_none rfl _ _ _) rfl ?_
          exact ⟨⟨_, rfl⟩, .inr ⟨_, ⟨k + 1, by omega, hup.snoc hlt⟩, hJx3⟩⟩
    · obtain rfl : k = m := by omega
      gi_wp2
      go_end0
      exact ⟨⟨_, rfl⟩, .inl ⟨_, hup, hJs⟩⟩
theorem limbs_any (ad : Option Addr) (n cap : Nat) (w : World) :
    Calls Tryz.prog 142 #[.slice ad n cap] w fun e w' => e = .returned (.func (.func 160) #[] #[.pointer (some ⟨w.heap.size, 0, none⟩)]) ∧ w' = w.alloc (.cells #[.slice ad n cap] 56) := by
  go_enter Tryz.func142, Tryz.ntmps142
  go_wp2
  go_ret
  exact ⟨rfl, rfl⟩
theorem limbs_stops (n Bs n₀ : Nat) (ad : Option Addr) (xs : List Int) (cap : Nat) (hm : xs.length ≤ 35184372088832) (hcap : xs.length ≤ cap) (hb : xs ≠ [] → ∀ a, ad = some a → a.block < n₀) (w : World) (hBs : Bs < w.heap.size)
    (hc : w.cell? ⟨Bs, 0, none⟩ = some (.slice ad xs.length cap)) (hl : Lim w ad xs) :
    SeqStopsK Fence.wide n Tryz.prog 160 #[.pointer (some ⟨Bs, 0, none⟩)] (limbAt xs (n := trimN xs xs.length)) (Below n₀) (fun ys => Upto ys (trimN xs xs.length)) (fun pre => ∃ k, k ≤ trimN xs xs.length ∧ Upto pre k) (trimN xs xs.length) w := fun l J Jx W hW _ _ hY h0 =>
  limbs1_in n l Bs n₀ ad xs cap hm hcap hb J Jx hY W ((hW.cell (p := ⟨Bs, 0, none⟩) hBs).trans hc) (hl.later hW) h0
end
section
open Go.RowKit Go.Shelf
attribute [local go_sem] Oper.semAt_some
set_option maxRecDepth 100000 in
set_option maxHeartbeats 2000000 in
theorem trim_any (ad : Option Addr) (xs : List Int) (cap : Nat) (w : World) (hl : Lim w ad xs) (hm : xs.length ≤ 35184372088832) (hcap : xs.length ≤ cap) :
    Calls Tryz.prog 138 #[.slice ad xs.length cap] w fun e w' => ∃ v, e = .returned v ∧ Num w.heap.size w' v (trim xs) ∧ Below w.heap.size w w' := by
  have hle := trim_le xs
  obtain ⟨i0, hi, hz0, hz1, hz2⟩ := info_parts infoLimb
  obtain ⟨n, hn⟩ : ∃ n : Nat, Hid (3 ≤ n) := ⟨3, Nat.le_refl 3⟩
  refine (callsIn_wide (n := n)).1 ?_
  refine callsIn_of_wp_marks Tryz.func138 rfl trivial ?_ rfl
  simp only [Tryz.ntmps138, List.size_toArray, List.length_cons, List.length_nil, Nat.reduceAdd, Nat.reduceSub, Array.replicate_succ, Array.replicate_zero, List.push_toArray, List.append_toArray, List.nil_append, List.cons_append]
  gi_wp2_with fail
  refine wideCall ((cut_any ad xs cap _ hl (by unfold maxLen; omega) hcap).mono ?_)
  rintro e w' ⟨rfl, rfl⟩
  obtain ⟨m, hmm⟩ : ∃ m, trimN xs xs.length = m := ⟨_, rfl⟩
  have hmk := make_run0 m (by omega)
  rw [hmm]
  rw [hmm] at hle
  have HM := Lib.hid hmm
  clear hmm
  gi_wp2_with fail
  refine wideCall ((limbs_any ad xs.length cap _).mono ?_)
  rintro e w' ⟨rfl, rfl⟩
  gi_wp2_with fail
  have h3 : 3 ≤ n := hn
  have bO := Boxed.new (w.alloc (Obj.cells (madeCells #[Value.int IntKind.u32 0] m) 63)) 56 (Value.slice (some ⟨w.heap.size, 0, none⟩) 0 m)
  have bN := Boxed.new ((w.alloc (Obj.cells (madeCells #[Value.int IntKind.u32 0] m) 63)).alloc (Obj.cells #[Value.slice (some ⟨w.heap.size, 0, none⟩) 0 m] 56)) 56 (Value.slice ad xs.length cap)
  have hown : ((w.alloc (Obj.cells (madeCells #[Value.int IntKind.u32 0] m) 63))).ownsRow w.heap.size 63 1 (Value.slice (some ⟨w.heap.size, 0, none⟩) 0 m) 0 [] :=
    ⟨rfl, .inr ⟨w.heap.size, m, _, rfl, Nat.le_refl _, heap_alloc_new w _, Nat.zero_le _, by unfold maxLen; omega, by simp [madeCells], by simp⟩⟩
  simp only [World.size_alloc] at bO bN
  have hB0 : Below w.heap.size w (((w.alloc (Obj.cells (madeCells #[Value.int IntKind.u32 0] m) 63)).alloc (Obj.cells #[Value.slice (some ⟨w.heap.size, 0, none⟩) 0 m] 56)).alloc (Obj.cells #[Value.slice ad xs.length cap] 56)) :=
    (((Below.refl _ w).alloc (Nat.le_refl _) _).alloc (by simp) _).alloc (by simp; omega) _
  refine wpIn_rangeFunc_ownG rfl (by omega) (gf := 160) (lb := #[.pointer (some ⟨w.heap.size + 1 + 1, 0, none⟩)]) rfl trivial (enters_of Tryz.func160 (by kernel_rfl) rfl)
    (limbs_stops (n - 1) (w.heap.size + 1 + 1) w.heap.size ad xs cap hm hcap hl.lt _ (by simp) bN.cell (hl.later hB0)) belowK_t (belowK_b (by simp; omega)) (Below.refl _ _) (fun _ => rfl)
    (fun (pre : List (Fin (trimN xs xs.length))) W => (∃ v, Boxed W (w.heap.size + 1) 56 v ∧ W.ownsRow w.heap.size 63 1 v pre.length (pre.map fun x => Value.int .u32 (xs[x.val]?.getD 0)) ∧ True) ∧ Below w.heap.size w W)
    (fun _ _ _ => False)
    (OwnFrom.and (Own.from (holdsRow_own w.heap.size (w.heap.size + 1) 56 63 1 (fun pre : List (Fin (trimN xs xs.length)) => pre.length) (fun pre => pre.map fun x => Value.int .u32 (xs[x.val]?.getD 0)) (fun _ _ => True)) _) (ownFrom_below (Nat.le_refl _) (by simp; omega)))
    (fun _ _ _ _ _ hs _ _ => hs)
    ⟨⟨_, bO.alloc _, (hown.alloc _).alloc _, trivial⟩, hB0⟩
    (fun (x : Fin (trimN xs xs.length)) => { tmps := #[.slice ad xs.length cap, undef, .slice none 0 0, .pointer (some ⟨w.heap.size + 1, 0, none⟩), undef, .int .u32 (xs[x.val]?.getD 0), .slice ad xs.length cap, .slice ad m cap, .int .i64 m, .slice (some ⟨w.heap.size, 0, none⟩) 0 m, .slice ad xs.length cap,
      .func (.func 160) #[] #[.pointer (some ⟨w.heap.size + 1 + 1, 0, none⟩)], .int .i64 (x.val : Int), .int .u32 (xs[x.val]?.getD 0), undef, undef, undef, undef, undef], defers := [] }) ?assign ?body ?done ?stop
  case assign =>
    intro l x W K hK
    simp only [limbAt]
    gi_wp2
    exact hK
  case body =>
    rintro l pre x W ⟨⟨v, hv, hrow, _⟩, hB⟩ hlt
    have hc := hv.cell
    have hpl : pre.length + 1 ≤ 35184372088832 := by have := HM.out; omega
    have hbs := hB.size
    gi_wp2_with (gi_at_builtin; refine wpListIn_append_own _ rfl _ _ 56 rfl w.heap.size 63 i0 (.int .u32 0) 1 4 Tryz.underlying56 hi hz0 hz1 hz2 rfl (by decide) _ _ _ rfl (hrow.alloc _) ⟨W.heap.size, 0, none⟩ 1 1 [.int .u32 (xs[x.val]?.getD 0)] rfl rfl (cell_one_new _ _ _) (by simp [Value.oneCell']) (by unfold maxLen; omega) (by omega) (by simp; omega) ?_; intro v' w1 hown' hgrow _; obtain ⟨g', cap', rfl⟩ := ownsRow_succ hown'; obtain ⟨hv1, hv2, hr2, hk2, hb2⟩ := hv.appended (by decide) hrow hB.size (Nat.le_succ _) hown' hgrow; have hc1 := hv1.cell; have hf1 := hv1.frozen)
    exact ⟨hk2.from _, hb2, ⟨_, hv2, by simpa using hr2, trivial⟩, hB.trans hb2⟩
  case done =>
    rintro D ys W hD hup ⟨⟨v, hv, hrow, _⟩, hB⟩ hK
    have hc := hv.cell
    gi_wp2
    refine ⟨by simp, .inl ⟨_, _, rfl, run_takeDeferred hK, ?_⟩⟩
    refine ⟨_, results_tmp rfl _ _ _, v, rfl, ?_, hB.trans (belowK_b (w := w) (Nat.le_refl _) W D _ _ (by simp at hD; omega) hK rfl rfl)⟩
    have h2 := ownsRow_putObj hrow (.deferred none) hK rfl
    have e : trim xs = ys.map (fun x => xs[x.val]?.getD 0) := (hup.limbs (trim_le xs)).symm
    unfold Num
    rw [e, List.length_map, List.map_map]
    exact h2
  case stop =>
    rintro D c pre W _ _ h _
    exact h.elim
end
section
open Go.RowKit
/-- no operation defers -/
def noDefer (ops : Array Oper) : Bool := ops.toList.all fun o => match o.op with | .defer _ => false | _ => true
theorem noDefer_spec {ops : Array Oper} (h : noDefer ops = true) {i : Nat} {o : Oper} (ho : ops[i]? = some o) (c : Call) : o.op ≠ .defer c := by
  intro e
  have hm : o ∈ ops.toList := by
    obtain ⟨hi, rfl⟩ := Array.getElem?_eq_some_iff.1 ho
    exact Array.getElem_mem_toList hi
  have := List.all_eq_true.1 h o hm
  rw [e] at this
  cases this
theorem wpIn_of_wp_round {l n : Nat} {P : Program} {o : Oper} {a : Act} {w : World} {K : Act → World → Prop} {Q : Exit → Act → World → Prop} (hnd : ∀ c, o.op ≠ .defer c)
    (h : o.wp P a w K Q) : o.wpIn (Fence.wide.inRound l) n P a w K Q := by
  unfold Oper.wpIn
  refine ⟨fun _ _ => trivial, ?_⟩
  rw [Oper.semAt_eq _ _ _ hnd]
  unfold Oper.wp at h
  generalize (execOp a.eval o).run P w = r at *
  cases r with
  | ok x w' =>
    cases x with
    | value v => exact h
    | skip => exact h
    | defer d => exact h
    | enter f args => exact ⟨(fun h => by cases h), callsIn_wide.2 h⟩
    | row r args => exact ⟨(fun h => by cases h), fun c cs _ => let ⟨v, w', r, s⟩ := h c cs; ⟨v, w', r, stepsIn_wide.2 s⟩⟩
    | _ => exact h.elim
  | halt x w' => cases x <;> exact h
theorem wpAnyIn_of_round {l n : Nat} {P : Program} {md : Region.Mode} {ops : Array Oper} {Q : Exit → Act → World → Prop} (hnd : noDefer ops = true) (hLO : ¬ LetsOut Q) :
    ∀ (fuel : Nat) (listed : Array Bool) (a : Act) (w : World), wpAny P md ops Q fuel listed a w → wpAnyIn (Fence.wide.inRound l) n P md ops Q fuel listed a w
  | 0, _, _, _, h => h
  | fuel + 1, _, _, _, h => ⟨h.1, fun i hi => by
    have h2 := h.2 i hi
    unfold wpOp at h2
    unfold wpOpIn
    split
    · rename_i he
      rw [he] at h2
      exact wpAnyIn_of_round hnd hLO fuel _ _ _ h2
    · rename_i o ho
      simp only [ho] at h2
      split
      · rename_i hw
        simp only [hw, if_true] at h2
        rcases h2 with h2 | h2
        · exact wpIn_of_wp_round (fun c => noDefer_spec hnd ho c) (Oper.wp_mono (fun a w ha => wpAnyIn_of_round hnd hLO fuel _ a w ha) h2)
        · exact absurd h2.2 hLO
      · rename_i hw
        simp only [hw] at h2
        exact ⟨fun _ _ => trivial, wpAnyIn_of_round hnd hLO fuel _ _ _ h2⟩⟩
theorem region_round {l n id : Nat} {P : Program} {ops : Array Oper} {Q : Exit → Act → World → Prop} {a : Act} {w : World} (S : World → Prop) (hm : P.follows .mixedOrders = true) (hnd : noDefer ops = true) (hLO : ¬ LetsOut Q)
    (hS : S w.drew) (h : S w.drew → wpAnyH P .any ops Q S ops.size (Array.replicate ops.size false) a w.drew) : (Code.region id ops true).wpIn (Fence.wide.inRound l) n P Q a w :=
  wpIn_region_any hm (wpAnyIn_of_round hnd hLO _ _ _ _ (wpAny_of_held _ _ _ _ (h hS)))
end
section
open Go.RowKit Go.Shelf
attribute [local go_sem] Oper.semAt_some
/-- the last k places, from above -/
def Downto {n : Nat} (pre : List (Fin n)) (k : Nat) : Prop := pre.length = k ∧ ∀ i (h : i < pre.length), (pre[i]).val + i + 1 = n
theorem Downto.nil {n : Nat} : Downto ([] : List (Fin n)) 0 := ⟨rfl, fun i h => by simp at h⟩
theorem Downto.snoc {n k : Nat} {pre : List (Fin n)} (h : Downto pre k) (x : Fin n) (hx : x.val + k + 1 = n) : Downto (pre ++ [x]) (k + 1) := by
  obtain ⟨h1, h2⟩ := h
  refine ⟨by simp [h1], fun i hi => ?_⟩
  by_cases hlt : i < pre.length
  · rw [List.getElem_append_left hlt]; exact h2 i hlt
  · have : i = k := by simp at hi; omega
    subst this
    rw [List.getElem_append_right (by omega)]
    simp [h1, hx]
set_option maxRecDepth 100000 in
set_option maxHeartbeats 2000000 in
theorem back1_in (n l Bs n₀ : Nat) (ad : Option Addr) (xs : List Int) (cap : Nat) (hm : xs.length ≤ 35184372088832) (hBn : Bs < n₀) (hb : xs ≠ [] → ∀ a, ad = some a → a.block < n₀) (J Jx : List (Fin xs.length) → World → Prop)
    (hY : ∀ pre x W, J pre W → pre.length < xs.length → YieldAt Fence.wide (n - 1) Tryz.prog l (limbAt xs x) W fun e W' =>
      (e = .returned (.bool true) ∧ J (pre ++ [x]) W' ∧ Below n₀ W W') ∨ (e = .returned (.bool false) ∧ Jx (pre ++ [x]) W'))
    (W : World) (hBs : W.cell? ⟨Bs, 0, none⟩ = some (.slice ad xs.length cap)) (hl : Lim W ad xs) (h0 : J [] W) :
    CallsIn Fence.wide n Tryz.prog 163 #[.func (.yield l) #[] #[], .pointer (some ⟨Bs, 0, none⟩)] W fun e W' => (∃ v, e = .returned v) ∧
      ((∃ ys, Downto ys xs.length ∧ J ys W') ∨ (∃ pre, (∃ k, k ≤ xs.length ∧ Downto pre k) ∧ Jx pre W')) := by
  refine callsIn_of_wp Tryz.func163 rfl trivial ?_ rfl
  simp only [Tryz.ntmps163, List.size_toArray, List.length_cons, List.length_nil, Nat.reduceAdd, Nat.reduceSub, Array.replicate_succ, Array.replicate_zero, List.push_toArray, List.append_toArray, List.nil_append, List.cons_append]
  gi_wp2_with fail
  gi_loopw [3] (fun i wr => ∃ (k : Nat) (pre : List (Fin xs.length)), k ≤ xs.length ∧ i = .int .i64 ((xs.length : Int) - 1 - k) ∧ Downto pre k ∧ J pre wr ∧ Below n₀ W wr)
    (fun i _ => (intOf i + 1).toNat)
  case atStart => exact ⟨0, [], Nat.zero_le _, by simp, Downto.nil, h0, Below.refl _ _⟩
  case round =>
    obtain ⟨k, pre, hk, rfl, hdn, hJs, hnx⟩ := hrel
    have hBr := (hnx.cell (p := ⟨Bs, 0, none⟩) hBn).trans hBs
    by_cases hlt : k < xs.length
    · rcases hl with rfl | ⟨b, off, rfl, hc⟩
      · simp at hlt
      · obtain ⟨j, hj⟩ : ∃ j, j + k + 1 = xs.length := ⟨xs.length - k - 1, by omega⟩
        have hji : ((xs.length : Int) - 1 - k) = (j : Int) := by omega
        rw [hji]
        have hjl : j < xs.length := by omega
        obtain ⟨fn, tmps, assign, body, hy, hR⟩ := hY pre ⟨j, hjl⟩ wr hJs (by rw [hdn.1]; exact hlt)
        simp only [limbAt] at hy
        have hcx := (hnx.cell (p := ⟨b, off + j, none⟩) (hb (by rintro rfl; simp at hlt) ⟨b, off, none⟩ rfl)).trans (hc j (by omega))
        have ej : xs[j]?.getD 0 = xs[j] := by simp [hjl]
        rw [ej] at hy
        have HJ := Lib.hid hj
        clear hc hj hji ej
        gi_wp2
        refine ⟨(fun h => by cases h), hR.mono ?_⟩
        rintro e W3 (⟨rfl, hJ3, hk3⟩ | ⟨rfl, hJx3⟩)
        · gi_wp2
          go_roundw
          case rel => exact ⟨k + 1, _, by omega, by have := HJ.out; congr 1; omega, hdn.snoc ⟨j, hjl⟩ HJ.out, hJ3, hnx.trans hk3⟩
          case measure => simp [intOf]
        · gi_wp2
          refine bodyPost_ret (results_none rfl _ _ _) rfl ?_
          exact ⟨⟨_, rfl⟩, .inr ⟨_, ⟨k + 1, by omega, hdn.snoc ⟨j, hjl⟩ HJ.out⟩, hJx3⟩⟩
    · obtain rfl : k = xs.length := by omega
      have hji : ((xs.length : Int) - 1 - xs.length) = -1 := by omega
      rw [hji]
      clear hji
      gi_wp2
      go_end0
      exact ⟨⟨_, rfl⟩, .inl ⟨_, hdn, hJs⟩⟩
theorem back_any (ad : Option Addr) (n cap : Nat) (w : World) :
    Calls Tryz.prog 148 #[.slice ad n cap] w fun e w' => e = .returned (.func (.func 163) #[] #[.pointer (some ⟨w.heap.size, 0, none⟩)]) ∧ w' = w.alloc (.cells #[.slice ad n cap] 56) := by
  go_enter Tryz.func148, Tryz.ntmps148
  go_wp2
  go_ret
  exact ⟨rfl, rfl⟩
theorem back_stops (n Bs n₀ : Nat) (ad : Option Addr) (xs : List Int) (cap : Nat) (hm : xs.length ≤ 35184372088832) (hBn : Bs < n₀) (hb : xs ≠ [] → ∀ a, ad = some a → a.block < n₀) (w : World) (hBs : Bs < w.heap.size)
    (hc : w.cell? ⟨Bs, 0, none⟩ = some (.slice ad xs.length cap)) (hl : Lim w ad xs) :
    SeqStopsK Fence.wide n Tryz.prog 163 #[.pointer (some ⟨Bs, 0, none⟩)] (limbAt xs (n := xs.length)) (Below n₀) (fun ys => Downto ys xs.length) (fun pre => ∃ k, k ≤ xs.length ∧ Downto pre k) xs.length w := fun l J Jx W hW _ _ hY h0 =>
  back1_in n l Bs n₀ ad xs cap hm hBn hb J Jx hY W ((hW.cell (p := ⟨Bs, 0, none⟩) hBs).trans hc) (hl.later hW) h0
end
section
open Go.RowKit Go.Shelf
attribute [local go_sem] Oper.semAt_some
/-- what Cmp comes to, of numbers without zeros at the end -/
def CmpT (us vs : List Int) (r : Int) : Prop :=
  (us.length ≠ vs.length ∧ r = sign us.length vs.length) ∨
  (us.length = vs.length ∧ (∀ i, i < us.length → us[i]?.getD 0 = vs[i]?.getD 0) ∧ r = 0) ∨
  (us.length = vs.length ∧ ∃ i, i < us.length ∧ us[i]?.getD 0 ≠ vs[i]?.getD 0 ∧ (∀ j, i < j → j < us.length → us[j]?.getD 0 = vs[j]?.getD 0) ∧ r = sign (us[i]?.getD 0) (vs[i]?.getD 0))
set_option maxRecDepth 100000 in
set_option maxHeartbeats 2000000 in
theorem cmp_any (a b : Option Addr) (xs ys : List Int) (capa capb : Nat) (w : World) (hla : Lim w a xs) (hlb : Lim w b ys) (hma : xs.length ≤ 35184372088832) (hmb : ys.length ≤ 35184372088832)
    (hca : xs.length ≤ capa) (hcb : ys.length ≤ capb) :
    Calls Tryz.prog 126 #[.slice a xs.length capa, .slice b ys.length capb] w fun e w' => ∃ r, e = .returned (.int .i64 r) ∧ CmpT (trim xs) (trim ys) r ∧ Below w.heap.size w w' := by
  have hta := trim_le xs
  have htb := trim_le ys
  obtain ⟨n, hn⟩ : ∃ n : Nat, Hid (3 ≤ n) := ⟨3, Nat.le_refl 3⟩
  refine (callsIn_wide (n := n)).1 ?_
  refine callsIn_of_wp_marks Tryz.func126 rfl trivial ?_ rfl
  simp only [Tryz.ntmps126, List.size_toArray, List.length_cons, List.length_nil, Nat.reduceAdd, Nat.reduceSub, Array.replicate_succ, Array.replicate_zero, List.push_toArray, List.append_toArray, List.nil_append, List.cons_append]
  gi_wp2_with fail
  have bB := (Boxed.new w 56 (.slice b ys.length capb)).alloc (Obj.cells #[Value.int IntKind.i64 0] 3)
  have bR := Boxed.new (w.alloc (.cells #[.slice b ys.length capb] 56)) 3 (.int .i64 0)
  have hB0 : Below w.heap.size w ((w.alloc (.cells #[.slice b ys.length capb] 56)).alloc (Obj.cells #[Value.int IntKind.i64 0] 3)) := ((Below.refl _ w).alloc (Nat.le_refl _) _).alloc (by simp) _
  rw [World.size_alloc] at bR
  generalize (w.alloc (.cells #[.slice b ys.length capb] 56)).alloc (Obj.cells #[Value.int IntKind.i64 0] 3) = W at *
  have hcB := bB.cell
  have hfB := bB.frozen
  have hla' : Lim W.drew a xs := hla.later hB0.drew
  have hlb' : Lim W.drew b ys := hlb.later hB0.drew
  refine wpIn_wide.2 ?_
  go_still_tail 5, (by kernel_rfl)
  still_call (cut_still a xs capa _ hla' hma hca)
  repeat still_step
  still_call (cut_still b ys capb _ hlb' hmb hcb)
  repeat still_step
  refine wpStill_nil ?_
  have hlu : Lim w a (trim xs) := hla.take _
  have hlv : Lim w b (trim ys) := hlb.take _
  rw [← trim_length xs, ← trim_length ys]
  have hlen1 : (trim xs).length ≤ 35184372088832 := by rw [trim_length]; omega
  have hlen2 : (trim ys).length ≤ 35184372088832 := by rw [trim_length]; omega
  clear hla hlb hla' hlb' hta htb
  obtain ⟨us, hus⟩ : ∃ us, trim xs = us := ⟨_, rfl⟩
  obtain ⟨vs, hvs⟩ : ∃ vs, trim ys = vs := ⟨_, rfl⟩
  rw [hus] at hlu hlen1 ⊢
  rw [hvs] at hlv hlen2 ⊢
  have HU := Lib.hid hus
  have HV := Lib.hid hvs
  clear hus hvs
  go_wp2_with fail
  have bB2 : Boxed (W.setCell ⟨w.heap.size, 0, none⟩ (.slice b vs.length capb)).drew w.heap.size 56 (.slice b vs.length capb) := bB.set _
  have bR1 : Boxed (W.setCell ⟨w.heap.size, 0, none⟩ (.slice b vs.length capb)) (w.heap.size + 1) 3 (.int .i64 0) := bR.kept (grownBy_setCell' W w.heap.size _) (by simp)
  have bR2 : Boxed (W.setCell ⟨w.heap.size, 0, none⟩ (.slice b vs.length capb)).drew (w.heap.size + 1) 3 (.int .i64 0) := bR1
  have hB2 : Below w.heap.size w (W.setCell ⟨w.heap.size, 0, none⟩ (.slice b vs.length capb)).drew := (hB0.setCell (p := ⟨w.heap.size, 0, none⟩) (Nat.le_refl _) _).drew
  have hlu2 := hlu.later hB2
  have hlv2 := hlv.later hB2
  clear bB bR bR1 hB0 hcB hfB hlu hlv
  generalize (W.setCell ⟨w.heap.size, 0, none⟩ (.slice b vs.length capb)).drew = V at *
  have hcB := bB2.cell
  have hcR := bR2.cell
  have hfR := bR2.frozen
  have hsz := hB2.size
  by_cases hne : us.length = vs.length
  · have hne2 : ((us.length : Int) != (vs.length : Int)) = false := by simp; omega
    have HE := Lib.hid hne
    clear hne
    have hbu : us ≠ [] → ∀ x, a = some x → x.block < V.heap.size + 1 := fun h x hx => Nat.lt_succ_of_lt (hlu2.lt h x hx)
    gi_wp2_with fail
    refine wideCall ((back_any _ _ _ _).mono ?_)
    rintro e w' ⟨rfl, rfl⟩
    gi_wp2_with fail
    have h3 : 3 ≤ n := hn
    have bN := Boxed.new V 56 (.slice a us.length capa)
    refine wpIn_rangeFunc_ownF rfl (by omega) (gf := 163) (lb := #[.pointer (some ⟨V.heap.size, 0, none⟩)]) rfl trivial (enters_of Tryz.func163 (by kernel_rfl) rfl)
      (back_stops (n - 1) V.heap.size (V.heap.size + 1) a us capa hlen1 (Nat.lt_succ_self _) hbu _ (by simp) bN.cell (hlu2.later ((Below.refl _ V).alloc (Nat.le_refl _) _))) belowK_t (belowK_b (by simp)) (Below.refl _ _) (fun _ => rfl)
      (fun (pre : List (Fin us.length)) X => (∀ x ∈ pre, us[x.val]?.getD 0 = vs[x.val]?.getD 0) ∧ Below (V.heap.size + 1) (V.alloc (.cells #[.slice a us.length capa] 56)) X)
      (fun c pre X => (c = .ret ∧ ∃ ini last, pre = ini ++ [last] ∧ (∀ x ∈ ini, us[x.val]?.getD 0 = vs[x.val]?.getD 0) ∧ us[last.val]?.getD 0 ≠ vs[last.val]?.getD 0 ∧ X.cell? ⟨w.heap.size + 1, 0, none⟩ = some (.int .i64 (sign (us[last.val]?.getD 0) (vs[last.val]?.getD 0)))) ∧ Below w.heap.size w X)
      (OwnFrom.and (Own.from (fun s A B row hs hg hr => hs) _) (ownFrom_below (by simp) (by simp)))
      (fun c => OwnFrom.and (Own.from (fun s A B row hs hg hr => by obtain ⟨hc, ini, last, e1, e2, e3, e4⟩ := hs; exact ⟨hc, ini, last, e1, e2, e3, cell_kept e4 hg hr⟩) _) (ownFrom_below (Nat.le_refl _) (by simp; omega)))
      ⟨by simp, Below.refl _ _⟩
      (fun (x : Fin us.length) => { tmps := #[.slice a us.length capa, .slice b ys.length capb, undef, .pointer (some ⟨w.heap.size, 0, none⟩), .pointer (some ⟨w.heap.size + 1, 0, none⟩), .int .i64 (x.val : Int), .int .u32 (us[x.val]?.getD 0),
        .slice a xs.length capa, .slice a us.length capa, .slice b ys.length capb, .slice b vs.length capb, .slice a us.length capa, .int .i64 us.length, .slice b vs.length capb, .int .i64 vs.length, .bool false, undef, undef, undef, undef, undef,
        .slice a us.length capa, .func (.func 163) #[] #[.pointer (some ⟨V.heap.size, 0, none⟩)], .int .i64 (x.val : Int), .int .u32 (us[x.val]?.getD 0), undef, undef, undef, undef, undef, undef, undef, undef, undef, undef, undef, undef], defers := [] }) ?assign ?body ?done ?stop
    case assign =>
      intro l x X K hK
      simp only [limbAt]
      rw [show us[x.val]?.getD 0 = us[x.val] by simp] at hK
      gi_wp2
      exact hK
    case body =>
      rintro l pre ⟨k, hk⟩ X ⟨hpre, hB⟩ hlt
      have hE := HE.out
      rcases hlv2 with rfl | ⟨bb, off, rfl, hcv⟩
      · simp only [List.length_nil] at hE; omega
      have cB := (hB.cell (p := ⟨w.heap.size, 0, none⟩) (show w.heap.size < V.heap.size + 1 by have := bB2.lt; omega)).trans (bB2.alloc (Obj.cells #[.slice a us.length capa] 56)).cell
      have cR : Boxed X (w.heap.size + 1) 3 (.int .i64 0) := (hB.block _ (by have := bR2.lt; omega)).trans (bR2.alloc (Obj.cells #[.slice a us.length capa] 56))
      have hvl : bb < V.heap.size := World.block_lt_of_cell? V _ (hcv k (by omega))
      have cV := (hB.cell (p := ⟨bb, off + k, none⟩) (Nat.lt_succ_of_lt hvl)).trans ((World.cell?_alloc_lt V (Obj.cells #[.slice a us.length capa] 56) ⟨bb, off + k, none⟩ hvl).trans (hcv k (by omega)))
      have hkv : k < vs.length := by omega
      have cR0 := cR.cell
      have cRf := cR.frozen
      have cR2 : ∀ r, (X.setCell ⟨w.heap.size + 1, 0, none⟩ r).cell? ⟨w.heap.size + 1, 0, none⟩ = some r := fun r => (cR.set r).cell
      have hBX : Below w.heap.size w X := ((hB2.alloc hsz _).trans (hB.mono (by omega)))
      obtain ⟨u, hu⟩ : ∃ u, us[k]?.getD 0 = u := ⟨_, rfl⟩
      obtain ⟨v, hv⟩ : ∃ v, vs.getD k 0 = v := ⟨_, rfl⟩
      rw [hv] at cV
      simp only [hu]
      have HU2 := Lib.hid hu
      have HV2 := Lib.hid hv
      clear hu hv hE hcv cR bB2 bR2 hB2 hlu2 hcB hcR hfR bN
      by_cases e : u = v
      · subst e
        have hne3 : (u != u) = false := by simp
        gi_wp2_with fail
        refine ⟨KeepsOthers.refl _, Below.refl _ _, ?_, hB⟩
        intro y hy
        rcases List.mem_append.1 hy with hy | hy
        · exact hpre y hy
        · simp only [List.mem_singleton] at hy
          subst hy
          exact HU2.out.trans HV2.out.symm
      · have hne3 : (u != v) = true := by simp [e]
        gi_wp2_with fail
        refine roundCall ((cmpLimb_any _ _ _).mono ?_)
        rintro e w' ⟨rfl, rfl⟩
        gi_wp2_with fail
        have e1 : us[k]?.getD 0 = u := HU2.out
        have e2 : vs[k]?.getD 0 = v := HV2.out
        refine ⟨KeepsOthers.setCell _ _ _, ⟨rfl, pre, ⟨k, hk⟩, rfl, hpre, by rw [e1, e2]; exact e, ?_⟩, hBX.setCell (p := ⟨w.heap.size + 1, 0, none⟩) (Nat.le_succ _) _⟩
        rw [e1, e2]
        exact cR2 _
    case done =>
      rintro D ys' X hD hdn ⟨hall, hB⟩ hK
      rw [World.size_alloc] at hD
      have cR : Boxed X (w.heap.size + 1) 3 (.int .i64 0) := (hB.block _ (by have := bR2.lt; omega)).trans (bR2.alloc (Obj.cells #[.slice a us.length capa] 56))
      have cR0 := cR.cell
      have cRf := cR.frozen
      have hBX : Below w.heap.size w X := ((hB2.alloc hsz _).trans (hB.mono (by omega)))
      have hE := HE.out
      clear hcB hcR hfR bN hbu
      gi_wp2
      have hK' := (KeepsOthers.setCell X ⟨w.heap.size + 1, 0, none⟩ (.int .i64 0)).same D _ hK rfl
      refine ⟨by simp, .inl ⟨_, _, rfl, run_takeDeferred hK', ?_⟩⟩
      have hc5 := cell_kept ((cR.set (.int .i64 0)).cell) (grownBy_putObj' _ D (.deferred none)) (fun r e => by cases e; exact ⟨_, hK', rfl⟩)
      refine ⟨.int .i64 0, by simp [results, Tryz.f126, go_sem, hc5], 0, rfl, ?_, (hBX.setCell (p := ⟨w.heap.size + 1, 0, none⟩) (Nat.le_succ _) _).trans (belowK_b (w := w) (Nat.le_refl _) _ D _ _ (by omega) hK' rfl rfl)⟩
      rw [HU.out, HV.out]
      refine .inr (.inl ⟨hE, fun i hi => ?_, rfl⟩)
      obtain ⟨h1, h2⟩ := hdn
      have h3 := h2 (us.length - 1 - i) (by omega)
      have h4 := hall _ (List.getElem_mem (show us.length - 1 - i < ys'.length by omega))
      rw [show (ys'[us.length - 1 - i]'(by omega)).val = i from by omega] at h4
      exact h4
    case stop =>
      rintro D c pre X hD ⟨k, hk, hdn⟩ ⟨⟨rfl, ini, last, e1, e2, e3, hcr⟩, hB⟩ hK
      rw [World.size_alloc] at hD
      have hE := HE.out
      clear hcB hcR hfR bN hbu
      gi_wp2
      refine ⟨by simp, .inl ⟨_, _, rfl, run_takeDeferred hK, ?_⟩⟩
      have hc5 := cell_kept hcr (grownBy_putObj' _ D (.deferred none)) (fun r e => by cases e; exact ⟨_, hK, rfl⟩)
      refine ⟨.int .i64 (sign (us[last.val]?.getD 0) (vs[last.val]?.getD 0)), by simp [results, Tryz.f126, go_sem, hc5], _, rfl, ?_, hB.trans (belowK_b (w := w) (Nat.le_refl _) _ D _ _ (by omega) hK rfl rfl)⟩
      rw [HU.out, HV.out]
      refine .inr (.inr ⟨hE, last.val, last.isLt, e3, fun j hj1 hj2 => ?_, rfl⟩)
      obtain ⟨h1, h2⟩ := hdn
      subst e1
      have hl : (ini ++ [last]).length = ini.length + 1 := by simp
      have h3 := h2 ini.length (by omega)
      rw [List.getElem_append_right (by omega)] at h3
      simp only [Nat.sub_self, List.getElem_cons_zero] at h3
      have hj3 : us.length - 1 - j < ini.length := by omega
      have h4 := h2 (us.length - 1 - j) (by omega)
      rw [List.getElem_append_left hj3] at h4
      have h5 := e2 _ (List.getElem_mem hj3)
      rw [show (ini[us.length - 1 - j]).val = j from by omega] at h5
      exact h5
  · have hne2 : ((us.length : Int) != (vs.length : Int)) = true := by simp; omega
    gi_wp2_with fail
    refine wideCall ((cmpInt_any _ _ _).mono ?_)
    rintro e w' ⟨rfl, rfl⟩
    have hcr2 := (bR2.set (.int .i64 (sign us.length vs.length))).cell
    gi_wp2_with fail
    refine ⟨.int .i64 (sign us.length vs.length), by simp [results, Tryz.f126, go_sem, hcr2], _, rfl, ?_, hB2.setCell (p := ⟨w.heap.size + 1, 0, none⟩) (Nat.le_succ _) _⟩
    rw [HU.out, HV.out]
    exact .inl ⟨hne, rfl⟩
end
section
open Go.RowKit Go.Shelf
attribute [local go_sem] Oper.semAt_some
theorem blk_own {β : Type} (g : Nat) (f : β → List Int) : Own (fun s W => Blk W g (f s)) := fun s X Y row hs hg hrow =>
  hs.grown hg (fun e' => by obtain ⟨o, ho, hc⟩ := hrow g e'.symm; rw [show X.heap[g]? = _ from hs] at ho; cases ho; cases hc)
theorem Boxed.far {W : World} {B : Nat} {t : TypeId} {v : Value} (h : Boxed W B t v) {p : Addr} (hne : B ≠ p.block) (u : Value) : Boxed (W.setCell p u) B t v := (Below.heap_setCell _ _ _ _ hne).trans h
theorem Own.and2 {β : Type} {I J : β → World → Prop} (h : Own I) (k : Own J) : Own (fun s W => I s W ∧ J s W) := fun s X Y row hs hg hr => ⟨h s X Y row hs.1 hg hr, k s X Y row hs.2 hg hr⟩
end
section
open Go.RowKit Go.Shelf
attribute [local go_sem] Oper.semAt_some
theorem Wf.set {xs : List Int} (h : Wf xs) (k : Nat) {x : Int} (hx : 0 ≤ x ∧ x < 4294967296) : Wf (xs.set k x) := by
  intro y hy
  rcases List.mem_or_eq_of_mem_set hy with hy | rfl
  · exact h y hy
  · exact hx
theorem Below.grownBy {B : Nat} {a b : World} (h : Below B a b) (hB : a.heap.size ≤ B) (row : Option Nat) : a.grownBy b row := ⟨h.os, h.tape, h.output, h.size, fun k hk _ => h.block k (by omega)⟩
end
section
open Go.RowKit Go.Shelf
attribute [local go_sem] Oper.semAt_some
theorem trimN_last (xs : List Int) (n : Nat) (h : 0 < trimN xs n) : xs.getD (trimN xs n - 1) 0 ≠ 0 := by
  induction n with
  | zero => simp [trimN] at h
  | succ n ih =>
    unfold trimN at h ⊢
    split
    · rename_i hz; rw [if_pos hz] at h; exact ih h
    · rename_i hz; simpa using hz
theorem trim_full (xs : List Int) : trimN (trim xs) (trim xs).length = (trim xs).length := by
  rw [trim_length]
  have hl := trimN_last xs xs.length
  have hle := trim_le xs
  unfold trim
  generalize trimN xs xs.length = m at *
  cases m with
  | zero => rfl
  | succ j =>
    have h := hl (by omega)
    simp only [Nat.add_sub_cancel] at h
    unfold trimN
    rw [if_neg]
    simpa [List.getD, List.getElem?_take] using h
theorem Wf.zeros (n : Nat) : Wf (List.replicate n 0) := fun x hx => by rw [List.eq_of_mem_replicate hx]; omega
end
section
open Go.RowKit
theorem pow_pos' (k : Nat) : (0 : Int) < 4294967296 ^ k := Int.pow_pos (by omega)
theorem val_take_succ (xs : List Int) (k : Nat) : val (xs.take (k + 1)) = val (xs.take k) + 4294967296 ^ k * xs.getD k 0 := by
  by_cases h : k < xs.length
  · rw [List.take_succ_eq_append_getElem h, val_append, List.length_take, Nat.min_eq_left (by omega)]
    simp [val, h]
  · rw [List.take_of_length_le (by omega), List.take_of_length_le (by omega)]
    simp [List.getElem?_eq_none (Nat.le_of_not_lt h)]
theorem val_lt {xs : List Int} (h : Wf xs) : val xs < 4294967296 ^ xs.length := by
  induction xs with
  | nil => simp [val]
  | cons x xs ih =>
    have h1 := ih h.tail
    have h2 := h.head
    simp only [val, List.length_cons, Int.pow_succ]
    omega
theorem val_trimN (xs : List Int) (n : Nat) : val (xs.take (trimN xs n)) = val (xs.take n) := by
  induction n with
  | zero => rfl
  | succ n ih =>
    unfold trimN
    split
    · rename_i hz
      rw [val_take_succ, hz, ih]
      simp
    · rfl
theorem val_trim (xs : List Int) : val (trim xs) = val xs := by
  unfold trim
  rw [val_trimN, List.take_length]
theorem getD_ge_trimN (xs : List Int) (n k : Nat) (h1 : trimN xs n ≤ k) (h2 : k < n) : xs.getD k 0 = 0 := by
  induction n with
  | zero => omega
  | succ n ih =>
    unfold trimN at h1
    split at h1
    · rename_i hz
      by_cases e : k = n
      · rw [e]; exact hz
      · exact ih h1 (by omega)
    · omega
theorem val_take_ge (xs : List Int) (k : Nat) (h : trimN xs xs.length ≤ k) : val (xs.take k) = val xs := by
  induction k with
  | zero =>
    have h0 : trimN xs xs.length = 0 := by omega
    rw [← val_trim xs]
    unfold trim
    rw [h0]
  | succ k ih =>
    by_cases hk : trimN xs xs.length ≤ k
    · rw [val_take_succ, ih hk]
      by_cases hl : k < xs.length
      · rw [getD_ge_trimN xs xs.length k hk hl]; simp
      · simp [List.getElem?_eq_none (Nat.le_of_not_lt hl)]
    · have e : trimN xs xs.length = k + 1 := by omega
      rw [← e]
      exact val_trim xs
/-- numbers are told in one way -/
theorem getD_eq_of_val {us vs : List Int} (hu : Wf us) (hv : Wf vs) (h : val us = val vs) : ∀ k, us.getD k 0 = vs.getD k 0 := by
  induction us generalizing vs with
  | nil =>
    induction vs with
    | nil => intro k; rfl
    | cons y ys ih =>
      have h1 := hv.head
      have h2 := val_nonneg hv.tail
      simp only [val] at h
      have hy : y = 0 := by omega
      have hys : val [] = val ys := by simp only [val]; omega
      intro k
      cases k with
      | zero => simp [hy]
      | succ k => have := ih hv.tail hys k; simpa using this
  | cons x xs ih =>
    cases vs with
    | nil =>
      have h1 := hu.head
      have h2 := val_nonneg hu.tail
      simp only [val] at h
      have hx : x = 0 := by omega
      intro k
      cases k with
      | zero => simp [hx]
      | succ k => have := ih hu.tail Wf.nil (by simp only [val]; omega) k; simpa using this
    | cons y ys =>
      have h1 := hu.head
      have h2 := hv.head
      simp only [val] at h
      intro k
      cases k with
      | zero => simp; omega
      | succ k => have := ih hu.tail hv.tail (by omega) k; simpa using this
theorem canon {us vs : List Int} (hu : Wf us) (hv : Wf vs) (fu : trimN us us.length = us.length) (fv : trimN vs vs.length = vs.length) (h : val us = val vs) : us = vs := by
  have hd := getD_eq_of_val hu hv h
  have lu := trimN_last us us.length
  have lv := trimN_last vs vs.length
  rw [fu] at lu
  rw [fv] at lv
  have hl : us.length = vs.length := by
    rcases Nat.lt_trichotomy us.length vs.length with h1 | h1 | h1
    · exfalso
      refine lv (by omega) ?_
      rw [← hd]
      simp [List.getElem?_eq_none (show us.length ≤ vs.length - 1 by omega)]
    · exact h1
    · exfalso
      refine lu (by omega) ?_
      rw [hd]
      simp [List.getElem?_eq_none (show vs.length ≤ us.length - 1 by omega)]
  apply List.ext_getElem hl
  intro i h1 h2
  have := hd i
  simpa [h1, h2] using this
theorem mod_div (s : Int) : s % 4294967296 + 4294967296 * (s / 4294967296) = s := by omega
theorem val_addTo (xs ys : List Int) (k : Nat) : val (addTo xs ys k).1 + 4294967296 ^ k * (addTo xs ys k).2 = val (xs.take k) + val (ys.take k) := by
  induction k with
  | zero => simp [addTo, val]
  | succ k ih =>
    rw [val_take_succ, val_take_succ]
    simp only [addTo]
    rw [val_append, addTo_length]
    simp only [val, Int.pow_succ]
    have hm := mod_div ((addTo xs ys k).2 + xs.getD k 0 + ys.getD k 0)
    generalize (addTo xs ys k).2 = c at *
    generalize ((c + xs.getD k 0 + ys.getD k 0) % 4294967296) = r at *
    generalize ((c + xs.getD k 0 + ys.getD k 0) / 4294967296) = q at *
    generalize (4294967296 : Int) ^ k = P at *
    grind
theorem full_ge {us : List Int} (hu : Wf us) (f : trimN us us.length = us.length) (j : Nat) (hj : us.length = j + 1) : 4294967296 ^ j ≤ val us := by
  have h1 := trimN_last us us.length (by omega)
  rw [f, hj, Nat.add_sub_cancel] at h1
  have h2 := hu.getD j
  have h3 := val_take_succ us j
  rw [← hj, List.take_length] at h3
  have h4 := val_nonneg (hu.take j)
  have h5 : (4294967296 : Int) ^ j * 1 ≤ 4294967296 ^ j * us.getD j 0 := Int.mul_le_mul_of_nonneg_left (by omega) (Int.le_of_lt (pow_pos' j))
  omega
theorem len_lt {us vs : List Int} (hu : Wf us) (hv : Wf vs) (fv : trimN vs vs.length = vs.length) (h : us.length < vs.length) : val us < val vs := by
  obtain ⟨j, hj⟩ : ∃ j, vs.length = j + 1 := ⟨vs.length - 1, by omega⟩
  have h1 := full_ge hv fv j hj
  have h2 := val_lt hu
  have h3 : (4294967296 : Int) ^ us.length ≤ 4294967296 ^ j := by
    rw [show j = us.length + (j - us.length) from by omega, Int.pow_add]
    have h4 : (4294967296 : Int) ^ us.length * 1 ≤ 4294967296 ^ us.length * 4294967296 ^ (j - us.length) := Int.mul_le_mul_of_nonneg_left (by have := pow_pos' (j - us.length); omega) (Int.le_of_lt (pow_pos' _))
    omega
  omega
theorem take_above (us vs : List Int) (i : Nat) (n : Nat) (h : ∀ j, i < j → j < n → us.getD j 0 = vs.getD j 0) (k : Nat) (hk : i + 1 ≤ k) (hn : k ≤ n) :
    val (us.take k) - val (vs.take k) = val (us.take (i + 1)) - val (vs.take (i + 1)) := by
  induction k with
  | zero => omega
  | succ k ih =>
    by_cases e : k = i
    · subst e; rfl
    · rw [val_take_succ us k, val_take_succ vs k, h k (by omega) (by omega)]
      have := ih (by omega) (by omega)
      omega
theorem top_lt {us vs : List Int} (hu : Wf us) (hv : Wf vs) (i : Nat) (h : us.getD i 0 < vs.getD i 0) : val (us.take (i + 1)) < val (vs.take (i + 1)) := by
  rw [val_take_succ, val_take_succ]
  have h1 := val_lt (hu.take i)
  have h2 := val_nonneg (hv.take i)
  have h3 : (4294967296 : Int) ^ (us.take i).length ≤ 4294967296 ^ i := by
    rw [List.length_take]
    rw [show i = min i us.length + (i - min i us.length) from by omega, Int.pow_add]
    rw [show min (min i us.length + (i - min i us.length)) us.length = min i us.length from by omega]
    have h4 : (4294967296 : Int) ^ min i us.length * 1 ≤ 4294967296 ^ min i us.length * 4294967296 ^ (i - min i us.length) := Int.mul_le_mul_of_nonneg_left (by have := pow_pos' (i - min i us.length); omega) (Int.le_of_lt (pow_pos' _))
    omega
  have h5 : (4294967296 : Int) ^ i * (us.getD i 0 + 1) ≤ 4294967296 ^ i * vs.getD i 0 := Int.mul_le_mul_of_nonneg_left (by omega) (Int.le_of_lt (pow_pos' i))
  rw [Int.mul_add, Int.mul_one] at h5
  omega
theorem sign_lt {a b : Int} (h : a < b) : sign a b = -1 := if_pos h
theorem sign_gt {a b : Int} (h : b < a) : sign a b = 1 := by unfold sign; rw [if_neg (by omega), if_pos h]
theorem sign_self (a : Int) : sign a a = 0 := by unfold sign; rw [if_neg (by omega), if_neg (by omega)]
theorem cmp_val {us vs : List Int} {r : Int} (hu : Wf us) (hv : Wf vs) (fu : trimN us us.length = us.length) (fv : trimN vs vs.length = vs.length) (h : CmpT us vs r) :
    r = sign (val us) (val vs) ∧ (0 ≤ r → vs.length ≤ us.length) := by
  rcases h with ⟨hne, rfl⟩ | ⟨hl, he, rfl⟩ | ⟨hl, i, hi, hne, ha, rfl⟩
  · rcases Nat.lt_or_gt_of_ne hne with h1 | h1
    · rw [sign_lt (show ((us.length : Int) < vs.length) by omega), sign_lt (len_lt hu hv fv h1)]
      exact ⟨rfl, fun h => by omega⟩
    · rw [sign_gt (show ((vs.length : Int) < us.length) by omega), sign_gt (len_lt hv hu fu h1)]
      exact ⟨rfl, fun _ => by omega⟩
  · have e : us = vs := by
      apply List.ext_getElem hl
      intro j h1 h2
      have := he j h1
      simpa [h1, h2] using this
    rw [e, sign_self]
    exact ⟨rfl, fun _ => Nat.le_refl _⟩
  · have h1 := take_above us vs i us.length ha us.length (by omega) (Nat.le_refl _)
    rw [List.take_length] at h1
    rw [hl, List.take_length] at h1
    refine ⟨?_, fun _ => by omega⟩
    have hne' : us.getD i 0 ≠ vs.getD i 0 := hne
    rcases Int.lt_or_gt_of_ne hne' with h2 | h2
    · have h3 := top_lt hu hv i h2
      rw [sign_lt (show val us < val vs by omega)]
      exact sign_lt h2
    · have h3 := top_lt hv hu i h2
      rw [sign_gt (show val vs < val us by omega)]
      exact sign_gt h2
end
section
open Go.RowKit
theorem Blk.lit (w : World) (zs : List Int) : Blk (w.alloc (.cells (zs.map (Value.int .u32)).toArray 63)) w.heap.size zs := heap_alloc_new w _
theorem Blk.lim {w : World} {g : Nat} {zs : List Int} (h : Blk w g zs) : Lim w (some ⟨g, 0, none⟩) zs := .inr ⟨g, 0, rfl, fun i hi => by rw [Nat.zero_add]; exact h.cell i hi⟩
/-- a result: the number n, told in its one way -/
structure Res (base : Nat) (w : World) (u : Value) (zs : List Int) (n : Int) : Prop where
  num : Num base w u zs
  wf : Wf zs
  full : trimN zs zs.length = zs.length
  eq : val zs = n
theorem Res.later {base : Nat} {w w' : World} {u : Value} {zs : List Int} {n : Int} (h : Res base w u zs n) (hb : Below w.heap.size w w') : Res base w' u zs n := ⟨h.num.later hb, h.wf, h.full, h.eq⟩
theorem Res.unique {base base' : Nat} {w w' : World} {u u' : Value} {zs zs' : List Int} {n : Int} (h : Res base w u zs n) (h' : Res base' w' u' zs' n) : zs = zs' :=
  canon h.wf h'.wf h.full h'.full (h.eq.trans h'.eq.symm)
/-- an argument: the limbs xs -/
structure Arg (w : World) (u : Value) (xs : List Int) (ad : Option Addr) (cap : Nat) : Prop where
  is : u = .slice ad xs.length cap
  lim : Lim w ad xs
  le : xs.length ≤ cap
  wf : Wf xs
theorem Arg.later {w w' : World} {u : Value} {xs : List Int} {ad : Option Addr} {cap : Nat} (h : Arg w u xs ad cap) (hb : Below w.heap.size w w') : Arg w' u xs ad cap := ⟨h.is, h.lim.later hb, h.le, h.wf⟩
theorem Res.arg {base : Nat} {w : World} {u : Value} {zs : List Int} {n : Int} (h : Res base w u zs n) : ∃ ad cap, Arg w u zs ad cap := by
  obtain ⟨ad, cap, h1, h2, h3, _, _⟩ := h.num.read
  exact ⟨ad, cap, h1, h2, h3, h.wf⟩
theorem wf1 {x : Int} (h : 0 ≤ x ∧ x < 4294967296) : Wf [x] := Wf.cons h Wf.nil
theorem wf2 {x y : Int} (h : 0 ≤ x ∧ x < 4294967296) (k : 0 ≤ y ∧ y < 4294967296) : Wf [x, y] := Wf.cons h (wf1 k)
theorem trim_len_le (xs : List Int) : (trim xs).length ≤ xs.length := by rw [trim_length]; exact trim_le xs
theorem trim_res {u : Value} {xs : List Int} {a : Option Addr} {capa : Nat} {w : World} (h1 : Arg w u xs a capa) (hx : xs.length ≤ 35184372088832) :
    Calls Tryz.prog 138 #[u] w fun e w' => ∃ r zs, e = .returned r ∧ Res w.heap.size w' r zs (val xs) ∧ zs.length ≤ xs.length ∧ Below w.heap.size w w' := by
  rw [h1.is]
  exact (trim_any a xs capa w h1.lim hx h1.le).mono fun e w' ⟨r, he, hn, hb⟩ => ⟨r, _, he, ⟨hn, h1.wf.trim, trim_full _, val_trim xs⟩, trim_len_le xs, hb⟩
end
section
open Go.RowKit Go.ChangeShapes Go.WideShapes Go.ChangeAt
theorem own : ownKnob Tryz.prog.godebug = none := by kernel_rfl
theorem laid : laidOutB Tryz.prog = true := by kernel_rfl
theorem cellsLimb : Tryz.prog.cellsOf 63 = 1 := by kernel_rfl
theorem bulk_pos {H : Type} (d : DataW H) : 1 ≤ Rows.uptoBulk d := by
  cases d with
  | lit l => cases l <;> simp [Rows.uptoBulk]
  | _ => simp [Rows.uptoBulk]
theorem bulk_len {H : Type} (l : List (DataW H)) : l.length ≤ Rows.uptoBulkAll l := by
  induction l with
  | nil => simp [Rows.uptoBulkAll]
  | cons x r ih => have := bulk_pos x; simp only [Rows.uptoBulkAll, List.length_cons]; omega
theorem bulk_slice {H : Type} (elems spare : List (DataW H)) : elems.length ≤ Rows.uptoBulk (.slice elems spare) := by
  have h1 := bulk_len elems
  simp only [Rows.uptoBulk]
  omega
theorem wf_limb {x : Int} (h : (Lit.int .u32 x).wf = true) : 0 ≤ x ∧ x < 4294967296 := by
  simp [Lit.wf, IntKind.min, IntKind.max, IntKind.signed, IntKind.bits] at h
  omega
end
section
open Go.RowKit
/-- the limbs xs lie from the address ad on -/
def LimI (w : World) (ad : Option Addr) (xs : List Int) : Prop :=
  xs = [] ∨ ∃ b off, ad = some ⟨b, off, none⟩ ∧ ∀ i, i < xs.length → w.cell? ⟨b, off + i, none⟩ = some (.int .i64 (xs.getD i 0))
theorem LimI.nil (w : World) (ad : Option Addr) : LimI w ad [] := .inl rfl
theorem LimI.below {w w' : World} {ad : Option Addr} {xs : List Int} {B : Nat} (h : LimI w ad xs) (hb : Below B w w') (hB : ∀ a, ad = some a → a.block < B) : LimI w' ad xs := by
  rcases h with rfl | ⟨b, off, rfl, hc⟩
  · exact .inl rfl
  · exact .inr ⟨b, off, rfl, fun i hi => (hb.cell (p := ⟨b, off + i, none⟩) (hB ⟨b, off, none⟩ rfl)).trans (hc i hi)⟩
theorem LimI.later {w w' : World} {ad : Option Addr} {xs : List Int} (h : LimI w ad xs) (hb : Below w.heap.size w w') : LimI w' ad xs := by
  rcases h with rfl | ⟨b, off, rfl, hc⟩
  · exact .inl rfl
  · refine .inr ⟨b, off, rfl, fun i hi => ?_⟩
    have hlt := World.block_lt_of_cell? w _ (hc i hi)
    exact (hb.cell (p := ⟨b, off + i, none⟩) hlt).trans (hc i hi)
theorem LimI.take {w : World} {ad : Option Addr} {xs : List Int} (h : LimI w ad xs) (n : Nat) : LimI w ad (xs.take n) := by
  rcases h with rfl | ⟨b, off, rfl, hc⟩
  · exact .inl (by simp)
  · refine .inr ⟨b, off, rfl, fun i hi => ?_⟩
    rw [List.length_take] at hi
    rw [hc i (by omega)]
    simp [show i < n by omega]
theorem LimI.lt {w : World} {ad : Option Addr} {xs : List Int} (h : LimI w ad xs) (hn : xs ≠ []) : ∀ a, ad = some a → a.block < w.heap.size := by
  rcases h with rfl | ⟨b, off, rfl, hc⟩
  · exact absurd rfl hn
  · intro a ha
    cases ha
    exact World.block_lt_of_cell? w _ (hc 0 (List.length_pos_iff.2 hn))
/-- v is a slice of the call's own limbs xs -/
def NumI (base : Nat) (w : World) (v : Value) (xs : List Int) : Prop := w.ownsRow base 3 1 v xs.length (xs.map (Value.int .i64))
theorem NumI.read {base : Nat} {w : World} {v : Value} {xs : List Int} (h : NumI base w v xs) : ∃ ad cap, v = .slice ad xs.length cap ∧ LimI w ad xs ∧ xs.length ≤ cap ∧ cap ≤ maxLen ∧ (∀ a, ad = some a → base ≤ a.block ∧ a.block < w.heap.size) := by
  obtain ⟨h1, h2⟩ := h
  rcases h2 with ⟨rfl, hn⟩ | ⟨g, cap, cur, rfl, hb, hg, hc, hm, hs, ht⟩
  · obtain rfl := List.eq_nil_of_length_eq_zero hn
    exact ⟨none, 0, rfl, .inl rfl, Nat.le_refl _, by unfold maxLen; omega, fun a ha => by cases ha⟩
  · refine ⟨_, cap, rfl, .inr ⟨g, 0, rfl, fun i hi => ?_⟩, hc, hm, fun a ha => by cases ha; exact ⟨hb, lt_of_block hg⟩⟩
    have hj := World.ownsRow.cellAt (w := w) (base := base) (e := 3) (size := 1) (g := g) (n := xs.length) (cap := cap) (xs := xs.map (Value.int .i64)) ⟨h1, .inr ⟨g, cap, cur, rfl, hb, hg, hc, hm, hs, ht⟩⟩ i (by omega)
    rw [Nat.zero_add, hj]
    simp [hi]
theorem NumI.cut {base : Nat} {w : World} {ad : Option Addr} {xs : List Int} {n cap : Nat} (h : NumI base w (.slice ad n cap) xs) : NumI base w (.slice ad (trimN xs xs.length) cap) (trim xs) := by
  have hl := trim_le xs
  unfold NumI at *
  rw [trim_length]
  obtain ⟨h1, h2⟩ := h
  rcases h2 with ⟨hv, hn⟩ | ⟨g, cap', cur, hv, hb, hg, hc, hm, hs, ht⟩
  · obtain rfl := List.eq_nil_of_length_eq_zero hn
    cases hv
    exact ⟨rfl, .inl ⟨rfl, rfl⟩⟩
  · cases hv
    refine ⟨by rw [List.length_map, trim_length, Nat.mul_one], .inr ⟨g, cap, cur, rfl, hb, hg, by omega, hm, hs, ?_⟩⟩
    unfold trim
    rw [List.map_take, ← ht, List.take_take]
    congr 1
    omega
theorem NumI.lt {base : Nat} {w : World} {v : Value} {xs : List Int} (h : NumI base w v xs) : ∀ k, v.ownBlock = some k → base ≤ k ∧ k < w.heap.size := World.ownsRow.lt h
theorem NumI.kept {base B : Nat} {w w' : World} {v : Value} {xs : List Int} (h : NumI base w v xs) (hb : Below B w w') (hB : ∀ k, v.ownBlock = some k → k < B) : NumI base w' v xs := by
  obtain ⟨h1, h2⟩ := h
  refine ⟨h1, ?_⟩
  rcases h2 with h2 | ⟨g, cap, cur, rfl, hg0, hg, hc, hm, hs, ht⟩
  · exact .inl h2
  · exact .inr ⟨g, cap, cur, rfl, hg0, (hb.block g (hB g rfl)).trans hg, hc, hm, hs, ht⟩
theorem NumI.later {base : Nat} {w w' : World} {v : Value} {xs : List Int} (h : NumI base w v xs) (hb : Below w.heap.size w w') : NumI base w' v xs := h.kept hb fun k hk => (h.lt k hk).2
theorem NumI.mono {base base' : Nat} {w : World} {v : Value} {xs : List Int} (h : NumI base w v xs) (hb : base' ≤ base) : NumI base' w v xs := by
  obtain ⟨h1, h2⟩ := h
  refine ⟨h1, ?_⟩
  rcases h2 with h2 | ⟨g, cap, cur, rfl, hg0, hg, hc, hm, hs, ht⟩
  · exact .inl h2
  · exact .inr ⟨g, cap, cur, rfl, Nat.le_trans hb hg0, hg, hc, hm, hs, ht⟩
/-- all are digits -/
def WfD (xs : List Int) : Prop := ∀ x ∈ xs, 0 ≤ x ∧ x < 10000
end
section
open Go.RowKit
theorem WfD.nil : WfD [] := by intro x h; cases h
theorem WfD.cons {x : Int} {xs : List Int} (h : 0 ≤ x ∧ x < 10000) (hs : WfD xs) : WfD (x :: xs) := by
  intro y hy
  rcases List.mem_cons.1 hy with rfl | hy
  · exact h
  · exact hs y hy
theorem WfD.tail {x : Int} {xs : List Int} (h : WfD (x :: xs)) : WfD xs := fun y hy => h y (List.mem_cons_of_mem _ hy)
theorem WfD.head {x : Int} {xs : List Int} (h : WfD (x :: xs)) : 0 ≤ x ∧ x < 10000 := h x List.mem_cons_self
theorem WfD.append {xs ys : List Int} (h : WfD xs) (k : WfD ys) : WfD (xs ++ ys) := by
  intro x hx
  rcases List.mem_append.1 hx with hx | hx
  · exact h x hx
  · exact k x hx
theorem WfD.take {xs : List Int} (h : WfD xs) (n : Nat) : WfD (xs.take n) := fun x hx => h x (List.mem_of_mem_take hx)
theorem WfD.drop {xs : List Int} (h : WfD xs) (n : Nat) : WfD (xs.drop n) := fun x hx => h x (List.mem_of_mem_drop hx)
theorem WfD.getD {xs : List Int} (h : WfD xs) (i : Nat) : 0 ≤ xs.getD i 0 ∧ xs.getD i 0 < 10000 := by
  by_cases hi : i < xs.length
  · have : xs.getD i 0 = xs[i] := by simp [List.getD, hi]
    rw [this]
    exact h _ (List.getElem_mem hi)
  · have : xs.getD i 0 = 0 := by simp [List.getD, List.getElem?_eq_none (Nat.le_of_not_lt hi)]
    rw [this]; omega
theorem WfD.trim {xs : List Int} (h : WfD xs) : WfD (trim xs) := h.take _
/-- the number that limbs stand for -/
def valD : List Int → Int
  | [] => 0
  | x :: xs => x + 10000 * valD xs
theorem val_nonnegD {xs : List Int} (h : WfD xs) : 0 ≤ valD xs := by
  induction xs with
  | nil => simp [valD]
  | cons x xs ih => have := ih h.tail; have := h.head; simp only [valD]; omega
theorem val_appendD (xs ys : List Int) : valD (xs ++ ys) = valD xs + 10000 ^ xs.length * valD ys := by
  induction xs with
  | nil => simp [valD]
  | cons x xs ih => simp only [List.cons_append, valD, ih, List.length_cons, Int.pow_succ]; grind
theorem pow_posD (k : Nat) : (0 : Int) < 10000 ^ k := Int.pow_pos (by omega)
theorem val_take_succD (xs : List Int) (k : Nat) : valD (xs.take (k + 1)) = valD (xs.take k) + 10000 ^ k * xs.getD k 0 := by
  by_cases h : k < xs.length
  · rw [List.take_succ_eq_append_getElem h, val_appendD, List.length_take, Nat.min_eq_left (by omega)]
    simp [valD, h]
  · rw [List.take_of_length_le (by omega), List.take_of_length_le (by omega)]
    simp [List.getElem?_eq_none (Nat.le_of_not_lt h)]
theorem val_ltD {xs : List Int} (h : WfD xs) : valD xs < 10000 ^ xs.length := by
  induction xs with
  | nil => simp [valD]
  | cons x xs ih =>
    have h1 := ih h.tail
    have h2 := h.head
    simp only [valD, List.length_cons, Int.pow_succ]
    omega
theorem val_trimND (xs : List Int) (n : Nat) : valD (xs.take (trimN xs n)) = valD (xs.take n) := by
  induction n with
  | zero => rfl
  | succ n ih =>
    unfold trimN
    split
    · rename_i hz
      rw [val_take_succD, hz, ih]
      simp
    · rfl
theorem val_trimD (xs : List Int) : valD (trim xs) = valD xs := by
  unfold trim
  rw [val_trimND, List.take_length]
/-- numbers are told in one way -/
theorem getD_eq_of_valD {us vs : List Int} (hu : WfD us) (hv : WfD vs) (h : valD us = valD vs) : ∀ k, us.getD k 0 = vs.getD k 0 := by
  induction us generalizing vs with
  | nil =>
    induction vs with
    | nil => intro k; rfl
    | cons y ys ih =>
      have h1 := hv.head
      have h2 := val_nonnegD hv.tail
      simp only [valD] at h
      have hy : y = 0 := by omega
      have hys : valD [] = valD ys := by simp only [valD]; omega
      intro k
      cases k with
      | zero => simp [hy]
      | succ k => have := ih hv.tail hys k; simpa using this
  | cons x xs ih =>
    cases vs with
    | nil =>
      have h1 := hu.head
      have h2 := val_nonnegD hu.tail
      simp only [valD] at h
      have hx : x = 0 := by omega
      intro k
      cases k with
      | zero => simp [hx]
      | succ k => have := ih hu.tail WfD.nil (by simp only [valD]; omega) k; simpa using this
    | cons y ys =>
      have h1 := hu.head
      have h2 := hv.head
      simp only [valD] at h
      intro k
      cases k with
      | zero => simp; omega
      | succ k => have := ih hu.tail hv.tail (by omega) k; simpa using this
theorem canonD {us vs : List Int} (hu : WfD us) (hv : WfD vs) (fu : trimN us us.length = us.length) (fv : trimN vs vs.length = vs.length) (h : valD us = valD vs) : us = vs := by
  have hd := getD_eq_of_valD hu hv h
  have lu := trimN_last us us.length
  have lv := trimN_last vs vs.length
  rw [fu] at lu
  rw [fv] at lv
  have hl : us.length = vs.length := by
    rcases Nat.lt_trichotomy us.length vs.length with h1 | h1 | h1
    · exfalso
      refine lv (by omega) ?_
      rw [← hd]
      simp [List.getElem?_eq_none (show us.length ≤ vs.length - 1 by omega)]
    · exact h1
    · exfalso
      refine lu (by omega) ?_
      rw [hd]
      simp [List.getElem?_eq_none (show vs.length ≤ us.length - 1 by omega)]
  apply List.ext_getElem hl
  intro i h1 h2
  have := hd i
  simpa [h1, h2] using this
theorem full_geD {us : List Int} (hu : WfD us) (f : trimN us us.length = us.length) (j : Nat) (hj : us.length = j + 1) : 10000 ^ j ≤ valD us := by
  have h1 := trimN_last us us.length (by omega)
  rw [f, hj, Nat.add_sub_cancel] at h1
  have h2 := hu.getD j
  have h3 := val_take_succD us j
  rw [← hj, List.take_length] at h3
  have h4 := val_nonnegD (hu.take j)
  have h5 : (10000 : Int) ^ j * 1 ≤ 10000 ^ j * us.getD j 0 := Int.mul_le_mul_of_nonneg_left (by omega) (Int.le_of_lt (pow_posD j))
  omega
theorem len_ltD {us vs : List Int} (hu : WfD us) (hv : WfD vs) (fv : trimN vs vs.length = vs.length) (h : us.length < vs.length) : valD us < valD vs := by
  obtain ⟨j, hj⟩ : ∃ j, vs.length = j + 1 := ⟨vs.length - 1, by omega⟩
  have h1 := full_geD hv fv j hj
  have h2 := val_ltD hu
  have h3 : (10000 : Int) ^ us.length ≤ 10000 ^ j := by
    rw [show j = us.length + (j - us.length) from by omega, Int.pow_add]
    have h4 : (10000 : Int) ^ us.length * 1 ≤ 10000 ^ us.length * 10000 ^ (j - us.length) := Int.mul_le_mul_of_nonneg_left (by have := pow_posD (j - us.length); omega) (Int.le_of_lt (pow_posD _))
    omega
  omega
theorem take_aboveD (us vs : List Int) (i : Nat) (n : Nat) (h : ∀ j, i < j → j < n → us.getD j 0 = vs.getD j 0) (k : Nat) (hk : i + 1 ≤ k) (hn : k ≤ n) :
    valD (us.take k) - valD (vs.take k) = valD (us.take (i + 1)) - valD (vs.take (i + 1)) := by
  induction k with
  | zero => omega
  | succ k ih =>
    by_cases e : k = i
    · subst e; rfl
    · rw [val_take_succD us k, val_take_succD vs k, h k (by omega) (by omega)]
      have := ih (by omega) (by omega)
      omega
theorem top_ltD {us vs : List Int} (hu : WfD us) (hv : WfD vs) (i : Nat) (h : us.getD i 0 < vs.getD i 0) : valD (us.take (i + 1)) < valD (vs.take (i + 1)) := by
  rw [val_take_succD, val_take_succD]
  have h1 := val_ltD (hu.take i)
  have h2 := val_nonnegD (hv.take i)
  have h3 : (10000 : Int) ^ (us.take i).length ≤ 10000 ^ i := by
    rw [List.length_take]
    rw [show i = min i us.length + (i - min i us.length) from by omega, Int.pow_add]
    rw [show min (min i us.length + (i - min i us.length)) us.length = min i us.length from by omega]
    have h4 : (10000 : Int) ^ min i us.length * 1 ≤ 10000 ^ min i us.length * 10000 ^ (i - min i us.length) := Int.mul_le_mul_of_nonneg_left (by have := pow_posD (i - min i us.length); omega) (Int.le_of_lt (pow_posD _))
    omega
  have h5 : (10000 : Int) ^ i * (us.getD i 0 + 1) ≤ 10000 ^ i * vs.getD i 0 := Int.mul_le_mul_of_nonneg_left (by omega) (Int.le_of_lt (pow_posD i))
  rw [Int.mul_add, Int.mul_one] at h5
  omega
theorem cmp_valD {us vs : List Int} {r : Int} (hu : WfD us) (hv : WfD vs) (fu : trimN us us.length = us.length) (fv : trimN vs vs.length = vs.length) (h : CmpT us vs r) :
    r = sign (valD us) (valD vs) ∧ (0 ≤ r → vs.length ≤ us.length) := by
  rcases h with ⟨hne, rfl⟩ | ⟨hl, he, rfl⟩ | ⟨hl, i, hi, hne, ha, rfl⟩
  · rcases Nat.lt_or_gt_of_ne hne with h1 | h1
    · rw [sign_lt (show ((us.length : Int) < vs.length) by omega), sign_lt (len_ltD hu hv fv h1)]
      exact ⟨rfl, fun h => by omega⟩
    · rw [sign_gt (show ((vs.length : Int) < us.length) by omega), sign_gt (len_ltD hv hu fu h1)]
      exact ⟨rfl, fun _ => by omega⟩
  · have e : us = vs := by
      apply List.ext_getElem hl
      intro j h1 h2
      have := he j h1
      simpa [h1, h2] using this
    rw [e, sign_self]
    exact ⟨rfl, fun _ => Nat.le_refl _⟩
  · have h1 := take_aboveD us vs i us.length ha us.length (by omega) (Nat.le_refl _)
    rw [List.take_length] at h1
    rw [hl, List.take_length] at h1
    refine ⟨?_, fun _ => by omega⟩
    have hne' : us.getD i 0 ≠ vs.getD i 0 := hne
    rcases Int.lt_or_gt_of_ne hne' with h2 | h2
    · have h3 := top_ltD hu hv i h2
      rw [sign_lt (show valD us < valD vs by omega)]
      exact sign_lt h2
    · have h3 := top_ltD hv hu i h2
      rw [sign_gt (show valD vs < valD us by omega)]
      exact sign_gt h2
end
section
open Go.RowKit
theorem infoInt : (Tryz.prog.info? 3).map (fun i => (i.zero, i.size, i.bytes)) = some (some (.int .i64 0), 1, 8) := by kernel_rfl
set_option maxHeartbeats 400000 in
theorem digit_any (ad : Option Addr) (xs : List Int) (cap k : Nat) (x : Int) (w : World) (hl : LimI w ad xs) (hm : xs.length ≤ 1099511627776) (hx : xs.getD k 0 = x) :
    Calls Tryz.prog 133 #[.slice ad xs.length cap, .int .i64 k] w fun e w' => e = .returned (.int .i64 x) ∧ w = w' := by
  subst hx
  by_cases hk : k < xs.length
  · rcases hl with rfl | ⟨b, off, rfl, hc⟩
    · simp at hk
    · have hck := hc k hk
      clear hc
      go_enter Tryz.func133, Tryz.ntmps133
      go_wp2
      go_ret
      refine ⟨?_, rfl⟩
      simp [hk]
  · go_enter Tryz.func133, Tryz.ntmps133
    go_wp2
    go_ret
    refine ⟨?_, rfl⟩
    simp [List.getElem?_eq_none (Nat.le_of_not_lt hk)]
set_option maxHeartbeats 400000 in
theorem trimD_any (ad : Option Addr) (xs : List Int) (cap : Nat) (w : World) (hl : LimI w ad xs) (hm : xs.length ≤ 1099511627776) (hcap : xs.length ≤ cap) :
    Calls Tryz.prog 153 #[.slice ad xs.length cap] w fun e w' => e = .returned (.slice ad (trimN xs xs.length) cap) ∧ w = w' := by
  go_enter Tryz.func153, Tryz.ntmps153
  go_wp2
  go_loop [3] (fun n => ∃ j : Nat, j ≤ xs.length ∧ n = .int .i64 j ∧ trimN xs j = trimN xs xs.length) (fun n => (intOf n).toNat)
  case atStart => exact ⟨xs.length, Nat.le_refl _, rfl, rfl⟩
  case round =>
    obtain ⟨j, hj, rfl, ht⟩ := hrel
    have HT := Lib.hid ht
    clear ht
    rcases j with _ | m
    · have h0 : trimN xs xs.length = 0 := HT.out.symm
      go_wp2
      go_ret
      exact ⟨rfl, rfl⟩
    · rcases hl with rfl | ⟨b, off, rfl, hc⟩
      · simp at hj
      · have hck := hc m (by omega)
        clear hc
        go_wp2
        · have hz : xs.getD m 0 = 0 := by
            have h : (xs[m]?.getD 0 == 0) = true := by assumption
            simpa using h
          go_round
          case rel => exact ⟨m, by omega, by go_num, by rw [← HT.out]; simp only [trimN]; rw [if_pos hz]⟩
          case measure => simp [intOf]
        · have hz : xs.getD m 0 ≠ 0 := by
            have h : (xs[m]?.getD 0 == 0) = false := by assumption
            simpa using h
          have ht : trimN xs xs.length = m + 1 := by rw [← HT.out]; simp only [trimN]; rw [if_neg hz]
          go_ret
          exact ⟨by rw [ht]; simp, rfl⟩
theorem trimD_num {base : Nat} {v : Value} {xs : List Int} {w : World} (h : NumI base w v xs) (hm : xs.length ≤ 1099511627776) :
    Calls Tryz.prog 153 #[v] w fun e w' => ∃ u, e = .returned u ∧ NumI base w u (trim xs) ∧ w = w' := by
  obtain ⟨ad, cap, rfl, hl, hc, _, _⟩ := h.read
  exact (trimD_any ad xs cap w hl hm hc).mono fun e w' ⟨he, hw⟩ => ⟨_, he, h.cut, hw⟩
theorem push_num {base : Nat} {w wr w1 : World} {v v' : Value} {ds : List Int} {d : Int} {o : Obj} (hb : Below base w wr) (hbase : base ≤ wr.heap.size) (hown : NumI base wr v ds)
    (hown' : w1.ownsRow base 3 1 v' (ds.length + 1) (ds.map (Value.int .i64) ++ [Value.int .i64 d])) (hgrow : (wr.alloc o).grownBy w1 v.ownBlock) : NumI base w1 v' (ds ++ [d]) ∧ Below base w w1 := by
  refine ⟨?_, (hb.alloc hbase o).grown hgrow (by simp; omega) (fun k hk => (hown.lt k hk).1)⟩
  unfold NumI
  rw [List.length_append, List.map_append]
  exact hown'
theorem full_snoc (l : List Int) {x : Int} (h : x ≠ 0) : trimN (l ++ [x]) (l ++ [x]).length = (l ++ [x]).length := by
  rw [List.length_append]
  show trimN (l ++ [x]) (l.length + 1) = l.length + 1
  unfold trimN
  rw [if_neg]
  simpa using h
theorem valD_snoc (l : List Int) (x : Int) : valD (l ++ [x]) = valD l + 10000 ^ l.length * x := by
  rw [val_appendD]
  simp [valD]
theorem WfD.snoc {l : List Int} (h : WfD l) {x : Int} (hx : 0 ≤ x ∧ x < 10000) : WfD (l ++ [x]) := h.append (WfD.cons hx WfD.nil)
/-- how far Small has come -/
def SmallI (len : Nat) (m : Int) : Prop := (len = 0 ∧ m < 1000000000000) ∨ (len = 1 ∧ m < 100000000) ∨ (len = 2 ∧ m < 10000) ∨ (len = 3 ∧ m = 0)
/-- a result of the reference: the number n, told in its one way -/
structure ResD (base : Nat) (w : World) (u : Value) (zs : List Int) (n : Int) : Prop where
  num : NumI base w u zs
  wf : WfD zs
  full : trimN zs zs.length = zs.length
  eq : valD zs = n
theorem ResD.later {base : Nat} {w w' : World} {u : Value} {zs : List Int} {n : Int} (h : ResD base w u zs n) (hb : Below w.heap.size w w') : ResD base w' u zs n := ⟨h.num.later hb, h.wf, h.full, h.eq⟩
theorem ResD.unique {base base' : Nat} {w w' : World} {u u' : Value} {zs zs' : List Int} {n : Int} (h : ResD base w u zs n) (h' : ResD base' w' u' zs' n) : zs = zs' :=
  canonD h.wf h'.wf h.full h'.full (h.eq.trans h'.eq.symm)
set_option maxHeartbeats 1000000 in
theorem small_any (N : Int) (w : World) (hN : 0 ≤ N) (hN2 : N < 1000000000000) :
    Calls Tryz.prog 115 #[.int .i64 N] w fun e w' => ∃ u, e = .returned u ∧ ∃ zs, ResD w.heap.size w' u zs N ∧ zs.length ≤ 3 ∧ Below w.heap.size w w' := by
  obtain ⟨i0, hi, hz0, hz1, hz2⟩ := info_parts infoInt
  go_enter Tryz.func115, Tryz.ntmps115
  go_wp2
  go_loopw [0, 3] (fun n s wr => ∃ (m : Int) (ds : List Int) (v : Value), n = .int .i64 m ∧ v = s ∧ 0 ≤ m ∧ SmallI ds.length m ∧ NumI w.heap.size wr v ds ∧ WfD ds ∧ valD ds + 10000 ^ ds.length * m = N ∧ (m = 0 → trimN ds ds.length = ds.length) ∧ Below w.heap.size w wr) (fun n _ _ => (intOf n).toNat)
  case atStart => exact ⟨N, [], _, rfl, rfl, hN, .inl ⟨rfl, hN2⟩, World.ownsRow_nil _ _ _ _, WfD.nil, by simp [valD], fun _ => rfl, Below.refl _ _⟩
  case round =>
    obtain ⟨m, ds, v, rfl, rfl, hm, hs, hown, hwf, hval, hfull, hb⟩ := hrel
    have hsz := hb.size
    have HV := Lib.hid hval
    have HF := Lib.hid hfull
    have HS := Lib.hid hs
    have HO := Lib.hid hown
    have hrow : wr.ownsRow w.heap.size 3 1 v ds.length (ds.map (Value.int .i64)) := hown
    have hlen : ds.length ≤ 3 := by rcases hs with h | h | h | h <;> omega
    have hm2 : m < 1000000000000 := by rcases hs with h | h | h | h <;> omega
    clear hval hfull hs hown
    by_cases hpos : 0 < m
    · go_wp2_with (at_builtin; refine wpList_append_own _ rfl _ _ 73 rfl w.heap.size 3 i0 (.int .i64 0) 1 8 Tryz.underlying73 hi hz0 hz1 hz2 rfl (by decide) _ _ _ rfl (hrow.alloc _) ⟨wr.heap.size, 0, none⟩ 1 1 [.int .i64 (m % 10000)] rfl rfl (cell_one_new _ _ _) (by simp [Value.oneCell']) (by unfold maxLen; omega) (by omega) (by simp; omega) ?_; intro v' w1 hown' hgrow _)
      go_roundw
      case rel =>
        obtain ⟨hn, hbw⟩ := push_num hb hsz HO.out hown' hgrow
        refine ⟨m / 10000, ds ++ [m % 10000], v', rfl, rfl, by omega, ?_, hn, hwf.snoc (by omega), ?_, fun h0 => full_snoc ds (by omega), hbw⟩
        · rw [List.length_append, List.length_singleton]
          rcases HS.out with h | h | h | h
          · exact .inr (.inl ⟨by omega, by omega⟩)
          · exact .inr (.inr (.inl ⟨by omega, by omega⟩))
          · exact .inr (.inr (.inr ⟨by omega, by omega⟩))
          · omega
        · rw [valD_snoc, List.length_append, List.length_singleton, Int.pow_succ]
          have h1 := HV.out
          have h2 : m % 10000 + 10000 * (m / 10000) = m := by omega
          generalize m % 10000 = r at *
          generalize m / 10000 = q at *
          generalize (10000 : Int) ^ ds.length = P at *
          grind
      case measure => simp [intOf]; omega
    · have h0 : m = 0 := by omega
      subst h0
      go_wp2
      go_ret
      exact ⟨_, rfl, ds, ⟨HO.out, hwf, (by have h := HF.out; simpa using h), by have := HV.out; simpa using this⟩, hlen, hb⟩
end
section
open Go.RowKit
/-- an argument of the reference: the digits xs -/
structure ArgD (w : World) (u : Value) (xs : List Int) (ad : Option Addr) (cap : Nat) : Prop where
  is : u = .slice ad xs.length cap
  lim : LimI w ad xs
  le : xs.length ≤ cap
  wf : WfD xs
  full : trimN xs xs.length = xs.length
theorem ArgD.later {w w' : World} {u : Value} {xs : List Int} {ad : Option Addr} {cap : Nat} (h : ArgD w u xs ad cap) (hb : Below w.heap.size w w') : ArgD w' u xs ad cap := ⟨h.is, h.lim.later hb, h.le, h.wf, h.full⟩
theorem ResD.arg {base : Nat} {w : World} {u : Value} {zs : List Int} {n : Int} (h : ResD base w u zs n) : ∃ ad cap, ArgD w u zs ad cap := by
  obtain ⟨ad, cap, h1, h2, h3, _, _⟩ := h.num.read
  exact ⟨ad, cap, h1, h2, h3, h.wf, h.full⟩
theorem mod_divD (s : Int) : s % 10000 + 10000 * (s / 10000) = s := by omega
def addToD (xs ys : List Int) : Nat → List Int × Int
  | 0 => ([], 0)
  | k + 1 => ((addToD xs ys k).1 ++ [(xs.getD k 0 + ys.getD k 0 + (addToD xs ys k).2) % 10000], (xs.getD k 0 + ys.getD k 0 + (addToD xs ys k).2) / 10000)
theorem addToD_length (xs ys : List Int) (k : Nat) : (addToD xs ys k).1.length = k := by
  induction k with
  | zero => rfl
  | succ k ih => simp [addToD, ih]
theorem addToD_carry (xs ys : List Int) (hx : WfD xs) (hy : WfD ys) (k : Nat) : 0 ≤ (addToD xs ys k).2 ∧ (addToD xs ys k).2 ≤ 1 := by
  induction k with
  | zero => simp [addToD]
  | succ k ih => have h1 := hx.getD k; have h2 := hy.getD k; simp only [addToD]; omega
theorem addToD_wf (xs ys : List Int) (k : Nat) : WfD (addToD xs ys k).1 := by
  induction k with
  | zero => exact WfD.nil
  | succ k ih => exact ih.append (WfD.cons (by omega) WfD.nil)
theorem val_addToD (xs ys : List Int) (k : Nat) : valD (addToD xs ys k).1 + 10000 ^ k * (addToD xs ys k).2 = valD (xs.take k) + valD (ys.take k) := by
  induction k with
  | zero => simp [addToD, valD]
  | succ k ih =>
    rw [val_take_succD, val_take_succD]
    simp only [addToD]
    rw [valD_snoc, addToD_length]
    simp only [Int.pow_succ]
    have hm := mod_divD (xs.getD k 0 + ys.getD k 0 + (addToD xs ys k).2)
    generalize (addToD xs ys k).2 = c at *
    generalize ((xs.getD k 0 + ys.getD k 0 + c) % 10000) = r at *
    generalize ((xs.getD k 0 + ys.getD k 0 + c) / 10000) = q at *
    generalize (10000 : Int) ^ k = P at *
    grind
theorem beyond {xs : List Int} {k : Nat} (h : xs.length ≤ k) : xs.getD k 0 = 0 := by simp [List.getElem?_eq_none h]
theorem top_pos {xs : List Int} {j : Nat} (hx : WfD xs) (fx : trimN xs xs.length = xs.length) (hj : xs.length = j + 1) : 0 < xs.getD j 0 := by
  have h1 := trimN_last xs xs.length (by omega)
  rw [fx, hj, Nat.add_sub_cancel] at h1
  have h2 := hx.getD j
  omega
theorem addD_full {xs ys : List Int} (hx : WfD xs) (hy : WfD ys) (fx : trimN xs xs.length = xs.length) (fy : trimN ys ys.length = ys.length) (k : Nat) (h1 : max xs.length ys.length ≤ k) (h2 : k ≤ max xs.length ys.length + 1)
    (h3 : max xs.length ys.length < k → 0 < (addToD xs ys (k - 1)).2) (h4 : (addToD xs ys k).2 = 0) : trimN (addToD xs ys k).1 (addToD xs ys k).1.length = (addToD xs ys k).1.length := by
  cases k with
  | zero => rfl
  | succ j =>
    simp only [addToD] at h4 ⊢
    have hc := addToD_carry xs ys hx hy j
    have bx := hx.getD j
    have by' := hy.getD j
    refine full_snoc _ ?_
    rw [Nat.add_sub_cancel] at h3
    rcases Nat.lt_or_ge j (max xs.length ys.length) with h | h
    · have hm : max xs.length ys.length = j + 1 := by omega
      rcases (show xs.length = j + 1 ∨ ys.length = j + 1 by omega) with e | e
      · have := top_pos hx fx e; omega
      · have := top_pos hy fy e; omega
    · have := h3 (by omega); omega
set_option maxHeartbeats 1000000 in
theorem addD_any {u v : Value} {xs ys : List Int} {a b : Option Addr} {capa capb : Nat} {w : World} (h1 : ArgD w u xs a capa) (h2 : ArgD w v ys b capb) (hx : xs.length ≤ 68719476736) (hy : ys.length ≤ 68719476736) :
    Calls Tryz.prog 114 #[u, v] w fun e w' => ∃ r, e = .returned r ∧ ∃ zs, ResD w.heap.size w' r zs (valD xs + valD ys) ∧ zs.length ≤ max xs.length ys.length + 1 ∧ Below w.heap.size w w' := by
  obtain ⟨i0, hi, hz0, hz1, hz2⟩ := info_parts infoInt
  obtain ⟨rfl, lx, _, wx, fx⟩ := h1
  obtain ⟨rfl, ly, _, wy, fy⟩ := h2
  have FX := Lib.hid fx
  have FY := Lib.hid fy
  clear fx fy
  go_enter Tryz.func114, Tryz.ntmps114
  go_wp2
  go_loopw [5, 6, 7, 8] (fun s c i _ wr => ∃ (k : Nat) (q : Value), k ≤ max xs.length ys.length + 1 ∧ q = s ∧ c = .int .i64 (addToD xs ys k).2 ∧ i = .int .i64 k ∧ NumI w.heap.size wr q (addToD xs ys k).1 ∧
      (max xs.length ys.length < k → 0 < (addToD xs ys (k - 1)).2) ∧ Below w.heap.size w wr) (fun _ _ i _ _ => max xs.length ys.length + 2 - (intOf i).toNat)
  case atStart => exact ⟨0, _, Nat.zero_le _, rfl, rfl, rfl, World.ownsRow_nil _ _ _ _, fun h => by omega, Below.refl _ _⟩
  case round =>
    obtain ⟨k, q, hk, rfl, rfl, rfl, hown, hprev, hb⟩ := hrel
    have hsz := hb.size
    obtain ⟨c, hck⟩ : ∃ c, (addToD xs ys k).2 = c := ⟨_, rfl⟩
    have bc := addToD_carry xs ys wx wy k
    rw [hck] at bc ⊢
    obtain ⟨bc0, bc1⟩ := bc
    have hrow : wr.ownsRow w.heap.size 3 1 q k ((addToD xs ys k).1.map (Value.int .i64)) := by
      have h := hown; unfold NumI at h; rw [addToD_length] at h; exact h
    have HO := Lib.hid hown
    have HP := Lib.hid hprev
    have HC := Lib.hid hck
    have HK := Lib.hid hk
    clear hown hprev hck
    by_cases hgo : k < max xs.length ys.length ∨ 0 < c
    · obtain ⟨x, hxk⟩ : ∃ x, xs.getD k 0 = x := ⟨_, rfl⟩
      obtain ⟨y, hyk⟩ : ∃ y, ys.getD k 0 = y := ⟨_, rfl⟩
      obtain ⟨bx0, bx1⟩ : 0 ≤ x ∧ x < 10000 := hxk ▸ wx.getD k
      obtain ⟨by0, by1⟩ : 0 ≤ y ∧ y < 10000 := hyk ▸ wy.getD k
      have hk1 : k ≤ max xs.length ys.length := by
        rcases hgo with h | h
        · omega
        · rcases Nat.lt_or_ge (max xs.length ys.length) k with h5 | h5
          · exfalso
            have e : k = max xs.length ys.length + 1 := by omega
            have h6 := HC.out
            rw [e] at h6
            simp only [addToD] at h6
            rw [beyond (Nat.le_max_left _ _), beyond (Nat.le_max_right _ _)] at h6
            have h7 := addToD_carry xs ys wx wy (max xs.length ys.length)
            omega
          · exact h5
      have HX := Lib.hid hxk
      have HY := Lib.hid hyk
      have HG := Lib.hid hgo
      have lx' := lx.later hb
      have ly' := ly.later hb
      clear hxk hyk
      have done : ∀ (w1 : World) (v' : Value) (o : Obj), w1.ownsRow w.heap.size 3 1 v' (k + 1) ((addToD xs ys k).1.map (Value.int .i64) ++ [Value.int .i64 ((x + y + c) % 10000)]) → (wr.alloc o).grownBy w1 q.ownBlock →
          ∃ (j : Nat) (p : Value), j ≤ max xs.length ys.length + 1 ∧ p = v' ∧ Value.int .i64 ((x + y + c) / 10000) = .int .i64 (addToD xs ys j).2 ∧ Value.int .i64 ((k : Int) + 1) = .int .i64 j ∧ NumI w.heap.size w1 p (addToD xs ys j).1 ∧
            (max xs.length ys.length < j → 0 < (addToD xs ys (j - 1)).2) ∧ Below w.heap.size w w1 := fun w1 v' o ho hg => by
        have hown' : w1.ownsRow w.heap.size 3 1 v' ((addToD xs ys k).1.length + 1) ((addToD xs ys k).1.map (Value.int .i64) ++ [Value.int .i64 ((x + y + c) % 10000)]) := by rw [addToD_length]; exact ho
        obtain ⟨hn, hbw⟩ := push_num hb hsz HO.out hown' hg
        refine ⟨k + 1, v', by omega, rfl, by simp only [addToD]; rw [HX.out, HY.out, HC.out], by go_num, by simp only [addToD]; rw [HX.out, HY.out, HC.out]; exact hn, fun h => ?_, hbw⟩
        rw [Nat.add_sub_cancel, HC.out]
        rcases HG.out with h5 | h5
        · omega
        · exact h5
      have DONE := Lib.hid done
      clear done hgo
      by_cases hx1 : k < xs.length
      · go_wp2_with (first | (go_at_call 133; first | ((with_reducible refine (digit_any a xs capa k x _ lx' (by omega) HX.out).mono ?_); rintro e w' ⟨rfl, rfl⟩) | ((with_reducible refine (digit_any b ys capb k y _ ly' (by omega) HY.out).mono ?_); rintro e w' ⟨rfl, rfl⟩)) | (at_builtin; refine wpList_append_own _ rfl _ _ 73 rfl w.heap.size 3 i0 (.int .i64 0) 1 8 Tryz.underlying73 hi hz0 hz1 hz2 rfl (by decide) _ _ _ rfl (hrow.alloc _) ⟨wr.heap.size, 0, none⟩ 1 1 [.int .i64 ((x + y + c) % 10000)] rfl rfl (cell_one_new _ _ _) (by simp [Value.oneCell']) (by unfold maxLen; omega) (by omega) (by simp; omega) ?_; intro v' w1 hown' hgrow _))
        go_roundw
        case rel => exact DONE.out _ _ _ hown' hgrow
        case measure => simp [intOf]; omega
      · by_cases hy1 : k < ys.length
        · go_wp2_with (first | (go_at_call 133; first | ((with_reducible refine (digit_any a xs capa k x _ lx' (by omega) HX.out).mono ?_); rintro e w' ⟨rfl, rfl⟩) | ((with_reducible refine (digit_any b ys capb k y _ ly' (by omega) HY.out).mono ?_); rintro e w' ⟨rfl, rfl⟩)) | (at_builtin; refine wpList_append_own _ rfl _ _ 73 rfl w.heap.size 3 i0 (.int .i64 0) 1 8 Tryz.underlying73 hi hz0 hz1 hz2 rfl (by decide) _ _ _ rfl (hrow.alloc _) ⟨wr.heap.size, 0, none⟩ 1 1 [.int .i64 ((x + y + c) % 10000)] rfl rfl (cell_one_new _ _ _) (by simp [Value.oneCell']) (by unfold maxLen; omega) (by omega) (by simp; omega) ?_; intro v' w1 hown' hgrow _))
          go_roundw
          case rel => exact DONE.out _ _ _ hown' hgrow
          case measure => simp [intOf]; omega
        · have hcp : 0 < c := by rcases HG.out with h5 | h5; (· omega); exact h5
          go_wp2_with (first | (go_at_call 133; first | ((with_reducible refine (digit_any a xs capa k x _ lx' (by omega) HX.out).mono ?_); rintro e w' ⟨rfl, rfl⟩) | ((with_reducible refine (digit_any b ys capb k y _ ly' (by omega) HY.out).mono ?_); rintro e w' ⟨rfl, rfl⟩)) | (at_builtin; refine wpList_append_own _ rfl _ _ 73 rfl w.heap.size 3 i0 (.int .i64 0) 1 8 Tryz.underlying73 hi hz0 hz1 hz2 rfl (by decide) _ _ _ rfl (hrow.alloc _) ⟨wr.heap.size, 0, none⟩ 1 1 [.int .i64 ((x + y + c) % 10000)] rfl rfl (cell_one_new _ _ _) (by simp [Value.oneCell']) (by unfold maxLen; omega) (by omega) (by simp; omega) ?_; intro v' w1 hown' hgrow _))
          go_roundw
          case rel => exact DONE.out _ _ _ hown' hgrow
          case measure => simp [intOf]; omega
    · have hx1 : ¬ k < xs.length := by omega
      have hy1 : ¬ k < ys.length := by omega
      have hc0 : c = 0 := by omega
      subst hc0
      clear hgo
      go_wp2
      go_ret
      have hv := val_addToD xs ys k
      rw [List.take_of_length_le (by omega), List.take_of_length_le (by omega)] at hv
      have h6 : (addToD xs ys k).2 = 0 := (by have h := HC.out; simpa using h)
      rw [h6] at hv
      have hk2 : k ≤ max xs.length ys.length + 1 := HK.out
      exact ⟨_, rfl, (addToD xs ys k).1, ⟨HO.out, addToD_wf xs ys k, addD_full wx wy FX.out FY.out k (by omega) hk2 HP.out h6, by simpa using hv⟩, by rw [addToD_length]; exact hk2, hb⟩
def timesTo (xs : List Int) (d : Int) : Nat → List Int × Int
  | 0 => ([], 0)
  | k + 1 => ((timesTo xs d k).1 ++ [(xs.getD k 0 * d + (timesTo xs d k).2) % 10000], (xs.getD k 0 * d + (timesTo xs d k).2) / 10000)
theorem timesTo_length (xs : List Int) (d : Int) (k : Nat) : (timesTo xs d k).1.length = k := by
  induction k with
  | zero => rfl
  | succ k ih => simp [timesTo, ih]
theorem digit_prod {x d : Int} (hx : 0 ≤ x ∧ x < 10000) (hd : 0 ≤ d ∧ d ≤ 65536) : 0 ≤ x * d ∧ x * d ≤ 9999 * d := by
  constructor
  · exact Int.mul_nonneg hx.1 hd.1
  · exact Int.mul_le_mul_of_nonneg_right (by omega) hd.1
theorem timesTo_carry (xs : List Int) (d : Int) (hx : WfD xs) (hd : 0 ≤ d ∧ d ≤ 65536) (k : Nat) : 0 ≤ (timesTo xs d k).2 ∧ (timesTo xs d k).2 ≤ d := by
  induction k with
  | zero => simp [timesTo]; omega
  | succ k ih => have h1 := digit_prod (hx.getD k) hd; simp only [timesTo]; omega
theorem timesTo_wf (xs : List Int) (d : Int) (k : Nat) : WfD (timesTo xs d k).1 := by
  induction k with
  | zero => exact WfD.nil
  | succ k ih => exact ih.append (WfD.cons (by omega) WfD.nil)
theorem val_timesTo (xs : List Int) (d : Int) (k : Nat) : valD (timesTo xs d k).1 + 10000 ^ k * (timesTo xs d k).2 = valD (xs.take k) * d := by
  induction k with
  | zero => simp [timesTo, valD]
  | succ k ih =>
    rw [val_take_succD]
    simp only [timesTo]
    rw [valD_snoc, timesTo_length]
    simp only [Int.pow_succ]
    have hm := mod_divD (xs.getD k 0 * d + (timesTo xs d k).2)
    generalize (timesTo xs d k).2 = c at *
    generalize ((xs.getD k 0 * d + c) % 10000) = r at *
    generalize ((xs.getD k 0 * d + c) / 10000) = q at *
    generalize (10000 : Int) ^ k = P at *
    grind
theorem timesTo_far (xs : List Int) (d : Int) (hx : WfD xs) (hd : 0 ≤ d ∧ d ≤ 65536) : (timesTo xs d (xs.length + 1)).2 ≤ 6 ∧ (timesTo xs d (xs.length + 2)).2 = 0 := by
  have h0 := timesTo_carry xs d hx hd xs.length
  have h1 : (timesTo xs d (xs.length + 1)).2 = (timesTo xs d xs.length).2 / 10000 := by simp only [timesTo]; rw [beyond (Nat.le_refl _)]; simp
  have h2 : (timesTo xs d (xs.length + 2)).2 = (timesTo xs d (xs.length + 1)).2 / 10000 := by
    show (xs.getD (xs.length + 1) 0 * d + (timesTo xs d (xs.length + 1)).2) / 10000 = _
    rw [beyond (Nat.le_succ _)]; simp
  omega
set_option maxHeartbeats 1000000 in
theorem times_any {u : Value} {xs : List Int} {a : Option Addr} {capa : Nat} {w : World} (d : Int) (h1 : ArgD w u xs a capa) (hx : xs.length ≤ 68719476736) (hd : 0 ≤ d ∧ d ≤ 65536) :
    Calls Tryz.prog 130 #[u, .int .i64 d] w fun e w' => ∃ r, e = .returned r ∧ ∃ zs, ResD w.heap.size w' r zs (valD xs * d) ∧ zs.length ≤ xs.length + 2 ∧ Below w.heap.size w w' := by
  obtain ⟨i0, hi, hz0, hz1, hz2⟩ := info_parts infoInt
  obtain ⟨rfl, lx, _, wx, _⟩ := h1
  have hd2 := hd
  obtain ⟨hd0, hd1⟩ := hd
  go_enter Tryz.func130, Tryz.ntmps130
  go_wp2
  go_loopw [5, 6, 7, 8] (fun s c i _ wr => ∃ (k : Nat) (q : Value), k ≤ xs.length + 2 ∧ q = s ∧ c = .int .i64 (timesTo xs d k).2 ∧ i = .int .i64 k ∧ NumI w.heap.size wr q (timesTo xs d k).1 ∧ Below w.heap.size w wr) (fun _ _ i _ _ => xs.length + 3 - (intOf i).toNat)
  case atStart => exact ⟨0, _, Nat.zero_le _, rfl, rfl, rfl, World.ownsRow_nil _ _ _ _, Below.refl _ _⟩
  case round =>
    obtain ⟨k, q, hk, rfl, rfl, rfl, hown, hb⟩ := hrel
    have hsz := hb.size
    obtain ⟨c, hck⟩ : ∃ c, (timesTo xs d k).2 = c := ⟨_, rfl⟩
    have bc := timesTo_carry xs d wx hd2 k
    rw [hck] at bc ⊢
    obtain ⟨bc0, bc1⟩ := bc
    have hrow : wr.ownsRow w.heap.size 3 1 q k ((timesTo xs d k).1.map (Value.int .i64)) := by
      have h := hown; unfold NumI at h; rw [timesTo_length] at h; exact h
    have HO := Lib.hid hown
    have HC := Lib.hid hck
    have HK := Lib.hid hk
    clear hown hck
    by_cases hgo : k < xs.length ∨ 0 < c
    · obtain ⟨x, hxk⟩ : ∃ x, xs.getD k 0 = x := ⟨_, rfl⟩
      have bx := hxk ▸ wx.getD k
      have bp := digit_prod bx hd2
      obtain ⟨bp0, bp1⟩ := bp
      have bp2 : x * d ≤ 655294464 := by omega
      obtain ⟨bx0, bx1⟩ := bx
      have hk1 : k ≤ xs.length + 1 := by
        rcases hgo with h | h
        · omega
        · rcases Nat.lt_or_ge (xs.length + 1) k with h5 | h5
          · exfalso
            have e : k = xs.length + 2 := by omega
            have h6 := HC.out
            rw [e, (timesTo_far xs d wx hd2).2] at h6
            omega
          · exact h5
      have HX := Lib.hid hxk
      have lx' := lx.later hb
      clear hxk
      have done : ∀ (w1 : World) (v' : Value) (o : Obj), w1.ownsRow w.heap.size 3 1 v' (k + 1) ((timesTo xs d k).1.map (Value.int .i64) ++ [Value.int .i64 ((x * d + c) % 10000)]) → (wr.alloc o).grownBy w1 q.ownBlock →
          ∃ (j : Nat) (p : Value), j ≤ xs.length + 2 ∧ p = v' ∧ Value.int .i64 ((x * d + c) / 10000) = .int .i64 (timesTo xs d j).2 ∧ Value.int .i64 ((k : Int) + 1) = .int .i64 j ∧ NumI w.heap.size w1 p (timesTo xs d j).1 ∧ Below w.heap.size w w1 := fun w1 v' o ho hg => by
        have hown' : w1.ownsRow w.heap.size 3 1 v' ((timesTo xs d k).1.length + 1) ((timesTo xs d k).1.map (Value.int .i64) ++ [Value.int .i64 ((x * d + c) % 10000)]) := by rw [timesTo_length]; exact ho
        obtain ⟨hn, hbw⟩ := push_num hb hsz HO.out hown' hg
        exact ⟨k + 1, v', by omega, rfl, by simp only [timesTo]; rw [HX.out, HC.out], by go_num, by simp only [timesTo]; rw [HX.out, HC.out]; exact hn, hbw⟩
      have DONE := Lib.hid done
      have HG := Lib.hid hgo
      clear done hgo hd2
      by_cases hx1 : k < xs.length
      · go_wp2_with (first | (go_at_call 133; refine (digit_any a xs capa k x _ lx' (by omega) HX.out).mono ?_; rintro e w' ⟨rfl, rfl⟩) | (at_builtin; refine wpList_append_own _ rfl _ _ 73 rfl w.heap.size 3 i0 (.int .i64 0) 1 8 Tryz.underlying73 hi hz0 hz1 hz2 rfl (by decide) _ _ _ rfl (hrow.alloc _) ⟨wr.heap.size, 0, none⟩ 1 1 [.int .i64 ((x * d + c) % 10000)] rfl rfl (cell_one_new _ _ _) (by simp [Value.oneCell']) (by unfold maxLen; omega) (by omega) (by simp; omega) ?_; intro v' w1 hown' hgrow _))
        go_roundw
        case rel => exact DONE.out _ _ _ hown' hgrow
        case measure => simp [intOf]; omega
      · have hcp : 0 < c := by rcases HG.out with h5 | h5; (· omega); exact h5
        go_wp2_with (first | (go_at_call 133; refine (digit_any a xs capa k x _ lx' (by omega) HX.out).mono ?_; rintro e w' ⟨rfl, rfl⟩) | (at_builtin; refine wpList_append_own _ rfl _ _ 73 rfl w.heap.size 3 i0 (.int .i64 0) 1 8 Tryz.underlying73 hi hz0 hz1 hz2 rfl (by decide) _ _ _ rfl (hrow.alloc _) ⟨wr.heap.size, 0, none⟩ 1 1 [.int .i64 ((x * d + c) % 10000)] rfl rfl (cell_one_new _ _ _) (by simp [Value.oneCell']) (by unfold maxLen; omega) (by omega) (by simp; omega) ?_; intro v' w1 hown' hgrow _))
        go_roundw
        case rel => exact DONE.out _ _ _ hown' hgrow
        case measure => simp [intOf]; omega
    · have hx1 : ¬ k < xs.length := by omega
      have hc0 : c = 0 := by omega
      subst hc0
      clear hgo
      have hv := val_timesTo xs d k
      rw [List.take_of_length_le (by omega)] at hv
      have h6 : (timesTo xs d k).2 = 0 := (by have h := HC.out; simpa using h)
      rw [h6] at hv
      have hk2 : k ≤ xs.length + 2 := HK.out
      have HVL := Lib.hid hv
      clear hv h6
      go_wp2_with fail
      refine (trimD_num HO.out (by rw [timesTo_length]; omega)).mono ?_
      rintro e w' ⟨r, rfl, hr, rfl⟩
      go_wp2_with fail
      go_ret
      have hlen : (trim (timesTo xs d k).1).length ≤ k := by have h := Nat.le_trans (Nat.le_of_eq (trim_length _)) (trim_le (timesTo xs d k).1); rw [timesTo_length] at h; exact h
      exact ⟨_, rfl, trim (timesTo xs d k).1, ⟨hr, (timesTo_wf xs d k).trim, trim_full _, by rw [val_trimD]; have h := HVL.out; simpa using h⟩, Nat.le_trans hlen hk2, hb⟩
end
section
open Go.RowKit
theorem val_drop (xs : List Int) (j : Nat) (h : j < xs.length) : val (xs.drop j) = xs.getD j 0 + 4294967296 * val (xs.drop (j + 1)) := by
  rw [List.drop_eq_getElem_cons h]
  simp [val, h]
set_option maxHeartbeats 2000000 in
theorem of_any {u : Value} {xs : List Int} {a : Option Addr} {capa : Nat} {w : World} (h1 : Arg w u xs a capa) (hx : xs.length ≤ 134217728) :
    Calls Tryz.prog 107 #[u] w fun e w' => ∃ r, e = .returned r ∧ ∃ zs, ResD w.heap.size w' r zs (val xs) ∧ zs.length ≤ 5 * xs.length ∧ Below w.heap.size w w' := by
  obtain ⟨rfl, lx, _, wx⟩ := h1
  go_enter Tryz.func107, Tryz.ntmps107
  go_wp2
  go_loopw [3, 4] (fun s i wr => ∃ (k : Nat) (q : Value) (ds : List Int), k ≤ xs.length ∧ q = s ∧ i = .int .i64 ((xs.length : Int) - 1 - k) ∧ ResD w.heap.size wr q ds (val (xs.drop (xs.length - k))) ∧ ds.length ≤ 5 * k ∧ Below w.heap.size w wr) (fun _ i _ => (intOf i + 1).toNat)
  case atStart => exact ⟨0, _, [], Nat.zero_le _, rfl, by simp, ⟨World.ownsRow_nil _ _ _ _, WfD.nil, rfl, by simp [val, valD]⟩, by simp, Below.refl _ _⟩
  case round =>
    obtain ⟨k, q, ds, hk, rfl, rfl, hres, hlen, hb⟩ := hrel
    have hsz := hb.size
    by_cases hlt : k < xs.length
    · rcases lx with rfl | ⟨b, off, rfl, hc⟩
      · simp at hlt
      · obtain ⟨j, hj⟩ : ∃ j, j + k + 1 = xs.length := ⟨xs.length - k - 1, by omega⟩
        have hji : ((xs.length : Int) - 1 - k) = (j : Int) := by omega
        obtain ⟨x, hxk⟩ : ∃ x, xs.getD j 0 = x := ⟨_, rfl⟩
        obtain ⟨bx0, bx1⟩ : 0 ≤ x ∧ x < 4294967296 := hxk ▸ wx.getD j
        have hjl : j < xs.length := by omega
        have hcj := hc j hjl
        rw [hxk] at hcj
        have hc0 : wr.drew.cell? ⟨b, off + j, none⟩ = some (.int .u32 x) := (hb.cell (p := ⟨b, off + j, none⟩) (World.block_lt_of_cell? w _ hcj)).trans hcj
        have hc00 : wr.cell? ⟨b, off + j, none⟩ = some (.int .u32 x) := hc0
        rw [hji]
        obtain ⟨ad0, cap0, A0'⟩ := hres.arg
        have A0 : ArgD wr.drew q ds ad0 cap0 := A0'.later ((Below.refl wr.heap.size wr).drew)
        have hval : val (xs.drop (xs.length - (k + 1))) = valD ds * 65536 * 65536 + x := by
          rw [show xs.length - (k + 1) = j from by omega, val_drop xs j hjl, hxk, hres.eq, show xs.length - k = j + 1 from by omega]
          omega
        have hwx : IntKind.i64.wrap x = x := IntWalk.i64_in _ (by omega)
        have HV := Lib.hid hval
        have HJ := Lib.hid hj
        clear hj hxk hc hcj hji hval A0'
        have hge : (0 : Int) ≤ (j : Int) := by omega
        go_wp2_with fail
        go_region_held3 (fun w' => w'.cell? ⟨b, off + j, none⟩ = some (.int .u32 x)) (first | exact hc4 | exact hc3 | exact hc2 | exact hc1 | exact hc0 | go_keep)
          (first
            | (go_at_call 114; refine (addD_any A2s A3 (by omega) (by omega)).mono ?_; rintro e w4 ⟨r4, rfl, z4, q4, n4, hb4⟩; have hc4 := (hb4.cell (p := ⟨b, off + j, none⟩) (World.block_lt_of_cell? w3 _ hc3)).trans hc3)
            | (go_at_call 115; refine (small_any x _ bx0 (by omega)).mono ?_; rintro e w3 ⟨r3, rfl, z3, q3, n3, hb3⟩; obtain ⟨ad3, cap3, A3⟩ := q3.arg; have A2s := A2.later hb3; have hc3 := (hb3.cell (p := ⟨b, off + j, none⟩) (World.block_lt_of_cell? w2 _ hc2)).trans hc2)
            | (go_at_call 130; first
                | (refine (times_any 65536 A1 (by omega) (by omega)).mono ?_; rintro e w2 ⟨r2, rfl, z2, q2, n2, hb2⟩; obtain ⟨ad2, cap2, A2⟩ := q2.arg; have hc2 := (hb2.cell (p := ⟨b, off + j, none⟩) (World.block_lt_of_cell? w1 _ hc1)).trans hc1)
                | (refine (times_any 65536 A0 (by omega) (by omega)).mono ?_; rintro e w1 ⟨r1, rfl, z1, q1, n1, hb1⟩; obtain ⟨ad1, cap1, A1⟩ := q1.arg; have hc1 := (hb1.cell (p := ⟨b, off + j, none⟩) (World.block_lt_of_cell? _ _ hc0)).trans hc0)))
        have hs1 : wr.heap.size ≤ w1.heap.size := hb1.size
        have hs2 := hb2.size
        have hs3 := hb3.size
        have hB4 : Below w.heap.size w w4 := (((hb.trans (Below.mono (show Below wr.heap.size wr w1 from ⟨hb1.os, hb1.tape, hb1.output, hb1.size, hb1.block⟩) hsz)).trans (hb2.mono (by omega))).trans (hb3.mono (by omega))).trans (hb4.mono (by omega))
        have hv4 : valD z4 = val (xs.drop (xs.length - (k + 1))) := by rw [q4.eq, q2.eq, q1.eq, q3.eq, HV.out]
        have HV4 := Lib.hid hv4
        clear hv4
        go_wp2
        go_roundw
        case rel => exact ⟨k + 1, r4, z4, by omega, rfl, by have := HJ.out; congr 1; omega, ⟨q4.num.mono (by omega), q4.wf, q4.full, HV4.out⟩, by omega, hB4⟩
        case measure => simp [intOf]
    · obtain rfl : k = xs.length := by omega
      have hji : ((xs.length : Int) - 1 - xs.length) = -1 := by omega
      rw [hji]
      clear hji
      have hv : valD ds = val xs := by have h := hres.eq; rwa [Nat.sub_self, List.drop_zero] at h
      go_wp2
      go_ret
      exact ⟨_, rfl, ds, ⟨hres.num, hres.wf, hres.full, hv⟩, hlen, hb⟩
set_option maxHeartbeats 1000000 in
theorem cmpD_any {u v : Value} {us vs : List Int} {a b : Option Addr} {capa capb : Nat} {w : World} (h1 : ArgD w u us a capa) (h2 : ArgD w v vs b capb) (hx : us.length ≤ 68719476736) (hy : vs.length ≤ 68719476736) :
    Calls Tryz.prog 80 #[u, v] w fun e w' => e = .returned (.int .i64 (sign (valD us) (valD vs))) ∧ Below w.heap.size w w' := by
  obtain ⟨rfl, lx, _, wx, fx⟩ := h1
  obtain ⟨rfl, ly, _, wy, fy⟩ := h2
  have key : ∀ r, CmpT us vs r → r = sign (valD us) (valD vs) := fun r h => (cmp_valD wx wy fx fy h).1
  have KEY := Lib.hid key
  clear key fx fy
  by_cases hne : us.length = vs.length
  · have hne2 : ((us.length : Int) != (vs.length : Int)) = false := by simp; omega
    have HE := Lib.hid hne
    clear hne
    go_enter Tryz.func80, Tryz.ntmps80
    go_wp2
    go_loopw [5] (fun i wr => ∃ k : Nat, k ≤ us.length ∧ i = .int .i64 ((us.length : Int) - 1 - k) ∧ (∀ j, us.length - k ≤ j → j < us.length → us.getD j 0 = vs.getD j 0) ∧ Below w.heap.size w wr) (fun i _ => (intOf i + 1).toNat)
    case atStart => exact ⟨0, Nat.zero_le _, by simp, fun j h1 h2 => by omega, Below.refl _ _⟩
    case round =>
      obtain ⟨k, hk, rfl, hall, hb⟩ := hrel
      have hE := HE.out
      by_cases hlt : k < us.length
      · rcases lx with rfl | ⟨ba, offa, rfl, hca⟩
        · simp at hlt
        rcases ly with rfl | ⟨bb, offb, rfl, hcb⟩
        · simp only [List.length_nil] at hE; omega
        obtain ⟨j, hj⟩ : ∃ j, j + k + 1 = us.length := ⟨us.length - k - 1, by omega⟩
        have hji : ((us.length : Int) - 1 - k) = (j : Int) := by omega
        obtain ⟨x, hxk⟩ : ∃ x, us.getD j 0 = x := ⟨_, rfl⟩
        obtain ⟨y, hyk⟩ : ∃ y, vs.getD j 0 = y := ⟨_, rfl⟩
        have cx := hca j (by omega)
        have cy := hcb j (by omega)
        rw [hxk] at cx
        rw [hyk] at cy
        have cx0 := (hb.cell (p := ⟨ba, offa + j, none⟩) (World.block_lt_of_cell? w _ cx)).trans cx
        have cy0 := (hb.cell (p := ⟨bb, offb + j, none⟩) (World.block_lt_of_cell? w _ cy)).trans cy
        have hju : (j : Int) < (us.length : Int) := by omega
        have hjv : (j : Int) < (vs.length : Int) := by omega
        have hj0 : (0 : Int) ≤ (j : Int) := by omega
        rw [hji]
        have HJ := Lib.hid hj
        have HX := Lib.hid hxk
        have HY := Lib.hid hyk
        have HA := Lib.hid hall
        clear hj hji hxk hyk hall hca hcb cx cy hE hlt hk
        have dif : x ≠ y → CmpT us vs (sign x y) := fun h => by
          refine .inr (.inr ⟨HE.out, j, by omega, ?_, fun i hi1 hi2 => HA.out i (by have := HJ.out; omega) hi2, ?_⟩)
          · show us.getD j 0 ≠ vs.getD j 0
            rw [HX.out, HY.out]; exact h
          · show _ = sign (us.getD j 0) (vs.getD j 0)
            rw [HX.out, HY.out]
        have DIF := Lib.hid dif
        clear dif
        rcases Int.lt_trichotomy x y with h | h | h
        · have hd : decide (x < y) = true := by simp [h]
          go_wp2
          go_quiet (fail)
          go_wp2
          go_ret
          refine ⟨?_, ?_⟩
          · rw [← KEY.out _ (DIF.out (by omega)), sign_lt h]; rfl
          · exact ⟨hb.os, hb.tape, hb.output, hb.size, hb.block⟩
        · subst h
          have hd : decide (x < x) = false := by simp
          go_wp2
          go_quiet (fail)
          go_wp2
          go_quiet (fail)
          go_wp2
          go_roundw
          case rel =>
            refine ⟨k + 1, by have := HJ.out; omega, by have := HJ.out; congr 1; omega, fun i hi1 hi2 => ?_, ⟨hb.os, hb.tape, hb.output, hb.size, hb.block⟩⟩
            by_cases e : i = j
            · subst e; rw [HX.out, HY.out]
            · exact HA.out i (by have := HJ.out; omega) hi2
          case measure => simp [intOf]
        · have hd : decide (x < y) = false := by simp; omega
          have hd2 : decide (y < x) = true := by simp [h]
          go_wp2
          go_quiet (fail)
          go_wp2
          go_quiet (fail)
          go_wp2
          go_ret
          refine ⟨?_, ⟨hb.os, hb.tape, hb.output, hb.size, hb.block⟩⟩
          rw [← KEY.out _ (DIF.out (by omega)), sign_gt h]; rfl
      · obtain rfl : k = us.length := by omega
        have hji : ((us.length : Int) - 1 - us.length) = -1 := by omega
        rw [hji]
        clear hji
        have HA := Lib.hid hall
        clear hall hE
        go_wp2
        go_ret
        refine ⟨?_, hb⟩
        rw [← KEY.out 0 (.inr (.inl ⟨HE.out, fun i hi => HA.out i (by omega) hi, rfl⟩))]
        rfl
  · have hne2 : ((us.length : Int) != (vs.length : Int)) = true := by simp; omega
    have HN := Lib.hid hne
    by_cases h : us.length < vs.length
    · have hd : (us.length : Int) < (vs.length : Int) := by omega
      clear hne
      go_enter Tryz.func80, Tryz.ntmps80
      go_wp2
      go_ret
      refine ⟨?_, Below.refl _ _⟩
      rw [← KEY.out _ (.inl ⟨HN.out, rfl⟩), sign_lt hd]; rfl
    · have hd : (vs.length : Int) < (us.length : Int) := by omega
      clear hne h
      go_enter Tryz.func80, Tryz.ntmps80
      go_wp2
      go_ret
      refine ⟨?_, Below.refl _ _⟩
      rw [← KEY.out _ (.inl ⟨HN.out, rfl⟩), sign_gt hd]; rfl
end
section
open Go.RowKit
set_option maxHeartbeats 400000 in
theorem canonical_true {u : Value} {xs : List Int} {a : Option Addr} {capa : Nat} {w : World} (h1 : Arg w u xs a capa) (hx : xs.length ≤ 70368744177664) (hf : trimN xs xs.length = xs.length) :
    Calls Tryz.prog 118 #[u] w fun e w' => e = .returned (.bool true) ∧ w = w' := by
  obtain ⟨rfl, lx, _, _⟩ := h1
  have hl := trimN_last xs xs.length
  rw [hf] at hl
  have HF := Lib.hid hf
  clear hf
  rcases lx with rfl | ⟨b, off, rfl, hc⟩
  · clear hl
    go_enter Tryz.func118, Tryz.ntmps118
    have h0 : ((0 : Int) == 0) = true := by decide
    go_wp2
    go_ret
    exact ⟨rfl, rfl⟩
  · obtain ⟨m, hm⟩ : ∃ m, xs.length = m := ⟨_, rfl⟩
    rw [hm] at hl hc hx
    rw [hm]
    cases m with
    | zero =>
      clear hl hc
      have h0 : ((0 : Int) == 0) = true := by decide
      go_enter Tryz.func118, Tryz.ntmps118
      go_wp2
      go_ret
      exact ⟨rfl, rfl⟩
    | succ j =>
      have hj := hc j (by omega)
      have hne := hl (by omega)
      rw [Nat.add_sub_cancel] at hne
      obtain ⟨x, hxk⟩ : ∃ x, xs.getD j 0 = x := ⟨_, rfl⟩
      rw [hxk] at hj hne
      have hne2 : (x != 0) = true := by simp [hne]
      have h1 : ((j : Int) + 1 == 0) = false := by simp; omega
      clear hl hc hne hxk hm
      go_enter Tryz.func118, Tryz.ntmps118
      go_wp2
      go_ret
      exact ⟨rfl, rfl⟩
set_option maxHeartbeats 400000 in
theorem is_true {u v : Value} {ds zs : List Int} {a b : Option Addr} {capa capb : Nat} {w : World} (h1 : ArgD w u ds a capa) (h2 : Arg w v zs b capb) (hx : ds.length ≤ 68719476736) (hy : zs.length ≤ 134217728)
    (hf : trimN zs zs.length = zs.length) (h : valD ds = val zs) :
    Calls Tryz.prog 97 #[u, v] w fun e w' => e = .returned (.bool true) ∧ Below w.heap.size w w' := by
  go_enter Tryz.func97, Tryz.ntmps97
  go_wp2_with fail
  refine (canonical_true h2 (by omega) hf).mono ?_
  rintro e w' ⟨rfl, rfl⟩
  go_wp2_with fail
  refine (of_any h2 hy).mono ?_
  rintro e w1 ⟨r, rfl, qs, hq, hl, hb⟩
  obtain ⟨ad, cap, A⟩ := hq.arg
  have h1' := h1.later hb
  go_wp2_with fail
  refine (cmpD_any A h1' (by omega) hx).mono ?_
  rintro e w2 ⟨rfl, hb2⟩
  rw [hq.eq, h, sign_self]
  have h0 : ((0 : Int) == 0) = true := by decide
  go_wp2_with fail
  go_ret
  exact ⟨rfl, hb.trans (hb2.mono hb.size)⟩
set_option maxHeartbeats 400000 in
theorem own_any {u : Value} {xs : List Int} {a : Option Addr} {capa : Nat} {w : World} (h1 : Arg w u xs a capa) (hx : xs.length ≤ 134217728) (hn : a = none → capa = 0) :
    Calls Tryz.prog 89 #[u] w fun e w' => ∃ r, e = .returned r ∧ Num w.heap.size w' r xs ∧ ∃ ad cap, Arg w' r xs ad cap ∧ (ad = none → cap = 0) ∧ Below w.heap.size w w' := by
  obtain ⟨rfl, lx, hle, wx⟩ := h1
  obtain ⟨i0, hi, hz0, hz1, hz2⟩ := info_parts infoLimb
  cases a with
  | none =>
    have hc := hn rfl
    subst hc
    have hxs : xs = [] := List.eq_nil_of_length_eq_zero (by omega)
    subst hxs
    have hnil := World.ownsRow_nil w w.heap.size 63 1
    have hrun := run_append_owned_none (P := Tryz.prog) w w.heap.size 56 56 63 i0 1 Tryz.underlying56 hi (.slice none 0 0) 0 [] hnil
    go_enter Tryz.func89, Tryz.ntmps89
    go_wp2
    go_ret
    exact ⟨_, rfl, hnil, none, 0, ⟨rfl, .inl rfl, Nat.le_refl _, Wf.nil⟩, fun _ => rfl, Below.refl _ _⟩
  | some ad =>
    have hnil := World.ownsRow_nil w w.heap.size 63 1
    have hcells : ∀ j u, (xs.map (Value.int .u32))[j]? = some u → w.cell? (ad.add j) = some u := by
      intro j u hj
      rcases lx with rfl | ⟨b, off, e, hc⟩
      · simp at hj
      · cases e
        rw [List.getElem?_map] at hj
        have hjl : j < xs.length := by
          rcases Nat.lt_or_ge j xs.length with h | h
          · exact h
          · rw [List.getElem?_eq_none h] at hj; cases hj
        rw [show (⟨b, off, none⟩ : Addr).add j = ⟨b, off + j, none⟩ from (by unfold Addr.add; split <;> simp_all), hc j hjl, ← hj]
        simp [hjl]
    go_enter Tryz.func89, Tryz.ntmps89
    go_wp2_with (at_builtin; refine wpList_append_own _ rfl _ _ 56 rfl w.heap.size 63 i0 (.int .u32 0) 1 4 Tryz.underlying56 hi hz0 hz1 hz2 rfl (by decide) _ 0 [] rfl hnil ad xs.length capa (xs.map (Value.int .u32)) rfl (by simp) hcells (ints_oneCell _ _) (by unfold maxLen; omega) (by omega) (Nat.le_refl _) ?_; intro v' w1 hown' hgrow _)
    have hnum : Num w.heap.size w1 v' xs := by
      unfold Num
      simpa using hown'
    have hb : Below w.heap.size w w1 := (Below.refl _ w).grown hgrow (Nat.le_refl _) (fun k hk => by cases hk)
    obtain ⟨ad', cap', h1, h2, h3, h4, h5⟩ := hnum.read
    go_wp2
    go_ret
    refine ⟨_, rfl, hnum, ad', cap', ⟨h1, h2, h3, wx⟩, ?_, hb⟩
    intro hno
    subst hno
    rcases hnum.2 with ⟨e, _⟩ | ⟨g, cp, cur, e, _⟩
    · rw [h1] at e; simp only [Value.slice.injEq] at e; exact e.2.2
    · rw [h1] at e; simp at e
end
section
open Go.RowKit
theorem cmp_res {u v : Value} {xs ys : List Int} {a b : Option Addr} {capa capb : Nat} {w : World} (h1 : Arg w u xs a capa) (h2 : Arg w v ys b capb) (hx : xs.length ≤ 35184372088832) (hy : ys.length ≤ 35184372088832) :
    Calls Tryz.prog 126 #[u, v] w fun e w' => e = .returned (.int .i64 (sign (val xs) (val ys))) ∧ Below w.heap.size w w' := by
  rw [h1.is, h2.is]
  refine (cmp_any a b xs ys capa capb w h1.lim h2.lim hx hy h1.le h2.le).mono fun e w' ⟨r, he, hr, hb⟩ => ⟨?_, hb⟩
  have h := (cmp_val h1.wf.trim h2.wf.trim (trim_full xs) (trim_full ys) hr).1
  rw [val_trim, val_trim] at h
  rw [he, h]
end
section
open Go.RowKit
theorem NumI.lit {base : Nat} {w : World} (h : base ≤ w.heap.size) (zs : List Int) (hm : zs.length ≤ maxLen) :
    NumI base (w.alloc (.cells (zs.map (Value.int .i64)).toArray 3)) (.slice (some ⟨w.heap.size, 0, none⟩) zs.length zs.length) zs := by
  unfold NumI
  exact ⟨by simp, .inr ⟨w.heap.size, zs.length, _, rfl, h, heap_alloc_new w _, Nat.le_refl _, hm, by simp, by simp [List.take_of_length_le]⟩⟩
theorem LimI.news {w : World} {ad : Addr} {xs : List Int} (h : LimI w (some ad) xs) : ∀ j u, (xs.map (Value.int .i64))[j]? = some u → w.cell? (ad.add j) = some u := by
  intro j u hj
  rcases h with rfl | ⟨b, off, e, hc⟩
  · simp at hj
  · cases e
    rw [List.getElem?_map] at hj
    have hjl : j < xs.length := by
      rcases Nat.lt_or_ge j xs.length with h | h
      · exact h
      · rw [List.getElem?_eq_none h] at hj; cases hj
    rw [show (⟨b, off, none⟩ : Addr).add j = ⟨b, off + j, none⟩ from (by unfold Addr.add; split <;> simp_all), hc j hjl, ← hj]
    simp [hjl]
theorem valD_drop (xs : List Int) (j : Nat) (h : j < xs.length) : valD (xs.drop j) = xs.getD j 0 + 10000 * valD (xs.drop (j + 1)) := by
  rw [List.drop_eq_getElem_cons h]
  simp [valD, h]
end
section
open Go.RowKit
theorem Calls.quiet_eq {P : Program} {f : FuncId} {args : Array Value} {w : World} {n : Nat} {v : Value} (h : Calls P f args (w.drewN n) fun e w' => e = .returned v ∧ w.drewN n = w') :
    Calls P f args (w.drewN n) fun e w'' => e = .returned v ∧ ∃ m, w'' = w.drewN m := h.mono fun _ _ ⟨he, hm⟩ => ⟨he, n, hm.symm⟩
def subToD (xs ys : List Int) : Nat → List Int × Int
  | 0 => ([], 0)
  | k + 1 => ((subToD xs ys k).1 ++ [(xs.getD k 0 - ys.getD k 0 + (subToD xs ys k).2) % 10000], (xs.getD k 0 - ys.getD k 0 + (subToD xs ys k).2) / 10000)
theorem subToD_length (xs ys : List Int) (k : Nat) : (subToD xs ys k).1.length = k := by
  induction k with
  | zero => rfl
  | succ k ih => simp [subToD, ih]
theorem subToD_carry (xs ys : List Int) (hx : WfD xs) (hy : WfD ys) (k : Nat) : -1 ≤ (subToD xs ys k).2 ∧ (subToD xs ys k).2 ≤ 0 := by
  induction k with
  | zero => simp [subToD]
  | succ k ih => have h1 := hx.getD k; have h2 := hy.getD k; simp only [subToD]; omega
theorem subToD_wf (xs ys : List Int) (k : Nat) : WfD (subToD xs ys k).1 := by
  induction k with
  | zero => exact WfD.nil
  | succ k ih => exact ih.append (WfD.cons (by omega) WfD.nil)
theorem val_subToD (xs ys : List Int) (k : Nat) : valD (subToD xs ys k).1 + 10000 ^ k * (subToD xs ys k).2 = valD (xs.take k) - valD (ys.take k) := by
  induction k with
  | zero => simp [subToD, valD]
  | succ k ih =>
    rw [val_take_succD, val_take_succD]
    simp only [subToD]
    rw [valD_snoc, subToD_length]
    simp only [Int.pow_succ]
    have hm := mod_divD (xs.getD k 0 - ys.getD k 0 + (subToD xs ys k).2)
    generalize (subToD xs ys k).2 = c at *
    generalize ((xs.getD k 0 - ys.getD k 0 + c) % 10000) = r at *
    generalize ((xs.getD k 0 - ys.getD k 0 + c) / 10000) = q at *
    generalize (10000 : Int) ^ k = P at *
    grind
theorem val_subD {xs ys : List Int} (hx : WfD xs) (hy : WfD ys) (hl : ys.length ≤ xs.length) (h : valD ys ≤ valD xs) : valD (subToD xs ys xs.length).1 = valD xs - valD ys := by
  have h1 := val_subToD xs ys xs.length
  rw [List.take_length, List.take_of_length_le hl] at h1
  have h2 := subToD_carry xs ys hx hy xs.length
  have h3 := val_ltD (subToD_wf xs ys xs.length)
  rw [subToD_length] at h3
  rcases (show (subToD xs ys xs.length).2 = 0 ∨ (subToD xs ys xs.length).2 = -1 by omega) with e | e
  · rw [e] at h1; simpa using h1
  · rw [e] at h1; omega
set_option maxHeartbeats 2000000 in
theorem subD_any {u v : Value} {xs ys : List Int} {a b : Option Addr} {capa capb : Nat} {w : World} (h1 : ArgD w u xs a capa) (h2 : ArgD w v ys b capb) (hx : xs.length ≤ 68719476736) (hy : ys.length ≤ 68719476736) :
    Calls Tryz.prog 152 #[u, v] w fun e w' => ∃ r f, e = .returned (.tuple #[r, .bool f]) ∧ Below w.heap.size w w' ∧ (valD xs < valD ys → r = .slice none 0 0 ∧ f = false) ∧
      (valD ys ≤ valD xs → f = true ∧ ∃ zs, ResD w.heap.size w' r zs (valD xs - valD ys) ∧ zs.length ≤ xs.length) := by
  obtain ⟨i0, hi, hz0, hz1, hz2⟩ := info_parts infoInt
  have cmp := cmpD_any h1 h2 hx hy
  obtain ⟨rfl, lx, _, wx, fx⟩ := h1
  obtain ⟨rfl, ly, _, wy, fy⟩ := h2
  have hlen : valD ys ≤ valD xs → ys.length ≤ xs.length := fun h => by
    rcases Nat.lt_or_ge xs.length ys.length with h3 | h3
    · have := len_ltD wx wy fy h3; omega
    · exact h3
  have HL := Lib.hid hlen
  clear fx fy hlen
  go_enter Tryz.func152, Tryz.ntmps152
  go_wp2_with fail
  refine cmp.mono ?_
  rintro e V ⟨rfl, hV⟩
  clear cmp
  by_cases hlt : valD xs < valD ys
  · rw [sign_lt hlt]
    have hd : decide ((-1 : Int) < 0) = true := by decide
    go_wp2
    go_ret2
    exact ⟨_, _, rfl, hV, fun _ => ⟨rfl, rfl⟩, fun h => by omega⟩
  · have hd : decide (sign (valD xs) (valD ys) < 0) = false := decide_eq_false (by unfold sign; rw [if_neg hlt]; split <;> omega)
    have hL := HL.out (by omega)
    go_wp2
    go_loopw [6, 7, 8, 9] (fun s c i _ wr => ∃ (k : Nat) (q : Value), k ≤ xs.length ∧ q = s ∧ c = .int .i64 (-(subToD xs ys k).2) ∧ i = .int .i64 k ∧ NumI w.heap.size wr q (subToD xs ys k).1 ∧ Below w.heap.size w wr) (fun _ _ i _ _ => xs.length + 1 - (intOf i).toNat)
    case atStart => exact ⟨0, _, Nat.zero_le _, rfl, rfl, rfl, World.ownsRow_nil _ _ _ _, hV⟩
    case round =>
      obtain ⟨k, q, hk, rfl, rfl, rfl, hown, hb⟩ := hrel
      have hsz := hb.size
      obtain ⟨c, hck⟩ : ∃ c, (subToD xs ys k).2 = c := ⟨_, rfl⟩
      have bc := subToD_carry xs ys wx wy k
      rw [hck] at bc ⊢
      obtain ⟨bc0, bc1⟩ := bc
      have hrow : wr.ownsRow w.heap.size 3 1 q k ((subToD xs ys k).1.map (Value.int .i64)) := by
        have h := hown; unfold NumI at h; rw [subToD_length] at h; exact h
      have HO := Lib.hid hown
      have HC := Lib.hid hck
      have HK := Lib.hid hk
      clear hown hck
      by_cases hgo : k < xs.length
      · obtain ⟨x, hxk⟩ : ∃ x, xs.getD k 0 = x := ⟨_, rfl⟩
        obtain ⟨y, hyk⟩ : ∃ y, ys.getD k 0 = y := ⟨_, rfl⟩
        obtain ⟨bx0, bx1⟩ : 0 ≤ x ∧ x < 10000 := hxk ▸ wx.getD k
        obtain ⟨by0, by1⟩ : 0 ≤ y ∧ y < 10000 := hyk ▸ wy.getD k
        rcases lx with rfl | ⟨ba, offa, rfl, hca⟩
        · simp at hgo
        have cx := hca k hgo
        rw [hxk] at cx
        have cx0 := (hb.cell (p := ⟨ba, offa + k, none⟩) (World.block_lt_of_cell? w _ cx)).trans cx
        have ly' := ly.later hb
        have HX := Lib.hid hxk
        have HY := Lib.hid hyk
        clear hxk cx hca
        have done : ∀ (W : World) (D C : Int) (w1 : World) (v' : Value) (o : Obj), Below w.heap.size w W → wr.heap.size ≤ W.heap.size → D = (x - y + c) % 10000 → C = -((x - y + c) / 10000) → w1.ownsRow w.heap.size 3 1 v' (k + 1) ((subToD xs ys k).1.map (Value.int .i64) ++ [Value.int .i64 D]) → (W.alloc o).grownBy w1 q.ownBlock →
            ∃ (j : Nat) (p : Value), j ≤ xs.length ∧ p = v' ∧ Value.int .i64 C = .int .i64 (-(subToD xs ys j).2) ∧ Value.int .i64 ((k : Int) + 1) = .int .i64 j ∧ NumI w.heap.size w1 p (subToD xs ys j).1 ∧ Below w.heap.size w w1 := fun W D C w1 v' o hbW hsW eD eC ho hg => by
          subst eD
          subst eC
          have hown' : w1.ownsRow w.heap.size 3 1 v' ((subToD xs ys k).1.length + 1) ((subToD xs ys k).1.map (Value.int .i64) ++ [Value.int .i64 ((x - y + c) % 10000)]) := by rw [subToD_length]; exact ho
          refine ⟨k + 1, v', by omega, rfl, by simp only [subToD]; rw [HX.out, HY.out, HC.out], by go_num, ?_, ?_⟩
          · simp only [subToD]; rw [HX.out, HY.out, HC.out]
            unfold NumI
            rw [List.length_append, List.map_append]
            exact hown'
          · exact (hbW.alloc (by omega) o).grown hg (by simp; omega) (fun k hk => (HO.out.lt k hk).1)
        have DONE := Lib.hid done
        have hwr2 : ∀ nq, Below w.heap.size w (wr.drewN nq) := fun nq => ⟨hb.os, hb.tape, hb.output, hb.size, hb.block⟩
        have HWR2 := Lib.hid hwr2
        clear done hwr2
        obtain ⟨l, hl⟩ : ∃ l, -c = l := ⟨_, rfl⟩
        obtain rfl : c = -l := by omega
        rw [hl]
        clear hl
        by_cases hn : x - y - l < 0
        · have hdd : decide (x - y - l < 0) = true := decide_eq_true hn
          go_wp2
          go_quiet ((go_at_call 133; refine Calls.quiet_eq (digit_any b ys capb k y _ ?_ (by omega) HY.out); exact ly.later (HWR2.out _)))
          have hWR := HWR2.out nq
          have hsR : wr.heap.size ≤ (wr.drewN nq).heap.size := Nat.le_refl _
          have hrowR : (wr.drewN nq).ownsRow w.heap.size 3 1 q k ((subToD xs ys k).1.map (Value.int .i64)) := hrow
          generalize wr.drewN nq = WR at *
          go_wp2_with (at_builtin; refine wpList_append_own _ rfl _ _ 73 rfl w.heap.size 3 i0 (.int .i64 0) 1 8 Tryz.underlying73 hi hz0 hz1 hz2 rfl (by decide) _ _ _ rfl (hrowR.alloc _) ⟨WR.heap.size, 0, none⟩ 1 1 [.int .i64 (x - y - l + 10000)] rfl rfl (cell_one_new _ _ _) (by simp [Value.oneCell']) (by unfold maxLen; omega) (by omega) (by simp; omega) ?_; intro v' w1 hown' hgrow _)
          go_roundw
          case rel => exact DONE.out _ _ _ _ _ _ hWR hsR (by omega) (by omega) hown' hgrow
          case measure => simp [intOf]; omega
        · have hdd : decide (x - y - l < 0) = false := decide_eq_false hn
          go_wp2
          go_quiet ((go_at_call 133; refine Calls.quiet_eq (digit_any b ys capb k y _ ?_ (by omega) HY.out); exact ly.later (HWR2.out _)))
          have hWR := HWR2.out nq
          have hsR : wr.heap.size ≤ (wr.drewN nq).heap.size := Nat.le_refl _
          have hrowR : (wr.drewN nq).ownsRow w.heap.size 3 1 q k ((subToD xs ys k).1.map (Value.int .i64)) := hrow
          generalize wr.drewN nq = WR at *
          go_wp2_with (at_builtin; refine wpList_append_own _ rfl _ _ 73 rfl w.heap.size 3 i0 (.int .i64 0) 1 8 Tryz.underlying73 hi hz0 hz1 hz2 rfl (by decide) _ _ _ rfl (hrowR.alloc _) ⟨WR.heap.size, 0, none⟩ 1 1 [.int .i64 (x - y - l)] rfl rfl (cell_one_new _ _ _) (by simp [Value.oneCell']) (by unfold maxLen; omega) (by omega) (by simp; omega) ?_; intro v' w1 hown' hgrow _)
          go_roundw
          case rel => exact DONE.out _ _ _ _ _ _ hWR hsR (by omega) (by omega) hown' hgrow
          case measure => simp [intOf]; omega
      · obtain rfl : k = xs.length := by omega
        have hv := val_subD wx wy hL (by omega)
        have HV := Lib.hid hv
        clear hv
        go_wp2_with fail
        refine (trimD_num HO.out (by rw [subToD_length]; omega)).mono ?_
        rintro e w' ⟨r, rfl, hr, rfl⟩
        go_wp2_with fail
        go_ret2
        have hlen : (trim (subToD xs ys xs.length).1).length ≤ xs.length := by have h := Nat.le_trans (Nat.le_of_eq (trim_length _)) (trim_le (subToD xs ys xs.length).1); rw [subToD_length] at h; exact h
        exact ⟨_, _, rfl, hb, fun h => by omega, fun _ => ⟨rfl, trim (subToD xs ys xs.length).1, ⟨hr, (subToD_wf xs ys _).trim, trim_full _, by rw [val_trimD, HV.out]⟩, hlen⟩⟩
end
section
open Go.RowKit
/-- a block of limbs, known whole -/
def BlkI (w : World) (g : Nat) (zs : List Int) : Prop := w.heap[g]? = some (.cells (zs.map (Value.int .i64)).toArray 3 (0, 0))
theorem BlkI.cell {w : World} {g : Nat} {zs : List Int} (h : BlkI w g zs) (i : Nat) (hi : i < zs.length) : w.cell? ⟨g, i, none⟩ = some (.int .i64 (zs.getD i 0)) := by
  have e : w.cell? ⟨g, i, none⟩ = ((zs.map (Value.int .i64)).toArray)[i]? := cell_of_row w g i _ 3 (0, 0) h
  rw [e]; simp [hi]
theorem BlkI.free {w : World} {g : Nat} {zs : List Int} (h : BlkI w g zs) (i : Nat) : w.frozen? ⟨g, i, none⟩ = false := by
  exact frozen_of_row w g i _ 3 h
theorem BlkI.lt {w : World} {g : Nat} {zs : List Int} (h : BlkI w g zs) : g < w.heap.size := lt_of_block h
theorem BlkI.same {w w' : World} {g : Nat} {zs : List Int} (h : BlkI w g zs) (e : w'.heap[g]? = w.heap[g]?) : BlkI w' g zs := e.trans h
theorem BlkI.alloc {w : World} {g : Nat} {zs : List Int} (h : BlkI w g zs) (o : Obj) : BlkI (w.alloc o) g zs := h.same (Below.heap_alloc _ _ _ h.lt)
theorem BlkI.only {w w' : World} {g b : Nat} {zs : List Int} (h : BlkI w g zs) (k : Only b w w') (hb : g ≠ b) : BlkI w' g zs := h.same (k.block g hb)
theorem BlkI.below {w w' : World} {g B : Nat} {zs : List Int} (h : BlkI w g zs) (k : Below B w w') (hb : g < B) : BlkI w' g zs := h.same (k.block g hb)
theorem BlkI.set {w : World} {g : Nat} {zs : List Int} (h : BlkI w g zs) (i : Nat) (x : Int) : BlkI (w.setCell ⟨g, i, none⟩ (.int .i64 x)) g (zs.set i x) := by
  have hh := heap_setCell_same w g i _ 3 (.int .i64 x) h
  unfold BlkI
  rw [hh]
  congr 2
  simp [List.map_set]
theorem BlkI.made (w : World) (n : Nat) : BlkI (w.alloc (.cells (madeCells #[.int .i64 0] n) 3)) w.heap.size (List.replicate n 0) := by
  have h := heap_alloc_new w (.cells (madeCells #[.int .i64 0] n) 3)
  unfold BlkI
  rw [h]
  congr 2
  apply Array.ext
  · simp [madeCells]
  · intro i h1 h2
    simp [madeCells, Nat.mod_one]
theorem NumI.ofBlk {base g : Nat} {w : World} {zs : List Int} (h : BlkI w g zs) (hb : base ≤ g) (n : Nat) (hn : n ≤ zs.length) (hm : zs.length ≤ maxLen) : NumI base w (.slice (some ⟨g, 0, none⟩) n zs.length) (zs.take n) := by
  have e : (zs.take n).length = n := by rw [List.length_take]; omega
  unfold NumI
  rw [e]
  refine ⟨by rw [List.length_map, e, Nat.mul_one], .inr ⟨g, zs.length, _, rfl, hb, h, hn, hm, by simp, ?_⟩⟩
  simp [List.map_take]
theorem BlkI.grown {w w' : World} {g : Nat} {row : Option Nat} {zs : List Int} (h : BlkI w g zs) (k : w.grownBy w' row) (hb : some g ≠ row) : BlkI w' g zs := h.same (k.block g h.lt hb)
/-- make([]limb, n, c) -/
theorem makeI_run (n c : Int) (h0 : 0 ≤ n) (hnc : n ≤ c) (hc : c ≤ 17592186044416) (w : World) :
    (Instr.makeSlice 73 (.int .i64 n) (.int .i64 c)).run Tryz.prog w = .ok (.slice (some ⟨w.heap.size, 0, none⟩) n.toNat c.toNat) (w.alloc (.cells (madeCells #[.int .i64 0] c.toNat) 3)) := by
  obtain ⟨i0, hi, hz0, hz1, hz2⟩ := info_parts infoInt
  have h := run_make (P := Tryz.prog) w 73 3 i0 (.int .i64 0) Tryz.underlying73 hi hz0 .i64 .i64 n c h0 hnc (by rw [hz2]; omega) (by omega)
  simpa [hz1, Value.cells] using h
theorem makeI_runN (n c : Nat) (hnc : n ≤ c) (hc : c ≤ 17592186044416) (w : World) :
    (Instr.makeSlice 73 (.int .i64 n) (.int .i64 c)).run Tryz.prog w = .ok (.slice (some ⟨w.heap.size, 0, none⟩) n c) (w.alloc (.cells (madeCells #[.int .i64 0] c) 3)) := by
  simpa using makeI_run n c (by omega) (by omega) (by omega) w
end
section
open Go.RowKit
/-- a quotient's digits and the rest, by a small one -/
def shortD (d : Int) : List Int → List Int × Int
  | [] => ([], 0)
  | x :: xs => (((shortD d xs).2 * 10000 + x) / d :: (shortD d xs).1, ((shortD d xs).2 * 10000 + x) % d)
theorem shortD_length (d : Int) (xs : List Int) : (shortD d xs).1.length = xs.length := by
  induction xs with
  | nil => rfl
  | cons x xs ih => simp [shortD, ih]
theorem shortD_rest {d : Int} (hd : 0 < d) (xs : List Int) : 0 ≤ (shortD d xs).2 ∧ (shortD d xs).2 < d := by
  cases xs with
  | nil => simp [shortD, hd]
  | cons x xs => exact ⟨Int.emod_nonneg _ (by omega), Int.emod_lt_of_pos _ hd⟩
theorem short_digit {d r x : Int} (hd : 0 < d) (hr : 0 ≤ r ∧ r < d) (hx : 0 ≤ x ∧ x < 10000) : 0 ≤ (r * 10000 + x) / d ∧ (r * 10000 + x) / d < 10000 := by
  constructor
  · exact Int.ediv_nonneg (by omega) (by omega)
  · exact Int.ediv_lt_of_lt_mul hd (by omega)
theorem shortD_wf {d : Int} (hd : 0 < d) {xs : List Int} (hx : WfD xs) : WfD (shortD d xs).1 := by
  induction xs with
  | nil => exact WfD.nil
  | cons x xs ih => exact WfD.cons (short_digit hd (shortD_rest hd xs) hx.head) (ih hx.tail)
theorem val_shortD (d : Int) (xs : List Int) : valD (shortD d xs).1 * d + (shortD d xs).2 = valD xs := by
  induction xs with
  | nil => simp [shortD, valD]
  | cons x xs ih =>
    simp only [shortD, valD]
    have hm := Int.mul_ediv_add_emod ((shortD d xs).2 * 10000 + x) d
    generalize ((shortD d xs).2 * 10000 + x) / d = q at *
    generalize ((shortD d xs).2 * 10000 + x) % d = r at *
    generalize valD (shortD d xs).1 = V at *
    generalize (shortD d xs).2 = s at *
    grind
theorem quo_eq {V d r N : Int} (hd : 0 < d) (h : V * d + r = N) (hr : 0 ≤ r ∧ r < d) : V = N / d ∧ r = N % d := by
  subst h
  rw [Int.add_comm]
  constructor
  · rw [Int.add_mul_ediv_right _ _ (by omega), Int.ediv_eq_zero_of_lt hr.1 hr.2, Int.zero_add]
  · rw [Int.add_mul_emod_self_right, Int.emod_eq_of_lt hr.1 hr.2]
theorem set_front (j : Nat) (L : List Int) (v : Int) : (List.replicate (j + 1) 0 ++ L).set j v = List.replicate j 0 ++ v :: L := by
  rw [List.replicate_succ', List.append_assoc, List.set_append_right _ _ (by simp)]
  simp
set_option maxHeartbeats 2000000 in
theorem short_any {u : Value} {xs : List Int} {a : Option Addr} {capa : Nat} {w : World} (d : Int) (h1 : ArgD w u xs a capa) (hx : xs.length ≤ 1099511627776) (hd : 1 ≤ d ∧ d ≤ 4294967296) :
    Calls Tryz.prog 155 #[u, .int .i64 d] w fun e w' => ∃ r, e = .returned (.tuple #[r, .int .i64 (valD xs % d)]) ∧ ∃ zs, ResD w.heap.size w' r zs (valD xs / d) ∧ zs.length ≤ xs.length ∧ Below w.heap.size w w' := by
  obtain ⟨rfl, lx, _, wx, _⟩ := h1
  obtain ⟨hd0, hd1⟩ := hd
  obtain ⟨n, hn⟩ : ∃ n, xs.length = n := ⟨_, rfl⟩
  have hmk := makeI_runN n n (Nat.le_refl _) (by omega)
  rw [hn]
  have HN := Lib.hid hn
  rw [hn] at hx
  clear hn
  go_enter Tryz.func155, Tryz.ntmps155
  go_wp2
  go_loopw [7, 8, 9] (fun s i _ wr => ∃ (k : Nat), k ≤ n ∧ s = .int .i64 (shortD d (xs.drop (n - k))).2 ∧ i = .int .i64 ((n : Int) - 1 - k) ∧ BlkI wr w.heap.size (List.replicate (n - k) 0 ++ (shortD d (xs.drop (n - k))).1) ∧ Below w.heap.size w wr) (fun _ i _ _ => (intOf i + 1).toNat)
  case atStart =>
    have e : xs.drop (n - 0) = [] := by rw [Nat.sub_zero, ← HN.out, List.drop_length]
    refine ⟨0, Nat.zero_le _, by rw [e]; rfl, by simp, ?_, ((Below.refl _ w).alloc (Nat.le_refl _) _)⟩
    rw [e]
    simpa [shortD] using BlkI.made w n
  case round =>
    obtain ⟨k, hk, rfl, rfl, hblk, hb⟩ := hrel
    have hsz := hb.size
    by_cases hlt : k < n
    · rcases lx with rfl | ⟨b, off, rfl, hc⟩
      · have := HN.out; simp at this; omega
      · obtain ⟨j, hj⟩ : ∃ j, j + k + 1 = n := ⟨n - k - 1, by omega⟩
        have hji : ((n : Int) - 1 - k) = (j : Int) := by omega
        obtain ⟨x, hxk⟩ : ∃ x, xs.getD j 0 = x := ⟨_, rfl⟩
        obtain ⟨bx0, bx1⟩ : 0 ≤ x ∧ x < 10000 := hxk ▸ wx.getD j
        have hjl : j < xs.length := by have := HN.out; omega
        have hcj := hc j hjl
        rw [hxk] at hcj
        have hc0 : wr.cell? ⟨b, off + j, none⟩ = some (.int .i64 x) := (hb.cell (p := ⟨b, off + j, none⟩) (World.block_lt_of_cell? w _ hcj)).trans hcj
        have hge : (0 : Int) ≤ (j : Int) := by omega
        have hjn : (j : Int) < (n : Int) := by omega
        obtain ⟨r, hr⟩ : ∃ r, (shortD d (xs.drop (n - k))).2 = r := ⟨_, rfl⟩
        obtain ⟨br0, br1⟩ := shortD_rest (show 0 < d by omega) (xs.drop (n - k))
        have hst : shortD d (xs.drop (n - (k + 1))) = ((r * 10000 + x) / d :: (shortD d (xs.drop (n - k))).1, (r * 10000 + x) % d) := by
          rw [show n - (k + 1) = j from by omega, show n - k = j + 1 from by omega, List.drop_eq_getElem_cons hjl]
          have e : xs[j] = x := by rw [← hxk]; simp [hjl]
          simp only [shortD]
          rw [e, show j + 1 = n - k from by omega, hr]
        rw [hr] at br0 br1
        rw [hji, hr]
        rw [show n - k = j + 1 from by omega] at hblk hr hst
        have hset := hblk.set j ((r * 10000 + x) / d)
        rw [set_front] at hset
        have hlen : (List.replicate (j + 1) 0 ++ (shortD d (xs.drop (j + 1))).1).length = n := by rw [List.length_append, List.length_replicate, shortD_length, List.length_drop, HN.out]; omega
        have hcell := hblk.cell j (by omega)
        have hfree := hblk.free j
        obtain ⟨bq0, bq1⟩ := short_digit (show 0 < d by omega) ⟨br0, br1⟩ ⟨bx0, bx1⟩
        have bm0 : 0 ≤ (r * 10000 + x) % d := Int.emod_nonneg _ (by omega)
        have bm1 : (r * 10000 + x) % d < d := Int.emod_lt_of_pos _ (by omega)
        have hq : Int.tdiv (r * 10000 + x) d = (r * 10000 + x) / d := Int.tdiv_eq_ediv_of_nonneg (by omega)
        have hm : Int.tmod (r * 10000 + x) d = (r * 10000 + x) % d := Int.tmod_eq_emod_of_nonneg (by omega)
        have hdz : (d == 0) = false := by simp; omega
        have HST := Lib.hid hst
        have HJ := Lib.hid hj
        have HSET := Lib.hid hset
        clear hst hj hset hblk hr hxk hc hcj hji hlen
        go_wp2
        go_roundw
        case rel =>
          refine ⟨k + 1, by omega, by rw [HST.out], by have := HJ.out; congr 1; omega, ?_, hb.setCell (p := ⟨w.heap.size, j, none⟩) (Nat.le_refl _) _⟩
          rw [HST.out, show n - (k + 1) = j from by have := HJ.out; omega]
          exact HSET.out
        case measure => simp [intOf]
    · obtain rfl : k = n := by omega
      have hji : ((k : Int) - 1 - k) = -1 := by omega
      rw [hji]
      clear hji
      obtain ⟨r, hr⟩ : ∃ r, (shortD d (xs.drop (k - k))).2 = r := ⟨_, rfl⟩
      rw [hr]
      rw [Nat.sub_self] at hblk hr
      rw [List.drop_zero] at hblk hr
      rw [List.replicate_zero, List.nil_append] at hblk
      have hl := shortD_length d xs
      rw [HN.out] at hl
      have hnum := NumI.ofBlk hblk (Nat.le_refl _) k (by omega) (by rw [hl]; unfold maxLen; omega)
      rw [hl, List.take_of_length_le (by omega)] at hnum
      obtain ⟨e1, e2⟩ := quo_eq (show 0 < d by omega) (val_shortD d xs) (shortD_rest (by omega) xs)
      have wq := shortD_wf (show 0 < d by omega) wx
      rw [hr] at e2
      have E1 := Lib.hid e1
      have E2 := Lib.hid e2
      clear hblk hr e1 e2
      go_wp2_with fail
      refine (trimD_num hnum (by omega)).mono ?_
      rintro e w' ⟨q, rfl, hq, rfl⟩
      go_wp2_with fail
      go_ret2
      have hlen : (trim (shortD d xs).1).length ≤ xs.length := by have h := Nat.le_trans (Nat.le_of_eq (trim_length _)) (trim_le (shortD d xs).1); rw [shortD_length] at h; exact h
      refine ⟨q, by rw [← E2.out]; rfl, trim (shortD d xs).1, ⟨hq, wq.trim, trim_full _, by rw [val_trimD, E1.out]⟩, by rw [← HN.out]; exact hlen, hb⟩
/-- N has k bits -/
def IsBits (N : Int) (k : Nat) : Prop := (k = 0 ∧ N = 0) ∨ ∃ j : Nat, k = j + 1 ∧ 2 ^ j ≤ N ∧ N < 2 ^ (j + 1)
theorem two_pos (k : Nat) : (0 : Int) < 2 ^ k := Int.pow_pos (by omega)
theorem two_mono {j k : Nat} (h : j ≤ k) : (2 : Int) ^ j ≤ 2 ^ k := by
  rw [show k = j + (k - j) from by omega, Int.pow_add]
  have h4 : (2 : Int) ^ j * 1 ≤ 2 ^ j * 2 ^ (k - j) := Int.mul_le_mul_of_nonneg_left (by have := two_pos (k - j); omega) (Int.le_of_lt (two_pos _))
  omega
theorem IsBits.unique {N : Int} {k l : Nat} (h : IsBits N k) (g : IsBits N l) : k = l := by
  rcases h with ⟨rfl, rfl⟩ | ⟨j, rfl, h1, h2⟩
  · rcases g with ⟨rfl, _⟩ | ⟨i, rfl, g1, g2⟩
    · rfl
    · have := two_pos i; omega
  · rcases g with ⟨rfl, rfl⟩ | ⟨i, rfl, g1, g2⟩
    · have := two_pos j; omega
    · rcases Nat.lt_trichotomy j i with e | e | e
      · have := two_mono (show j + 1 ≤ i by omega); omega
      · rw [e]
      · have := two_mono (show i + 1 ≤ j by omega); omega
theorem IsBits.le {N : Int} {k m : Nat} (h : IsBits N k) (hm : N < 2 ^ m) : k ≤ m := by
  rcases h with ⟨rfl, _⟩ | ⟨j, rfl, h1, _⟩
  · omega
  · rcases Nat.lt_or_ge j m with e | e
    · omega
    · have := two_mono e; omega
theorem IsBits.lt {N : Int} {k m : Nat} (h : IsBits N k) (hm : k ≤ m) : N < 2 ^ m := by
  rcases h with ⟨rfl, rfl⟩ | ⟨j, rfl, _, h2⟩
  · exact two_pos m
  · have := two_mono hm; omega
theorem valD_zero {ds : List Int} (h : WfD ds) (f : trimN ds ds.length = ds.length) (e : valD ds = 0) : ds.length = 0 := by
  rcases Nat.eq_zero_or_pos ds.length with h0 | h0
  · exact h0
  · have h1 := full_geD h f (ds.length - 1) (by omega)
    have h2 := pow_posD (ds.length - 1)
    omega
end
section
open Go.RowKit
theorem bitLen_is {t : Int} (h0 : 0 < t) (h1 : t < 18446744073709551616) : ∃ j : Nat, Lib.bitLen t.toNat = j + 1 ∧ 2 ^ j ≤ t ∧ t < 2 ^ (j + 1) := by
  obtain ⟨n, rfl⟩ := Int.eq_ofNat_of_zero_le (Int.le_of_lt h0)
  obtain ⟨a, b, c⟩ := Lib.bitLenAux_bounds 64 n (by omega) (by omega)
  rw [Int.toNat_natCast]
  unfold Lib.bitLen
  refine ⟨Lib.bitLenAux 64 n - 1, by omega, ?_, ?_⟩
  · exact_mod_cast b
  · rw [show Lib.bitLenAux 64 n - 1 + 1 = Lib.bitLenAux 64 n from by omega]; exact_mod_cast c
theorem pow_limb (m : Nat) : (4294967296 : Int) ^ m = 2 ^ (m * 32) := by rw [Nat.mul_comm, Int.pow_mul, show (2 : Int) ^ 32 = 4294967296 from rfl]
theorem bitsN_is {xs : List Int} (hx : Wf xs) : IsBits (val xs) (bitsN xs) := by
  unfold bitsN
  split
  · rename_i h
    refine .inl ⟨rfl, ?_⟩
    rw [← val_trim xs]
    unfold trim
    rw [h]
    rfl
  · rename_i h
    obtain ⟨m, hm⟩ : ∃ m, trimN xs xs.length = m + 1 := ⟨trimN xs xs.length - 1, by omega⟩
    have hne := trimN_last xs xs.length (by omega)
    have hv := val_take_ge xs (m + 1) (by omega)
    rw [hm, Nat.add_sub_cancel] at hne ⊢
    rw [val_take_succ] at hv
    have b1 := hx.getD m
    have b2 := val_nonneg (hx.take m)
    have b3 := val_lt (hx.take m)
    have b4 : (4294967296 : Int) ^ (xs.take m).length = 4294967296 ^ m := by rw [List.length_take, Nat.min_eq_left (by have := trim_le xs; omega)]
    rw [b4] at b3
    obtain ⟨j, hj, h1, h2⟩ := bitLen_is (show 0 < xs.getD m 0 by omega) (by omega)
    rw [hj]
    refine .inr ⟨m * 32 + j, rfl, ?_⟩
    rw [show m * 32 + j + 1 = m * 32 + (j + 1) from rfl, Int.pow_add, Int.pow_add, ← pow_limb]
    have hp := pow_pos' m
    generalize xs.getD m 0 = x at *
    generalize (4294967296 : Int) ^ m = P at *
    generalize val (xs.take m) = V at *
    have c1 : P * 2 ^ j ≤ P * x := Int.mul_le_mul_of_nonneg_left h1 (by omega)
    have c2 : P * (x + 1) ≤ P * 2 ^ (j + 1) := Int.mul_le_mul_of_nonneg_left (by omega) (by omega)
    rw [Int.mul_add, Int.mul_one] at c2
    omega
theorem two_limbs {xs : List Int} (hx : Wf xs) (h : bitsN xs ≤ 64) : 4294967296 * xs.getD 1 0 + xs.getD 0 0 = val xs := by
  have hb := (bitsN_is hx).lt (m := 64) h
  have ht : trimN xs xs.length ≤ 2 := by
    rcases Nat.lt_or_ge 2 (trimN xs xs.length) with e | e
    · exfalso
      have h1 := full_ge hx.trim (trim_full xs) (trimN xs xs.length - 1) (by rw [trim_length]; omega)
      rw [val_trim] at h1
      have h2 : (2 : Int) ^ 64 ≤ 4294967296 ^ (trimN xs xs.length - 1) := by rw [pow_limb]; exact two_mono (by omega)
      omega
    · exact e
  rw [← val_take_ge xs 2 ht, val_take_succ, val_take_succ]
  simp [val]
  omega
theorem bits_res {u : Value} {xs : List Int} {a : Option Addr} {capa : Nat} {w : World} {n : Nat} (h1 : Arg w u xs a capa) (hx : xs.length ≤ 35184372088832) (hn : IsBits (val xs) n) :
    Calls Tryz.prog 124 #[u] w fun e w' => e = .returned (.int .i64 n) ∧ w = w' := by
  rw [h1.is]
  refine (bits_any a xs capa w h1.lim hx h1.le h1.wf).mono fun e w' ⟨he, hw⟩ => ⟨?_, hw⟩
  rw [he, hn.unique (bitsN_is h1.wf)]
theorem uint_small {u : Value} {xs : List Int} {a : Option Addr} {capa : Nat} {w : World} (h1 : Arg w u xs a capa) (hx : xs.length ≤ 35184372088832) (hn : val xs < 18446744073709551616) :
    Calls Tryz.prog 136 #[u] w fun e w' => e = .returned (.tuple #[.int .u64 (val xs), .bool true]) ∧ w = w' := by
  rw [h1.is]
  have hb : bitsN xs ≤ 64 := (bitsN_is h1.wf).le (m := 64) hn
  refine (uint_any a xs capa w h1.lim hx h1.le h1.wf).mono fun e w' ⟨he, hw⟩ => ⟨?_, hw⟩
  rw [he, if_pos hb, two_limbs h1.wf hb]
theorem uint_big {u : Value} {xs : List Int} {a : Option Addr} {capa : Nat} {w : World} (h1 : Arg w u xs a capa) (hx : xs.length ≤ 35184372088832) (hn : 18446744073709551616 ≤ val xs) :
    Calls Tryz.prog 136 #[u] w fun e w' => e = .returned (.tuple #[.int .u64 0, .bool false]) ∧ w = w' := by
  rw [h1.is]
  have hb : ¬ bitsN xs ≤ 64 := fun h => by have := (bitsN_is h1.wf).lt (m := 64) h; omega
  refine (uint_any a xs capa w h1.lim hx h1.le h1.wf).mono fun e w' ⟨he, hw⟩ => ⟨?_, hw⟩
  rw [he, if_neg hb]
set_option maxHeartbeats 400000 in
theorem ofN_any (n : Int) (w : World) (h0 : 0 ≤ n) (h1 : n < 18446744073709551616) :
    Calls Tryz.prog 113 #[.int .u64 n] w fun e w' => ∃ r zs, e = .returned r ∧ Res w.heap.size w' r zs n ∧ zs.length ≤ 2 ∧ Below w.heap.size w w' := by
  have hwf : Wf [n % 4294967296, n / 4294967296] := wf2 (by omega) (by omega)
  have hnum := Num.ofBlk (base := w.heap.size) (g := w.heap.size) (Blk.lit w [n % 4294967296, n / 4294967296]) (Nat.le_refl _) 2 (by simp) (by unfold maxLen; simp)
  go_enter Tryz.func113, Tryz.ntmps113
  go_wp2_with fail
  refine (cut_num hnum).mono ?_
  rintro e w' ⟨u, rfl, hu, rfl⟩
  go_wp2_with fail
  go_ret
  refine ⟨_, _, rfl, ⟨hu, hwf.trim, trim_full _, by rw [val_trim]; simp [val]; omega⟩, ?_, (Below.refl _ w).alloc (Nat.le_refl _) _⟩
  exact trim_len_le [n % 4294967296, n / 4294967296]
end
section
open Go.RowKit
/-- limbs, shifted down by fewer than 32 places -/
def shrW (q : Nat) : List Int → List Int
  | [] => []
  | x :: L => ((4294967296 * L.getD 0 0 + x) / 2 ^ q) % 4294967296 :: shrW q L
theorem shrW_length (q : Nat) (L : List Int) : (shrW q L).length = L.length := by
  induction L with
  | nil => rfl
  | cons x L ih => simp [shrW, ih]
theorem shrW_wf (q : Nat) (L : List Int) : Wf (shrW q L) := by
  induction L with
  | nil => exact Wf.nil
  | cons x L ih => exact Wf.cons (by omega) ih
theorem shrW_at (q : Nat) (L : List Int) (i : Nat) (h : i < L.length) : (shrW q L).getD i 0 = ((4294967296 * L.getD (i + 1) 0 + L.getD i 0) / 2 ^ q) % 4294967296 := by
  induction L generalizing i with
  | nil => simp at h
  | cons x L ih =>
    cases i with
    | zero => simp [shrW]
    | succ i =>
      have := ih i (by simpa using h)
      simpa [shrW] using this
theorem val_head (L : List Int) : val L = L.getD 0 0 + 4294967296 * val L.tail := by
  cases L with
  | nil => simp [val]
  | cons x L => simp [val]
theorem val_shrW (q : Nat) (hq : q < 32) {L : List Int} (hw : Wf L) : val (shrW q L) = val L / 2 ^ q := by
  induction L with
  | nil => simp [shrW, val]
  | cons x L ih =>
    simp only [shrW, val]
    rw [ih hw.tail]
    have hx := hw.head
    have hy := hw.tail.getD 0
    have hP := two_pos q
    have hB : (4294967296 : Int) = 2 ^ q * 2 ^ (32 - q) := by rw [← Int.pow_add, show q + (32 - q) = 32 from by omega]; rfl
    have hv := val_head L
    generalize val L.tail = z at hv
    generalize L.getD 0 0 = y at *
    rw [hv]
    generalize hPd : (2 : Int) ^ q = P at *
    generalize hQd : (2 : Int) ^ (32 - q) = Q at *
    have e1 : (y + 4294967296 * z) / P = y / P + Q * z := by
      rw [show y + 4294967296 * z = y + P * (Q * z) from by rw [← Int.mul_assoc, ← hB], Int.add_mul_ediv_left _ _ (by omega)]
    have e2 : (x + 4294967296 * (y + 4294967296 * z)) / P = (4294967296 * y + x) / P + 4294967296 * (Q * z) := by
      rw [show x + 4294967296 * (y + 4294967296 * z) = 4294967296 * y + x + P * (4294967296 * (Q * z)) from by
        rw [show P * (4294967296 * (Q * z)) = 4294967296 * (P * Q * z) from by rw [Int.mul_assoc P Q z, Int.mul_left_comm], ← hB]; omega]
      rw [Int.add_mul_ediv_left _ _ (by omega)]
    have e3 : (4294967296 * y + x) / P / 4294967296 = y / P := by
      rw [Int.ediv_ediv_of_nonneg (by omega), Int.mul_comm P, ← Int.ediv_ediv_of_nonneg (by omega)]
      congr 1
      omega
    have e4 := Int.mul_ediv_add_emod ((4294967296 * y + x) / P) 4294967296
    rw [e3] at e4
    rw [e1, e2]
    generalize y / P = Y at *
    generalize (4294967296 * y + x) / P = D at *
    generalize Q * z = S at *
    omega
theorem shift_parts (n : Int) (h : n ≤ 9223372036854775807) : ∃ wh q : Nat, max n 0 / 32 = wh ∧ max n 0 % 32 = q ∧ n.toNat = wh * 32 + q ∧ q < 32 ∧ wh ≤ 288230376151711744 :=
  ⟨n.toNat / 32, n.toNat % 32, by omega, by omega, by omega, by omega, by omega⟩
theorem val_shr {xs : List Int} (wh q : Nat) (hw : Wf xs) : val xs / 2 ^ (wh * 32 + q) = val (xs.drop wh) / 2 ^ q := by
  rw [Int.pow_add, ← pow_limb, ← Int.ediv_ediv_of_nonneg (Int.le_of_lt (pow_pos' _))]
  congr 1
  rcases Nat.lt_or_ge wh xs.length with h | h
  · have e := val_append (xs.take wh) (xs.drop wh)
    rw [List.take_append_drop, List.length_take, Nat.min_eq_left (by omega)] at e
    have h1 := val_nonneg (hw.take wh)
    have h2 := val_lt (hw.take wh)
    rw [List.length_take, Nat.min_eq_left (by omega)] at h2
    rw [e, Int.add_mul_ediv_left _ _ (by have := pow_pos' wh; omega), Int.ediv_eq_zero_of_lt h1 h2, Int.zero_add]
  · rw [List.drop_of_length_le h]
    have h2 := val_lt hw
    have h4 : (4294967296 : Int) ^ xs.length ≤ 4294967296 ^ wh := by rw [pow_limb, pow_limb]; exact two_mono (by omega)
    rw [Int.ediv_eq_zero_of_lt (val_nonneg hw) (by omega)]
    rfl
set_option maxHeartbeats 2000000 in
theorem shr_any {u : Value} {xs : List Int} {a : Option Addr} {capa : Nat} {w : World} (n : Int) (h1 : Arg w u xs a capa) (hx : xs.length ≤ 35184372088832) (hn1 : -9223372036854775808 ≤ n) (hn2 : n ≤ 9223372036854775807) :
    Calls Tryz.prog 159 #[u, .int .i64 n] w fun e w' => ∃ r zs, e = .returned r ∧ Res w.heap.size w' r zs (val xs / 2 ^ n.toNat) ∧ zs.length ≤ xs.length ∧ Below w.heap.size w w' := by
  obtain ⟨rfl, hl, hcap, hwf⟩ := h1
  obtain ⟨wh, q, e1, e2, e3, hq, hwh⟩ := shift_parts n hn2
  have hta := trim_le xs
  have hval : val xs / 2 ^ n.toNat = val ((trim xs).drop wh) / 2 ^ q := by rw [e3, ← val_shr wh q hwf.trim, val_trim]
  have hwt := hwf.trim
  have htl := trim_length xs
  have hlt : Lim w a (trim xs) := hl.take _
  rw [hval]
  have sp := split_any n w hn1 hn2
  rw [e1, e2] at sp
  obtain ⟨t, ht⟩ : ∃ t, trimN xs xs.length = t := ⟨_, rfl⟩
  rw [ht] at hta htl
  generalize trim xs = ys at *
  have HT := Lib.hid htl
  have HTT := Lib.hid ht
  clear hval e1 e2 e3 htl ht hwf
  go_enter Tryz.func159, Tryz.ntmps159
  go_wp2_with fail
  refine sp.mono ?_
  rintro e w' ⟨rfl, rfl⟩
  clear sp
  go_wp2_with fail
  refine (cut_any a xs capa _ hl (by unfold maxLen; omega) hcap).mono ?_
  rintro e w' ⟨rfl, rfl⟩
  rw [HTT.out]
  by_cases hge : t ≤ wh
  · have hge2 : (t : Int) ≤ (wh : Int) := by omega
    go_wp2
    go_ret
    exact ⟨_, [], rfl, ⟨World.ownsRow_nil _ _ _ _, Wf.nil, rfl, by rw [List.drop_of_length_le (by rw [HT.out]; exact hge)]; simp [val]⟩, by simp, Below.refl _ _⟩
  · obtain ⟨m, hm⟩ : ∃ m, wh + m = t := ⟨t - wh, by omega⟩
    have hlt2 : ¬ (t : Int) ≤ (wh : Int) := by omega
    have hsub : (t : Int) - (wh : Int) = (m : Int) := by omega
    have hmk := make_runN m m (Nat.le_refl _) (by omega)
    obtain ⟨L, hL⟩ : ∃ L, shrW q (ys.drop wh) = L := ⟨_, rfl⟩
    have hLl : L.length = m := by rw [← hL, shrW_length, List.length_drop, HT.out]; omega
    have HL := Lib.hid hL
    have HLL := Lib.hid hLl
    have hcapt : t ≤ capa := by omega
    clear hL hLl
    go_wp2
    go_loopw [8, 27] (fun _ i wr => ∃ k : Nat, k ≤ m ∧ i = .int .i64 k ∧ Blk wr w.heap.size (L.take k ++ List.replicate (m - k) 0) ∧ Below w.heap.size w wr) (fun _ i _ => m - (intOf i).toNat)
    case atStart => exact ⟨0, Nat.zero_le _, rfl, by simpa using Blk.made w m, (Below.refl _ w).alloc (Nat.le_refl _) _⟩
    case round =>
      obtain ⟨k, hk, rfl, hblk, hb⟩ := hrel
      by_cases hkm : k < m
      · have hkm2 : (k : Int) < (m : Int) := by omega
        have hlz : (L.take k ++ List.replicate (m - k) 0).length = m := by rw [List.length_append, List.length_take, HLL.out, List.length_replicate]; omega
        have hcell := hblk.cell k (by omega)
        have hfree := hblk.free k
        have hset := hblk.set k (L.getD k 0)
        rw [set_mid _ _ _ _ (by rw [List.length_take, HLL.out]; omega) hkm] at hset
        have hpr := pair_any a ys capa ((wh : Int) + k) wr (hlt.later hb) (by rw [HT.out]; unfold maxLen; omega) (by omega) (by omega) hwt
        have ei : ((wh : Int) + k).toNat = wh + k := by omega
        rw [ei, HT.out] at hpr
        have hLk : L.getD k 0 = ((4294967296 * ys.getD (wh + k + 1) 0 + ys.getD (wh + k) 0) / 2 ^ q) % 4294967296 := by
          rw [← HL.out, shrW_at _ _ _ (by rw [List.length_drop, HT.out]; omega)]
          simp [List.getElem?_drop, Nat.add_assoc]
        obtain ⟨p0, p1⟩ : 0 ≤ 4294967296 * ys.getD (wh + k + 1) 0 + ys.getD (wh + k) 0 ∧ 4294967296 * ys.getD (wh + k + 1) 0 + ys.getD (wh + k) 0 < 18446744073709551616 := by have b1 := hwt.getD (wh + k + 1); have b0 := hwt.getD (wh + k); omega
        obtain ⟨d, hd⟩ : ∃ d, 4294967296 * ys.getD (wh + k + 1) 0 + ys.getD (wh + k) 0 = d := ⟨_, rfl⟩
        rw [hd] at hpr hLk p0 p1
        have hp := two_pos q
        have d0 : 0 ≤ d / 2 ^ q := Int.ediv_nonneg p0 (by omega)
        have d1 : d / 2 ^ q ≤ d := Int.ediv_le_self _ p0
        have HSET := Lib.hid hset
        have HLK := Lib.hid hLk
        clear hset hLk hlz hd ei hblk
        go_wp2_with fail
        refine hpr.mono ?_
        rintro e w' ⟨rfl, rfl⟩
        go_wp2
        go_roundw
        case rel =>
          refine ⟨k + 1, by omega, by go_num, ?_, hb.setCell (p := ⟨w.heap.size, k, none⟩) (Nat.le_refl _) _⟩
          have e : L.take (k + 1) = L.take k ++ [L.getD k 0] := by
            have hl := HLL.out
            rw [List.take_succ_eq_append_getElem (by omega)]
            simp [show k < L.length by omega]
          rw [e, ← HLK.out]
          exact HSET.out
        case measure => simp [intOf]; omega
      · obtain rfl : k = m := by omega
        have hl := HLL.out
        rw [Nat.sub_self, List.replicate_zero, List.append_nil, List.take_of_length_le (by omega)] at hblk
        have hnum := Num.ofBlk hblk (Nat.le_refl _) k (by omega) (by rw [hl]; unfold maxLen; omega)
        rw [hl, List.take_of_length_le (by omega)] at hnum
        have hv : val L = val (ys.drop wh) / 2 ^ q := by rw [← HL.out]; exact val_shrW q hq (hwt.drop wh)
        have wL : Wf L := by rw [← HL.out]; exact shrW_wf _ _
        have HV := Lib.hid hv
        clear hv hblk
        go_wp2_with fail
        refine (cut_num hnum).mono ?_
        rintro e w' ⟨z, rfl, hz, rfl⟩
        go_wp2_with fail
        go_ret
        exact ⟨_, _, rfl, ⟨hz, wL.trim, trim_full _, by rw [val_trim, HV.out]⟩, by have := trim_len_le L; have h2 := HLL.out; omega, hb⟩
end
end Go.Proofs.YtooglnhlhgmhdaaGreat
