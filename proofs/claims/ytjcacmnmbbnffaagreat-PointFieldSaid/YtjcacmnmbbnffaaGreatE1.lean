/-
  Contracts of the reference: digit, trim, Small, Add, Times.
-/
import Derived.WalkKit
import Derived.Test.YtjcacmnmbbnffaaGreatRows
import Derived.BigQuiet
import Derived.Deep.QuietTactic
import Derived.Lib.Hide
import Derived.Lib.Small
import Derived.Lib.Walk
import Derived.Lib.BitFns
import Derived.Maps.AppendAt
import Derived.RangeFuncNested
import Derived.RangeFuncBound
import Derived.RangeFuncCalls
import Derived.RangeFuncLeaves
import Derived.Shelf.Abstract
import Derived.OwnWalkIn
import Derived.TacticsInMore
import Derived.LoopNIn
import Derived.LoopIn
import Derived.RangeFuncBox
import Derived.Deep.RegionHeld3
import Derived.OrdersIn
import Derived.StillTailTactics
import Derived.RangeFuncFrom
import Derived.Laws.EntriesVeiled
import Derived.ProofKit
import Derived.OpenShut
import Derived.JoinedCond
import Derived.Carry
import Derived.Laws.AppendOwnNone
import Derived.Laws.CopyOwn
namespace Go.Proofs.YtjcacmnmbbnffaaGreat
set_option maxRecDepth 100000
section
open Go.RowKit
/-- the number that limbs stand for -/
def val : List Int → Int
  | [] => 0
  | x :: xs => x + 4294967296 * val xs
/-- all are limbs -/
def Wf (xs : List Int) : Prop := ∀ x ∈ xs, 0 ≤ x ∧ x < 4294967296
/-- without the zeros at the end -/
def trimN (xs : List Int) : Nat → Nat
  | 0 => 0
  | n + 1 => if xs.getD n 0 = 0 then trimN xs n else n + 1
def trim (xs : List Int) : List Int := xs.take (trimN xs xs.length)
theorem Wf.nil : Wf [] := by intro x h; cases h
theorem Wf.cons {x : Int} {xs : List Int} (h : 0 ≤ x ∧ x < 4294967296) (hs : Wf xs) : Wf (x :: xs) := by
  intro y hy
  rcases List.mem_cons.1 hy with rfl | hy
  · exact h
  · exact hs y hy
theorem Wf.tail {x : Int} {xs : List Int} (h : Wf (x :: xs)) : Wf xs := fun y hy => h y (List.mem_cons_of_mem _ hy)
theorem Wf.head {x : Int} {xs : List Int} (h : Wf (x :: xs)) : 0 ≤ x ∧ x < 4294967296 := h x List.mem_cons_self
theorem Wf.append {xs ys : List Int} (h : Wf xs) (k : Wf ys) : Wf (xs ++ ys) := by
  intro x hx
  rcases List.mem_append.1 hx with hx | hx
  · exact h x hx
  · exact k x hx
theorem Wf.take {xs : List Int} (h : Wf xs) (n : Nat) : Wf (xs.take n) := fun x hx => h x (List.mem_of_mem_take hx)
theorem Wf.drop {xs : List Int} (h : Wf xs) (n : Nat) : Wf (xs.drop n) := fun x hx => h x (List.mem_of_mem_drop hx)
theorem Wf.getD {xs : List Int} (h : Wf xs) (i : Nat) : 0 ≤ xs.getD i 0 ∧ xs.getD i 0 < 4294967296 := by
  by_cases hi : i < xs.length
  · have : xs.getD i 0 = xs[i] := by simp [List.getD, hi]
    rw [this]
    exact h _ (List.getElem_mem hi)
  · have : xs.getD i 0 = 0 := by simp [List.getD, List.getElem?_eq_none (Nat.le_of_not_lt hi)]
    rw [this]; omega
theorem trimN_le (xs : List Int) (n : Nat) : trimN xs n ≤ n := by
  induction n with
  | zero => exact Nat.le_refl _
  | succ n ih => unfold trimN; split <;> omega
theorem trim_le (xs : List Int) : trimN xs xs.length ≤ xs.length := trimN_le xs _
theorem trim_length (xs : List Int) : (trim xs).length = trimN xs xs.length := by
  unfold trim; rw [List.length_take]; have := trim_le xs; omega
theorem Wf.trim {xs : List Int} (h : Wf xs) : Wf (trim xs) := h.take _
theorem val_nonneg {xs : List Int} (h : Wf xs) : 0 ≤ val xs := by
  induction xs with
  | nil => simp [val]
  | cons x xs ih => have := ih h.tail; have := h.head; simp only [val]; omega
theorem val_append (xs ys : List Int) : val (xs ++ ys) = val xs + 4294967296 ^ xs.length * val ys := by
  induction xs with
  | nil => simp [val]
  | cons x xs ih => simp only [List.cons_append, val, ih, List.length_cons, Int.pow_succ]; grind
theorem val_zeros (n : Nat) : val (List.replicate n 0) = 0 := by
  induction n with
  | zero => rfl
  | succ n ih => simp [List.replicate_succ, val, ih]
theorem wrap_u64 {x : Int} (h0 : 0 ≤ x) (h1 : x < 18446744073709551616) : IntKind.u64.wrap x = x := by
  simp only [IntKind.wrap, IntKind.bits, IntKind.signed, Bool.false_and, Bool.false_eq_true, if_false]
  exact Int.emod_eq_of_lt h0 h1
theorem wrap_u32 (x : Int) : IntKind.u32.wrap x = x % 4294967296 := by
  simp only [IntKind.wrap, IntKind.bits, IntKind.signed, Bool.false_and, Bool.false_eq_true, if_false]
  rfl
theorem or_u64 {x y : Int} (hx : 0 ≤ x ∧ x < 4294967296) (hy : 0 ≤ y ∧ y < 4294967296) : bits .or .u64 (x * 4294967296) y = 4294967296 * x + y := by
  rw [u64_or _ _ (by omega) (by omega) (by omega) (by omega)]
  obtain ⟨a, rfl⟩ := Int.eq_ofNat_of_zero_le hx.1
  obtain ⟨b, rfl⟩ := Int.eq_ofNat_of_zero_le hy.1
  have h1 : ((a : Int) * 4294967296).toNat = 2 ^ 32 * a := by omega
  rw [h1, Int.toNat_natCast, ← Nat.two_pow_add_eq_or_of_lt (by omega)]
  omega
theorem not_u32 {y : Int} (hy : 0 ≤ y ∧ y < 4294967296) : bits .xor .u32 (if IntKind.u32.signed = true then -1 else IntKind.u32.max) y = 4294967295 - y := by
  have e : (if IntKind.u32.signed = true then -1 else IntKind.u32.max) = (4294967295 : Int) := rfl
  obtain ⟨a, rfl⟩ := Int.eq_ofNat_of_zero_le hy.1
  rw [e]
  show IntKind.u32.wrap ((BitVec.ofInt 32 4294967295 ^^^ BitVec.ofInt 32 (a : Int)).toNat : Int) = _
  have e2 : BitVec.ofInt 32 4294967295 = BitVec.allOnes 32 := by decide
  have e3 : BitVec.allOnes 32 ^^^ BitVec.ofInt 32 (a : Int) = ~~~ (BitVec.ofInt 32 (a : Int)) := BitVec.allOnes_xor
  rw [e2, e3, BitVec.toNat_not, ofInt_u32 a (by omega), wrap_u32]
  omega
theorem not_limb {y : Int} (hy : 0 ≤ y ∧ y < 4294967296) : IntKind.u64.wrap (bits .xor .u32 (if IntKind.u32.signed = true then -1 else IntKind.u32.max) y) = 4294967295 - y := by
  rw [not_u32 hy]
  exact wrap_u64 (by omega) (by omega)
theorem set_mid (l : List Int) (n k : Nat) (z : Int) (hl : l.length = k) (hk : k < n) : (l ++ List.replicate (n - k) 0).set k z = l ++ [z] ++ List.replicate (n - (k + 1)) 0 := by
  obtain ⟨j, hj⟩ : ∃ j, n - k = j + 1 := ⟨n - k - 1, by omega⟩
  have e2 : n - (k + 1) = j := by omega
  rw [hj, e2, List.replicate_succ, List.set_append_right _ _ (by omega), hl, Nat.sub_self, List.set_cons_zero, List.append_assoc]
  rfl
structure Only (b : Nat) (w w' : World) : Prop where
  os : w'.os = w.os
  tape : w'.tape = w.tape
  output : w'.output = w.output
  size : w'.heap.size = w.heap.size
  block : ∀ k, k ≠ b → w'.heap[k]? = w.heap[k]?
theorem Only.refl (b : Nat) (w : World) : Only b w w := ⟨rfl, rfl, rfl, rfl, fun _ _ => rfl⟩
theorem Only.trans {b : Nat} {x y z : World} (h : Only b x y) (k : Only b y z) : Only b x z :=
  ⟨k.os.trans h.os, k.tape.trans h.tape, k.output.trans h.output, k.size.trans h.size, fun i hi => (k.block i hi).trans (h.block i hi)⟩
theorem Only.setCell (w : World) (a : Addr) (u : Value) : Only a.block w (w.setCell a u) :=
  ⟨rfl, rfl, rfl, by simp [World.setCell], fun k hk => Below.heap_setCell _ _ _ _ hk⟩
theorem Only.set (w : World) (b o : Nat) (u : Value) : Only b w (w.setCell ⟨b, o, none⟩ u) := Only.setCell w ⟨b, o, none⟩ u
theorem Only.drew (b : Nat) (w : World) : Only b w w.drew := ⟨rfl, rfl, rfl, rfl, fun _ _ => rfl⟩
theorem Only.below {b B : Nat} {w w' : World} (h : Only b w w') (hB : B ≤ b) : Below B w w' :=
  ⟨h.os, h.tape, h.output, Nat.le_of_eq h.size.symm, fun k hk => h.block k (by omega)⟩
theorem Only.cell {b : Nat} {w w' : World} (h : Only b w w') {p : Addr} (hp : p.block ≠ b) : w'.cell? p = w.cell? p := World.cell?_of_block (h.block p.block hp)
theorem Only.frozen {b : Nat} {w w' : World} (h : Only b w w') {p : Addr} (hp : p.block ≠ b) : w'.frozen? p = w.frozen? p := World.frozen?_of_block (h.block p.block hp)
end
section
open Go.RowKit
/-- the limbs xs lie from the address ad on -/
def Lim (w : World) (ad : Option Addr) (xs : List Int) : Prop :=
  xs = [] ∨ ∃ b off, ad = some ⟨b, off, none⟩ ∧ ∀ i, i < xs.length → w.cell? ⟨b, off + i, none⟩ = some (.int .u32 (xs.getD i 0))
set_option maxHeartbeats 400000 in
theorem at_any (ad : Option Addr) (xs : List Int) (cap : Nat) (i : Int) (w : World) (hl : Lim w ad xs) (hm : xs.length ≤ maxLen) (hi : 0 ≤ i) :
    Calls Tryz.prog 156 #[.slice ad xs.length cap, .int .i64 i] w fun e w' => e = .returned (.int .u32 (xs.getD i.toNat 0)) ∧ w = w' := by
  unfold maxLen at hm
  obtain ⟨k, rfl⟩ := Int.eq_ofNat_of_zero_le hi
  by_cases hk : k < xs.length
  · rcases hl with rfl | ⟨b, off, rfl, hc⟩
    · simp at hk
    · have hck := hc k hk
      clear hc
      go_enter Tryz.func156, Tryz.ntmps156
      go_wp2
      go_ret
      refine ⟨?_, rfl⟩
      simp [hk]
  · go_enter Tryz.func156, Tryz.ntmps156
    go_wp2
    go_ret
    refine ⟨?_, rfl⟩
    simp [List.getElem?_eq_none (Nat.le_of_not_lt hk)]
/-- the same, the limb under a name -/
theorem at_nat (ad : Option Addr) (xs : List Int) (cap : Nat) (k : Nat) (x : Int) (w : World) (hl : Lim w ad xs) (hm : xs.length ≤ maxLen) (hx : xs.getD k 0 = x) :
    Calls Tryz.prog 156 #[.slice ad xs.length cap, .int .i64 k] w fun e w' => e = .returned (.int .u32 x) ∧ w = w' := by
  have h := at_any ad xs cap k w hl hm (by omega)
  rw [Int.toNat_natCast, hx] at h
  exact h
set_option maxHeartbeats 400000 in
theorem cut_any (ad : Option Addr) (xs : List Int) (cap : Nat) (w : World) (hl : Lim w ad xs) (hm : xs.length ≤ maxLen) (hcap : xs.length ≤ cap) :
    Calls Tryz.prog 153 #[.slice ad xs.length cap] w fun e w' => e = .returned (.slice ad (trimN xs xs.length) cap) ∧ w = w' := by
  unfold maxLen at hm
  go_enter Tryz.func153, Tryz.ntmps153
  go_wp2
  go_loop [3] (fun n => ∃ j : Nat, j ≤ xs.length ∧ n = .int .i64 j ∧ trimN xs j = trimN xs xs.length) (fun n => (intOf n).toNat)
  case atStart => exact ⟨xs.length, Nat.le_refl _, rfl, rfl⟩
  case round =>
    obtain ⟨j, hj, rfl, ht⟩ := hrel
    have HT := Lib.hid ht
    clear ht
    rcases j with _ | m
    · have h0 : trimN xs xs.length = 0 := HT.out.symm
      go_wp2
      go_ret
      exact ⟨rfl, rfl⟩
    · rcases hl with rfl | ⟨b, off, rfl, hc⟩
      · simp at hj
      · have hck := hc m (by omega)
        clear hc
        go_wp2
        · have hz : xs.getD m 0 = 0 := by
            have h : (xs[m]?.getD 0 == 0) = true := by assumption
            simpa using h
          go_round
          case rel => exact ⟨m, by omega, by go_num, by rw [← HT.out]; simp only [trimN]; rw [if_pos hz]⟩
          case measure => simp [intOf]
        · have hz : xs.getD m 0 ≠ 0 := by
            have h : (xs[m]?.getD 0 == 0) = false := by assumption
            simpa using h
          have ht : trimN xs xs.length = m + 1 := by rw [← HT.out]; simp only [trimN]; rw [if_neg hz]
          go_ret
          exact ⟨by rw [ht]; simp, rfl⟩
set_option maxHeartbeats 400000 in
/-- the two limbs from i on, as one number -/
theorem pair_any (ad : Option Addr) (xs : List Int) (cap : Nat) (i : Int) (w : World) (hl : Lim w ad xs) (hm : xs.length ≤ maxLen) (hi : 0 ≤ i) (hi2 : i ≤ 4611686018427387904) (hw : Wf xs) :
    Calls Tryz.prog 164 #[.slice ad xs.length cap, .int .i64 i] w fun e w' =>
      e = .returned (.int .u64 (4294967296 * xs.getD (i.toNat + 1) 0 + xs.getD i.toNat 0)) ∧ w = w' := by
  obtain ⟨k, rfl⟩ := Int.eq_ofNat_of_zero_le hi
  have b1 := hw.getD (k + 1)
  have b0 := hw.getD k
  go_enter Tryz.func164, Tryz.ntmps164
  go_wp2_with fail
  refine (at_any ad xs cap _ _ hl hm (by omega)).mono ?_
  rintro e w' ⟨rfl, rfl⟩
  go_wp2_with fail
  refine (at_any ad xs cap _ _ hl hm (by omega)).mono ?_
  rintro e w' ⟨rfl, rfl⟩
  go_wp2
  go_ret
  refine ⟨?_, rfl⟩
  have e1 : xs[k + 1]?.getD 0 = xs.getD (k + 1) 0 := rfl
  have e0 : xs[k]?.getD 0 = xs.getD k 0 := rfl
  simp only [Int.toNat_natCast, e1, e0]
  rw [wrap_u64 (x := xs.getD (k + 1) 0) (by omega) (by omega), wrap_u64 (x := xs.getD k 0) (by omega) (by omega), wrap_u64 (by omega) (by omega), or_u64 b1 b0]
  rfl
set_option maxHeartbeats 400000 in
theorem split_any (n : Int) (w : World) (hn : -9223372036854775808 ≤ n) (hn2 : n ≤ 9223372036854775807) :
    Calls Tryz.prog 173 #[.int .i64 n] w fun e w' =>
      e = .returned (.tuple #[.int .i64 ((max n 0) / 32), .int .i64 ((max n 0) % 32)]) ∧ w = w' := by
  go_enter Tryz.func173, Tryz.ntmps173
  go_wp2
  all_goals go_ret2
  all_goals refine ⟨?_, rfl⟩
  all_goals first | rfl | (rw [show max n 0 = 0 from by omega]; rfl) | (rw [show max n 0 = n from by omega]; rfl)
theorem carrier_any (c : Int) (w : World) :
    Calls Tryz.prog 155 #[.int .u64 c] w fun e w' =>
      e = .returned (.func (.func 168) #[] #[.pointer (some ⟨w.heap.size, 0, none⟩)]) ∧ w' = w.alloc (.cells #[.int .u64 c] 152) := by
  go_enter Tryz.func155, Tryz.ntmps155
  go_wp2
  go_ret
  exact ⟨rfl, rfl⟩
/-- called with parts: the sum's low word; the rest is kept -/
def Carried (b : Nat) (v : Int) (w w' : World) : Prop := w'.heap[b]? = some (.cells #[.int .u64 v] 152 (0, 0)) ∧ Only b w w'
def sumL : List Int → Int
  | [] => 0
  | x :: xs => x + sumL xs
theorem sumL_snoc (xs : List Int) (x : Int) : sumL (xs ++ [x]) = sumL xs + x := by
  induction xs with
  | nil => simp [sumL]
  | cons y ys ih => simp only [List.cons_append, sumL, ih]; omega
theorem sumL_take (xs : List Int) (k : Nat) (hk : k < xs.length) : sumL (xs.take (k + 1)) = sumL (xs.take k) + xs.getD k 0 := by
  rw [List.take_succ_eq_append_getElem hk, sumL_snoc]
  simp [List.getD, hk]
theorem sumL_mono (xs : List Int) (h : ∀ x ∈ xs, 0 ≤ x) (k : Nat) : 0 ≤ sumL (xs.take k) ∧ sumL (xs.take k) ≤ sumL xs := by
  induction xs generalizing k with
  | nil => simp [sumL]
  | cons x xs ih =>
    have hx := h x List.mem_cons_self
    cases k with
    | zero => have := (ih (fun y hy => h y (List.mem_cons_of_mem _ hy)) xs.length).1; simp only [List.take_length] at this; simp only [List.take_zero, sumL]; omega
    | succ k => have := ih (fun y hy => h y (List.mem_cons_of_mem _ hy)) k; simp only [List.take_succ_cons, sumL]; omega
set_option maxHeartbeats 400000 in
theorem carry_any (c : Int) (ys : List Int) (b : Nat) (ad : Option Addr) (w : World) (hc : 0 ≤ c) (hy : ∀ y ∈ ys, 0 ≤ y) (hs : c + sumL ys < 18446744073709551616) (hlen : ys.length ≤ 2)
    (hb : w.heap[b]? = some (.cells #[.int .u64 c] 152 (0, 0)))
    (hp : ys ≠ [] → ∃ p, ad = some ⟨p, 0, none⟩ ∧ p ≠ b ∧ ∀ i, i < ys.length → w.cell? ⟨p, i, none⟩ = some (.int .u64 (ys.getD i 0))) :
    Calls Tryz.prog 168 #[.slice ad ys.length ys.length, .pointer (some ⟨b, 0, none⟩)] w fun e w' =>
      e = .returned (.int .u32 ((c + sumL ys) % 4294967296)) ∧ Carried b ((c + sumL ys) / 4294967296) w w' := by
  go_enter Tryz.func168, Tryz.ntmps168
  go_wp2
  go_loopw [5, 9] (fun _ i wr => ∃ k : Nat, k ≤ ys.length ∧ i = .int .i64 k ∧ Carried b (c + sumL (ys.take k)) w wr) (fun _ i _ => ys.length - (intOf i).toNat)
  case atStart => exact ⟨0, Nat.zero_le _, rfl, by simpa [sumL] using hb, Only.refl _ _⟩
  case round =>
    obtain ⟨k, hk, rfl, hcb, ho⟩ := hrel
    have h1 := cell_of_one hcb
    have h2 := free_of_one hcb
    have h3 := sumL_mono ys hy k
    by_cases hlt : k < ys.length
    · obtain ⟨p, rfl, hpb, hpc⟩ := hp (by intro h; simp [h] at hlt)
      have hck := (ho.cell (p := ⟨p, k, none⟩) hpb).trans (hpc k hlt)
      have h4 := sumL_mono ys hy (k + 1)
      have h5 := sumL_take ys k hlt
      have h6 : 0 ≤ ys.getD k 0 := by have := sumL_mono ys hy (k+1); simp only [List.getD, hlt, List.getElem?_eq_getElem, Option.getD_some]; exact hy _ (List.getElem_mem hlt)
      have h7 : c + sumL (ys.take k) + ys.getD k 0 < 18446744073709551616 := by omega
      have h8 : ys.getD k 0 = ys[k] := by simp [hlt]
      rw [h8] at h5 h6 h7
      have H5 := Lib.hid h5
      clear h5 h4 hp hpc h8
      go_wp2
      go_roundw
      case rel =>
        refine ⟨k + 1, by omega, by go_num, ?_, ho.trans (Only.set _ _ _ _)⟩
        rw [one_setCell hcb, H5.out, Int.add_assoc]
      case measure => simp [intOf]; omega
    · have hke : k = ys.length := by omega
      subst hke
      rw [List.take_length] at hcb h1 h3
      have hco := one_setCell hcb (u := .int .u64 ((c + sumL ys) / 4294967296))
      go_wp2
      go_ret
      exact ⟨rfl, hco, ho.trans (Only.set _ _ _ _)⟩
end
section
open Go.RowKit
theorem tab_at (i : Int) (h0 : 0 ≤ i) (h1 : i ≤ 255) (h : i.toNat < Lib.len8tab.size) : (Lib.len8tab[i.toNat].toNat : Int) = Lib.bitLen i.toNat := by
  rw [← Lib.len8_of i h0 h1]
  unfold Lib.len8
  rw [getElem?_pos Lib.len8tab i.toNat h]
  rfl
theorem wrap2 (c : Int) (n : Nat) (h0 : 0 ≤ c) (h1 : c ≤ 24) (hn : n ≤ 8) : wrap64 (c + wrap64 (n : Int)) = c + n := by unfold wrap64; omega
theorem wrap64_small (x : Int) (h0 : 0 ≤ x) (h1 : x ≤ 1000) : wrap64 x = x := by unfold wrap64; omega
set_option maxHeartbeats 4000000 in
set_option maxRecDepth 100000 in
theorem len_any (x : Int) (w : World) (hx : 0 ≤ x ∧ x < 4294967296) :
    Calls Tryz.prog 154 #[.int .u32 x] w fun e w' => e = .returned (.int .i64 (Lib.bitLen x.toNat)) ∧ w = w' := by
  obtain ⟨h0, h1⟩ := hx
  have hsz : (Lib.len8tab.size : Int) = 256 := by rw [Lib.len8tab_size]; rfl
  go_enter Tryz.func154, Tryz.ntmps154
  go_wp2
  all_goals (go_ret; refine ⟨congrArg Ending.returned (congrArg (Value.int IntKind.i64) ?_), rfl⟩)
  · have e : (x / 65536 / 256).toNat = x.toNat / 16777216 := by omega
    have t := tab_at (x / 65536 / 256) (by omega) (by omega) (by rw [Lib.len8tab_size]; omega)
    have l := Lib.bitLen_le8' (x / 65536 / 256) (by omega) (by omega)
    have s := Lib.bitLen_shift24 x.toNat (by omega) (by omega)
    rw [t, wrap2 _ _ (by omega) (by omega) l, e, s]
    omega
  · have e : (x / 65536).toNat = x.toNat / 65536 := by omega
    have t := tab_at (x / 65536) (by omega) (by omega) (by rw [Lib.len8tab_size]; omega)
    have l := Lib.bitLen_le8' (x / 65536) (by omega) (by omega)
    have s := Lib.bitLen_shift16 x.toNat (by omega) (by omega)
    rw [t, wrap2 _ _ (by omega) (by omega) l, e, s]
    omega
  · have e : (x / 256).toNat = x.toNat / 256 := by omega
    have t := tab_at (x / 256) (by omega) (by omega) (by rw [Lib.len8tab_size]; omega)
    have l := Lib.bitLen_le8' (x / 256) (by omega) (by omega)
    have s := Lib.bitLen_shift8 x.toNat (by omega) (by omega)
    rw [t, wrap2 _ _ (by omega) (by omega) l, e, s]
    omega
  · have t := tab_at x (by omega) (by omega) (by rw [Lib.len8tab_size]; omega)
    have l := Lib.bitLen_le8' x (by omega) (by omega)
    rw [t, wrap64_small (Lib.bitLen x.toNat) (by omega) (by omega), wrap64_small _ (by omega) (by omega)]
/-- -1, 0 or 1 -/
def sign (a b : Int) : Int := if a < b then -1 else if b < a then 1 else 0
theorem cmpInt_any (a b : Int) (w : World) :
    Calls Tryz.prog 157 #[.int .i64 a, .int .i64 b] w fun e w' => e = .returned (.int .i64 (sign a b)) ∧ w = w' := by
  go_enter Tryz.func157, Tryz.ntmps157
  go_wp2_with go_in
  all_goals go_ret
  all_goals refine ⟨congrArg Ending.returned (congrArg (Value.int IntKind.i64) ?_), rfl⟩
  all_goals unfold sign
  · rw [if_pos (by assumption)]
  · rw [if_neg (by omega), if_pos (by assumption)]
  · rw [if_neg (by omega), if_neg (by omega)]
theorem cmpLimb_any (a b : Int) (w : World) :
    Calls Tryz.prog 159 #[.int .u32 a, .int .u32 b] w fun e w' => e = .returned (.int .i64 (sign a b)) ∧ w = w' := by
  go_enter Tryz.func159, Tryz.ntmps159
  go_wp2_with go_in
  all_goals go_ret
  all_goals refine ⟨congrArg Ending.returned (congrArg (Value.int IntKind.i64) ?_), rfl⟩
  all_goals unfold sign
  · rw [if_pos (by assumption)]
  · rw [if_neg (by omega), if_pos (by assumption)]
  · rw [if_neg (by omega), if_neg (by omega)]
/-- the number of bits -/
def bitsN (xs : List Int) : Nat := if trimN xs xs.length = 0 then 0 else (trimN xs xs.length - 1) * 32 + Lib.bitLen (xs.getD (trimN xs xs.length - 1) 0).toNat
set_option maxHeartbeats 400000 in
theorem bits_any (ad : Option Addr) (xs : List Int) (cap : Nat) (w : World) (hl : Lim w ad xs) (hm : xs.length ≤ 35184372088832) (hcap : xs.length ≤ cap) (hw : Wf xs) :
    Calls Tryz.prog 130 #[.slice ad xs.length cap] w fun e w' => e = .returned (.int .i64 (bitsN xs)) ∧ w = w' := by
  have ht := trim_le xs
  go_enter Tryz.func130, Tryz.ntmps130
  go_wp2_with fail
  refine (cut_any ad xs cap _ hl (by unfold maxLen; omega) hcap).mono ?_
  rintro e w' ⟨rfl, rfl⟩
  have hb : bitsN xs = if trimN xs xs.length = 0 then 0 else (trimN xs xs.length - 1) * 32 + Lib.bitLen (xs.getD (trimN xs xs.length - 1) 0).toNat := rfl
  generalize trimN xs xs.length = t at *
  have HB := Lib.hid hb
  clear hb
  rcases t with _ | m
  · go_wp2_with fail
    go_ret
    rw [HB.out]
    exact ⟨rfl, rfl⟩
  · rcases hl with rfl | ⟨b, off, rfl, hc⟩
    · simp at ht
    · have hcm := hc m (by omega)
      have hwm := hw.getD m
      have h1 : ((m : Int) + 1 == 0) = false := by simp; omega
      clear hc
      go_wp2_with fail
      refine (len_any _ _ hwm).mono ?_
      rintro e w' ⟨rfl, rfl⟩
      have hle := Lib.bitLen_le (xs.getD m 0).toNat 32 (by omega) (by omega)
      have hge : 0 ≤ (Lib.bitLen (xs.getD m 0).toNat : Int) := by omega
      have e2 : bitsN xs = m * 32 + Lib.bitLen (xs.getD m 0).toNat := HB.out
      have HE := Lib.hid e2
      clear e2
      generalize Lib.bitLen (xs.getD m 0).toNat = q at *
      go_wp2_with fail
      go_ret
      refine ⟨congrArg Ending.returned (congrArg (Value.int IntKind.i64) ?_), rfl⟩
      rw [HE.out]
      omega
set_option maxHeartbeats 400000 in
theorem uint_any (ad : Option Addr) (xs : List Int) (cap : Nat) (w : World) (hl : Lim w ad xs) (hm : xs.length ≤ 35184372088832) (hcap : xs.length ≤ cap) (hw : Wf xs) :
    Calls Tryz.prog 143 #[.slice ad xs.length cap] w fun e w' =>
      e = .returned (if bitsN xs ≤ 64 then .tuple #[.int .u64 (4294967296 * xs.getD 1 0 + xs.getD 0 0), .bool true] else .tuple #[.int .u64 0, .bool false]) ∧ w = w' := by
  by_cases hb : bitsN xs ≤ 64
  · rw [if_pos hb]
    have hb2 : (bitsN xs : Int) ≤ 64 := by omega
    clear hb
    go_enter Tryz.func143, Tryz.ntmps143
    go_wp2_with fail
    refine (bits_any ad xs cap _ hl hm hcap hw).mono ?_
    rintro e w' ⟨rfl, rfl⟩
    go_wp2_with fail
    refine (pair_any ad xs cap _ _ hl (by unfold maxLen; omega) (by omega) (by omega) hw).mono ?_
    rintro e w' ⟨rfl, rfl⟩
    go_wp2_with fail
    go_ret2
    exact ⟨rfl, rfl⟩
  · rw [if_neg hb]
    have hb2 : 64 < (bitsN xs : Int) := by omega
    clear hb
    go_enter Tryz.func143, Tryz.ntmps143
    go_wp2_with fail
    refine (bits_any ad xs cap _ hl hm hcap hw).mono ?_
    rintro e w' ⟨rfl, rfl⟩
    go_wp2_with fail
    go_ret2
    exact ⟨rfl, rfl⟩
end
section
open Go.RowKit
theorem Lim.nil (w : World) (ad : Option Addr) : Lim w ad [] := .inl rfl
theorem Lim.below {w w' : World} {ad : Option Addr} {xs : List Int} {B : Nat} (h : Lim w ad xs) (hb : Below B w w') (hB : ∀ a, ad = some a → a.block < B) : Lim w' ad xs := by
  rcases h with rfl | ⟨b, off, rfl, hc⟩
  · exact .inl rfl
  · exact .inr ⟨b, off, rfl, fun i hi => (hb.cell (p := ⟨b, off + i, none⟩) (hB ⟨b, off, none⟩ rfl)).trans (hc i hi)⟩
theorem Lim.later {w w' : World} {ad : Option Addr} {xs : List Int} (h : Lim w ad xs) (hb : Below w.heap.size w w') : Lim w' ad xs := by
  rcases h with rfl | ⟨b, off, rfl, hc⟩
  · exact .inl rfl
  · refine .inr ⟨b, off, rfl, fun i hi => ?_⟩
    have hlt := World.block_lt_of_cell? w _ (hc i hi)
    exact (hb.cell (p := ⟨b, off + i, none⟩) hlt).trans (hc i hi)
theorem Lim.take {w : World} {ad : Option Addr} {xs : List Int} (h : Lim w ad xs) (n : Nat) : Lim w ad (xs.take n) := by
  rcases h with rfl | ⟨b, off, rfl, hc⟩
  · exact .inl (by simp)
  · refine .inr ⟨b, off, rfl, fun i hi => ?_⟩
    rw [List.length_take] at hi
    rw [hc i (by omega)]
    simp [show i < n by omega]
theorem Lim.lt {w : World} {ad : Option Addr} {xs : List Int} (h : Lim w ad xs) (hn : xs ≠ []) : ∀ a, ad = some a → a.block < w.heap.size := by
  rcases h with rfl | ⟨b, off, rfl, hc⟩
  · exact absurd rfl hn
  · intro a ha
    cases ha
    exact World.block_lt_of_cell? w _ (hc 0 (List.length_pos_iff.2 hn))
/-- a block of limbs, known whole -/
def Blk (w : World) (g : Nat) (zs : List Int) : Prop := w.heap[g]? = some (.cells (zs.map (Value.int .u32)).toArray 64 (0, 0))
theorem Blk.cell {w : World} {g : Nat} {zs : List Int} (h : Blk w g zs) (i : Nat) (hi : i < zs.length) : w.cell? ⟨g, i, none⟩ = some (.int .u32 (zs.getD i 0)) := by
  have e : w.cell? ⟨g, i, none⟩ = ((zs.map (Value.int .u32)).toArray)[i]? := cell_of_row w g i _ 64 (0, 0) h
  rw [e]; simp [hi]
theorem Blk.free {w : World} {g : Nat} {zs : List Int} (h : Blk w g zs) (i : Nat) : w.frozen? ⟨g, i, none⟩ = false := by
  exact frozen_of_row w g i _ 64 h
theorem Blk.lt {w : World} {g : Nat} {zs : List Int} (h : Blk w g zs) : g < w.heap.size := lt_of_block h
theorem Blk.same {w w' : World} {g : Nat} {zs : List Int} (h : Blk w g zs) (e : w'.heap[g]? = w.heap[g]?) : Blk w' g zs := e.trans h
theorem Blk.alloc {w : World} {g : Nat} {zs : List Int} (h : Blk w g zs) (o : Obj) : Blk (w.alloc o) g zs := h.same (Below.heap_alloc _ _ _ h.lt)
theorem Blk.only {w w' : World} {g b : Nat} {zs : List Int} (h : Blk w g zs) (k : Only b w w') (hb : g ≠ b) : Blk w' g zs := h.same (k.block g hb)
theorem Blk.below {w w' : World} {g B : Nat} {zs : List Int} (h : Blk w g zs) (k : Below B w w') (hb : g < B) : Blk w' g zs := h.same (k.block g hb)
theorem Blk.set {w : World} {g : Nat} {zs : List Int} (h : Blk w g zs) (i : Nat) (x : Int) : Blk (w.setCell ⟨g, i, none⟩ (.int .u32 x)) g (zs.set i x) := by
  have hh := heap_setCell_same w g i _ 64 (.int .u32 x) h
  unfold Blk
  rw [hh]
  congr 2
  simp [List.map_set]
theorem Blk.made (w : World) (n : Nat) : Blk (w.alloc (.cells (madeCells #[.int .u32 0] n) 64)) w.heap.size (List.replicate n 0) := by
  have h := heap_alloc_new w (.cells (madeCells #[.int .u32 0] n) 64)
  unfold Blk
  rw [h]
  congr 2
  apply Array.ext
  · simp [madeCells]
  · intro i h1 h2
    simp [madeCells, Nat.mod_one]
/-- v is a slice of the call's own limbs xs -/
def Num (base : Nat) (w : World) (v : Value) (xs : List Int) : Prop := w.ownsRow base 64 1 v xs.length (xs.map (Value.int .u32))
theorem Num.read {base : Nat} {w : World} {v : Value} {xs : List Int} (h : Num base w v xs) : ∃ ad cap, v = .slice ad xs.length cap ∧ Lim w ad xs ∧ xs.length ≤ cap ∧ cap ≤ maxLen ∧ (∀ a, ad = some a → base ≤ a.block ∧ a.block < w.heap.size) := by
  obtain ⟨h1, h2⟩ := h
  rcases h2 with ⟨rfl, hn⟩ | ⟨g, cap, cur, rfl, hb, hg, hc, hm, hs, ht⟩
  · obtain rfl := List.eq_nil_of_length_eq_zero hn
    exact ⟨none, 0, rfl, .inl rfl, Nat.le_refl _, by unfold maxLen; omega, fun a ha => by cases ha⟩
  · refine ⟨_, cap, rfl, .inr ⟨g, 0, rfl, fun i hi => ?_⟩, hc, hm, fun a ha => by cases ha; exact ⟨hb, lt_of_block hg⟩⟩
    have hj := World.ownsRow.cellAt (w := w) (base := base) (e := 64) (size := 1) (g := g) (n := xs.length) (cap := cap) (xs := xs.map (Value.int .u32)) ⟨h1, .inr ⟨g, cap, cur, rfl, hb, hg, hc, hm, hs, ht⟩⟩ i (by omega)
    rw [Nat.zero_add, hj]
    simp [hi]
theorem Num.cut {base : Nat} {w : World} {ad : Option Addr} {xs : List Int} {n cap : Nat} (h : Num base w (.slice ad n cap) xs) : Num base w (.slice ad (trimN xs xs.length) cap) (trim xs) := by
  have hl := trim_le xs
  unfold Num at *
  rw [trim_length]
  obtain ⟨h1, h2⟩ := h
  rcases h2 with ⟨hv, hn⟩ | ⟨g, cap', cur, hv, hb, hg, hc, hm, hs, ht⟩
  · obtain rfl := List.eq_nil_of_length_eq_zero hn
    cases hv
    exact ⟨rfl, .inl ⟨rfl, rfl⟩⟩
  · cases hv
    refine ⟨by rw [List.length_map, trim_length, Nat.mul_one], .inr ⟨g, cap, cur, rfl, hb, hg, by omega, hm, hs, ?_⟩⟩
    unfold trim
    rw [List.map_take, ← ht, List.take_take]
    congr 1
    omega
theorem Num.ofBlk {base g : Nat} {w : World} {zs : List Int} (h : Blk w g zs) (hb : base ≤ g) (n : Nat) (hn : n ≤ zs.length) (hm : zs.length ≤ maxLen) : Num base w (.slice (some ⟨g, 0, none⟩) n zs.length) (zs.take n) := by
  have e : (zs.take n).length = n := by rw [List.length_take]; omega
  unfold Num
  rw [e]
  refine ⟨by rw [List.length_map, e, Nat.mul_one], .inr ⟨g, zs.length, _, rfl, hb, h, hn, hm, by simp, ?_⟩⟩
  simp [List.map_take]
theorem Num.lt {base : Nat} {w : World} {v : Value} {xs : List Int} (h : Num base w v xs) : ∀ k, v.ownBlock = some k → base ≤ k ∧ k < w.heap.size := World.ownsRow.lt h
theorem Num.kept {base B : Nat} {w w' : World} {v : Value} {xs : List Int} (h : Num base w v xs) (hb : Below B w w') (hB : ∀ k, v.ownBlock = some k → k < B) : Num base w' v xs := by
  obtain ⟨h1, h2⟩ := h
  refine ⟨h1, ?_⟩
  rcases h2 with h2 | ⟨g, cap, cur, rfl, hg0, hg, hc, hm, hs, ht⟩
  · exact .inl h2
  · exact .inr ⟨g, cap, cur, rfl, hg0, (hb.block g (hB g rfl)).trans hg, hc, hm, hs, ht⟩
theorem Num.later {base : Nat} {w w' : World} {v : Value} {xs : List Int} (h : Num base w v xs) (hb : Below w.heap.size w w') : Num base w' v xs := h.kept hb fun k hk => (h.lt k hk).2
theorem Num.mono {base base' : Nat} {w : World} {v : Value} {xs : List Int} (h : Num base w v xs) (hb : base' ≤ base) : Num base' w v xs := by
  obtain ⟨h1, h2⟩ := h
  refine ⟨h1, ?_⟩
  rcases h2 with h2 | ⟨g, cap, cur, rfl, hg0, hg, hc, hm, hs, ht⟩
  · exact .inl h2
  · exact .inr ⟨g, cap, cur, rfl, Nat.le_trans hb hg0, hg, hc, hm, hs, ht⟩
theorem cut_still (ad : Option Addr) (xs : List Int) (cap : Nat) (w : World) (hl : Lim w ad xs) (hm : xs.length ≤ 35184372088832) (hcap : xs.length ≤ cap) :
    Calls Tryz.prog 153 #[.slice ad xs.length cap] w fun e w' => e = .returned (.slice ad (trimN xs xs.length) cap) ∧ w' = w :=
  (cut_any ad xs cap w hl (by unfold maxLen; omega) hcap).mono fun _ _ ⟨he, hw⟩ => ⟨he, hw.symm⟩
theorem cut_num {base : Nat} {v : Value} {xs : List Int} {w : World} (h : Num base w v xs) :
    Calls Tryz.prog 153 #[v] w fun e w' => ∃ u, e = .returned u ∧ Num base w u (trim xs) ∧ w = w' := by
  obtain ⟨ad, cap, rfl, hl, hc, hm, _⟩ := h.read
  exact (cut_any ad xs cap w hl (by omega) hc).mono fun e w' ⟨he, hw⟩ => ⟨_, he, h.cut, hw⟩
theorem Blk.grown {w w' : World} {g : Nat} {row : Option Nat} {zs : List Int} (h : Blk w g zs) (k : w.grownBy w' row) (hb : some g ≠ row) : Blk w' g zs := h.same (k.block g h.lt hb)
def Stepped (b : Nat) (v : Int) (w w' : World) : Prop := w'.heap[b]? = some (.cells #[.int .u64 v] 152 (0, 0)) ∧ w.grownBy w' (some b)
theorem Only.grown {b : Nat} {w w' : World} (h : Only b w w') : w.grownBy w' (some b) := ⟨h.os, h.tape, h.output, Nat.le_of_eq h.size.symm, fun k _ hb => h.block k (fun e => hb (by rw [e]))⟩
theorem grown_alloc_only {b : Nat} {w w' : World} {o : Obj} (h : Only b (w.alloc o) w') : w.grownBy w' (some b) :=
  ⟨h.os, h.tape, h.output, by have := h.size; simp at this; omega, fun k hk hb => (h.block k (fun e => hb (by rw [e]))).trans (Below.heap_alloc _ _ _ hk)⟩
theorem carry2 (c x y : Int) (b : Nat) (w : World) (hc : 0 ≤ c) (hx : 0 ≤ x) (hy : 0 ≤ y) (hs : c + x + y < 18446744073709551616) (hb : w.heap[b]? = some (.cells #[.int .u64 c] 152 (0, 0))) :
    Calls Tryz.prog 168 #[.slice (some ⟨w.heap.size, 0, none⟩) 2 2, .pointer (some ⟨b, 0, none⟩)] (w.alloc (.cells #[.int .u64 x, .int .u64 y] 152)) fun e w' =>
      e = .returned (.int .u32 ((c + x + y) % 4294967296)) ∧ Stepped b ((c + x + y) / 4294967296) w w' := by
  have hlt := lt_of_block hb
  have e : c + sumL [x, y] = c + x + y := by simp only [sumL]; omega
  have h := carry_any c [x, y] b (some ⟨w.heap.size, 0, none⟩) (w.alloc (.cells #[.int .u64 x, .int .u64 y] 152)) hc (by intro z hz; simp at hz; omega) (by omega) (by simp)
    ((Below.heap_alloc _ _ _ hlt).trans hb) (fun _ => ⟨w.heap.size, rfl, by omega, fun i hi => by
      rw [cell_of_row _ _ _ _ _ _ (heap_alloc_new w _)]
      match i, hi with
      | 0, _ => rfl
      | 1, _ => rfl⟩)
  rw [e] at h
  exact h.mono fun e w' ⟨he, hh, ho⟩ => ⟨he, hh, grown_alloc_only ho⟩
theorem carry1 (c x : Int) (b : Nat) (w : World) (hc : 0 ≤ c) (hx : 0 ≤ x) (hs : c + x < 18446744073709551616) (hb : w.heap[b]? = some (.cells #[.int .u64 c] 152 (0, 0))) :
    Calls Tryz.prog 168 #[.slice (some ⟨w.heap.size, 0, none⟩) 1 1, .pointer (some ⟨b, 0, none⟩)] (w.alloc (.cells #[.int .u64 x] 152)) fun e w' =>
      e = .returned (.int .u32 ((c + x) % 4294967296)) ∧ Stepped b ((c + x) / 4294967296) w w' := by
  have hlt := lt_of_block hb
  have e : c + sumL [x] = c + x := by simp only [sumL]; omega
  have h := carry_any c [x] b (some ⟨w.heap.size, 0, none⟩) (w.alloc (.cells #[.int .u64 x] 152)) hc (by intro z hz; simp at hz; omega) (by omega) (by simp)
    ((Below.heap_alloc _ _ _ hlt).trans hb) (fun _ => ⟨w.heap.size, rfl, by omega, fun i hi => by
      rw [cell_of_row _ _ _ _ _ _ (heap_alloc_new w _)]
      match i, hi with
      | 0, _ => rfl⟩)
  rw [e] at h
  exact h.mono fun e w' ⟨he, hh, ho⟩ => ⟨he, hh, grown_alloc_only ho⟩
theorem carry0 (c : Int) (b : Nat) (w : World) (hc : 0 ≤ c) (hs : c < 18446744073709551616) (hb : w.heap[b]? = some (.cells #[.int .u64 c] 152 (0, 0))) :
    Calls Tryz.prog 168 #[.slice none 0 0, .pointer (some ⟨b, 0, none⟩)] w fun e w' =>
      e = .returned (.int .u32 (c % 4294967296)) ∧ Stepped b (c / 4294967296) w w' := by
  have e : c + sumL [] = c := by simp [sumL]
  have h := carry_any c [] b none w hc (by intro z hz; cases hz) (by omega) (by simp) hb (fun h => absurd rfl h)
  rw [e] at h
  exact h.mono fun e w' ⟨he, hh, ho⟩ => ⟨he, hh, ho.grown⟩
end
section
open Go.RowKit
theorem infoLimb : (Tryz.prog.info? 64).map (fun i => (i.zero, i.size, i.bytes)) = some (some (.int .u32 0), 1, 4) := by kernel_rfl
/-- make([]limb, n, c) -/
theorem make_run (n c : Int) (h0 : 0 ≤ n) (hnc : n ≤ c) (hc : c ≤ 70368744177664) (w : World) :
    (Instr.makeSlice 49 (.int .i64 n) (.int .i64 c)).run Tryz.prog w = .ok (.slice (some ⟨w.heap.size, 0, none⟩) n.toNat c.toNat) (w.alloc (.cells (madeCells #[.int .u32 0] c.toNat) 64)) := by
  obtain ⟨i0, hi, hz0, hz1, hz2⟩ := info_parts infoLimb
  have h := run_make (P := Tryz.prog) w 49 64 i0 (.int .u32 0) Tryz.underlying49 hi hz0 .i64 .i64 n c h0 hnc (by rw [hz2]; omega) (by omega)
  simpa [hz1, Value.cells] using h
theorem make_runN (n c : Nat) (hnc : n ≤ c) (hc : c ≤ 70368744177664) (w : World) :
    (Instr.makeSlice 49 (.int .i64 n) (.int .i64 c)).run Tryz.prog w = .ok (.slice (some ⟨w.heap.size, 0, none⟩) n c) (w.alloc (.cells (madeCells #[.int .u32 0] c) 64)) := by
  simpa using make_run n c (by omega) (by omega) (by omega) w
theorem make_run0 (c : Nat) (hc : c ≤ 70368744177664) (w : World) :
    (Instr.makeSlice 49 (.int .i64 0) (.int .i64 c)).run Tryz.prog w = .ok (.slice (some ⟨w.heap.size, 0, none⟩) 0 c) (w.alloc (.cells (madeCells #[.int .u32 0] c) 64)) := by
  simpa using make_run 0 c (by omega) (by omega) (by omega) w
/-- the state behind k limbs of a sum: the limbs, the carry -/
def addTo (xs ys : List Int) : Nat → List Int × Int
  | 0 => ([], 0)
  | k + 1 => ((addTo xs ys k).1 ++ [((addTo xs ys k).2 + xs.getD k 0 + ys.getD k 0) % 4294967296], ((addTo xs ys k).2 + xs.getD k 0 + ys.getD k 0) / 4294967296)
/-- the sum's limbs -/
def addN (xs ys : List Int) : Nat := max (trimN xs xs.length) (trimN ys ys.length)
def addL (xs ys : List Int) : List Int := (addTo xs ys (addN xs ys)).1 ++ [(addTo xs ys (addN xs ys)).2]
theorem addTo_length (xs ys : List Int) (k : Nat) : (addTo xs ys k).1.length = k := by
  induction k with
  | zero => rfl
  | succ k ih => simp [addTo, ih]
theorem addTo_carry (xs ys : List Int) (hx : Wf xs) (hy : Wf ys) (k : Nat) : 0 ≤ (addTo xs ys k).2 ∧ (addTo xs ys k).2 ≤ 1 := by
  induction k with
  | zero => simp [addTo]
  | succ k ih => have h1 := hx.getD k; have h2 := hy.getD k; simp only [addTo]; omega
theorem addTo_wf (xs ys : List Int) (k : Nat) : Wf (addTo xs ys k).1 := by
  induction k with
  | zero => exact Wf.nil
  | succ k ih => exact ih.append (Wf.cons (by omega) Wf.nil)
theorem addL_length (xs ys : List Int) : (addL xs ys).length = addN xs ys + 1 := by simp [addL, addTo_length]
set_option maxHeartbeats 1000000 in
theorem add_any (a b : Option Addr) (xs ys : List Int) (capa capb : Nat) (w : World) (hla : Lim w a xs) (hlb : Lim w b ys) (hma : xs.length ≤ 35184372088832) (hmb : ys.length ≤ 35184372088832)
    (hca : xs.length ≤ capa) (hcb : ys.length ≤ capb) (hwa : Wf xs) (hwb : Wf ys) :
    Calls Tryz.prog 131 #[.slice a xs.length capa, .slice b ys.length capb] w fun e w' => ∃ v, e = .returned v ∧ Num w.heap.size w' v (trim (addL xs ys)) ∧ Below w.heap.size w w' := by
  have hta := trim_le xs
  have htb := trim_le ys
  go_enter Tryz.func131, Tryz.ntmps131
  go_wp2_with fail
  refine (cut_any a xs capa _ hla (by unfold maxLen; omega) hca).mono ?_
  rintro e w' ⟨rfl, rfl⟩
  go_wp2_with fail
  refine (cut_any b ys capb _ hlb (by unfold maxLen; omega) hcb).mono ?_
  rintro e w' ⟨rfl, rfl⟩
  obtain ⟨m, hm⟩ : ∃ m, addN xs ys = m := ⟨_, rfl⟩
  have hx : max (trimN xs xs.length : Int) (trimN ys ys.length : Int) = (m : Int) := by rw [← hm]; unfold addN; omega
  have hm2 : m ≤ 35184372088832 := by rw [← hm]; unfold addN; omega
  have HM := Lib.hid hm
  clear hm
  have hmk := make_runN m (m + 1) (by omega) (by omega)
  simp only [Int.natCast_succ] at hmk
  go_wp2_with fail
  refine (carrier_any _ _).mono ?_
  rintro e w' ⟨rfl, rfl⟩
  go_wp2_with fail
  go_loopw [8, 23] (fun _ i wr => ∃ k : Nat, k ≤ m ∧ i = .int .i64 k ∧ Blk wr w.heap.size ((addTo xs ys k).1 ++ List.replicate (m + 1 - k) 0) ∧
      wr.heap[w.heap.size + 1]? = some (.cells #[.int .u64 (addTo xs ys k).2] 152 (0, 0)) ∧ Below w.heap.size w wr) (fun _ i _ => m - (intOf i).toNat)
  case atStart =>
    refine ⟨0, Nat.zero_le _, rfl, ?_, ?_, ?_⟩
    · exact (Blk.made w (m + 1)).alloc _
    · have h := heap_alloc_new (w.alloc (Obj.cells (madeCells #[Value.int IntKind.u32 0] (m + 1)) 64)) (Obj.cells #[Value.int IntKind.u64 0] 152)
      simpa [addTo] using h
    · exact ((Below.refl _ w).alloc (Nat.le_refl _) _).alloc (by simp) _
  case round =>
    obtain ⟨k, hk, rfl, hblk, hcar, hbel⟩ := hrel
    by_cases hlt : k < m
    · obtain ⟨x, hxk⟩ : ∃ x, xs.getD k 0 = x := ⟨_, rfl⟩
      obtain ⟨y, hyk⟩ : ∃ y, ys.getD k 0 = y := ⟨_, rfl⟩
      obtain ⟨c, hck⟩ : ∃ c, (addTo xs ys k).2 = c := ⟨_, rfl⟩
      have bx : 0 ≤ x ∧ x < 4294967296 := hxk ▸ hwa.getD k
      have by' : 0 ≤ y ∧ y < 4294967296 := hyk ▸ hwb.getD k
      have bc : 0 ≤ c ∧ c ≤ 1 := hck ▸ addTo_carry xs ys hwa hwb k
      obtain ⟨bx0, bx1⟩ := bx
      obtain ⟨by0, by1⟩ := by'
      rw [hck] at hcar
      have HX := Lib.hid hxk
      have HY := Lib.hid hyk
      have HC := Lib.hid hck
      clear hxk hyk hck hx
      have hla' := hla.later hbel
      have hlb' := hlb.later hbel
      have hsz := hbel.size
      have hg1 := lt_of_block hcar
      go_wp2_with fail
      refine (at_nat a xs capa k x _ hla' (by unfold maxLen; omega) HX.out).mono ?_
      rintro e w' ⟨rfl, rfl⟩
      go_wp2_with fail
      refine (at_nat b ys capb k y _ hlb' (by unfold maxLen; omega) HY.out).mono ?_
      rintro e w' ⟨rfl, rfl⟩
      go_wp2_with fail
      refine (carry2 c x y _ wr bc.1 bx0 by0 (by omega) hcar).mono ?_
      rintro e w2 ⟨rfl, hcar2, hgr⟩
      have hblk2 := hblk.grown hgr (by simp)
      have hlz : ((addTo xs ys k).1 ++ List.replicate (m + 1 - k) 0).length = m + 1 := by rw [List.length_append, addTo_length, List.length_replicate]; omega
      have hcell := hblk2.cell k (by omega)
      have hfree := hblk2.free k
      go_wp2_with fail
      go_roundw
      case rel =>
        have hset := hblk2.set k ((c + x + y) % 4294967296)
        refine ⟨k + 1, by omega, by go_num, ?_, ?_, ?_⟩
        · have e : ((addTo xs ys k).1 ++ List.replicate (m + 1 - k) 0).set k ((c + x + y) % 4294967296) = (addTo xs ys (k + 1)).1 ++ List.replicate (m + 1 - (k + 1)) 0 := by
            rw [set_mid _ _ _ _ (addTo_length xs ys k) (by omega)]
            simp only [addTo, HX.out, HY.out, HC.out]
          rw [← e]
          exact hset
        · rw [Below.heap_setCell _ _ _ _ (by simp)]
          simp only [addTo, HX.out, HY.out, HC.out]
          exact hcar2
        · exact (hbel.grown hgr (by omega) (fun j ej => by cases ej; omega)).setCell (p := ⟨w.heap.size, k, none⟩) (Nat.le_refl _) _
      case measure => simp [intOf]; omega
    · have hke : k = m := by omega
      subst hke
      obtain ⟨c, hck⟩ : ∃ c, (addTo xs ys k).2 = c := ⟨_, rfl⟩
      have bc : 0 ≤ c ∧ c ≤ 1 := hck ▸ addTo_carry xs ys hwa hwb k
      rw [hck] at hcar
      have HC := Lib.hid hck
      clear hck hx
      have hsz := hbel.size
      have hg1 := lt_of_block hcar
      obtain ⟨i0, hi, hz0, hz1, hz2⟩ := info_parts infoLimb
      go_wp2_with fail
      refine (carry0 c _ wr bc.1 (by omega) hcar).mono ?_
      rintro e w2 ⟨rfl, hcar2, hgr⟩
      have hblk2 := hblk.grown hgr (by simp)
      have hown : w2.ownsRow w.heap.size 64 1 (.slice (some ⟨w.heap.size, 0, none⟩) k (k + 1)) k ((addTo xs ys k).1.map (Value.int .u32)) := by
        have hnum := Num.ofBlk hblk2 (Nat.le_refl _) k (by simp [addTo_length]) (by simp [addTo_length]; unfold maxLen; omega)
        have e1 : ((addTo xs ys k).1 ++ List.replicate (k + 1 - k) 0).length = k + 1 := by rw [List.length_append, addTo_length, List.length_replicate]; omega
        have e2 : ((addTo xs ys k).1 ++ List.replicate (k + 1 - k) 0).take k = (addTo xs ys k).1 := List.take_left' (addTo_length xs ys k)
        rw [e1, e2] at hnum
        unfold Num at hnum
        rw [addTo_length] at hnum
        exact hnum
      go_wp2_with (at_builtin; refine wpList_append_fits _ rfl _ _ 49 rfl w.heap.size 64 i0 1 Tryz.underlying49 hi hz1 w.heap.size k (k + 1) ((addTo xs ys k).1.map (Value.int .u32)) rfl (hown.alloc _) ⟨w2.heap.size, 0, none⟩ 1 1 [.int .u32 (c % 4294967296)] rfl rfl (cell_one_new _ _ _) (by simp [Value.oneCell']) (by omega) ?_; intro w3 hown3 hgr3)
      have hnum : Num w.heap.size w3 (.slice (some ⟨w.heap.size, 0, none⟩) (k + 1) (k + 1)) (addL xs ys) := by
        have e : addL xs ys = (addTo xs ys k).1 ++ [c % 4294967296] := by
          unfold addL
          rw [HM.out, HC.out, Int.emod_eq_of_lt bc.1 (by omega)]
        rw [e]
        unfold Num
        rw [List.length_append, addTo_length, List.map_append]
        exact hown3
      have hb3 : Below w.heap.size w w3 := ((hbel.grown hgr (by omega) (fun j ej => by cases ej; omega)).alloc (by have := hgr.size; omega) _).grown hgr3 (by have := hgr.size; simp; omega) (fun j ej => by cases ej; exact Nat.le_refl _)
      refine (cut_num hnum).mono ?_
      rintro e w4 ⟨u, rfl, hu, rfl⟩
      go_wp2_with fail
      go_ret
      exact ⟨_, rfl, hu, hb3⟩
end
section
open Go.RowKit Go.Shelf
attribute [local go_sem] Oper.semAt_some
theorem wideCall {n : Nat} {P : Program} {f : FuncId} {args : Array Value} {w : World} {R : Ending → World → Prop} (h : Calls P f args w R) :
    Fence.wide.fn f ∧ (Fence.wide.depth.isSome = true → 1 ≤ n) ∧ CallsIn Fence.wide (n - 1) P f args w R := ⟨trivial, (fun h => by cases h), callsIn_wide.2 h⟩
theorem roundCall {n l : Nat} {P : Program} {f : FuncId} {args : Array Value} {w : World} {R : Ending → World → Prop} (h : Calls P f args w R) :
    (Fence.wide.inRound l).fn f ∧ ((Fence.wide.inRound l).depth.isSome = true → 1 ≤ n) ∧ CallsIn (Fence.wide.inRound l) (n - 1) P f args w R := ⟨trivial, (fun h => by cases h), CallsIn.inRound l (callsIn_wide.2 h)⟩
/-- the first k places -/
def Upto {n : Nat} (pre : List (Fin n)) (k : Nat) : Prop := pre.map Fin.val = List.range k
theorem Upto.nil {n : Nat} : Upto ([] : List (Fin n)) 0 := rfl
theorem Upto.snoc {n k : Nat} {pre : List (Fin n)} (h : Upto pre k) (hk : k < n) : Upto (pre ++ [⟨k, hk⟩]) (k + 1) := by
  unfold Upto at *
  rw [List.map_append, h, List.range_succ]
  rfl
theorem Upto.length {n k : Nat} {pre : List (Fin n)} (h : Upto pre k) : pre.length = k := by
  have := congrArg List.length h
  simpa using this
theorem range_limbs (xs : List Int) (m : Nat) (hm : m ≤ xs.length) : (List.range m).map (fun i => xs[i]?.getD 0) = xs.take m := by
  apply List.ext_getElem
  · simp; omega
  · intro i h1 h2
    simp at h1
    simp [show i < xs.length by omega]
theorem Upto.limbs {xs : List Int} {m : Nat} {ys : List (Fin m)} (h : Upto ys m) (hm : m ≤ xs.length) : ys.map (fun x => xs[x.val]?.getD 0) = xs.take m := by
  rw [← range_limbs xs m hm, ← h, List.map_map]
  rfl
/-- what a round is handed: the place, the limb -/
def limbAt (xs : List Int) {n : Nat} (x : Fin n) : Array Value := #[.int .i64 (x.val : Int), .int .u32 (xs[x.val]?.getD 0)]
set_option maxRecDepth 100000 in
set_option maxHeartbeats 2000000 in
theorem limbs1_in (n l Bs n₀ : Nat) (ad : Option Addr) (xs : List Int) (cap : Nat) (hm : xs.length ≤ 35184372088832) (hcap : xs.length ≤ cap) (hb : xs ≠ [] → ∀ a, ad = some a → a.block < n₀) (J Jx : List (Fin (trimN xs xs.length)) → World → Prop)
    (hY : ∀ pre x W, J pre W → pre.length < trimN xs xs.length → YieldAt Fence.wide (n - 1) Tryz.prog l (limbAt xs x) W fun e W' =>
      (e = .returned (.bool true) ∧ J (pre ++ [x]) W' ∧ Below n₀ W W') ∨ (e = .returned (.bool false) ∧ Jx (pre ++ [x]) W'))
    (W : World) (hBs : W.cell? ⟨Bs, 0, none⟩ = some (.slice ad xs.length cap)) (hl : Lim W ad xs) (h0 : J [] W) :
    CallsIn Fence.wide n Tryz.prog 172 #[.func (.yield l) #[] #[], .pointer (some ⟨Bs, 0, none⟩)] W fun e W' => (∃ v, e = .returned v) ∧
      ((∃ ys, Upto ys (trimN xs xs.length) ∧ J ys W') ∨ (∃ pre, (∃ k, k ≤ trimN xs xs.length ∧ Upto pre k) ∧ Jx pre W')) := by
  have hle := trim_le xs
  refine callsIn_of_wp Tryz.func172 rfl trivial ?_ rfl
  simp only [Tryz.ntmps172, List.size_toArray, List.length_cons, List.length_nil, Nat.reduceAdd, Nat.reduceSub, Array.replicate_succ, Array.replicate_zero, List.push_toArray, List.append_toArray, List.nil_append, List.cons_append]
  gi_wp2_with fail
  refine wideCall ((cut_any ad xs cap _ hl (by unfold maxLen; omega) hcap).mono ?_)
  rintro e w' ⟨rfl, rfl⟩
  generalize trimN xs xs.length = m at *
  gi_wp2_with fail
  gi_loopw [3, 4, 8] (fun _ _ i wr => ∃ (k : Nat) (pre : List (Fin m)), k ≤ m ∧ i = .int .i64 k ∧ Upto pre k ∧ J pre wr ∧ Below n₀ W wr)
    (fun _ _ i _ => m - (intOf i).toNat)
  case atStart => exact ⟨0, [], Nat.zero_le _, rfl, rfl, h0, Below.refl _ _⟩
  case round =>
    obtain ⟨k, pre, hk, rfl, hup, hJs, hnx⟩ := hrel
    by_cases hlt : k < m
    · rcases hl with rfl | ⟨b, off, rfl, hc⟩
      · simp at hle; omega
      · obtain ⟨fn, tmps, assign, body, hy, hR⟩ := hY pre ⟨k, hlt⟩ wr hJs (by rw [hup.length]; exact hlt)
        simp only [limbAt] at hy
        have hcx := (hnx.cell (p := ⟨b, off + k, none⟩) (hb (by rintro rfl; simp at hle; omega) ⟨b, off, none⟩ rfl)).trans (hc k (by omega))
        clear hc
        gi_wp2
        refine ⟨(fun h => by cases h), hR.mono ?_⟩
        rintro e W3 (⟨rfl, hJ3, hk3⟩ | ⟨rfl, hJx3⟩)
        · gi_wp2
          go_roundw
          case rel => exact ⟨k + 1, _, by omega, by go_num, hup.snoc hlt, hJ3, hnx.trans hk3⟩
          case measure => simp [intOf]; omega
        · gi_wp2
          refine bodyPost_ret (results_none rfl _ _ _) rfl ?_
          exact ⟨⟨_, rfl⟩, .inr ⟨_, ⟨k + 1, by omega, hup.snoc hlt⟩, hJx3⟩⟩
    · obtain rfl : k = m := by omega
      gi_wp2
      go_end0
      exact ⟨⟨_, rfl⟩, .inl ⟨_, hup, hJs⟩⟩
theorem limbs_any (ad : Option Addr) (n cap : Nat) (w : World) :
    Calls Tryz.prog 160 #[.slice ad n cap] w fun e w' => e = .returned (.func (.func 172) #[] #[.pointer (some ⟨w.heap.size, 0, none⟩)]) ∧ w' = w.alloc (.cells #[.slice ad n cap] 49) := by
  go_enter Tryz.func160, Tryz.ntmps160
  go_wp2
  go_ret
  exact ⟨rfl, rfl⟩
theorem limbs_stops (n Bs n₀ : Nat) (ad : Option Addr) (xs : List Int) (cap : Nat) (hm : xs.length ≤ 35184372088832) (hcap : xs.length ≤ cap) (hb : xs ≠ [] → ∀ a, ad = some a → a.block < n₀) (w : World) (hBs : Bs < w.heap.size)
    (hc : w.cell? ⟨Bs, 0, none⟩ = some (.slice ad xs.length cap)) (hl : Lim w ad xs) :
    SeqStopsK Fence.wide n Tryz.prog 172 #[.pointer (some ⟨Bs, 0, none⟩)] (limbAt xs (n := trimN xs xs.length)) (Below n₀) (fun ys => Upto ys (trimN xs xs.length)) (fun pre => ∃ k, k ≤ trimN xs xs.length ∧ Upto pre k) (trimN xs xs.length) w := fun l J Jx W hW _ _ hY h0 =>
  limbs1_in n l Bs n₀ ad xs cap hm hcap hb J Jx hY W ((hW.cell (p := ⟨Bs, 0, none⟩) hBs).trans hc) (hl.later hW) h0
end
section
open Go.RowKit Go.Shelf
attribute [local go_sem] Oper.semAt_some
set_option maxRecDepth 100000 in
set_option maxHeartbeats 2000000 in
theorem trim_any (ad : Option Addr) (xs : List Int) (cap : Nat) (w : World) (hl : Lim w ad xs) (hm : xs.length ≤ 35184372088832) (hcap : xs.length ≤ cap) :
    Calls Tryz.prog 145 #[.slice ad xs.length cap] w fun e w' => ∃ v, e = .returned v ∧ Num w.heap.size w' v (trim xs) ∧ Below w.heap.size w w' := by
  have hle := trim_le xs
  obtain ⟨i0, hi, hz0, hz1, hz2⟩ := info_parts infoLimb
  obtain ⟨n, hn⟩ : ∃ n : Nat, Hid (3 ≤ n) := ⟨3, Nat.le_refl 3⟩
  refine (callsIn_wide (n := n)).1 ?_
  refine callsIn_of_wp_marks Tryz.func145 rfl trivial ?_ rfl
  simp only [Tryz.ntmps145, List.size_toArray, List.length_cons, List.length_nil, Nat.reduceAdd, Nat.reduceSub, Array.replicate_succ, Array.replicate_zero, List.push_toArray, List.append_toArray, List.nil_append, List.cons_append]
  gi_wp2_with fail
  refine wideCall ((cut_any ad xs cap _ hl (by unfold maxLen; omega) hcap).mono ?_)
  rintro e w' ⟨rfl, rfl⟩
  obtain ⟨m, hmm⟩ : ∃ m, trimN xs xs.length = m := ⟨_, rfl⟩
  have hmk := make_run0 m (by omega)
  rw [hmm]
  rw [hmm] at hle
  have HM := Lib.hid hmm
  clear hmm
  gi_wp2_with fail
  refine wideCall ((limbs_any ad xs.length cap _).mono ?_)
  rintro e w' ⟨rfl, rfl⟩
  gi_wp2_with fail
  have h3 : 3 ≤ n := hn
  have bO := Boxed.new (w.alloc (Obj.cells (madeCells #[Value.int IntKind.u32 0] m) 64)) 49 (Value.slice (some ⟨w.heap.size, 0, none⟩) 0 m)
  have bN := Boxed.new ((w.alloc (Obj.cells (madeCells #[Value.int IntKind.u32 0] m) 64)).alloc (Obj.cells #[Value.slice (some ⟨w.heap.size, 0, none⟩) 0 m] 49)) 49 (Value.slice ad xs.length cap)
  have hown : ((w.alloc (Obj.cells (madeCells #[Value.int IntKind.u32 0] m) 64))).ownsRow w.heap.size 64 1 (Value.slice (some ⟨w.heap.size, 0, none⟩) 0 m) 0 [] :=
    ⟨rfl, .inr ⟨w.heap.size, m, _, rfl, Nat.le_refl _, heap_alloc_new w _, Nat.zero_le _, by unfold maxLen; omega, by simp [madeCells], by simp⟩⟩
  simp only [World.size_alloc] at bO bN
  have hB0 : Below w.heap.size w (((w.alloc (Obj.cells (madeCells #[Value.int IntKind.u32 0] m) 64)).alloc (Obj.cells #[Value.slice (some ⟨w.heap.size, 0, none⟩) 0 m] 49)).alloc (Obj.cells #[Value.slice ad xs.length cap] 49)) :=
    (((Below.refl _ w).alloc (Nat.le_refl _) _).alloc (by simp) _).alloc (by simp; omega) _
  refine wpIn_rangeFunc_ownG rfl (by omega) (gf := 172) (lb := #[.pointer (some ⟨w.heap.size + 1 + 1, 0, none⟩)]) rfl trivial (enters_of Tryz.func172 (by kernel_rfl) rfl)
    (limbs_stops (n - 1) (w.heap.size + 1 + 1) w.heap.size ad xs cap hm hcap hl.lt _ (by simp) bN.cell (hl.later hB0)) belowK_t (belowK_b (by simp; omega)) (Below.refl _ _) (fun _ => rfl)
    (fun (pre : List (Fin (trimN xs xs.length))) W => (∃ v, Boxed W (w.heap.size + 1) 49 v ∧ W.ownsRow w.heap.size 64 1 v pre.length (pre.map fun x => Value.int .u32 (xs[x.val]?.getD 0)) ∧ True) ∧ Below w.heap.size w W)
    (fun _ _ _ => False)
    (OwnFrom.and (Own.from (holdsRow_own w.heap.size (w.heap.size + 1) 49 64 1 (fun pre : List (Fin (trimN xs xs.length)) => pre.length) (fun pre => pre.map fun x => Value.int .u32 (xs[x.val]?.getD 0)) (fun _ _ => True)) _) (ownFrom_below (Nat.le_refl _) (by simp; omega)))
    (fun _ _ _ _ _ hs _ _ => hs)
    ⟨⟨_, bO.alloc _, (hown.alloc _).alloc _, trivial⟩, hB0⟩
    (fun (x : Fin (trimN xs xs.length)) => { tmps := #[.slice ad xs.length cap, undef, .slice none 0 0, .pointer (some ⟨w.heap.size + 1, 0, none⟩), undef, .int .u32 (xs[x.val]?.getD 0), .slice ad xs.length cap, .slice ad m cap, .int .i64 m, .slice (some ⟨w.heap.size, 0, none⟩) 0 m, .slice ad xs.length cap,
      .func (.func 172) #[] #[.pointer (some ⟨w.heap.size + 1 + 1, 0, none⟩)], .int .i64 (x.val : Int), .int .u32 (xs[x.val]?.getD 0), undef, undef, undef, undef, undef], defers := [] }) ?assign ?body ?done ?stop
  case assign =>
    intro l x W K hK
    simp only [limbAt]
    gi_wp2
    exact hK
  case body =>
    rintro l pre x W ⟨⟨v, hv, hrow, _⟩, hB⟩ hlt
    have hc := hv.cell
    have hpl : pre.length + 1 ≤ 35184372088832 := by have := HM.out; omega
    have hbs := hB.size
    gi_wp2_with (gi_at_builtin; refine wpListIn_append_own _ rfl _ _ 49 rfl w.heap.size 64 i0 (.int .u32 0) 1 4 Tryz.underlying49 hi hz0 hz1 hz2 rfl (by decide) _ _ _ rfl (hrow.alloc _) ⟨W.heap.size, 0, none⟩ 1 1 [.int .u32 (xs[x.val]?.getD 0)] rfl rfl (cell_one_new _ _ _) (by simp [Value.oneCell']) (by unfold maxLen; omega) (by omega) (by simp; omega) ?_; intro v' w1 hown' hgrow _; obtain ⟨g', cap', rfl⟩ := ownsRow_succ hown'; obtain ⟨hv1, hv2, hr2, hk2, hb2⟩ := hv.appended (by decide) hrow hB.size (Nat.le_succ _) hown' hgrow; have hc1 := hv1.cell; have hf1 := hv1.frozen)
    exact ⟨hk2.from _, hb2, ⟨_, hv2, by simpa using hr2, trivial⟩, hB.trans hb2⟩
  case done =>
    rintro D ys W hD hup ⟨⟨v, hv, hrow, _⟩, hB⟩ hK
    have hc := hv.cell
    gi_wp2
    refine ⟨by simp, .inl ⟨_, _, rfl, run_takeDeferred hK, ?_⟩⟩
    refine ⟨_, results_tmp rfl _ _ _, v, rfl, ?_, hB.trans (belowK_b (w := w) (Nat.le_refl _) W D _ _ (by simp at hD; omega) hK rfl rfl)⟩
    have h2 := ownsRow_putObj hrow (.deferred none) hK rfl
    have e : trim xs = ys.map (fun x => xs[x.val]?.getD 0) := (hup.limbs (trim_le xs)).symm
    unfold Num
    rw [e, List.length_map, List.map_map]
    exact h2
  case stop =>
    rintro D c pre W _ _ h _
    exact h.elim
end
section
open Go.RowKit
/-- no operation defers -/
def noDefer (ops : Array Oper) : Bool := ops.toList.all fun o => match o.op with | .defer _ => false | _ => true
theorem noDefer_spec {ops : Array Oper} (h : noDefer ops = true) {i : Nat} {o : Oper} (ho : ops[i]? = some o) (c : Call) : o.op ≠ .defer c := by
  intro e
  have hm : o ∈ ops.toList := by
    obtain ⟨hi, rfl⟩ := Array.getElem?_eq_some_iff.1 ho
    exact Array.getElem_mem_toList hi
  have := List.all_eq_true.1 h o hm
  rw [e] at this
  cases this
theorem wpIn_of_wp_round {l n : Nat} {P : Program} {o : Oper} {a : Act} {w : World} {K : Act → World → Prop} {Q : Exit → Act → World → Prop} (hnd : ∀ c, o.op ≠ .defer c)
    (h : o.wp P a w K Q) : o.wpIn (Fence.wide.inRound l) n P a w K Q := by
  unfold Oper.wpIn
  refine ⟨fun _ _ => trivial, ?_⟩
  rw [Oper.semAt_eq _ _ _ hnd]
  unfold Oper.wp at h
  generalize (execOp a.eval o).run P w = r at *
  cases r with
  | ok x w' =>
    cases x with
    | value v => exact h
    | skip => exact h
    | defer d => exact h
    | enter f args => exact ⟨(fun h => by cases h), callsIn_wide.2 h⟩
    | row r args => exact ⟨(fun h => by cases h), fun c cs _ => let ⟨v, w', r, s⟩ := h c cs; ⟨v, w', r, stepsIn_wide.2 s⟩⟩
    | _ => exact h.elim
  | halt x w' => cases x <;> exact h
theorem wpAnyIn_of_round {l n : Nat} {P : Program} {md : Region.Mode} {ops : Array Oper} {Q : Exit → Act → World → Prop} (hnd : noDefer ops = true) (hLO : ¬ LetsOut Q) :
    ∀ (fuel : Nat) (listed : Array Bool) (a : Act) (w : World), wpAny P md ops Q fuel listed a w → wpAnyIn (Fence.wide.inRound l) n P md ops Q fuel listed a w
  | 0, _, _, _, h => h
  | fuel + 1, _, _, _, h => ⟨h.1, fun i hi => by
    have h2 := h.2 i hi
    unfold wpOp at h2
    unfold wpOpIn
    split
    · rename_i he
      rw [he] at h2
      exact wpAnyIn_of_round hnd hLO fuel _ _ _ h2
    · rename_i o ho
      simp only [ho] at h2
      split
      · rename_i hw
        simp only [hw, if_true] at h2
        rcases h2 with h2 | h2
        · exact wpIn_of_wp_round (fun c => noDefer_spec hnd ho c) (Oper.wp_mono (fun a w ha => wpAnyIn_of_round hnd hLO fuel _ a w ha) h2)
        · exact absurd h2.2 hLO
      · rename_i hw
        simp only [hw] at h2
        exact ⟨fun _ _ => trivial, wpAnyIn_of_round hnd hLO fuel _ _ _ h2⟩⟩
theorem region_round {l n id : Nat} {P : Program} {ops : Array Oper} {Q : Exit → Act → World → Prop} {a : Act} {w : World} (S : World → Prop) (hm : P.follows .mixedOrders = true) (hnd : noDefer ops = true) (hLO : ¬ LetsOut Q)
    (hS : S w.drew) (h : S w.drew → wpAnyH P .any ops Q S ops.size (Array.replicate ops.size false) a w.drew) : (Code.region id ops true).wpIn (Fence.wide.inRound l) n P Q a w :=
  wpIn_region_any hm (wpAnyIn_of_round hnd hLO _ _ _ _ (wpAny_of_held _ _ _ _ (h hS)))
end
section
open Go.RowKit Go.Shelf
attribute [local go_sem] Oper.semAt_some
/-- the last k places, from above -/
def Downto {n : Nat} (pre : List (Fin n)) (k : Nat) : Prop := pre.length = k ∧ ∀ i (h : i < pre.length), (pre[i]).val + i + 1 = n
theorem Downto.nil {n : Nat} : Downto ([] : List (Fin n)) 0 := ⟨rfl, fun i h => by simp at h⟩
theorem Downto.snoc {n k : Nat} {pre : List (Fin n)} (h : Downto pre k) (x : Fin n) (hx : x.val + k + 1 = n) : Downto (pre ++ [x]) (k + 1) := by
  obtain ⟨h1, h2⟩ := h
  refine ⟨by simp [h1], fun i hi => ?_⟩
  by_cases hlt : i < pre.length
  · rw [List.getElem_append_left hlt]; exact h2 i hlt
  · have : i = k := by simp at hi; omega
    subst this
    rw [List.getElem_append_right (by omega)]
    simp [h1, hx]
set_option maxRecDepth 100000 in
set_option maxHeartbeats 2000000 in
theorem back1_in (n l Bs n₀ : Nat) (ad : Option Addr) (xs : List Int) (cap : Nat) (hm : xs.length ≤ 35184372088832) (hBn : Bs < n₀) (hb : xs ≠ [] → ∀ a, ad = some a → a.block < n₀) (J Jx : List (Fin xs.length) → World → Prop)
    (hY : ∀ pre x W, J pre W → pre.length < xs.length → YieldAt Fence.wide (n - 1) Tryz.prog l (limbAt xs x) W fun e W' =>
      (e = .returned (.bool true) ∧ J (pre ++ [x]) W' ∧ Below n₀ W W') ∨ (e = .returned (.bool false) ∧ Jx (pre ++ [x]) W'))
    (W : World) (hBs : W.cell? ⟨Bs, 0, none⟩ = some (.slice ad xs.length cap)) (hl : Lim W ad xs) (h0 : J [] W) :
    CallsIn Fence.wide n Tryz.prog 170 #[.func (.yield l) #[] #[], .pointer (some ⟨Bs, 0, none⟩)] W fun e W' => (∃ v, e = .returned v) ∧
      ((∃ ys, Downto ys xs.length ∧ J ys W') ∨ (∃ pre, (∃ k, k ≤ xs.length ∧ Downto pre k) ∧ Jx pre W')) := by
  refine callsIn_of_wp Tryz.func170 rfl trivial ?_ rfl
  simp only [Tryz.ntmps170, List.size_toArray, List.length_cons, List.length_nil, Nat.reduceAdd, Nat.reduceSub, Array.replicate_succ, Array.replicate_zero, List.push_toArray, List.append_toArray, List.nil_append, List.cons_append]
  gi_wp2_with fail
  gi_loopw [3] (fun i wr => ∃ (k : Nat) (pre : List (Fin xs.length)), k ≤ xs.length ∧ i = .int .i64 ((xs.length : Int) - 1 - k) ∧ Downto pre k ∧ J pre wr ∧ Below n₀ W wr)
    (fun i _ => (intOf i + 1).toNat)
  case atStart => exact ⟨0, [], Nat.zero_le _, by simp, Downto.nil, h0, Below.refl _ _⟩
  case round =>
    obtain ⟨k, pre, hk, rfl, hdn, hJs, hnx⟩ := hrel
    have hBr := (hnx.cell (p := ⟨Bs, 0, none⟩) hBn).trans hBs
    by_cases hlt : k < xs.length
    · rcases hl with rfl | ⟨b, off, rfl, hc⟩
      · simp at hlt
      · obtain ⟨j, hj⟩ : ∃ j, j + k + 1 = xs.length := ⟨xs.length - k - 1, by omega⟩
        have hji : ((xs.length : Int) - 1 - k) = (j : Int) := by omega
        rw [hji]
        have hjl : j < xs.length := by omega
        obtain ⟨fn, tmps, assign, body, hy, hR⟩ := hY pre ⟨j, hjl⟩ wr hJs (by rw [hdn.1]; exact hlt)
        simp only [limbAt] at hy
        have hcx := (hnx.cell (p := ⟨b, off + j, none⟩) (hb (by rintro rfl; simp at hlt) ⟨b, off, none⟩ rfl)).trans (hc j (by omega))
        have ej : xs[j]?.getD 0 = xs[j] := by simp [hjl]
        rw [ej] at hy
        have HJ := Lib.hid hj
        clear hc hj hji ej
        gi_wp2
        refine ⟨(fun h => by cases h), hR.mono ?_⟩
        rintro e W3 (⟨rfl, hJ3, hk3⟩ | ⟨rfl, hJx3⟩)
        · gi_wp2
          go_roundw
          case rel => exact ⟨k + 1, _, by omega, by have := HJ.out; congr 1; omega, hdn.snoc ⟨j, hjl⟩ HJ.out, hJ3, hnx.trans hk3⟩
          case measure => simp [intOf]
        · gi_wp2
          refine bodyPost_ret (results_none rfl _ _ _) rfl ?_
          exact ⟨⟨_, rfl⟩, .inr ⟨_, ⟨k + 1, by omega, hdn.snoc ⟨j, hjl⟩ HJ.out⟩, hJx3⟩⟩
    · obtain rfl : k = xs.length := by omega
      have hji : ((xs.length : Int) - 1 - xs.length) = -1 := by omega
      rw [hji]
      clear hji
      gi_wp2
      go_end0
      exact ⟨⟨_, rfl⟩, .inl ⟨_, hdn, hJs⟩⟩
theorem back_any (ad : Option Addr) (n cap : Nat) (w : World) :
    Calls Tryz.prog 158 #[.slice ad n cap] w fun e w' => e = .returned (.func (.func 170) #[] #[.pointer (some ⟨w.heap.size, 0, none⟩)]) ∧ w' = w.alloc (.cells #[.slice ad n cap] 49) := by
  go_enter Tryz.func158, Tryz.ntmps158
  go_wp2
  go_ret
  exact ⟨rfl, rfl⟩
theorem back_stops (n Bs n₀ : Nat) (ad : Option Addr) (xs : List Int) (cap : Nat) (hm : xs.length ≤ 35184372088832) (hBn : Bs < n₀) (hb : xs ≠ [] → ∀ a, ad = some a → a.block < n₀) (w : World) (hBs : Bs < w.heap.size)
    (hc : w.cell? ⟨Bs, 0, none⟩ = some (.slice ad xs.length cap)) (hl : Lim w ad xs) :
    SeqStopsK Fence.wide n Tryz.prog 170 #[.pointer (some ⟨Bs, 0, none⟩)] (limbAt xs (n := xs.length)) (Below n₀) (fun ys => Downto ys xs.length) (fun pre => ∃ k, k ≤ xs.length ∧ Downto pre k) xs.length w := fun l J Jx W hW _ _ hY h0 =>
  back1_in n l Bs n₀ ad xs cap hm hBn hb J Jx hY W ((hW.cell (p := ⟨Bs, 0, none⟩) hBs).trans hc) (hl.later hW) h0
end
section
open Go.RowKit Go.Shelf
attribute [local go_sem] Oper.semAt_some
/-- what Cmp comes to, of numbers without zeros at the end -/
def CmpT (us vs : List Int) (r : Int) : Prop :=
  (us.length ≠ vs.length ∧ r = sign us.length vs.length) ∨
  (us.length = vs.length ∧ (∀ i, i < us.length → us[i]?.getD 0 = vs[i]?.getD 0) ∧ r = 0) ∨
  (us.length = vs.length ∧ ∃ i, i < us.length ∧ us[i]?.getD 0 ≠ vs[i]?.getD 0 ∧ (∀ j, i < j → j < us.length → us[j]?.getD 0 = vs[j]?.getD 0) ∧ r = sign (us[i]?.getD 0) (vs[i]?.getD 0))
set_option maxRecDepth 100000 in
set_option maxHeartbeats 2000000 in
theorem cmp_any (a b : Option Addr) (xs ys : List Int) (capa capb : Nat) (w : World) (hla : Lim w a xs) (hlb : Lim w b ys) (hma : xs.length ≤ 35184372088832) (hmb : ys.length ≤ 35184372088832)
    (hca : xs.length ≤ capa) (hcb : ys.length ≤ capb) :
    Calls Tryz.prog 132 #[.slice a xs.length capa, .slice b ys.length capb] w fun e w' => ∃ r, e = .returned (.int .i64 r) ∧ CmpT (trim xs) (trim ys) r ∧ Below w.heap.size w w' := by
  have hta := trim_le xs
  have htb := trim_le ys
  obtain ⟨n, hn⟩ : ∃ n : Nat, Hid (3 ≤ n) := ⟨3, Nat.le_refl 3⟩
  refine (callsIn_wide (n := n)).1 ?_
  refine callsIn_of_wp_marks Tryz.func132 rfl trivial ?_ rfl
  simp only [Tryz.ntmps132, List.size_toArray, List.length_cons, List.length_nil, Nat.reduceAdd, Nat.reduceSub, Array.replicate_succ, Array.replicate_zero, List.push_toArray, List.append_toArray, List.nil_append, List.cons_append]
  gi_wp2_with fail
  have bB := (Boxed.new w 49 (.slice b ys.length capb)).alloc (Obj.cells #[Value.int IntKind.i64 0] 3)
  have bR := Boxed.new (w.alloc (.cells #[.slice b ys.length capb] 49)) 3 (.int .i64 0)
  have hB0 : Below w.heap.size w ((w.alloc (.cells #[.slice b ys.length capb] 49)).alloc (Obj.cells #[Value.int IntKind.i64 0] 3)) := ((Below.refl _ w).alloc (Nat.le_refl _) _).alloc (by simp) _
  rw [World.size_alloc] at bR
  generalize (w.alloc (.cells #[.slice b ys.length capb] 49)).alloc (Obj.cells #[Value.int IntKind.i64 0] 3) = W at *
  have hcB := bB.cell
  have hfB := bB.frozen
  have hla' : Lim W.drew a xs := hla.later hB0.drew
  have hlb' : Lim W.drew b ys := hlb.later hB0.drew
  refine wpIn_wide.2 ?_
  go_still_tail 5, (by kernel_rfl)
  still_call (cut_still a xs capa _ hla' hma hca)
  repeat still_step
  still_call (cut_still b ys capb _ hlb' hmb hcb)
  repeat still_step
  refine wpStill_nil ?_
  have hlu : Lim w a (trim xs) := hla.take _
  have hlv : Lim w b (trim ys) := hlb.take _
  rw [← trim_length xs, ← trim_length ys]
  have hlen1 : (trim xs).length ≤ 35184372088832 := by rw [trim_length]; omega
  have hlen2 : (trim ys).length ≤ 35184372088832 := by rw [trim_length]; omega
  clear hla hlb hla' hlb' hta htb
  obtain ⟨us, hus⟩ : ∃ us, trim xs = us := ⟨_, rfl⟩
  obtain ⟨vs, hvs⟩ : ∃ vs, trim ys = vs := ⟨_, rfl⟩
  rw [hus] at hlu hlen1 ⊢
  rw [hvs] at hlv hlen2 ⊢
  have HU := Lib.hid hus
  have HV := Lib.hid hvs
  clear hus hvs
  go_wp2_with fail
  have bB2 : Boxed (W.setCell ⟨w.heap.size, 0, none⟩ (.slice b vs.length capb)).drew w.heap.size 49 (.slice b vs.length capb) := bB.set _
  have bR1 : Boxed (W.setCell ⟨w.heap.size, 0, none⟩ (.slice b vs.length capb)) (w.heap.size + 1) 3 (.int .i64 0) := bR.kept (grownBy_setCell' W w.heap.size _) (by simp)
  have bR2 : Boxed (W.setCell ⟨w.heap.size, 0, none⟩ (.slice b vs.length capb)).drew (w.heap.size + 1) 3 (.int .i64 0) := bR1
  have hB2 : Below w.heap.size w (W.setCell ⟨w.heap.size, 0, none⟩ (.slice b vs.length capb)).drew := (hB0.setCell (p := ⟨w.heap.size, 0, none⟩) (Nat.le_refl _) _).drew
  have hlu2 := hlu.later hB2
  have hlv2 := hlv.later hB2
  clear bB bR bR1 hB0 hcB hfB hlu hlv
  generalize (W.setCell ⟨w.heap.size, 0, none⟩ (.slice b vs.length capb)).drew = V at *
  have hcB := bB2.cell
  have hcR := bR2.cell
  have hfR := bR2.frozen
  have hsz := hB2.size
  by_cases hne : us.length = vs.length
  · have hne2 : ((us.length : Int) != (vs.length : Int)) = false := by simp; omega
    have HE := Lib.hid hne
    clear hne
    have hbu : us ≠ [] → ∀ x, a = some x → x.block < V.heap.size + 1 := fun h x hx => Nat.lt_succ_of_lt (hlu2.lt h x hx)
    gi_wp2_with fail
    refine wideCall ((back_any _ _ _ _).mono ?_)
    rintro e w' ⟨rfl, rfl⟩
    gi_wp2_with fail
    have h3 : 3 ≤ n := hn
    have bN := Boxed.new V 49 (.slice a us.length capa)
    refine wpIn_rangeFunc_ownF rfl (by omega) (gf := 170) (lb := #[.pointer (some ⟨V.heap.size, 0, none⟩)]) rfl trivial (enters_of Tryz.func170 (by kernel_rfl) rfl)
      (back_stops (n - 1) V.heap.size (V.heap.size + 1) a us capa hlen1 (Nat.lt_succ_self _) hbu _ (by simp) bN.cell (hlu2.later ((Below.refl _ V).alloc (Nat.le_refl _) _))) belowK_t (belowK_b (by simp)) (Below.refl _ _) (fun _ => rfl)
      (fun (pre : List (Fin us.length)) X => (∀ x ∈ pre, us[x.val]?.getD 0 = vs[x.val]?.getD 0) ∧ Below (V.heap.size + 1) (V.alloc (.cells #[.slice a us.length capa] 49)) X)
      (fun c pre X => (c = .ret ∧ ∃ ini last, pre = ini ++ [last] ∧ (∀ x ∈ ini, us[x.val]?.getD 0 = vs[x.val]?.getD 0) ∧ us[last.val]?.getD 0 ≠ vs[last.val]?.getD 0 ∧ X.cell? ⟨w.heap.size + 1, 0, none⟩ = some (.int .i64 (sign (us[last.val]?.getD 0) (vs[last.val]?.getD 0)))) ∧ Below w.heap.size w X)
      (OwnFrom.and (Own.from (fun s A B row hs hg hr => hs) _) (ownFrom_below (by simp) (by simp)))
      (fun c => OwnFrom.and (Own.from (fun s A B row hs hg hr => by obtain ⟨hc, ini, last, e1, e2, e3, e4⟩ := hs; exact ⟨hc, ini, last, e1, e2, e3, cell_kept e4 hg hr⟩) _) (ownFrom_below (Nat.le_refl _) (by simp; omega)))
      ⟨by simp, Below.refl _ _⟩
      (fun (x : Fin us.length) => { tmps := #[.slice a us.length capa, .slice b ys.length capb, undef, .pointer (some ⟨w.heap.size, 0, none⟩), .pointer (some ⟨w.heap.size + 1, 0, none⟩), .int .i64 (x.val : Int), .int .u32 (us[x.val]?.getD 0),
        .slice a xs.length capa, .slice a us.length capa, .slice b ys.length capb, .slice b vs.length capb, .slice a us.length capa, .int .i64 us.length, .slice b vs.length capb, .int .i64 vs.length, .bool false, undef, undef, undef, undef, undef,
        .slice a us.length capa, .func (.func 170) #[] #[.pointer (some ⟨V.heap.size, 0, none⟩)], .int .i64 (x.val : Int), .int .u32 (us[x.val]?.getD 0), undef, undef, undef, undef, undef, undef, undef, undef, undef, undef, undef, undef], defers := [] }) ?assign ?body ?done ?stop
    case assign =>
      intro l x X K hK
      simp only [limbAt]
      rw [show us[x.val]?.getD 0 = us[x.val] by simp] at hK
      gi_wp2
      exact hK
    case body =>
      rintro l pre ⟨k, hk⟩ X ⟨hpre, hB⟩ hlt
      have hE := HE.out
      rcases hlv2 with rfl | ⟨bb, off, rfl, hcv⟩
      · simp only [List.length_nil] at hE; omega
      have cB := (hB.cell (p := ⟨w.heap.size, 0, none⟩) (show w.heap.size < V.heap.size + 1 by have := bB2.lt; omega)).trans (bB2.alloc (Obj.cells #[.slice a us.length capa] 49)).cell
      have cR : Boxed X (w.heap.size + 1) 3 (.int .i64 0) := (hB.block _ (by have := bR2.lt; omega)).trans (bR2.alloc (Obj.cells #[.slice a us.length capa] 49))
      have hvl : bb < V.heap.size := World.block_lt_of_cell? V _ (hcv k (by omega))
      have cV := (hB.cell (p := ⟨bb, off + k, none⟩) (Nat.lt_succ_of_lt hvl)).trans ((World.cell?_alloc_lt V (Obj.cells #[.slice a us.length capa] 49) ⟨bb, off + k, none⟩ hvl).trans (hcv k (by omega)))
      have hkv : k < vs.length := by omega
      have cR0 := cR.cell
      have cRf := cR.frozen
      have cR2 : ∀ r, (X.setCell ⟨w.heap.size + 1, 0, none⟩ r).cell? ⟨w.heap.size + 1, 0, none⟩ = some r := fun r => (cR.set r).cell
      have hBX : Below w.heap.size w X := ((hB2.alloc hsz _).trans (hB.mono (by omega)))
      obtain ⟨u, hu⟩ : ∃ u, us[k]?.getD 0 = u := ⟨_, rfl⟩
      obtain ⟨v, hv⟩ : ∃ v, vs.getD k 0 = v := ⟨_, rfl⟩
      rw [hv] at cV
      simp only [hu]
      have HU2 := Lib.hid hu
      have HV2 := Lib.hid hv
      clear hu hv hE hcv cR bB2 bR2 hB2 hlu2 hcB hcR hfR bN
      by_cases e : u = v
      · subst e
        have hne3 : (u != u) = false := by simp
        gi_wp2_with fail
        refine ⟨KeepsOthers.refl _, Below.refl _ _, ?_, hB⟩
        intro y hy
        rcases List.mem_append.1 hy with hy | hy
        · exact hpre y hy
        · simp only [List.mem_singleton] at hy
          subst hy
          exact HU2.out.trans HV2.out.symm
      · have hne3 : (u != v) = true := by simp [e]
        gi_wp2_with fail
        refine roundCall ((cmpLimb_any _ _ _).mono ?_)
        rintro e w' ⟨rfl, rfl⟩
        gi_wp2_with fail
        have e1 : us[k]?.getD 0 = u := HU2.out
        have e2 : vs[k]?.getD 0 = v := HV2.out
        refine ⟨KeepsOthers.setCell _ _ _, ⟨rfl, pre, ⟨k, hk⟩, rfl, hpre, by rw [e1, e2]; exact e, ?_⟩, hBX.setCell (p := ⟨w.heap.size + 1, 0, none⟩) (Nat.le_succ _) _⟩
        rw [e1, e2]
        exact cR2 _
    case done =>
      rintro D ys' X hD hdn ⟨hall, hB⟩ hK
      rw [World.size_alloc] at hD
      have cR : Boxed X (w.heap.size + 1) 3 (.int .i64 0) := (hB.block _ (by have := bR2.lt; omega)).trans (bR2.alloc (Obj.cells #[.slice a us.length capa] 49))
      have cR0 := cR.cell
      have cRf := cR.frozen
      have hBX : Below w.heap.size w X := ((hB2.alloc hsz _).trans (hB.mono (by omega)))
      have hE := HE.out
      clear hcB hcR hfR bN hbu
      gi_wp2
      have hK' := (KeepsOthers.setCell X ⟨w.heap.size + 1, 0, none⟩ (.int .i64 0)).same D _ hK rfl
      refine ⟨by simp, .inl ⟨_, _, rfl, run_takeDeferred hK', ?_⟩⟩
      have hc5 := cell_kept ((cR.set (.int .i64 0)).cell) (grownBy_putObj' _ D (.deferred none)) (fun r e => by cases e; exact ⟨_, hK', rfl⟩)
      refine ⟨.int .i64 0, by simp [results, Tryz.f132, go_sem, hc5], 0, rfl, ?_, (hBX.setCell (p := ⟨w.heap.size + 1, 0, none⟩) (Nat.le_succ _) _).trans (belowK_b (w := w) (Nat.le_refl _) _ D _ _ (by omega) hK' rfl rfl)⟩
      rw [HU.out, HV.out]
      refine .inr (.inl ⟨hE, fun i hi => ?_, rfl⟩)
      obtain ⟨h1, h2⟩ := hdn
      have h3 := h2 (us.length - 1 - i) (by omega)
      have h4 := hall _ (List.getElem_mem (show us.length - 1 - i < ys'.length by omega))
      rw [show (ys'[us.length - 1 - i]'(by omega)).val = i from by omega] at h4
      exact h4
    case stop =>
      rintro D c pre X hD ⟨k, hk, hdn⟩ ⟨⟨rfl, ini, last, e1, e2, e3, hcr⟩, hB⟩ hK
      rw [World.size_alloc] at hD
      have hE := HE.out
      clear hcB hcR hfR bN hbu
      gi_wp2
      refine ⟨by simp, .inl ⟨_, _, rfl, run_takeDeferred hK, ?_⟩⟩
      have hc5 := cell_kept hcr (grownBy_putObj' _ D (.deferred none)) (fun r e => by cases e; exact ⟨_, hK, rfl⟩)
      refine ⟨.int .i64 (sign (us[last.val]?.getD 0) (vs[last.val]?.getD 0)), by simp [results, Tryz.f132, go_sem, hc5], _, rfl, ?_, hB.trans (belowK_b (w := w) (Nat.le_refl _) _ D _ _ (by omega) hK rfl rfl)⟩
      rw [HU.out, HV.out]
      refine .inr (.inr ⟨hE, last.val, last.isLt, e3, fun j hj1 hj2 => ?_, rfl⟩)
      obtain ⟨h1, h2⟩ := hdn
      subst e1
      have hl : (ini ++ [last]).length = ini.length + 1 := by simp
      have h3 := h2 ini.length (by omega)
      rw [List.getElem_append_right (by omega)] at h3
      simp only [Nat.sub_self, List.getElem_cons_zero] at h3
      have hj3 : us.length - 1 - j < ini.length := by omega
      have h4 := h2 (us.length - 1 - j) (by omega)
      rw [List.getElem_append_left hj3] at h4
      have h5 := e2 _ (List.getElem_mem hj3)
      rw [show (ini[us.length - 1 - j]).val = j from by omega] at h5
      exact h5
  · have hne2 : ((us.length : Int) != (vs.length : Int)) = true := by simp; omega
    gi_wp2_with fail
    refine wideCall ((cmpInt_any _ _ _).mono ?_)
    rintro e w' ⟨rfl, rfl⟩
    have hcr2 := (bR2.set (.int .i64 (sign us.length vs.length))).cell
    gi_wp2_with fail
    refine ⟨.int .i64 (sign us.length vs.length), by simp [results, Tryz.f132, go_sem, hcr2], _, rfl, ?_, hB2.setCell (p := ⟨w.heap.size + 1, 0, none⟩) (Nat.le_succ _) _⟩
    rw [HU.out, HV.out]
    exact .inl ⟨hne, rfl⟩
end
section
open Go.RowKit Go.Shelf
attribute [local go_sem] Oper.semAt_some
/-- one round of a difference: the limbs, the carry -/
def subStep (xs ys : List Int) (s : List Int × Int) (k : Nat) : List Int × Int :=
  (s.1.set k ((s.2 + xs.getD k 0 + (4294967295 - ys.getD k 0)) % 4294967296), (s.2 + xs.getD k 0 + (4294967295 - ys.getD k 0)) / 4294967296)
def subOf (xs ys : List Int) (m : Nat) (ks : List Nat) : List Int × Int := ks.foldl (subStep xs ys) (List.replicate m 0, 1)
/-- the difference's limbs -/
def subL (xs ys : List Int) : List Int := (subOf xs ys (trimN xs xs.length) (List.range (trimN xs xs.length))).1
theorem subOf_snoc (xs ys : List Int) (m : Nat) (ks : List Nat) (k : Nat) : subOf xs ys m (ks ++ [k]) = subStep xs ys (subOf xs ys m ks) k := by simp [subOf]
theorem subOf_ok (xs ys : List Int) (m : Nat) (hx : Wf xs) (hy : Wf ys) (ks : List Nat) : (subOf xs ys m ks).1.length = m ∧ 0 ≤ (subOf xs ys m ks).2 ∧ (subOf xs ys m ks).2 < 4294967296 := by
  suffices h : ∀ s : List Int × Int, s.1.length = m ∧ 0 ≤ s.2 ∧ s.2 < 4294967296 → ((ks.foldl (subStep xs ys) s).1.length = m ∧ 0 ≤ (ks.foldl (subStep xs ys) s).2 ∧ (ks.foldl (subStep xs ys) s).2 < 4294967296) from
    h _ ⟨by simp, by simp, by simp⟩
  induction ks with
  | nil => exact fun s h => h
  | cons k ks ih =>
    intro s h
    refine ih _ ?_
    have h1 := hx.getD k
    have h2 := hy.getD k
    simp only [subStep, List.length_set]
    omega
theorem blk_own {β : Type} (g : Nat) (f : β → List Int) : Own (fun s W => Blk W g (f s)) := fun s X Y row hs hg hrow =>
  hs.grown hg (fun e' => by obtain ⟨o, ho, hc⟩ := hrow g e'.symm; rw [show X.heap[g]? = _ from hs] at ho; cases ho; cases hc)
theorem Boxed.far {W : World} {B : Nat} {t : TypeId} {v : Value} (h : Boxed W B t v) {p : Addr} (hne : B ≠ p.block) (u : Value) : Boxed (W.setCell p u) B t v := (Below.heap_setCell _ _ _ _ hne).trans h
theorem Own.and2 {β : Type} {I J : β → World → Prop} (h : Own I) (k : Own J) : Own (fun s W => I s W ∧ J s W) := fun s X Y row hs hg hr => ⟨h s X Y row hs.1 hg hr, k s X Y row hs.2 hg hr⟩
set_option maxRecDepth 100000 in
set_option maxHeartbeats 4000000 in
set_option linter.unusedSimpArgs false in
theorem sub_any (a b : Option Addr) (xs ys : List Int) (capa capb : Nat) (w : World) (hla : Lim w a xs) (hlb : Lim w b ys) (hma : xs.length ≤ 35184372088832) (hmb : ys.length ≤ 35184372088832)
    (hca : xs.length ≤ capa) (hcb : ys.length ≤ capb) (hwa : Wf xs) (hwb : Wf ys) :
    Calls Tryz.prog 133 #[.slice a xs.length capa, .slice b ys.length capb] w fun e w' => ∃ r, CmpT (trim xs) (trim ys) r ∧ Below w.heap.size w w' ∧
      (r < 0 → e = .returned (.tuple #[.slice none 0 0, .int .i64 20])) ∧ (0 ≤ r → ∃ v, e = .returned (.tuple #[v, .int .i64 0]) ∧ Num w.heap.size w' v (trim (subL xs ys))) := by
  have hta := trim_le xs
  obtain ⟨n, hn⟩ : ∃ n : Nat, Hid (3 ≤ n) := ⟨3, Nat.le_refl 3⟩
  refine (callsIn_wide (n := n)).1 ?_
  refine callsIn_of_wp_marks Tryz.func133 rfl trivial ?_ rfl
  simp only [Tryz.ntmps133, List.size_toArray, List.length_cons, List.length_nil, Nat.reduceAdd, Nat.reduceSub, Array.replicate_succ, Array.replicate_zero, List.push_toArray, List.append_toArray, List.nil_append, List.cons_append]
  gi_wp2_with fail
  have bB0 := Boxed.new w 49 (.slice b ys.length capb)
  have hB0 : Below w.heap.size w (w.alloc (.cells #[.slice b ys.length capb] 49)) := (Below.refl _ w).alloc (Nat.le_refl _) _
  have hla0 := hla.later hB0
  have hlb0 := hlb.later hB0
  have hs0 : (w.alloc (.cells #[.slice b ys.length capb] 49)).heap.size = w.heap.size + 1 := by simp
  refine wideCall ((cmp_any a b xs ys capa capb _ hla0 hlb0 hma hmb hca hcb).mono ?_)
  rintro e V ⟨r, rfl, hr, hBV⟩
  rw [hs0] at hBV
  have bB : Boxed V w.heap.size 49 (.slice b ys.length capb) := (hBV.block _ (by omega)).trans bB0
  have hV : Below w.heap.size w V := hB0.trans (hBV.mono (by omega))
  have hlaV := hla.later hV
  have hlbV := hlb.later hV
  have hsV : w.heap.size + 1 ≤ V.heap.size := by have := hBV.size; omega
  clear hBV hla0 hlb0 hB0 bB0 hs0
  by_cases hneg : r < 0
  · gi_wp2_with fail
    refine ⟨_, results_tmp2 rfl _ _ _, r, hr, hV, fun _ => rfl, fun h => by omega⟩
  · have hneg2 : 0 ≤ r := by omega
    have hdec : decide (r < 0) = false := decide_eq_false hneg
    have HR := Lib.hid hr
    clear hr hneg
    gi_wp2_with fail
    refine wideCall ((cut_any a xs capa _ hlaV (by unfold maxLen; omega) hca).mono ?_)
    rintro e w' ⟨rfl, rfl⟩
    obtain ⟨m, hmm⟩ : ∃ m, trimN xs xs.length = m := ⟨_, rfl⟩
    have hmk := make_runN m m (Nat.le_refl _) (by omega)
    rw [hmm]
    rw [hmm] at hta
    have HM := Lib.hid hmm
    clear hmm
    gi_wp2_with fail
    refine wideCall ((carrier_any _ _).mono ?_)
    rintro e w' ⟨rfl, rfl⟩
    have k1 := (((Blk.made V m).alloc (Obj.cells #[Value.slice (some ⟨V.heap.size, 0, none⟩) m m] 49)).alloc (Obj.cells #[Value.int .u64 1] 152))
    have k2 := (Boxed.new (V.alloc (Obj.cells (madeCells #[Value.int .u32 0] m) 64)) 49 (Value.slice (some ⟨V.heap.size, 0, none⟩) m m)).alloc (Obj.cells #[Value.int .u64 1] 152)
    have k3 := Boxed.new ((V.alloc (Obj.cells (madeCells #[Value.int .u32 0] m) 64)).alloc (Obj.cells #[Value.slice (some ⟨V.heap.size, 0, none⟩) m m] 49)) 152 (.int .u64 1)
    have k4 : Below V.heap.size V (((V.alloc (Obj.cells (madeCells #[Value.int .u32 0] m) 64)).alloc (Obj.cells #[Value.slice (some ⟨V.heap.size, 0, none⟩) m m] 49)).alloc (Obj.cells #[Value.int .u64 1] 152)) :=
      (((Below.refl _ V).alloc (Nat.le_refl _) _).alloc (by simp) _).alloc (by simp; omega) _
    have k5 : (((V.alloc (Obj.cells (madeCells #[Value.int .u32 0] m) 64)).alloc (Obj.cells #[Value.slice (some ⟨V.heap.size, 0, none⟩) m m] 49)).alloc (Obj.cells #[Value.int .u64 1] 152)).heap.size = V.heap.size + 1 + 1 + 1 := by simp
    simp only [World.size_alloc] at k2 k3
    simp only [World.size_alloc]
    generalize (((V.alloc (Obj.cells (madeCells #[Value.int .u32 0] m) 64)).alloc (Obj.cells #[Value.slice (some ⟨V.heap.size, 0, none⟩) m m] 49)).alloc (Obj.cells #[Value.int .u64 1] 152)) = W3 at *
    have k6 := Boxed.new W3 169 .nilFunc
    rw [k5] at k6
    have k6c := k6.cell
    have k6f := k6.frozen
    have K5 := Lib.hid k5
    have k5' := k5
    clear k5
    gi_wp2_with fail
    refine wideCall ((limbs_any a xs.length capa _).mono ?_)
    rintro e w' ⟨rfl, rfl⟩
    gi_wp2_with fail
    have j1 := (k1.alloc (Obj.cells #[Value.func (.func 168) #[] #[.pointer (some ⟨V.heap.size + 1 + 1, 0, none⟩)]] 169)).alloc (Obj.cells #[Value.slice a xs.length capa] 49)
    have j2 := (k2.alloc (Obj.cells #[Value.func (.func 168) #[] #[.pointer (some ⟨V.heap.size + 1 + 1, 0, none⟩)]] 169)).alloc (Obj.cells #[Value.slice a xs.length capa] 49)
    have j3 := (k3.alloc (Obj.cells #[Value.func (.func 168) #[] #[.pointer (some ⟨V.heap.size + 1 + 1, 0, none⟩)]] 169)).alloc (Obj.cells #[Value.slice a xs.length capa] 49)
    have j4 := (Boxed.new W3 169 (Value.func (.func 168) #[] #[.pointer (some ⟨V.heap.size + 1 + 1, 0, none⟩)])).alloc (Obj.cells #[Value.slice a xs.length capa] 49)
    have j5 := Boxed.new (W3.alloc (Obj.cells #[Value.func (.func 168) #[] #[.pointer (some ⟨V.heap.size + 1 + 1, 0, none⟩)]] 169)) 49 (Value.slice a xs.length capa)
    have j6 : Below V.heap.size V ((W3.alloc (Obj.cells #[Value.func (.func 168) #[] #[.pointer (some ⟨V.heap.size + 1 + 1, 0, none⟩)]] 169)).alloc (Obj.cells #[Value.slice a xs.length capa] 49)) :=
      (k4.alloc (by omega) _).alloc (by simp; omega) _
    have j7 : ((W3.alloc (Obj.cells #[Value.func (.func 168) #[] #[.pointer (some ⟨V.heap.size + 1 + 1, 0, none⟩)]] 169)).alloc (Obj.cells #[Value.slice a xs.length capa] 49)).heap.size = V.heap.size + 5 := by simp; omega
    rw [k5'] at j4
    rw [World.size_alloc, k5'] at j5
    generalize ((W3.alloc (Obj.cells #[Value.func (.func 168) #[] #[.pointer (some ⟨V.heap.size + 1 + 1, 0, none⟩)]] 169)).alloc (Obj.cells #[Value.slice a xs.length capa] 49)) = W5 at *
    clear k1 k2 k3 k4 k6 k6c k6f K5 k5' hmk hneg2
    have h3 : 3 ≤ n := hn
    refine wpIn_rangeFunc_ownF rfl (by omega) (gf := 172) (lb := #[.pointer (some ⟨V.heap.size + 1 + 1 + 1 + 1, 0, none⟩)]) rfl trivial (enters_of Tryz.func172 (by kernel_rfl) rfl)
      (limbs_stops (n - 1) (V.heap.size + 1 + 1 + 1 + 1) V.heap.size a xs capa hma hca hlaV.lt _ (by omega) j5.cell (hlaV.later j6)) belowK_t (belowK_b (by omega)) (Below.refl _ _) (fun _ => rfl)
      (fun (pre : List (Fin (trimN xs xs.length))) X => (((Blk X V.heap.size (subOf xs ys m (pre.map Fin.val)).1 ∧ Boxed X (V.heap.size + 1) 49 (.slice (some ⟨V.heap.size, 0, none⟩) m m)) ∧ Boxed X (V.heap.size + 1 + 1) 152 (.int .u64 (subOf xs ys m (pre.map Fin.val)).2)) ∧
        Boxed X (V.heap.size + 1 + 1 + 1) 169 (Value.func (.func 168) #[] #[.pointer (some ⟨V.heap.size + 1 + 1, 0, none⟩)])) ∧ Below V.heap.size V X)
      (fun _ _ _ => False)
      (OwnFrom.and (Own.from (Own.and2 (Own.and2 (Own.and2 (blk_own _ _) (boxed_own _ _ _)) (boxed_own _ _ _)) (boxed_own _ _ _)) _) (ownFrom_below (Nat.le_refl _) (by omega)))
      (fun _ _ _ _ _ hs _ _ => hs)
      ⟨⟨⟨⟨j1, j2⟩, j3⟩, j4⟩, j6⟩
      (fun (x : Fin (trimN xs xs.length)) => { tmps := #[.slice a xs.length capa, .slice b ys.length capb, undef, .pointer (some ⟨w.heap.size, 0, none⟩), .slice none 0 0, .int .i64 0, .pointer (some ⟨V.heap.size + 1, 0, none⟩), .pointer (some ⟨V.heap.size + 1 + 1 + 1, 0, none⟩), .int .i64 (x.val : Int), .int .u32 (xs[x.val]?.getD 0),
        .slice a xs.length capa, .slice b ys.length capb, .int .i64 r, .bool false, .slice a xs.length capa, .slice a m capa, .int .i64 m, .slice (some ⟨V.heap.size, 0, none⟩) m m, .func (.func 168) #[] #[.pointer (some ⟨V.heap.size + 1 + 1, 0, none⟩)],
        .slice a xs.length capa, .func (.func 172) #[] #[.pointer (some ⟨V.heap.size + 1 + 1 + 1 + 1, 0, none⟩)], .int .i64 (x.val : Int), .int .u32 (xs[x.val]?.getD 0), undef, undef, undef, undef, undef, undef, undef, undef, undef, undef, undef, undef, undef, undef, undef], defers := [] }) ?assign ?body ?done ?stop
    case assign =>
      intro l x X K hK
      simp only [limbAt]
      gi_wp2
      exact hK
    case body =>
      rintro l pre ⟨k, hk⟩ X ⟨⟨⟨⟨hblk, q1⟩, q2⟩, q3⟩, hB⟩ hlt
      have hkm : k < m := by have := HM.out; omega
      obtain ⟨ok1, ok2, ok3⟩ := subOf_ok xs ys m hwa hwb (pre.map Fin.val)
      obtain ⟨st, hst⟩ : ∃ st, subOf xs ys m (pre.map Fin.val) = st := ⟨_, rfl⟩
      rw [hst] at hblk q2 ok1 ok2 ok3
      obtain ⟨zs, c⟩ := st
      obtain ⟨x, hxk⟩ : ∃ x, xs.getD k 0 = x := ⟨_, rfl⟩
      obtain ⟨y, hyk⟩ : ∃ y, ys.getD k 0 = y := ⟨_, rfl⟩
      have bx : 0 ≤ x ∧ x < 4294967296 := hxk ▸ hwa.getD k
      have by' : 0 ≤ y ∧ y < 4294967296 := hyk ▸ hwb.getD k
      obtain ⟨bx0, bx1⟩ := bx
      obtain ⟨by0, by1⟩ := by'
      have hxk2 : xs[k]?.getD 0 = x := hxk
      simp only [hxk2]
      have HX := Lib.hid hxk
      have HY := Lib.hid hyk
      have HS := Lib.hid hst
      clear hxk hyk hxk2 hst
      simp only at hblk q2 ok1 ok2 ok3
      have hlbX := (hlbV.later hB).later (show Below X.heap.size X X.drew from (Below.refl _ _).drew)
      have c1 := q1.cell
      have c3 := q3.cell
      have bX : Boxed X w.heap.size 49 (.slice b ys.length capb) := (hB.block w.heap.size (by omega)).trans bB
      have c0 := bX.cell
      have hsX := hB.size
      refine wpIn_block ?_
      refine region_round (fun X' => X'.cell? ⟨V.heap.size + 1, 0, none⟩ = some (.slice (some ⟨V.heap.size, 0, none⟩) m m) ∧ X'.cell? ⟨V.heap.size + 1 + 1 + 1, 0, none⟩ = some (Value.func (.func 168) #[] #[.pointer (some ⟨V.heap.size + 1 + 1, 0, none⟩)]) ∧ X'.cell? ⟨w.heap.size, 0, none⟩ = some (.slice b ys.length capb))
        (by kernel_rfl) (by kernel_rfl) (by rintro ⟨a', w', h⟩; exact h) ⟨c1, c3, c0⟩ (fun hHeld => ?_)
      refine wpAnyH_take (i := 0) (v := ?va0) rfl (by kernel_rfl) (by kernel_rfl) (by kernel_rfl) (fun _ _ _ h => h) (Or.inl ⟨by rfl, ?ha0⟩) (by assumption) ?ra0
      case ha0 =>
        intro w hSw
        try dsimp only at hSw
        go_simp
        try with_reducible rfl
      try simp only [Act.put, List.setIfInBounds_toArray, List.set_cons_zero, List.set_cons_succ]
      refine wpAnyH_take (i := 1) (v := ?va1) rfl (by kernel_rfl) (by kernel_rfl) (by kernel_rfl) (fun _ _ _ h => h) (Or.inl ⟨by rfl, ?ha1⟩) (by assumption) ?ra1
      case ha1 =>
        intro w hSw
        try dsimp only at hSw
        go_simp
        try with_reducible rfl
      try simp only [Act.put, List.setIfInBounds_toArray, List.set_cons_zero, List.set_cons_succ]
      refine wpAnyH_take (i := 2) (v := ?va2) rfl (by kernel_rfl) (by kernel_rfl) (by kernel_rfl) (fun _ _ _ h => h) (Or.inl ⟨by rfl, ?ha2⟩) (by assumption) ?ra2
      case ha2 =>
        intro w hSw
        try dsimp only at hSw
        go_simp
        try with_reducible rfl
      try simp only [Act.put, List.setIfInBounds_toArray, List.set_cons_zero, List.set_cons_succ]
      refine wpAnyH_take (i := 3) (v := ?va3) rfl (by kernel_rfl) (by kernel_rfl) (by kernel_rfl) (fun _ _ _ h => h) (Or.inl ⟨by rfl, ?ha3⟩) (by assumption) ?ra3
      case ha3 =>
        intro w hSw
        try dsimp only at hSw
        go_simp
        try with_reducible rfl
      try simp only [Act.put, List.setIfInBounds_toArray, List.set_cons_zero, List.set_cons_succ]
      refine wpAnyH_take (i := 4) (v := ?va4) rfl (by kernel_rfl) (by kernel_rfl) (by kernel_rfl) (fun _ _ _ h => h) (Or.inl ⟨by rfl, ?ha4⟩) (by assumption) ?ra4
      case ha4 =>
        intro w hSw
        try dsimp only at hSw
        go_simp
        try with_reducible rfl
      try simp only [Act.put, List.setIfInBounds_toArray, List.set_cons_zero, List.set_cons_succ]
      refine wpAnyH_take (i := 5) (v := ?va5) rfl (by kernel_rfl) (by kernel_rfl) (by kernel_rfl) (fun _ _ _ h => h) (Or.inl ⟨by rfl, ?ha5⟩) (by assumption) ?ra5
      case ha5 =>
        intro w hSw
        try dsimp only at hSw
        go_simp
        try with_reducible rfl
      try simp only [Act.put, List.setIfInBounds_toArray, List.set_cons_zero, List.set_cons_succ]
      refine wpAnyH_take (i := 6) (v := ?va6) rfl (by kernel_rfl) (by kernel_rfl) (by kernel_rfl) (fun _ _ _ h => h) (Or.inl ⟨by rfl, ?ha6⟩) (by assumption) ?ra6
      case ha6 =>
        intro w hSw
        try dsimp only at hSw
        go_simp
        try with_reducible rfl
      try simp only [Act.put, List.setIfInBounds_toArray, List.set_cons_zero, List.set_cons_succ]
      refine wpAnyH_ready (rs := [7]) (by kernel_rfl) (by simp) ?_
      refine AllReadyH.cons rfl (fun K hK => ?sb7) AllReadyH.nil
      go_simp
      refine (at_nat b ys capb k y _ hlbX (by unfold maxLen; omega) HY.out).mono ?_
      rintro e w' ⟨rfl, rfl⟩
      go_simp
      refine hK.out _ _ ?kb7 (fun hHeld => ?mb7)
      case kb7 =>
        try dsimp only
        exact hHeld
      clear hK K
      try simp only [Act.put, List.setIfInBounds_toArray, List.set_cons_zero, List.set_cons_succ]
      refine wpAnyH_take (i := 8) (v := ?va8) rfl (by kernel_rfl) (by kernel_rfl) (by kernel_rfl) (fun _ _ _ h => h) (Or.inl ⟨by rfl, ?ha8⟩) (by assumption) ?ra8
      case ha8 =>
        intro w hSw
        try dsimp only at hSw
        go_simp
        try with_reducible rfl
      try simp only [Act.put, List.setIfInBounds_toArray, List.set_cons_zero, List.set_cons_succ]
      refine wpAnyH_take (i := 9) (v := ?va9) rfl (by kernel_rfl) (by kernel_rfl) (by kernel_rfl) (fun _ _ _ h => h) (Or.inl ⟨by rfl, ?ha9⟩) (by assumption) ?ra9
      case ha9 =>
        intro w hSw
        try dsimp only at hSw
        go_simp
        try with_reducible rfl
      try simp only [Act.put, List.setIfInBounds_toArray, List.set_cons_zero, List.set_cons_succ]
      refine wpAnyH_ready (rs := [10]) (by kernel_rfl) (by simp) ?_
      refine AllReadyH.cons rfl (fun K hK => ?sb10) AllReadyH.nil
      go_simp
      refine hK.out _ _ ?kb10 (fun hHeld => ?mb10)
      case kb10 =>
        try dsimp only
        simp [*, World.cell?_alloc_some]
      clear hK K
      try simp only [Act.put, List.setIfInBounds_toArray, List.set_cons_zero, List.set_cons_succ]
      refine wpAnyH_ready (rs := [11]) (by kernel_rfl) (by simp) ?_
      refine AllReadyH.cons rfl (fun K hK => ?sb11) AllReadyH.nil
      go_simp
      rw [wrap_u64 bx0 (by omega), not_limb ⟨by0, by1⟩]
      refine (carry2 c x (4294967295 - y) (V.heap.size + 1 + 1) X.drew ok2 bx0 (by omega) (by omega) q2).mono ?_
      rintro e w2 ⟨rfl, hcar2, hgr⟩
      go_simp
      refine hK.out _ _ ?kb11 (fun hHeld => ?mb11)
      case kb11 =>
        try dsimp only
        exact ⟨hgr.cell c1 (by simp <;> omega), hgr.cell c3 (by simp <;> omega), hgr.cell c0 (by simp <;> omega)⟩
      clear hK K
      try simp only [Act.put, List.setIfInBounds_toArray, List.set_cons_zero, List.set_cons_succ]
      have hblk2 : Blk w2 V.heap.size zs := Blk.grown (w := X.drew) hblk hgr (by simp <;> omega)
      have hcell2 := hblk2.cell k (by omega)
      have hfree2 := hblk2.free k
      refine wpAnyH_take (i := 12) (v := ?va12) rfl (by kernel_rfl) (by kernel_rfl) (by kernel_rfl) (fun _ _ _ h => h) (Or.inl ⟨by rfl, ?ha12⟩) (by assumption) ?ra12
      case ha12 =>
        intro w hSw
        try dsimp only at hSw
        go_simp
        try with_reducible rfl
      try simp only [Act.put, List.setIfInBounds_toArray, List.set_cons_zero, List.set_cons_succ]
      refine wpAnyH_ready (rs := [13]) (by kernel_rfl) (by simp) ?_
      refine AllReadyH.cons rfl (fun K hK => ?sb13) AllReadyH.nil
      go_simp
      refine hK.out _ _ ?kb13 (fun hHeld => ?mb13)
      case kb13 =>
        try dsimp only
        exact ⟨(World.cell?_setCell_far _ _ _ _ (by simp)).trans hHeld.1, (World.cell?_setCell_far _ _ _ _ (by simp <;> omega)).trans hHeld.2.1, (World.cell?_setCell_far _ _ _ _ (by simp <;> omega)).trans hHeld.2.2⟩
      clear hK K
      try simp only [Act.put, List.setIfInBounds_toArray, List.set_cons_zero, List.set_cons_succ]
      refine wpAnyH_done (by kernel_rfl) ?_ _
      have hko : KeepsOthers X w2 := (KeepsOthers.drew X).trans (KeepsOthers.of_grownBy hgr (fun j o ej hj => by cases ej; rw [show X.drew.heap[V.heap.size + 1 + 1]? = _ from q2] at hj; cases hj; rfl))
      have hbo : Below V.heap.size X w2 := (Below.refl _ X).drew.grown hgr hsX (fun j ej => by cases ej; omega)
      have u1 : Boxed w2 (V.heap.size + 1) _ _ := Boxed.kept (W := X.drew) q1 hgr (by simp <;> omega)
      have u3 : Boxed w2 (V.heap.size + 1 + 1 + 1) _ _ := Boxed.kept (W := X.drew) q3 hgr (by simp <;> omega)
      have ub := hblk2.set k ((c + x + (4294967295 - y)) % 4294967296)
      have es : subOf xs ys m ((pre ++ [(⟨k, hk⟩ : Fin (trimN xs xs.length))]).map Fin.val) = (zs.set k ((c + x + (4294967295 - y)) % 4294967296), (c + x + (4294967295 - y)) / 4294967296) := by
        rw [List.map_append, List.map_cons, List.map_nil, subOf_snoc, HS.out]
        simp only [subStep, HX.out, HY.out]
      refine ⟨hko.trans (KeepsOthers.setCell _ _ _), hbo.setCell (p := ⟨V.heap.size, k, none⟩) (Nat.le_refl _) _, ?_, (hB.trans hbo).setCell (p := ⟨V.heap.size, k, none⟩) (Nat.le_refl _) _⟩
      rw [es]
      exact ⟨⟨⟨ub, Boxed.far u1 (by simp) _⟩, Boxed.far (t := 152) hcar2 (by simp <;> omega) _⟩, Boxed.far u3 (by simp <;> omega) _⟩
    case done =>
      rintro D ks X hD hup ⟨⟨⟨⟨hblk, q1⟩, q2⟩, q3⟩, hB⟩ hK
      have ok1 := (subOf_ok xs ys m hwa hwb (ks.map Fin.val)).1
      have hnum := Num.ofBlk hblk (Nat.le_refl _) m (by omega) (by rw [ok1]; unfold maxLen; omega)
      rw [ok1, List.take_of_length_le (by omega)] at hnum
      have es : subL xs ys = (subOf xs ys m (ks.map Fin.val)).1 := by unfold subL; rw [hup, HM.out]
      rw [← es] at hnum
      have c1 := q1.cell
      gi_wp2_with fail
      refine wideCall ((cut_num hnum).mono ?_)
      rintro e w' ⟨u, rfl, hu, rfl⟩
      gi_wp2_with fail
      refine ⟨by simp, .inl ⟨_, _, rfl, run_takeDeferred hK, ?_⟩⟩
      refine ⟨_, results_tmp2 rfl _ _ _, r, HR.out, (hV.trans (hB.mono (by omega))).trans (belowK_b (w := w) (Nat.le_refl _) X D _ _ (by omega) hK rfl rfl), fun h => by simp at hdec; omega, fun _ => ⟨u, rfl, ?_⟩⟩
      exact ownsRow_putObj (hu.mono (by omega)) (.deferred none) hK rfl
    case stop =>
      rintro D c pre X _ _ h _
      exact h.elim
end
section
open Go.RowKit Go.Shelf
attribute [local go_sem] Oper.semAt_some
/-- one round of a row: the limbs, the carry -/
def rowStep (off : Nat) (x : Int) (vs : List Int) (s : List Int × Int) (k : Nat) : List Int × Int :=
  (s.1.set (off + k) ((s.2 + x * vs.getD k 0 + s.1.getD (off + k) 0) % 4294967296), (s.2 + x * vs.getD k 0 + s.1.getD (off + k) 0) / 4294967296)
def rowOf (zs : List Int) (off : Nat) (x : Int) (vs : List Int) (ks : List Nat) : List Int × Int := ks.foldl (rowStep off x vs) (zs, 0)
/-- the limbs behind a row -/
def rowL (zs : List Int) (off : Nat) (x : Int) (vs : List Int) : List Int :=
  (rowOf zs off x vs (List.range vs.length)).1.set (off + vs.length) (rowOf zs off x vs (List.range vs.length)).2
theorem rowOf_snoc (zs : List Int) (off : Nat) (x : Int) (vs : List Int) (ks : List Nat) (k : Nat) : rowOf zs off x vs (ks ++ [k]) = rowStep off x vs (rowOf zs off x vs ks) k := by simp [rowOf]
theorem Wf.set {xs : List Int} (h : Wf xs) (k : Nat) {x : Int} (hx : 0 ≤ x ∧ x < 4294967296) : Wf (xs.set k x) := by
  intro y hy
  rcases List.mem_or_eq_of_mem_set hy with hy | rfl
  · exact h y hy
  · exact hx
theorem prod_limbs {x y : Int} (hx : 0 ≤ x ∧ x < 4294967296) (hy : 0 ≤ y ∧ y < 4294967296) : 0 ≤ x * y ∧ x * y ≤ 18446744065119617025 :=
  prod_bound x y hx.1 (by omega) hy.1 (by omega)
theorem rowOf_ok (zs : List Int) (off : Nat) (x : Int) (vs : List Int) (hz : Wf zs) (hx : 0 ≤ x ∧ x < 4294967296) (hv : Wf vs) (ks : List Nat) :
    (rowOf zs off x vs ks).1.length = zs.length ∧ Wf (rowOf zs off x vs ks).1 ∧ 0 ≤ (rowOf zs off x vs ks).2 ∧ (rowOf zs off x vs ks).2 < 4294967296 := by
  suffices h : ∀ s : List Int × Int, s.1.length = zs.length ∧ Wf s.1 ∧ 0 ≤ s.2 ∧ s.2 < 4294967296 → ((ks.foldl (rowStep off x vs) s).1.length = zs.length ∧ Wf (ks.foldl (rowStep off x vs) s).1 ∧ 0 ≤ (ks.foldl (rowStep off x vs) s).2 ∧ (ks.foldl (rowStep off x vs) s).2 < 4294967296) from
    h _ ⟨rfl, hz, by simp, by simp⟩
  induction ks with
  | nil => exact fun s h => h
  | cons k ks ih =>
    intro s ⟨g1, g2, g3, g4⟩
    refine ih _ ?_
    have h1 := g2.getD (off + k)
    have h2 := prod_limbs hx (hv.getD k)
    refine ⟨by simp [rowStep, g1], g2.set _ (by omega), ?_, ?_⟩
    · simp only [rowStep]; omega
    · simp only [rowStep]; omega
theorem grown_trans {a b c : World} {row row' : Option Nat} (h : a.grownBy b row) (k : b.grownBy c row') (hr : ∀ r, row' = some r → some r = row ∨ a.heap.size ≤ r) : a.grownBy c row :=
  ⟨k.os.trans h.os, k.tape.trans h.tape, k.output.trans h.output, Nat.le_trans h.size k.size, fun i hi hne => by
    refine (k.block i (Nat.lt_of_lt_of_le hi h.size) fun e => ?_).trans (h.block i hi hne)
    rcases hr i e.symm with h1 | h1
    · exact hne h1
    · omega⟩
theorem grown_drew {a b : World} {row : Option Nat} (h : a.drew.grownBy b row) : a.grownBy b row := ⟨h.os, h.tape, h.output, h.size, h.block⟩
theorem ownFrom_grown {β : Type} {B : Nat} {w : World} {row : Option Nat} (hB : w.heap.size ≤ B) : OwnFrom B (fun (_ : β) X => w.grownBy X row) := fun _ _ _ _ hs hg hr =>
  grown_trans hs hg fun q e => .inr (Nat.le_trans hB (hr q e).1)
theorem Below.grownBy {B : Nat} {a b : World} (h : Below B a b) (hB : a.heap.size ≤ B) (row : Option Nat) : a.grownBy b row := ⟨h.os, h.tape, h.output, h.size, fun k hk _ => h.block k (by omega)⟩
set_option maxRecDepth 100000 in
set_option maxHeartbeats 4000000 in
set_option linter.unusedSimpArgs false in
theorem row_any (g off L cap : Nat) (b : Option Addr) (zs vs : List Int) (x : Int) (capb : Nat) (w : World) (hz : Blk w g zs) (hL : off + L = zs.length) (hv : vs.length < L) (hlb : Lim w b vs) (hmb : vs.length ≤ 35184372088832)
    (hcb : vs.length ≤ capb) (htr : trimN vs vs.length = vs.length) (hbg : vs ≠ [] → ∀ p, b = some p → p.block < g) (hwz : Wf zs) (hwv : Wf vs) (hx : 0 ≤ x ∧ x < 4294967296) :
    Calls Tryz.prog 161 #[.slice (some ⟨g, off, none⟩) L cap, .int .u32 x, .slice b vs.length capb] w fun e w' => e = .returned (.tuple #[]) ∧ Blk w' g (rowL zs off x vs) ∧ w.grownBy w' (some g) := by
  obtain ⟨n, hn⟩ : ∃ n : Nat, Hid (3 ≤ n) := ⟨3, Nat.le_refl 3⟩
  have hg := hz.lt
  refine (callsIn_wide (n := n)).1 ?_
  refine callsIn_of_wp_marks Tryz.func161 rfl trivial ?_ rfl
  simp only [Tryz.ntmps161, List.size_toArray, List.length_cons, List.length_nil, Nat.reduceAdd, Nat.reduceSub, Array.replicate_succ, Array.replicate_zero, List.push_toArray, List.append_toArray, List.nil_append, List.cons_append]
  gi_wp2_with fail
  refine wideCall ((carrier_any _ _).mono ?_)
  rintro e w' ⟨rfl, rfl⟩
  have k1 := ((Boxed.new w 49 (.slice (some ⟨g, off, none⟩) L cap)).alloc (Obj.cells #[Value.int .u32 x] 64)).alloc (Obj.cells #[Value.int .u64 0] 152)
  have k2 := (Boxed.new (w.alloc (Obj.cells #[Value.slice (some ⟨g, off, none⟩) L cap] 49)) 64 (.int .u32 x)).alloc (Obj.cells #[Value.int .u64 0] 152)
  have k3 := Boxed.new ((w.alloc (Obj.cells #[Value.slice (some ⟨g, off, none⟩) L cap] 49)).alloc (Obj.cells #[Value.int .u32 x] 64)) 152 (.int .u64 0)
  have k4 : Below w.heap.size w (((w.alloc (Obj.cells #[Value.slice (some ⟨g, off, none⟩) L cap] 49)).alloc (Obj.cells #[Value.int .u32 x] 64)).alloc (Obj.cells #[Value.int .u64 0] 152)) :=
    (((Below.refl _ w).alloc (Nat.le_refl _) _).alloc (by simp) _).alloc (by simp; omega) _
  have k5 : (((w.alloc (Obj.cells #[Value.slice (some ⟨g, off, none⟩) L cap] 49)).alloc (Obj.cells #[Value.int .u32 x] 64)).alloc (Obj.cells #[Value.int .u64 0] 152)).heap.size = w.heap.size + 1 + 1 + 1 := by simp
  simp only [World.size_alloc] at k2 k3
  simp only [World.size_alloc]
  generalize (((w.alloc (Obj.cells #[Value.slice (some ⟨g, off, none⟩) L cap] 49)).alloc (Obj.cells #[Value.int .u32 x] 64)).alloc (Obj.cells #[Value.int .u64 0] 152)) = W3 at *
  have k6 := Boxed.new W3 169 .nilFunc
  rw [k5] at k6
  have k6c := k6.cell
  have k6f := k6.frozen
  have k5' := k5
  clear k5
  gi_wp2_with fail
  refine wideCall ((limbs_any b vs.length capb _).mono ?_)
  rintro e w' ⟨rfl, rfl⟩
  gi_wp2_with fail
  have j2 := (k2.alloc (Obj.cells #[Value.func (.func 168) #[] #[.pointer (some ⟨w.heap.size + 1 + 1, 0, none⟩)]] 169)).alloc (Obj.cells #[Value.slice b vs.length capb] 49)
  have j1 := (k1.alloc (Obj.cells #[Value.func (.func 168) #[] #[.pointer (some ⟨w.heap.size + 1 + 1, 0, none⟩)]] 169)).alloc (Obj.cells #[Value.slice b vs.length capb] 49)
  have j3 := (k3.alloc (Obj.cells #[Value.func (.func 168) #[] #[.pointer (some ⟨w.heap.size + 1 + 1, 0, none⟩)]] 169)).alloc (Obj.cells #[Value.slice b vs.length capb] 49)
  have j4 := (Boxed.new W3 169 (Value.func (.func 168) #[] #[.pointer (some ⟨w.heap.size + 1 + 1, 0, none⟩)])).alloc (Obj.cells #[Value.slice b vs.length capb] 49)
  have j5 := Boxed.new (W3.alloc (Obj.cells #[Value.func (.func 168) #[] #[.pointer (some ⟨w.heap.size + 1 + 1, 0, none⟩)]] 169)) 49 (Value.slice b vs.length capb)
  have j6 : Below w.heap.size w ((W3.alloc (Obj.cells #[Value.func (.func 168) #[] #[.pointer (some ⟨w.heap.size + 1 + 1, 0, none⟩)]] 169)).alloc (Obj.cells #[Value.slice b vs.length capb] 49)) :=
    (k4.alloc (by omega) _).alloc (by simp; omega) _
  have j7 : ((W3.alloc (Obj.cells #[Value.func (.func 168) #[] #[.pointer (some ⟨w.heap.size + 1 + 1, 0, none⟩)]] 169)).alloc (Obj.cells #[Value.slice b vs.length capb] 49)).heap.size = w.heap.size + 5 := by simp; omega
  rw [k5'] at j4
  rw [World.size_alloc, k5'] at j5
  generalize ((W3.alloc (Obj.cells #[Value.func (.func 168) #[] #[.pointer (some ⟨w.heap.size + 1 + 1, 0, none⟩)]] 169)).alloc (Obj.cells #[Value.slice b vs.length capb] 49)) = W5 at *
  clear k1 k2 k3 k4 k6 k6c k6f k5'
  have h3 : 3 ≤ n := hn
  refine wpIn_rangeFunc_ownF rfl (by omega) (gf := 172) (lb := #[.pointer (some ⟨w.heap.size + 1 + 1 + 1 + 1, 0, none⟩)]) rfl trivial (enters_of Tryz.func172 (by kernel_rfl) rfl)
    (limbs_stops (n - 1) (w.heap.size + 1 + 1 + 1 + 1) g b vs capb hmb hcb hbg _ (by omega) j5.cell (hlb.later j6)) belowK_t (belowK_b (by omega)) (Below.refl _ _) (fun _ => rfl)
    (fun (pre : List (Fin (trimN vs vs.length))) X => ((((Blk X g (rowOf zs off x vs (pre.map Fin.val)).1 ∧ Boxed X w.heap.size 49 (.slice (some ⟨g, off, none⟩) L cap)) ∧ Boxed X (w.heap.size + 1) 64 (.int .u32 x)) ∧ Boxed X (w.heap.size + 1 + 1) 152 (.int .u64 (rowOf zs off x vs (pre.map Fin.val)).2)) ∧
      Boxed X (w.heap.size + 1 + 1 + 1) 169 (Value.func (.func 168) #[] #[.pointer (some ⟨w.heap.size + 1 + 1, 0, none⟩)])) ∧ w.grownBy X (some g))
    (fun _ _ _ => False)
    (OwnFrom.and (Own.from (Own.and2 (Own.and2 (Own.and2 (Own.and2 (blk_own _ _) (boxed_own _ _ _)) (boxed_own _ _ _)) (boxed_own _ _ _)) (boxed_own _ _ _)) _) (ownFrom_grown (by omega)))
    (fun _ _ _ _ _ hs _ _ => hs)
    ⟨⟨⟨⟨⟨hz.below j6 hg, j1⟩, j2⟩, j3⟩, j4⟩, Below.grownBy j6 (Nat.le_refl _) _⟩
    (fun (y : Fin (trimN vs vs.length)) => { tmps := #[.slice (some ⟨g, off, none⟩) L cap, .int .u32 x, .slice b vs.length capb, .pointer (some ⟨w.heap.size, 0, none⟩), .pointer (some ⟨w.heap.size + 1, 0, none⟩), undef, .pointer (some ⟨w.heap.size + 1 + 1 + 1, 0, none⟩), .int .i64 (y.val : Int), .int .u32 (vs[y.val]?.getD 0),
      .func (.func 168) #[] #[.pointer (some ⟨w.heap.size + 1 + 1, 0, none⟩)], .slice b vs.length capb, .func (.func 172) #[] #[.pointer (some ⟨w.heap.size + 1 + 1 + 1 + 1, 0, none⟩)], .int .i64 (y.val : Int), .int .u32 (vs[y.val]?.getD 0),
      undef, undef, undef, undef, undef, undef, undef, undef, undef, undef, undef, undef, undef, undef, undef, undef, undef, undef, undef, undef, undef, undef], defers := [] }) ?assign ?body ?done ?stop
  case assign =>
    intro l y X K hK
    simp only [limbAt]
    gi_wp2
    exact hK
  case body =>
    rintro l pre ⟨k, hk⟩ X ⟨⟨⟨⟨⟨hblk, q0⟩, q1⟩, q2⟩, q3⟩, hB⟩ hlt
    have hkm : k < vs.length := by omega
    obtain ⟨ok1, okw, ok2, ok3⟩ := rowOf_ok zs off x vs hwz hx hwv (pre.map Fin.val)
    obtain ⟨st, hst⟩ : ∃ st, rowOf zs off x vs (pre.map Fin.val) = st := ⟨_, rfl⟩
    rw [hst] at hblk q2 ok1 okw ok2 ok3
    obtain ⟨z, c⟩ := st
    simp only at hblk q2 ok1 okw ok2 ok3
    obtain ⟨y, hyk⟩ : ∃ y, vs.getD k 0 = y := ⟨_, rfl⟩
    obtain ⟨t, htk⟩ : ∃ t, z.getD (off + k) 0 = t := ⟨_, rfl⟩
    have by' : 0 ≤ y ∧ y < 4294967296 := hyk ▸ hwv.getD k
    have bt : 0 ≤ t ∧ t < 4294967296 := htk ▸ okw.getD (off + k)
    have bxy := prod_limbs hx by'
    obtain ⟨by0, by1⟩ := by'
    obtain ⟨bt0, bt1⟩ := bt
    obtain ⟨bx0, bx1⟩ := hx
    have hyk2 : vs[k]?.getD 0 = y := hyk
    simp only [hyk2]
    have hct := hblk.cell (off + k) (by omega)
    rw [htk] at hct
    have HY := Lib.hid hyk
    have HT := Lib.hid htk
    have HS := Lib.hid hst
    clear hyk htk hyk2 hst
    have c0 := q0.cell
    have c1 := q1.cell
    have c3 := q3.cell
    have hsX := hB.size
    have hkL : k < L := by omega
    refine wpIn_block ?_
    refine region_round (fun X' => X'.cell? ⟨w.heap.size, 0, none⟩ = some (.slice (some ⟨g, off, none⟩) L cap) ∧ X'.cell? ⟨w.heap.size + 1, 0, none⟩ = some (.int .u32 x) ∧ X'.cell? ⟨w.heap.size + 1 + 1 + 1, 0, none⟩ = some (Value.func (.func 168) #[] #[.pointer (some ⟨w.heap.size + 1 + 1, 0, none⟩)]))
      (by kernel_rfl) (by kernel_rfl) (by rintro ⟨a', w', h⟩; exact h) ⟨c0, c1, c3⟩ (fun hHeld => ?_)
    refine wpAnyH_take (i := 0) (v := ?va0) rfl (by kernel_rfl) (by kernel_rfl) (by kernel_rfl) (fun _ _ _ h => h) (Or.inl ⟨by rfl, ?ha0⟩) (by assumption) ?ra0
    case ha0 =>
      intro w hSw
      try dsimp only at hSw
      go_simp
      try with_reducible rfl
    try simp only [Act.put, List.setIfInBounds_toArray, List.set_cons_zero, List.set_cons_succ]
    refine wpAnyH_take (i := 1) (v := ?va1) rfl (by kernel_rfl) (by kernel_rfl) (by kernel_rfl) (fun _ _ _ h => h) (Or.inl ⟨by rfl, ?ha1⟩) (by assumption) ?ra1
    case ha1 =>
      intro w hSw
      try dsimp only at hSw
      go_simp
      try with_reducible rfl
    try simp only [Act.put, List.setIfInBounds_toArray, List.set_cons_zero, List.set_cons_succ]
    refine wpAnyH_take (i := 2) (v := ?va2) rfl (by kernel_rfl) (by kernel_rfl) (by kernel_rfl) (fun _ _ _ h => h) (Or.inl ⟨by rfl, ?ha2⟩) (by assumption) ?ra2
    case ha2 =>
      intro w hSw
      try dsimp only at hSw
      go_simp
      try with_reducible rfl
    try simp only [Act.put, List.setIfInBounds_toArray, List.set_cons_zero, List.set_cons_succ]
    refine wpAnyH_take (i := 3) (v := ?va3) rfl (by kernel_rfl) (by kernel_rfl) (by kernel_rfl) (fun _ _ _ h => h) (Or.inl ⟨by rfl, ?ha3⟩) (by assumption) ?ra3
    case ha3 =>
      intro w hSw
      try dsimp only at hSw
      go_simp
      try with_reducible rfl
    try simp only [Act.put, List.setIfInBounds_toArray, List.set_cons_zero, List.set_cons_succ]
    refine wpAnyH_take (i := 4) (v := ?va4) rfl (by kernel_rfl) (by kernel_rfl) (by kernel_rfl) (fun _ _ _ h => h) (Or.inl ⟨by rfl, ?ha4⟩) (by assumption) ?ra4
    case ha4 =>
      intro w hSw
      try dsimp only at hSw
      go_simp
      try with_reducible rfl
    try simp only [Act.put, List.setIfInBounds_toArray, List.set_cons_zero, List.set_cons_succ]
    refine wpAnyH_take (i := 5) (v := ?va5) rfl (by kernel_rfl) (by kernel_rfl) (by kernel_rfl) (fun _ _ _ h => h) (Or.inl ⟨by rfl, ?ha5⟩) (by assumption) ?ra5
    case ha5 =>
      intro w hSw
      try dsimp only at hSw
      go_simp
      try with_reducible rfl
    try simp only [Act.put, List.setIfInBounds_toArray, List.set_cons_zero, List.set_cons_succ]
    refine wpAnyH_take (i := 6) (v := ?va6) rfl (by kernel_rfl) (by kernel_rfl) (by kernel_rfl) (fun _ _ _ h => h) (Or.inl ⟨by rfl, ?ha6⟩) (by assumption) ?ra6
    case ha6 =>
      intro w hSw
      try dsimp only at hSw
      go_simp
      try with_reducible rfl
    try simp only [Act.put, List.setIfInBounds_toArray, List.set_cons_zero, List.set_cons_succ]
    refine wpAnyH_take (i := 7) (v := ?va7) rfl (by kernel_rfl) (by kernel_rfl) (by kernel_rfl) (fun _ _ _ h => h) (Or.inl ⟨by rfl, ?ha7⟩) (by assumption) ?ra7
    case ha7 =>
      intro w hSw
      try dsimp only at hSw
      go_simp
      try with_reducible rfl
    try simp only [Act.put, List.setIfInBounds_toArray, List.set_cons_zero, List.set_cons_succ]
    refine wpAnyH_take (i := 8) (v := ?va8) rfl (by kernel_rfl) (by kernel_rfl) (by kernel_rfl) (fun _ _ _ h => h) (Or.inl ⟨by rfl, ?ha8⟩) (by assumption) ?ra8
    case ha8 =>
      intro w hSw
      try dsimp only at hSw
      go_simp
      try with_reducible rfl
    try simp only [Act.put, List.setIfInBounds_toArray, List.set_cons_zero, List.set_cons_succ]
    refine wpAnyH_take (i := 9) (v := ?va9) rfl (by kernel_rfl) (by kernel_rfl) (by kernel_rfl) (fun _ _ _ h => h) (Or.inl ⟨by rfl, ?ha9⟩) (by assumption) ?ra9
    case ha9 =>
      intro w hSw
      try dsimp only at hSw
      go_simp
      try with_reducible rfl
    try simp only [Act.put, List.setIfInBounds_toArray, List.set_cons_zero, List.set_cons_succ]
    refine wpAnyH_take (i := 10) (v := ?va10) rfl (by kernel_rfl) (by kernel_rfl) (by kernel_rfl) (fun _ _ _ h => h) (Or.inl ⟨by rfl, ?ha10⟩) (by assumption) ?ra10
    case ha10 =>
      intro w hSw
      try dsimp only at hSw
      go_simp
      try with_reducible rfl
    try simp only [Act.put, List.setIfInBounds_toArray, List.set_cons_zero, List.set_cons_succ]
    refine wpAnyH_ready (rs := [11]) (by kernel_rfl) (by simp) ?_
    refine AllReadyH.cons rfl (fun K hK => ?sb11) AllReadyH.nil
    go_simp
    refine hK.out _ _ ?kb11 (fun hHeld => ?mb11)
    case kb11 =>
      try dsimp only
      exact hHeld
    clear hK K
    try simp only [Act.put, List.setIfInBounds_toArray, List.set_cons_zero, List.set_cons_succ]
    refine wpAnyH_take (i := 12) (v := ?va12) rfl (by kernel_rfl) (by kernel_rfl) (by kernel_rfl) (fun _ _ _ h => h) (Or.inl ⟨by rfl, ?ha12⟩) (by assumption) ?ra12
    case ha12 =>
      intro w hSw
      try dsimp only at hSw
      go_simp
      try with_reducible rfl
    try simp only [Act.put, List.setIfInBounds_toArray, List.set_cons_zero, List.set_cons_succ]
    refine wpAnyH_ready (rs := [13]) (by kernel_rfl) (by simp) ?_
    refine AllReadyH.cons rfl (fun K hK => ?sb13) AllReadyH.nil
    go_simp
    refine hK.out _ _ ?kb13 (fun hHeld => ?mb13)
    case kb13 =>
      try dsimp only
      simp [*, World.cell?_alloc_some]
    clear hK K
    try simp only [Act.put, List.setIfInBounds_toArray, List.set_cons_zero, List.set_cons_succ]
    refine wpAnyH_ready (rs := [14]) (by kernel_rfl) (by simp) ?_
    refine AllReadyH.cons rfl (fun K hK => ?sb14) AllReadyH.nil
    go_simp
    rw [wrap_u64 bx0 (by omega), wrap_u64 by0 (by omega), wrap_u64 (x := x * y) bxy.1 (by omega), wrap_u64 bt0 (by omega)]
    refine (carry2 c (x * y) t (w.heap.size + 1 + 1) X.drew ok2 bxy.1 bt0 (by omega) q2).mono ?_
    rintro e w2 ⟨rfl, hcar2, hgr⟩
    go_simp
    refine hK.out _ _ ?kb14 (fun hHeld => ?mb14)
    case kb14 =>
      try dsimp only
      exact ⟨hgr.cell c0 (by simp <;> omega), hgr.cell c1 (by simp <;> omega), hgr.cell c3 (by simp <;> omega)⟩
    clear hK K
    try simp only [Act.put, List.setIfInBounds_toArray, List.set_cons_zero, List.set_cons_succ]
    have hblk2 : Blk w2 g z := Blk.grown (w := X.drew) hblk hgr (by simp <;> omega)
    have hcell2 := hblk2.cell (off + k) (by omega)
    have hfree2 := hblk2.free (off + k)
    refine wpAnyH_take (i := 15) (v := ?va15) rfl (by kernel_rfl) (by kernel_rfl) (by kernel_rfl) (fun _ _ _ h => h) (Or.inl ⟨by rfl, ?ha15⟩) (by assumption) ?ra15
    case ha15 =>
      intro w hSw
      try dsimp only at hSw
      go_simp
      try with_reducible rfl
    try simp only [Act.put, List.setIfInBounds_toArray, List.set_cons_zero, List.set_cons_succ]
    refine wpAnyH_ready (rs := [16]) (by kernel_rfl) (by simp) ?_
    refine AllReadyH.cons rfl (fun K hK => ?sb16) AllReadyH.nil
    go_simp
    refine hK.out _ _ ?kb16 (fun hHeld => ?mb16)
    case kb16 =>
      try dsimp only
      exact ⟨(World.cell?_setCell_far _ _ _ _ (by simp <;> omega)).trans hHeld.1, (World.cell?_setCell_far _ _ _ _ (by simp <;> omega)).trans hHeld.2.1, (World.cell?_setCell_far _ _ _ _ (by simp <;> omega)).trans hHeld.2.2⟩
    clear hK K
    try simp only [Act.put, List.setIfInBounds_toArray, List.set_cons_zero, List.set_cons_succ]
    refine wpAnyH_done (by kernel_rfl) ?_ _
    have hko : KeepsOthers X w2 := (KeepsOthers.drew X).trans (KeepsOthers.of_grownBy hgr (fun j o ej hj => by cases ej; rw [show X.drew.heap[w.heap.size + 1 + 1]? = _ from q2] at hj; cases hj; rfl))
    have hbo : Below g X w2 := (Below.refl _ X).drew.grown hgr (show g ≤ X.heap.size by omega) (fun j ej => by cases ej; omega)
    have u0 : Boxed w2 w.heap.size _ _ := Boxed.kept (W := X.drew) q0 hgr (by simp <;> omega)
    have u1 : Boxed w2 (w.heap.size + 1) _ _ := Boxed.kept (W := X.drew) q1 hgr (by simp <;> omega)
    have u3 : Boxed w2 (w.heap.size + 1 + 1 + 1) _ _ := Boxed.kept (W := X.drew) q3 hgr (by simp <;> omega)
    have ub := hblk2.set (off + k) ((c + x * y + t) % 4294967296)
    have es : rowOf zs off x vs ((pre ++ [(⟨k, hk⟩ : Fin (trimN vs vs.length))]).map Fin.val) = (z.set (off + k) ((c + x * y + t) % 4294967296), (c + x * y + t) / 4294967296) := by
      rw [List.map_append, List.map_cons, List.map_nil, rowOf_snoc, HS.out]
      simp only [rowStep, HY.out, HT.out]
    have hgw : w.grownBy w2 (some g) := grown_trans hB (grown_drew hgr) (fun r e => by cases e; exact .inr (by omega))
    refine ⟨hko.trans (KeepsOthers.setCell _ _ _), hbo.setCell (p := ⟨g, off + k, none⟩) (Nat.le_refl _) _, ?_, ?_⟩
    · rw [es]
      exact ⟨⟨⟨⟨ub, Boxed.far u0 (by simp <;> omega) _⟩, Boxed.far u1 (by simp <;> omega) _⟩, Boxed.far (t := 152) hcar2 (by simp <;> omega) _⟩, Boxed.far u3 (by simp <;> omega) _⟩
    · exact grown_trans hgw (Only.set w2 g (off + k) _).grown (fun r e => .inl e.symm)
  case done =>
    rintro D ks X hD hup ⟨⟨⟨⟨⟨hblk, q0⟩, q1⟩, q2⟩, q3⟩, hB⟩ hK
    obtain ⟨ok1, okw, ok2, ok3⟩ := rowOf_ok zs off x vs hwz hx hwv (ks.map Fin.val)
    have hst : rowOf zs off x vs (ks.map Fin.val) = rowOf zs off x vs (List.range vs.length) := by rw [hup, htr]
    rw [hst] at hblk q2 ok1 okw ok2 ok3
    have hrow : rowL zs off x vs = (rowOf zs off x vs (List.range vs.length)).1.set (off + vs.length) (rowOf zs off x vs (List.range vs.length)).2 := rfl
    generalize rowOf zs off x vs (List.range vs.length) = st at hblk q2 ok1 okw ok2 ok3 hrow
    obtain ⟨z, c⟩ := st
    simp only at hblk q2 ok1 okw ok2 ok3 hrow
    have HR := Lib.hid hrow
    have hstep : z.length = zs.length := ok1
    clear hst hrow
    have c0 := q0.cell
    have c3 := q3.cell
    have hsX := hB.size
    gi_wp2_with fail
    refine wpIn_wide.2 ?_
    go_region_held3 (fun X' => X'.cell? ⟨w.heap.size, 0, none⟩ = some (.slice (some ⟨g, off, none⟩) L cap) ∧ X'.cell? ⟨w.heap.size + 1 + 1 + 1, 0, none⟩ = some (Value.func (.func 168) #[] #[.pointer (some ⟨w.heap.size + 1 + 1, 0, none⟩)]))
      (first | exact ⟨hgr.cell c0 (by simp <;> omega), hgr.cell c3 (by simp <;> omega)⟩ | exact ⟨(World.cell?_setCell_far _ _ _ _ (by simp <;> omega)).trans (hgr.cell c0 (by simp <;> omega)), (World.cell?_setCell_far _ _ _ _ (by simp <;> omega)).trans (hgr.cell c3 (by simp <;> omega))⟩ | go_keep)
      (first | (go_at_call 168; refine (carry0 c (w.heap.size + 1 + 1) X.drew ok2 (by omega) q2).mono ?_; rintro e w2 ⟨rfl, hcar2, hgr⟩; have hblk2 : Blk w2 g z := Blk.grown (w := X.drew) hblk hgr (by simp <;> omega); have hcell2 := hblk2.cell (off + vs.length) (by omega); have hfree2 := hblk2.free (off + vs.length)))
    have hDX : D < X.heap.size := (Array.getElem?_eq_some_iff.1 hK).1
    have hK2 : w2.heap[D]? = some (.deferred (some [])) := (hgr.block D hDX (by simp <;> omega)).trans hK
    have hK3 : (w2.setCell ⟨g, off + vs.length, none⟩ (.int .u32 (c % 4294967296))).heap[D]? = some (.deferred (some [])) := (Below.heap_setCell _ _ _ _ (by simp <;> omega)).trans hK2
    refine ⟨by simp, .inl ⟨_, _, rfl, run_takeDeferred hK3, ?_⟩⟩
    have ub := hblk2.set (off + vs.length) (c % 4294967296)
    rw [Int.emod_eq_of_lt ok2 ok3, ← HR.out] at ub
    refine ⟨_, results_none rfl _ _ _, rfl, ?_, ?_⟩
    · rw [Int.emod_eq_of_lt ok2 ok3]
      exact Blk.grown ub (grownBy_putObj' _ D (.deferred none)) (by simp <;> omega)
    · refine grown_trans (grown_trans (grown_trans hB (grown_drew hgr) (fun r e => by cases e; exact .inr (by omega))) (Only.set w2 g (off + vs.length) _).grown (fun r e => .inl e.symm)) (grownBy_putObj' _ D (.deferred none)) (fun r e => by cases e; exact .inr (by omega))
  case stop =>
    rintro D c pre X _ _ h _
    exact h.elim
end
section
open Go.RowKit Go.Shelf
attribute [local go_sem] Oper.semAt_some
theorem trimN_last (xs : List Int) (n : Nat) (h : 0 < trimN xs n) : xs.getD (trimN xs n - 1) 0 ≠ 0 := by
  induction n with
  | zero => simp [trimN] at h
  | succ n ih =>
    unfold trimN at h ⊢
    split
    · rename_i hz; rw [if_pos hz] at h; exact ih h
    · rename_i hz; simpa using hz
theorem trim_full (xs : List Int) : trimN (trim xs) (trim xs).length = (trim xs).length := by
  rw [trim_length]
  have hl := trimN_last xs xs.length
  have hle := trim_le xs
  unfold trim
  generalize trimN xs xs.length = m at *
  cases m with
  | zero => rfl
  | succ j =>
    have h := hl (by omega)
    simp only [Nat.add_sub_cancel] at h
    unfold trimN
    rw [if_neg]
    simpa [List.getD, List.getElem?_take] using h
/-- the product's limbs when some rows are added -/
def mulOf (us vs : List Int) (ks : List Nat) : List Int := ks.foldl (fun z k => rowL z k (us.getD k 0) vs) (List.replicate (us.length + vs.length) 0)
def mulL (us vs : List Int) : List Int := mulOf us vs (List.range us.length)
theorem mulOf_snoc (us vs : List Int) (ks : List Nat) (k : Nat) : mulOf us vs (ks ++ [k]) = rowL (mulOf us vs ks) k (us.getD k 0) vs := by simp [mulOf]
theorem rowL_ok (zs : List Int) (off : Nat) (x : Int) (vs : List Int) (hz : Wf zs) (hx : 0 ≤ x ∧ x < 4294967296) (hv : Wf vs) : (rowL zs off x vs).length = zs.length ∧ Wf (rowL zs off x vs) := by
  obtain ⟨h1, h2, h3, h4⟩ := rowOf_ok zs off x vs hz hx hv (List.range vs.length)
  exact ⟨by simp [rowL, h1], h2.set _ ⟨h3, h4⟩⟩
theorem Wf.zeros (n : Nat) : Wf (List.replicate n 0) := fun x hx => by rw [List.eq_of_mem_replicate hx]; omega
theorem mulOf_ok (us vs : List Int) (hu : Wf us) (hv : Wf vs) (ks : List Nat) : (mulOf us vs ks).length = us.length + vs.length ∧ Wf (mulOf us vs ks) := by
  suffices h : ∀ z : List Int, z.length = us.length + vs.length ∧ Wf z → ((ks.foldl (fun z k => rowL z k (us.getD k 0) vs) z).length = us.length + vs.length ∧ Wf (ks.foldl (fun z k => rowL z k (us.getD k 0) vs) z)) from
    h _ ⟨by simp, Wf.zeros _⟩
  induction ks with
  | nil => exact fun z h => h
  | cons k ks ih =>
    intro z ⟨g1, g2⟩
    have h := rowL_ok z k (us.getD k 0) vs g2 (hu.getD k) hv
    exact ih _ ⟨h.1.trans g1, h.2⟩
set_option maxRecDepth 100000 in
set_option maxHeartbeats 4000000 in
set_option linter.unusedSimpArgs false in
theorem mul_any (a b : Option Addr) (xs ys : List Int) (capa capb : Nat) (w : World) (hla : Lim w a xs) (hlb : Lim w b ys) (hma : xs.length ≤ 35184372088832) (hmb : ys.length ≤ 35184372088832)
    (hca : xs.length ≤ capa) (hcb : ys.length ≤ capb) (hwa : Wf xs) (hwb : Wf ys) :
    Calls Tryz.prog 137 #[.slice a xs.length capa, .slice b ys.length capb] w fun e w' => ∃ v, e = .returned v ∧ Num w.heap.size w' v (trim (mulL (trim xs) (trim ys))) ∧ Below w.heap.size w w' := by
  have hta := trim_le xs
  have htb := trim_le ys
  obtain ⟨n, hn⟩ : ∃ n : Nat, Hid (3 ≤ n) := ⟨3, Nat.le_refl 3⟩
  refine (callsIn_wide (n := n)).1 ?_
  refine callsIn_of_wp_marks Tryz.func137 rfl trivial ?_ rfl
  simp only [Tryz.ntmps137, List.size_toArray, List.length_cons, List.length_nil, Nat.reduceAdd, Nat.reduceSub, Array.replicate_succ, Array.replicate_zero, List.push_toArray, List.append_toArray, List.nil_append, List.cons_append]
  gi_wp2_with fail
  have bB := Boxed.new w 49 (.slice b ys.length capb)
  have hB0 : Below w.heap.size w (w.alloc (.cells #[.slice b ys.length capb] 49)) := (Below.refl _ w).alloc (Nat.le_refl _) _
  have hs0 : (w.alloc (.cells #[.slice b ys.length capb] 49)).heap.size = w.heap.size + 1 := by simp
  generalize w.alloc (.cells #[.slice b ys.length capb] 49) = W at *
  have hcB := bB.cell
  have hfB := bB.frozen
  have hla' : Lim W.drew a xs := hla.later hB0.drew
  have hlb' : Lim W.drew b ys := hlb.later hB0.drew
  refine wpIn_wide.2 ?_
  go_still_tail 5, (by kernel_rfl)
  still_call (cut_still a xs capa _ hla' hma hca)
  repeat still_step
  still_call (cut_still b ys capb _ hlb' hmb hcb)
  repeat still_step
  refine wpStill_nil ?_
  have hlu : Lim w a (trim xs) := hla.take _
  have hlv : Lim w b (trim ys) := hlb.take _
  have hwu := hwa.trim
  have hwv := hwb.trim
  have htu := trim_full xs
  have htv := trim_full ys
  rw [← trim_length xs, ← trim_length ys]
  have hlen1 : (trim xs).length ≤ 35184372088832 := by rw [trim_length]; omega
  have hlen2 : (trim ys).length ≤ 35184372088832 := by rw [trim_length]; omega
  have hcu : (trim xs).length ≤ capa := by rw [trim_length]; omega
  have hcv : (trim ys).length ≤ capb := by rw [trim_length]; omega
  clear hla hlb hla' hlb' hta htb
  obtain ⟨us, hus⟩ : ∃ us, trim xs = us := ⟨_, rfl⟩
  obtain ⟨vs, hvs⟩ : ∃ vs, trim ys = vs := ⟨_, rfl⟩
  rw [hus] at hlu hlen1 hwu hcu htu ⊢
  rw [hvs] at hlv hlen2 hwv hcv htv ⊢
  have HU := Lib.hid hus
  have HV := Lib.hid hvs
  have HTU := Lib.hid htu
  have HTV := Lib.hid htv
  clear hus hvs htu htv
  go_wp2_with fail
  have bB2 : Boxed (W.setCell ⟨w.heap.size, 0, none⟩ (.slice b vs.length capb)).drew w.heap.size 49 (.slice b vs.length capb) := bB.set _
  have hB2 : Below w.heap.size w (W.setCell ⟨w.heap.size, 0, none⟩ (.slice b vs.length capb)).drew := (hB0.setCell (p := ⟨w.heap.size, 0, none⟩) (Nat.le_refl _) _).drew
  have hsz2 : (W.setCell ⟨w.heap.size, 0, none⟩ (.slice b vs.length capb)).drew.heap.size = w.heap.size + 1 := by have := (Only.set W w.heap.size 0 (.slice b vs.length capb)).size; exact this.trans hs0
  have hlu2 := hlu.later hB2
  have hlv2 := hlv.later hB2
  clear bB hB0 hcB hfB hlu hlv hs0
  generalize (W.setCell ⟨w.heap.size, 0, none⟩ (.slice b vs.length capb)).drew = V at *
  have hcB := bB2.cell
  have hsV : w.heap.size + 1 ≤ V.heap.size := by omega
  clear hsz2
  have hmk := make_runN (us.length + vs.length) (us.length + vs.length) (Nat.le_refl _) (by omega)
  rw [Int.natCast_add] at hmk
  gi_wp2_with fail
  refine wideCall ((limbs_any a us.length capa _).mono ?_)
  rintro e w' ⟨rfl, rfl⟩
  gi_wp2_with fail
  have j1 := ((Blk.made V (us.length + vs.length)).alloc (Obj.cells #[Value.slice (some ⟨V.heap.size, 0, none⟩) (us.length + vs.length) (us.length + vs.length)] 49)).alloc (Obj.cells #[Value.slice a us.length capa] 49)
  have j2 := (Boxed.new (V.alloc (Obj.cells (madeCells #[Value.int .u32 0] (us.length + vs.length)) 64)) 49 (Value.slice (some ⟨V.heap.size, 0, none⟩) (us.length + vs.length) (us.length + vs.length))).alloc (Obj.cells #[Value.slice a us.length capa] 49)
  have j5 := Boxed.new ((V.alloc (Obj.cells (madeCells #[Value.int .u32 0] (us.length + vs.length)) 64)).alloc (Obj.cells #[Value.slice (some ⟨V.heap.size, 0, none⟩) (us.length + vs.length) (us.length + vs.length)] 49)) 49 (Value.slice a us.length capa)
  have j6 : Below V.heap.size V (((V.alloc (Obj.cells (madeCells #[Value.int .u32 0] (us.length + vs.length)) 64)).alloc (Obj.cells #[Value.slice (some ⟨V.heap.size, 0, none⟩) (us.length + vs.length) (us.length + vs.length)] 49)).alloc (Obj.cells #[Value.slice a us.length capa] 49)) :=
    (((Below.refl _ V).alloc (Nat.le_refl _) _).alloc (by simp) _).alloc (by simp; omega) _
  have j7 : (((V.alloc (Obj.cells (madeCells #[Value.int .u32 0] (us.length + vs.length)) 64)).alloc (Obj.cells #[Value.slice (some ⟨V.heap.size, 0, none⟩) (us.length + vs.length) (us.length + vs.length)] 49)).alloc (Obj.cells #[Value.slice a us.length capa] 49)).heap.size = V.heap.size + 3 := by simp
  simp only [World.size_alloc] at j2 j5
  generalize (((V.alloc (Obj.cells (madeCells #[Value.int .u32 0] (us.length + vs.length)) 64)).alloc (Obj.cells #[Value.slice (some ⟨V.heap.size, 0, none⟩) (us.length + vs.length) (us.length + vs.length)] 49)).alloc (Obj.cells #[Value.slice a us.length capa] 49)) = W5 at *
  clear hmk
  have h3 : 3 ≤ n := hn
  refine wpIn_rangeFunc_ownF rfl (by omega) (gf := 172) (lb := #[.pointer (some ⟨V.heap.size + 1 + 1, 0, none⟩)]) rfl trivial (enters_of Tryz.func172 (by kernel_rfl) rfl)
    (limbs_stops (n - 1) (V.heap.size + 1 + 1) V.heap.size a us capa hlen1 hcu hlu2.lt _ (by omega) j5.cell (hlu2.later j6)) belowK_t (belowK_b (by omega)) (Below.refl _ _) (fun _ => rfl)
    (fun (pre : List (Fin (trimN us us.length))) X => (Blk X V.heap.size (mulOf us vs (pre.map Fin.val)) ∧ Boxed X (V.heap.size + 1) 49 (.slice (some ⟨V.heap.size, 0, none⟩) (us.length + vs.length) (us.length + vs.length))) ∧ Below V.heap.size V X)
    (fun _ _ _ => False)
    (OwnFrom.and (Own.from (Own.and2 (blk_own _ _) (boxed_own _ _ _)) _) (ownFrom_below (Nat.le_refl _) (by omega)))
    (fun _ _ _ _ _ hs _ _ => hs)
    ⟨⟨j1, j2⟩, j6⟩
    (fun (x : Fin (trimN us us.length)) => { tmps := #[.slice a us.length capa, .slice b ys.length capb, undef, .pointer (some ⟨w.heap.size, 0, none⟩), .slice none 0 0, .pointer (some ⟨V.heap.size + 1, 0, none⟩), .int .i64 (x.val : Int), .int .u32 (us[x.val]?.getD 0),
      .slice a xs.length capa, .slice a us.length capa, .slice b ys.length capb, .slice b vs.length capb, .slice a us.length capa, .int .i64 us.length, .slice b vs.length capb, .int .i64 vs.length, .int .i64 ((us.length : Int) + (vs.length : Int)),
      .slice (some ⟨V.heap.size, 0, none⟩) (us.length + vs.length) (us.length + vs.length), .slice a us.length capa, .func (.func 172) #[] #[.pointer (some ⟨V.heap.size + 1 + 1, 0, none⟩)], .int .i64 (x.val : Int), .int .u32 (us[x.val]?.getD 0),
      undef, undef, undef, undef, undef, undef, undef, undef], defers := [] }) ?assign ?body ?done ?stop
  case assign =>
    intro l x X K hK
    simp only [limbAt]
    gi_wp2
    exact hK
  case body =>
    rintro l pre ⟨k, hk⟩ X ⟨⟨hblk, q1⟩, hB⟩ hlt
    have hkm : k < us.length := by have := HTU.out; omega
    obtain ⟨ok1, okw⟩ := mulOf_ok us vs hwu hwv (pre.map Fin.val)
    obtain ⟨z, hz⟩ : ∃ z, mulOf us vs (pre.map Fin.val) = z := ⟨_, rfl⟩
    rw [hz] at hblk ok1 okw
    obtain ⟨x, hxk⟩ : ∃ x, us.getD k 0 = x := ⟨_, rfl⟩
    have bx : 0 ≤ x ∧ x < 4294967296 := hxk ▸ hwu.getD k
    have hxk2 : us[k]?.getD 0 = x := hxk
    simp only [hxk2]
    obtain ⟨L, hL⟩ : ∃ L, k + L = us.length + vs.length := ⟨us.length + vs.length - k, by omega⟩
    have hLk : us.length + vs.length - k = L := by omega
    have HX := Lib.hid hxk
    have HZ := Lib.hid hz
    have HL := Lib.hid hL
    have hLv : vs.length < L := by omega
    clear hxk hxk2 hz hL
    have hle2 : (k : Int) ≤ (us.length : Int) + (vs.length : Int) := by omega
    have hne2 : ¬ (us.length + vs.length = k) := by omega
    have c1 := q1.cell
    have bX : Boxed X w.heap.size 49 (.slice b vs.length capb) := (hB.block w.heap.size (by omega)).trans bB2
    have c0 := bX.cell
    have hsX := hB.size
    have hkN : k < us.length + vs.length := by omega
    refine wpIn_block ?_
    refine region_round (fun X' => X'.cell? ⟨V.heap.size + 1, 0, none⟩ = some (.slice (some ⟨V.heap.size, 0, none⟩) (us.length + vs.length) (us.length + vs.length)) ∧ X'.cell? ⟨w.heap.size, 0, none⟩ = some (.slice b vs.length capb))
      (by kernel_rfl) (by kernel_rfl) (by rintro ⟨a', w', h⟩; exact h) ⟨c1, c0⟩ (fun hHeld => ?_)
    refine wpAnyH_take (i := 0) (v := ?va0) rfl (by kernel_rfl) (by kernel_rfl) (by kernel_rfl) (fun _ _ _ h => h) (Or.inl ⟨by rfl, ?ha0⟩) (by assumption) ?ra0
    case ha0 =>
      intro w hSw
      try dsimp only at hSw
      go_simp
      try with_reducible rfl
    try simp only [Act.put, List.setIfInBounds_toArray, List.set_cons_zero, List.set_cons_succ]
    refine wpAnyH_take (i := 1) (v := ?va1) rfl (by kernel_rfl) (by kernel_rfl) (by kernel_rfl) (fun _ _ _ h => h) (Or.inl ⟨by rfl, ?ha1⟩) (by assumption) ?ra1
    case ha1 =>
      intro w hSw
      try dsimp only at hSw
      go_simp
      try with_reducible rfl
    try simp only [Act.put, List.setIfInBounds_toArray, List.set_cons_zero, List.set_cons_succ]
    refine wpAnyH_take (i := 2) (v := ?va2) rfl (by kernel_rfl) (by kernel_rfl) (by kernel_rfl) (fun _ _ _ h => h) (Or.inl ⟨by rfl, ?ha2⟩) (by assumption) ?ra2
    case ha2 =>
      intro w hSw
      try dsimp only at hSw
      go_simp
      try with_reducible rfl
    try simp only [Act.put, List.setIfInBounds_toArray, List.set_cons_zero, List.set_cons_succ]
    refine wpAnyH_take (i := 3) (v := ?va3) rfl (by kernel_rfl) (by kernel_rfl) (by kernel_rfl) (fun _ _ _ h => h) (Or.inl ⟨by rfl, ?ha3⟩) (by assumption) ?ra3
    case ha3 =>
      intro w hSw
      try dsimp only at hSw
      go_simp
      try with_reducible rfl
    try simp only [Act.put, List.setIfInBounds_toArray, List.set_cons_zero, List.set_cons_succ]
    refine wpAnyH_take (i := 4) (v := ?va4) rfl (by kernel_rfl) (by kernel_rfl) (by kernel_rfl) (fun _ _ _ h => h) (Or.inl ⟨by rfl, ?ha4⟩) (by assumption) ?ra4
    case ha4 =>
      intro w hSw
      try dsimp only at hSw
      go_simp
      try with_reducible rfl
    try simp only [Act.put, List.setIfInBounds_toArray, List.set_cons_zero, List.set_cons_succ]
    refine wpAnyH_ready (rs := [5]) (by kernel_rfl) (by simp) ?_
    refine AllReadyH.cons rfl (fun K hK => ?sb5) AllReadyH.nil
    go_simp
    refine (row_any V.heap.size k L L b z vs x capb X.drew hblk (by have := HL.out; omega) hLv ((hlv2.later hB).later (show Below X.heap.size X X.drew from (Below.refl _ _).drew)) hlen2 hcv HTV.out hlv2.lt okw hwv bx).mono ?_
    rintro e w2 ⟨rfl, hblk2, hgr⟩
    go_simp
    refine hK.out _ _ ?kb5 (fun hHeld => ?mb5)
    case kb5 =>
      try dsimp only
      exact ⟨hgr.cell c1 (by simp), hgr.cell c0 (by simp <;> omega)⟩
    clear hK K
    try simp only [Act.put, List.setIfInBounds_toArray, List.set_cons_zero, List.set_cons_succ]
    refine wpAnyH_done (by kernel_rfl) ?_ _
    have es : mulOf us vs ((pre ++ [(⟨k, hk⟩ : Fin (trimN us us.length))]).map Fin.val) = rowL z k x vs := by
      rw [List.map_append, List.map_cons, List.map_nil, mulOf_snoc, HZ.out, HX.out]
    have hbo : Below V.heap.size X w2 := (Below.refl _ X).drew.grown hgr hsX (fun j ej => by cases ej; exact Nat.le_refl _)
    refine ⟨(KeepsOthers.drew X).trans (KeepsOthers.of_grownBy hgr (fun j o ej hj => by cases ej; rw [show X.drew.heap[V.heap.size]? = _ from hblk] at hj; cases hj; rfl)), hbo, ?_, hB.trans hbo⟩
    rw [es]
    exact ⟨hblk2, Boxed.kept (W := X.drew) q1 hgr (by simp)⟩
  case done =>
    rintro D ks X hD hup ⟨⟨hblk, q1⟩, hB⟩ hK
    have ok1 := (mulOf_ok us vs hwu hwv (ks.map Fin.val)).1
    have hnum := Num.ofBlk hblk (Nat.le_refl _) (us.length + vs.length) (by omega) (by rw [ok1]; unfold maxLen; omega)
    rw [ok1, List.take_of_length_le (by omega)] at hnum
    have es : mulL us vs = mulOf us vs (ks.map Fin.val) := by unfold mulL; rw [hup, HTU.out]
    rw [← es] at hnum
    have c1 := q1.cell
    gi_wp2_with fail
    refine wideCall ((cut_num hnum).mono ?_)
    rintro e w' ⟨u, rfl, hu, rfl⟩
    gi_wp2_with fail
    refine ⟨by simp, .inl ⟨_, _, rfl, run_takeDeferred hK, ?_⟩⟩
    refine ⟨_, results_tmp rfl _ _ _, u, rfl, ?_, (hB2.trans (hB.mono (by omega))).trans (belowK_b (w := w) (Nat.le_refl _) X D _ _ (by omega) hK rfl rfl)⟩
    rw [HU.out, HV.out]
    exact ownsRow_putObj (hu.mono (by omega)) (.deferred none) hK rfl
  case stop =>
    rintro D c pre X _ _ h _
    exact h.elim
end
section
open Go.RowKit
theorem pow_pos' (k : Nat) : (0 : Int) < 4294967296 ^ k := Int.pow_pos (by omega)
theorem val_take_succ (xs : List Int) (k : Nat) : val (xs.take (k + 1)) = val (xs.take k) + 4294967296 ^ k * xs.getD k 0 := by
  by_cases h : k < xs.length
  · rw [List.take_succ_eq_append_getElem h, val_append, List.length_take, Nat.min_eq_left (by omega)]
    simp [val, h]
  · rw [List.take_of_length_le (by omega), List.take_of_length_le (by omega)]
    simp [List.getElem?_eq_none (Nat.le_of_not_lt h)]
theorem val_lt {xs : List Int} (h : Wf xs) : val xs < 4294967296 ^ xs.length := by
  induction xs with
  | nil => simp [val]
  | cons x xs ih =>
    have h1 := ih h.tail
    have h2 := h.head
    simp only [val, List.length_cons, Int.pow_succ]
    omega
theorem val_trimN (xs : List Int) (n : Nat) : val (xs.take (trimN xs n)) = val (xs.take n) := by
  induction n with
  | zero => rfl
  | succ n ih =>
    unfold trimN
    split
    · rename_i hz
      rw [val_take_succ, hz, ih]
      simp
    · rfl
theorem val_trim (xs : List Int) : val (trim xs) = val xs := by
  unfold trim
  rw [val_trimN, List.take_length]
theorem getD_ge_trimN (xs : List Int) (n k : Nat) (h1 : trimN xs n ≤ k) (h2 : k < n) : xs.getD k 0 = 0 := by
  induction n with
  | zero => omega
  | succ n ih =>
    unfold trimN at h1
    split at h1
    · rename_i hz
      by_cases e : k = n
      · rw [e]; exact hz
      · exact ih h1 (by omega)
    · omega
theorem val_take_ge (xs : List Int) (k : Nat) (h : trimN xs xs.length ≤ k) : val (xs.take k) = val xs := by
  induction k with
  | zero =>
    have h0 : trimN xs xs.length = 0 := by omega
    rw [← val_trim xs]
    unfold trim
    rw [h0]
  | succ k ih =>
    by_cases hk : trimN xs xs.length ≤ k
    · rw [val_take_succ, ih hk]
      by_cases hl : k < xs.length
      · rw [getD_ge_trimN xs xs.length k hk hl]; simp
      · simp [List.getElem?_eq_none (Nat.le_of_not_lt hl)]
    · have e : trimN xs xs.length = k + 1 := by omega
      rw [← e]
      exact val_trim xs
/-- numbers are told in one way -/
theorem getD_eq_of_val {us vs : List Int} (hu : Wf us) (hv : Wf vs) (h : val us = val vs) : ∀ k, us.getD k 0 = vs.getD k 0 := by
  induction us generalizing vs with
  | nil =>
    induction vs with
    | nil => intro k; rfl
    | cons y ys ih =>
      have h1 := hv.head
      have h2 := val_nonneg hv.tail
      simp only [val] at h
      have hy : y = 0 := by omega
      have hys : val [] = val ys := by simp only [val]; omega
      intro k
      cases k with
      | zero => simp [hy]
      | succ k => have := ih hv.tail hys k; simpa using this
  | cons x xs ih =>
    cases vs with
    | nil =>
      have h1 := hu.head
      have h2 := val_nonneg hu.tail
      simp only [val] at h
      have hx : x = 0 := by omega
      intro k
      cases k with
      | zero => simp [hx]
      | succ k => have := ih hu.tail Wf.nil (by simp only [val]; omega) k; simpa using this
    | cons y ys =>
      have h1 := hu.head
      have h2 := hv.head
      simp only [val] at h
      intro k
      cases k with
      | zero => simp; omega
      | succ k => have := ih hu.tail hv.tail (by omega) k; simpa using this
theorem canon {us vs : List Int} (hu : Wf us) (hv : Wf vs) (fu : trimN us us.length = us.length) (fv : trimN vs vs.length = vs.length) (h : val us = val vs) : us = vs := by
  have hd := getD_eq_of_val hu hv h
  have lu := trimN_last us us.length
  have lv := trimN_last vs vs.length
  rw [fu] at lu
  rw [fv] at lv
  have hl : us.length = vs.length := by
    rcases Nat.lt_trichotomy us.length vs.length with h1 | h1 | h1
    · exfalso
      refine lv (by omega) ?_
      rw [← hd]
      simp [List.getElem?_eq_none (show us.length ≤ vs.length - 1 by omega)]
    · exact h1
    · exfalso
      refine lu (by omega) ?_
      rw [hd]
      simp [List.getElem?_eq_none (show vs.length ≤ us.length - 1 by omega)]
  apply List.ext_getElem hl
  intro i h1 h2
  have := hd i
  simpa [h1, h2] using this
theorem mod_div (s : Int) : s % 4294967296 + 4294967296 * (s / 4294967296) = s := by omega
theorem val_addTo (xs ys : List Int) (k : Nat) : val (addTo xs ys k).1 + 4294967296 ^ k * (addTo xs ys k).2 = val (xs.take k) + val (ys.take k) := by
  induction k with
  | zero => simp [addTo, val]
  | succ k ih =>
    rw [val_take_succ, val_take_succ]
    simp only [addTo]
    rw [val_append, addTo_length]
    simp only [val, Int.pow_succ]
    have hm := mod_div ((addTo xs ys k).2 + xs.getD k 0 + ys.getD k 0)
    generalize (addTo xs ys k).2 = c at *
    generalize ((c + xs.getD k 0 + ys.getD k 0) % 4294967296) = r at *
    generalize ((c + xs.getD k 0 + ys.getD k 0) / 4294967296) = q at *
    generalize (4294967296 : Int) ^ k = P at *
    grind
theorem val_addL (xs ys : List Int) : val (addL xs ys) = val xs + val ys := by
  unfold addL
  rw [val_append, addTo_length]
  have h := val_addTo xs ys (addN xs ys)
  rw [val_take_ge xs _ (by unfold addN; omega), val_take_ge ys _ (by unfold addN; omega)] at h
  simp only [val, Int.mul_zero, Int.add_zero]
  exact h
theorem addL_wf {xs ys : List Int} (hx : Wf xs) (hy : Wf ys) : Wf (addL xs ys) := by
  have h := addTo_carry xs ys hx hy (addN xs ys)
  exact (addTo_wf xs ys _).append (Wf.cons (by omega) Wf.nil)
theorem val_set (xs : List Int) (k : Nat) (a : Int) (h : k < xs.length) : val (xs.set k a) = val xs + 4294967296 ^ k * (a - xs.getD k 0) := by
  induction xs generalizing k with
  | nil => simp at h
  | cons x xs ih =>
    cases k with
    | zero => simp [val]; omega
    | succ k =>
      have := ih k (by simpa using h)
      simp only [List.set_cons_succ, val, this, Int.pow_succ]
      simp only [List.getD_cons_succ]
      grind
theorem getD_set (xs : List Int) (k j : Nat) (a : Int) (hk : k < xs.length) : (xs.set k a).getD j 0 = if j = k then a else xs.getD j 0 := by
  by_cases e : j = k
  · subst e; simp [hk]
  · simp only [List.getD, List.getElem?_set]
    rw [if_neg (Ne.symm e), if_neg e]
theorem rowOf_val (zs : List Int) (off : Nat) (x : Int) (vs : List Int) (hl : off + vs.length < zs.length) (k : Nat) (hk : k ≤ vs.length) :
    (rowOf zs off x vs (List.range k)).1.length = zs.length ∧
    val (rowOf zs off x vs (List.range k)).1 + 4294967296 ^ (off + k) * (rowOf zs off x vs (List.range k)).2 = val zs + 4294967296 ^ off * (x * val (vs.take k)) ∧
    (∀ j, off + k ≤ j → (rowOf zs off x vs (List.range k)).1.getD j 0 = zs.getD j 0) := by
  induction k with
  | zero => simp [rowOf, val]
  | succ k ih =>
    obtain ⟨h1, h2, h3⟩ := ih (by omega)
    rw [List.range_succ, rowOf_snoc]
    generalize rowOf zs off x vs (List.range k) = st at *
    obtain ⟨z, c⟩ := st
    simp only at h1 h2 h3
    simp only [rowStep]
    refine ⟨by simp [h1], ?_, fun j hj => ?_⟩
    · rw [val_set _ _ _ (by omega), val_take_succ]
      have hm := mod_div (c + x * vs.getD k 0 + z.getD (off + k) 0)
      have hp : (4294967296 : Int) ^ (off + (k + 1)) = 4294967296 ^ (off + k) * 4294967296 := by rw [show off + (k + 1) = (off + k) + 1 from by omega, Int.pow_succ]
      have hq : (4294967296 : Int) ^ (off + k) = 4294967296 ^ off * 4294967296 ^ k := Int.pow_add ..
      rw [hp]
      generalize ((c + x * vs.getD k 0 + z.getD (off + k) 0) % 4294967296) = r at *
      generalize ((c + x * vs.getD k 0 + z.getD (off + k) 0) / 4294967296) = q at *
      generalize (4294967296 : Int) ^ (off + k) = P at *
      generalize (4294967296 : Int) ^ k = P2 at *
      generalize (4294967296 : Int) ^ off = P1 at *
      generalize vs.getD k 0 = y at *
      generalize z.getD (off + k) 0 = t at *
      generalize val (vs.take k) = vv at *
      grind
    · rw [getD_set _ _ _ _ (by omega), if_neg (by omega)]
      exact h3 j (by omega)
theorem rowL_val (zs : List Int) (off : Nat) (x : Int) (vs : List Int) (hl : off + vs.length < zs.length) (h0 : zs.getD (off + vs.length) 0 = 0) :
    val (rowL zs off x vs) = val zs + 4294967296 ^ off * (x * val vs) ∧ (∀ j, off + vs.length < j → (rowL zs off x vs).getD j 0 = zs.getD j 0) := by
  obtain ⟨h1, h2, h3⟩ := rowOf_val zs off x vs hl vs.length (Nat.le_refl _)
  rw [List.take_length] at h2
  unfold rowL
  generalize rowOf zs off x vs (List.range vs.length) = st at *
  obtain ⟨z, c⟩ := st
  simp only at h1 h2 h3
  refine ⟨?_, fun j hj => ?_⟩
  · rw [val_set _ _ _ (show off + vs.length < z.length by omega), h3 _ (Nat.le_refl _), h0, ← h2, Int.sub_zero]
  · rw [getD_set _ _ _ _ (show off + vs.length < z.length by omega), if_neg (by omega)]
    exact h3 j (by omega)
theorem mulOf_val (us vs : List Int) (k : Nat) (hk : k ≤ us.length) : (mulOf us vs (List.range k)).length = us.length + vs.length ∧ val (mulOf us vs (List.range k)) = val (us.take k) * val vs ∧
    (∀ j, k + vs.length ≤ j → (mulOf us vs (List.range k)).getD j 0 = 0) := by
  induction k with
  | zero =>
    simp only [List.range_zero, mulOf, List.foldl_nil, List.length_replicate, val_zeros, List.take_zero, val, Int.zero_mul, true_and]
    intro j _
    by_cases h : j < us.length + vs.length
    · simp [h]
    · simp [h]
  | succ k ih =>
    obtain ⟨h1, h2, h3⟩ := ih (by omega)
    rw [List.range_succ, mulOf_snoc]
    obtain ⟨g1, g2⟩ := rowL_val (mulOf us vs (List.range k)) k (us.getD k 0) vs (by omega) (h3 _ (Nat.le_refl _))
    obtain ⟨g0, _, _⟩ := rowOf_val (mulOf us vs (List.range k)) k (us.getD k 0) vs (by omega) vs.length (Nat.le_refl _)
    refine ⟨by unfold rowL; rw [List.length_set]; exact g0.trans h1, ?_, fun j hj => by rw [g2 j (by omega)]; exact h3 j (by omega)⟩
    rw [g1, h2, val_take_succ]
    generalize val (us.take k) = A
    generalize (4294967296 : Int) ^ k = P
    grind
theorem val_mulL (us vs : List Int) : val (mulL us vs) = val us * val vs := by
  have h := (mulOf_val us vs us.length (Nat.le_refl _)).2.1
  rw [List.take_length] at h
  exact h
theorem mulL_wf {us vs : List Int} (hu : Wf us) (hv : Wf vs) : Wf (mulL us vs) := (mulOf_ok us vs hu hv _).2
theorem subOf_val (xs ys : List Int) (m k : Nat) (hk : k ≤ m) : (subOf xs ys m (List.range k)).1.length = m ∧
    val ((subOf xs ys m (List.range k)).1.take k) + 4294967296 ^ k * (subOf xs ys m (List.range k)).2 = val (xs.take k) - val (ys.take k) + 4294967296 ^ k := by
  induction k with
  | zero => simp [subOf, val]
  | succ k ih =>
    obtain ⟨h1, h2⟩ := ih (by omega)
    rw [List.range_succ, subOf_snoc]
    generalize subOf xs ys m (List.range k) = st at *
    obtain ⟨z, c⟩ := st
    simp only at h1 h2
    simp only [subStep]
    refine ⟨by simp [h1], ?_⟩
    rw [val_take_succ, val_take_succ, val_take_succ, getD_set _ _ _ _ (by omega), if_pos rfl]
    have e : (z.set k ((c + xs.getD k 0 + (4294967295 - ys.getD k 0)) % 4294967296)).take k = z.take k := by
      rw [List.take_set, List.set_eq_of_length_le (by rw [List.length_take]; omega)]
    rw [e]
    have hm := mod_div (c + xs.getD k 0 + (4294967295 - ys.getD k 0))
    simp only [Int.pow_succ]
    generalize ((c + xs.getD k 0 + (4294967295 - ys.getD k 0)) % 4294967296) = r at *
    generalize ((c + xs.getD k 0 + (4294967295 - ys.getD k 0)) / 4294967296) = q at *
    generalize (4294967296 : Int) ^ k = P at *
    generalize xs.getD k 0 = x at *
    generalize ys.getD k 0 = y at *
    generalize val (z.take k) = Z at *
    generalize val (xs.take k) = XX at *
    generalize val (ys.take k) = YY at *
    grind
theorem subOf_wf (xs ys : List Int) (m : Nat) (ks : List Nat) : Wf (subOf xs ys m ks).1 := by
  suffices h : ∀ s : List Int × Int, Wf s.1 → Wf (ks.foldl (subStep xs ys) s).1 from h _ (Wf.zeros m)
  induction ks with
  | nil => exact fun s h => h
  | cons k ks ih => exact fun s h => ih _ (h.set _ (by omega))
theorem subL_wf (xs ys : List Int) : Wf (subL xs ys) := subOf_wf _ _ _ _
theorem one_of_mul {P c d z : Int} (h : z + P * c = d + P) (hz : 0 ≤ z) (hz2 : z < P) (hd : 0 ≤ d) (hd2 : d < P) : z = d := by
  have h1 : P * (c - 1) = d - z := by rw [Int.mul_sub]; omega
  have h2 : c = 1 := by
    rcases Int.lt_trichotomy c 1 with h3 | h3 | h3
    · have : P * (c - 1) ≤ P * (-1) := Int.mul_le_mul_of_nonneg_left (by omega) (by omega)
      omega
    · exact h3
    · have : P * 1 ≤ P * (c - 1) := Int.mul_le_mul_of_nonneg_left (by omega) (by omega)
      omega
  subst h2
  omega
theorem val_subL {xs ys : List Int} (hx : Wf xs) (hy : Wf ys) (hl : trimN ys ys.length ≤ trimN xs xs.length) (h : val ys ≤ val xs) : val (subL xs ys) = val xs - val ys := by
  obtain ⟨h1, h2⟩ := subOf_val xs ys (trimN xs xs.length) (trimN xs xs.length) (Nat.le_refl _)
  have hw := subL_wf xs ys
  unfold subL at hw ⊢
  rw [val_take_ge xs _ (Nat.le_refl _), val_take_ge ys _ hl, List.take_of_length_le (by omega)] at h2
  have hb := val_lt hx.trim
  rw [val_trim, trim_length] at hb
  have hz := val_lt hw
  rw [h1] at hz
  have hy0 := val_nonneg hy
  exact one_of_mul h2 (val_nonneg hw) hz (by omega) (by omega)
theorem full_ge {us : List Int} (hu : Wf us) (f : trimN us us.length = us.length) (j : Nat) (hj : us.length = j + 1) : 4294967296 ^ j ≤ val us := by
  have h1 := trimN_last us us.length (by omega)
  rw [f, hj, Nat.add_sub_cancel] at h1
  have h2 := hu.getD j
  have h3 := val_take_succ us j
  rw [← hj, List.take_length] at h3
  have h4 := val_nonneg (hu.take j)
  have h5 : (4294967296 : Int) ^ j * 1 ≤ 4294967296 ^ j * us.getD j 0 := Int.mul_le_mul_of_nonneg_left (by omega) (Int.le_of_lt (pow_pos' j))
  omega
theorem len_lt {us vs : List Int} (hu : Wf us) (hv : Wf vs) (fv : trimN vs vs.length = vs.length) (h : us.length < vs.length) : val us < val vs := by
  obtain ⟨j, hj⟩ : ∃ j, vs.length = j + 1 := ⟨vs.length - 1, by omega⟩
  have h1 := full_ge hv fv j hj
  have h2 := val_lt hu
  have h3 : (4294967296 : Int) ^ us.length ≤ 4294967296 ^ j := by
    rw [show j = us.length + (j - us.length) from by omega, Int.pow_add]
    have h4 : (4294967296 : Int) ^ us.length * 1 ≤ 4294967296 ^ us.length * 4294967296 ^ (j - us.length) := Int.mul_le_mul_of_nonneg_left (by have := pow_pos' (j - us.length); omega) (Int.le_of_lt (pow_pos' _))
    omega
  omega
theorem take_above (us vs : List Int) (i : Nat) (n : Nat) (h : ∀ j, i < j → j < n → us.getD j 0 = vs.getD j 0) (k : Nat) (hk : i + 1 ≤ k) (hn : k ≤ n) :
    val (us.take k) - val (vs.take k) = val (us.take (i + 1)) - val (vs.take (i + 1)) := by
  induction k with
  | zero => omega
  | succ k ih =>
    by_cases e : k = i
    · subst e; rfl
    · rw [val_take_succ us k, val_take_succ vs k, h k (by omega) (by omega)]
      have := ih (by omega) (by omega)
      omega
theorem top_lt {us vs : List Int} (hu : Wf us) (hv : Wf vs) (i : Nat) (h : us.getD i 0 < vs.getD i 0) : val (us.take (i + 1)) < val (vs.take (i + 1)) := by
  rw [val_take_succ, val_take_succ]
  have h1 := val_lt (hu.take i)
  have h2 := val_nonneg (hv.take i)
  have h3 : (4294967296 : Int) ^ (us.take i).length ≤ 4294967296 ^ i := by
    rw [List.length_take]
    rw [show i = min i us.length + (i - min i us.length) from by omega, Int.pow_add]
    rw [show min (min i us.length + (i - min i us.length)) us.length = min i us.length from by omega]
    have h4 : (4294967296 : Int) ^ min i us.length * 1 ≤ 4294967296 ^ min i us.length * 4294967296 ^ (i - min i us.length) := Int.mul_le_mul_of_nonneg_left (by have := pow_pos' (i - min i us.length); omega) (Int.le_of_lt (pow_pos' _))
    omega
  have h5 : (4294967296 : Int) ^ i * (us.getD i 0 + 1) ≤ 4294967296 ^ i * vs.getD i 0 := Int.mul_le_mul_of_nonneg_left (by omega) (Int.le_of_lt (pow_pos' i))
  rw [Int.mul_add, Int.mul_one] at h5
  omega
theorem sign_lt {a b : Int} (h : a < b) : sign a b = -1 := if_pos h
theorem sign_gt {a b : Int} (h : b < a) : sign a b = 1 := by unfold sign; rw [if_neg (by omega), if_pos h]
theorem sign_self (a : Int) : sign a a = 0 := by unfold sign; rw [if_neg (by omega), if_neg (by omega)]
theorem cmp_val {us vs : List Int} {r : Int} (hu : Wf us) (hv : Wf vs) (fu : trimN us us.length = us.length) (fv : trimN vs vs.length = vs.length) (h : CmpT us vs r) :
    r = sign (val us) (val vs) ∧ (0 ≤ r → vs.length ≤ us.length) := by
  rcases h with ⟨hne, rfl⟩ | ⟨hl, he, rfl⟩ | ⟨hl, i, hi, hne, ha, rfl⟩
  · rcases Nat.lt_or_gt_of_ne hne with h1 | h1
    · rw [sign_lt (show ((us.length : Int) < vs.length) by omega), sign_lt (len_lt hu hv fv h1)]
      exact ⟨rfl, fun h => by omega⟩
    · rw [sign_gt (show ((vs.length : Int) < us.length) by omega), sign_gt (len_lt hv hu fu h1)]
      exact ⟨rfl, fun _ => by omega⟩
  · have e : us = vs := by
      apply List.ext_getElem hl
      intro j h1 h2
      have := he j h1
      simpa [h1, h2] using this
    rw [e, sign_self]
    exact ⟨rfl, fun _ => Nat.le_refl _⟩
  · have h1 := take_above us vs i us.length ha us.length (by omega) (Nat.le_refl _)
    rw [List.take_length] at h1
    rw [hl, List.take_length] at h1
    refine ⟨?_, fun _ => by omega⟩
    have hne' : us.getD i 0 ≠ vs.getD i 0 := hne
    rcases Int.lt_or_gt_of_ne hne' with h2 | h2
    · have h3 := top_lt hu hv i h2
      rw [sign_lt (show val us < val vs by omega)]
      exact sign_lt h2
    · have h3 := top_lt hv hu i h2
      rw [sign_gt (show val vs < val us by omega)]
      exact sign_gt h2
end
section
open Go.RowKit
theorem Blk.lit (w : World) (zs : List Int) : Blk (w.alloc (.cells (zs.map (Value.int .u32)).toArray 64)) w.heap.size zs := heap_alloc_new w _
theorem Blk.lim {w : World} {g : Nat} {zs : List Int} (h : Blk w g zs) : Lim w (some ⟨g, 0, none⟩) zs := .inr ⟨g, 0, rfl, fun i hi => by rw [Nat.zero_add]; exact h.cell i hi⟩
/-- a result: the number n, told in its one way -/
structure Res (base : Nat) (w : World) (u : Value) (zs : List Int) (n : Int) : Prop where
  num : Num base w u zs
  wf : Wf zs
  full : trimN zs zs.length = zs.length
  eq : val zs = n
theorem Res.later {base : Nat} {w w' : World} {u : Value} {zs : List Int} {n : Int} (h : Res base w u zs n) (hb : Below w.heap.size w w') : Res base w' u zs n := ⟨h.num.later hb, h.wf, h.full, h.eq⟩
theorem Res.unique {base base' : Nat} {w w' : World} {u u' : Value} {zs zs' : List Int} {n : Int} (h : Res base w u zs n) (h' : Res base' w' u' zs' n) : zs = zs' :=
  canon h.wf h'.wf h.full h'.full (h.eq.trans h'.eq.symm)
/-- an argument: the limbs xs -/
structure Arg (w : World) (u : Value) (xs : List Int) (ad : Option Addr) (cap : Nat) : Prop where
  is : u = .slice ad xs.length cap
  lim : Lim w ad xs
  le : xs.length ≤ cap
  wf : Wf xs
theorem Arg.later {w w' : World} {u : Value} {xs : List Int} {ad : Option Addr} {cap : Nat} (h : Arg w u xs ad cap) (hb : Below w.heap.size w w') : Arg w' u xs ad cap := ⟨h.is, h.lim.later hb, h.le, h.wf⟩
theorem Res.arg {base : Nat} {w : World} {u : Value} {zs : List Int} {n : Int} (h : Res base w u zs n) : ∃ ad cap, Arg w u zs ad cap := by
  obtain ⟨ad, cap, h1, h2, h3, _, _⟩ := h.num.read
  exact ⟨ad, cap, h1, h2, h3, h.wf⟩
theorem wf1 {x : Int} (h : 0 ≤ x ∧ x < 4294967296) : Wf [x] := Wf.cons h Wf.nil
theorem wf2 {x y : Int} (h : 0 ≤ x ∧ x < 4294967296) (k : 0 ≤ y ∧ y < 4294967296) : Wf [x, y] := Wf.cons h (wf1 k)
theorem trim_len_le (xs : List Int) : (trim xs).length ≤ xs.length := by rw [trim_length]; exact trim_le xs
theorem add_res {u v : Value} {xs ys : List Int} {a b : Option Addr} {capa capb : Nat} {w : World} (h1 : Arg w u xs a capa) (h2 : Arg w v ys b capb) (hx : xs.length ≤ 35184372088832) (hy : ys.length ≤ 35184372088832) :
    Calls Tryz.prog 131 #[u, v] w fun e w' => ∃ r zs, e = .returned r ∧ Res w.heap.size w' r zs (val xs + val ys) ∧ zs.length ≤ max xs.length ys.length + 1 ∧ Below w.heap.size w w' := by
  rw [h1.is, h2.is]
  refine (add_any a b xs ys capa capb w h1.lim h2.lim hx hy h1.le h2.le h1.wf h2.wf).mono fun e w' ⟨r, he, hn, hb⟩ => ⟨r, _, he, ⟨hn, (addL_wf h1.wf h2.wf).trim, trim_full _, by rw [val_trim, val_addL]⟩, ?_, hb⟩
  have := trim_len_le (addL xs ys)
  have h3 := addL_length xs ys
  have h4 := trim_le xs
  have h5 := trim_le ys
  unfold addN at h3
  omega
theorem mul_res {u v : Value} {xs ys : List Int} {a b : Option Addr} {capa capb : Nat} {w : World} (h1 : Arg w u xs a capa) (h2 : Arg w v ys b capb) (hx : xs.length ≤ 35184372088832) (hy : ys.length ≤ 35184372088832) :
    Calls Tryz.prog 137 #[u, v] w fun e w' => ∃ r zs, e = .returned r ∧ Res w.heap.size w' r zs (val xs * val ys) ∧ zs.length ≤ xs.length + ys.length ∧ Below w.heap.size w w' := by
  rw [h1.is, h2.is]
  refine (mul_any a b xs ys capa capb w h1.lim h2.lim hx hy h1.le h2.le h1.wf h2.wf).mono fun e w' ⟨r, he, hn, hb⟩ => ⟨r, _, he, ⟨hn, (mulL_wf h1.wf.trim h2.wf.trim).trim, trim_full _, by rw [val_trim, val_mulL, val_trim, val_trim]⟩, ?_, hb⟩
  have := trim_len_le (mulL (trim xs) (trim ys))
  have h3 := (mulOf_ok (trim xs) (trim ys) h1.wf.trim h2.wf.trim (List.range (trim xs).length)).1
  have h4 := trim_len_le xs
  have h5 := trim_len_le ys
  unfold mulL at this ⊢
  omega
theorem trim_res {u : Value} {xs : List Int} {a : Option Addr} {capa : Nat} {w : World} (h1 : Arg w u xs a capa) (hx : xs.length ≤ 35184372088832) :
    Calls Tryz.prog 145 #[u] w fun e w' => ∃ r zs, e = .returned r ∧ Res w.heap.size w' r zs (val xs) ∧ zs.length ≤ xs.length ∧ Below w.heap.size w w' := by
  rw [h1.is]
  exact (trim_any a xs capa w h1.lim hx h1.le).mono fun e w' ⟨r, he, hn, hb⟩ => ⟨r, _, he, ⟨hn, h1.wf.trim, trim_full _, val_trim xs⟩, trim_len_le xs, hb⟩
theorem sub_res {u v : Value} {xs ys : List Int} {a b : Option Addr} {capa capb : Nat} {w : World} (h1 : Arg w u xs a capa) (h2 : Arg w v ys b capb) (hx : xs.length ≤ 35184372088832) (hy : ys.length ≤ 35184372088832) (h : val ys ≤ val xs) :
    Calls Tryz.prog 133 #[u, v] w fun e w' => ∃ r zs, e = .returned (.tuple #[r, .int .i64 0]) ∧ Res w.heap.size w' r zs (val xs - val ys) ∧ zs.length ≤ xs.length ∧ Below w.heap.size w w' := by
  rw [h1.is, h2.is]
  refine (sub_any a b xs ys capa capb w h1.lim h2.lim hx hy h1.le h2.le h1.wf h2.wf).mono fun e w' ⟨r, hr, hb, _, hpos⟩ => ?_
  obtain ⟨he, hl⟩ := cmp_val h1.wf.trim h2.wf.trim (trim_full xs) (trim_full ys) hr
  rw [val_trim, val_trim] at he
  have h0 : 0 ≤ r := by rw [he]; unfold sign; rw [if_neg (by omega)]; split <;> omega
  obtain ⟨z, hz, hn⟩ := hpos h0
  have hl2 := hl h0
  rw [trim_length, trim_length] at hl2
  refine ⟨z, _, hz, ⟨hn, (subL_wf xs ys).trim, trim_full _, by rw [val_trim, val_subL h1.wf h2.wf hl2 h]⟩, ?_, hb⟩
  have h3 := trim_len_le (subL xs ys)
  have h4 := (subOf_ok xs ys (trimN xs xs.length) h1.wf h2.wf (List.range (trimN xs xs.length))).1
  have h5 := trim_le xs
  unfold subL at h3 ⊢
  omega
end
section
open Go.RowKit Go.ChangeShapes Go.WideShapes Go.ChangeAt
theorem own : ownKnob Tryz.prog.godebug = none := by kernel_rfl
theorem cellsLimb : Tryz.prog.cellsOf 64 = 1 := by kernel_rfl
theorem bulk_pos {H : Type} (d : DataW H) : 1 ≤ Rows.uptoBulk d := by
  cases d with
  | lit l => cases l <;> simp [Rows.uptoBulk]
  | _ => simp [Rows.uptoBulk]
theorem bulk_len {H : Type} (l : List (DataW H)) : l.length ≤ Rows.uptoBulkAll l := by
  induction l with
  | nil => simp [Rows.uptoBulkAll]
  | cons x r ih => have := bulk_pos x; simp only [Rows.uptoBulkAll, List.length_cons]; omega
theorem bulk_slice {H : Type} (elems spare : List (DataW H)) : elems.length ≤ Rows.uptoBulk (.slice elems spare) := by
  have h1 := bulk_len elems
  simp only [Rows.uptoBulk]
  omega
theorem wf_limb {x : Int} (h : (Lit.int .u32 x).wf = true) : 0 ≤ x ∧ x < 4294967296 := by
  simp [Lit.wf, IntKind.min, IntKind.max, IntKind.signed, IntKind.bits] at h
  omega
end
section
open Go.RowKit
/-- the limbs xs lie from the address ad on -/
def LimI (w : World) (ad : Option Addr) (xs : List Int) : Prop :=
  xs = [] ∨ ∃ b off, ad = some ⟨b, off, none⟩ ∧ ∀ i, i < xs.length → w.cell? ⟨b, off + i, none⟩ = some (.int .i64 (xs.getD i 0))
theorem LimI.nil (w : World) (ad : Option Addr) : LimI w ad [] := .inl rfl
theorem LimI.below {w w' : World} {ad : Option Addr} {xs : List Int} {B : Nat} (h : LimI w ad xs) (hb : Below B w w') (hB : ∀ a, ad = some a → a.block < B) : LimI w' ad xs := by
  rcases h with rfl | ⟨b, off, rfl, hc⟩
  · exact .inl rfl
  · exact .inr ⟨b, off, rfl, fun i hi => (hb.cell (p := ⟨b, off + i, none⟩) (hB ⟨b, off, none⟩ rfl)).trans (hc i hi)⟩
theorem LimI.later {w w' : World} {ad : Option Addr} {xs : List Int} (h : LimI w ad xs) (hb : Below w.heap.size w w') : LimI w' ad xs := by
  rcases h with rfl | ⟨b, off, rfl, hc⟩
  · exact .inl rfl
  · refine .inr ⟨b, off, rfl, fun i hi => ?_⟩
    have hlt := World.block_lt_of_cell? w _ (hc i hi)
    exact (hb.cell (p := ⟨b, off + i, none⟩) hlt).trans (hc i hi)
theorem LimI.take {w : World} {ad : Option Addr} {xs : List Int} (h : LimI w ad xs) (n : Nat) : LimI w ad (xs.take n) := by
  rcases h with rfl | ⟨b, off, rfl, hc⟩
  · exact .inl (by simp)
  · refine .inr ⟨b, off, rfl, fun i hi => ?_⟩
    rw [List.length_take] at hi
    rw [hc i (by omega)]
    simp [show i < n by omega]
theorem LimI.lt {w : World} {ad : Option Addr} {xs : List Int} (h : LimI w ad xs) (hn : xs ≠ []) : ∀ a, ad = some a → a.block < w.heap.size := by
  rcases h with rfl | ⟨b, off, rfl, hc⟩
  · exact absurd rfl hn
  · intro a ha
    cases ha
    exact World.block_lt_of_cell? w _ (hc 0 (List.length_pos_iff.2 hn))
/-- v is a slice of the call's own limbs xs -/
def NumI (base : Nat) (w : World) (v : Value) (xs : List Int) : Prop := w.ownsRow base 3 1 v xs.length (xs.map (Value.int .i64))
theorem NumI.read {base : Nat} {w : World} {v : Value} {xs : List Int} (h : NumI base w v xs) : ∃ ad cap, v = .slice ad xs.length cap ∧ LimI w ad xs ∧ xs.length ≤ cap ∧ cap ≤ maxLen ∧ (∀ a, ad = some a → base ≤ a.block ∧ a.block < w.heap.size) := by
  obtain ⟨h1, h2⟩ := h
  rcases h2 with ⟨rfl, hn⟩ | ⟨g, cap, cur, rfl, hb, hg, hc, hm, hs, ht⟩
  · obtain rfl := List.eq_nil_of_length_eq_zero hn
    exact ⟨none, 0, rfl, .inl rfl, Nat.le_refl _, by unfold maxLen; omega, fun a ha => by cases ha⟩
  · refine ⟨_, cap, rfl, .inr ⟨g, 0, rfl, fun i hi => ?_⟩, hc, hm, fun a ha => by cases ha; exact ⟨hb, lt_of_block hg⟩⟩
    have hj := World.ownsRow.cellAt (w := w) (base := base) (e := 3) (size := 1) (g := g) (n := xs.length) (cap := cap) (xs := xs.map (Value.int .i64)) ⟨h1, .inr ⟨g, cap, cur, rfl, hb, hg, hc, hm, hs, ht⟩⟩ i (by omega)
    rw [Nat.zero_add, hj]
    simp [hi]
theorem NumI.cut {base : Nat} {w : World} {ad : Option Addr} {xs : List Int} {n cap : Nat} (h : NumI base w (.slice ad n cap) xs) : NumI base w (.slice ad (trimN xs xs.length) cap) (trim xs) := by
  have hl := trim_le xs
  unfold NumI at *
  rw [trim_length]
  obtain ⟨h1, h2⟩ := h
  rcases h2 with ⟨hv, hn⟩ | ⟨g, cap', cur, hv, hb, hg, hc, hm, hs, ht⟩
  · obtain rfl := List.eq_nil_of_length_eq_zero hn
    cases hv
    exact ⟨rfl, .inl ⟨rfl, rfl⟩⟩
  · cases hv
    refine ⟨by rw [List.length_map, trim_length, Nat.mul_one], .inr ⟨g, cap, cur, rfl, hb, hg, by omega, hm, hs, ?_⟩⟩
    unfold trim
    rw [List.map_take, ← ht, List.take_take]
    congr 1
    omega
theorem NumI.lt {base : Nat} {w : World} {v : Value} {xs : List Int} (h : NumI base w v xs) : ∀ k, v.ownBlock = some k → base ≤ k ∧ k < w.heap.size := World.ownsRow.lt h
theorem NumI.kept {base B : Nat} {w w' : World} {v : Value} {xs : List Int} (h : NumI base w v xs) (hb : Below B w w') (hB : ∀ k, v.ownBlock = some k → k < B) : NumI base w' v xs := by
  obtain ⟨h1, h2⟩ := h
  refine ⟨h1, ?_⟩
  rcases h2 with h2 | ⟨g, cap, cur, rfl, hg0, hg, hc, hm, hs, ht⟩
  · exact .inl h2
  · exact .inr ⟨g, cap, cur, rfl, hg0, (hb.block g (hB g rfl)).trans hg, hc, hm, hs, ht⟩
theorem NumI.later {base : Nat} {w w' : World} {v : Value} {xs : List Int} (h : NumI base w v xs) (hb : Below w.heap.size w w') : NumI base w' v xs := h.kept hb fun k hk => (h.lt k hk).2
theorem NumI.mono {base base' : Nat} {w : World} {v : Value} {xs : List Int} (h : NumI base w v xs) (hb : base' ≤ base) : NumI base' w v xs := by
  obtain ⟨h1, h2⟩ := h
  refine ⟨h1, ?_⟩
  rcases h2 with h2 | ⟨g, cap, cur, rfl, hg0, hg, hc, hm, hs, ht⟩
  · exact .inl h2
  · exact .inr ⟨g, cap, cur, rfl, Nat.le_trans hb hg0, hg, hc, hm, hs, ht⟩
/-- all are digits -/
def WfD (xs : List Int) : Prop := ∀ x ∈ xs, 0 ≤ x ∧ x < 10000
end
section
open Go.RowKit
theorem WfD.nil : WfD [] := by intro x h; cases h
theorem WfD.cons {x : Int} {xs : List Int} (h : 0 ≤ x ∧ x < 10000) (hs : WfD xs) : WfD (x :: xs) := by
  intro y hy
  rcases List.mem_cons.1 hy with rfl | hy
  · exact h
  · exact hs y hy
theorem WfD.tail {x : Int} {xs : List Int} (h : WfD (x :: xs)) : WfD xs := fun y hy => h y (List.mem_cons_of_mem _ hy)
theorem WfD.head {x : Int} {xs : List Int} (h : WfD (x :: xs)) : 0 ≤ x ∧ x < 10000 := h x List.mem_cons_self
theorem WfD.append {xs ys : List Int} (h : WfD xs) (k : WfD ys) : WfD (xs ++ ys) := by
  intro x hx
  rcases List.mem_append.1 hx with hx | hx
  · exact h x hx
  · exact k x hx
theorem WfD.take {xs : List Int} (h : WfD xs) (n : Nat) : WfD (xs.take n) := fun x hx => h x (List.mem_of_mem_take hx)
theorem WfD.drop {xs : List Int} (h : WfD xs) (n : Nat) : WfD (xs.drop n) := fun x hx => h x (List.mem_of_mem_drop hx)
theorem WfD.getD {xs : List Int} (h : WfD xs) (i : Nat) : 0 ≤ xs.getD i 0 ∧ xs.getD i 0 < 10000 := by
  by_cases hi : i < xs.length
  · have : xs.getD i 0 = xs[i] := by simp [List.getD, hi]
    rw [this]
    exact h _ (List.getElem_mem hi)
  · have : xs.getD i 0 = 0 := by simp [List.getD, List.getElem?_eq_none (Nat.le_of_not_lt hi)]
    rw [this]; omega
theorem WfD.trim {xs : List Int} (h : WfD xs) : WfD (trim xs) := h.take _
/-- the number that limbs stand for -/
def valD : List Int → Int
  | [] => 0
  | x :: xs => x + 10000 * valD xs
theorem val_nonnegD {xs : List Int} (h : WfD xs) : 0 ≤ valD xs := by
  induction xs with
  | nil => simp [valD]
  | cons x xs ih => have := ih h.tail; have := h.head; simp only [valD]; omega
theorem val_appendD (xs ys : List Int) : valD (xs ++ ys) = valD xs + 10000 ^ xs.length * valD ys := by
  induction xs with
  | nil => simp [valD]
  | cons x xs ih => simp only [List.cons_append, valD, ih, List.length_cons, Int.pow_succ]; grind
theorem pow_posD (k : Nat) : (0 : Int) < 10000 ^ k := Int.pow_pos (by omega)
theorem val_take_succD (xs : List Int) (k : Nat) : valD (xs.take (k + 1)) = valD (xs.take k) + 10000 ^ k * xs.getD k 0 := by
  by_cases h : k < xs.length
  · rw [List.take_succ_eq_append_getElem h, val_appendD, List.length_take, Nat.min_eq_left (by omega)]
    simp [valD, h]
  · rw [List.take_of_length_le (by omega), List.take_of_length_le (by omega)]
    simp [List.getElem?_eq_none (Nat.le_of_not_lt h)]
theorem val_ltD {xs : List Int} (h : WfD xs) : valD xs < 10000 ^ xs.length := by
  induction xs with
  | nil => simp [valD]
  | cons x xs ih =>
    have h1 := ih h.tail
    have h2 := h.head
    simp only [valD, List.length_cons, Int.pow_succ]
    omega
theorem val_trimND (xs : List Int) (n : Nat) : valD (xs.take (trimN xs n)) = valD (xs.take n) := by
  induction n with
  | zero => rfl
  | succ n ih =>
    unfold trimN
    split
    · rename_i hz
      rw [val_take_succD, hz, ih]
      simp
    · rfl
theorem val_trimD (xs : List Int) : valD (trim xs) = valD xs := by
  unfold trim
  rw [val_trimND, List.take_length]
/-- numbers are told in one way -/
theorem getD_eq_of_valD {us vs : List Int} (hu : WfD us) (hv : WfD vs) (h : valD us = valD vs) : ∀ k, us.getD k 0 = vs.getD k 0 := by
  induction us generalizing vs with
  | nil =>
    induction vs with
    | nil => intro k; rfl
    | cons y ys ih =>
      have h1 := hv.head
      have h2 := val_nonnegD hv.tail
      simp only [valD] at h
      have hy : y = 0 := by omega
      have hys : valD [] = valD ys := by simp only [valD]; omega
      intro k
      cases k with
      | zero => simp [hy]
      | succ k => have := ih hv.tail hys k; simpa using this
  | cons x xs ih =>
    cases vs with
    | nil =>
      have h1 := hu.head
      have h2 := val_nonnegD hu.tail
      simp only [valD] at h
      have hx : x = 0 := by omega
      intro k
      cases k with
      | zero => simp [hx]
      | succ k => have := ih hu.tail WfD.nil (by simp only [valD]; omega) k; simpa using this
    | cons y ys =>
      have h1 := hu.head
      have h2 := hv.head
      simp only [valD] at h
      intro k
      cases k with
      | zero => simp; omega
      | succ k => have := ih hu.tail hv.tail (by omega) k; simpa using this
theorem canonD {us vs : List Int} (hu : WfD us) (hv : WfD vs) (fu : trimN us us.length = us.length) (fv : trimN vs vs.length = vs.length) (h : valD us = valD vs) : us = vs := by
  have hd := getD_eq_of_valD hu hv h
  have lu := trimN_last us us.length
  have lv := trimN_last vs vs.length
  rw [fu] at lu
  rw [fv] at lv
  have hl : us.length = vs.length := by
    rcases Nat.lt_trichotomy us.length vs.length with h1 | h1 | h1
    · exfalso
      refine lv (by omega) ?_
      rw [← hd]
      simp [List.getElem?_eq_none (show us.length ≤ vs.length - 1 by omega)]
    · exact h1
    · exfalso
      refine lu (by omega) ?_
      rw [hd]
      simp [List.getElem?_eq_none (show vs.length ≤ us.length - 1 by omega)]
  apply List.ext_getElem hl
  intro i h1 h2
  have := hd i
  simpa [h1, h2] using this
theorem full_geD {us : List Int} (hu : WfD us) (f : trimN us us.length = us.length) (j : Nat) (hj : us.length = j + 1) : 10000 ^ j ≤ valD us := by
  have h1 := trimN_last us us.length (by omega)
  rw [f, hj, Nat.add_sub_cancel] at h1
  have h2 := hu.getD j
  have h3 := val_take_succD us j
  rw [← hj, List.take_length] at h3
  have h4 := val_nonnegD (hu.take j)
  have h5 : (10000 : Int) ^ j * 1 ≤ 10000 ^ j * us.getD j 0 := Int.mul_le_mul_of_nonneg_left (by omega) (Int.le_of_lt (pow_posD j))
  omega
theorem len_ltD {us vs : List Int} (hu : WfD us) (hv : WfD vs) (fv : trimN vs vs.length = vs.length) (h : us.length < vs.length) : valD us < valD vs := by
  obtain ⟨j, hj⟩ : ∃ j, vs.length = j + 1 := ⟨vs.length - 1, by omega⟩
  have h1 := full_geD hv fv j hj
  have h2 := val_ltD hu
  have h3 : (10000 : Int) ^ us.length ≤ 10000 ^ j := by
    rw [show j = us.length + (j - us.length) from by omega, Int.pow_add]
    have h4 : (10000 : Int) ^ us.length * 1 ≤ 10000 ^ us.length * 10000 ^ (j - us.length) := Int.mul_le_mul_of_nonneg_left (by have := pow_posD (j - us.length); omega) (Int.le_of_lt (pow_posD _))
    omega
  omega
theorem take_aboveD (us vs : List Int) (i : Nat) (n : Nat) (h : ∀ j, i < j → j < n → us.getD j 0 = vs.getD j 0) (k : Nat) (hk : i + 1 ≤ k) (hn : k ≤ n) :
    valD (us.take k) - valD (vs.take k) = valD (us.take (i + 1)) - valD (vs.take (i + 1)) := by
  induction k with
  | zero => omega
  | succ k ih =>
    by_cases e : k = i
    · subst e; rfl
    · rw [val_take_succD us k, val_take_succD vs k, h k (by omega) (by omega)]
      have := ih (by omega) (by omega)
      omega
theorem top_ltD {us vs : List Int} (hu : WfD us) (hv : WfD vs) (i : Nat) (h : us.getD i 0 < vs.getD i 0) : valD (us.take (i + 1)) < valD (vs.take (i + 1)) := by
  rw [val_take_succD, val_take_succD]
  have h1 := val_ltD (hu.take i)
  have h2 := val_nonnegD (hv.take i)
  have h3 : (10000 : Int) ^ (us.take i).length ≤ 10000 ^ i := by
    rw [List.length_take]
    rw [show i = min i us.length + (i - min i us.length) from by omega, Int.pow_add]
    rw [show min (min i us.length + (i - min i us.length)) us.length = min i us.length from by omega]
    have h4 : (10000 : Int) ^ min i us.length * 1 ≤ 10000 ^ min i us.length * 10000 ^ (i - min i us.length) := Int.mul_le_mul_of_nonneg_left (by have := pow_posD (i - min i us.length); omega) (Int.le_of_lt (pow_posD _))
    omega
  have h5 : (10000 : Int) ^ i * (us.getD i 0 + 1) ≤ 10000 ^ i * vs.getD i 0 := Int.mul_le_mul_of_nonneg_left (by omega) (Int.le_of_lt (pow_posD i))
  rw [Int.mul_add, Int.mul_one] at h5
  omega
theorem cmp_valD {us vs : List Int} {r : Int} (hu : WfD us) (hv : WfD vs) (fu : trimN us us.length = us.length) (fv : trimN vs vs.length = vs.length) (h : CmpT us vs r) :
    r = sign (valD us) (valD vs) ∧ (0 ≤ r → vs.length ≤ us.length) := by
  rcases h with ⟨hne, rfl⟩ | ⟨hl, he, rfl⟩ | ⟨hl, i, hi, hne, ha, rfl⟩
  · rcases Nat.lt_or_gt_of_ne hne with h1 | h1
    · rw [sign_lt (show ((us.length : Int) < vs.length) by omega), sign_lt (len_ltD hu hv fv h1)]
      exact ⟨rfl, fun h => by omega⟩
    · rw [sign_gt (show ((vs.length : Int) < us.length) by omega), sign_gt (len_ltD hv hu fu h1)]
      exact ⟨rfl, fun _ => by omega⟩
  · have e : us = vs := by
      apply List.ext_getElem hl
      intro j h1 h2
      have := he j h1
      simpa [h1, h2] using this
    rw [e, sign_self]
    exact ⟨rfl, fun _ => Nat.le_refl _⟩
  · have h1 := take_aboveD us vs i us.length ha us.length (by omega) (Nat.le_refl _)
    rw [List.take_length] at h1
    rw [hl, List.take_length] at h1
    refine ⟨?_, fun _ => by omega⟩
    have hne' : us.getD i 0 ≠ vs.getD i 0 := hne
    rcases Int.lt_or_gt_of_ne hne' with h2 | h2
    · have h3 := top_ltD hu hv i h2
      rw [sign_lt (show valD us < valD vs by omega)]
      exact sign_lt h2
    · have h3 := top_ltD hv hu i h2
      rw [sign_gt (show valD vs < valD us by omega)]
      exact sign_gt h2
end
section
open Go.RowKit
theorem infoInt : (Tryz.prog.info? 3).map (fun i => (i.zero, i.size, i.bytes)) = some (some (.int .i64 0), 1, 8) := by kernel_rfl
set_option maxHeartbeats 400000 in
theorem digit_any (ad : Option Addr) (xs : List Int) (cap k : Nat) (x : Int) (w : World) (hl : LimI w ad xs) (hm : xs.length ≤ 1099511627776) (hx : xs.getD k 0 = x) :
    Calls Tryz.prog 134 #[.slice ad xs.length cap, .int .i64 k] w fun e w' => e = .returned (.int .i64 x) ∧ w = w' := by
  subst hx
  by_cases hk : k < xs.length
  · rcases hl with rfl | ⟨b, off, rfl, hc⟩
    · simp at hk
    · have hck := hc k hk
      clear hc
      go_enter Tryz.func134, Tryz.ntmps134
      go_wp2
      go_ret
      refine ⟨?_, rfl⟩
      simp [hk]
  · go_enter Tryz.func134, Tryz.ntmps134
    go_wp2
    go_ret
    refine ⟨?_, rfl⟩
    simp [List.getElem?_eq_none (Nat.le_of_not_lt hk)]
set_option maxHeartbeats 400000 in
theorem trimD_any (ad : Option Addr) (xs : List Int) (cap : Nat) (w : World) (hl : LimI w ad xs) (hm : xs.length ≤ 1099511627776) (hcap : xs.length ≤ cap) :
    Calls Tryz.prog 135 #[.slice ad xs.length cap] w fun e w' => e = .returned (.slice ad (trimN xs xs.length) cap) ∧ w = w' := by
  go_enter Tryz.func135, Tryz.ntmps135
  go_wp2
  go_loop [3] (fun n => ∃ j : Nat, j ≤ xs.length ∧ n = .int .i64 j ∧ trimN xs j = trimN xs xs.length) (fun n => (intOf n).toNat)
  case atStart => exact ⟨xs.length, Nat.le_refl _, rfl, rfl⟩
  case round =>
    obtain ⟨j, hj, rfl, ht⟩ := hrel
    have HT := Lib.hid ht
    clear ht
    rcases j with _ | m
    · have h0 : trimN xs xs.length = 0 := HT.out.symm
      go_wp2
      go_ret
      exact ⟨rfl, rfl⟩
    · rcases hl with rfl | ⟨b, off, rfl, hc⟩
      · simp at hj
      · have hck := hc m (by omega)
        clear hc
        go_wp2
        · have hz : xs.getD m 0 = 0 := by
            have h : (xs[m]?.getD 0 == 0) = true := by assumption
            simpa using h
          go_round
          case rel => exact ⟨m, by omega, by go_num, by rw [← HT.out]; simp only [trimN]; rw [if_pos hz]⟩
          case measure => simp [intOf]
        · have hz : xs.getD m 0 ≠ 0 := by
            have h : (xs[m]?.getD 0 == 0) = false := by assumption
            simpa using h
          have ht : trimN xs xs.length = m + 1 := by rw [← HT.out]; simp only [trimN]; rw [if_neg hz]
          go_ret
          exact ⟨by rw [ht]; simp, rfl⟩
theorem trimD_num {base : Nat} {v : Value} {xs : List Int} {w : World} (h : NumI base w v xs) (hm : xs.length ≤ 1099511627776) :
    Calls Tryz.prog 135 #[v] w fun e w' => ∃ u, e = .returned u ∧ NumI base w u (trim xs) ∧ w = w' := by
  obtain ⟨ad, cap, rfl, hl, hc, _, _⟩ := h.read
  exact (trimD_any ad xs cap w hl hm hc).mono fun e w' ⟨he, hw⟩ => ⟨_, he, h.cut, hw⟩
theorem push_num {base : Nat} {w wr w1 : World} {v v' : Value} {ds : List Int} {d : Int} {o : Obj} (hb : Below base w wr) (hbase : base ≤ wr.heap.size) (hown : NumI base wr v ds)
    (hown' : w1.ownsRow base 3 1 v' (ds.length + 1) (ds.map (Value.int .i64) ++ [Value.int .i64 d])) (hgrow : (wr.alloc o).grownBy w1 v.ownBlock) : NumI base w1 v' (ds ++ [d]) ∧ Below base w w1 := by
  refine ⟨?_, (hb.alloc hbase o).grown hgrow (by simp; omega) (fun k hk => (hown.lt k hk).1)⟩
  unfold NumI
  rw [List.length_append, List.map_append]
  exact hown'
theorem full_snoc (l : List Int) {x : Int} (h : x ≠ 0) : trimN (l ++ [x]) (l ++ [x]).length = (l ++ [x]).length := by
  rw [List.length_append]
  show trimN (l ++ [x]) (l.length + 1) = l.length + 1
  unfold trimN
  rw [if_neg]
  simpa using h
theorem valD_snoc (l : List Int) (x : Int) : valD (l ++ [x]) = valD l + 10000 ^ l.length * x := by
  rw [val_appendD]
  simp [valD]
theorem WfD.snoc {l : List Int} (h : WfD l) {x : Int} (hx : 0 ≤ x ∧ x < 10000) : WfD (l ++ [x]) := h.append (WfD.cons hx WfD.nil)
/-- how far Small has come -/
def SmallI (len : Nat) (m : Int) : Prop := (len = 0 ∧ m < 1000000000000) ∨ (len = 1 ∧ m < 100000000) ∨ (len = 2 ∧ m < 10000) ∨ (len = 3 ∧ m = 0)
/-- a result of the reference: the number n, told in its one way -/
structure ResD (base : Nat) (w : World) (u : Value) (zs : List Int) (n : Int) : Prop where
  num : NumI base w u zs
  wf : WfD zs
  full : trimN zs zs.length = zs.length
  eq : valD zs = n
theorem ResD.later {base : Nat} {w w' : World} {u : Value} {zs : List Int} {n : Int} (h : ResD base w u zs n) (hb : Below w.heap.size w w') : ResD base w' u zs n := ⟨h.num.later hb, h.wf, h.full, h.eq⟩
theorem ResD.unique {base base' : Nat} {w w' : World} {u u' : Value} {zs zs' : List Int} {n : Int} (h : ResD base w u zs n) (h' : ResD base' w' u' zs' n) : zs = zs' :=
  canonD h.wf h'.wf h.full h'.full (h.eq.trans h'.eq.symm)
set_option maxHeartbeats 1000000 in
theorem small_any (N : Int) (w : World) (hN : 0 ≤ N) (hN2 : N < 1000000000000) :
    Calls Tryz.prog 118 #[.int .i64 N] w fun e w' => ∃ u, e = .returned u ∧ ∃ zs, ResD w.heap.size w' u zs N ∧ zs.length ≤ 3 ∧ Below w.heap.size w w' := by
  obtain ⟨i0, hi, hz0, hz1, hz2⟩ := info_parts infoInt
  go_enter Tryz.func118, Tryz.ntmps118
  go_wp2
  go_loopw [0, 3] (fun n s wr => ∃ (m : Int) (ds : List Int) (v : Value), n = .int .i64 m ∧ v = s ∧ 0 ≤ m ∧ SmallI ds.length m ∧ NumI w.heap.size wr v ds ∧ WfD ds ∧ valD ds + 10000 ^ ds.length * m = N ∧ (m = 0 → trimN ds ds.length = ds.length) ∧ Below w.heap.size w wr) (fun n _ _ => (intOf n).toNat)
  case atStart => exact ⟨N, [], _, rfl, rfl, hN, .inl ⟨rfl, hN2⟩, World.ownsRow_nil _ _ _ _, WfD.nil, by simp [valD], fun _ => rfl, Below.refl _ _⟩
  case round =>
    obtain ⟨m, ds, v, rfl, rfl, hm, hs, hown, hwf, hval, hfull, hb⟩ := hrel
    have hsz := hb.size
    have HV := Lib.hid hval
    have HF := Lib.hid hfull
    have HS := Lib.hid hs
    have HO := Lib.hid hown
    have hrow : wr.ownsRow w.heap.size 3 1 v ds.length (ds.map (Value.int .i64)) := hown
    have hlen : ds.length ≤ 3 := by rcases hs with h | h | h | h <;> omega
    have hm2 : m < 1000000000000 := by rcases hs with h | h | h | h <;> omega
    clear hval hfull hs hown
    by_cases hpos : 0 < m
    · go_wp2_with (at_builtin; refine wpList_append_own _ rfl _ _ 54 rfl w.heap.size 3 i0 (.int .i64 0) 1 8 Tryz.underlying54 hi hz0 hz1 hz2 rfl (by decide) _ _ _ rfl (hrow.alloc _) ⟨wr.heap.size, 0, none⟩ 1 1 [.int .i64 (m % 10000)] rfl rfl (cell_one_new _ _ _) (by simp [Value.oneCell']) (by unfold maxLen; omega) (by omega) (by simp; omega) ?_; intro v' w1 hown' hgrow _)
      go_roundw
      case rel =>
        obtain ⟨hn, hbw⟩ := push_num hb hsz HO.out hown' hgrow
        refine ⟨m / 10000, ds ++ [m % 10000], v', rfl, rfl, by omega, ?_, hn, hwf.snoc (by omega), ?_, fun h0 => full_snoc ds (by omega), hbw⟩
        · rw [List.length_append, List.length_singleton]
          rcases HS.out with h | h | h | h
          · exact .inr (.inl ⟨by omega, by omega⟩)
          · exact .inr (.inr (.inl ⟨by omega, by omega⟩))
          · exact .inr (.inr (.inr ⟨by omega, by omega⟩))
          · omega
        · rw [valD_snoc, List.length_append, List.length_singleton, Int.pow_succ]
          have h1 := HV.out
          have h2 : m % 10000 + 10000 * (m / 10000) = m := by omega
          generalize m % 10000 = r at *
          generalize m / 10000 = q at *
          generalize (10000 : Int) ^ ds.length = P at *
          grind
      case measure => simp [intOf]; omega
    · have h0 : m = 0 := by omega
      subst h0
      go_wp2
      go_ret
      exact ⟨_, rfl, ds, ⟨HO.out, hwf, (by have h := HF.out; simpa using h), by have := HV.out; simpa using this⟩, hlen, hb⟩
end
end Go.Proofs.YtjcacmnmbbnffaaGreat
