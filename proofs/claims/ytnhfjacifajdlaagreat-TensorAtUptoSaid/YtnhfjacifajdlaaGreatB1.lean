/-
  Contracts of package nat: Sub.
-/
import Derived.WalkKit
import Derived.Test.YtnhfjacifajdlaaGreatRows
import Derived.BigQuiet
import Derived.Deep.QuietTactic
import Derived.Lib.Hide
import Derived.Lib.Small
import Derived.Lib.Walk
import Derived.Lib.BitFns
import Derived.Maps.AppendAt
import Derived.RangeFuncNested
import Derived.RangeFuncBound
import Derived.RangeFuncCalls
import Derived.RangeFuncLeaves
import Derived.Shelf.Abstract
import Derived.OwnWalkIn
import Derived.TacticsInMore
import Derived.LoopNIn
import Derived.LoopIn
import Derived.RangeFuncBox
import Derived.Deep.RegionHeld3
import Derived.OrdersIn
import Derived.StillTailTactics
import Derived.RangeFuncFrom
import Derived.Laws.EntriesVeiled
namespace Go.Proofs.YtnhfjacifajdlaaGreat
set_option maxRecDepth 100000
section
open Go.RowKit
/-- the number that limbs stand for -/
def val : List Int → Int
  | [] => 0
  | x :: xs => x + 4294967296 * val xs
/-- all are limbs -/
def Wf (xs : List Int) : Prop := ∀ x ∈ xs, 0 ≤ x ∧ x < 4294967296
/-- without the zeros at the end -/
def trimN (xs : List Int) : Nat → Nat
  | 0 => 0
  | n + 1 => if xs.getD n 0 = 0 then trimN xs n else n + 1
def trim (xs : List Int) : List Int := xs.take (trimN xs xs.length)
theorem Wf.nil : Wf [] := by intro x h; cases h
theorem Wf.cons {x : Int} {xs : List Int} (h : 0 ≤ x ∧ x < 4294967296) (hs : Wf xs) : Wf (x :: xs) := by
  intro y hy
  rcases List.mem_cons.1 hy with rfl | hy
  · exact h
  · exact hs y hy
theorem Wf.tail {x : Int} {xs : List Int} (h : Wf (x :: xs)) : Wf xs := fun y hy => h y (List.mem_cons_of_mem _ hy)
theorem Wf.head {x : Int} {xs : List Int} (h : Wf (x :: xs)) : 0 ≤ x ∧ x < 4294967296 := h x List.mem_cons_self
theorem Wf.append {xs ys : List Int} (h : Wf xs) (k : Wf ys) : Wf (xs ++ ys) := by
  intro x hx
  rcases List.mem_append.1 hx with hx | hx
  · exact h x hx
  · exact k x hx
theorem Wf.take {xs : List Int} (h : Wf xs) (n : Nat) : Wf (xs.take n) := fun x hx => h x (List.mem_of_mem_take hx)
theorem Wf.drop {xs : List Int} (h : Wf xs) (n : Nat) : Wf (xs.drop n) := fun x hx => h x (List.mem_of_mem_drop hx)
theorem Wf.getD {xs : List Int} (h : Wf xs) (i : Nat) : 0 ≤ xs.getD i 0 ∧ xs.getD i 0 < 4294967296 := by
  by_cases hi : i < xs.length
  · have : xs.getD i 0 = xs[i] := by simp [List.getD, hi]
    rw [this]
    exact h _ (List.getElem_mem hi)
  · have : xs.getD i 0 = 0 := by simp [List.getD, List.getElem?_eq_none (Nat.le_of_not_lt hi)]
    rw [this]; omega
theorem trimN_le (xs : List Int) (n : Nat) : trimN xs n ≤ n := by
  induction n with
  | zero => exact Nat.le_refl _
  | succ n ih => unfold trimN; split <;> omega
theorem trim_le (xs : List Int) : trimN xs xs.length ≤ xs.length := trimN_le xs _
theorem trim_length (xs : List Int) : (trim xs).length = trimN xs xs.length := by
  unfold trim; rw [List.length_take]; have := trim_le xs; omega
theorem Wf.trim {xs : List Int} (h : Wf xs) : Wf (trim xs) := h.take _
theorem val_nonneg {xs : List Int} (h : Wf xs) : 0 ≤ val xs := by
  induction xs with
  | nil => simp [val]
  | cons x xs ih => have := ih h.tail; have := h.head; simp only [val]; omega
theorem val_append (xs ys : List Int) : val (xs ++ ys) = val xs + 4294967296 ^ xs.length * val ys := by
  induction xs with
  | nil => simp [val]
  | cons x xs ih => simp only [List.cons_append, val, ih, List.length_cons, Int.pow_succ]; grind
theorem val_zeros (n : Nat) : val (List.replicate n 0) = 0 := by
  induction n with
  | zero => rfl
  | succ n ih => simp [List.replicate_succ, val, ih]
theorem wrap_u64 {x : Int} (h0 : 0 ≤ x) (h1 : x < 18446744073709551616) : IntKind.u64.wrap x = x := by
  simp only [IntKind.wrap, IntKind.bits, IntKind.signed, Bool.false_and, Bool.false_eq_true, if_false]
  exact Int.emod_eq_of_lt h0 h1
theorem wrap_u32 (x : Int) : IntKind.u32.wrap x = x % 4294967296 := by
  simp only [IntKind.wrap, IntKind.bits, IntKind.signed, Bool.false_and, Bool.false_eq_true, if_false]
  rfl
theorem or_u64 {x y : Int} (hx : 0 ≤ x ∧ x < 4294967296) (hy : 0 ≤ y ∧ y < 4294967296) : bits .or .u64 (x * 4294967296) y = 4294967296 * x + y := by
  rw [u64_or _ _ (by omega) (by omega) (by omega) (by omega)]
  obtain ⟨a, rfl⟩ := Int.eq_ofNat_of_zero_le hx.1
  obtain ⟨b, rfl⟩ := Int.eq_ofNat_of_zero_le hy.1
  have h1 : ((a : Int) * 4294967296).toNat = 2 ^ 32 * a := by omega
  rw [h1, Int.toNat_natCast, ← Nat.two_pow_add_eq_or_of_lt (by omega)]
  omega
theorem not_u32 {y : Int} (hy : 0 ≤ y ∧ y < 4294967296) : bits .xor .u32 (if IntKind.u32.signed = true then -1 else IntKind.u32.max) y = 4294967295 - y := by
  have e : (if IntKind.u32.signed = true then -1 else IntKind.u32.max) = (4294967295 : Int) := rfl
  obtain ⟨a, rfl⟩ := Int.eq_ofNat_of_zero_le hy.1
  rw [e]
  show IntKind.u32.wrap ((BitVec.ofInt 32 4294967295 ^^^ BitVec.ofInt 32 (a : Int)).toNat : Int) = _
  have e2 : BitVec.ofInt 32 4294967295 = BitVec.allOnes 32 := by decide
  have e3 : BitVec.allOnes 32 ^^^ BitVec.ofInt 32 (a : Int) = ~~~ (BitVec.ofInt 32 (a : Int)) := BitVec.allOnes_xor
  rw [e2, e3, BitVec.toNat_not, ofInt_u32 a (by omega), wrap_u32]
  omega
theorem not_limb {y : Int} (hy : 0 ≤ y ∧ y < 4294967296) : IntKind.u64.wrap (bits .xor .u32 (if IntKind.u32.signed = true then -1 else IntKind.u32.max) y) = 4294967295 - y := by
  rw [not_u32 hy]
  exact wrap_u64 (by omega) (by omega)
theorem set_mid (l : List Int) (n k : Nat) (z : Int) (hl : l.length = k) (hk : k < n) : (l ++ List.replicate (n - k) 0).set k z = l ++ [z] ++ List.replicate (n - (k + 1)) 0 := by
  obtain ⟨j, hj⟩ : ∃ j, n - k = j + 1 := ⟨n - k - 1, by omega⟩
  have e2 : n - (k + 1) = j := by omega
  rw [hj, e2, List.replicate_succ, List.set_append_right _ _ (by omega), hl, Nat.sub_self, List.set_cons_zero, List.append_assoc]
  rfl
structure Only (b : Nat) (w w' : World) : Prop where
  os : w'.os = w.os
  tape : w'.tape = w.tape
  output : w'.output = w.output
  size : w'.heap.size = w.heap.size
  block : ∀ k, k ≠ b → w'.heap[k]? = w.heap[k]?
theorem Only.refl (b : Nat) (w : World) : Only b w w := ⟨rfl, rfl, rfl, rfl, fun _ _ => rfl⟩
theorem Only.trans {b : Nat} {x y z : World} (h : Only b x y) (k : Only b y z) : Only b x z :=
  ⟨k.os.trans h.os, k.tape.trans h.tape, k.output.trans h.output, k.size.trans h.size, fun i hi => (k.block i hi).trans (h.block i hi)⟩
theorem Only.setCell (w : World) (a : Addr) (u : Value) : Only a.block w (w.setCell a u) :=
  ⟨rfl, rfl, rfl, by simp [World.setCell], fun k hk => Below.heap_setCell _ _ _ _ hk⟩
theorem Only.set (w : World) (b o : Nat) (u : Value) : Only b w (w.setCell ⟨b, o, none⟩ u) := Only.setCell w ⟨b, o, none⟩ u
theorem Only.drew (b : Nat) (w : World) : Only b w w.drew := ⟨rfl, rfl, rfl, rfl, fun _ _ => rfl⟩
theorem Only.below {b B : Nat} {w w' : World} (h : Only b w w') (hB : B ≤ b) : Below B w w' :=
  ⟨h.os, h.tape, h.output, Nat.le_of_eq h.size.symm, fun k hk => h.block k (by omega)⟩
theorem Only.cell {b : Nat} {w w' : World} (h : Only b w w') {p : Addr} (hp : p.block ≠ b) : w'.cell? p = w.cell? p := World.cell?_of_block (h.block p.block hp)
theorem Only.frozen {b : Nat} {w w' : World} (h : Only b w w') {p : Addr} (hp : p.block ≠ b) : w'.frozen? p = w.frozen? p := World.frozen?_of_block (h.block p.block hp)
end
section
open Go.RowKit
/-- the limbs xs lie from the address ad on -/
def Lim (w : World) (ad : Option Addr) (xs : List Int) : Prop :=
  xs = [] ∨ ∃ b off, ad = some ⟨b, off, none⟩ ∧ ∀ i, i < xs.length → w.cell? ⟨b, off + i, none⟩ = some (.int .u32 (xs.getD i 0))
set_option maxHeartbeats 400000 in
theorem at_any (ad : Option Addr) (xs : List Int) (cap : Nat) (i : Int) (w : World) (hl : Lim w ad xs) (hm : xs.length ≤ maxLen) (hi : 0 ≤ i) :
    Calls Tryz.prog 137 #[.slice ad xs.length cap, .int .i64 i] w fun e w' => e = .returned (.int .u32 (xs.getD i.toNat 0)) ∧ w = w' := by
  unfold maxLen at hm
  obtain ⟨k, rfl⟩ := Int.eq_ofNat_of_zero_le hi
  by_cases hk : k < xs.length
  · rcases hl with rfl | ⟨b, off, rfl, hc⟩
    · simp at hk
    · have hck := hc k hk
      clear hc
      go_enter Tryz.func137, Tryz.ntmps137
      go_wp2
      go_ret
      refine ⟨?_, rfl⟩
      simp [hk]
  · go_enter Tryz.func137, Tryz.ntmps137
    go_wp2
    go_ret
    refine ⟨?_, rfl⟩
    simp [List.getElem?_eq_none (Nat.le_of_not_lt hk)]
/-- the same, the limb under a name -/
theorem at_nat (ad : Option Addr) (xs : List Int) (cap : Nat) (k : Nat) (x : Int) (w : World) (hl : Lim w ad xs) (hm : xs.length ≤ maxLen) (hx : xs.getD k 0 = x) :
    Calls Tryz.prog 137 #[.slice ad xs.length cap, .int .i64 k] w fun e w' => e = .returned (.int .u32 x) ∧ w = w' := by
  have h := at_any ad xs cap k w hl hm (by omega)
  rw [Int.toNat_natCast, hx] at h
  exact h
set_option maxHeartbeats 400000 in
theorem cut_any (ad : Option Addr) (xs : List Int) (cap : Nat) (w : World) (hl : Lim w ad xs) (hm : xs.length ≤ maxLen) (hcap : xs.length ≤ cap) :
    Calls Tryz.prog 116 #[.slice ad xs.length cap] w fun e w' => e = .returned (.slice ad (trimN xs xs.length) cap) ∧ w = w' := by
  unfold maxLen at hm
  go_enter Tryz.func116, Tryz.ntmps116
  go_wp2
  go_loop [3] (fun n => ∃ j : Nat, j ≤ xs.length ∧ n = .int .i64 j ∧ trimN xs j = trimN xs xs.length) (fun n => (intOf n).toNat)
  case atStart => exact ⟨xs.length, Nat.le_refl _, rfl, rfl⟩
  case round =>
    obtain ⟨j, hj, rfl, ht⟩ := hrel
    have HT := Lib.hid ht
    clear ht
    rcases j with _ | m
    · have h0 : trimN xs xs.length = 0 := HT.out.symm
      go_wp2
      go_ret
      exact ⟨rfl, rfl⟩
    · rcases hl with rfl | ⟨b, off, rfl, hc⟩
      · simp at hj
      · have hck := hc m (by omega)
        clear hc
        go_wp2
        · have hz : xs.getD m 0 = 0 := by
            have h : (xs[m]?.getD 0 == 0) = true := by assumption
            simpa using h
          go_round
          case rel => exact ⟨m, by omega, by go_num, by rw [← HT.out]; simp only [trimN]; rw [if_pos hz]⟩
          case measure => simp [intOf]
        · have hz : xs.getD m 0 ≠ 0 := by
            have h : (xs[m]?.getD 0 == 0) = false := by assumption
            simpa using h
          have ht : trimN xs xs.length = m + 1 := by rw [← HT.out]; simp only [trimN]; rw [if_neg hz]
          go_ret
          exact ⟨by rw [ht]; simp, rfl⟩
set_option maxHeartbeats 400000 in
/-- the two limbs from i on, as one number -/
theorem pair_any (ad : Option Addr) (xs : List Int) (cap : Nat) (i : Int) (w : World) (hl : Lim w ad xs) (hm : xs.length ≤ maxLen) (hi : 0 ≤ i) (hi2 : i ≤ 4611686018427387904) (hw : Wf xs) :
    Calls Tryz.prog 145 #[.slice ad xs.length cap, .int .i64 i] w fun e w' =>
      e = .returned (.int .u64 (4294967296 * xs.getD (i.toNat + 1) 0 + xs.getD i.toNat 0)) ∧ w = w' := by
  obtain ⟨k, rfl⟩ := Int.eq_ofNat_of_zero_le hi
  have b1 := hw.getD (k + 1)
  have b0 := hw.getD k
  go_enter Tryz.func145, Tryz.ntmps145
  go_wp2_with fail
  refine (at_any ad xs cap _ _ hl hm (by omega)).mono ?_
  rintro e w' ⟨rfl, rfl⟩
  go_wp2_with fail
  refine (at_any ad xs cap _ _ hl hm (by omega)).mono ?_
  rintro e w' ⟨rfl, rfl⟩
  go_wp2
  go_ret
  refine ⟨?_, rfl⟩
  have e1 : xs[k + 1]?.getD 0 = xs.getD (k + 1) 0 := rfl
  have e0 : xs[k]?.getD 0 = xs.getD k 0 := rfl
  simp only [Int.toNat_natCast, e1, e0]
  rw [wrap_u64 (x := xs.getD (k + 1) 0) (by omega) (by omega), wrap_u64 (x := xs.getD k 0) (by omega) (by omega), wrap_u64 (by omega) (by omega), or_u64 b1 b0]
  rfl
set_option maxHeartbeats 400000 in
theorem split_any (n : Int) (w : World) (hn : -9223372036854775808 ≤ n) (hn2 : n ≤ 9223372036854775807) :
    Calls Tryz.prog 156 #[.int .i64 n] w fun e w' =>
      e = .returned (.tuple #[.int .i64 ((max n 0) / 32), .int .i64 ((max n 0) % 32)]) ∧ w = w' := by
  go_enter Tryz.func156, Tryz.ntmps156
  go_wp2
  all_goals go_ret2
  all_goals refine ⟨?_, rfl⟩
  all_goals first | rfl | (rw [show max n 0 = 0 from by omega]; rfl) | (rw [show max n 0 = n from by omega]; rfl)
theorem carrier_any (c : Int) (w : World) :
    Calls Tryz.prog 136 #[.int .u64 c] w fun e w' =>
      e = .returned (.func (.func 150) #[] #[.pointer (some ⟨w.heap.size, 0, none⟩)]) ∧ w' = w.alloc (.cells #[.int .u64 c] 117) := by
  go_enter Tryz.func136, Tryz.ntmps136
  go_wp2
  go_ret
  exact ⟨rfl, rfl⟩
/-- called with parts: the sum's low word; the rest is kept -/
def Carried (b : Nat) (v : Int) (w w' : World) : Prop := w'.heap[b]? = some (.cells #[.int .u64 v] 117 (0, 0)) ∧ Only b w w'
def sumL : List Int → Int
  | [] => 0
  | x :: xs => x + sumL xs
theorem sumL_snoc (xs : List Int) (x : Int) : sumL (xs ++ [x]) = sumL xs + x := by
  induction xs with
  | nil => simp [sumL]
  | cons y ys ih => simp only [List.cons_append, sumL, ih]; omega
theorem sumL_take (xs : List Int) (k : Nat) (hk : k < xs.length) : sumL (xs.take (k + 1)) = sumL (xs.take k) + xs.getD k 0 := by
  rw [List.take_succ_eq_append_getElem hk, sumL_snoc]
  simp [List.getD, hk]
theorem sumL_mono (xs : List Int) (h : ∀ x ∈ xs, 0 ≤ x) (k : Nat) : 0 ≤ sumL (xs.take k) ∧ sumL (xs.take k) ≤ sumL xs := by
  induction xs generalizing k with
  | nil => simp [sumL]
  | cons x xs ih =>
    have hx := h x List.mem_cons_self
    cases k with
    | zero => have := (ih (fun y hy => h y (List.mem_cons_of_mem _ hy)) xs.length).1; simp only [List.take_length] at this; simp only [List.take_zero, sumL]; omega
    | succ k => have := ih (fun y hy => h y (List.mem_cons_of_mem _ hy)) k; simp only [List.take_succ_cons, sumL]; omega
set_option maxHeartbeats 400000 in
theorem carry_any (c : Int) (ys : List Int) (b : Nat) (ad : Option Addr) (w : World) (hc : 0 ≤ c) (hy : ∀ y ∈ ys, 0 ≤ y) (hs : c + sumL ys < 18446744073709551616) (hlen : ys.length ≤ 2)
    (hb : w.heap[b]? = some (.cells #[.int .u64 c] 117 (0, 0)))
    (hp : ys ≠ [] → ∃ p, ad = some ⟨p, 0, none⟩ ∧ p ≠ b ∧ ∀ i, i < ys.length → w.cell? ⟨p, i, none⟩ = some (.int .u64 (ys.getD i 0))) :
    Calls Tryz.prog 150 #[.slice ad ys.length ys.length, .pointer (some ⟨b, 0, none⟩)] w fun e w' =>
      e = .returned (.int .u32 ((c + sumL ys) % 4294967296)) ∧ Carried b ((c + sumL ys) / 4294967296) w w' := by
  go_enter Tryz.func150, Tryz.ntmps150
  go_wp2
  go_loopw [5, 9] (fun _ i wr => ∃ k : Nat, k ≤ ys.length ∧ i = .int .i64 k ∧ Carried b (c + sumL (ys.take k)) w wr) (fun _ i _ => ys.length - (intOf i).toNat)
  case atStart => exact ⟨0, Nat.zero_le _, rfl, by simpa [sumL] using hb, Only.refl _ _⟩
  case round =>
    obtain ⟨k, hk, rfl, hcb, ho⟩ := hrel
    have h1 := cell_of_one hcb
    have h2 := free_of_one hcb
    have h3 := sumL_mono ys hy k
    by_cases hlt : k < ys.length
    · obtain ⟨p, rfl, hpb, hpc⟩ := hp (by intro h; simp [h] at hlt)
      have hck := (ho.cell (p := ⟨p, k, none⟩) hpb).trans (hpc k hlt)
      have h4 := sumL_mono ys hy (k + 1)
      have h5 := sumL_take ys k hlt
      have h6 : 0 ≤ ys.getD k 0 := by have := sumL_mono ys hy (k+1); simp only [List.getD, hlt, List.getElem?_eq_getElem, Option.getD_some]; exact hy _ (List.getElem_mem hlt)
      have h7 : c + sumL (ys.take k) + ys.getD k 0 < 18446744073709551616 := by omega
      have h8 : ys.getD k 0 = ys[k] := by simp [hlt]
      rw [h8] at h5 h6 h7
      have H5 := Lib.hid h5
      clear h5 h4 hp hpc h8
      go_wp2
      go_roundw
      case rel =>
        refine ⟨k + 1, by omega, by go_num, ?_, ho.trans (Only.set _ _ _ _)⟩
        rw [one_setCell hcb, H5.out, Int.add_assoc]
      case measure => simp [intOf]; omega
    · have hke : k = ys.length := by omega
      subst hke
      rw [List.take_length] at hcb h1 h3
      have hco := one_setCell hcb (u := .int .u64 ((c + sumL ys) / 4294967296))
      go_wp2
      go_ret
      exact ⟨rfl, hco, ho.trans (Only.set _ _ _ _)⟩
end
section
open Go.RowKit
theorem tab_at (i : Int) (h0 : 0 ≤ i) (h1 : i ≤ 255) (h : i.toNat < Lib.len8tab.size) : (Lib.len8tab[i.toNat].toNat : Int) = Lib.bitLen i.toNat := by
  rw [← Lib.len8_of i h0 h1]
  unfold Lib.len8
  rw [getElem?_pos Lib.len8tab i.toNat h]
  rfl
theorem wrap2 (c : Int) (n : Nat) (h0 : 0 ≤ c) (h1 : c ≤ 24) (hn : n ≤ 8) : wrap64 (c + wrap64 (n : Int)) = c + n := by unfold wrap64; omega
theorem wrap64_small (x : Int) (h0 : 0 ≤ x) (h1 : x ≤ 1000) : wrap64 x = x := by unfold wrap64; omega
set_option maxHeartbeats 4000000 in
set_option maxRecDepth 100000 in
theorem len_any (x : Int) (w : World) (hx : 0 ≤ x ∧ x < 4294967296) :
    Calls Tryz.prog 134 #[.int .u32 x] w fun e w' => e = .returned (.int .i64 (Lib.bitLen x.toNat)) ∧ w = w' := by
  obtain ⟨h0, h1⟩ := hx
  have hsz : (Lib.len8tab.size : Int) = 256 := by rw [Lib.len8tab_size]; rfl
  go_enter Tryz.func134, Tryz.ntmps134
  go_wp2
  all_goals (go_ret; refine ⟨congrArg Ending.returned (congrArg (Value.int IntKind.i64) ?_), rfl⟩)
  · have e : (x / 65536 / 256).toNat = x.toNat / 16777216 := by omega
    have t := tab_at (x / 65536 / 256) (by omega) (by omega) (by rw [Lib.len8tab_size]; omega)
    have l := Lib.bitLen_le8' (x / 65536 / 256) (by omega) (by omega)
    have s := Lib.bitLen_shift24 x.toNat (by omega) (by omega)
    rw [t, wrap2 _ _ (by omega) (by omega) l, e, s]
    omega
  · have e : (x / 65536).toNat = x.toNat / 65536 := by omega
    have t := tab_at (x / 65536) (by omega) (by omega) (by rw [Lib.len8tab_size]; omega)
    have l := Lib.bitLen_le8' (x / 65536) (by omega) (by omega)
    have s := Lib.bitLen_shift16 x.toNat (by omega) (by omega)
    rw [t, wrap2 _ _ (by omega) (by omega) l, e, s]
    omega
  · have e : (x / 256).toNat = x.toNat / 256 := by omega
    have t := tab_at (x / 256) (by omega) (by omega) (by rw [Lib.len8tab_size]; omega)
    have l := Lib.bitLen_le8' (x / 256) (by omega) (by omega)
    have s := Lib.bitLen_shift8 x.toNat (by omega) (by omega)
    rw [t, wrap2 _ _ (by omega) (by omega) l, e, s]
    omega
  · have t := tab_at x (by omega) (by omega) (by rw [Lib.len8tab_size]; omega)
    have l := Lib.bitLen_le8' x (by omega) (by omega)
    rw [t, wrap64_small (Lib.bitLen x.toNat) (by omega) (by omega), wrap64_small _ (by omega) (by omega)]
/-- -1, 0 or 1 -/
def sign (a b : Int) : Int := if a < b then -1 else if b < a then 1 else 0
theorem cmpInt_any (a b : Int) (w : World) :
    Calls Tryz.prog 138 #[.int .i64 a, .int .i64 b] w fun e w' => e = .returned (.int .i64 (sign a b)) ∧ w = w' := by
  go_enter Tryz.func138, Tryz.ntmps138
  go_wp2_with go_in
  all_goals go_ret
  all_goals refine ⟨congrArg Ending.returned (congrArg (Value.int IntKind.i64) ?_), rfl⟩
  all_goals unfold sign
  · rw [if_pos (by assumption)]
  · rw [if_neg (by omega), if_pos (by assumption)]
  · rw [if_neg (by omega), if_neg (by omega)]
theorem cmpLimb_any (a b : Int) (w : World) :
    Calls Tryz.prog 140 #[.int .u32 a, .int .u32 b] w fun e w' => e = .returned (.int .i64 (sign a b)) ∧ w = w' := by
  go_enter Tryz.func140, Tryz.ntmps140
  go_wp2_with go_in
  all_goals go_ret
  all_goals refine ⟨congrArg Ending.returned (congrArg (Value.int IntKind.i64) ?_), rfl⟩
  all_goals unfold sign
  · rw [if_pos (by assumption)]
  · rw [if_neg (by omega), if_pos (by assumption)]
  · rw [if_neg (by omega), if_neg (by omega)]
/-- the number of bits -/
def bitsN (xs : List Int) : Nat := if trimN xs xs.length = 0 then 0 else (trimN xs xs.length - 1) * 32 + Lib.bitLen (xs.getD (trimN xs xs.length - 1) 0).toNat
set_option maxHeartbeats 400000 in
theorem bits_any (ad : Option Addr) (xs : List Int) (cap : Nat) (w : World) (hl : Lim w ad xs) (hm : xs.length ≤ 35184372088832) (hcap : xs.length ≤ cap) (hw : Wf xs) :
    Calls Tryz.prog 107 #[.slice ad xs.length cap] w fun e w' => e = .returned (.int .i64 (bitsN xs)) ∧ w = w' := by
  have ht := trim_le xs
  go_enter Tryz.func107, Tryz.ntmps107
  go_wp2_with fail
  refine (cut_any ad xs cap _ hl (by unfold maxLen; omega) hcap).mono ?_
  rintro e w' ⟨rfl, rfl⟩
  have hb : bitsN xs = if trimN xs xs.length = 0 then 0 else (trimN xs xs.length - 1) * 32 + Lib.bitLen (xs.getD (trimN xs xs.length - 1) 0).toNat := rfl
  generalize trimN xs xs.length = t at *
  have HB := Lib.hid hb
  clear hb
  rcases t with _ | m
  · go_wp2_with fail
    go_ret
    rw [HB.out]
    exact ⟨rfl, rfl⟩
  · rcases hl with rfl | ⟨b, off, rfl, hc⟩
    · simp at ht
    · have hcm := hc m (by omega)
      have hwm := hw.getD m
      have h1 : ((m : Int) + 1 == 0) = false := by simp; omega
      clear hc
      go_wp2_with fail
      refine (len_any _ _ hwm).mono ?_
      rintro e w' ⟨rfl, rfl⟩
      have hle := Lib.bitLen_le (xs.getD m 0).toNat 32 (by omega) (by omega)
      have hge : 0 ≤ (Lib.bitLen (xs.getD m 0).toNat : Int) := by omega
      have e2 : bitsN xs = m * 32 + Lib.bitLen (xs.getD m 0).toNat := HB.out
      have HE := Lib.hid e2
      clear e2
      generalize Lib.bitLen (xs.getD m 0).toNat = q at *
      go_wp2_with fail
      go_ret
      refine ⟨congrArg Ending.returned (congrArg (Value.int IntKind.i64) ?_), rfl⟩
      rw [HE.out]
      omega
theorem beq_dec (a b : Int) : (a == b) = decide (a = b) := Bool.eq_iff_iff.2 (by simp)
theorem and_one (y : Int) (h0 : 0 ≤ y) (h1 : y < 4294967296) : bits .and .u32 y 1 = y % 2 := by
  rw [u32_and _ _ h0 h1 (by omega) (by omega)]
  obtain ⟨a, rfl⟩ := Int.eq_ofNat_of_zero_le h0
  simp only [Int.toNat_natCast, Int.reduceToNat, Nat.and_one_is_mod]
  omega
/-- the bit with an index -/
def bitAt (xs : List Int) (i : Int) : Bool := decide (0 ≤ i) && decide (xs.getD (i.toNat / 32) 0 / 2 ^ (i.toNat % 32) % 2 = 1)
set_option maxHeartbeats 400000 in
theorem uint_any (ad : Option Addr) (xs : List Int) (cap : Nat) (w : World) (hl : Lim w ad xs) (hm : xs.length ≤ 35184372088832) (hcap : xs.length ≤ cap) (hw : Wf xs) :
    Calls Tryz.prog 119 #[.slice ad xs.length cap] w fun e w' =>
      e = .returned (if bitsN xs ≤ 64 then .tuple #[.int .u64 (4294967296 * xs.getD 1 0 + xs.getD 0 0), .bool true] else .tuple #[.int .u64 0, .bool false]) ∧ w = w' := by
  by_cases hb : bitsN xs ≤ 64
  · rw [if_pos hb]
    have hb2 : (bitsN xs : Int) ≤ 64 := by omega
    clear hb
    go_enter Tryz.func119, Tryz.ntmps119
    go_wp2_with fail
    refine (bits_any ad xs cap _ hl hm hcap hw).mono ?_
    rintro e w' ⟨rfl, rfl⟩
    go_wp2_with fail
    refine (pair_any ad xs cap _ _ hl (by unfold maxLen; omega) (by omega) (by omega) hw).mono ?_
    rintro e w' ⟨rfl, rfl⟩
    go_wp2_with fail
    go_ret2
    exact ⟨rfl, rfl⟩
  · rw [if_neg hb]
    have hb2 : 64 < (bitsN xs : Int) := by omega
    clear hb
    go_enter Tryz.func119, Tryz.ntmps119
    go_wp2_with fail
    refine (bits_any ad xs cap _ hl hm hcap hw).mono ?_
    rintro e w' ⟨rfl, rfl⟩
    go_wp2_with fail
    go_ret2
    exact ⟨rfl, rfl⟩
end
section
open Go.RowKit
theorem Lim.nil (w : World) (ad : Option Addr) : Lim w ad [] := .inl rfl
theorem Lim.below {w w' : World} {ad : Option Addr} {xs : List Int} {B : Nat} (h : Lim w ad xs) (hb : Below B w w') (hB : ∀ a, ad = some a → a.block < B) : Lim w' ad xs := by
  rcases h with rfl | ⟨b, off, rfl, hc⟩
  · exact .inl rfl
  · exact .inr ⟨b, off, rfl, fun i hi => (hb.cell (p := ⟨b, off + i, none⟩) (hB ⟨b, off, none⟩ rfl)).trans (hc i hi)⟩
theorem Lim.later {w w' : World} {ad : Option Addr} {xs : List Int} (h : Lim w ad xs) (hb : Below w.heap.size w w') : Lim w' ad xs := by
  rcases h with rfl | ⟨b, off, rfl, hc⟩
  · exact .inl rfl
  · refine .inr ⟨b, off, rfl, fun i hi => ?_⟩
    have hlt := World.block_lt_of_cell? w _ (hc i hi)
    exact (hb.cell (p := ⟨b, off + i, none⟩) hlt).trans (hc i hi)
theorem Lim.take {w : World} {ad : Option Addr} {xs : List Int} (h : Lim w ad xs) (n : Nat) : Lim w ad (xs.take n) := by
  rcases h with rfl | ⟨b, off, rfl, hc⟩
  · exact .inl (by simp)
  · refine .inr ⟨b, off, rfl, fun i hi => ?_⟩
    rw [List.length_take] at hi
    rw [hc i (by omega)]
    simp [show i < n by omega]
theorem Lim.lt {w : World} {ad : Option Addr} {xs : List Int} (h : Lim w ad xs) (hn : xs ≠ []) : ∀ a, ad = some a → a.block < w.heap.size := by
  rcases h with rfl | ⟨b, off, rfl, hc⟩
  · exact absurd rfl hn
  · intro a ha
    cases ha
    exact World.block_lt_of_cell? w _ (hc 0 (List.length_pos_iff.2 hn))
/-- a block of limbs, known whole -/
def Blk (w : World) (g : Nat) (zs : List Int) : Prop := w.heap[g]? = some (.cells (zs.map (Value.int .u32)).toArray 112 (0, 0))
theorem Blk.cell {w : World} {g : Nat} {zs : List Int} (h : Blk w g zs) (i : Nat) (hi : i < zs.length) : w.cell? ⟨g, i, none⟩ = some (.int .u32 (zs.getD i 0)) := by
  have e : w.cell? ⟨g, i, none⟩ = ((zs.map (Value.int .u32)).toArray)[i]? := cell_of_row w g i _ 112 (0, 0) h
  rw [e]; simp [hi]
theorem Blk.free {w : World} {g : Nat} {zs : List Int} (h : Blk w g zs) (i : Nat) : w.frozen? ⟨g, i, none⟩ = false := by
  exact frozen_of_row w g i _ 112 h
theorem Blk.lt {w : World} {g : Nat} {zs : List Int} (h : Blk w g zs) : g < w.heap.size := lt_of_block h
theorem Blk.same {w w' : World} {g : Nat} {zs : List Int} (h : Blk w g zs) (e : w'.heap[g]? = w.heap[g]?) : Blk w' g zs := e.trans h
theorem Blk.alloc {w : World} {g : Nat} {zs : List Int} (h : Blk w g zs) (o : Obj) : Blk (w.alloc o) g zs := h.same (Below.heap_alloc _ _ _ h.lt)
theorem Blk.only {w w' : World} {g b : Nat} {zs : List Int} (h : Blk w g zs) (k : Only b w w') (hb : g ≠ b) : Blk w' g zs := h.same (k.block g hb)
theorem Blk.below {w w' : World} {g B : Nat} {zs : List Int} (h : Blk w g zs) (k : Below B w w') (hb : g < B) : Blk w' g zs := h.same (k.block g hb)
theorem Blk.set {w : World} {g : Nat} {zs : List Int} (h : Blk w g zs) (i : Nat) (x : Int) : Blk (w.setCell ⟨g, i, none⟩ (.int .u32 x)) g (zs.set i x) := by
  have hh := heap_setCell_same w g i _ 112 (.int .u32 x) h
  unfold Blk
  rw [hh]
  congr 2
  simp [List.map_set]
theorem Blk.made (w : World) (n : Nat) : Blk (w.alloc (.cells (madeCells #[.int .u32 0] n) 112)) w.heap.size (List.replicate n 0) := by
  have h := heap_alloc_new w (.cells (madeCells #[.int .u32 0] n) 112)
  unfold Blk
  rw [h]
  congr 2
  apply Array.ext
  · simp [madeCells]
  · intro i h1 h2
    simp [madeCells, Nat.mod_one]
/-- v is a slice of the call's own limbs xs -/
def Num (base : Nat) (w : World) (v : Value) (xs : List Int) : Prop := w.ownsRow base 112 1 v xs.length (xs.map (Value.int .u32))
theorem Num.read {base : Nat} {w : World} {v : Value} {xs : List Int} (h : Num base w v xs) : ∃ ad cap, v = .slice ad xs.length cap ∧ Lim w ad xs ∧ xs.length ≤ cap ∧ cap ≤ maxLen ∧ (∀ a, ad = some a → base ≤ a.block ∧ a.block < w.heap.size) := by
  obtain ⟨h1, h2⟩ := h
  rcases h2 with ⟨rfl, hn⟩ | ⟨g, cap, cur, rfl, hb, hg, hc, hm, hs, ht⟩
  · obtain rfl := List.eq_nil_of_length_eq_zero hn
    exact ⟨none, 0, rfl, .inl rfl, Nat.le_refl _, by unfold maxLen; omega, fun a ha => by cases ha⟩
  · refine ⟨_, cap, rfl, .inr ⟨g, 0, rfl, fun i hi => ?_⟩, hc, hm, fun a ha => by cases ha; exact ⟨hb, lt_of_block hg⟩⟩
    have hj := World.ownsRow.cellAt (w := w) (base := base) (e := 112) (size := 1) (g := g) (n := xs.length) (cap := cap) (xs := xs.map (Value.int .u32)) ⟨h1, .inr ⟨g, cap, cur, rfl, hb, hg, hc, hm, hs, ht⟩⟩ i (by omega)
    rw [Nat.zero_add, hj]
    simp [hi]
theorem Num.cut {base : Nat} {w : World} {ad : Option Addr} {xs : List Int} {n cap : Nat} (h : Num base w (.slice ad n cap) xs) : Num base w (.slice ad (trimN xs xs.length) cap) (trim xs) := by
  have hl := trim_le xs
  unfold Num at *
  rw [trim_length]
  obtain ⟨h1, h2⟩ := h
  rcases h2 with ⟨hv, hn⟩ | ⟨g, cap', cur, hv, hb, hg, hc, hm, hs, ht⟩
  · obtain rfl := List.eq_nil_of_length_eq_zero hn
    cases hv
    exact ⟨rfl, .inl ⟨rfl, rfl⟩⟩
  · cases hv
    refine ⟨by rw [List.length_map, trim_length, Nat.mul_one], .inr ⟨g, cap, cur, rfl, hb, hg, by omega, hm, hs, ?_⟩⟩
    unfold trim
    rw [List.map_take, ← ht, List.take_take]
    congr 1
    omega
theorem Num.ofBlk {base g : Nat} {w : World} {zs : List Int} (h : Blk w g zs) (hb : base ≤ g) (n : Nat) (hn : n ≤ zs.length) (hm : zs.length ≤ maxLen) : Num base w (.slice (some ⟨g, 0, none⟩) n zs.length) (zs.take n) := by
  have e : (zs.take n).length = n := by rw [List.length_take]; omega
  unfold Num
  rw [e]
  refine ⟨by rw [List.length_map, e, Nat.mul_one], .inr ⟨g, zs.length, _, rfl, hb, h, hn, hm, by simp, ?_⟩⟩
  simp [List.map_take]
theorem Num.lt {base : Nat} {w : World} {v : Value} {xs : List Int} (h : Num base w v xs) : ∀ k, v.ownBlock = some k → base ≤ k ∧ k < w.heap.size := World.ownsRow.lt h
theorem Num.kept {base B : Nat} {w w' : World} {v : Value} {xs : List Int} (h : Num base w v xs) (hb : Below B w w') (hB : ∀ k, v.ownBlock = some k → k < B) : Num base w' v xs := by
  obtain ⟨h1, h2⟩ := h
  refine ⟨h1, ?_⟩
  rcases h2 with h2 | ⟨g, cap, cur, rfl, hg0, hg, hc, hm, hs, ht⟩
  · exact .inl h2
  · exact .inr ⟨g, cap, cur, rfl, hg0, (hb.block g (hB g rfl)).trans hg, hc, hm, hs, ht⟩
theorem Num.later {base : Nat} {w w' : World} {v : Value} {xs : List Int} (h : Num base w v xs) (hb : Below w.heap.size w w') : Num base w' v xs := h.kept hb fun k hk => (h.lt k hk).2
theorem Num.mono {base base' : Nat} {w : World} {v : Value} {xs : List Int} (h : Num base w v xs) (hb : base' ≤ base) : Num base' w v xs := by
  obtain ⟨h1, h2⟩ := h
  refine ⟨h1, ?_⟩
  rcases h2 with h2 | ⟨g, cap, cur, rfl, hg0, hg, hc, hm, hs, ht⟩
  · exact .inl h2
  · exact .inr ⟨g, cap, cur, rfl, Nat.le_trans hb hg0, hg, hc, hm, hs, ht⟩
theorem cut_still (ad : Option Addr) (xs : List Int) (cap : Nat) (w : World) (hl : Lim w ad xs) (hm : xs.length ≤ 35184372088832) (hcap : xs.length ≤ cap) :
    Calls Tryz.prog 116 #[.slice ad xs.length cap] w fun e w' => e = .returned (.slice ad (trimN xs xs.length) cap) ∧ w' = w :=
  (cut_any ad xs cap w hl (by unfold maxLen; omega) hcap).mono fun _ _ ⟨he, hw⟩ => ⟨he, hw.symm⟩
theorem cut_num {base : Nat} {v : Value} {xs : List Int} {w : World} (h : Num base w v xs) :
    Calls Tryz.prog 116 #[v] w fun e w' => ∃ u, e = .returned u ∧ Num base w u (trim xs) ∧ w = w' := by
  obtain ⟨ad, cap, rfl, hl, hc, hm, _⟩ := h.read
  exact (cut_any ad xs cap w hl (by omega) hc).mono fun e w' ⟨he, hw⟩ => ⟨_, he, h.cut, hw⟩
theorem Blk.grown {w w' : World} {g : Nat} {row : Option Nat} {zs : List Int} (h : Blk w g zs) (k : w.grownBy w' row) (hb : some g ≠ row) : Blk w' g zs := h.same (k.block g h.lt hb)
def Stepped (b : Nat) (v : Int) (w w' : World) : Prop := w'.heap[b]? = some (.cells #[.int .u64 v] 117 (0, 0)) ∧ w.grownBy w' (some b)
theorem Only.grown {b : Nat} {w w' : World} (h : Only b w w') : w.grownBy w' (some b) := ⟨h.os, h.tape, h.output, Nat.le_of_eq h.size.symm, fun k _ hb => h.block k (fun e => hb (by rw [e]))⟩
theorem grown_alloc_only {b : Nat} {w w' : World} {o : Obj} (h : Only b (w.alloc o) w') : w.grownBy w' (some b) :=
  ⟨h.os, h.tape, h.output, by have := h.size; simp at this; omega, fun k hk hb => (h.block k (fun e => hb (by rw [e]))).trans (Below.heap_alloc _ _ _ hk)⟩
theorem carry2 (c x y : Int) (b : Nat) (w : World) (hc : 0 ≤ c) (hx : 0 ≤ x) (hy : 0 ≤ y) (hs : c + x + y < 18446744073709551616) (hb : w.heap[b]? = some (.cells #[.int .u64 c] 117 (0, 0))) :
    Calls Tryz.prog 150 #[.slice (some ⟨w.heap.size, 0, none⟩) 2 2, .pointer (some ⟨b, 0, none⟩)] (w.alloc (.cells #[.int .u64 x, .int .u64 y] 117)) fun e w' =>
      e = .returned (.int .u32 ((c + x + y) % 4294967296)) ∧ Stepped b ((c + x + y) / 4294967296) w w' := by
  have hlt := lt_of_block hb
  have e : c + sumL [x, y] = c + x + y := by simp only [sumL]; omega
  have h := carry_any c [x, y] b (some ⟨w.heap.size, 0, none⟩) (w.alloc (.cells #[.int .u64 x, .int .u64 y] 117)) hc (by intro z hz; simp at hz; omega) (by omega) (by simp)
    ((Below.heap_alloc _ _ _ hlt).trans hb) (fun _ => ⟨w.heap.size, rfl, by omega, fun i hi => by
      rw [cell_of_row _ _ _ _ _ _ (heap_alloc_new w _)]
      match i, hi with
      | 0, _ => rfl
      | 1, _ => rfl⟩)
  rw [e] at h
  exact h.mono fun e w' ⟨he, hh, ho⟩ => ⟨he, hh, grown_alloc_only ho⟩
theorem carry1 (c x : Int) (b : Nat) (w : World) (hc : 0 ≤ c) (hx : 0 ≤ x) (hs : c + x < 18446744073709551616) (hb : w.heap[b]? = some (.cells #[.int .u64 c] 117 (0, 0))) :
    Calls Tryz.prog 150 #[.slice (some ⟨w.heap.size, 0, none⟩) 1 1, .pointer (some ⟨b, 0, none⟩)] (w.alloc (.cells #[.int .u64 x] 117)) fun e w' =>
      e = .returned (.int .u32 ((c + x) % 4294967296)) ∧ Stepped b ((c + x) / 4294967296) w w' := by
  have hlt := lt_of_block hb
  have e : c + sumL [x] = c + x := by simp only [sumL]; omega
  have h := carry_any c [x] b (some ⟨w.heap.size, 0, none⟩) (w.alloc (.cells #[.int .u64 x] 117)) hc (by intro z hz; simp at hz; omega) (by omega) (by simp)
    ((Below.heap_alloc _ _ _ hlt).trans hb) (fun _ => ⟨w.heap.size, rfl, by omega, fun i hi => by
      rw [cell_of_row _ _ _ _ _ _ (heap_alloc_new w _)]
      match i, hi with
      | 0, _ => rfl⟩)
  rw [e] at h
  exact h.mono fun e w' ⟨he, hh, ho⟩ => ⟨he, hh, grown_alloc_only ho⟩
theorem carry0 (c : Int) (b : Nat) (w : World) (hc : 0 ≤ c) (hs : c < 18446744073709551616) (hb : w.heap[b]? = some (.cells #[.int .u64 c] 117 (0, 0))) :
    Calls Tryz.prog 150 #[.slice none 0 0, .pointer (some ⟨b, 0, none⟩)] w fun e w' =>
      e = .returned (.int .u32 (c % 4294967296)) ∧ Stepped b (c / 4294967296) w w' := by
  have e : c + sumL [] = c := by simp [sumL]
  have h := carry_any c [] b none w hc (by intro z hz; cases hz) (by omega) (by simp) hb (fun h => absurd rfl h)
  rw [e] at h
  exact h.mono fun e w' ⟨he, hh, ho⟩ => ⟨he, hh, ho.grown⟩
end
section
open Go.RowKit
theorem infoLimb : (Tryz.prog.info? 112).map (fun i => (i.zero, i.size, i.bytes)) = some (some (.int .u32 0), 1, 4) := by kernel_rfl
/-- make([]limb, n, c) -/
theorem make_run (n c : Int) (h0 : 0 ≤ n) (hnc : n ≤ c) (hc : c ≤ 70368744177664) (w : World) :
    (Instr.makeSlice 42 (.int .i64 n) (.int .i64 c)).run Tryz.prog w = .ok (.slice (some ⟨w.heap.size, 0, none⟩) n.toNat c.toNat) (w.alloc (.cells (madeCells #[.int .u32 0] c.toNat) 112)) := by
  obtain ⟨i0, hi, hz0, hz1, hz2⟩ := info_parts infoLimb
  have h := run_make (P := Tryz.prog) w 42 112 i0 (.int .u32 0) Tryz.underlying42 hi hz0 .i64 .i64 n c h0 hnc (by rw [hz2]; omega) (by omega)
  simpa [hz1, Value.cells] using h
theorem make_runN (n c : Nat) (hnc : n ≤ c) (hc : c ≤ 70368744177664) (w : World) :
    (Instr.makeSlice 42 (.int .i64 n) (.int .i64 c)).run Tryz.prog w = .ok (.slice (some ⟨w.heap.size, 0, none⟩) n c) (w.alloc (.cells (madeCells #[.int .u32 0] c) 112)) := by
  simpa using make_run n c (by omega) (by omega) (by omega) w
theorem make_run0 (c : Nat) (hc : c ≤ 70368744177664) (w : World) :
    (Instr.makeSlice 42 (.int .i64 0) (.int .i64 c)).run Tryz.prog w = .ok (.slice (some ⟨w.heap.size, 0, none⟩) 0 c) (w.alloc (.cells (madeCells #[.int .u32 0] c) 112)) := by
  simpa using make_run 0 c (by omega) (by omega) (by omega) w
/-- the state behind k limbs of a sum: the limbs, the carry -/
def addTo (xs ys : List Int) : Nat → List Int × Int
  | 0 => ([], 0)
  | k + 1 => ((addTo xs ys k).1 ++ [((addTo xs ys k).2 + xs.getD k 0 + ys.getD k 0) % 4294967296], ((addTo xs ys k).2 + xs.getD k 0 + ys.getD k 0) / 4294967296)
/-- the sum's limbs -/
def addN (xs ys : List Int) : Nat := max (trimN xs xs.length) (trimN ys ys.length)
def addL (xs ys : List Int) : List Int := (addTo xs ys (addN xs ys)).1 ++ [(addTo xs ys (addN xs ys)).2]
theorem addTo_length (xs ys : List Int) (k : Nat) : (addTo xs ys k).1.length = k := by
  induction k with
  | zero => rfl
  | succ k ih => simp [addTo, ih]
theorem addTo_carry (xs ys : List Int) (hx : Wf xs) (hy : Wf ys) (k : Nat) : 0 ≤ (addTo xs ys k).2 ∧ (addTo xs ys k).2 ≤ 1 := by
  induction k with
  | zero => simp [addTo]
  | succ k ih => have h1 := hx.getD k; have h2 := hy.getD k; simp only [addTo]; omega
theorem addTo_wf (xs ys : List Int) (k : Nat) : Wf (addTo xs ys k).1 := by
  induction k with
  | zero => exact Wf.nil
  | succ k ih => exact ih.append (Wf.cons (by omega) Wf.nil)
theorem addL_length (xs ys : List Int) : (addL xs ys).length = addN xs ys + 1 := by simp [addL, addTo_length]
set_option maxHeartbeats 1000000 in
theorem add_any (a b : Option Addr) (xs ys : List Int) (capa capb : Nat) (w : World) (hla : Lim w a xs) (hlb : Lim w b ys) (hma : xs.length ≤ 35184372088832) (hmb : ys.length ≤ 35184372088832)
    (hca : xs.length ≤ capa) (hcb : ys.length ≤ capb) (hwa : Wf xs) (hwb : Wf ys) :
    Calls Tryz.prog 111 #[.slice a xs.length capa, .slice b ys.length capb] w fun e w' => ∃ v, e = .returned v ∧ Num w.heap.size w' v (trim (addL xs ys)) ∧ Below w.heap.size w w' := by
  have hta := trim_le xs
  have htb := trim_le ys
  go_enter Tryz.func111, Tryz.ntmps111
  go_wp2_with fail
  refine (cut_any a xs capa _ hla (by unfold maxLen; omega) hca).mono ?_
  rintro e w' ⟨rfl, rfl⟩
  go_wp2_with fail
  refine (cut_any b ys capb _ hlb (by unfold maxLen; omega) hcb).mono ?_
  rintro e w' ⟨rfl, rfl⟩
  obtain ⟨m, hm⟩ : ∃ m, addN xs ys = m := ⟨_, rfl⟩
  have hx : max (trimN xs xs.length : Int) (trimN ys ys.length : Int) = (m : Int) := by rw [← hm]; unfold addN; omega
  have hm2 : m ≤ 35184372088832 := by rw [← hm]; unfold addN; omega
  have HM := Lib.hid hm
  clear hm
  have hmk := make_runN m (m + 1) (by omega) (by omega)
  simp only [Int.natCast_succ] at hmk
  go_wp2_with fail
  refine (carrier_any _ _).mono ?_
  rintro e w' ⟨rfl, rfl⟩
  go_wp2_with fail
  go_loopw [8, 23] (fun _ i wr => ∃ k : Nat, k ≤ m ∧ i = .int .i64 k ∧ Blk wr w.heap.size ((addTo xs ys k).1 ++ List.replicate (m + 1 - k) 0) ∧
      wr.heap[w.heap.size + 1]? = some (.cells #[.int .u64 (addTo xs ys k).2] 117 (0, 0)) ∧ Below w.heap.size w wr) (fun _ i _ => m - (intOf i).toNat)
  case atStart =>
    refine ⟨0, Nat.zero_le _, rfl, ?_, ?_, ?_⟩
    · exact (Blk.made w (m + 1)).alloc _
    · have h := heap_alloc_new (w.alloc (Obj.cells (madeCells #[Value.int IntKind.u32 0] (m + 1)) 112)) (Obj.cells #[Value.int IntKind.u64 0] 117)
      simpa [addTo] using h
    · exact ((Below.refl _ w).alloc (Nat.le_refl _) _).alloc (by simp) _
  case round =>
    obtain ⟨k, hk, rfl, hblk, hcar, hbel⟩ := hrel
    by_cases hlt : k < m
    · obtain ⟨x, hxk⟩ : ∃ x, xs.getD k 0 = x := ⟨_, rfl⟩
      obtain ⟨y, hyk⟩ : ∃ y, ys.getD k 0 = y := ⟨_, rfl⟩
      obtain ⟨c, hck⟩ : ∃ c, (addTo xs ys k).2 = c := ⟨_, rfl⟩
      have bx : 0 ≤ x ∧ x < 4294967296 := hxk ▸ hwa.getD k
      have by' : 0 ≤ y ∧ y < 4294967296 := hyk ▸ hwb.getD k
      have bc : 0 ≤ c ∧ c ≤ 1 := hck ▸ addTo_carry xs ys hwa hwb k
      obtain ⟨bx0, bx1⟩ := bx
      obtain ⟨by0, by1⟩ := by'
      rw [hck] at hcar
      have HX := Lib.hid hxk
      have HY := Lib.hid hyk
      have HC := Lib.hid hck
      clear hxk hyk hck hx
      have hla' := hla.later hbel
      have hlb' := hlb.later hbel
      have hsz := hbel.size
      have hg1 := lt_of_block hcar
      go_wp2_with fail
      refine (at_nat a xs capa k x _ hla' (by unfold maxLen; omega) HX.out).mono ?_
      rintro e w' ⟨rfl, rfl⟩
      go_wp2_with fail
      refine (at_nat b ys capb k y _ hlb' (by unfold maxLen; omega) HY.out).mono ?_
      rintro e w' ⟨rfl, rfl⟩
      go_wp2_with fail
      refine (carry2 c x y _ wr bc.1 bx0 by0 (by omega) hcar).mono ?_
      rintro e w2 ⟨rfl, hcar2, hgr⟩
      have hblk2 := hblk.grown hgr (by simp)
      have hlz : ((addTo xs ys k).1 ++ List.replicate (m + 1 - k) 0).length = m + 1 := by rw [List.length_append, addTo_length, List.length_replicate]; omega
      have hcell := hblk2.cell k (by omega)
      have hfree := hblk2.free k
      go_wp2_with fail
      go_roundw
      case rel =>
        have hset := hblk2.set k ((c + x + y) % 4294967296)
        refine ⟨k + 1, by omega, by go_num, ?_, ?_, ?_⟩
        · have e : ((addTo xs ys k).1 ++ List.replicate (m + 1 - k) 0).set k ((c + x + y) % 4294967296) = (addTo xs ys (k + 1)).1 ++ List.replicate (m + 1 - (k + 1)) 0 := by
            rw [set_mid _ _ _ _ (addTo_length xs ys k) (by omega)]
            simp only [addTo, HX.out, HY.out, HC.out]
          rw [← e]
          exact hset
        · rw [Below.heap_setCell _ _ _ _ (by simp)]
          simp only [addTo, HX.out, HY.out, HC.out]
          exact hcar2
        · exact (hbel.grown hgr (by omega) (fun j ej => by cases ej; omega)).setCell (p := ⟨w.heap.size, k, none⟩) (Nat.le_refl _) _
      case measure => simp [intOf]; omega
    · have hke : k = m := by omega
      subst hke
      obtain ⟨c, hck⟩ : ∃ c, (addTo xs ys k).2 = c := ⟨_, rfl⟩
      have bc : 0 ≤ c ∧ c ≤ 1 := hck ▸ addTo_carry xs ys hwa hwb k
      rw [hck] at hcar
      have HC := Lib.hid hck
      clear hck hx
      have hsz := hbel.size
      have hg1 := lt_of_block hcar
      obtain ⟨i0, hi, hz0, hz1, hz2⟩ := info_parts infoLimb
      go_wp2_with fail
      refine (carry0 c _ wr bc.1 (by omega) hcar).mono ?_
      rintro e w2 ⟨rfl, hcar2, hgr⟩
      have hblk2 := hblk.grown hgr (by simp)
      have hown : w2.ownsRow w.heap.size 112 1 (.slice (some ⟨w.heap.size, 0, none⟩) k (k + 1)) k ((addTo xs ys k).1.map (Value.int .u32)) := by
        have hnum := Num.ofBlk hblk2 (Nat.le_refl _) k (by simp [addTo_length]) (by simp [addTo_length]; unfold maxLen; omega)
        have e1 : ((addTo xs ys k).1 ++ List.replicate (k + 1 - k) 0).length = k + 1 := by rw [List.length_append, addTo_length, List.length_replicate]; omega
        have e2 : ((addTo xs ys k).1 ++ List.replicate (k + 1 - k) 0).take k = (addTo xs ys k).1 := List.take_left' (addTo_length xs ys k)
        rw [e1, e2] at hnum
        unfold Num at hnum
        rw [addTo_length] at hnum
        exact hnum
      go_wp2_with (at_builtin; refine wpList_append_fits _ rfl _ _ 42 rfl w.heap.size 112 i0 1 Tryz.underlying42 hi hz1 w.heap.size k (k + 1) ((addTo xs ys k).1.map (Value.int .u32)) rfl (hown.alloc _) ⟨w2.heap.size, 0, none⟩ 1 1 [.int .u32 (c % 4294967296)] rfl rfl (cell_one_new _ _ _) (by simp [Value.oneCell']) (by omega) ?_; intro w3 hown3 hgr3)
      have hnum : Num w.heap.size w3 (.slice (some ⟨w.heap.size, 0, none⟩) (k + 1) (k + 1)) (addL xs ys) := by
        have e : addL xs ys = (addTo xs ys k).1 ++ [c % 4294967296] := by
          unfold addL
          rw [HM.out, HC.out, Int.emod_eq_of_lt bc.1 (by omega)]
        rw [e]
        unfold Num
        rw [List.length_append, addTo_length, List.map_append]
        exact hown3
      have hb3 : Below w.heap.size w w3 := ((hbel.grown hgr (by omega) (fun j ej => by cases ej; omega)).alloc (by have := hgr.size; omega) _).grown hgr3 (by have := hgr.size; simp; omega) (fun j ej => by cases ej; exact Nat.le_refl _)
      refine (cut_num hnum).mono ?_
      rintro e w4 ⟨u, rfl, hu, rfl⟩
      go_wp2_with fail
      go_ret
      exact ⟨_, rfl, hu, hb3⟩
end
section
open Go.RowKit Go.Shelf
attribute [local go_sem] Oper.semAt_some
theorem wideCall {n : Nat} {P : Program} {f : FuncId} {args : Array Value} {w : World} {R : Ending → World → Prop} (h : Calls P f args w R) :
    Fence.wide.fn f ∧ (Fence.wide.depth.isSome = true → 1 ≤ n) ∧ CallsIn Fence.wide (n - 1) P f args w R := ⟨trivial, (fun h => by cases h), callsIn_wide.2 h⟩
theorem roundCall {n l : Nat} {P : Program} {f : FuncId} {args : Array Value} {w : World} {R : Ending → World → Prop} (h : Calls P f args w R) :
    (Fence.wide.inRound l).fn f ∧ ((Fence.wide.inRound l).depth.isSome = true → 1 ≤ n) ∧ CallsIn (Fence.wide.inRound l) (n - 1) P f args w R := ⟨trivial, (fun h => by cases h), CallsIn.inRound l (callsIn_wide.2 h)⟩
/-- the first k places -/
def Upto {n : Nat} (pre : List (Fin n)) (k : Nat) : Prop := pre.map Fin.val = List.range k
theorem Upto.nil {n : Nat} : Upto ([] : List (Fin n)) 0 := rfl
theorem Upto.snoc {n k : Nat} {pre : List (Fin n)} (h : Upto pre k) (hk : k < n) : Upto (pre ++ [⟨k, hk⟩]) (k + 1) := by
  unfold Upto at *
  rw [List.map_append, h, List.range_succ]
  rfl
theorem Upto.length {n k : Nat} {pre : List (Fin n)} (h : Upto pre k) : pre.length = k := by
  have := congrArg List.length h
  simpa using this
theorem range_limbs (xs : List Int) (m : Nat) (hm : m ≤ xs.length) : (List.range m).map (fun i => xs[i]?.getD 0) = xs.take m := by
  apply List.ext_getElem
  · simp; omega
  · intro i h1 h2
    simp at h1
    simp [show i < xs.length by omega]
theorem Upto.limbs {xs : List Int} {m : Nat} {ys : List (Fin m)} (h : Upto ys m) (hm : m ≤ xs.length) : ys.map (fun x => xs[x.val]?.getD 0) = xs.take m := by
  rw [← range_limbs xs m hm, ← h, List.map_map]
  rfl
/-- what a round is handed: the place, the limb -/
def limbAt (xs : List Int) {n : Nat} (x : Fin n) : Array Value := #[.int .i64 (x.val : Int), .int .u32 (xs[x.val]?.getD 0)]
set_option maxRecDepth 100000 in
set_option maxHeartbeats 2000000 in
theorem limbs1_in (n l Bs n₀ : Nat) (ad : Option Addr) (xs : List Int) (cap : Nat) (hm : xs.length ≤ 35184372088832) (hcap : xs.length ≤ cap) (hb : xs ≠ [] → ∀ a, ad = some a → a.block < n₀) (J Jx : List (Fin (trimN xs xs.length)) → World → Prop)
    (hY : ∀ pre x W, J pre W → pre.length < trimN xs xs.length → YieldAt Fence.wide (n - 1) Tryz.prog l (limbAt xs x) W fun e W' =>
      (e = .returned (.bool true) ∧ J (pre ++ [x]) W' ∧ Below n₀ W W') ∨ (e = .returned (.bool false) ∧ Jx (pre ++ [x]) W'))
    (W : World) (hBs : W.cell? ⟨Bs, 0, none⟩ = some (.slice ad xs.length cap)) (hl : Lim W ad xs) (h0 : J [] W) :
    CallsIn Fence.wide n Tryz.prog 154 #[.func (.yield l) #[] #[], .pointer (some ⟨Bs, 0, none⟩)] W fun e W' => (∃ v, e = .returned v) ∧
      ((∃ ys, Upto ys (trimN xs xs.length) ∧ J ys W') ∨ (∃ pre, (∃ k, k ≤ trimN xs xs.length ∧ Upto pre k) ∧ Jx pre W')) := by
  have hle := trim_le xs
  refine callsIn_of_wp Tryz.func154 rfl trivial ?_ rfl
  simp only [Tryz.ntmps154, List.size_toArray, List.length_cons, List.length_nil, Nat.reduceAdd, Nat.reduceSub, Array.replicate_succ, Array.replicate_zero, List.push_toArray, List.append_toArray, List.nil_append, List.cons_append]
  gi_wp2_with fail
  refine wideCall ((cut_any ad xs cap _ hl (by unfold maxLen; omega) hcap).mono ?_)
  rintro e w' ⟨rfl, rfl⟩
  generalize trimN xs xs.length = m at *
  gi_wp2_with fail
  gi_loopw [3, 4, 8] (fun _ _ i wr => ∃ (k : Nat) (pre : List (Fin m)), k ≤ m ∧ i = .int .i64 k ∧ Upto pre k ∧ J pre wr ∧ Below n₀ W wr)
    (fun _ _ i _ => m - (intOf i).toNat)
  case atStart => exact ⟨0, [], Nat.zero_le _, rfl, rfl, h0, Below.refl _ _⟩
  case round =>
    obtain ⟨k, pre, hk, rfl, hup, hJs, hnx⟩ := hrel
    by_cases hlt : k < m
    · rcases hl with rfl | ⟨b, off, rfl, hc⟩
      · simp at hle; omega
      · obtain ⟨fn, tmps, assign, body, hy, hR⟩ := hY pre ⟨k, hlt⟩ wr hJs (by rw [hup.length]; exact hlt)
        simp only [limbAt] at hy
        have hcx := (hnx.cell (p := ⟨b, off + k, none⟩) (hb (by rintro rfl; simp at hle; omega) ⟨b, off, none⟩ rfl)).trans (hc k (by omega))
        clear hc
        gi_wp2
        refine ⟨(fun h => by cases h), hR.mono ?_⟩
        rintro e W3 (⟨rfl, hJ3, hk3⟩ | ⟨rfl, hJx3⟩)
        · gi_wp2
          go_roundw
          case rel => exact ⟨k + 1, _, by omega, by go_num, hup.snoc hlt, hJ3, hnx.trans hk3⟩
          case measure => simp [intOf]; omega
        · gi_wp2
          refine bodyPost_ret (results_none rfl _ _ _) rfl ?_
          exact ⟨⟨_, rfl⟩, .inr ⟨_, ⟨k + 1, by omega, hup.snoc hlt⟩, hJx3⟩⟩
    · obtain rfl : k = m := by omega
      gi_wp2
      go_end0
      exact ⟨⟨_, rfl⟩, .inl ⟨_, hup, hJs⟩⟩
theorem limbs_any (ad : Option Addr) (n cap : Nat) (w : World) :
    Calls Tryz.prog 141 #[.slice ad n cap] w fun e w' => e = .returned (.func (.func 154) #[] #[.pointer (some ⟨w.heap.size, 0, none⟩)]) ∧ w' = w.alloc (.cells #[.slice ad n cap] 42) := by
  go_enter Tryz.func141, Tryz.ntmps141
  go_wp2
  go_ret
  exact ⟨rfl, rfl⟩
theorem limbs_stops (n Bs n₀ : Nat) (ad : Option Addr) (xs : List Int) (cap : Nat) (hm : xs.length ≤ 35184372088832) (hcap : xs.length ≤ cap) (hb : xs ≠ [] → ∀ a, ad = some a → a.block < n₀) (w : World) (hBs : Bs < w.heap.size)
    (hc : w.cell? ⟨Bs, 0, none⟩ = some (.slice ad xs.length cap)) (hl : Lim w ad xs) :
    SeqStopsK Fence.wide n Tryz.prog 154 #[.pointer (some ⟨Bs, 0, none⟩)] (limbAt xs (n := trimN xs xs.length)) (Below n₀) (fun ys => Upto ys (trimN xs xs.length)) (fun pre => ∃ k, k ≤ trimN xs xs.length ∧ Upto pre k) (trimN xs xs.length) w := fun l J Jx W hW _ _ hY h0 =>
  limbs1_in n l Bs n₀ ad xs cap hm hcap hb J Jx hY W ((hW.cell (p := ⟨Bs, 0, none⟩) hBs).trans hc) (hl.later hW) h0
end
section
open Go.RowKit Go.Shelf
attribute [local go_sem] Oper.semAt_some
set_option maxRecDepth 100000 in
set_option maxHeartbeats 2000000 in
theorem trim_any (ad : Option Addr) (xs : List Int) (cap : Nat) (w : World) (hl : Lim w ad xs) (hm : xs.length ≤ 35184372088832) (hcap : xs.length ≤ cap) :
    Calls Tryz.prog 121 #[.slice ad xs.length cap] w fun e w' => ∃ v, e = .returned v ∧ Num w.heap.size w' v (trim xs) ∧ Below w.heap.size w w' := by
  have hle := trim_le xs
  obtain ⟨i0, hi, hz0, hz1, hz2⟩ := info_parts infoLimb
  obtain ⟨n, hn⟩ : ∃ n : Nat, Hid (3 ≤ n) := ⟨3, Nat.le_refl 3⟩
  refine (callsIn_wide (n := n)).1 ?_
  refine callsIn_of_wp_marks Tryz.func121 rfl trivial ?_ rfl
  simp only [Tryz.ntmps121, List.size_toArray, List.length_cons, List.length_nil, Nat.reduceAdd, Nat.reduceSub, Array.replicate_succ, Array.replicate_zero, List.push_toArray, List.append_toArray, List.nil_append, List.cons_append]
  gi_wp2_with fail
  refine wideCall ((cut_any ad xs cap _ hl (by unfold maxLen; omega) hcap).mono ?_)
  rintro e w' ⟨rfl, rfl⟩
  obtain ⟨m, hmm⟩ : ∃ m, trimN xs xs.length = m := ⟨_, rfl⟩
  have hmk := make_run0 m (by omega)
  rw [hmm]
  rw [hmm] at hle
  have HM := Lib.hid hmm
  clear hmm
  gi_wp2_with fail
  refine wideCall ((limbs_any ad xs.length cap _).mono ?_)
  rintro e w' ⟨rfl, rfl⟩
  gi_wp2_with fail
  have h3 : 3 ≤ n := hn
  have bO := Boxed.new (w.alloc (Obj.cells (madeCells #[Value.int IntKind.u32 0] m) 112)) 42 (Value.slice (some ⟨w.heap.size, 0, none⟩) 0 m)
  have bN := Boxed.new ((w.alloc (Obj.cells (madeCells #[Value.int IntKind.u32 0] m) 112)).alloc (Obj.cells #[Value.slice (some ⟨w.heap.size, 0, none⟩) 0 m] 42)) 42 (Value.slice ad xs.length cap)
  have hown : ((w.alloc (Obj.cells (madeCells #[Value.int IntKind.u32 0] m) 112))).ownsRow w.heap.size 112 1 (Value.slice (some ⟨w.heap.size, 0, none⟩) 0 m) 0 [] :=
    ⟨rfl, .inr ⟨w.heap.size, m, _, rfl, Nat.le_refl _, heap_alloc_new w _, Nat.zero_le _, by unfold maxLen; omega, by simp [madeCells], by simp⟩⟩
  simp only [World.size_alloc] at bO bN
  have hB0 : Below w.heap.size w (((w.alloc (Obj.cells (madeCells #[Value.int IntKind.u32 0] m) 112)).alloc (Obj.cells #[Value.slice (some ⟨w.heap.size, 0, none⟩) 0 m] 42)).alloc (Obj.cells #[Value.slice ad xs.length cap] 42)) :=
    (((Below.refl _ w).alloc (Nat.le_refl _) _).alloc (by simp) _).alloc (by simp; omega) _
  refine wpIn_rangeFunc_ownG rfl (by omega) (gf := 154) (lb := #[.pointer (some ⟨w.heap.size + 1 + 1, 0, none⟩)]) rfl trivial (enters_of Tryz.func154 (by kernel_rfl) rfl)
    (limbs_stops (n - 1) (w.heap.size + 1 + 1) w.heap.size ad xs cap hm hcap hl.lt _ (by simp) bN.cell (hl.later hB0)) belowK_t (belowK_b (by simp; omega)) (Below.refl _ _) (fun _ => rfl)
    (fun (pre : List (Fin (trimN xs xs.length))) W => (∃ v, Boxed W (w.heap.size + 1) 42 v ∧ W.ownsRow w.heap.size 112 1 v pre.length (pre.map fun x => Value.int .u32 (xs[x.val]?.getD 0)) ∧ True) ∧ Below w.heap.size w W)
    (fun _ _ _ => False)
    (OwnFrom.and (Own.from (holdsRow_own w.heap.size (w.heap.size + 1) 42 112 1 (fun pre : List (Fin (trimN xs xs.length)) => pre.length) (fun pre => pre.map fun x => Value.int .u32 (xs[x.val]?.getD 0)) (fun _ _ => True)) _) (ownFrom_below (Nat.le_refl _) (by simp; omega)))
    (fun _ _ _ _ _ hs _ _ => hs)
    ⟨⟨_, bO.alloc _, (hown.alloc _).alloc _, trivial⟩, hB0⟩
    (fun (x : Fin (trimN xs xs.length)) => { tmps := #[.slice ad xs.length cap, undef, .slice none 0 0, .pointer (some ⟨w.heap.size + 1, 0, none⟩), undef, .int .u32 (xs[x.val]?.getD 0), .slice ad xs.length cap, .slice ad m cap, .int .i64 m, .slice (some ⟨w.heap.size, 0, none⟩) 0 m, .slice ad xs.length cap,
      .func (.func 154) #[] #[.pointer (some ⟨w.heap.size + 1 + 1, 0, none⟩)], .int .i64 (x.val : Int), .int .u32 (xs[x.val]?.getD 0), undef, undef, undef, undef, undef], defers := [] }) ?assign ?body ?done ?stop
  case assign =>
    intro l x W K hK
    simp only [limbAt]
    gi_wp2
    exact hK
  case body =>
    rintro l pre x W ⟨⟨v, hv, hrow, _⟩, hB⟩ hlt
    have hc := hv.cell
    have hpl : pre.length + 1 ≤ 35184372088832 := by have := HM.out; omega
    have hbs := hB.size
    gi_wp2_with (gi_at_builtin; refine wpListIn_append_own _ rfl _ _ 42 rfl w.heap.size 112 i0 (.int .u32 0) 1 4 Tryz.underlying42 hi hz0 hz1 hz2 rfl (by decide) _ _ _ rfl (hrow.alloc _) ⟨W.heap.size, 0, none⟩ 1 1 [.int .u32 (xs[x.val]?.getD 0)] rfl rfl (cell_one_new _ _ _) (by simp [Value.oneCell']) (by unfold maxLen; omega) (by omega) (by simp; omega) ?_; intro v' w1 hown' hgrow _; obtain ⟨g', cap', rfl⟩ := ownsRow_succ hown'; obtain ⟨hv1, hv2, hr2, hk2, hb2⟩ := hv.appended (by decide) hrow hB.size (Nat.le_succ _) hown' hgrow; have hc1 := hv1.cell; have hf1 := hv1.frozen)
    exact ⟨hk2.from _, hb2, ⟨_, hv2, by simpa using hr2, trivial⟩, hB.trans hb2⟩
  case done =>
    rintro D ys W hD hup ⟨⟨v, hv, hrow, _⟩, hB⟩ hK
    have hc := hv.cell
    gi_wp2
    refine ⟨by simp, .inl ⟨_, _, rfl, run_takeDeferred hK, ?_⟩⟩
    refine ⟨_, results_tmp rfl _ _ _, v, rfl, ?_, hB.trans (belowK_b (w := w) (Nat.le_refl _) W D _ _ (by simp at hD; omega) hK rfl rfl)⟩
    have h2 := ownsRow_putObj hrow (.deferred none) hK rfl
    have e : trim xs = ys.map (fun x => xs[x.val]?.getD 0) := (hup.limbs (trim_le xs)).symm
    unfold Num
    rw [e, List.length_map, List.map_map]
    exact h2
  case stop =>
    rintro D c pre W _ _ h _
    exact h.elim
end
section
open Go.RowKit
/-- no operation defers -/
def noDefer (ops : Array Oper) : Bool := ops.toList.all fun o => match o.op with | .defer _ => false | _ => true
theorem noDefer_spec {ops : Array Oper} (h : noDefer ops = true) {i : Nat} {o : Oper} (ho : ops[i]? = some o) (c : Call) : o.op ≠ .defer c := by
  intro e
  have hm : o ∈ ops.toList := by
    obtain ⟨hi, rfl⟩ := Array.getElem?_eq_some_iff.1 ho
    exact Array.getElem_mem_toList hi
  have := List.all_eq_true.1 h o hm
  rw [e] at this
  cases this
theorem wpIn_of_wp_round {l n : Nat} {P : Program} {o : Oper} {a : Act} {w : World} {K : Act → World → Prop} {Q : Exit → Act → World → Prop} (hnd : ∀ c, o.op ≠ .defer c)
    (h : o.wp P a w K Q) : o.wpIn (Fence.wide.inRound l) n P a w K Q := by
  unfold Oper.wpIn
  refine ⟨fun _ _ => trivial, ?_⟩
  rw [Oper.semAt_eq _ _ _ hnd]
  unfold Oper.wp at h
  generalize (execOp a.eval o).run P w = r at *
  cases r with
  | ok x w' =>
    cases x with
    | value v => exact h
    | skip => exact h
    | defer d => exact h
    | enter f args => exact ⟨(fun h => by cases h), callsIn_wide.2 h⟩
    | row r args => exact ⟨(fun h => by cases h), fun c cs _ => let ⟨v, w', r, s⟩ := h c cs; ⟨v, w', r, stepsIn_wide.2 s⟩⟩
    | _ => exact h.elim
  | halt x w' => cases x <;> exact h
theorem wpAnyIn_of_round {l n : Nat} {P : Program} {md : Region.Mode} {ops : Array Oper} {Q : Exit → Act → World → Prop} (hnd : noDefer ops = true) (hLO : ¬ LetsOut Q) :
    ∀ (fuel : Nat) (listed : Array Bool) (a : Act) (w : World), wpAny P md ops Q fuel listed a w → wpAnyIn (Fence.wide.inRound l) n P md ops Q fuel listed a w
  | 0, _, _, _, h => h
  | fuel + 1, _, _, _, h => ⟨h.1, fun i hi => by
    have h2 := h.2 i hi
    unfold wpOp at h2
    unfold wpOpIn
    split
    · rename_i he
      rw [he] at h2
      exact wpAnyIn_of_round hnd hLO fuel _ _ _ h2
    · rename_i o ho
      simp only [ho] at h2
      split
      · rename_i hw
        simp only [hw, if_true] at h2
        rcases h2 with h2 | h2
        · exact wpIn_of_wp_round (fun c => noDefer_spec hnd ho c) (Oper.wp_mono (fun a w ha => wpAnyIn_of_round hnd hLO fuel _ a w ha) h2)
        · exact absurd h2.2 hLO
      · rename_i hw
        simp only [hw] at h2
        exact ⟨fun _ _ => trivial, wpAnyIn_of_round hnd hLO fuel _ _ _ h2⟩⟩
theorem region_round {l n id : Nat} {P : Program} {ops : Array Oper} {Q : Exit → Act → World → Prop} {a : Act} {w : World} (S : World → Prop) (hm : P.follows .mixedOrders = true) (hnd : noDefer ops = true) (hLO : ¬ LetsOut Q)
    (hS : S w.drew) (h : S w.drew → wpAnyH P .any ops Q S ops.size (Array.replicate ops.size false) a w.drew) : (Code.region id ops true).wpIn (Fence.wide.inRound l) n P Q a w :=
  wpIn_region_any hm (wpAnyIn_of_round hnd hLO _ _ _ _ (wpAny_of_held _ _ _ _ (h hS)))
end
section
open Go.RowKit Go.Shelf
attribute [local go_sem] Oper.semAt_some
/-- the last k places, from above -/
def Downto {n : Nat} (pre : List (Fin n)) (k : Nat) : Prop := pre.length = k ∧ ∀ i (h : i < pre.length), (pre[i]).val + i + 1 = n
theorem Downto.nil {n : Nat} : Downto ([] : List (Fin n)) 0 := ⟨rfl, fun i h => by simp at h⟩
theorem Downto.snoc {n k : Nat} {pre : List (Fin n)} (h : Downto pre k) (x : Fin n) (hx : x.val + k + 1 = n) : Downto (pre ++ [x]) (k + 1) := by
  obtain ⟨h1, h2⟩ := h
  refine ⟨by simp [h1], fun i hi => ?_⟩
  by_cases hlt : i < pre.length
  · rw [List.getElem_append_left hlt]; exact h2 i hlt
  · have : i = k := by simp at hi; omega
    subst this
    rw [List.getElem_append_right (by omega)]
    simp [h1, hx]
set_option maxRecDepth 100000 in
set_option maxHeartbeats 2000000 in
theorem back1_in (n l Bs n₀ : Nat) (ad : Option Addr) (xs : List Int) (cap : Nat) (hm : xs.length ≤ 35184372088832) (hBn : Bs < n₀) (hb : xs ≠ [] → ∀ a, ad = some a → a.block < n₀) (J Jx : List (Fin xs.length) → World → Prop)
    (hY : ∀ pre x W, J pre W → pre.length < xs.length → YieldAt Fence.wide (n - 1) Tryz.prog l (limbAt xs x) W fun e W' =>
      (e = .returned (.bool true) ∧ J (pre ++ [x]) W' ∧ Below n₀ W W') ∨ (e = .returned (.bool false) ∧ Jx (pre ++ [x]) W'))
    (W : World) (hBs : W.cell? ⟨Bs, 0, none⟩ = some (.slice ad xs.length cap)) (hl : Lim W ad xs) (h0 : J [] W) :
    CallsIn Fence.wide n Tryz.prog 152 #[.func (.yield l) #[] #[], .pointer (some ⟨Bs, 0, none⟩)] W fun e W' => (∃ v, e = .returned v) ∧
      ((∃ ys, Downto ys xs.length ∧ J ys W') ∨ (∃ pre, (∃ k, k ≤ xs.length ∧ Downto pre k) ∧ Jx pre W')) := by
  refine callsIn_of_wp Tryz.func152 rfl trivial ?_ rfl
  simp only [Tryz.ntmps152, List.size_toArray, List.length_cons, List.length_nil, Nat.reduceAdd, Nat.reduceSub, Array.replicate_succ, Array.replicate_zero, List.push_toArray, List.append_toArray, List.nil_append, List.cons_append]
  gi_wp2_with fail
  gi_loopw [3] (fun i wr => ∃ (k : Nat) (pre : List (Fin xs.length)), k ≤ xs.length ∧ i = .int .i64 ((xs.length : Int) - 1 - k) ∧ Downto pre k ∧ J pre wr ∧ Below n₀ W wr)
    (fun i _ => (intOf i + 1).toNat)
  case atStart => exact ⟨0, [], Nat.zero_le _, by simp, Downto.nil, h0, Below.refl _ _⟩
  case round =>
    obtain ⟨k, pre, hk, rfl, hdn, hJs, hnx⟩ := hrel
    have hBr := (hnx.cell (p := ⟨Bs, 0, none⟩) hBn).trans hBs
    by_cases hlt : k < xs.length
    · rcases hl with rfl | ⟨b, off, rfl, hc⟩
      · simp at hlt
      · obtain ⟨j, hj⟩ : ∃ j, j + k + 1 = xs.length := ⟨xs.length - k - 1, by omega⟩
        have hji : ((xs.length : Int) - 1 - k) = (j : Int) := by omega
        rw [hji]
        have hjl : j < xs.length := by omega
        obtain ⟨fn, tmps, assign, body, hy, hR⟩ := hY pre ⟨j, hjl⟩ wr hJs (by rw [hdn.1]; exact hlt)
        simp only [limbAt] at hy
        have hcx := (hnx.cell (p := ⟨b, off + j, none⟩) (hb (by rintro rfl; simp at hlt) ⟨b, off, none⟩ rfl)).trans (hc j (by omega))
        have ej : xs[j]?.getD 0 = xs[j] := by simp [hjl]
        rw [ej] at hy
        have HJ := Lib.hid hj
        clear hc hj hji ej
        gi_wp2
        refine ⟨(fun h => by cases h), hR.mono ?_⟩
        rintro e W3 (⟨rfl, hJ3, hk3⟩ | ⟨rfl, hJx3⟩)
        · gi_wp2
          go_roundw
          case rel => exact ⟨k + 1, _, by omega, by have := HJ.out; congr 1; omega, hdn.snoc ⟨j, hjl⟩ HJ.out, hJ3, hnx.trans hk3⟩
          case measure => simp [intOf]
        · gi_wp2
          refine bodyPost_ret (results_none rfl _ _ _) rfl ?_
          exact ⟨⟨_, rfl⟩, .inr ⟨_, ⟨k + 1, by omega, hdn.snoc ⟨j, hjl⟩ HJ.out⟩, hJx3⟩⟩
    · obtain rfl : k = xs.length := by omega
      have hji : ((xs.length : Int) - 1 - xs.length) = -1 := by omega
      rw [hji]
      clear hji
      gi_wp2
      go_end0
      exact ⟨⟨_, rfl⟩, .inl ⟨_, hdn, hJs⟩⟩
theorem back_any (ad : Option Addr) (n cap : Nat) (w : World) :
    Calls Tryz.prog 139 #[.slice ad n cap] w fun e w' => e = .returned (.func (.func 152) #[] #[.pointer (some ⟨w.heap.size, 0, none⟩)]) ∧ w' = w.alloc (.cells #[.slice ad n cap] 42) := by
  go_enter Tryz.func139, Tryz.ntmps139
  go_wp2
  go_ret
  exact ⟨rfl, rfl⟩
theorem back_stops (n Bs n₀ : Nat) (ad : Option Addr) (xs : List Int) (cap : Nat) (hm : xs.length ≤ 35184372088832) (hBn : Bs < n₀) (hb : xs ≠ [] → ∀ a, ad = some a → a.block < n₀) (w : World) (hBs : Bs < w.heap.size)
    (hc : w.cell? ⟨Bs, 0, none⟩ = some (.slice ad xs.length cap)) (hl : Lim w ad xs) :
    SeqStopsK Fence.wide n Tryz.prog 152 #[.pointer (some ⟨Bs, 0, none⟩)] (limbAt xs (n := xs.length)) (Below n₀) (fun ys => Downto ys xs.length) (fun pre => ∃ k, k ≤ xs.length ∧ Downto pre k) xs.length w := fun l J Jx W hW _ _ hY h0 =>
  back1_in n l Bs n₀ ad xs cap hm hBn hb J Jx hY W ((hW.cell (p := ⟨Bs, 0, none⟩) hBs).trans hc) (hl.later hW) h0
end
section
open Go.RowKit Go.Shelf
attribute [local go_sem] Oper.semAt_some
/-- what Cmp comes to, of numbers without zeros at the end -/
def CmpT (us vs : List Int) (r : Int) : Prop :=
  (us.length ≠ vs.length ∧ r = sign us.length vs.length) ∨
  (us.length = vs.length ∧ (∀ i, i < us.length → us[i]?.getD 0 = vs[i]?.getD 0) ∧ r = 0) ∨
  (us.length = vs.length ∧ ∃ i, i < us.length ∧ us[i]?.getD 0 ≠ vs[i]?.getD 0 ∧ (∀ j, i < j → j < us.length → us[j]?.getD 0 = vs[j]?.getD 0) ∧ r = sign (us[i]?.getD 0) (vs[i]?.getD 0))
set_option maxRecDepth 100000 in
set_option maxHeartbeats 2000000 in
theorem cmp_any (a b : Option Addr) (xs ys : List Int) (capa capb : Nat) (w : World) (hla : Lim w a xs) (hlb : Lim w b ys) (hma : xs.length ≤ 35184372088832) (hmb : ys.length ≤ 35184372088832)
    (hca : xs.length ≤ capa) (hcb : ys.length ≤ capb) :
    Calls Tryz.prog 112 #[.slice a xs.length capa, .slice b ys.length capb] w fun e w' => ∃ r, e = .returned (.int .i64 r) ∧ CmpT (trim xs) (trim ys) r ∧ Below w.heap.size w w' := by
  have hta := trim_le xs
  have htb := trim_le ys
  obtain ⟨n, hn⟩ : ∃ n : Nat, Hid (3 ≤ n) := ⟨3, Nat.le_refl 3⟩
  refine (callsIn_wide (n := n)).1 ?_
  refine callsIn_of_wp_marks Tryz.func112 rfl trivial ?_ rfl
  simp only [Tryz.ntmps112, List.size_toArray, List.length_cons, List.length_nil, Nat.reduceAdd, Nat.reduceSub, Array.replicate_succ, Array.replicate_zero, List.push_toArray, List.append_toArray, List.nil_append, List.cons_append]
  gi_wp2_with fail
  have bB := (Boxed.new w 42 (.slice b ys.length capb)).alloc (Obj.cells #[Value.int IntKind.i64 0] 3)
  have bR := Boxed.new (w.alloc (.cells #[.slice b ys.length capb] 42)) 3 (.int .i64 0)
  have hB0 : Below w.heap.size w ((w.alloc (.cells #[.slice b ys.length capb] 42)).alloc (Obj.cells #[Value.int IntKind.i64 0] 3)) := ((Below.refl _ w).alloc (Nat.le_refl _) _).alloc (by simp) _
  rw [World.size_alloc] at bR
  generalize (w.alloc (.cells #[.slice b ys.length capb] 42)).alloc (Obj.cells #[Value.int IntKind.i64 0] 3) = W at *
  have hcB := bB.cell
  have hfB := bB.frozen
  have hla' : Lim W.drew a xs := hla.later hB0.drew
  have hlb' : Lim W.drew b ys := hlb.later hB0.drew
  refine wpIn_wide.2 ?_
  go_still_tail 5, (by kernel_rfl)
  still_call (cut_still a xs capa _ hla' hma hca)
  repeat still_step
  still_call (cut_still b ys capb _ hlb' hmb hcb)
  repeat still_step
  refine wpStill_nil ?_
  have hlu : Lim w a (trim xs) := hla.take _
  have hlv : Lim w b (trim ys) := hlb.take _
  rw [← trim_length xs, ← trim_length ys]
  have hlen1 : (trim xs).length ≤ 35184372088832 := by rw [trim_length]; omega
  have hlen2 : (trim ys).length ≤ 35184372088832 := by rw [trim_length]; omega
  clear hla hlb hla' hlb' hta htb
  obtain ⟨us, hus⟩ : ∃ us, trim xs = us := ⟨_, rfl⟩
  obtain ⟨vs, hvs⟩ : ∃ vs, trim ys = vs := ⟨_, rfl⟩
  rw [hus] at hlu hlen1 ⊢
  rw [hvs] at hlv hlen2 ⊢
  have HU := Lib.hid hus
  have HV := Lib.hid hvs
  clear hus hvs
  go_wp2_with fail
  have bB2 : Boxed (W.setCell ⟨w.heap.size, 0, none⟩ (.slice b vs.length capb)).drew w.heap.size 42 (.slice b vs.length capb) := bB.set _
  have bR1 : Boxed (W.setCell ⟨w.heap.size, 0, none⟩ (.slice b vs.length capb)) (w.heap.size + 1) 3 (.int .i64 0) := bR.kept (grownBy_setCell' W w.heap.size _) (by simp)
  have bR2 : Boxed (W.setCell ⟨w.heap.size, 0, none⟩ (.slice b vs.length capb)).drew (w.heap.size + 1) 3 (.int .i64 0) := bR1
  have hB2 : Below w.heap.size w (W.setCell ⟨w.heap.size, 0, none⟩ (.slice b vs.length capb)).drew := (hB0.setCell (p := ⟨w.heap.size, 0, none⟩) (Nat.le_refl _) _).drew
  have hlu2 := hlu.later hB2
  have hlv2 := hlv.later hB2
  clear bB bR bR1 hB0 hcB hfB hlu hlv
  generalize (W.setCell ⟨w.heap.size, 0, none⟩ (.slice b vs.length capb)).drew = V at *
  have hcB := bB2.cell
  have hcR := bR2.cell
  have hfR := bR2.frozen
  have hsz := hB2.size
  by_cases hne : us.length = vs.length
  · have hne2 : ((us.length : Int) != (vs.length : Int)) = false := by simp; omega
    have HE := Lib.hid hne
    clear hne
    have hbu : us ≠ [] → ∀ x, a = some x → x.block < V.heap.size + 1 := fun h x hx => Nat.lt_succ_of_lt (hlu2.lt h x hx)
    gi_wp2_with fail
    refine wideCall ((back_any _ _ _ _).mono ?_)
    rintro e w' ⟨rfl, rfl⟩
    gi_wp2_with fail
    have h3 : 3 ≤ n := hn
    have bN := Boxed.new V 42 (.slice a us.length capa)
    refine wpIn_rangeFunc_ownF rfl (by omega) (gf := 152) (lb := #[.pointer (some ⟨V.heap.size, 0, none⟩)]) rfl trivial (enters_of Tryz.func152 (by kernel_rfl) rfl)
      (back_stops (n - 1) V.heap.size (V.heap.size + 1) a us capa hlen1 (Nat.lt_succ_self _) hbu _ (by simp) bN.cell (hlu2.later ((Below.refl _ V).alloc (Nat.le_refl _) _))) belowK_t (belowK_b (by simp)) (Below.refl _ _) (fun _ => rfl)
      (fun (pre : List (Fin us.length)) X => (∀ x ∈ pre, us[x.val]?.getD 0 = vs[x.val]?.getD 0) ∧ Below (V.heap.size + 1) (V.alloc (.cells #[.slice a us.length capa] 42)) X)
      (fun c pre X => (c = .ret ∧ ∃ ini last, pre = ini ++ [last] ∧ (∀ x ∈ ini, us[x.val]?.getD 0 = vs[x.val]?.getD 0) ∧ us[last.val]?.getD 0 ≠ vs[last.val]?.getD 0 ∧ X.cell? ⟨w.heap.size + 1, 0, none⟩ = some (.int .i64 (sign (us[last.val]?.getD 0) (vs[last.val]?.getD 0)))) ∧ Below w.heap.size w X)
      (OwnFrom.and (Own.from (fun s A B row hs hg hr => hs) _) (ownFrom_below (by simp) (by simp)))
      (fun c => OwnFrom.and (Own.from (fun s A B row hs hg hr => by obtain ⟨hc, ini, last, e1, e2, e3, e4⟩ := hs; exact ⟨hc, ini, last, e1, e2, e3, cell_kept e4 hg hr⟩) _) (ownFrom_below (Nat.le_refl _) (by simp; omega)))
      ⟨by simp, Below.refl _ _⟩
      (fun (x : Fin us.length) => { tmps := #[.slice a us.length capa, .slice b ys.length capb, undef, .pointer (some ⟨w.heap.size, 0, none⟩), .pointer (some ⟨w.heap.size + 1, 0, none⟩), .int .i64 (x.val : Int), .int .u32 (us[x.val]?.getD 0),
        .slice a xs.length capa, .slice a us.length capa, .slice b ys.length capb, .slice b vs.length capb, .slice a us.length capa, .int .i64 us.length, .slice b vs.length capb, .int .i64 vs.length, .bool false, undef, undef, undef, undef, undef,
        .slice a us.length capa, .func (.func 152) #[] #[.pointer (some ⟨V.heap.size, 0, none⟩)], .int .i64 (x.val : Int), .int .u32 (us[x.val]?.getD 0), undef, undef, undef, undef, undef, undef, undef, undef, undef, undef, undef, undef], defers := [] }) ?assign ?body ?done ?stop
    case assign =>
      intro l x X K hK
      simp only [limbAt]
      rw [show us[x.val]?.getD 0 = us[x.val] by simp] at hK
      gi_wp2
      exact hK
    case body =>
      rintro l pre ⟨k, hk⟩ X ⟨hpre, hB⟩ hlt
      have hE := HE.out
      rcases hlv2 with rfl | ⟨bb, off, rfl, hcv⟩
      · simp only [List.length_nil] at hE; omega
      have cB := (hB.cell (p := ⟨w.heap.size, 0, none⟩) (show w.heap.size < V.heap.size + 1 by have := bB2.lt; omega)).trans (bB2.alloc (Obj.cells #[.slice a us.length capa] 42)).cell
      have cR : Boxed X (w.heap.size + 1) 3 (.int .i64 0) := (hB.block _ (by have := bR2.lt; omega)).trans (bR2.alloc (Obj.cells #[.slice a us.length capa] 42))
      have hvl : bb < V.heap.size := World.block_lt_of_cell? V _ (hcv k (by omega))
      have cV := (hB.cell (p := ⟨bb, off + k, none⟩) (Nat.lt_succ_of_lt hvl)).trans ((World.cell?_alloc_lt V (Obj.cells #[.slice a us.length capa] 42) ⟨bb, off + k, none⟩ hvl).trans (hcv k (by omega)))
      have hkv : k < vs.length := by omega
      have cR0 := cR.cell
      have cRf := cR.frozen
      have cR2 : ∀ r, (X.setCell ⟨w.heap.size + 1, 0, none⟩ r).cell? ⟨w.heap.size + 1, 0, none⟩ = some r := fun r => (cR.set r).cell
      have hBX : Below w.heap.size w X := ((hB2.alloc hsz _).trans (hB.mono (by omega)))
      obtain ⟨u, hu⟩ : ∃ u, us[k]?.getD 0 = u := ⟨_, rfl⟩
      obtain ⟨v, hv⟩ : ∃ v, vs.getD k 0 = v := ⟨_, rfl⟩
      rw [hv] at cV
      simp only [hu]
      have HU2 := Lib.hid hu
      have HV2 := Lib.hid hv
      clear hu hv hE hcv cR bB2 bR2 hB2 hlu2 hcB hcR hfR bN
      by_cases e : u = v
      · subst e
        have hne3 : (u != u) = false := by simp
        gi_wp2_with fail
        refine ⟨KeepsOthers.refl _, Below.refl _ _, ?_, hB⟩
        intro y hy
        rcases List.mem_append.1 hy with hy | hy
        · exact hpre y hy
        · simp only [List.mem_singleton] at hy
          subst hy
          exact HU2.out.trans HV2.out.symm
      · have hne3 : (u != v) = true := by simp [e]
        gi_wp2_with fail
        refine roundCall ((cmpLimb_any _ _ _).mono ?_)
        rintro e w' ⟨rfl, rfl⟩
        gi_wp2_with fail
        have e1 : us[k]?.getD 0 = u := HU2.out
        have e2 : vs[k]?.getD 0 = v := HV2.out
        refine ⟨KeepsOthers.setCell _ _ _, ⟨rfl, pre, ⟨k, hk⟩, rfl, hpre, by rw [e1, e2]; exact e, ?_⟩, hBX.setCell (p := ⟨w.heap.size + 1, 0, none⟩) (Nat.le_succ _) _⟩
        rw [e1, e2]
        exact cR2 _
    case done =>
      rintro D ys' X hD hdn ⟨hall, hB⟩ hK
      rw [World.size_alloc] at hD
      have cR : Boxed X (w.heap.size + 1) 3 (.int .i64 0) := (hB.block _ (by have := bR2.lt; omega)).trans (bR2.alloc (Obj.cells #[.slice a us.length capa] 42))
      have cR0 := cR.cell
      have cRf := cR.frozen
      have hBX : Below w.heap.size w X := ((hB2.alloc hsz _).trans (hB.mono (by omega)))
      have hE := HE.out
      clear hcB hcR hfR bN hbu
      gi_wp2
      have hK' := (KeepsOthers.setCell X ⟨w.heap.size + 1, 0, none⟩ (.int .i64 0)).same D _ hK rfl
      refine ⟨by simp, .inl ⟨_, _, rfl, run_takeDeferred hK', ?_⟩⟩
      have hc5 := cell_kept ((cR.set (.int .i64 0)).cell) (grownBy_putObj' _ D (.deferred none)) (fun r e => by cases e; exact ⟨_, hK', rfl⟩)
      refine ⟨.int .i64 0, by simp [results, Tryz.f112, go_sem, hc5], 0, rfl, ?_, (hBX.setCell (p := ⟨w.heap.size + 1, 0, none⟩) (Nat.le_succ _) _).trans (belowK_b (w := w) (Nat.le_refl _) _ D _ _ (by omega) hK' rfl rfl)⟩
      rw [HU.out, HV.out]
      refine .inr (.inl ⟨hE, fun i hi => ?_, rfl⟩)
      obtain ⟨h1, h2⟩ := hdn
      have h3 := h2 (us.length - 1 - i) (by omega)
      have h4 := hall _ (List.getElem_mem (show us.length - 1 - i < ys'.length by omega))
      rw [show (ys'[us.length - 1 - i]'(by omega)).val = i from by omega] at h4
      exact h4
    case stop =>
      rintro D c pre X hD ⟨k, hk, hdn⟩ ⟨⟨rfl, ini, last, e1, e2, e3, hcr⟩, hB⟩ hK
      rw [World.size_alloc] at hD
      have hE := HE.out
      clear hcB hcR hfR bN hbu
      gi_wp2
      refine ⟨by simp, .inl ⟨_, _, rfl, run_takeDeferred hK, ?_⟩⟩
      have hc5 := cell_kept hcr (grownBy_putObj' _ D (.deferred none)) (fun r e => by cases e; exact ⟨_, hK, rfl⟩)
      refine ⟨.int .i64 (sign (us[last.val]?.getD 0) (vs[last.val]?.getD 0)), by simp [results, Tryz.f112, go_sem, hc5], _, rfl, ?_, hB.trans (belowK_b (w := w) (Nat.le_refl _) _ D _ _ (by omega) hK rfl rfl)⟩
      rw [HU.out, HV.out]
      refine .inr (.inr ⟨hE, last.val, last.isLt, e3, fun j hj1 hj2 => ?_, rfl⟩)
      obtain ⟨h1, h2⟩ := hdn
      subst e1
      have hl : (ini ++ [last]).length = ini.length + 1 := by simp
      have h3 := h2 ini.length (by omega)
      rw [List.getElem_append_right (by omega)] at h3
      simp only [Nat.sub_self, List.getElem_cons_zero] at h3
      have hj3 : us.length - 1 - j < ini.length := by omega
      have h4 := h2 (us.length - 1 - j) (by omega)
      rw [List.getElem_append_left hj3] at h4
      have h5 := e2 _ (List.getElem_mem hj3)
      rw [show (ini[us.length - 1 - j]).val = j from by omega] at h5
      exact h5
  · have hne2 : ((us.length : Int) != (vs.length : Int)) = true := by simp; omega
    gi_wp2_with fail
    refine wideCall ((cmpInt_any _ _ _).mono ?_)
    rintro e w' ⟨rfl, rfl⟩
    have hcr2 := (bR2.set (.int .i64 (sign us.length vs.length))).cell
    gi_wp2_with fail
    refine ⟨.int .i64 (sign us.length vs.length), by simp [results, Tryz.f112, go_sem, hcr2], _, rfl, ?_, hB2.setCell (p := ⟨w.heap.size + 1, 0, none⟩) (Nat.le_succ _) _⟩
    rw [HU.out, HV.out]
    exact .inl ⟨hne, rfl⟩
end
section
open Go.RowKit Go.Shelf
attribute [local go_sem] Oper.semAt_some
/-- one round of a difference: the limbs, the carry -/
def subStep (xs ys : List Int) (s : List Int × Int) (k : Nat) : List Int × Int :=
  (s.1.set k ((s.2 + xs.getD k 0 + (4294967295 - ys.getD k 0)) % 4294967296), (s.2 + xs.getD k 0 + (4294967295 - ys.getD k 0)) / 4294967296)
def subOf (xs ys : List Int) (m : Nat) (ks : List Nat) : List Int × Int := ks.foldl (subStep xs ys) (List.replicate m 0, 1)
/-- the difference's limbs -/
def subL (xs ys : List Int) : List Int := (subOf xs ys (trimN xs xs.length) (List.range (trimN xs xs.length))).1
theorem subOf_snoc (xs ys : List Int) (m : Nat) (ks : List Nat) (k : Nat) : subOf xs ys m (ks ++ [k]) = subStep xs ys (subOf xs ys m ks) k := by simp [subOf]
theorem subOf_ok (xs ys : List Int) (m : Nat) (hx : Wf xs) (hy : Wf ys) (ks : List Nat) : (subOf xs ys m ks).1.length = m ∧ 0 ≤ (subOf xs ys m ks).2 ∧ (subOf xs ys m ks).2 < 4294967296 := by
  suffices h : ∀ s : List Int × Int, s.1.length = m ∧ 0 ≤ s.2 ∧ s.2 < 4294967296 → ((ks.foldl (subStep xs ys) s).1.length = m ∧ 0 ≤ (ks.foldl (subStep xs ys) s).2 ∧ (ks.foldl (subStep xs ys) s).2 < 4294967296) from
    h _ ⟨by simp, by simp, by simp⟩
  induction ks with
  | nil => exact fun s h => h
  | cons k ks ih =>
    intro s h
    refine ih _ ?_
    have h1 := hx.getD k
    have h2 := hy.getD k
    simp only [subStep, List.length_set]
    omega
theorem blk_own {β : Type} (g : Nat) (f : β → List Int) : Own (fun s W => Blk W g (f s)) := fun s X Y row hs hg hrow =>
  hs.grown hg (fun e' => by obtain ⟨o, ho, hc⟩ := hrow g e'.symm; rw [show X.heap[g]? = _ from hs] at ho; cases ho; cases hc)
theorem Boxed.far {W : World} {B : Nat} {t : TypeId} {v : Value} (h : Boxed W B t v) {p : Addr} (hne : B ≠ p.block) (u : Value) : Boxed (W.setCell p u) B t v := (Below.heap_setCell _ _ _ _ hne).trans h
theorem Own.and2 {β : Type} {I J : β → World → Prop} (h : Own I) (k : Own J) : Own (fun s W => I s W ∧ J s W) := fun s X Y row hs hg hr => ⟨h s X Y row hs.1 hg hr, k s X Y row hs.2 hg hr⟩
set_option maxRecDepth 100000 in
set_option maxHeartbeats 4000000 in
set_option linter.unusedSimpArgs false in
theorem sub_any (a b : Option Addr) (xs ys : List Int) (capa capb : Nat) (w : World) (hla : Lim w a xs) (hlb : Lim w b ys) (hma : xs.length ≤ 35184372088832) (hmb : ys.length ≤ 35184372088832)
    (hca : xs.length ≤ capa) (hcb : ys.length ≤ capb) (hwa : Wf xs) (hwb : Wf ys) :
    Calls Tryz.prog 113 #[.slice a xs.length capa, .slice b ys.length capb] w fun e w' => ∃ r, CmpT (trim xs) (trim ys) r ∧ Below w.heap.size w w' ∧
      (r < 0 → e = .returned (.tuple #[.slice none 0 0, .int .i64 20])) ∧ (0 ≤ r → ∃ v, e = .returned (.tuple #[v, .int .i64 0]) ∧ Num w.heap.size w' v (trim (subL xs ys))) := by
  have hta := trim_le xs
  obtain ⟨n, hn⟩ : ∃ n : Nat, Hid (3 ≤ n) := ⟨3, Nat.le_refl 3⟩
  refine (callsIn_wide (n := n)).1 ?_
  refine callsIn_of_wp_marks Tryz.func113 rfl trivial ?_ rfl
  simp only [Tryz.ntmps113, List.size_toArray, List.length_cons, List.length_nil, Nat.reduceAdd, Nat.reduceSub, Array.replicate_succ, Array.replicate_zero, List.push_toArray, List.append_toArray, List.nil_append, List.cons_append]
  gi_wp2_with fail
  have bB0 := Boxed.new w 42 (.slice b ys.length capb)
  have hB0 : Below w.heap.size w (w.alloc (.cells #[.slice b ys.length capb] 42)) := (Below.refl _ w).alloc (Nat.le_refl _) _
  have hla0 := hla.later hB0
  have hlb0 := hlb.later hB0
  have hs0 : (w.alloc (.cells #[.slice b ys.length capb] 42)).heap.size = w.heap.size + 1 := by simp
  refine wideCall ((cmp_any a b xs ys capa capb _ hla0 hlb0 hma hmb hca hcb).mono ?_)
  rintro e V ⟨r, rfl, hr, hBV⟩
  rw [hs0] at hBV
  have bB : Boxed V w.heap.size 42 (.slice b ys.length capb) := (hBV.block _ (by omega)).trans bB0
  have hV : Below w.heap.size w V := hB0.trans (hBV.mono (by omega))
  have hlaV := hla.later hV
  have hlbV := hlb.later hV
  have hsV : w.heap.size + 1 ≤ V.heap.size := by have := hBV.size; omega
  clear hBV hla0 hlb0 hB0 bB0 hs0
  by_cases hneg : r < 0
  · gi_wp2_with fail
    refine ⟨_, results_tmp2 rfl _ _ _, r, hr, hV, fun _ => rfl, fun h => by omega⟩
  · have hneg2 : 0 ≤ r := by omega
    have hdec : decide (r < 0) = false := decide_eq_false hneg
    have HR := Lib.hid hr
    clear hr hneg
    gi_wp2_with fail
    refine wideCall ((cut_any a xs capa _ hlaV (by unfold maxLen; omega) hca).mono ?_)
    rintro e w' ⟨rfl, rfl⟩
    obtain ⟨m, hmm⟩ : ∃ m, trimN xs xs.length = m := ⟨_, rfl⟩
    have hmk := make_runN m m (Nat.le_refl _) (by omega)
    rw [hmm]
    rw [hmm] at hta
    have HM := Lib.hid hmm
    clear hmm
    gi_wp2_with fail
    refine wideCall ((carrier_any _ _).mono ?_)
    rintro e w' ⟨rfl, rfl⟩
    have k1 := (((Blk.made V m).alloc (Obj.cells #[Value.slice (some ⟨V.heap.size, 0, none⟩) m m] 42)).alloc (Obj.cells #[Value.int .u64 1] 117))
    have k2 := (Boxed.new (V.alloc (Obj.cells (madeCells #[Value.int .u32 0] m) 112)) 42 (Value.slice (some ⟨V.heap.size, 0, none⟩) m m)).alloc (Obj.cells #[Value.int .u64 1] 117)
    have k3 := Boxed.new ((V.alloc (Obj.cells (madeCells #[Value.int .u32 0] m) 112)).alloc (Obj.cells #[Value.slice (some ⟨V.heap.size, 0, none⟩) m m] 42)) 117 (.int .u64 1)
    have k4 : Below V.heap.size V (((V.alloc (Obj.cells (madeCells #[Value.int .u32 0] m) 112)).alloc (Obj.cells #[Value.slice (some ⟨V.heap.size, 0, none⟩) m m] 42)).alloc (Obj.cells #[Value.int .u64 1] 117)) :=
      (((Below.refl _ V).alloc (Nat.le_refl _) _).alloc (by simp) _).alloc (by simp; omega) _
    have k5 : (((V.alloc (Obj.cells (madeCells #[Value.int .u32 0] m) 112)).alloc (Obj.cells #[Value.slice (some ⟨V.heap.size, 0, none⟩) m m] 42)).alloc (Obj.cells #[Value.int .u64 1] 117)).heap.size = V.heap.size + 1 + 1 + 1 := by simp
    simp only [World.size_alloc] at k2 k3
    simp only [World.size_alloc]
    generalize (((V.alloc (Obj.cells (madeCells #[Value.int .u32 0] m) 112)).alloc (Obj.cells #[Value.slice (some ⟨V.heap.size, 0, none⟩) m m] 42)).alloc (Obj.cells #[Value.int .u64 1] 117)) = W3 at *
    have k6 := Boxed.new W3 169 .nilFunc
    rw [k5] at k6
    have k6c := k6.cell
    have k6f := k6.frozen
    have K5 := Lib.hid k5
    have k5' := k5
    clear k5
    gi_wp2_with fail
    refine wideCall ((limbs_any a xs.length capa _).mono ?_)
    rintro e w' ⟨rfl, rfl⟩
    gi_wp2_with fail
    have j1 := (k1.alloc (Obj.cells #[Value.func (.func 150) #[] #[.pointer (some ⟨V.heap.size + 1 + 1, 0, none⟩)]] 169)).alloc (Obj.cells #[Value.slice a xs.length capa] 42)
    have j2 := (k2.alloc (Obj.cells #[Value.func (.func 150) #[] #[.pointer (some ⟨V.heap.size + 1 + 1, 0, none⟩)]] 169)).alloc (Obj.cells #[Value.slice a xs.length capa] 42)
    have j3 := (k3.alloc (Obj.cells #[Value.func (.func 150) #[] #[.pointer (some ⟨V.heap.size + 1 + 1, 0, none⟩)]] 169)).alloc (Obj.cells #[Value.slice a xs.length capa] 42)
    have j4 := (Boxed.new W3 169 (Value.func (.func 150) #[] #[.pointer (some ⟨V.heap.size + 1 + 1, 0, none⟩)])).alloc (Obj.cells #[Value.slice a xs.length capa] 42)
    have j5 := Boxed.new (W3.alloc (Obj.cells #[Value.func (.func 150) #[] #[.pointer (some ⟨V.heap.size + 1 + 1, 0, none⟩)]] 169)) 42 (Value.slice a xs.length capa)
    have j6 : Below V.heap.size V ((W3.alloc (Obj.cells #[Value.func (.func 150) #[] #[.pointer (some ⟨V.heap.size + 1 + 1, 0, none⟩)]] 169)).alloc (Obj.cells #[Value.slice a xs.length capa] 42)) :=
      (k4.alloc (by omega) _).alloc (by simp; omega) _
    have j7 : ((W3.alloc (Obj.cells #[Value.func (.func 150) #[] #[.pointer (some ⟨V.heap.size + 1 + 1, 0, none⟩)]] 169)).alloc (Obj.cells #[Value.slice a xs.length capa] 42)).heap.size = V.heap.size + 5 := by simp; omega
    rw [k5'] at j4
    rw [World.size_alloc, k5'] at j5
    generalize ((W3.alloc (Obj.cells #[Value.func (.func 150) #[] #[.pointer (some ⟨V.heap.size + 1 + 1, 0, none⟩)]] 169)).alloc (Obj.cells #[Value.slice a xs.length capa] 42)) = W5 at *
    clear k1 k2 k3 k4 k6 k6c k6f K5 k5' hmk hneg2
    have h3 : 3 ≤ n := hn
    refine wpIn_rangeFunc_ownF rfl (by omega) (gf := 154) (lb := #[.pointer (some ⟨V.heap.size + 1 + 1 + 1 + 1, 0, none⟩)]) rfl trivial (enters_of Tryz.func154 (by kernel_rfl) rfl)
      (limbs_stops (n - 1) (V.heap.size + 1 + 1 + 1 + 1) V.heap.size a xs capa hma hca hlaV.lt _ (by omega) j5.cell (hlaV.later j6)) belowK_t (belowK_b (by omega)) (Below.refl _ _) (fun _ => rfl)
      (fun (pre : List (Fin (trimN xs xs.length))) X => (((Blk X V.heap.size (subOf xs ys m (pre.map Fin.val)).1 ∧ Boxed X (V.heap.size + 1) 42 (.slice (some ⟨V.heap.size, 0, none⟩) m m)) ∧ Boxed X (V.heap.size + 1 + 1) 117 (.int .u64 (subOf xs ys m (pre.map Fin.val)).2)) ∧
        Boxed X (V.heap.size + 1 + 1 + 1) 169 (Value.func (.func 150) #[] #[.pointer (some ⟨V.heap.size + 1 + 1, 0, none⟩)])) ∧ Below V.heap.size V X)
      (fun _ _ _ => False)
      (OwnFrom.and (Own.from (Own.and2 (Own.and2 (Own.and2 (blk_own _ _) (boxed_own _ _ _)) (boxed_own _ _ _)) (boxed_own _ _ _)) _) (ownFrom_below (Nat.le_refl _) (by omega)))
      (fun _ _ _ _ _ hs _ _ => hs)
      ⟨⟨⟨⟨j1, j2⟩, j3⟩, j4⟩, j6⟩
      (fun (x : Fin (trimN xs xs.length)) => { tmps := #[.slice a xs.length capa, .slice b ys.length capb, undef, .pointer (some ⟨w.heap.size, 0, none⟩), .slice none 0 0, .int .i64 0, .pointer (some ⟨V.heap.size + 1, 0, none⟩), .pointer (some ⟨V.heap.size + 1 + 1 + 1, 0, none⟩), .int .i64 (x.val : Int), .int .u32 (xs[x.val]?.getD 0),
        .slice a xs.length capa, .slice b ys.length capb, .int .i64 r, .bool false, .slice a xs.length capa, .slice a m capa, .int .i64 m, .slice (some ⟨V.heap.size, 0, none⟩) m m, .func (.func 150) #[] #[.pointer (some ⟨V.heap.size + 1 + 1, 0, none⟩)],
        .slice a xs.length capa, .func (.func 154) #[] #[.pointer (some ⟨V.heap.size + 1 + 1 + 1 + 1, 0, none⟩)], .int .i64 (x.val : Int), .int .u32 (xs[x.val]?.getD 0), undef, undef, undef, undef, undef, undef, undef, undef, undef, undef, undef, undef, undef, undef, undef], defers := [] }) ?assign ?body ?done ?stop
    case assign =>
      intro l x X K hK
      simp only [limbAt]
      gi_wp2
      exact hK
    case body =>
      rintro l pre ⟨k, hk⟩ X ⟨⟨⟨⟨hblk, q1⟩, q2⟩, q3⟩, hB⟩ hlt
      have hkm : k < m := by have := HM.out; omega
      obtain ⟨ok1, ok2, ok3⟩ := subOf_ok xs ys m hwa hwb (pre.map Fin.val)
      obtain ⟨st, hst⟩ : ∃ st, subOf xs ys m (pre.map Fin.val) = st := ⟨_, rfl⟩
      rw [hst] at hblk q2 ok1 ok2 ok3
      obtain ⟨zs, c⟩ := st
      obtain ⟨x, hxk⟩ : ∃ x, xs.getD k 0 = x := ⟨_, rfl⟩
      obtain ⟨y, hyk⟩ : ∃ y, ys.getD k 0 = y := ⟨_, rfl⟩
      have bx : 0 ≤ x ∧ x < 4294967296 := hxk ▸ hwa.getD k
      have by' : 0 ≤ y ∧ y < 4294967296 := hyk ▸ hwb.getD k
      obtain ⟨bx0, bx1⟩ := bx
      obtain ⟨by0, by1⟩ := by'
      have hxk2 : xs[k]?.getD 0 = x := hxk
      simp only [hxk2]
      have HX := Lib.hid hxk
      have HY := Lib.hid hyk
      have HS := Lib.hid hst
      clear hxk hyk hxk2 hst
      simp only at hblk q2 ok1 ok2 ok3
      have hlbX := (hlbV.later hB).later (show Below X.heap.size X X.drew from (Below.refl _ _).drew)
      have c1 := q1.cell
      have c3 := q3.cell
      have bX : Boxed X w.heap.size 42 (.slice b ys.length capb) := (hB.block w.heap.size (by omega)).trans bB
      have c0 := bX.cell
      have hsX := hB.size
      refine wpIn_block ?_
      refine region_round (fun X' => X'.cell? ⟨V.heap.size + 1, 0, none⟩ = some (.slice (some ⟨V.heap.size, 0, none⟩) m m) ∧ X'.cell? ⟨V.heap.size + 1 + 1 + 1, 0, none⟩ = some (Value.func (.func 150) #[] #[.pointer (some ⟨V.heap.size + 1 + 1, 0, none⟩)]) ∧ X'.cell? ⟨w.heap.size, 0, none⟩ = some (.slice b ys.length capb))
        (by kernel_rfl) (by kernel_rfl) (by rintro ⟨a', w', h⟩; exact h) ⟨c1, c3, c0⟩ (fun hHeld => ?_)
      refine wpAnyH_take (i := 0) (v := ?va0) rfl (by kernel_rfl) (by kernel_rfl) (by kernel_rfl) (fun _ _ _ h => h) (Or.inl ⟨by rfl, ?ha0⟩) (by assumption) ?ra0
      case ha0 =>
        intro w hSw
        try dsimp only at hSw
        go_simp
        try with_reducible rfl
      try simp only [Act.put, List.setIfInBounds_toArray, List.set_cons_zero, List.set_cons_succ]
      refine wpAnyH_take (i := 1) (v := ?va1) rfl (by kernel_rfl) (by kernel_rfl) (by kernel_rfl) (fun _ _ _ h => h) (Or.inl ⟨by rfl, ?ha1⟩) (by assumption) ?ra1
      case ha1 =>
        intro w hSw
        try dsimp only at hSw
        go_simp
        try with_reducible rfl
      try simp only [Act.put, List.setIfInBounds_toArray, List.set_cons_zero, List.set_cons_succ]
      refine wpAnyH_take (i := 2) (v := ?va2) rfl (by kernel_rfl) (by kernel_rfl) (by kernel_rfl) (fun _ _ _ h => h) (Or.inl ⟨by rfl, ?ha2⟩) (by assumption) ?ra2
      case ha2 =>
        intro w hSw
        try dsimp only at hSw
        go_simp
        try with_reducible rfl
      try simp only [Act.put, List.setIfInBounds_toArray, List.set_cons_zero, List.set_cons_succ]
      refine wpAnyH_take (i := 3) (v := ?va3) rfl (by kernel_rfl) (by kernel_rfl) (by kernel_rfl) (fun _ _ _ h => h) (Or.inl ⟨by rfl, ?ha3⟩) (by assumption) ?ra3
      case ha3 =>
        intro w hSw
        try dsimp only at hSw
        go_simp
        try with_reducible rfl
      try simp only [Act.put, List.setIfInBounds_toArray, List.set_cons_zero, List.set_cons_succ]
      refine wpAnyH_take (i := 4) (v := ?va4) rfl (by kernel_rfl) (by kernel_rfl) (by kernel_rfl) (fun _ _ _ h => h) (Or.inl ⟨by rfl, ?ha4⟩) (by assumption) ?ra4
      case ha4 =>
        intro w hSw
        try dsimp only at hSw
        go_simp
        try with_reducible rfl
      try simp only [Act.put, List.setIfInBounds_toArray, List.set_cons_zero, List.set_cons_succ]
      refine wpAnyH_take (i := 5) (v := ?va5) rfl (by kernel_rfl) (by kernel_rfl) (by kernel_rfl) (fun _ _ _ h => h) (Or.inl ⟨by rfl, ?ha5⟩) (by assumption) ?ra5
      case ha5 =>
        intro w hSw
        try dsimp only at hSw
        go_simp
        try with_reducible rfl
      try simp only [Act.put, List.setIfInBounds_toArray, List.set_cons_zero, List.set_cons_succ]
      refine wpAnyH_take (i := 6) (v := ?va6) rfl (by kernel_rfl) (by kernel_rfl) (by kernel_rfl) (fun _ _ _ h => h) (Or.inl ⟨by rfl, ?ha6⟩) (by assumption) ?ra6
      case ha6 =>
        intro w hSw
        try dsimp only at hSw
        go_simp
        try with_reducible rfl
      try simp only [Act.put, List.setIfInBounds_toArray, List.set_cons_zero, List.set_cons_succ]
      refine wpAnyH_ready (rs := [7]) (by kernel_rfl) (by simp) ?_
      refine AllReadyH.cons rfl (fun K hK => ?sb7) AllReadyH.nil
      go_simp
      refine (at_nat b ys capb k y _ hlbX (by unfold maxLen; omega) HY.out).mono ?_
      rintro e w' ⟨rfl, rfl⟩
      go_simp
      refine hK.out _ _ ?kb7 (fun hHeld => ?mb7)
      case kb7 =>
        try dsimp only
        exact hHeld
      clear hK K
      try simp only [Act.put, List.setIfInBounds_toArray, List.set_cons_zero, List.set_cons_succ]
      refine wpAnyH_take (i := 8) (v := ?va8) rfl (by kernel_rfl) (by kernel_rfl) (by kernel_rfl) (fun _ _ _ h => h) (Or.inl ⟨by rfl, ?ha8⟩) (by assumption) ?ra8
      case ha8 =>
        intro w hSw
        try dsimp only at hSw
        go_simp
        try with_reducible rfl
      try simp only [Act.put, List.setIfInBounds_toArray, List.set_cons_zero, List.set_cons_succ]
      refine wpAnyH_take (i := 9) (v := ?va9) rfl (by kernel_rfl) (by kernel_rfl) (by kernel_rfl) (fun _ _ _ h => h) (Or.inl ⟨by rfl, ?ha9⟩) (by assumption) ?ra9
      case ha9 =>
        intro w hSw
        try dsimp only at hSw
        go_simp
        try with_reducible rfl
      try simp only [Act.put, List.setIfInBounds_toArray, List.set_cons_zero, List.set_cons_succ]
      refine wpAnyH_ready (rs := [10]) (by kernel_rfl) (by simp) ?_
      refine AllReadyH.cons rfl (fun K hK => ?sb10) AllReadyH.nil
      go_simp
      refine hK.out _ _ ?kb10 (fun hHeld => ?mb10)
      case kb10 =>
        try dsimp only
        simp [*, World.cell?_alloc_some]
      clear hK K
      try simp only [Act.put, List.setIfInBounds_toArray, List.set_cons_zero, List.set_cons_succ]
      refine wpAnyH_ready (rs := [11]) (by kernel_rfl) (by simp) ?_
      refine AllReadyH.cons rfl (fun K hK => ?sb11) AllReadyH.nil
      go_simp
      rw [wrap_u64 bx0 (by omega), not_limb ⟨by0, by1⟩]
      refine (carry2 c x (4294967295 - y) (V.heap.size + 1 + 1) X.drew ok2 bx0 (by omega) (by omega) q2).mono ?_
      rintro e w2 ⟨rfl, hcar2, hgr⟩
      go_simp
      refine hK.out _ _ ?kb11 (fun hHeld => ?mb11)
      case kb11 =>
        try dsimp only
        exact ⟨hgr.cell c1 (by simp <;> omega), hgr.cell c3 (by simp <;> omega), hgr.cell c0 (by simp <;> omega)⟩
      clear hK K
      try simp only [Act.put, List.setIfInBounds_toArray, List.set_cons_zero, List.set_cons_succ]
      have hblk2 : Blk w2 V.heap.size zs := Blk.grown (w := X.drew) hblk hgr (by simp <;> omega)
      have hcell2 := hblk2.cell k (by omega)
      have hfree2 := hblk2.free k
      refine wpAnyH_take (i := 12) (v := ?va12) rfl (by kernel_rfl) (by kernel_rfl) (by kernel_rfl) (fun _ _ _ h => h) (Or.inl ⟨by rfl, ?ha12⟩) (by assumption) ?ra12
      case ha12 =>
        intro w hSw
        try dsimp only at hSw
        go_simp
        try with_reducible rfl
      try simp only [Act.put, List.setIfInBounds_toArray, List.set_cons_zero, List.set_cons_succ]
      refine wpAnyH_ready (rs := [13]) (by kernel_rfl) (by simp) ?_
      refine AllReadyH.cons rfl (fun K hK => ?sb13) AllReadyH.nil
      go_simp
      refine hK.out _ _ ?kb13 (fun hHeld => ?mb13)
      case kb13 =>
        try dsimp only
        exact ⟨(World.cell?_setCell_far _ _ _ _ (by simp)).trans hHeld.1, (World.cell?_setCell_far _ _ _ _ (by simp <;> omega)).trans hHeld.2.1, (World.cell?_setCell_far _ _ _ _ (by simp <;> omega)).trans hHeld.2.2⟩
      clear hK K
      try simp only [Act.put, List.setIfInBounds_toArray, List.set_cons_zero, List.set_cons_succ]
      refine wpAnyH_done (by kernel_rfl) ?_ _
      have hko : KeepsOthers X w2 := (KeepsOthers.drew X).trans (KeepsOthers.of_grownBy hgr (fun j o ej hj => by cases ej; rw [show X.drew.heap[V.heap.size + 1 + 1]? = _ from q2] at hj; cases hj; rfl))
      have hbo : Below V.heap.size X w2 := (Below.refl _ X).drew.grown hgr hsX (fun j ej => by cases ej; omega)
      have u1 : Boxed w2 (V.heap.size + 1) _ _ := Boxed.kept (W := X.drew) q1 hgr (by simp <;> omega)
      have u3 : Boxed w2 (V.heap.size + 1 + 1 + 1) _ _ := Boxed.kept (W := X.drew) q3 hgr (by simp <;> omega)
      have ub := hblk2.set k ((c + x + (4294967295 - y)) % 4294967296)
      have es : subOf xs ys m ((pre ++ [(⟨k, hk⟩ : Fin (trimN xs xs.length))]).map Fin.val) = (zs.set k ((c + x + (4294967295 - y)) % 4294967296), (c + x + (4294967295 - y)) / 4294967296) := by
        rw [List.map_append, List.map_cons, List.map_nil, subOf_snoc, HS.out]
        simp only [subStep, HX.out, HY.out]
      refine ⟨hko.trans (KeepsOthers.setCell _ _ _), hbo.setCell (p := ⟨V.heap.size, k, none⟩) (Nat.le_refl _) _, ?_, (hB.trans hbo).setCell (p := ⟨V.heap.size, k, none⟩) (Nat.le_refl _) _⟩
      rw [es]
      exact ⟨⟨⟨ub, Boxed.far u1 (by simp) _⟩, Boxed.far (t := 117) hcar2 (by simp <;> omega) _⟩, Boxed.far u3 (by simp <;> omega) _⟩
    case done =>
      rintro D ks X hD hup ⟨⟨⟨⟨hblk, q1⟩, q2⟩, q3⟩, hB⟩ hK
      have ok1 := (subOf_ok xs ys m hwa hwb (ks.map Fin.val)).1
      have hnum := Num.ofBlk hblk (Nat.le_refl _) m (by omega) (by rw [ok1]; unfold maxLen; omega)
      rw [ok1, List.take_of_length_le (by omega)] at hnum
      have es : subL xs ys = (subOf xs ys m (ks.map Fin.val)).1 := by unfold subL; rw [hup, HM.out]
      rw [← es] at hnum
      have c1 := q1.cell
      gi_wp2_with fail
      refine wideCall ((cut_num hnum).mono ?_)
      rintro e w' ⟨u, rfl, hu, rfl⟩
      gi_wp2_with fail
      refine ⟨by simp, .inl ⟨_, _, rfl, run_takeDeferred hK, ?_⟩⟩
      refine ⟨_, results_tmp2 rfl _ _ _, r, HR.out, (hV.trans (hB.mono (by omega))).trans (belowK_b (w := w) (Nat.le_refl _) X D _ _ (by omega) hK rfl rfl), fun h => by simp at hdec; omega, fun _ => ⟨u, rfl, ?_⟩⟩
      exact ownsRow_putObj (hu.mono (by omega)) (.deferred none) hK rfl
    case stop =>
      rintro D c pre X _ _ h _
      exact h.elim
end
end Go.Proofs.YtnhfjacifajdlaaGreat
