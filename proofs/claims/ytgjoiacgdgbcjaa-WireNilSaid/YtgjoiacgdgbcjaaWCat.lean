/-
  slices.Grow of nil, slices.Concat of slices of bytes; wire.PutUvarint, PutZigzag, PutBlock.
-/
import Derived.Test.YtgjoiacgdgbcjaaWBase
import Derived.Lib.AppendZerosOnto
import Derived.Lib.Walk
namespace Go.Proofs.Ytgjoiacgdgbcjaa
open Go.RowKit
set_option linter.unusedVariables false
set_option linter.unusedSimpArgs false

set_option maxRecDepth 100000 in
set_option maxHeartbeats 2000000 in
theorem growB_any (n : Nat) (w : World) (hn : n ≤ 140737488355328) :
    Calls Try.prog 47 #[.slice none 0 0, .int .i64 (n : Int)] w fun e w' => ∃ v, e = .returned v ∧ NumB w.heap.size w' v [] ∧ Below w.heap.size w w' := by
  obtain ⟨i0, hi, hz0, hz1, hz2⟩ := info_parts infoByte
  rcases Nat.eq_zero_or_pos n with rfl | hpos
  · go_enter Try.func47, Try.ntmps47
    go_wp2
    go_ret
    exact ⟨_, rfl, World.ownsRow_nil _ _ _ _, Below.refl _ _⟩
  · have hrz : ∀ ty, (Builtin.append_ #[22, 3] ty #[.slice none 0 0, .int .i64 (n : Int)]).run Try.prog w =
        .ok (.slice (some ⟨w.heap.size, 0, none⟩) n (grownCap w n 0 5)) (w.drew.alloc (.cells (([] : List Value).toArray ++ Builtin.zeroCells (Value.int .u8 0).cells n ++ Builtin.zeroCells (Value.int .u8 0).cells (grownCap w n 0 5 - n)) 5)) := fun ty => by
      have h := Lib.run_append_grow_zeros w 22 3 ty 5 i0 (.int .u8 0) .i64 .i64 Try.underlying22 Try.underlying3 hi hz0 none 0 0 [] (run_firstCells_none w.drew i0.size 0 0 0) n (by omega) (by rw [hz1]; omega) (by omega) (by omega)
        (by rw [hz2]; omega) (by rw [Nat.zero_add]; exact growslice_fits (by omega) (by rw [hz2]; omega))
      simpa using h
    have hG1 : n ≤ grownCap w n 0 5 := grownCap_ge w _ _ _
    have hG2 : grownCap w n 0 5 ≤ maxLen := grownCap_le_maxLen w n 0 5 (by unfold maxLen; omega)
    obtain ⟨G, hG⟩ : ∃ G, G = grownCap w n 0 5 := ⟨_, rfl⟩
    rw [← hG] at hrz hG1 hG2
    have HG := Lib.hid hG2
    have hG63 : (G : Int) ≤ 9223372036854775807 := by unfold maxLen at hG2; omega
    have hGn : (n : Int) ≤ (G : Int) := by omega
    have hnp : (0 : Int) < (n : Int) := by omega
    have hn2 : (n : Int) ≤ 140737488355328 := by omega
    clear hG hG2
    go_enter Try.func47, Try.ntmps47
    go_wp2_with (at_builtin; refine Lib.wpList_append_run _ rfl _ _ _ _ rfl _ _ rfl rfl _ _ (hrz _) ?_)
    go_ret
    refine ⟨_, rfl, ?_, (Below.refl _ w).drew.alloc (Nat.le_refl _) _⟩
    refine ⟨rfl, .inr ⟨w.heap.size, G, _, rfl, Nat.le_refl _, heap_alloc_new _ _, Nat.zero_le _, HG.out, ?_, ?_⟩⟩
    · simp [Builtin.zeroCells, Value.cells]; omega
    · simp

/-- a row of slices of bytes -/
def PartsB (w : World) (g : Nat) (L : List (Value × List Int)) : Prop :=
  ∀ i, i < L.length → ∃ v xs ad cap, L[i]? = some (v, xs) ∧ w.cell? ⟨g, i, none⟩ = some v ∧ ArgB w v xs ad cap ∧ (ad = none → cap = 0)
theorem PartsB.below {w w' : World} {g : Nat} {L : List (Value × List Int)} (h : PartsB w g L) (k : Below w.heap.size w w') : PartsB w' g L := by
  intro i hi
  obtain ⟨v, xs, ad, cap, h1, h2, h3, h4⟩ := h i hi
  exact ⟨v, xs, ad, cap, h1, (k.cell (p := ⟨g, i, none⟩) (World.block_lt_of_cell? w _ h2)).trans h2, h3.later k, h4⟩
def joined (L : List (Value × List Int)) : List Int := (L.map (·.2)).flatten
theorem joined_take {L : List (Value × List Int)} {i : Nat} {v : Value} {xs : List Int} (h : L[i]? = some (v, xs)) : joined (L.take (i + 1)) = joined (L.take i) ++ xs := by
  unfold joined
  rw [List.take_add_one, h]
  simp
theorem joined_le {L : List (Value × List Int)} (i : Nat) : (joined (L.take i)).length ≤ (joined L).length := by
  have h : joined L = joined (L.take i) ++ joined (L.drop i) := by unfold joined; rw [← List.flatten_append, ← List.map_append, List.take_append_drop]
  rw [h, List.length_append]
  omega

set_option maxRecDepth 100000 in
set_option maxHeartbeats 4000000 in
theorem concatB_any {L : List (Value × List Int)} {g : Nat} {w : World} (P : PartsB w g L) (hk : L.length ≤ 1000) (ht : (joined L).length ≤ 140737488355328) :
    Calls Try.prog 31 #[.slice (some ⟨g, 0, none⟩) L.length L.length] w fun e w' => ∃ r, e = .returned r ∧ ResB w.heap.size w' r (joined L) ∧ Below w.heap.size w w' := by
  obtain ⟨K, hK⟩ : ∃ K, L.length = K := ⟨_, rfl⟩
  have HK := Lib.hid hK
  have HP := Lib.hid P
  have HT := Lib.hid ht
  rw [hK] at hk ⊢
  have hkI : (K : Int) ≤ 1000 := by omega
  clear hK P ht
  go_enter Try.func31, Try.ntmps31
  go_wp2
  go_loop [3, 11] (fun s i => ∃ k : Nat, i = .int .i64 (k : Int) ∧ k ≤ K ∧ s = .int .i64 ((joined (L.take k)).length : Int)) (fun _ i => K - (intOf i).toNat)
  case atStart => exact ⟨0, rfl, Nat.zero_le _, rfl⟩
  case round =>
    obtain ⟨k, rfl, hkK, rfl⟩ := hrel
    have hle := joined_le (L := L) k
    obtain ⟨S, hS⟩ : ∃ S, (joined (L.take k)).length = S := ⟨_, rfl⟩
    have hSB : (S : Int) ≤ 140737488355328 := by have := HT.out; omega
    rw [hS]
    by_cases hlt : k < K
    · obtain ⟨v, xs, ad, cap, h1, h2, h3, h4⟩ := HP.out k (by rw [HK.out]; exact hlt)
      obtain rfl := h3.is
      have hj := joined_take h1
      have hjl : (joined (L.take (k + 1))).length = S + xs.length := by rw [hj, List.length_append, hS]
      have hle2 := joined_le (L := L) (k + 1)
      have hsum : (S : Int) + (xs.length : Int) ≤ 140737488355328 := by have := HT.out; omega
      have hws : IntKind.i64.wrap ((S : Int) + (xs.length : Int)) = (S : Int) + (xs.length : Int) := IntWalk.i64_in _ (by omega)
      have hns : ¬ (S : Int) + (xs.length : Int) < 0 := by omega
      have hin : 0 ≤ (k : Int) ∧ (k : Int) < (K : Int) := by omega
      have hltI : (k : Int) < (K : Int) := by omega
      have HJ := Lib.hid hjl
      clear hS hj hjl h1 h3
      go_wp2
      go_round
      case rel => exact ⟨k + 1, by go_num, by omega, by rw [HJ.out]; simp⟩
      case measure => simp [intOf]; omega
    · obtain rfl : k = K := by omega
      have hfull : joined (L.take k) = joined L := by rw [List.take_of_length_le (by rw [HK.out]; exact Nat.le_refl _)]
      have hg := growB_any S w (by omega)
      have HF := Lib.hid hfull
      clear hS hfull
      go_wp2_with (go_at_call 47; refine hg.mono ?_; rintro e w1 ⟨v1, rfl, N1, hb1⟩)
      clear hg
      go_wp2
      go_loopw [6, 27] (fun s i wr => ∃ j : Nat, i = .int .i64 (j : Int) ∧ j ≤ k ∧ ResB w.heap.size wr s (joined (L.take j)) ∧ Below w.heap.size w wr) (fun _ i _ => k - (intOf i).toNat)
      case atStart => exact ⟨0, rfl, Nat.zero_le _, ⟨N1, Byt.nil⟩, hb1⟩
      case round =>
        obtain ⟨j, rfl, hjk, R, hb⟩ := hrel
        have hsz := hb.size
        have hle3 := joined_le (L := L) j
        by_cases hjl : j < k
        · obtain ⟨v, xs, ad, cap, h1, h2, h3, h4⟩ := (HP.out.below hb) j (by rw [HK.out]; exact hjl)
          obtain rfl := h3.is
          have hj := joined_take h1
          have hle4 := joined_le (L := L) (j + 1)
          have htot : (joined (L.take j)).length + xs.length ≤ 140737488355328 := by rw [← List.length_append, ← hj]; exact Nat.le_trans hle4 HT.out
          have hin : 0 ≤ (j : Int) ∧ (j : Int) < (k : Int) := by omega
          have hltI : (j : Int) < (k : Int) := by omega
          have HJ := Lib.hid hj
          have HR := Lib.hid R
          have H4 := Lib.hid h4
          have H3 := Lib.hid h3
          have HLE := Lib.hid htot
          clear hj h1 R h4 h3 hle3 hle4 htot
          go_wp2_with (at_builtin; refine step_joinB rfl 31 32 rfl rfl rfl HR.out H3.out H4.out HLE.out hsz ?_; intro v' w2 R2 hb2)
          go_roundw
          case rel => exact ⟨j + 1, by go_num, by omega, by rw [HJ.out]; exact R2, hb.trans hb2⟩
          case measure => simp [intOf]; omega
        · obtain rfl : j = k := by omega
          have hnl : ¬ (j : Int) < (j : Int) := by omega
          go_wp2
          go_ret
          exact ⟨_, rfl, by rw [← HF.out]; exact R, hb⟩

theorem ResB.mono {base base' : Nat} {w : World} {u : Value} {xs : List Int} (h : ResB base w u xs) (hb : base' ≤ base) : ResB base' w u xs := ⟨h.num.mono hb, h.wf⟩
theorem parts_two {w : World} {u v : Value} {xs ys : List Int} {ad bd : Option Addr} {ca cb : Nat} (A : ArgB w u xs ad ca) (ha : ad = none → ca = 0) (B : ArgB w v ys bd cb) (hb : bd = none → cb = 0) (ty : TypeId) :
    PartsB (w.alloc (.cells #[u, v] ty)) w.heap.size [(u, xs), (v, ys)] := by
  have hc : ∀ i, (w.alloc (.cells #[u, v] ty)).cell? ⟨w.heap.size, i, none⟩ = #[u, v][i]? := fun i => cell_of_row _ _ i _ ty (0, 0) (heap_alloc_new w _)
  have hl := (Below.refl w.heap.size w).alloc (Nat.le_refl _) (.cells #[u, v] ty)
  intro i hi
  match i, hi with
  | 0, _ => exact ⟨u, xs, ad, ca, rfl, by rw [hc]; rfl, A.later hl, ha⟩
  | 1, _ => exact ⟨v, ys, bd, cb, rfl, by rw [hc]; rfl, B.later hl, hb⟩
theorem parts_three {w : World} {u v z : Value} {xs ys zs : List Int} {ad bd cd : Option Addr} {ca cb cc : Nat} (A : ArgB w u xs ad ca) (ha : ad = none → ca = 0) (B : ArgB w v ys bd cb) (hb : bd = none → cb = 0) (C : ArgB w z zs cd cc) (hc3 : cd = none → cc = 0) (ty : TypeId) :
    PartsB (w.alloc (.cells #[u, v, z] ty)) w.heap.size [(u, xs), (v, ys), (z, zs)] := by
  have hc : ∀ i, (w.alloc (.cells #[u, v, z] ty)).cell? ⟨w.heap.size, i, none⟩ = #[u, v, z][i]? := fun i => cell_of_row _ _ i _ ty (0, 0) (heap_alloc_new w _)
  have hl := (Below.refl w.heap.size w).alloc (Nat.le_refl _) (.cells #[u, v, z] ty)
  intro i hi
  match i, hi with
  | 0, _ => exact ⟨u, xs, ad, ca, rfl, by rw [hc]; rfl, A.later hl, ha⟩
  | 1, _ => exact ⟨v, ys, bd, cb, rfl, by rw [hc]; rfl, B.later hl, hb⟩
  | 2, _ => exact ⟨z, zs, cd, cc, rfl, by rw [hc]; rfl, C.later hl, hc3⟩

set_option maxRecDepth 100000 in
set_option maxHeartbeats 1000000 in
theorem putU_any {u : Value} {xs : List Int} {ad : Option Addr} {cap : Nat} {w : World} (n : Int) (A : ArgB w u xs ad cap) (hn : ad = none → cap = 0) (hx : xs.length ≤ 140737488355300) (h0 : 0 ≤ n) (h1 : n < 18446744073709551616) :
    Calls Try.prog 10 #[u, .int .u64 n] w fun e w' => ∃ r, e = .returned r ∧ ResB w.heap.size w' r (xs ++ encN n.toNat) ∧ Below w.heap.size w w' := by
  obtain ⟨N, rfl⟩ : ∃ N : Nat, n = (N : Int) := ⟨n.toNat, by omega⟩
  rw [Int.toNat_natCast]
  have hv := varint_any N w (by omega)
  have h10 := encN_ten (n := N) (by omega)
  obtain rfl := A.is
  clear h0 h1
  go_enter Try.func10, Try.ntmps10
  go_wp2_with fail
  refine hv.mono ?_
  rintro e w1 ⟨v1, rfl, R1, hb1⟩
  obtain ⟨bd, cb, rfl, R1', B, hb⟩ := R1.slice
  have hc := concatB_any (parts_two (A.later hb1) hn B hb 22) (by simp) (by simp [joined]; omega)
  have hs1 := hb1.size
  clear hv R1 R1'
  simp only [List.length_cons, List.length_nil, Nat.reduceAdd, joined, List.map_cons, List.map_nil, List.flatten_cons, List.flatten_nil, List.append_nil] at hc
  go_wp2_with fail
  refine hc.mono ?_
  rintro e w2 ⟨r, rfl, R2, hb2⟩
  go_wp2
  go_ret
  rw [World.size_alloc] at R2 hb2
  exact ⟨_, rfl, R2.mono (by omega), (hb1.alloc (by omega) _).trans (hb2.mono (by omega))⟩

set_option maxRecDepth 100000 in
set_option maxHeartbeats 1000000 in
theorem putZ_any {u : Value} {xs : List Int} {ad : Option Addr} {cap : Nat} {w : World} (k : Int) (A : ArgB w u xs ad cap) (hn : ad = none → cap = 0) (hx : xs.length ≤ 140737488355300) (h0 : -9223372036854775808 ≤ k) (h1 : k ≤ 9223372036854775807) :
    Calls Try.prog 12 #[u, .int .i64 k] w fun e w' => ∃ r, e = .returned r ∧ ResB w.heap.size w' r (xs ++ encN (zig k).toNat) ∧ Below w.heap.size w w' := by
  have hz := zigzag_any k w h0 h1
  have hr := zig_range h0 h1
  have hp := putU_any (zig k) A hn hx hr.1 hr.2
  obtain rfl := A.is
  go_enter Try.func12, Try.ntmps12
  go_wp2_with (first | (go_at_call 33; refine hz.mono ?_; rintro e w1 ⟨rfl, rfl⟩) | (go_at_call 10; refine hp.mono ?_; rintro e w2 ⟨r, rfl, R2, hb2⟩))
  go_ret
  exact ⟨_, rfl, R2, hb2⟩

set_option maxRecDepth 100000 in
set_option maxHeartbeats 1000000 in
theorem putB_any {u v : Value} {xs ys : List Int} {ad bd : Option Addr} {cap capb : Nat} {w : World} (A : ArgB w u xs ad cap) (ha : ad = none → cap = 0) (B : ArgB w v ys bd capb) (hn : bd = none → capb = 0) (hx : xs.length + ys.length ≤ 140737488355300) :
    Calls Try.prog 13 #[u, v] w fun e w' => ∃ r, e = .returned r ∧ ResB w.heap.size w' r (xs ++ (encN ys.length ++ ys)) ∧ Below w.heap.size w w' := by
  have hv := varint_any ys.length w (by omega)
  have h10 := encN_ten (n := ys.length) (by omega)
  have A' := A
  have B' := B
  obtain rfl := A.is
  obtain rfl := B.is
  obtain ⟨Y, hY⟩ : ∃ Y, ys.length = Y := ⟨_, rfl⟩
  have HY := Lib.hid hY
  rw [hY] at hv h10 hx B' ⊢
  have hwY : IntKind.u64.wrap (Y : Int) = (Y : Int) := IntWalk.u64_in _ (by omega)
  clear hY A B
  go_enter Try.func13, Try.ntmps13
  go_wp2_with fail
  refine hv.mono ?_
  rintro e w1 ⟨v1, rfl, R1, hb1⟩
  obtain ⟨cd, cc, rfl, R1', C, hcn⟩ := R1.slice
  have hc := concatB_any (parts_three (A'.later hb1) ha C hcn (B'.later hb1) hn 22) (by simp) (by simp [joined]; rw [HY.out]; omega)
  have hs1 := hb1.size
  clear hv R1 R1'
  simp only [List.length_cons, List.length_nil, Nat.reduceAdd, joined, List.map_cons, List.map_nil, List.flatten_cons, List.flatten_nil, List.append_nil] at hc
  go_wp2_with fail
  refine hc.mono ?_
  rintro e w2 ⟨r, rfl, R2, hb2⟩
  go_wp2
  go_ret
  rw [World.size_alloc] at R2 hb2
  exact ⟨_, rfl, R2.mono (by omega), (hb1.alloc (by omega) _).trans (hb2.mono (by omega))⟩
end Go.Proofs.Ytgjoiacgdgbcjaa
