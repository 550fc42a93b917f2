/-
  Part 2 of 4: contracts and what they rest on (SRef, TCopy, FLim, FFirst).
-/
import Derived.Test.YtengpgodmbfmkaaGreatD30
import Derived.Laws.IdiomArrays
namespace Go.Proofs.YtengpgodmbfmkaaGreat
set_option linter.unusedVariables false
set_option linter.unusedSimpArgs false
set_option maxRecDepth 100000
set_option maxHeartbeats 40000000
section
open Go.RowKit
theorem mayR6_any {u : Value} {xs : List Int} {ad : Option Addr} {cap : Nat} {w : World} (A : ArgS w u xs ad cap) :
 Calls Tryz.prog 46 #[u] w fun e w' => e = .returned (.int .i64 (mayC xs)) ∧ w = w' := by
 have HA := Lib.hid A
 obtain rfl := A.is
 obtain ⟨L, hL⟩ : ∃ L, xs.length = L := ⟨_, rfl⟩
 have HL := Lib.hid hL
 obtain ⟨c, hc⟩ : ∃ c, mayC xs = c := ⟨_, rfl⟩
 have HC := Lib.hid hc
 rw [hL, hc]
 clear A hL hc
 by_cases h4 : 4 < L
 · obtain rfl : c = 14 := by rw [← HC.out]; exact mayC_rank (by rw [HL.out]; exact h4)
   have h4I : (4 : Int) < (L : Int) := by omega
   go_enter Tryz.func46, Tryz.ntmps46
   go_wp2
   go_ret
   exact ⟨rfl, rfl⟩
 · have h4I : ¬ (4 : Int) < (L : Int) := by omega
   go_enter Tryz.func46, Tryz.ntmps46
   go_wp2
   go_loop [3] (fun i => ∃ k : Nat, i = .int .i64 (k : Int) ∧ k ≤ L ∧ posS (xs.take k)) (fun i => L - (intOf i).toNat)
   case atStart => exact ⟨0, rfl, Nat.zero_le _, fun x h => by simp at h⟩
   case round =>
    obtain ⟨k, rfl, hkL, hp⟩ := hrel
    have HP := Lib.hid hp
    clear hp
    by_cases hlt : k < L
    · obtain ⟨b, off, rfl, hc⟩ := HA.out.at (i := k) (by rw [HL.out]; exact hlt)
      have hx : xs[k]? = some (xs.getD k 0) := by rw [List.getD_eq_getElem?_getD, List.getElem?_eq_getElem (by rw [HL.out]; exact hlt)]; rfl
      obtain ⟨x, hxe⟩ : ∃ x, xs.getD k 0 = x := ⟨_, rfl⟩
      rw [hxe] at hc hx
      have HX := Lib.hid hx
      have hltI : (k : Int) < (L : Int) := by omega
      clear hxe hx
      by_cases h1 : x < 1
      · obtain rfl : c = 13 := by
         rw [← HC.out]
         refine mayC_dim (by rw [HL.out]; omega) fun hp => ?_
         have := hp x (List.mem_of_getElem? HX.out)
         omega
        go_wp2
        go_ret
        exact ⟨rfl, rfl⟩
      · go_wp2
        go_round
        case rel =>
         refine ⟨k + 1, by go_num, by omega, fun y hy => ?_⟩
         rw [List.take_add_one, HX.out, Option.toList_some] at hy
         rcases List.mem_append.1 hy with h | h
         · exact HP.out y h
         · rw [List.mem_singleton.1 h]; omega
        case measure => simp [intOf]; omega
    · obtain rfl : k = L := by omega
      have hpos : posS xs := by
       have := HP.out
       rwa [List.take_of_length_le (by rw [HL.out]; exact Nat.le_refl _)] at this
      have hltI : ¬ (k : Int) < (k : Int) := by omega
      have HQ := Lib.hid hpos
      clear hpos
      go_wp2
      go_loop [4, 5] (fun n i => ∃ j : Nat, i = .int .i64 (j : Int) ∧ j ≤ k ∧ n = .int .i64 (prodS (xs.take j)) ∧ prodS (xs.take j) ≤ 1024) (fun _ i => k - (intOf i).toNat)
      case atStart => exact ⟨0, rfl, Nat.zero_le _, rfl, by simp [prodS]⟩
      case round =>
       obtain ⟨j, rfl, hjk, rfl, hn⟩ := hrel
       have hn1 := prodS_pos (HQ.out.take j)
       obtain ⟨n, hne⟩ : ∃ n, prodS (xs.take j) = n := ⟨_, rfl⟩
       rw [hne] at hn hn1 ⊢
       by_cases hjl : j < k
       · obtain ⟨b, off, rfl, hc⟩ := HA.out.at (i := j) (by rw [HL.out]; exact hjl)
         have hx1 := HQ.out.getD (i := j) (by rw [HL.out]; exact hjl)
         have hst := prodS_take (s := xs) (k := j) (by rw [HL.out]; exact hjl)
         have hle := getD_le_prod HQ.out (k := j) (by rw [HL.out]; exact hjl)
         have hle2 := prodS_take_le HQ.out (j + 1)
         obtain ⟨x, hxe⟩ : ∃ x, xs.getD j 0 = x := ⟨_, rfl⟩
         rw [hxe] at hc hx1 hst hle
         rw [hne] at hst
         rw [hst] at hle2
         have HST := Lib.hid hst
         have HLE := Lib.hid hle
         have HLE2 := Lib.hid hle2
         have hjI : (j : Int) < (k : Int) := by omega
         clear hxe hne hst hle hle2
         by_cases hbig : 1024 < x
         · obtain rfl : c = 14 := by
            rw [← HC.out]
            exact mayC_count (by rw [HL.out]; omega) HQ.out (by have := HLE.out; omega)
           go_wp2
           go_ret
           exact ⟨rfl, rfl⟩
         · have hm0 : 0 ≤ n * x := Int.mul_nonneg (by omega) (by omega)
           have hm1 : n * x ≤ 1024 * 1024 := Int.mul_le_mul (by omega) (by omega) (by omega) (by omega)
           have hw : IntKind.i64.wrap (n * x) = n * x := IntWalk.i64_in _ (by omega)
           obtain ⟨m, hm⟩ : ∃ m, n * x = m := ⟨_, rfl⟩
           rw [hm] at hm0 hm1 hw
           have HM := Lib.hid hm
           by_cases hbig2 : 1024 < m
           · obtain rfl : c = 14 := by
              rw [← HC.out]
              exact mayC_count (by rw [HL.out]; omega) HQ.out (by have := HLE2.out; have := HM.out; omega)
             go_wp2
             go_ret
             exact ⟨rfl, rfl⟩
           · go_wp2
             go_round
             case rel => exact ⟨j + 1, by go_num, by omega, by rw [HST.out, HM.out], by rw [HST.out, HM.out]; omega⟩
             case measure => simp [intOf]; omega
       · obtain rfl : j = k := by omega
         obtain rfl : c = 0 := by
          rw [← HC.out]
          refine mayC_ok ⟨by rw [HL.out]; omega, HQ.out, ?_⟩
          rw [List.take_of_length_le (by rw [HL.out]; exact Nat.le_refl _)] at hne
          rw [hne]
          exact hn
         have hjI : ¬ (j : Int) < (j : Int) := by omega
         clear hne
         go_wp2
         go_ret
         exact ⟨rfl, rfl⟩
theorem countR6_any {u : Value} {xs : List Int} {ad : Option Addr} {cap : Nat} {w : World} (A : ArgS w u xs ad cap) :
 Calls Tryz.prog 47 #[u] w fun e w' => e = .returned (.int .i64 (countS xs)) ∧ w = w' := by
 have hm := mayR6_any A
 have HA := Lib.hid A
 obtain rfl := A.is
 by_cases h0 : mayC xs = 0
 · have ok := mayC_zero.1 h0
   rw [ok.count]
   rw [h0] at hm
   obtain ⟨L, hL⟩ : ∃ L, xs.length = L := ⟨_, rfl⟩
   have HL := Lib.hid hL
   obtain ⟨P, hP⟩ : ∃ P, prodS xs = P := ⟨_, rfl⟩
   have HP := Lib.hid hP
   rw [hL] at hm ⊢
   rw [hP]
   have HO := Lib.hid ok
   have h4 : L ≤ 4 := by rw [← hL]; exact ok.rank
   clear A hL hP ok h0
   go_enter Tryz.func47, Tryz.ntmps47
   go_wp2_with (go_at_call 46; refine hm.mono ?_; rintro e w1 ⟨rfl, rfl⟩)
   clear hm
   go_loop [3, 4] (fun n i => ∃ j : Nat, i = .int .i64 (j : Int) ∧ j ≤ L ∧ n = .int .i64 (prodS (xs.take j))) (fun _ i => L - (intOf i).toNat)
   case atStart => exact ⟨0, rfl, Nat.zero_le _, rfl⟩
   case round =>
    obtain ⟨j, rfl, hjk, rfl⟩ := hrel
    have hn1 := prodS_pos (HO.out.pos.take j)
    have hn2 := prodS_take_le HO.out.pos j
    have hf := HO.out.few
    obtain ⟨n, hne⟩ : ∃ n, prodS (xs.take j) = n := ⟨_, rfl⟩
    rw [hne] at hn1 hn2 ⊢
    by_cases hjl : j < L
    · obtain ⟨b, off, rfl, hc⟩ := HA.out.at (i := j) (by rw [HL.out]; exact hjl)
      have hx1 := HO.out.pos.getD (i := j) (by rw [HL.out]; exact hjl)
      have hst := prodS_take (s := xs) (k := j) (by rw [HL.out]; exact hjl)
      have hle := getD_le_prod HO.out.pos (k := j) (by rw [HL.out]; exact hjl)
      obtain ⟨x, hxe⟩ : ∃ x, xs.getD j 0 = x := ⟨_, rfl⟩
      rw [hxe] at hc hx1 hst hle
      rw [hne] at hst
      have hm0 : 0 ≤ n * x := Int.mul_nonneg (by omega) (by omega)
      have hm1 : n * x ≤ 1024 * 1024 := Int.mul_le_mul (by omega) (by omega) (by omega) (by omega)
      have hw : wrap64 (n * x) = n * x := by unfold wrap64; omega
      have HST := Lib.hid hst
      have hjI : (j : Int) < (L : Int) := by omega
      clear hxe hne hst hle hf hn2
      go_wp2
      go_round
      case rel => exact ⟨j + 1, by go_num, by omega, by rw [HST.out]⟩
      case measure => simp [intOf]; omega
    · obtain rfl : j = L := by omega
      obtain rfl : n = P := by
       rw [← hne, List.take_of_length_le (by rw [HL.out]; exact Nat.le_refl _)]; exact HP.out
      have hjI : ¬ (j : Int) < (j : Int) := by omega
      clear hne
      go_wp2
      go_ret
      exact ⟨rfl, rfl⟩
 · rw [count_bad h0]
   obtain ⟨c, hc⟩ : ∃ c, mayC xs = c := ⟨_, rfl⟩
   rw [hc] at hm h0
   have hne : (c != 0) = true := by simpa using h0
   clear h0 hc A
   go_enter Tryz.func47, Tryz.ntmps47
   go_wp2_with (go_at_call 46; refine hm.mono ?_; rintro e w1 ⟨rfl, rfl⟩)
   go_ret
   exact ⟨rfl, rfl⟩
end
section
open Go.RowKit
theorem take_mapQ {qs : List Q3} {k : Nat} {q : Q3} (h : qs[k]? = some q) : (qs.take (k + 1)).map Q3.rat = (qs.take k).map Q3.rat ++ [q.rat] := by
 rw [List.take_add_one, h, Option.toList_some, List.map_append]; rfl
end
section
open Go.RowKit
theorem orZ10 (c : Int) : orL [0, 0, c] = c ∧ orL [0, 0, 0, c] = c := by
 by_cases h : c = 0
 · subst h; decide
 · simp [orL, h]
end
section
open Go.RowKit
theorem orL_first10 : ∀ (ms : List Int) (k : Nat), k < ms.length → (∀ j, j < k → ms.getD j 0 = 0) → ms.getD k 0 ≠ 0 → orL ms = ms.getD k 0
 | [], k, h, _, _ => by simp at h
 | x :: r, 0, _, _, h => by
   simp only [List.getD_cons_zero] at h ⊢
   simp only [orL, if_neg h]
 | x :: r, k + 1, h, h0, h1 => by
   have hx : x = 0 := by have := h0 0 (by omega); simpa using this
   subst hx
   simp only [List.getD_cons_succ] at h1 ⊢
   simp only [orL, if_true]
   exact orL_first10 r k (by simpa using h) (fun j hj => by have := h0 (j + 1) (by omega); simpa using this) h1
theorem orL_zeros10 {ms : List Int} (h : ∀ j, j < ms.length → ms.getD j 0 = 0) : orL ms = 0 := orL_nil fun x hx => by
 obtain ⟨i, hi, rfl⟩ := List.mem_iff_getElem.1 hx
 have := h i hi
 rwa [List.getD_eq_getElem?_getD, List.getElem?_eq_getElem hi] at this
def Tens10 (w : World) (g : Nat) (ms : List Int) : Prop := ∀ i, i < ms.length → ∃ (a b : Option Addr) (n ca m cb : Nat), w.cell? ⟨g, i * 2, none⟩ = some (.slice a n ca) ∧ w.cell? ⟨g, i * 2 + 1, none⟩ = some (.slice b m cb) ∧
 ∀ X, Below w.heap.size w X → Calls Tryz.prog 15 #[.agg #[.slice a n ca, .slice b m cb]] X fun e w' => e = .returned (.int .i64 (ms.getD i 0)) ∧ Below X.heap.size X w'
theorem first10_any {w : World} {g cap : Nat} {ms : List Int} (H : Tens10 w g ms) (hm : ms.length ≤ 1000) :
 Calls Tryz.prog 21 #[.slice (some ⟨g, 0, none⟩) ms.length cap] w fun e w' => e = .returned (.int .i64 (orL ms)) ∧ Below w.heap.size w w' := by
 have HH := Lib.hid H
 obtain ⟨t, ht⟩ : ∃ t, orL ms = t := ⟨_, rfl⟩
 have HT := Lib.hid ht
 rw [ht]
 obtain ⟨N, hN⟩ : ∃ n, ms.length = n := ⟨_, rfl⟩
 have HN := Lib.hid hN
 rw [hN] at hm ⊢
 clear H ht hN
 have hBW : Below w.heap.size w w := Below.refl _ _
 have HB := Lib.hid hBW
 clear hBW
 go_enter Tryz.func21, Tryz.ntmps21
 go_wp2_with fail
 go_loopw [3] (fun i wr => ∃ k : Nat, i = .int .i64 (k : Int) ∧ k ≤ N ∧ (∀ j, j < k → ms.getD j 0 = 0) ∧ Below w.heap.size w wr) (fun i _ => N - (intOf i).toNat)
 case atStart => exact ⟨0, rfl, Nat.zero_le _, (fun j hj => by omega), HB.out⟩
 case round =>
  obtain ⟨k, rfl, hk, hall, hb⟩ := hrel
  have HA := Lib.hid hall
  clear hall
  by_cases hlt : k < N
  · have hltI : (k : Int) < (N : Int) := by omega
    have hk0 : (0 : Int) ≤ (k : Int) := by omega
    obtain ⟨a, b, n, ca, m, cb, c0, c1, hmay⟩ := HH.out k (by rw [HN.out]; exact hlt)
    have d0 := (hb.cell (World.block_lt_of_cell? _ _ c0)).trans c0
    have d1 := (hb.cell (World.block_lt_of_cell? _ _ c1)).trans c1
    have hcall := hmay wr hb
    obtain ⟨x, hx⟩ : ∃ x, ms.getD k 0 = x := ⟨_, rfl⟩
    rw [hx] at hcall
    have HX := Lib.hid hx
    clear c0 c1 hmay hx
    go_wp2_with fail
    refine hcall.mono ?_
    rintro e y ⟨rfl, hy⟩
    have hb2 := hb.trans (hy.mono hb.size)
    clear d0 d1 hcall hy
    by_cases h0 : x = 0
    · subst h0
      go_wp2
      go_roundw
      case rel =>
       refine ⟨k + 1, by go_num, by omega, fun j hj => ?_, hb2⟩
       by_cases h : j = k
       · rw [h]; exact HX.out
       · exact HA.out j (by omega)
      case measure => simp [intOf]; omega
    · have hne : (x != 0) = true := by simp [h0]
      obtain rfl : t = x := by rw [← HT.out, ← HX.out]; exact orL_first10 ms k (by rw [HN.out]; exact hlt) HA.out (by rw [HX.out]; exact h0)
      go_wp2
      go_ret
      exact ⟨rfl, hb2⟩
  · obtain rfl : k = N := by omega
    have hltI : ¬ (k : Int) < (k : Int) := by omega
    obtain rfl : t = 0 := by rw [← HT.out]; exact orL_zeros10 fun j hj => HA.out j (by rw [HN.out] at hj; exact hj)
    go_wp2
    go_ret
    exact ⟨rfl, hb⟩
end
end Go.Proofs.YtengpgodmbfmkaaGreat
