/-
  Part 2 of 5: contracts and what they rest on (Mem, DigB, QLaw0, SRef, SRefC, SCode1, TFit, TDef, TCode1, PCode1, PCode2, POneB, MMath3, MPartA, FMath, FMat, FMatx).
-/
import Derived.Test.YtengpgodmbfmkaaGreatD30
namespace Go.Proofs.YtengpgodmbfmkaaGreat
set_option linter.unusedVariables false
set_option linter.unusedSimpArgs false
set_option maxRecDepth 100000
set_option maxHeartbeats 40000000
section
open Go.RowKit
theorem Blk.only {w w' : World} {g b : Nat} {zs : List Int} (h : Blk w g zs) (k : Only b w w') (hb : g ≠ b) : Blk w' g zs := h.same (k.block g hb)
end
section
open Go.RowKit
theorem BlkI.only {w w' : World} {g b : Nat} {zs : List Int} (h : BlkI w g zs) (k : Only b w w') (hb : g ≠ b) : BlkI w' g zs := h.same (k.block g hb)
end
section
open Go.RowKit Go.ChangeShapes Go.WideShapes Go.ChangeAt
theorem lenD_pos {ds : List Int} (h : 0 < valD ds) : ((ds.length : Int) == 0) = false := by
 cases ds with
 | nil => simp [valD] at h
 | cons x l => simp; omega
theorem lenD_zero {ds : List Int} (h : WfD ds) (f : trimN ds ds.length = ds.length) (e : valD ds = 0) : ((ds.length : Int) == 0) = true := by rw [valD_zero h f e]; rfl
end
section
open Go.RowKit
theorem mayR6_any {u : Value} {xs : List Int} {ad : Option Addr} {cap : Nat} {w : World} (A : ArgS w u xs ad cap) :
 Calls Tryz.prog 46 #[u] w fun e w' => e = .returned (.int .i64 (mayC xs)) ∧ w = w' := by
 have HA := Lib.hid A
 obtain rfl := A.is
 obtain ⟨L, hL⟩ : ∃ L, xs.length = L := ⟨_, rfl⟩
 have HL := Lib.hid hL
 obtain ⟨c, hc⟩ : ∃ c, mayC xs = c := ⟨_, rfl⟩
 have HC := Lib.hid hc
 rw [hL, hc]
 clear A hL hc
 by_cases h4 : 4 < L
 · obtain rfl : c = 14 := by rw [← HC.out]; exact mayC_rank (by rw [HL.out]; exact h4)
   have h4I : (4 : Int) < (L : Int) := by omega
   go_enter Tryz.func46, Tryz.ntmps46
   go_wp2
   go_ret
   exact ⟨rfl, rfl⟩
 · have h4I : ¬ (4 : Int) < (L : Int) := by omega
   go_enter Tryz.func46, Tryz.ntmps46
   go_wp2
   go_loop [3] (fun i => ∃ k : Nat, i = .int .i64 (k : Int) ∧ k ≤ L ∧ posS (xs.take k)) (fun i => L - (intOf i).toNat)
   case atStart => exact ⟨0, rfl, Nat.zero_le _, fun x h => by simp at h⟩
   case round =>
    obtain ⟨k, rfl, hkL, hp⟩ := hrel
    have HP := Lib.hid hp
    clear hp
    by_cases hlt : k < L
    · obtain ⟨b, off, rfl, hc⟩ := HA.out.at (i := k) (by rw [HL.out]; exact hlt)
      have hx : xs[k]? = some (xs.getD k 0) := by rw [List.getD_eq_getElem?_getD, List.getElem?_eq_getElem (by rw [HL.out]; exact hlt)]; rfl
      obtain ⟨x, hxe⟩ : ∃ x, xs.getD k 0 = x := ⟨_, rfl⟩
      rw [hxe] at hc hx
      have HX := Lib.hid hx
      have hltI : (k : Int) < (L : Int) := by omega
      clear hxe hx
      by_cases h1 : x < 1
      · obtain rfl : c = 13 := by
         rw [← HC.out]
         refine mayC_dim (by rw [HL.out]; omega) fun hp => ?_
         have := hp x (List.mem_of_getElem? HX.out)
         omega
        go_wp2
        go_ret
        exact ⟨rfl, rfl⟩
      · go_wp2
        go_round
        case rel =>
         refine ⟨k + 1, by go_num, by omega, fun y hy => ?_⟩
         rw [List.take_add_one, HX.out, Option.toList_some] at hy
         rcases List.mem_append.1 hy with h | h
         · exact HP.out y h
         · rw [List.mem_singleton.1 h]; omega
        case measure => simp [intOf]; omega
    · obtain rfl : k = L := by omega
      have hpos : posS xs := by
       have := HP.out
       rwa [List.take_of_length_le (by rw [HL.out]; exact Nat.le_refl _)] at this
      have hltI : ¬ (k : Int) < (k : Int) := by omega
      have HQ := Lib.hid hpos
      clear hpos
      go_wp2
      go_loop [4, 5] (fun n i => ∃ j : Nat, i = .int .i64 (j : Int) ∧ j ≤ k ∧ n = .int .i64 (prodS (xs.take j)) ∧ prodS (xs.take j) ≤ 1024) (fun _ i => k - (intOf i).toNat)
      case atStart => exact ⟨0, rfl, Nat.zero_le _, rfl, by simp [prodS]⟩
      case round =>
       obtain ⟨j, rfl, hjk, rfl, hn⟩ := hrel
       have hn1 := prodS_pos (HQ.out.take j)
       obtain ⟨n, hne⟩ : ∃ n, prodS (xs.take j) = n := ⟨_, rfl⟩
       rw [hne] at hn hn1 ⊢
       by_cases hjl : j < k
       · obtain ⟨b, off, rfl, hc⟩ := HA.out.at (i := j) (by rw [HL.out]; exact hjl)
         have hx1 := HQ.out.getD (i := j) (by rw [HL.out]; exact hjl)
         have hst := prodS_take (s := xs) (k := j) (by rw [HL.out]; exact hjl)
         have hle := getD_le_prod HQ.out (k := j) (by rw [HL.out]; exact hjl)
         have hle2 := prodS_take_le HQ.out (j + 1)
         obtain ⟨x, hxe⟩ : ∃ x, xs.getD j 0 = x := ⟨_, rfl⟩
         rw [hxe] at hc hx1 hst hle
         rw [hne] at hst
         rw [hst] at hle2
         have HST := Lib.hid hst
         have HLE := Lib.hid hle
         have HLE2 := Lib.hid hle2
         have hjI : (j : Int) < (k : Int) := by omega
         clear hxe hne hst hle hle2
         by_cases hbig : 1024 < x
         · obtain rfl : c = 14 := by
            rw [← HC.out]
            exact mayC_count (by rw [HL.out]; omega) HQ.out (by have := HLE.out; omega)
           go_wp2
           go_ret
           exact ⟨rfl, rfl⟩
         · have hm0 : 0 ≤ n * x := Int.mul_nonneg (by omega) (by omega)
           have hm1 : n * x ≤ 1024 * 1024 := Int.mul_le_mul (by omega) (by omega) (by omega) (by omega)
           have hw : IntKind.i64.wrap (n * x) = n * x := IntWalk.i64_in _ (by omega)
           obtain ⟨m, hm⟩ : ∃ m, n * x = m := ⟨_, rfl⟩
           rw [hm] at hm0 hm1 hw
           have HM := Lib.hid hm
           by_cases hbig2 : 1024 < m
           · obtain rfl : c = 14 := by
              rw [← HC.out]
              exact mayC_count (by rw [HL.out]; omega) HQ.out (by have := HLE2.out; have := HM.out; omega)
             go_wp2
             go_ret
             exact ⟨rfl, rfl⟩
           · go_wp2
             go_round
             case rel => exact ⟨j + 1, by go_num, by omega, by rw [HST.out, HM.out], by rw [HST.out, HM.out]; omega⟩
             case measure => simp [intOf]; omega
       · obtain rfl : j = k := by omega
         obtain rfl : c = 0 := by
          rw [← HC.out]
          refine mayC_ok ⟨by rw [HL.out]; omega, HQ.out, ?_⟩
          rw [List.take_of_length_le (by rw [HL.out]; exact Nat.le_refl _)] at hne
          rw [hne]
          exact hn
         have hjI : ¬ (j : Int) < (j : Int) := by omega
         clear hne
         go_wp2
         go_ret
         exact ⟨rfl, rfl⟩
theorem countR6_any {u : Value} {xs : List Int} {ad : Option Addr} {cap : Nat} {w : World} (A : ArgS w u xs ad cap) :
 Calls Tryz.prog 47 #[u] w fun e w' => e = .returned (.int .i64 (countS xs)) ∧ w = w' := by
 have hm := mayR6_any A
 have HA := Lib.hid A
 obtain rfl := A.is
 by_cases h0 : mayC xs = 0
 · have ok := mayC_zero.1 h0
   rw [ok.count]
   rw [h0] at hm
   obtain ⟨L, hL⟩ : ∃ L, xs.length = L := ⟨_, rfl⟩
   have HL := Lib.hid hL
   obtain ⟨P, hP⟩ : ∃ P, prodS xs = P := ⟨_, rfl⟩
   have HP := Lib.hid hP
   rw [hL] at hm ⊢
   rw [hP]
   have HO := Lib.hid ok
   have h4 : L ≤ 4 := by rw [← hL]; exact ok.rank
   clear A hL hP ok h0
   go_enter Tryz.func47, Tryz.ntmps47
   go_wp2_with (go_at_call 46; refine hm.mono ?_; rintro e w1 ⟨rfl, rfl⟩)
   clear hm
   go_loop [3, 4] (fun n i => ∃ j : Nat, i = .int .i64 (j : Int) ∧ j ≤ L ∧ n = .int .i64 (prodS (xs.take j))) (fun _ i => L - (intOf i).toNat)
   case atStart => exact ⟨0, rfl, Nat.zero_le _, rfl⟩
   case round =>
    obtain ⟨j, rfl, hjk, rfl⟩ := hrel
    have hn1 := prodS_pos (HO.out.pos.take j)
    have hn2 := prodS_take_le HO.out.pos j
    have hf := HO.out.few
    obtain ⟨n, hne⟩ : ∃ n, prodS (xs.take j) = n := ⟨_, rfl⟩
    rw [hne] at hn1 hn2 ⊢
    by_cases hjl : j < L
    · obtain ⟨b, off, rfl, hc⟩ := HA.out.at (i := j) (by rw [HL.out]; exact hjl)
      have hx1 := HO.out.pos.getD (i := j) (by rw [HL.out]; exact hjl)
      have hst := prodS_take (s := xs) (k := j) (by rw [HL.out]; exact hjl)
      have hle := getD_le_prod HO.out.pos (k := j) (by rw [HL.out]; exact hjl)
      obtain ⟨x, hxe⟩ : ∃ x, xs.getD j 0 = x := ⟨_, rfl⟩
      rw [hxe] at hc hx1 hst hle
      rw [hne] at hst
      have hm0 : 0 ≤ n * x := Int.mul_nonneg (by omega) (by omega)
      have hm1 : n * x ≤ 1024 * 1024 := Int.mul_le_mul (by omega) (by omega) (by omega) (by omega)
      have hw : wrap64 (n * x) = n * x := by unfold wrap64; omega
      have HST := Lib.hid hst
      have hjI : (j : Int) < (L : Int) := by omega
      clear hxe hne hst hle hf hn2
      go_wp2
      go_round
      case rel => exact ⟨j + 1, by go_num, by omega, by rw [HST.out]⟩
      case measure => simp [intOf]; omega
    · obtain rfl : j = L := by omega
      obtain rfl : n = P := by
       rw [← hne, List.take_of_length_le (by rw [HL.out]; exact Nat.le_refl _)]; exact HP.out
      have hjI : ¬ (j : Int) < (j : Int) := by omega
      clear hne
      go_wp2
      go_ret
      exact ⟨rfl, rfl⟩
 · rw [count_bad h0]
   obtain ⟨c, hc⟩ : ∃ c, mayC xs = c := ⟨_, rfl⟩
   rw [hc] at hm h0
   have hne : (c != 0) = true := by simpa using h0
   clear h0 hc A
   go_enter Tryz.func47, Tryz.ntmps47
   go_wp2_with (go_at_call 46; refine hm.mono ?_; rintro e w1 ⟨rfl, rfl⟩)
   go_ret
   exact ⟨rfl, rfl⟩
end
section
open Go.RowKit
def axesB (l : List Int) (rank : Int) : Bool := decide (∀ i, i < l.length → (0 ≤ l.getD i 0 ∧ l.getD i 0 < rank) ∧ (0 < i → l.getD (i - 1) 0 < l.getD i 0))
theorem axesR_any {u : Value} {xs : List Int} {a : Option Addr} {ca : Nat} {w : World} (rank : Int) (A : ArgS w u xs a ca) (hx : xs.length ≤ 140737488355328) :
 Calls Tryz.prog 25 #[u, .int .i64 rank] w fun e w' => e = .returned (.bool (axesB xs rank)) ∧ Below w.heap.size w w' := by
 have HA := Lib.hid A
 obtain rfl := A.is
 obtain ⟨L, hL⟩ : ∃ L, xs.length = L := ⟨_, rfl⟩
 obtain ⟨d, hd⟩ : ∃ d, axesB xs rank = d := ⟨_, rfl⟩
 have HL := Lib.hid hL
 have hd2 : decide (∀ i, i < L → (0 ≤ xs.getD i 0 ∧ xs.getD i 0 < rank) ∧ (0 < i → xs.getD (i - 1) 0 < xs.getD i 0)) = d := by rw [← hd]; unfold axesB; rw [hL]
 have HD := Lib.hid hd2
 rw [hL] at hx
 rw [hL, hd]
 clear A hL hd hd2
 go_enter Tryz.func25, Tryz.ntmps25
 go_wp2
 go_loopw [5] (fun i wr => ∃ k : Nat, i = .int .i64 (k : Int) ∧ k ≤ L ∧ (∀ i, i < k → (0 ≤ xs.getD i 0 ∧ xs.getD i 0 < rank) ∧ (0 < i → xs.getD (i - 1) 0 < xs.getD i 0)) ∧ Below w.heap.size w wr) (fun i _ => L - (intOf i).toNat)
 case atStart => exact ⟨0, rfl, Nat.zero_le _, (fun i h => by omega), Below.refl _ _⟩
 case round =>
  obtain ⟨k, rfl, hkL, hp, hb⟩ := hrel
  have HP := Lib.hid hp
  clear hp
  by_cases hlt : k < L
  · obtain ⟨b1, o1, rfl, hc1⟩ := (HA.out.later hb).at (i := k) (by rw [HL.out]; exact hlt)
    obtain ⟨x, hxe⟩ : ∃ x, xs.getD k 0 = x := ⟨_, rfl⟩
    rw [hxe] at hc1
    have HX := Lib.hid hxe
    have hltI : (k : Int) < (L : Int) := by omega
    have hin : 0 ≤ (k : Int) ∧ (k : Int) < (L : Int) := by omega
    have hbad : ∀ v : Bool, (¬ ((0 ≤ x ∧ x < rank) ∧ (0 < k → xs.getD (k - 1) 0 < x))) → d = false := by
     intro _ h
     rw [← HD.out, decide_eq_false_iff_not]
     intro hall
     have := hall k hlt
     rw [HX.out] at this
     exact h this
    clear hxe
    by_cases h1 : x < 0
    · obtain rfl : d = false := hbad true (fun h => by omega)
      have d1 : decide (x < 0) = true := decide_eq_true h1
      clear hbad
      go_wp2
      go_quiet (fail)
      go_wp2
      go_ret
      exact ⟨rfl, hb.trans (belowS_drew _ _ _)⟩
    · have d1 : decide (x < 0) = false := decide_eq_false h1
      by_cases h2 : rank ≤ x
      · obtain rfl : d = false := hbad true (fun h => by omega)
        have d2 : decide (rank ≤ x) = true := decide_eq_true h2
        clear hbad
        go_wp2
        go_quiet (fail)
        go_wp2
        go_ret
        exact ⟨rfl, hb.trans (belowS_drew _ _ _)⟩
      · have d2 : decide (rank ≤ x) = false := decide_eq_false h2
        by_cases h3 : k = 0
        · subst h3
          rw [Nat.add_zero] at hc1
          clear hbad
          go_wp2
          go_quiet (fail)
          go_wp2
          go_roundw
          case rel =>
           refine ⟨1, by go_num, by omega, fun i hi => ?_, hb.trans (belowS_drew _ _ _)⟩
           obtain rfl : i = 0 := by omega
           rw [HX.out]
           exact ⟨by omega, fun h => by omega⟩
          case measure => simp [intOf]; omega
        · obtain ⟨m, rfl⟩ : ∃ m, k = m + 1 := ⟨k - 1, by omega⟩
          obtain ⟨b2, o2, e2, hc2⟩ := (HA.out.later hb).at (i := m) (by rw [HL.out]; omega)
          cases e2
          obtain ⟨y, hye⟩ : ∃ y, xs.getD m 0 = y := ⟨_, rfl⟩
          rw [hye] at hc2
          have HY := Lib.hid hye
          have hkI : ((m + 1 : Nat) : Int) - 1 = (m : Int) := by omega
          have hmin : 0 ≤ (m : Int) ∧ (m : Int) < (L : Int) := by omega
          have hpos : (0 : Int) < ((m + 1 : Nat) : Int) := by omega
          have d3 : decide ((0 : Int) < ((m + 1 : Nat) : Int)) = true := decide_eq_true hpos
          clear hye
          by_cases h4 : x ≤ y
          · obtain rfl : d = false := hbad true (fun h => by
             have := h.2 (by omega)
             rw [Nat.add_sub_cancel, HY.out] at this
             omega)
            have d4 : decide (x ≤ y) = true := decide_eq_true h4
            clear hbad
            go_wp2
            go_quiet (fail)
            go_wp2
            go_ret
            exact ⟨rfl, hb.trans (belowS_drew _ _ _)⟩
          · have d4 : decide (x ≤ y) = false := decide_eq_false h4
            clear hbad
            go_wp2
            go_quiet (fail)
            go_wp2
            go_roundw
            case rel =>
             refine ⟨m + 1 + 1, by go_num, by omega, fun i hi => ?_, hb.trans (belowS_drew _ _ _)⟩
             by_cases hik : i = m + 1
             · subst hik
               rw [HX.out, Nat.add_sub_cancel, HY.out]
               exact ⟨by omega, fun _ => by omega⟩
             · exact HP.out i (by omega)
            case measure => simp [intOf]; omega
  · obtain rfl : k = L := by omega
    obtain rfl : d = true := by rw [← HD.out, decide_eq_true_iff]; exact HP.out
    have hltI : ¬ (k : Int) < (k : Int) := by omega
    go_wp2
    go_ret
    exact ⟨rfl, hb⟩
end
section
open Go.RowKit
theorem eqI_any {w : World} {xs ys : List Int} {a b : Option Addr} {c d : Nat} (A : ArgS w (.slice a xs.length c) xs a c) (B : ArgS w (.slice b ys.length d) ys b d) (hx : xs.length ≤ 70368744177664) (hy : ys.length ≤ 70368744177664) :
 Calls Tryz.prog 104 #[.slice a xs.length c, .slice b ys.length d] w fun e w' => e = .returned (.bool (decide (xs = ys))) ∧ Below w.heap.size w w' := by
 by_cases hl : xs.length = ys.length
 case neg =>
  have hne : decide (xs = ys) = false := decide_eq_false (fun h => hl (by rw [h]))
  have hn1 : ((xs.length : Int) != (ys.length : Int)) = true := by simp; omega
  rw [hne]
  clear hl hne
  go_enter Tryz.func104, Tryz.ntmps104
  go_wp2_with fail
  go_ret
  exact ⟨rfl, Below.refl _ _⟩
 obtain ⟨m, hm⟩ : ∃ m, xs.length = m := ⟨_, rfl⟩
 have hm2 : ys.length = m := by omega
 have la := A.lim
 have lb := B.lim
 have hext : (∀ j, j < m → xs.getD j 0 = ys.getD j 0) → xs = ys := by
  intro h
  apply List.ext_getElem (by omega)
  intro i h1 h2
  have := h i (by omega)
  simpa [h1, h2] using this
 have HX := Lib.hid hext
 have hmm : ((m : Int) != (m : Int)) = false := by simp
 have HL1 := Lib.hid hm
 have HL2 := Lib.hid hm2
 rw [hm] at hx ⊢
 rw [hm2]
 clear hl hm hm2 hext A B hy
 go_enter Tryz.func104, Tryz.ntmps104
 go_wp2_with fail
 go_loopw [5, 13] (fun _ i wr => ∃ k : Nat, i = .int .i64 k ∧ k ≤ m ∧ (∀ j, j < k → xs.getD j 0 = ys.getD j 0) ∧ Below w.heap.size w wr) (fun _ i _ => m - (intOf i).toNat)
 case atStart => exact ⟨0, rfl, Nat.zero_le _, fun j hj => by omega, Below.refl _ _⟩
 case round =>
  obtain ⟨k, rfl, hk, hall, hb⟩ := hrel
  have HA := Lib.hid hall
  clear hall
  by_cases hlt : k < m
  · have HK := Lib.hid hlt
    obtain ⟨p, o, rfl, c1⟩ : ∃ p o, a = some ⟨p, o, none⟩ ∧ wr.cell? ⟨p, o + k, none⟩ = some (.int .i64 (xs.getD k 0)) := by
     rcases la.later hb with e | ⟨p, o, e, hc⟩
     · rw [e] at HL1; have := HL1.out; simp at this; omega
     · exact ⟨p, o, e, hc k (by rw [HL1.out]; exact hlt)⟩
    obtain ⟨p2, o2, rfl, c2⟩ : ∃ p o, b = some ⟨p, o, none⟩ ∧ wr.cell? ⟨p, o + k, none⟩ = some (.int .i64 (ys.getD k 0)) := by
     rcases lb.later hb with e | ⟨p, o, e, hc⟩
     · rw [e] at HL2; have := HL2.out; simp at this; omega
     · exact ⟨p, o, e, hc k (by rw [HL2.out]; exact hlt)⟩
    obtain ⟨x, hxk⟩ : ∃ x, xs.getD k 0 = x := ⟨_, rfl⟩
    obtain ⟨y, hyk⟩ : ∃ y, ys.getD k 0 = y := ⟨_, rfl⟩
    rw [hxk] at c1
    rw [hyk] at c2
    have HXK := Lib.hid hxk
    have HYK := Lib.hid hyk
    have hk0 : (0 : Int) ≤ (k : Int) := Int.natCast_nonneg _
    have hk1 : (k : Int) < (m : Int) := by omega
    clear hxk hyk la lb
    by_cases e : x = y
    · have hne : (x != y) = false := by simp [e]
      have fin : ∃ j : Nat, Value.int .i64 ((k : Int) + 1) = .int .i64 j ∧ j ≤ m ∧ (∀ i, i < j → xs.getD i 0 = ys.getD i 0) :=
       ⟨k + 1, by go_num, HK.out, fun i hi => by
        by_cases h : i = k
        · subst h; rw [HXK.out, HYK.out]; exact e
        · exact HA.out i (by omega)⟩
      have FIN := Lib.hid fin
      clear fin e
      go_wp2_with fail
      go_quiet (fail)
      go_wp2_with fail
      go_roundw
      case rel =>
       obtain ⟨j, h1, h2, h3⟩ := FIN.out
       exact ⟨j, h1, h2, h3, ⟨hb.os, hb.tape, hb.output, hb.size, hb.block⟩⟩
      case measure => have := HK.out; simp [intOf]; omega
    · have hne : (x != y) = true := by simp [e]
      have hd : decide (xs = ys) = false := decide_eq_false (fun h => e (by rw [← HXK.out, ← HYK.out, h]))
      have HD := Lib.hid hd
      clear e hd
      go_wp2_with fail
      go_quiet (fail)
      go_wp2_with fail
      go_ret
      exact ⟨by rw [HD.out]; rfl, ⟨hb.os, hb.tape, hb.output, hb.size, hb.block⟩⟩
  · obtain rfl : k = m := by omega
    have hd : decide (xs = ys) = true := decide_eq_true (HX.out HA.out)
    have HD := Lib.hid hd
    clear hd
    go_wp2_with fail
    go_ret
    exact ⟨by rw [HD.out]; rfl, hb⟩
theorem sameS_any {u v : Value} {xs ys : List Int} {a b : Option Addr} {ca cb : Nat} {w : World} (A : ArgS w u xs a ca) (B : ArgS w v ys b cb) (ha : a = none → ca = 0) (hb : b = none → cb = 0) (hx : xs.length ≤ 17592186044416) (hy : ys.length ≤ 17592186044416) :
 Calls Tryz.prog 63 #[u, v] w fun e w' => e = .returned (.bool (decide (xs = ys))) ∧ Below w.heap.size w w' := by
 obtain rfl := A.is
 obtain rfl := B.is
 have h := eqI_any A B (by omega) (by omega)
 obtain ⟨t, ht⟩ : ∃ t, decide (xs = ys) = t := ⟨_, rfl⟩
 obtain ⟨n, hn⟩ : ∃ n, xs.length = n := ⟨_, rfl⟩
 obtain ⟨m, hm⟩ : ∃ n, ys.length = n := ⟨_, rfl⟩
 rw [ht, hn, hm] at h
 rw [ht, hn, hm]
 clear A B ha hb hx hy ht hn hm
 go_enter Tryz.func63, Tryz.ntmps63
 go_wp2_with (go_at_call 104; refine h.mono ?_; rintro e w1 ⟨rfl, hb⟩)
 go_ret
 exact ⟨rfl, hb⟩
end
section
open Go.RowKit
theorem full_last {zs : List Int} (hf : trimN zs zs.length = zs.length) (hn : zs ≠ []) : zs.getD (zs.length - 1) 0 ≠ 0 := by
 obtain ⟨n, hl⟩ : ∃ n, zs.length = n + 1 := ⟨zs.length - 1, by have := List.length_pos_iff.2 hn; omega⟩
 rw [hl] at hf ⊢
 intro e
 rw [show n + 1 - 1 = n by omega] at e
 unfold trimN at hf
 rw [if_pos e] at hf
 have : ∀ (k : Nat), trimN zs k ≤ k := fun k => by
  induction k with
  | zero => exact Nat.le_refl _
  | succ k ih => unfold trimN; split <;> omega
 have := this n
 omega
theorem lenD_le {zs : List Int} {b : Nat} (hw : WfD zs) (hf : trimN zs zs.length = zs.length) (h : valD zs ≤ ((2 ^ b : Nat) : Int)) : zs.length ≤ b / 13 + 1 := by
 by_cases hn : zs = []
 · subst hn; simp
 · obtain ⟨n, hl⟩ : ∃ n, zs.length = n + 1 := ⟨zs.length - 1, by have := List.length_pos_iff.2 hn; omega⟩
   have hx := full_last hf hn
   have hd := hw.getD (zs.length - 1)
   have ht := val_take_succD zs n
   have h0 := val_nonnegD (hw.take n)
   rw [hl, show n + 1 - 1 = n by omega] at hx hd
   rw [List.take_of_length_le (by omega)] at ht
   obtain ⟨P, hP⟩ : ∃ P : Nat, 10000 ^ n = P := ⟨_, rfl⟩
   have hPI : (10000 : Int) ^ n = (P : Int) := by rw [← hP, Int.natCast_pow]; rfl
   rw [hPI] at ht
   have h1 : (P : Int) * 1 ≤ (P : Int) * zs.getD n 0 := Int.mul_le_mul_of_nonneg_left (by omega) (Int.natCast_nonneg _)
   have h2 : 2 ^ (13 * n) ≤ P := by rw [← hP, Nat.pow_mul]; exact Nat.pow_le_pow_left (by omega) n
   have h3 : 2 ^ (13 * n) ≤ 2 ^ b := by omega
   have h4 : 13 * n ≤ b := (Nat.pow_le_pow_iff_right (by omega)).1 h3
   omega
end
section
open Go.RowKit
def dotC (s1 s2 : List Int) (q1 q2 : List Q3) : Int := if mayT s1 q1 ≠ 0 then mayT s1 q1 else if mayT s2 q2 ≠ 0 then mayT s2 q2 else if s1 ≠ s2 then 13 else 0
end
section
open Go.RowKit Go.Shelf
attribute [local go_sem] Oper.semAt_some
theorem besideQ_any (a b : Option Addr) (n m ca cb : Nat) (w : World) :
 Calls Tryz.prog 65 #[.slice a n ca, .slice b m cb] w fun e w' => e = .returned (.func (.func 105) #[] #[.pointer (some ⟨w.heap.size, 0, none⟩), .pointer (some ⟨w.heap.size + 1, 0, none⟩)]) ∧
  w' = (w.alloc (.cells #[.slice a n ca] 96)).alloc (.cells #[.slice b m cb] 96) := by
 go_enter Tryz.func65, Tryz.ntmps65
 go_wp2
 go_ret
 simp
end
section
open Go.RowKit
theorem mayPair_any {u v : Value} {s1 s2 : List Int} {q1 q2 : List Q3} {a1 b1 a2 b2 : Option Addr} {ca1 cb1 ca2 cb2 : Nat} {w : World} (T1 : TensQ w u s1 q1 a1 ca1 b1 cb1) (T2 : TensQ w v s2 q2 a2 ca2 b2 cb2) (h1 : s1.length ≤ 17592186044416) (h2 : s2.length ≤ 17592186044416) :
 Calls Tryz.prog 114 #[u, v] w fun e w' => e = .returned (.int .i64 (if s1 = s2 then 0 else 13)) ∧ Below w.heap.size w w' := by
 obtain rfl := T1.is
 obtain rfl := T2.is
 obtain ⟨W, hW⟩ : ∃ W, (w.alloc (.cells #[.slice a1 s1.length ca1, .slice b1 q1.length cb1] 26)).alloc (.cells #[.slice a2 s2.length ca2, .slice b2 q2.length cb2] 26) = W := ⟨_, rfl⟩
 have R0 : Row W w.heap.size 26 #[.slice a1 s1.length ca1, .slice b1 q1.length cb1] := by rw [← hW]; exact (Row.new _ _ _).alloc _
 have R1 : Row W (w.heap.size + 1) 26 #[.slice a2 s2.length ca2, .slice b2 q2.length cb2] := by rw [← hW]; have h := (Row.new (w.alloc (.cells #[.slice a1 s1.length ca1, .slice b1 q1.length cb1] 26)) 26 #[.slice a2 s2.length ca2, .slice b2 q2.length cb2]); simp only [World.size_alloc] at h; exact h
 have hBW : Below w.heap.size w W := by rw [← hW]; exact ((Below.refl _ _).alloc (by simp) _).alloc (by simp) _
 have hs := sameS_any (T1.later hBW).sh (T2.later hBW).sh T1.nila T2.nila h1 h2
 obtain ⟨c0, _, _, _⟩ := R0.two
 obtain ⟨c1, _, _, _⟩ := R1.two
 by_cases h : s1 = s2
 · rw [decide_eq_true h] at hs
   rw [if_pos h]
   clear h T1 T2 R0 R1
   go_enter Tryz.func114, Tryz.ntmps114
   (try rw [hW])
   go_wp2_with (go_at_call 63; refine hs.mono ?_; rintro e w1 ⟨rfl, hb⟩)
   go_ret
   exact ⟨rfl, hBW.trans (hb.mono hBW.size)⟩
 · rw [decide_eq_false h] at hs
   rw [if_neg h]
   clear h T1 T2 R0 R1
   go_enter Tryz.func114, Tryz.ntmps114
   (try rw [hW])
   go_wp2_with (go_at_call 63; refine hs.mono ?_; rintro e w1 ⟨rfl, hb⟩)
   go_ret
   exact ⟨rfl, hBW.trans (hb.mono hBW.size)⟩
end
section
open Go.RowKit
theorem total1_any {n g F : Nat} {R : Rat} {N : Nat} {w : World} {u v : Value} {p q : Q3} (hu : RawQ w u p) (hv : RawQ w v q) (hg : w.cell? ⟨g, 0, none⟩ = some (.func (.func F) #[] #[])) (heF : ∀ args w, (callFunc F args).run Tryz.prog w = .ok (.enter F args) w)
 (hdo : ∀ W x y, Below w.heap.size w W → RawQ W x p → RawQ W y q → Calls Tryz.prog F #[x, y] W fun e w' => ∃ r, e = .returned r ∧ ResQ W.heap.size w' r R N ∧ Below W.heap.size W w') :
 Calls Tryz.prog 117 #[u, v, .pointer (some ⟨g, 0, none⟩)] w fun e w' => ∃ r, e = .returned (.tuple #[r, .int .i64 0]) ∧ ResQ w.heap.size w' r R N ∧ Below w.heap.size w w' := by
 have HU := Lib.hid hu
 have HV := Lib.hid hv
 obtain ⟨a1, b1, ca1, cb1, rfl, _⟩ := hu
 obtain ⟨a2, b2, ca2, cb2, rfl, _⟩ := hv
 obtain ⟨W, hW⟩ : ∃ W, (((w.alloc (.cells #[.bool p.neg, .slice a1 p.num.length ca1, .slice b1 p.den.length cb1] 54)).alloc (.cells #[.bool q.neg, .slice a2 q.num.length ca2, .slice b2 q.den.length cb2] 54)).alloc (.cells #[.bool false, .slice none 0 0, .slice none 0 0] 54)) = W := ⟨_, rfl⟩
 have R0 : Row W (w.heap.size) 54 #[.bool p.neg, .slice a1 p.num.length ca1, .slice b1 p.den.length cb1] := by rw [← hW]; exact ((Row.new _ _ _).alloc _).alloc _
 have R1 : Row W (w.heap.size + 1) 54 #[.bool q.neg, .slice a2 q.num.length ca2, .slice b2 q.den.length cb2] := by rw [← hW]; have h := (Row.new (w.alloc (.cells #[.bool p.neg, .slice a1 p.num.length ca1, .slice b1 p.den.length cb1] 54)) 54 #[.bool q.neg, .slice a2 q.num.length ca2, .slice b2 q.den.length cb2]); simp only [World.size_alloc] at h; exact h.alloc _
 have R2 : Row W (w.heap.size + 1 + 1) 54 #[.bool false, .slice none 0 0, .slice none 0 0] := by rw [← hW]; have h := (Row.new ((w.alloc (.cells #[.bool p.neg, .slice a1 p.num.length ca1, .slice b1 p.den.length cb1] 54)).alloc (.cells #[.bool q.neg, .slice a2 q.num.length ca2, .slice b2 q.den.length cb2] 54)) 54 #[.bool false, .slice none 0 0, .slice none 0 0]); simp only [World.size_alloc] at h; exact h
 have hBW : Below w.heap.size w W := by rw [← hW]; exact ((((Below.refl _ _).alloc (by (try simp) <;> omega) _).alloc (by (try simp) <;> omega) _).alloc (by (try simp) <;> omega) _)
 have hsW : w.heap.size + 1 + 1 + 1 ≤ W.heap.size := by rw [← hW]; simp
 have cg := (hBW.cell (World.block_lt_of_cell? w _ hg)).trans hg
 have hp := hdo W _ _ hBW (HU.out.later hBW) (HV.out.later hBW)
 obtain ⟨c0, c1, c2, _, _, _⟩ := R0.three
 obtain ⟨d0, d1, d2, _, _, _⟩ := R1.three
 have HDO := Lib.hid hdo
 clear hdo hg
 go_enter Tryz.func117, Tryz.ntmps117
 (try rw [hW])
 go_wp2_with fail
 refine hp.mono ?_
 rintro e w2 ⟨r, rfl, qv, hb2⟩
 have Q2 := Lib.hid qv
 obtain ⟨m5, f1, l1, j1, f2, l2, j2, rfl⟩ := qv.shape
 clear qv
 have P2 := R2.later hb2
 have s2 := hb2.size
 obtain ⟨u0, u1, u2, g0, g1, g2⟩ := P2.three
 go_wp2_with fail
 have P3 := P2.set3 (.bool m5) (.slice f1 l1 j1) (.slice f2 l2 j2)
 obtain ⟨z0, z1, z2, _, _, _⟩ := P3.three
 refine bodyPost_ret (v := .tuple #[.agg #[.bool m5, .slice f1 l1 j1, .slice f2 l2 j2], .int .i64 0]) (by simp [results, Tryz.results117, go_sem, z0, z1, z2]) rfl ⟨_, rfl, ?_, below_set3 (hBW.trans (hb2.mono (by omega))) (by omega) _ _ _⟩
 exact (Q2.out.mono (by omega)).far P2 (by decide) (kept3 _ _ _)
theorem total_any (F : Nat) (w : World) : Calls Tryz.prog 74 #[.func (.func F) #[] #[]] w fun e w' => e = .returned (.func (.func 117) #[] #[.pointer (some ⟨w.heap.size, 0, none⟩)]) ∧
 w' = w.alloc (.cells #[.func (.func F) #[] #[]] 112) := by
 go_enter Tryz.func74, Tryz.ntmps74
 go_wp2
 go_ret
 simp
end
section
open Go.RowKit
theorem orL_two (x y : Int) : orL [x, y] = if x ≠ 0 then x else y := by
 unfold orL
 by_cases h : x = 0
 · rw [if_pos h, if_neg (by simp [h])]
   unfold orL
   by_cases h2 : y = 0
   · rw [if_pos h2, h2]; rfl
   · rw [if_neg h2]
 · rw [if_neg h, if_pos h]
end
section
open Go.RowKit
theorem ResS.arg2 {B : Nat} {w : World} {u : Value} {xs : List Int} (h : ResS B w u xs) : ∃ ad cap, ArgS w u xs ad cap ∧ (ad = none → cap = 0) := by
 obtain ⟨ad, cap, rfl, _, A, hn⟩ := h.slice
 exact ⟨ad, cap, A, hn⟩
end
section
open Go.RowKit
theorem Jo.sum {a : Nat} {xs : List X2} (J : Jo a xs) : (joS a xs).getD a 0 = sumD a xs := getD_set_self _ _ _ J.ax
end
section
theorem sumK_add (f g : Nat → Rat) (n : Nat) : sumK (fun k => f k + g k) n = sumK f n + sumK g n := by
 induction n with
 | zero => simp only [sumK]; grind
 | succ n ih => simp only [sumK]; rw [ih]; grind
theorem sumK_list (L : List Rat) : sumK (fun k => L.getD k 0) L.length = totL L := by
 rw [← totL_range]
 congr 1
 apply List.ext_getElem
 · simp
 · intro i g1 g2
   simp [g2]
theorem partL_sum (fm : Nat → Nat) (L : List Rat) (i k : Nat) : totL (partL fm L i k) = sumK (fun p => if fm p = i then L.getD p 0 else 0) k := by
 induction k with
 | zero => rfl
 | succ k ih =>
  simp only [partL, sumK]
  rw [totL_append, ih]
  split
  · rw [totL_one]
  · rfl
theorem gathL_at (fm : Nat → Nat) (n m : Nat) (L : List Rat) {i : Nat} (hi : i < m) : (gathL fm n m L).getD i 0 = sumK (fun p => if fm p = i then L.getD p 0 else 0) n := by
 unfold gathL
 rw [List.getD_eq_getElem?_getD, List.getElem?_map, List.getElem?_range hi]
 exact partL_sum fm L i n
theorem ratL_eq {a b : List Rat} (hl : a.length = b.length) (h : ∀ i, i < a.length → a.getD i 0 = b.getD i 0) : a = b := by
 apply List.ext_getElem hl
 intro i g1 g2
 have := h i g1
 simpa [List.getD_eq_getElem?_getD, g1, g2] using this
theorem gathL_add {fm : Nat → Nat} {n m : Nat} {A B C : List Rat} (h : ∀ p, p < n → C.getD p 0 = A.getD p 0 + B.getD p 0) : gathL fm n m C = List.zipWith (fun x y => x + y) (gathL fm n m A) (gathL fm n m B) := by
 refine ratL_eq (by rw [List.length_zipWith, gathL_len, gathL_len, gathL_len]; omega) fun i hi => ?_
 rw [gathL_len] at hi
 have e : (List.zipWith (fun x y => x + y) (gathL fm n m A) (gathL fm n m B)).getD i 0 = (gathL fm n m A).getD i 0 + (gathL fm n m B).getD i 0 := by
  have a1 : i < (gathL fm n m A).length := by rw [gathL_len]; exact hi
  have a2 : i < (gathL fm n m B).length := by rw [gathL_len]; exact hi
  rw [List.getD_eq_getElem?_getD, List.getD_eq_getElem?_getD, List.getD_eq_getElem?_getD, List.getElem?_zipWith, List.getElem?_eq_getElem a1, List.getElem?_eq_getElem a2]
  rfl
 rw [e, gathL_at _ _ _ _ hi, gathL_at _ _ _ _ hi, gathL_at _ _ _ _ hi, ← sumK_add]
 refine sumK_congr fun p hp => ?_
 rw [h p hp]
 split
 · rfl
 · grind
theorem gathL_all {fm : Nat → Nat} {n : Nat} {L : List Rat} (hl : L.length = n) (h : ∀ p, p < n → fm p = 0) : gathL fm n 1 L = [totL L] := by
 refine ratL_eq (by rw [gathL_len]; rfl) fun i hi => ?_
 rw [gathL_len] at hi
 obtain rfl : i = 0 := by omega
 rw [gathL_at _ _ _ _ (by omega)]
 have : ([totL L] : List Rat).getD 0 0 = totL L := rfl
 rw [this, ← sumK_list, hl]
 exact sumK_congr fun p hp => if_pos (h p hp)
theorem dropL_all (s axes : List Int) (j : Nat) (h : ∀ i, i < j → (i : Int) ∈ axes) : dropL s axes j = [] := by
 induction j with
 | zero => rfl
 | succ j ih => simp only [dropL]; rw [ih fun i hi => h i (by omega), if_pos (h j (by omega))]; rfl
theorem sumF_all {s axes : List Int} {L : List Rat} (ok : OkS s) (hl : L.length = cntF s) (h : ∀ i, i < s.length → (i : Int) ∈ axes) : dropS s axes = [] ∧ sumF s axes L = [totL L] := by
 have hd : ∀ xs : List Int, xs.length = s.length → dropS xs axes = [] := fun xs hx => dropL_all xs axes _ (by rw [hx]; exact h)
 refine ⟨hd s rfl, ?_⟩
 unfold sumF
 rw [hd s rfl]
 refine gathL_all hl fun p hp => ?_
 unfold toF
 rw [hd s rfl, hd _ (idx_length _ _)]
 rfl
theorem sumF_add {s axes : List Int} {A B C : List Rat} (h : ∀ p, p < cntF s → C.getD p 0 = A.getD p 0 + B.getD p 0) : sumF s axes C = List.zipWith (fun x y => x + y) (sumF s axes A) (sumF s axes B) := gathL_add h
theorem zipAdd_at {A B : List Rat} (h : B.length = A.length) (n : Nat) : (List.zipWith (fun x y => x + y) A B).getD n 0 = A.getD n 0 + B.getD n 0 := by
 by_cases hn : n < A.length
 · have h2 : n < B.length := by omega
   rw [List.getD_eq_getElem?_getD, List.getD_eq_getElem?_getD, List.getD_eq_getElem?_getD, List.getElem?_zipWith, List.getElem?_eq_getElem hn, List.getElem?_eq_getElem h2]
   rfl
 · have h2 : ¬ n < B.length := by omega
   have h3 : ¬ n < (List.zipWith (fun x y => x + y) A B).length := by rw [List.length_zipWith]; omega
   simp only [List.getD_eq_getElem?_getD]
   rw [List.getElem?_eq_none (by omega), List.getElem?_eq_none (by omega), List.getElem?_eq_none (by omega)]
   simp only [Option.getD_none]
   grind
end
section
open Go.RowKit
theorem ArgQ.more10 {w : World} {v : Value} {x : Rat} {n m : Nat} (h : ArgQ w v x n) (hm : n ≤ m) : ArgQ w v x m := by
 obtain ⟨neg, xs, ys, ad, bd, ca, cb, rfl, A, B, e, h1, h2⟩ := h
 exact ⟨neg, xs, ys, ad, bd, ca, cb, rfl, A, B, e, by omega, by omega⟩
end
section
open Go.RowKit
def turn10 (qs : List Q3) (n : Nat) : List Rat := (List.range n).map fun k => ((qs[k % qs.length]?).map Q3.rat).getD 0
theorem turn10_len (qs : List Q3) (n : Nat) : (turn10 qs n).length = n := by unfold turn10; simp
theorem turn10_next {qs : List Q3} {k : Nat} {q : Q3} (h : qs[k % qs.length]? = some q) : turn10 qs (k + 1) = turn10 qs k ++ [q.rat] := by
 unfold turn10
 rw [List.range_succ, List.map_append, List.map_cons, List.map_nil, h]
 rfl
end
end Go.Proofs.YtengpgodmbfmkaaGreat
