/-
  Part 17 of 39: contracts and what they rest on (SRef, SRefB, SRefC, SPart, SCode1, TRat).
-/
import Derived.Test.YtengpgodmbfmkaaGreatG15
import Derived.Test.YtengpgodmbfmkaaGreatG16
namespace Go.Proofs.YtengpgodmbfmkaaGreat
set_option linter.unusedVariables false
set_option linter.unusedSimpArgs false
set_option maxRecDepth 100000
set_option maxHeartbeats 40000000
section
open Go.RowKit
theorem mayR6_any {u : Value} {xs : List Int} {ad : Option Addr} {cap : Nat} {w : World} (A : ArgS w u xs ad cap) :
 Calls Tryz.prog 46 #[u] w fun e w' => e = .returned (.int .i64 (mayC xs)) ∧ w = w' := by
 have HA := Lib.hid A
 obtain rfl := A.is
 obtain ⟨L, hL⟩ : ∃ L, xs.length = L := ⟨_, rfl⟩
 have HL := Lib.hid hL
 obtain ⟨c, hc⟩ : ∃ c, mayC xs = c := ⟨_, rfl⟩
 have HC := Lib.hid hc
 rw [hL, hc]
 clear A hL hc
 by_cases h4 : 4 < L
 · obtain rfl : c = 14 := by rw [← HC.out]; exact mayC_rank (by rw [HL.out]; exact h4)
   have h4I : (4 : Int) < (L : Int) := by omega
   go_enter Tryz.func46, Tryz.ntmps46
   go_wp2
   go_ret
   exact ⟨rfl, rfl⟩
 · have h4I : ¬ (4 : Int) < (L : Int) := by omega
   go_enter Tryz.func46, Tryz.ntmps46
   go_wp2
   go_loop [3] (fun i => ∃ k : Nat, i = .int .i64 (k : Int) ∧ k ≤ L ∧ posS (xs.take k)) (fun i => L - (intOf i).toNat)
   case atStart => exact ⟨0, rfl, Nat.zero_le _, fun x h => by simp at h⟩
   case round =>
    obtain ⟨k, rfl, hkL, hp⟩ := hrel
    have HP := Lib.hid hp
    clear hp
    by_cases hlt : k < L
    · obtain ⟨b, off, rfl, hc⟩ := HA.out.at (i := k) (by rw [HL.out]; exact hlt)
      have hx : xs[k]? = some (xs.getD k 0) := by rw [List.getD_eq_getElem?_getD, List.getElem?_eq_getElem (by rw [HL.out]; exact hlt)]; rfl
      obtain ⟨x, hxe⟩ : ∃ x, xs.getD k 0 = x := ⟨_, rfl⟩
      rw [hxe] at hc hx
      have HX := Lib.hid hx
      have hltI : (k : Int) < (L : Int) := by omega
      clear hxe hx
      by_cases h1 : x < 1
      · obtain rfl : c = 13 := by
         rw [← HC.out]
         refine mayC_dim (by rw [HL.out]; omega) fun hp => ?_
         have := hp x (List.mem_of_getElem? HX.out)
         omega
        go_wp2
        go_ret
        exact ⟨rfl, rfl⟩
      · go_wp2
        go_round
        case rel =>
         refine ⟨k + 1, by go_num, by omega, fun y hy => ?_⟩
         rw [List.take_add_one, HX.out, Option.toList_some] at hy
         rcases List.mem_append.1 hy with h | h
         · exact HP.out y h
         · rw [List.mem_singleton.1 h]; omega
        case measure => simp [intOf]; omega
    · obtain rfl : k = L := by omega
      have hpos : posS xs := by
       have := HP.out
       rwa [List.take_of_length_le (by rw [HL.out]; exact Nat.le_refl _)] at this
      have hltI : ¬ (k : Int) < (k : Int) := by omega
      have HQ := Lib.hid hpos
      clear hpos
      go_wp2
      go_loop [4, 5] (fun n i => ∃ j : Nat, i = .int .i64 (j : Int) ∧ j ≤ k ∧ n = .int .i64 (prodS (xs.take j)) ∧ prodS (xs.take j) ≤ 1024) (fun _ i => k - (intOf i).toNat)
      case atStart => exact ⟨0, rfl, Nat.zero_le _, rfl, by simp [prodS]⟩
      case round =>
       obtain ⟨j, rfl, hjk, rfl, hn⟩ := hrel
       have hn1 := prodS_pos (HQ.out.take j)
       obtain ⟨n, hne⟩ : ∃ n, prodS (xs.take j) = n := ⟨_, rfl⟩
       rw [hne] at hn hn1 ⊢
       by_cases hjl : j < k
       · obtain ⟨b, off, rfl, hc⟩ := HA.out.at (i := j) (by rw [HL.out]; exact hjl)
         have hx1 := HQ.out.getD (i := j) (by rw [HL.out]; exact hjl)
         have hst := prodS_take (s := xs) (k := j) (by rw [HL.out]; exact hjl)
         have hle := getD_le_prod HQ.out (k := j) (by rw [HL.out]; exact hjl)
         have hle2 := prodS_take_le HQ.out (j + 1)
         obtain ⟨x, hxe⟩ : ∃ x, xs.getD j 0 = x := ⟨_, rfl⟩
         rw [hxe] at hc hx1 hst hle
         rw [hne] at hst
         rw [hst] at hle2
         have HST := Lib.hid hst
         have HLE := Lib.hid hle
         have HLE2 := Lib.hid hle2
         have hjI : (j : Int) < (k : Int) := by omega
         clear hxe hne hst hle hle2
         by_cases hbig : 1024 < x
         · obtain rfl : c = 14 := by
            rw [← HC.out]
            exact mayC_count (by rw [HL.out]; omega) HQ.out (by have := HLE.out; omega)
           go_wp2
           go_ret
           exact ⟨rfl, rfl⟩
         · have hm0 : 0 ≤ n * x := Int.mul_nonneg (by omega) (by omega)
           have hm1 : n * x ≤ 1024 * 1024 := Int.mul_le_mul (by omega) (by omega) (by omega) (by omega)
           have hw : IntKind.i64.wrap (n * x) = n * x := IntWalk.i64_in _ (by omega)
           obtain ⟨m, hm⟩ : ∃ m, n * x = m := ⟨_, rfl⟩
           rw [hm] at hm0 hm1 hw
           have HM := Lib.hid hm
           by_cases hbig2 : 1024 < m
           · obtain rfl : c = 14 := by
              rw [← HC.out]
              exact mayC_count (by rw [HL.out]; omega) HQ.out (by have := HLE2.out; have := HM.out; omega)
             go_wp2
             go_ret
             exact ⟨rfl, rfl⟩
           · go_wp2
             go_round
             case rel => exact ⟨j + 1, by go_num, by omega, by rw [HST.out, HM.out], by rw [HST.out, HM.out]; omega⟩
             case measure => simp [intOf]; omega
       · obtain rfl : j = k := by omega
         obtain rfl : c = 0 := by
          rw [← HC.out]
          refine mayC_ok ⟨by rw [HL.out]; omega, HQ.out, ?_⟩
          rw [List.take_of_length_le (by rw [HL.out]; exact Nat.le_refl _)] at hne
          rw [hne]
          exact hn
         have hjI : ¬ (j : Int) < (j : Int) := by omega
         clear hne
         go_wp2
         go_ret
         exact ⟨rfl, rfl⟩
theorem countR6_any {u : Value} {xs : List Int} {ad : Option Addr} {cap : Nat} {w : World} (A : ArgS w u xs ad cap) :
 Calls Tryz.prog 47 #[u] w fun e w' => e = .returned (.int .i64 (countS xs)) ∧ w = w' := by
 have hm := mayR6_any A
 have HA := Lib.hid A
 obtain rfl := A.is
 by_cases h0 : mayC xs = 0
 · have ok := mayC_zero.1 h0
   rw [ok.count]
   rw [h0] at hm
   obtain ⟨L, hL⟩ : ∃ L, xs.length = L := ⟨_, rfl⟩
   have HL := Lib.hid hL
   obtain ⟨P, hP⟩ : ∃ P, prodS xs = P := ⟨_, rfl⟩
   have HP := Lib.hid hP
   rw [hL] at hm ⊢
   rw [hP]
   have HO := Lib.hid ok
   have h4 : L ≤ 4 := by rw [← hL]; exact ok.rank
   clear A hL hP ok h0
   go_enter Tryz.func47, Tryz.ntmps47
   go_wp2_with (go_at_call 46; refine hm.mono ?_; rintro e w1 ⟨rfl, rfl⟩)
   clear hm
   go_loop [3, 4] (fun n i => ∃ j : Nat, i = .int .i64 (j : Int) ∧ j ≤ L ∧ n = .int .i64 (prodS (xs.take j))) (fun _ i => L - (intOf i).toNat)
   case atStart => exact ⟨0, rfl, Nat.zero_le _, rfl⟩
   case round =>
    obtain ⟨j, rfl, hjk, rfl⟩ := hrel
    have hn1 := prodS_pos (HO.out.pos.take j)
    have hn2 := prodS_take_le HO.out.pos j
    have hf := HO.out.few
    obtain ⟨n, hne⟩ : ∃ n, prodS (xs.take j) = n := ⟨_, rfl⟩
    rw [hne] at hn1 hn2 ⊢
    by_cases hjl : j < L
    · obtain ⟨b, off, rfl, hc⟩ := HA.out.at (i := j) (by rw [HL.out]; exact hjl)
      have hx1 := HO.out.pos.getD (i := j) (by rw [HL.out]; exact hjl)
      have hst := prodS_take (s := xs) (k := j) (by rw [HL.out]; exact hjl)
      have hle := getD_le_prod HO.out.pos (k := j) (by rw [HL.out]; exact hjl)
      obtain ⟨x, hxe⟩ : ∃ x, xs.getD j 0 = x := ⟨_, rfl⟩
      rw [hxe] at hc hx1 hst hle
      rw [hne] at hst
      have hm0 : 0 ≤ n * x := Int.mul_nonneg (by omega) (by omega)
      have hm1 : n * x ≤ 1024 * 1024 := Int.mul_le_mul (by omega) (by omega) (by omega) (by omega)
      have hw : wrap64 (n * x) = n * x := by unfold wrap64; omega
      have HST := Lib.hid hst
      have hjI : (j : Int) < (L : Int) := by omega
      clear hxe hne hst hle hf hn2
      go_wp2
      go_round
      case rel => exact ⟨j + 1, by go_num, by omega, by rw [HST.out]⟩
      case measure => simp [intOf]; omega
    · obtain rfl : j = L := by omega
      obtain rfl : n = P := by
       rw [← hne, List.take_of_length_le (by rw [HL.out]; exact Nat.le_refl _)]; exact HP.out
      have hjI : ¬ (j : Int) < (j : Int) := by omega
      clear hne
      go_wp2
      go_ret
      exact ⟨rfl, rfl⟩
 · rw [count_bad h0]
   obtain ⟨c, hc⟩ : ∃ c, mayC xs = c := ⟨_, rfl⟩
   rw [hc] at hm h0
   have hne : (c != 0) = true := by simpa using h0
   clear h0 hc A
   go_enter Tryz.func47, Tryz.ntmps47
   go_wp2_with (go_at_call 46; refine hm.mono ?_; rintro e w1 ⟨rfl, rfl⟩)
   go_ret
   exact ⟨rfl, rfl⟩
end
section
open Go.RowKit
theorem belowS_drew (B : Nat) (w : World) (n : Nat) : Below B w (w.drewN n) := ⟨rfl, rfl, rfl, Nat.le_refl _, fun _ _ => rfl⟩
theorem take_all {xs : List Int} {n : Nat} (h : xs.length = n) : xs.take n = xs := List.take_of_length_le (by omega)
theorem getD_some {xs : List Int} {k : Nat} (h : k < xs.length) : xs[k]? = some (xs.getD k 0) := by rw [List.getD_eq_getElem?_getD, List.getElem?_eq_getElem h]; rfl
theorem take_next {xs : List Int} {k : Nat} (h : k < xs.length) : xs.take (k + 1) = xs.take k ++ [xs.getD k 0] := by rw [List.take_add_one, getD_some h]; rfl
def backS (s : List Int) (k : Nat) : Int := if s.length < k then 0 else s.getD (s.length - k) 0
theorem backR6_any {u : Value} {xs : List Int} {a : Option Addr} {ca : Nat} {w : World} {k : Nat} (A : ArgS w u xs a ca) (hk : 1 ≤ k) (hl : xs.length ≤ 4) (hk2 : k ≤ 1000) :
 Calls Tryz.prog 103 #[u, .int .i64 (k : Int)] w fun e w' => e = .returned (.int .i64 (backS xs k)) ∧ w = w' := by
 have HA := Lib.hid A
 obtain rfl := A.is
 obtain ⟨L, hL⟩ : ∃ L, xs.length = L := ⟨_, rfl⟩
 have HL := Lib.hid hL
 unfold backS
 rw [hL] at hl ⊢
 clear A hL
 by_cases hlt : L < k
 · rw [if_pos hlt]
   have hI : (L : Int) < (k : Int) := by omega
   go_enter Tryz.func103, Tryz.ntmps103
   go_wp2
   go_ret
   exact ⟨rfl, rfl⟩
 · rw [if_neg hlt]
   obtain ⟨j, hj⟩ : ∃ j, L - k = j := ⟨_, rfl⟩
   rw [hj]
   obtain ⟨b, off, rfl, hc⟩ := HA.out.at (i := j) (by rw [HL.out]; omega)
   obtain ⟨x, hx⟩ : ∃ x, xs.getD j 0 = x := ⟨_, rfl⟩
   rw [hx] at hc ⊢
   have hI : ¬ (L : Int) < (k : Int) := by omega
   have hjI : (L : Int) - (k : Int) = (j : Int) := by omega
   have hjL : (j : Int) < (L : Int) := by omega
   clear hx
   go_enter Tryz.func103, Tryz.ntmps103
   go_wp2
   go_ret
   exact ⟨rfl, rfl⟩
end
section
open Go.RowKit
def fitU (f t : List Int) (k : Nat) : Prop := ∀ j, 1 ≤ j → j ≤ k → backS t j ≠ 0 ∧ (backS f j = 1 ∨ backS f j = backS t j)
instance fitU_dec (f t : List Int) (k : Nat) : Decidable (fitU f t k) := decidable_of_iff (∀ j, j < k + 1 → 1 ≤ j → backS t j ≠ 0 ∧ (backS f j = 1 ∨ backS f j = backS t j))
 ⟨fun h j h1 h2 => h j (by omega) h1, fun h j h1 h2 => h j h2 (by omega)⟩
def fitC (f t : List Int) : Int := if mayC f ≠ 0 then mayC f else if mayC t ≠ 0 then mayC t else if fitU f t f.length then 0 else 13
theorem fitC_from {f t : List Int} (h : mayC f ≠ 0) : fitC f t = mayC f := by unfold fitC; rw [if_pos h]
theorem fitC_to {f t : List Int} (h : mayC f = 0) (h2 : mayC t ≠ 0) : fitC f t = mayC t := by unfold fitC; rw [if_neg (by rw [h]; simp), if_pos h2]
theorem fitC_ok {f t : List Int} (h : mayC f = 0) (h2 : mayC t = 0) (h3 : fitU f t f.length) : fitC f t = 0 := by unfold fitC; rw [if_neg (by rw [h]; simp), if_neg (by rw [h2]; simp), if_pos h3]
theorem fitC_bad {f t : List Int} (h : mayC f = 0) (h2 : mayC t = 0) (h3 : ¬ fitU f t f.length) : fitC f t = 13 := by unfold fitC; rw [if_neg (by rw [h]; simp), if_neg (by rw [h2]; simp), if_neg h3]
theorem fitsR_any {u v : Value} {xs ys : List Int} {a b : Option Addr} {ca cb : Nat} {w : World} (A : ArgS w u xs a ca) (B : ArgS w v ys b cb) :
 Calls Tryz.prog 61 #[u, v] w fun e w' => e = .returned (.int .i64 (fitC xs ys)) ∧ w = w' := by
 have m1 := mayR6_any A
 have m2 := mayR6_any B
 have hbk := fun k (h1 : 1 ≤ k) h2 h3 => backR6_any (k := k) A h1 h2 h3
 have hbt := fun k (h1 : 1 ≤ k) h2 h3 => backR6_any (k := k) B h1 h2 h3
 obtain ⟨c, hc⟩ : ∃ c, fitC xs ys = c := ⟨_, rfl⟩
 rw [hc]
 by_cases h1 : mayC xs = 0
 · rw [h1] at m1
   by_cases h2 : mayC ys = 0
   · rw [h2] at m2
     have o1 := mayC_zero.1 h1
     have o2 := mayC_zero.1 h2
     have l1 := o1.rank
     have l2 := o2.rank
     have hcc : fitU xs ys xs.length → c = 0 := fun h => by rw [← hc, fitC_ok h1 h2 h]
     have hcb : ¬ fitU xs ys xs.length → c = 13 := fun h => by rw [← hc, fitC_bad h1 h2 h]
     obtain rfl := A.is
     obtain rfl := B.is
     obtain ⟨L, hL⟩ : ∃ L, xs.length = L := ⟨_, rfl⟩
     obtain ⟨M, hM⟩ : ∃ M, ys.length = M := ⟨_, rfl⟩
     rw [hL] at m1 hbk l1 hcc hcb ⊢
     rw [hM] at m2 hbt l2 ⊢
     have HCC := Lib.hid hcc
     have HCB := Lib.hid hcb
     clear A B hc h1 h2 o1 o2 hL hM hcc hcb
     go_enter Tryz.func61, Tryz.ntmps61
     go_wp2_with fail
     refine m1.mono ?_
     rintro e w1 ⟨rfl, rfl⟩
     go_wp2_with fail
     refine m2.mono ?_
     rintro e w2 ⟨rfl, rfl⟩
     clear m1 m2
     go_wp2_with fail
     go_loop [7] (fun i => ∃ q : Nat, i = .int .i64 (q : Int) ∧ 1 ≤ q ∧ q ≤ L + 1 ∧ fitU xs ys (q - 1)) (fun i => L + 1 - (intOf i).toNat)
     case atStart => exact ⟨1, rfl, Nat.le_refl _, by omega, fun j h1 h2 => by omega⟩
     case round =>
      obtain ⟨q, rfl, hq1, hqL, hp⟩ := hrel
      have HP := Lib.hid hp
      clear hp
      by_cases hlt : q ≤ L
      · have kf := hbk q hq1 l1 (by omega)
        have kt := hbt q hq1 l2 (by omega)
        obtain ⟨x, hx⟩ : ∃ x, backS xs q = x := ⟨_, rfl⟩
        obtain ⟨y, hy⟩ : ∃ y, backS ys q = y := ⟨_, rfl⟩
        rw [hx] at kf
        rw [hy] at kt
        have HX := Lib.hid hx
        have HY := Lib.hid hy
        have hI : (q : Int) ≤ (L : Int) := by omega
        have hbad : ¬ (y ≠ 0 ∧ (x = 1 ∨ x = y)) → c = 13 := fun h => HCB.out fun hf => by
         have := hf q hq1 hlt
         rw [HX.out, HY.out] at this
         exact h this
        have hgood : (y ≠ 0 ∧ (x = 1 ∨ x = y)) → fitU xs ys q := fun h j h1 h2 => by
         by_cases hj : j = q
         · subst hj; rw [HX.out, HY.out]; exact h
         · exact HP.out j h1 (by omega)
        have HG := Lib.hid hgood
        clear hx hy hgood
        by_cases hy0 : y = 0
        · obtain rfl : c = 13 := hbad (fun h => h.1 hy0)
          have hn : (y == 0) = true := by simpa using hy0
          clear hbad
          go_wp2_with (go_at_call 103; refine kt.mono ?_; rintro e w3 ⟨rfl, rfl⟩)
          go_ret
          exact ⟨rfl, rfl⟩
        · have hn : (y == 0) = false := by simpa using hy0
          by_cases hx1 : x = 1
          · subst hx1
            clear hbad
            go_wp2_with (go_at_call 103; first | ((with_reducible refine kt.mono ?_); rintro e w3 ⟨rfl, rfl⟩) | ((with_reducible refine kf.mono ?_); rintro e w3 ⟨rfl, rfl⟩))
            go_round
            case rel => exact ⟨q + 1, by go_num, by omega, by omega, HG.out ⟨hy0, .inl (by trivial)⟩⟩
            case measure => simp [intOf]; omega
          · have hn1 : (x != 1) = true := by simpa using hx1
            by_cases hxy : x = y
            · subst hxy
              have hn2 : (x != x) = false := by simp
              clear hbad
              go_wp2_with (go_at_call 103; first | ((with_reducible refine kt.mono ?_); rintro e w3 ⟨rfl, rfl⟩) | ((with_reducible refine kf.mono ?_); rintro e w3 ⟨rfl, rfl⟩))
              go_round
              case rel => exact ⟨q + 1, by go_num, by omega, by omega, HG.out ⟨hy0, .inr (by trivial)⟩⟩
              case measure => simp [intOf]; omega
            · have hn2 : (x != y) = true := by simpa using hxy
              obtain rfl : c = 13 := hbad (fun h => h.2.elim hx1 hxy)
              clear hbad
              go_wp2_with (go_at_call 103; first | ((with_reducible refine kt.mono ?_); rintro e w3 ⟨rfl, rfl⟩) | ((with_reducible refine kf.mono ?_); rintro e w3 ⟨rfl, rfl⟩))
              go_ret
              exact ⟨rfl, rfl⟩
      · obtain rfl : q = L + 1 := by omega
        obtain rfl : c = 0 := HCC.out HP.out
        have hI : ¬ ((L + 1 : Nat) : Int) ≤ (L : Int) := by omega
        go_wp2
        go_ret
        exact ⟨rfl, rfl⟩
   · rw [fitC_to h1 h2] at hc
     subst hc
     obtain ⟨c, hc⟩ : ∃ c, mayC ys = c := ⟨_, rfl⟩
     rw [hc] at m2 h2 ⊢
     have hne : (c != 0) = true := by simpa using h2
     clear h1 h2 hc hbk hbt
     go_enter Tryz.func61, Tryz.ntmps61
     go_wp2_with fail
     refine m1.mono ?_
     rintro e w1 ⟨rfl, rfl⟩
     go_wp2_with fail
     refine m2.mono ?_
     rintro e w2 ⟨rfl, rfl⟩
     clear m1 m2
     go_wp2
     go_ret
     exact ⟨rfl, rfl⟩
 · rw [fitC_from h1] at hc
   subst hc
   obtain ⟨c, hc⟩ : ∃ c, mayC xs = c := ⟨_, rfl⟩
   rw [hc] at m1 h1 ⊢
   have hne : (c != 0) = true := by simpa using h1
   clear h1 hc hbk hbt m2
   go_enter Tryz.func61, Tryz.ntmps61
   go_wp2_with fail
   refine m1.mono ?_
   rintro e w1 ⟨rfl, rfl⟩
   clear m1
   go_wp2
   go_ret
   exact ⟨rfl, rfl⟩
end
section
open Go.RowKit
def PartS (w : World) (g cap : Nat) (zs : List Int) : Prop := ∃ cur : Array Value, w.heap[g]? = some (.cells cur 3 (0, 0)) ∧ cur.size = cap ∧ zs.length ≤ cap ∧ cur.toList.take zs.length = zs.map (Value.int .i64)
theorem PartS.cell {w : World} {g cap : Nat} {zs : List Int} (h : PartS w g cap zs) (i : Nat) (hi : i < zs.length) : w.cell? ⟨g, i, none⟩ = some (.int .i64 (zs.getD i 0)) := by
 obtain ⟨cur, hh, hs, hl, ht⟩ := h
 have e : w.cell? ⟨g, i, none⟩ = cur[i]? := cell_of_row w g i _ 3 (0, 0) hh
 rw [e]
 have h1 : (cur.toList.take zs.length)[i]? = cur[i]? := by rw [List.getElem?_take_of_lt hi]; simp
 rw [← h1, ht]
 simp [hi]
theorem PartS.free {w : World} {g cap : Nat} {zs : List Int} (h : PartS w g cap zs) (i : Nat) : w.frozen? ⟨g, i, none⟩ = false := by
 obtain ⟨cur, hh, _⟩ := h
 exact frozen_of_row w g i _ 3 hh
theorem PartS.same {w w' : World} {g cap : Nat} {zs : List Int} (h : PartS w g cap zs) (e : w'.heap[g]? = w.heap[g]?) : PartS w' g cap zs := by
 obtain ⟨cur, hh, r⟩ := h
 exact ⟨cur, e.trans hh, r⟩
theorem PartS.set {w : World} {g cap : Nat} {zs : List Int} (h : PartS w g cap zs) (i : Nat) (hi : i < zs.length) (x : Int) : PartS (w.setCell ⟨g, i, none⟩ (.int .i64 x)) g cap (zs.set i x) := by
 obtain ⟨cur, hh, hs, hl, ht⟩ := h
 refine ⟨cur.setIfInBounds i (.int .i64 x), ?_, by simpa using hs, by simpa using hl, ?_⟩
 · have e := heap_setCell_same w g i _ 3 (.int .i64 x) hh
   rw [e]
 · rw [List.length_set, Array.toList_setIfInBounds, List.take_set, ht, List.map_set]
theorem PartS.num {base g cap : Nat} {w : World} {zs : List Int} (h : PartS w g cap zs) (hb : base ≤ g) (hm : cap ≤ maxLen) : NumS base w (.slice (some ⟨g, 0, none⟩) zs.length cap) zs := by
 obtain ⟨cur, hh, hs, hl, ht⟩ := h
 exact ⟨by simp, .inr ⟨g, cap, cur, rfl, hb, hh, hl, hm, by simpa using hs, by simpa using ht⟩⟩
theorem NumS.partS {base : Nat} {w : World} {v : Value} {zs : List Int} (h : NumS base w v zs) (hz : zs ≠ []) :
 ∃ g cap, v = .slice (some ⟨g, 0, none⟩) zs.length cap ∧ base ≤ g ∧ cap ≤ maxLen ∧ PartS w g cap zs := by
 obtain ⟨h1, h2⟩ := h
 rcases h2 with ⟨hv, hn⟩ | ⟨g, cap, cur, hv, hb, hg, hc, hm, hs, ht⟩
 · exact absurd (List.eq_nil_of_length_eq_zero hn) hz
 · exact ⟨g, cap, hv, hb, hm, cur, hg, by simpa using hs, hc, by simpa using ht⟩
theorem infoSl : (Tryz.prog.info? 22).map (fun i => (i.zero, i.size, i.bytes)) = some (some (.slice none 0 0), 1, 24) := by kernel_rfl
theorem ResS.grown {base : Nat} {w w' : World} {u : Value} {xs : List Int} {row : Option Nat} (h : ResS base w u xs) (k : w.grownBy w' row) (hb : ∀ g, u.ownBlock = some g → some g ≠ row) : ResS base w' u xs := by
 refine ⟨?_, h.wf⟩
 obtain ⟨h1, h2⟩ := h.num
 refine ⟨h1, ?_⟩
 rcases h2 with h2 | ⟨r, cap, cur, rfl, hr, hh, hrest⟩
 · exact .inl h2
 · exact .inr ⟨r, cap, cur, rfl, hr, (k.block r (lt_of_block hh) (hb r rfl)).trans hh, hrest⟩
def RowsS (base : Nat) (w : World) (v : Value) (L : List (List Int)) : Prop :=
 ∃ vals : List Value, w.ownsRow base 22 1 v vals.length vals ∧ vals.length = L.length ∧ ∀ i, i < L.length → ∃ u, vals[i]? = some u ∧ ResS base w u (L.getD i [])
theorem RowsS.later {base : Nat} {w w' : World} {v : Value} {L : List (List Int)} (h : RowsS base w v L) (hb : Below w.heap.size w w') : RowsS base w' v L := by
 obtain ⟨vals, h1, h2, h3⟩ := h
 refine ⟨vals, ?_, h2, fun i hi => ?_⟩
 · obtain ⟨m1, m2⟩ := h1
   refine ⟨m1, ?_⟩
   rcases m2 with m2 | ⟨r, cap, cur, rfl, hr, hh, hrest⟩
   · exact .inl m2
   · exact .inr ⟨r, cap, cur, rfl, hr, (hb.block r (lt_of_block hh)).trans hh, hrest⟩
 · obtain ⟨u, e, R⟩ := h3 i hi
   exact ⟨u, e, R.later hb⟩
theorem RowsS.slice {base : Nat} {w : World} {v : Value} {L : List (List Int)} (h : RowsS base w v L) (hn : L ≠ []) : ∃ g cap, v = .slice (some ⟨g, 0, none⟩) L.length cap ∧ base ≤ g ∧ L.length ≤ cap ∧ cap ≤ maxLen ∧
 ∀ i, i < L.length → ∃ u, w.cell? ⟨g, i, none⟩ = some u ∧ ResS base w u (L.getD i []) := by
 obtain ⟨vals, h1, h2, h3⟩ := h
 obtain ⟨m1, m2⟩ := h1
 rcases m2 with ⟨e, h0⟩ | ⟨r, cap, cur, rfl, hr, hh, hc, hm, hs, ht⟩
 · exact absurd (List.eq_nil_of_length_eq_zero (by omega)) hn
 · refine ⟨r, cap, by rw [h2], hr, by omega, hm, fun i hi => ?_⟩
   obtain ⟨u, e, R⟩ := h3 i hi
   refine ⟨u, ?_, R⟩
   have hj := World.ownsRow.cellAt (w := w) (base := base) (e := 22) (size := 1) (g := r) (n := vals.length) (cap := cap) (xs := vals) ⟨m1, .inr ⟨r, cap, cur, rfl, hr, hh, hc, hm, hs, ht⟩⟩ i (by omega)
   rw [hj, e]
theorem RowsS.apart {base : Nat} {w : World} {v u : Value} {vals : List Value} {n : Nat} {xs : List Int} (h : w.ownsRow base 22 1 v n vals) (R : ResS base w u xs) : ∀ g, u.ownBlock = some g → some g ≠ v.ownBlock := by
 intro g hg he
 obtain ⟨_, m2⟩ := h
 obtain ⟨_, r2⟩ := R.num
 rcases r2 with ⟨rfl, _⟩ | ⟨r, cap, cur, rfl, _, hh, _⟩
 · cases hg
 · simp [Value.ownBlock] at hg
   subst hg
   rcases m2 with ⟨rfl, _⟩ | ⟨q, cap2, cur2, rfl, _, hh2, _⟩
   · cases he
   · simp [Value.ownBlock] at he
     subst he
     have := hh.symm.trans hh2
     simp at this
theorem pushRow {base : Nat} {w wr w1 : World} {v v' u : Value} {L : List (List Int)} {vals : List Value} {xs : List Int} {o : Obj} (hb : Below base w wr) (hbase : base ≤ wr.heap.size) (hown : wr.ownsRow base 22 1 v vals.length vals) (hlen : vals.length = L.length) (hall : ∀ i, i < L.length → ∃ u, vals[i]? = some u ∧ ResS base wr u (L.getD i [])) (R : ResS base wr u xs)
 (hown' : w1.ownsRow base 22 1 v' (vals.length + 1) (vals ++ [u])) (hgrow : (wr.alloc o).grownBy w1 v.ownBlock) : RowsS base w1 v' (L ++ [xs]) ∧ Below base w w1 := by
 have hr : ∀ {x : Value} {zs : List Int}, ResS base wr x zs → ResS base w1 x zs := fun h => (h.later ((Below.refl wr.heap.size wr).alloc (Nat.le_refl _) o)).grown hgrow (RowsS.apart hown h)
 refine ⟨⟨vals ++ [u], by rw [List.length_append]; exact hown', by simp [hlen], fun i hi => ?_⟩, (hb.alloc hbase o).grown hgrow (by simp; omega) (fun k hk => (World.ownsRow.lt hown k hk).1)⟩
 rw [List.length_append] at hi
 simp only [List.length_cons, List.length_nil] at hi
 by_cases hlt : i < L.length
 · obtain ⟨x, e, hx⟩ := hall i hlt
   refine ⟨x, by rw [List.getElem?_append_left (by omega)]; exact e, ?_⟩
   rw [List.getD_eq_getElem?_getD, List.getElem?_append_left hlt, ← List.getD_eq_getElem?_getD]
   exact hr hx
 · obtain rfl : i = L.length := by omega
   refine ⟨u, by rw [List.getElem?_append_right (by omega), ← hlen]; simp, ?_⟩
   rw [List.getD_eq_getElem?_getD, List.getElem?_append_right (Nat.le_refl _)]
   simpa using hr R
end
section
open Go.RowKit
def belowB (n m : Int) : Bool := decide (0 ≤ n ∧ n < m)
theorem belowB_yes {n m : Int} (h : 0 ≤ n) (h2 : n < m) : belowB n m = true := decide_eq_true ⟨h, h2⟩
theorem belowB_no {n m : Int} (h : n < 0 ∨ m ≤ n) : belowB n m = false := decide_eq_false (by omega)
theorem below_any (n m : Int) (w : World) : Calls Tryz.prog 153 #[.int .i64 n, .int .i64 m] w fun e w' => e = .returned (.bool (belowB n m)) ∧ w = w' := by
 obtain ⟨b, hb⟩ : ∃ b, belowB n m = b := ⟨_, rfl⟩
 rw [hb]
 by_cases h0 : 0 ≤ n
 · by_cases h1 : n < m
   · obtain rfl : b = true := by rw [← hb, belowB_yes h0 h1]
     clear hb
     go_enter Tryz.func153, Tryz.ntmps153
     go_wp2
     go_ret
     exact ⟨rfl, rfl⟩
   · obtain rfl : b = false := by rw [← hb, belowB_no (by omega)]
     clear hb
     go_enter Tryz.func153, Tryz.ntmps153
     go_wp2
     go_ret
     exact ⟨rfl, rfl⟩
 · obtain rfl : b = false := by rw [← hb, belowB_no (by omega)]
   clear hb
   go_enter Tryz.func153, Tryz.ntmps153
   go_wp2
   go_ret
   exact ⟨rfl, rfl⟩
def Cnt (s : List Int) (k : Nat) (n e : Int) : Prop := posS (s.take k) ∧ 1 ≤ n ∧ n ≤ 1024 ∧ (e = 0 ∧ n = prodS (s.take k) ∨ e = 14 ∧ 1024 < prodS (s.take k))
theorem Cnt.nil (s : List Int) : Cnt s 0 1 0 := ⟨(fun x h => by simp at h), by omega, by omega, .inl ⟨rfl, rfl⟩⟩
theorem quo_lt {d n : Int} (h1 : 1 ≤ n) : 1024 / n < d ↔ 1024 < n * d := by
 rw [Int.ediv_lt_iff_lt_mul (by omega), Int.mul_comm]
theorem take_pos {s : List Int} {k : Nat} {d : Int} (h : posS (s.take k)) (hd : s[k]? = some d) (h1 : 1 ≤ d) : posS (s.take (k + 1)) := by
 rw [List.take_add_one, hd, Option.toList_some]
 intro x hx
 rcases List.mem_append.1 hx with h2 | h2
 · exact h x h2
 · rw [List.mem_singleton.1 h2]; exact h1
theorem prod_next {s : List Int} {k : Nat} {d : Int} (hd : s[k]? = some d) : prodS (s.take (k + 1)) = prodS (s.take k) * d := by
 have hk : k < s.length := by
  rcases Nat.lt_or_ge k s.length with g | g
  · exact g
  · rw [List.getElem?_eq_none g] at hd; cases hd
 rw [prodS_take hk, List.getD_eq_getElem?_getD, hd]
 rfl
theorem Cnt.big {s : List Int} {k : Nat} {n e d : Int} (h : Cnt s k n e) (hd : s[k]? = some d) (h1 : 1 ≤ d) (h2 : 1024 / n < d) : Cnt s (k + 1) n 14 := by
 obtain ⟨hp, n1, n2, h3⟩ := h
 refine ⟨take_pos hp hd h1, n1, n2, .inr ⟨rfl, ?_⟩⟩
 rw [prod_next hd]
 rw [quo_lt n1] at h2
 rcases h3 with ⟨_, rfl⟩ | ⟨_, h4⟩
 · exact h2
 · have := Int.mul_le_mul_of_nonneg_left h1 (show 0 ≤ prodS (s.take k) by omega)
   omega
theorem Cnt.next {s : List Int} {k : Nat} {n e d : Int} (h : Cnt s k n e) (hd : s[k]? = some d) (h1 : 1 ≤ d) (h2 : ¬ 1024 / n < d) : Cnt s (k + 1) (n * d) e ∧ 1 ≤ n * d ∧ n * d ≤ 1024 := by
 obtain ⟨hp, n1, n2, h3⟩ := h
 rw [quo_lt n1] at h2
 have h5 : 1 * 1 ≤ n * d := Int.mul_le_mul n1 h1 (by omega) (by omega)
 refine ⟨⟨take_pos hp hd h1, by omega, by omega, ?_⟩, by omega, by omega⟩
 rw [prod_next hd]
 rcases h3 with ⟨h3, rfl⟩ | ⟨h3, h4⟩
 · exact .inl ⟨h3, rfl⟩
 · refine .inr ⟨h3, ?_⟩
   have := Int.mul_le_mul_of_nonneg_left h1 (show 0 ≤ prodS (s.take k) by omega)
   omega
theorem cnt_any {u : Value} {xs : List Int} {ad : Option Addr} {cap : Nat} {w : World} (A : ArgS w u xs ad cap) :
 Calls Tryz.prog 126 #[u] w fun e w' => e = .returned (.tuple #[.int .i64 (countS xs), .int .i64 (mayC xs)]) ∧ w = w' := by
 have HA := Lib.hid A
 obtain rfl := A.is
 obtain ⟨L, hL⟩ : ∃ L, xs.length = L := ⟨_, rfl⟩
 have HL := Lib.hid hL
 obtain ⟨c, hc⟩ : ∃ c, mayC xs = c := ⟨_, rfl⟩
 have HC := Lib.hid hc
 obtain ⟨t, ht⟩ : ∃ t, countS xs = t := ⟨_, rfl⟩
 have HT := Lib.hid ht
 rw [hL, hc, ht]
 clear A hL hc ht
 by_cases h4 : 4 < L
 · have hm : mayC xs = 14 := mayC_rank (by rw [HL.out]; exact h4)
   obtain rfl : c = 14 := by rw [← HC.out]; exact hm
   obtain rfl : t = 0 := by rw [← HT.out]; exact count_bad (by rw [hm]; decide)
   have h4I : (4 : Int) < (L : Int) := by omega
   clear hm
   go_enter Tryz.func126, Tryz.ntmps126
   go_wp2
   go_step3
   go_wp2
   rw [Exit.noGoto_ret]
   go_ret2
   exact ⟨rfl, rfl⟩
 · have h4I : ¬ (4 : Int) < (L : Int) := by omega
   go_enter Tryz.func126, Tryz.ntmps126
   go_wp2
   go_step3
   go_wp2
   go_step3
   go_wp2
   go_loop [4, 5, 13] (fun n e i => ∃ (k : Nat) (N E : Int), i = .int .i64 (k : Int) ∧ n = .int .i64 N ∧ e = .int .i64 E ∧ k ≤ L ∧ Cnt xs k N E) (fun _ _ i => L - (intOf i).toNat)
   case atStart => exact ⟨0, 1, 0, rfl, rfl, rfl, Nat.zero_le _, Cnt.nil _⟩
   case round =>
    obtain ⟨k, N, E, rfl, rfl, rfl, hkL, hI⟩ := hrel
    obtain ⟨hp, n1, n2, hE⟩ := hI
    by_cases hlt : k < L
    · obtain ⟨b, off, rfl, hc⟩ := HA.out.at (i := k) (by rw [HL.out]; exact hlt)
      have hx : xs[k]? = some (xs.getD k 0) := by rw [List.getD_eq_getElem?_getD, List.getElem?_eq_getElem (by rw [HL.out]; exact hlt)]; rfl
      obtain ⟨x, hxe⟩ : ∃ x, xs.getD k 0 = x := ⟨_, rfl⟩
      rw [hxe] at hc hx
      have HX := Lib.hid hx
      have hltI : (k : Int) < (L : Int) := by omega
      have HI : Hid (Cnt xs k N E) := Lib.hid ⟨hp, n1, n2, hE⟩
      clear hxe hx hp hE
      by_cases h1 : x < 1
      · have hm : mayC xs = 13 := by
         refine mayC_dim (by rw [HL.out]; omega) fun hp => ?_
         have := hp x (List.mem_of_getElem? HX.out)
         omega
        obtain rfl : c = 13 := by rw [← HC.out]; exact hm
        obtain rfl : t = 0 := by rw [← HT.out]; exact count_bad (by rw [hm]; decide)
        clear hm
        go_wp2
        go_ret2
        exact ⟨rfl, rfl⟩
      · by_cases h2 : 1024 / N < x
        · go_wp2
          go_round
          case rel => exact ⟨k + 1, N, 14, by go_num, rfl, rfl, by omega, HI.out.big HX.out (by omega) h2⟩
          case measure => simp [intOf]; omega
        · obtain ⟨hI, m1, m2⟩ := HI.out.next HX.out (by omega) h2
          have hw : wrap64 (N * x) = N * x := by unfold wrap64; omega
          have HJ := Lib.hid hI
          clear hI
          go_wp2
          go_round
          case rel => exact ⟨k + 1, _, E, by go_num, by first | rfl | rw [hw], rfl, by omega, HJ.out⟩
          case measure => simp [intOf]; omega
    · obtain rfl : k = L := by omega
      have hltI : ¬ (k : Int) < (k : Int) := by omega
      rw [List.take_of_length_le (by rw [HL.out]; exact Nat.le_refl _)] at hE hp
      rcases hE with ⟨rfl, hN⟩ | ⟨rfl, hN⟩
      · have ok : OkS xs := ⟨by rw [HL.out]; omega, hp, by omega⟩
        obtain rfl : c = 0 := by rw [← HC.out]; exact mayC_ok ok
        obtain rfl : t = N := by rw [← HT.out, ok.count]; exact hN.symm
        clear hN hp ok
        go_wp2
        go_ret2
        exact ⟨rfl, rfl⟩
      · have hm : mayC xs = 14 := mayC_count (by rw [HL.out]; omega) hp hN
        obtain rfl : c = 14 := by rw [← HC.out]; exact hm
        obtain rfl : t = 0 := by rw [← HT.out]; exact count_bad (by rw [hm]; decide)
        clear hN hp hm
        go_wp2
        go_ret2
        exact ⟨rfl, rfl⟩
theorem mayS_eq {u : Value} {xs : List Int} {ad : Option Addr} {cap : Nat} {w : World} (A : ArgS w u xs ad cap) :
 Calls Tryz.prog 96 #[u] w fun e w' => e = .returned (.int .i64 (mayC xs)) ∧ w = w' := by
 have h := cnt_any A
 obtain rfl := A.is
 obtain ⟨c, hc⟩ : ∃ c, mayC xs = c := ⟨_, rfl⟩
 obtain ⟨t, ht⟩ : ∃ t, countS xs = t := ⟨_, rfl⟩
 obtain ⟨L, hL⟩ : ∃ L, xs.length = L := ⟨_, rfl⟩
 rw [hc, ht, hL] at h
 rw [hc, hL]
 clear A hc ht hL
 go_enter Tryz.func96, Tryz.ntmps96
 go_wp2_with (go_at_call 126; refine h.mono ?_; rintro e w1 ⟨rfl, rfl⟩)
 go_ret
 exact ⟨rfl, rfl⟩
theorem countS_eq {u : Value} {xs : List Int} {ad : Option Addr} {cap : Nat} {w : World} (A : ArgS w u xs ad cap) :
 Calls Tryz.prog 84 #[u] w fun e w' => e = .returned (.int .i64 (countS xs)) ∧ w = w' := by
 have h := cnt_any A
 obtain rfl := A.is
 obtain ⟨c, hc⟩ : ∃ c, mayC xs = c := ⟨_, rfl⟩
 obtain ⟨t, ht⟩ : ∃ t, countS xs = t := ⟨_, rfl⟩
 obtain ⟨L, hL⟩ : ∃ L, xs.length = L := ⟨_, rfl⟩
 rw [hc, ht, hL] at h
 rw [ht, hL]
 clear A hc ht hL
 go_enter Tryz.func84, Tryz.ntmps84
 go_wp2_with (go_at_call 126; refine h.mono ?_; rintro e w1 ⟨rfl, rfl⟩)
 go_ret
 exact ⟨rfl, rfl⟩
theorem mayS_any {u : Value} {xs : List Int} {ad : Option Addr} {cap : Nat} {w : World} (A : ArgS w u xs ad cap) (hx : xs.length ≤ 17592186044416) :
 Calls Tryz.prog 96 #[u] w fun e w' => e = .returned (.int .i64 (mayC xs)) ∧ Below w.heap.size w w' :=
 (mayS_eq A).mono fun _ _ ⟨h1, h2⟩ => ⟨h1, h2 ▸ Below.refl _ _⟩
theorem countS_any {u : Value} {xs : List Int} {ad : Option Addr} {cap : Nat} {w : World} (A : ArgS w u xs ad cap) (hx : xs.length ≤ 17592186044416) :
 Calls Tryz.prog 84 #[u] w fun e w' => e = .returned (.int .i64 (countS xs)) ∧ Below w.heap.size w w' :=
 (countS_eq A).mono fun _ _ ⟨h1, h2⟩ => ⟨h1, h2 ▸ Below.refl _ _⟩
end
section
open Go.RowKit
theorem NumI.far {base : Nat} {w w' : World} {u : Value} {zs : List Int} {g : Nat} {t : TypeId} {cs : Array Value} (h : NumI base w u zs) (R : Row w g t cs) (ht : t ≠ 3) (hk : ∀ k, k ≠ g → w'.heap[k]? = w.heap[k]?) : NumI base w' u zs := by
 obtain ⟨h1, h2⟩ := h
 refine ⟨h1, ?_⟩
 rcases h2 with h2 | ⟨k, cap, cur, rfl, hg0, hg', hc, hm, hs, ht'⟩
 · exact .inl h2
 · refine .inr ⟨k, cap, cur, rfl, hg0, (hk k ?_).trans hg', hc, hm, hs, ht'⟩
   rintro rfl
   have e := hg'.symm.trans R
   injection e with e
   injection e with _ e
   exact ht e.symm
theorem Num.far {base : Nat} {w w' : World} {u : Value} {zs : List Int} {g : Nat} {t : TypeId} {cs : Array Value} (h : Num base w u zs) (R : Row w g t cs) (ht : t ≠ 144) (hk : ∀ k, k ≠ g → w'.heap[k]? = w.heap[k]?) : Num base w' u zs := by
 obtain ⟨h1, h2⟩ := h
 refine ⟨h1, ?_⟩
 rcases h2 with h2 | ⟨k, cap, cur, rfl, hg0, hg', hc, hm, hs, ht'⟩
 · exact .inl h2
 · refine .inr ⟨k, cap, cur, rfl, hg0, (hk k ?_).trans hg', hc, hm, hs, ht'⟩
   rintro rfl
   have e := hg'.symm.trans R
   injection e with e
   injection e with _ e
   exact ht e.symm
theorem ResD.far {base : Nat} {w w' : World} {u : Value} {zs : List Int} {n : Int} {g : Nat} {t : TypeId} {cs : Array Value} (h : ResD base w u zs n) (R : Row w g t cs) (ht : t ≠ 3) (hk : ∀ k, k ≠ g → w'.heap[k]? = w.heap[k]?) : ResD base w' u zs n :=
 ⟨h.num.far R ht hk, h.wf, h.full, h.eq⟩
theorem ResD.eqTo {base : Nat} {w : World} {u : Value} {zs : List Int} {n m : Int} (h : ResD base w u zs n) (e : valD zs = m) : ResD base w u zs m := ⟨h.num, h.wf, h.full, e⟩
theorem ResD.one {base : Nat} (W : World) (hb : base ≤ W.heap.size) : ResD base (W.alloc (.cells #[.int .i64 1] 3)) (.slice (some ⟨W.heap.size, 0, none⟩) 1 1) [1] 1 := by
 have L := digit_lit (Row.new W 3 #[.int .i64 1]) (by omega)
 exact ⟨⟨rfl, .inr ⟨W.heap.size, 1, _, rfl, hb, heap_alloc_new W _, Nat.le_refl _, by unfold maxLen; omega, rfl, rfl⟩⟩, L.wf, L.full, rfl⟩
def ResR (base : Nat) (w : World) (v : Value) (x : Rat) (n : Nat) : Prop :=
 ∃ (zs ys : List Int) (ad bd : Option Addr) (ca cb : Nat), v = .agg #[.bool (decide (x.num < 0)), .slice ad zs.length ca, .slice bd ys.length cb] ∧
  ResD base w (.slice ad zs.length ca) zs (x.num.natAbs : Int) ∧ ResD base w (.slice bd ys.length cb) ys (x.den : Int) ∧ zs.length ≤ n ∧ ys.length ≤ n
theorem ResD.at_ {base : Nat} {w : World} {ad : Option Addr} {n cap : Nat} {zs : List Int} {N : Int} (h : ResD base w (.slice ad n cap) zs N) : n = zs.length ∧ ArgD w (.slice ad n cap) zs ad cap := by
 obtain ⟨ad', cap', A⟩ := h.arg
 have e := A.is
 simp only [Value.slice.injEq] at e
 obtain ⟨rfl, rfl, rfl⟩ := e
 exact ⟨rfl, A⟩
theorem ResR.arg {base : Nat} {w : World} {v : Value} {x : Rat} {n : Nat} (h : ResR base w v x n) : ArgR w v x n := by
 obtain ⟨zs, ys, ad, bd, ca, cb, rfl, A, B, h1, h2⟩ := h
 exact ⟨zs, ys, ad, bd, ca, cb, rfl, A.at_.2, B.at_.2, A.eq, B.eq, h1, h2⟩
theorem ResR.later {base : Nat} {w w' : World} {v : Value} {x : Rat} {n : Nat} (h : ResR base w v x n) (hb : Below w.heap.size w w') : ResR base w' v x n := by
 obtain ⟨zs, ys, ad, bd, ca, cb, rfl, A, B, h⟩ := h
 exact ⟨zs, ys, ad, bd, ca, cb, rfl, A.later hb, B.later hb, h⟩
theorem ResR.more {base : Nat} {w : World} {v : Value} {x : Rat} {n m : Nat} (h : ResR base w v x n) (hm : n ≤ m) : ResR base w v x m := by
 obtain ⟨zs, ys, ad, bd, ca, cb, rfl, A, B, h1, h2⟩ := h
 exact ⟨zs, ys, ad, bd, ca, cb, rfl, A, B, by omega, by omega⟩
theorem ResR.mono {base base' : Nat} {w : World} {v : Value} {x : Rat} {n : Nat} (h : ResR base w v x n) (hb : base' ≤ base) : ResR base' w v x n := by
 obtain ⟨zs, ys, ad, bd, ca, cb, rfl, A, B, h⟩ := h
 exact ⟨zs, ys, ad, bd, ca, cb, rfl, A.mono hb, B.mono hb, h⟩
theorem ResR.far {base : Nat} {w w' : World} {v : Value} {x : Rat} {n : Nat} {g : Nat} {t : TypeId} {cs : Array Value} (h : ResR base w v x n) (R : Row w g t cs) (ht : t ≠ 3) (hk : ∀ k, k ≠ g → w'.heap[k]? = w.heap[k]?) : ResR base w' v x n := by
 obtain ⟨zs, ys, ad, bd, ca, cb, rfl, A, B, h⟩ := h
 exact ⟨zs, ys, ad, bd, ca, cb, rfl, A.far R ht hk, B.far R ht hk, h⟩
theorem ResR.apart {base base' : Nat} {T : TypeId} {w w' : World} {v u : Value} {es : List E3} {x : Rat} {n : Nat} {o : Obj} (h : OwnE base T w v es) (hg : (w.alloc o).grownBy w' v.ownBlock) (hT : T ≠ 3) (k : ResR base' w u x n) : ResR base' w' u x n := by
 obtain ⟨zs, ys, ad, bd, ca, cb, rfl, A, B, k⟩ := k
 exact ⟨zs, ys, ad, bd, ca, cb, rfl, ⟨apartE h hg hT A.num, A.wf, A.full, A.eq⟩, ⟨apartE h hg hT B.num, B.wf, B.full, B.eq⟩, k⟩
structure Q3 where
 neg : Bool
 num : List Int
 den : List Int
def Q3.rat (q : Q3) : Rat := ratOf q.neg (val q.num) (val q.den)
def RawQ (w : World) (v : Value) (q : Q3) : Prop := ∃ (ad bd : Option Addr) (ca cb : Nat), v = .agg #[.bool q.neg, .slice ad q.num.length ca, .slice bd q.den.length cb] ∧
 Arg w (.slice ad q.num.length ca) q.num ad ca ∧ Arg w (.slice bd q.den.length cb) q.den bd cb ∧ (ad = none → ca = 0) ∧ (bd = none → cb = 0)
theorem RawQ.later {w w' : World} {v : Value} {q : Q3} (h : RawQ w v q) (hb : Below w.heap.size w w') : RawQ w' v q := by
 obtain ⟨ad, bd, ca, cb, rfl, A, B, h⟩ := h
 exact ⟨ad, bd, ca, cb, rfl, A.later hb, B.later hb, h⟩
theorem RawQ.arg {w : World} {v : Value} {q : Q3} {n : Nat} (h : RawQ w v q) (h1 : q.num.length ≤ n) (h2 : q.den.length ≤ n) : ArgQ w v q.rat n := by
 obtain ⟨ad, bd, ca, cb, rfl, A, B, _⟩ := h
 exact ⟨q.neg, q.num, q.den, ad, bd, ca, cb, rfl, A, B, rfl, h1, h2⟩
def RawO (base : Nat) (w : World) (v : Value) (q : Q3) : Prop := ∃ (ad bd : Option Addr) (ca cb : Nat), v = .agg #[.bool q.neg, .slice ad q.num.length ca, .slice bd q.den.length cb] ∧
 Num base w (.slice ad q.num.length ca) q.num ∧ Num base w (.slice bd q.den.length cb) q.den ∧ Wf q.num ∧ Wf q.den
theorem Num.at_ {base : Nat} {w : World} {ad : Option Addr} {n cap : Nat} {zs : List Int} (h : Num base w (.slice ad n cap) zs) (hw : Wf zs) : n = zs.length ∧ Arg w (.slice ad n cap) zs ad cap ∧ (ad = none → cap = 0) := by
 obtain ⟨ad', cap', e, h2, h3, _, _⟩ := h.read
 simp only [Value.slice.injEq] at e
 obtain ⟨rfl, rfl, rfl⟩ := e
 refine ⟨rfl, ⟨rfl, h2, h3, hw⟩, fun hn => ?_⟩
 subst hn
 exact h.nil_slice.2.2
theorem RawO.mono {base base' : Nat} {w : World} {v : Value} {q : Q3} (h : RawO base w v q) (hb : base' ≤ base) : RawO base' w v q := by
 obtain ⟨ad, bd, ca, cb, rfl, A, B, h⟩ := h
 exact ⟨ad, bd, ca, cb, rfl, A.mono hb, B.mono hb, h⟩
theorem RawO.far {base : Nat} {w w' : World} {v : Value} {q : Q3} {g : Nat} {t : TypeId} {cs : Array Value} (h : RawO base w v q) (R : Row w g t cs) (ht : t ≠ 144) (hk : ∀ k, k ≠ g → w'.heap[k]? = w.heap[k]?) : RawO base w' v q := by
 obtain ⟨ad, bd, ca, cb, rfl, A, B, h⟩ := h
 exact ⟨ad, bd, ca, cb, rfl, A.far R ht hk, B.far R ht hk, h⟩
theorem RawO.apart {base base' : Nat} {T : TypeId} {w w' : World} {v u : Value} {es : List E3} {q : Q3} {o : Obj} (h : OwnE base T w v es) (hg : (w.alloc o).grownBy w' v.ownBlock) (hT : T ≠ 144) (k : RawO base' w u q) : RawO base' w' u q := by
 obtain ⟨ad, bd, ca, cb, rfl, A, B, k⟩ := k
 exact ⟨ad, bd, ca, cb, rfl, apartE h hg hT A, apartE h hg hT B, k⟩
theorem ResQ.apart {base base' : Nat} {T : TypeId} {w w' : World} {v u : Value} {es : List E3} {x : Rat} {n : Nat} {o : Obj} (h : OwnE base T w v es) (hg : (w.alloc o).grownBy w' v.ownBlock) (hT : T ≠ 144) (k : ResQ base' w u x n) : ResQ base' w' u x n := by
 obtain ⟨zs, ys, ad, bd, ca, cb, rfl, A, B, k⟩ := k
 exact ⟨zs, ys, ad, bd, ca, cb, rfl, ⟨apartE h hg hT A.num, A.wf, A.full, A.eq⟩, ⟨apartE h hg hT B.num, B.wf, B.full, B.eq⟩, k⟩
theorem makeRR_any {n : Nat} {w : World} {m1 : Bool} {xs ds : List Int} {a1 a2 : Option Addr} {c1 c2 : Nat} (A : ArgD w (.slice a1 xs.length c1) xs a1 c1) (B : ArgD w (.slice a2 ds.length c2) ds a2 c2) (hx : xs.length ≤ n) (hd : ds.length ≤ n) (hn : n ≤ 4294967296) :
 Calls Tryz.prog 71 #[.bool m1, .slice a1 xs.length c1, .slice a2 ds.length c2] w fun e w' => ∃ r, e = .returned r ∧ ResR w.heap.size w' r (ratOf m1 (valD xs) (valD ds)) (n + 1) ∧ Below w.heap.size w w' := by
 have h0x := val_nonnegD A.wf
 have h0d := val_nonnegD B.wf
 obtain ⟨W, hW⟩ : ∃ W, (w.alloc (.cells #[.bool false, .slice none 0 0, .slice none 0 0] 58)) = W := ⟨_, rfl⟩
 have R0 : Row W (w.heap.size) 58 #[.bool false, .slice none 0 0, .slice none 0 0] := by rw [← hW]; exact (Row.new _ _ _)
 have hBW : Below w.heap.size w W := by rw [← hW]; exact ((Below.refl _ _).alloc (by (try simp) <;> omega) _)
 have hsW : w.heap.size + 1 ≤ W.heap.size := by rw [← hW]; simp
 by_cases z1 : valD xs = 0
 · have d1 := lenD_zero A.wf A.full z1
   have hX : ratOf m1 (valD xs) (valD ds) = 0 := by rw [z1]; exact ratOf_zero_left _ _
   have HX := Lib.hid hX
   have hb2 : Below W.heap.size W (W.alloc (.cells #[.int .i64 1] 3)) := (Below.refl _ _).alloc (Nat.le_refl _) _
   have L := digit_lit (Row.new W 3 #[.int .i64 1]) (by omega)
   have R0' := R0.later hb2
   obtain ⟨u0, u1, u2, g0, g1, g2⟩ := R0'.three
   obtain ⟨p0, p1, p2, p3, p4, p5⟩ := R0.three
   clear hX
   go_enter Tryz.func71, Tryz.ntmps71
   go_wp2_with fail
   refine bodyPost_ret (v := .agg #[.bool false, .slice none 0 0, .slice (some ⟨W.heap.size, 0, none⟩) 1 1]) (by simp [results, Tryz.results71, go_sem, u0, u1, u2]) rfl ⟨_, rfl, ⟨[], [1], none, some ⟨W.heap.size, 0, none⟩, 0, 1, ?_, ?_, ?_, by simp, by simp⟩, ?_⟩
   · rw [HX.out]; rfl
   · rw [HX.out]; exact ⟨⟨rfl, .inl ⟨rfl, rfl⟩⟩, WfD.nil, rfl, rfl⟩
   · rw [HX.out]; exact (ResD.one W (by omega)).far R0' (by decide) (kept3 _ _ _)
   · exact below_set3 (hBW.trans (hb2.mono (by omega))) (by omega) _ _ _
 by_cases z2 : valD ds = 0
 · have d1 := lenD_pos (show 0 < valD xs by omega)
   have d2 := lenD_zero B.wf B.full z2
   have hX : ratOf m1 (valD xs) (valD ds) = 0 := by rw [z2]; exact ratOf_zero_right _ _
   have HX := Lib.hid hX
   have hb2 : Below W.heap.size W (W.alloc (.cells #[.int .i64 1] 3)) := (Below.refl _ _).alloc (Nat.le_refl _) _
   have L := digit_lit (Row.new W 3 #[.int .i64 1]) (by omega)
   have R0' := R0.later hb2
   obtain ⟨u0, u1, u2, g0, g1, g2⟩ := R0'.three
   obtain ⟨p0, p1, p2, p3, p4, p5⟩ := R0.three
   clear hX
   go_enter Tryz.func71, Tryz.ntmps71
   go_wp2_with fail
   refine bodyPost_ret (v := .agg #[.bool false, .slice none 0 0, .slice (some ⟨W.heap.size, 0, none⟩) 1 1]) (by simp [results, Tryz.results71, go_sem, u0, u1, u2]) rfl ⟨_, rfl, ⟨[], [1], none, some ⟨W.heap.size, 0, none⟩, 0, 1, ?_, ?_, ?_, by simp, by simp⟩, ?_⟩
   · rw [HX.out]; rfl
   · rw [HX.out]; exact ⟨⟨rfl, .inl ⟨rfl, rfl⟩⟩, WfD.nil, rfl, rfl⟩
   · rw [HX.out]; exact (ResD.one W (by omega)).far R0' (by decide) (kept3 _ _ _)
   · exact below_set3 (hBW.trans (hb2.mono (by omega))) (by omega) _ _ _
 have hpx : 0 < valD xs := by omega
 have hpd : 0 < valD ds := by omega
 have d1 := lenD_pos hpx
 have d2 := lenD_pos hpd
 have A' := A.later hBW
 have B' := B.later hBW
 have e1 := ratOf_neg (n := m1) h0x hpd (fun h => absurd h z1)
 have e2 := ratOf_abs (n := m1) h0x hpd
 have e3 := ratOf_den (n := m1) (A := valD xs) hpd
 have hgp : 0 < (Int.gcd (valD xs) (valD ds) : Int) := gcd_pos hpx
 have E1 := Lib.hid e1
 have E2 := Lib.hid e2
 have E3 := Lib.hid e3
 clear e1 e2 e3 z1 z2
 go_enter Tryz.func71, Tryz.ntmps71
 go_wp2_with fail
 refine (gcdD_any A' B' (by omega) (by omega)).mono ?_
 rintro e w1 ⟨r1, rfl, gs, gd, gc, G, hG, lG, hb1⟩
 have hs1 := hb1.size
 have A1 := A'.later hb1
 have B1 := B'.later hb1
 have hgs : 0 < valD gs := by rw [hG]; exact hgp
 have HG := Lib.hid hG
 have eG := G.is
 subst eG
 clear hG hgp hW
 go_wp2_with fail
 refine (divD_any A1 G (by omega) (by omega) hgs).mono ?_
 rintro e w2 ⟨r2, s2, rfl, hb2, ⟨z2, q2, l2⟩, _⟩
 have hs2 := hb2.size
 obtain ⟨ad2, cp2, rfl, q2, A2⟩ := q2.slice
 have B2 := B1.later hb2
 have G2 := G.later hb2
 go_wp2_with fail
 refine (divD_any B2 G2 (by omega) (by omega) hgs).mono ?_
 rintro e w3 ⟨r3, s3, rfl, hb3, ⟨z3, q3, l3⟩, _⟩
 have hs3 := hb3.size
 obtain ⟨ad3, cp3, rfl, q3, A3⟩ := q3.slice
 have A2' := A2.later hb3
 have P3 := ((R0.later hb1).later hb2).later hb3
 have v2 := q2.eq
 have v3 := q3.eq
 rw [HG.out] at v2 v3
 have V2 := Lib.hid v2
 have V3 := Lib.hid v3
 have Q2 := Lib.hid (q2.later hb3)
 have Q3 := Lib.hid q3
 clear v2 v3 q2 q3
 obtain ⟨u0, u1, u2, g0, g1, g2⟩ := P3.three
 go_wp2_with fail
 refine bodyPost_ret (v := .agg #[.bool m1, .slice ad2 z2.length cp2, .slice ad3 z3.length cp3]) (by simp [results, Tryz.results71, go_sem, u0, u1, u2]) rfl ⟨_, rfl, ⟨z2, z3, ad2, ad3, cp2, cp3, by rw [E1.out], ?_, ?_, by omega, by omega⟩, ?_⟩
 · exact ((Q2.out.mono (by omega)).far P3 (by decide) (kept3 _ _ _)).eqTo (by rw [V2.out, E2.out])
 · exact ((Q3.out.mono (by omega)).far P3 (by decide) (kept3 _ _ _)).eqTo (by rw [V3.out, E3.out])
 · exact below_set3 (((hBW.trans (hb1.mono (by omega))).trans (hb2.mono (by omega))).trans (hb3.mono (by omega))) (by omega) _ _ _
theorem ofRR_any {n : Nat} {w : World} {v : Value} {X : Rat} (h : ArgQ w v X n) (hn : n ≤ 134217728) :
 Calls Tryz.prog 29 #[v] w fun e w' => ∃ r, e = .returned r ∧ ResR w.heap.size w' r X (5 * n + 1) ∧ Below w.heap.size w w' := by
 obtain ⟨m1, xs, ds, a1, a2, c1, c2, rfl, A, B, hX, hx, hd⟩ := h
 obtain ⟨W, hW⟩ : ∃ W, ((w.alloc (.cells #[.bool m1, .slice a1 xs.length c1, .slice a2 ds.length c2] 54)).alloc (.cells #[.bool false, .slice none 0 0, .slice none 0 0] 58)) = W := ⟨_, rfl⟩
 have R0 : Row W (w.heap.size) 54 #[.bool m1, .slice a1 xs.length c1, .slice a2 ds.length c2] := by rw [← hW]; exact ((Row.new _ _ _).alloc _)
 have R1 : Row W (w.heap.size + 1) 58 #[.bool false, .slice none 0 0, .slice none 0 0] := by rw [← hW]; have h := (Row.new (w.alloc (.cells #[.bool m1, .slice a1 xs.length c1, .slice a2 ds.length c2] 54)) 58 #[.bool false, .slice none 0 0, .slice none 0 0]); simp only [World.size_alloc] at h; exact h
 have hBW : Below w.heap.size w W := by rw [← hW]; exact (((Below.refl _ _).alloc (by (try simp) <;> omega) _).alloc (by (try simp) <;> omega) _)
 have hsW : w.heap.size + 1 + 1 ≤ W.heap.size := by rw [← hW]; simp
 have HX := Lib.hid hX
 clear hX
 have mkS : ∀ X, Kept (w.heap.size + 1) W X → X.cell? ⟨w.heap.size, 0, none⟩ = some (.bool m1) ∧ X.cell? ⟨w.heap.size, 1, none⟩ = some (.slice a1 xs.length c1) ∧ X.cell? ⟨w.heap.size, 2, none⟩ = some (.slice a2 ds.length c2) ∧ Kept (w.heap.size + 1) W X := fun X h => ⟨(R0.kept h (by omega)).cell 0, (R0.kept h (by omega)).cell 1, (R0.kept h (by omega)).cell 2, h⟩
 go_enter Tryz.func29, Tryz.ntmps29
 go_wp2_with fail
 clear hW
 go_region_held3 (fun X => X.cell? ⟨w.heap.size, 0, none⟩ = some (.bool m1) ∧ X.cell? ⟨w.heap.size, 1, none⟩ = some (.slice a1 xs.length c1) ∧ X.cell? ⟨w.heap.size, 2, none⟩ = some (.slice a2 ds.length c2) ∧ Kept (w.heap.size + 1) W X)
  (((refine mkS _ ?_; (repeat' (first | exact Kept.refl _ _ | refine Kept.drew ?_ | refine Kept.alloc ?_ _ | refine Kept.set ?_ _ _ | refine Kept.below ?_ (by assumption))))))
  ((first
    | (go_at_call 71; refine (makeRR_any (n := 5 * n) (A3.later hb4) A4 (by omega) (by omega) (by omega)).mono ?_; rintro e w5 ⟨r5, rfl, q5, hb5⟩; rw [HV.out] at q5; obtain ⟨fs, gs, f1, f2, j1, j2, e5, _⟩ := id q5; subst e5; have P5 := R1.kept (show Kept (w.heap.size + 1 + 1 + 1) W w5 by (repeat' (first | exact Kept.refl _ _ | refine Kept.drew ?_ | refine Kept.alloc ?_ _ | refine Kept.set ?_ _ _ | refine Kept.below ?_ (by assumption)))) (by omega); obtain ⟨u0, u1, u2, g0, g1, g2⟩ := P5.three)
    | (go_at_call 72; (with_reducible refine (of_any (B.later (Kept.under (show Kept (w.heap.size + 1) W _ by (repeat' (first | exact Kept.refl _ _ | refine Kept.drew ?_ | refine Kept.alloc ?_ _ | refine Kept.set ?_ _ _ | refine Kept.below ?_ (by assumption)))) hBW (by omega) (by omega))) (by omega)).mono ?_); rintro e w4 ⟨r4, rfl, z4, q4, l4, hb4⟩; obtain ⟨ad4, cp4, rfl, q4, A4⟩ := q4.slice; have HV := Lib.hid ((show ratOf m1 (valD z3) (valD z4) = ratOf m1 (val xs) (val ds) by rw [q3.eq, q4.eq]).trans HX.out))
    | (go_at_call 72; (with_reducible refine (of_any (A.later (Kept.under (show Kept (w.heap.size + 1) W _ by (repeat' (first | exact Kept.refl _ _ | refine Kept.drew ?_ | refine Kept.alloc ?_ _ | refine Kept.set ?_ _ _ | refine Kept.below ?_ (by assumption)))) hBW (by omega) (by omega))) (by omega)).mono ?_); rintro e w3 ⟨r3, rfl, z3, q3, l3, hb3⟩; obtain ⟨ad3, cp3, rfl, q3, A3⟩ := q3.slice)))
 have hs5 := hb5.size
 have hk5 := (show Kept (w.heap.size + 1 + 1 + 1) W w5 by (repeat' (first | exact Kept.refl _ _ | refine Kept.drew ?_ | refine Kept.alloc ?_ _ | refine Kept.set ?_ _ _ | refine Kept.below ?_ (by assumption)))).size
 have hk4 := (show Kept (w.heap.size + 1 + 1 + 1) W w4 by (repeat' (first | exact Kept.refl _ _ | refine Kept.drew ?_ | refine Kept.alloc ?_ _ | refine Kept.set ?_ _ _ | refine Kept.below ?_ (by assumption)))).size
 have hK5 := (Kept.under (show Kept (w.heap.size + 1 + 1 + 1) W w5 by (repeat' (first | exact Kept.refl _ _ | refine Kept.drew ?_ | refine Kept.alloc ?_ _ | refine Kept.set ?_ _ _ | refine Kept.below ?_ (by assumption)))) hBW (by omega) (by omega))
 go_wp2_with fail
 refine bodyPost_ret (v := .agg #[.bool (decide (X.num < 0)), .slice f1 fs.length j1, .slice f2 gs.length j2]) (by simp [results, Tryz.results29, go_sem, u0, u1, u2]) rfl ⟨_, rfl, ?_, below_set3 hK5 (by omega) _ _ _⟩
 exact (q5.far P5 (by decide) (kept3 _ _ _)).mono (by omega)
end
end Go.Proofs.YtengpgodmbfmkaaGreat
