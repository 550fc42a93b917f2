/-
  Part 2 of 5: contracts and what they rest on (SRefB, SRefC, SRefD, IMath).
-/
import Derived.Test.YtdcggcfgkhlblaaL21
import Derived.WalkKit
import Derived.Test.YtdcggcfgkhlblaaRows
import Derived.OrdersHeld
import Derived.Deep.RegionHeld
import Derived.BigQuiet
import Derived.Deep.QuietTactic
import Derived.Lib.Hide
import Derived.Lib.Small
import Derived.Lib.Walk
import Derived.Lib.BitFns
import Derived.Maps.AppendAt
import Derived.RangeFuncNested
import Derived.RangeFuncBound
import Derived.RangeFuncCalls
import Derived.RangeFuncLeaves
import Derived.Shelf.Abstract
import Derived.OwnWalkIn
import Derived.TacticsInMore
import Derived.LoopNIn
import Derived.LoopIn
import Derived.RangeFuncBox
import Derived.Deep.RegionHeld3
import Derived.OrdersIn
import Derived.StillTailTactics
import Derived.RangeFuncFrom
import Derived.Laws.EntriesVeiled
import Derived.ProofKit
import Derived.OpenShut
import Derived.JoinedCond
import Derived.Carry
import Derived.Laws.AppendOwnNone
import Derived.Lib.ItoaNum
import Derived.Deep.RegionLaw
import Derived.WalkMore
import Derived.Lib.SmallJoins
import Derived.IntWalk
import Derived.Deep.DeepCutAuto
import Derived.Laws.OwnMore
import Derived.ArgAppend
import Derived.Deep.Slices
import Derived.Laws.CopyOwn
import Derived.Lib.SliceRun
import Derived.SizedLaws
import Derived.Great.BuildSlice
namespace Go.Proofs.Ytdcggcfgkhlblaa
set_option maxRecDepth 100000
section
open Go.RowKit
set_option linter.unusedVariables false
set_option linter.unusedSimpArgs false
set_option maxRecDepth 100000 in
set_option maxHeartbeats 2000000 in
theorem hasR_any {u : Value} {xs : List Int} {a : Option Addr} {ca : Nat} {w : World} (n : Int) (A : ArgS w u xs a ca) (hx : xs.length ≤ 140737488355328) :
    Calls Try.prog 70 #[u, .int .i64 n] w fun e w' => e = .returned (.bool (decide (n ∈ xs))) ∧ w = w' := by
  have HA := Lib.hid A
  obtain rfl := A.is
  obtain ⟨L, hL⟩ : ∃ L, xs.length = L := ⟨_, rfl⟩
  obtain ⟨d, hd⟩ : ∃ d, decide (n ∈ xs) = d := ⟨_, rfl⟩
  have HL := Lib.hid hL
  have HD := Lib.hid hd
  rw [hL] at hx
  rw [hL, hd]
  clear A hL hd
  go_enter Try.func70, Try.ntmps70
  go_wp2
  go_loop [5] (fun i => ∃ k : Nat, i = .int .i64 (k : Int) ∧ k ≤ L ∧ n ∉ xs.take k) (fun i => L - (intOf i).toNat)
  case atStart => exact ⟨0, rfl, Nat.zero_le _, by simp⟩
  case round =>
    obtain ⟨k, rfl, hkL, hp⟩ := hrel
    have HP := Lib.hid hp
    clear hp
    by_cases hlt : k < L
    · obtain ⟨b1, o1, rfl, hc1⟩ := HA.out.at (i := k) (by rw [HL.out]; exact hlt)
      have e1 := take_next (xs := xs) (k := k) (by rw [HL.out]; exact hlt)
      have m1 := List.mem_of_getElem? (getD_some (xs := xs) (k := k) (by rw [HL.out]; exact hlt))
      obtain ⟨x, hx⟩ : ∃ x, xs.getD k 0 = x := ⟨_, rfl⟩
      rw [hx] at hc1 e1 m1
      have E1 := Lib.hid e1
      have M1 := Lib.hid m1
      have hltI : (k : Int) < (L : Int) := by omega
      clear hx e1 m1
      by_cases hxy : x = n
      · subst hxy
        obtain rfl : d = true := by rw [← HD.out, decide_eq_true_iff]; exact M1.out
        have hn : (x == x) = true := by simp
        go_wp2
        go_ret
        exact ⟨rfl, rfl⟩
      · have hn : (x == n) = false := by simpa using hxy
        go_wp2
        go_round
        case rel =>
          refine ⟨k + 1, by go_num, by omega, ?_⟩
          rw [E1.out]
          intro h
          rcases List.mem_append.1 h with h | h
          · exact HP.out h
          · exact hxy (List.mem_singleton.1 h).symm
        case measure => simp [intOf]; omega
    · obtain rfl : k = L := by omega
      obtain rfl : d = false := by
        rw [← HD.out, decide_eq_false_iff_not]
        have := HP.out
        rwa [take_all HL.out] at this
      have hltI : ¬ (k : Int) < (k : Int) := by omega
      go_wp2
      go_ret
      exact ⟨rfl, rfl⟩
set_option maxRecDepth 100000 in
theorem backR6_any {u : Value} {xs : List Int} {a : Option Addr} {ca : Nat} {w : World} {k : Nat} (A : ArgS w u xs a ca) (hk : 1 ≤ k) (hl : xs.length ≤ 4) (hk2 : k ≤ 1000) :
    Calls Try.prog 69 #[u, .int .i64 (k : Int)] w fun e w' => e = .returned (.int .i64 (backS xs k)) ∧ w = w' := by
  have HA := Lib.hid A
  obtain rfl := A.is
  obtain ⟨L, hL⟩ : ∃ L, xs.length = L := ⟨_, rfl⟩
  have HL := Lib.hid hL
  unfold backS
  rw [hL] at hl ⊢
  clear A hL
  by_cases hlt : L < k
  · rw [if_pos hlt]
    have hI : (L : Int) < (k : Int) := by omega
    go_enter Try.func69, Try.ntmps69
    go_wp2
    go_ret
    exact ⟨rfl, rfl⟩
  · rw [if_neg hlt]
    obtain ⟨j, hj⟩ : ∃ j, L - k = j := ⟨_, rfl⟩
    rw [hj]
    obtain ⟨b, off, rfl, hc⟩ := HA.out.at (i := j) (by rw [HL.out]; omega)
    obtain ⟨x, hx⟩ : ∃ x, xs.getD j 0 = x := ⟨_, rfl⟩
    rw [hx] at hc ⊢
    have hI : ¬ (L : Int) < (k : Int) := by omega
    have hjI : (L : Int) - (k : Int) = (j : Int) := by omega
    have hjL : (j : Int) < (L : Int) := by omega
    clear hx
    go_enter Try.func69, Try.ntmps69
    go_wp2
    go_ret
    exact ⟨rfl, rfl⟩
end
section
open Go.RowKit
set_option linter.unusedVariables false
set_option linter.unusedSimpArgs false
set_option maxRecDepth 100000 in
set_option maxHeartbeats 4000000 in
theorem fitsR_any {u v : Value} {xs ys : List Int} {a b : Option Addr} {ca cb : Nat} {w : World} (A : ArgS w u xs a ca) (B : ArgS w v ys b cb) :
    Calls Try.prog 53 #[u, v] w fun e w' => e = .returned (.int .i64 (fitC xs ys)) ∧ w = w' := by
  have m1 := mayR6_any A
  have m2 := mayR6_any B
  have hbk := fun k (h1 : 1 ≤ k) h2 h3 => backR6_any (k := k) A h1 h2 h3
  have hbt := fun k (h1 : 1 ≤ k) h2 h3 => backR6_any (k := k) B h1 h2 h3
  obtain ⟨c, hc⟩ : ∃ c, fitC xs ys = c := ⟨_, rfl⟩
  rw [hc]
  by_cases h1 : mayC xs = 0
  · rw [h1] at m1
    by_cases h2 : mayC ys = 0
    · rw [h2] at m2
      have o1 := mayC_zero.1 h1
      have o2 := mayC_zero.1 h2
      have l1 := o1.rank
      have l2 := o2.rank
      have hcc : fitU xs ys xs.length → c = 0 := fun h => by rw [← hc, fitC_ok h1 h2 h]
      have hcb : ¬ fitU xs ys xs.length → c = 13 := fun h => by rw [← hc, fitC_bad h1 h2 h]
      obtain rfl := A.is
      obtain rfl := B.is
      obtain ⟨L, hL⟩ : ∃ L, xs.length = L := ⟨_, rfl⟩
      obtain ⟨M, hM⟩ : ∃ M, ys.length = M := ⟨_, rfl⟩
      rw [hL] at m1 hbk l1 hcc hcb ⊢
      rw [hM] at m2 hbt l2 ⊢
      have HCC := Lib.hid hcc
      have HCB := Lib.hid hcb
      clear A B hc h1 h2 o1 o2 hL hM hcc hcb
      go_enter Try.func53, Try.ntmps53
      go_wp2_with fail
      refine m1.mono ?_
      rintro e w1 ⟨rfl, rfl⟩
      go_wp2_with fail
      refine m2.mono ?_
      rintro e w2 ⟨rfl, rfl⟩
      clear m1 m2
      go_wp2_with fail
      go_loop [7] (fun i => ∃ q : Nat, i = .int .i64 (q : Int) ∧ 1 ≤ q ∧ q ≤ L + 1 ∧ fitU xs ys (q - 1)) (fun i => L + 1 - (intOf i).toNat)
      case atStart => exact ⟨1, rfl, Nat.le_refl _, by omega, fun j h1 h2 => by omega⟩
      case round =>
        obtain ⟨q, rfl, hq1, hqL, hp⟩ := hrel
        have HP := Lib.hid hp
        clear hp
        by_cases hlt : q ≤ L
        · have kf := hbk q hq1 l1 (by omega)
          have kt := hbt q hq1 l2 (by omega)
          obtain ⟨x, hx⟩ : ∃ x, backS xs q = x := ⟨_, rfl⟩
          obtain ⟨y, hy⟩ : ∃ y, backS ys q = y := ⟨_, rfl⟩
          rw [hx] at kf
          rw [hy] at kt
          have HX := Lib.hid hx
          have HY := Lib.hid hy
          have hI : (q : Int) ≤ (L : Int) := by omega
          have hbad : ¬ (y ≠ 0 ∧ (x = 1 ∨ x = y)) → c = 13 := fun h => HCB.out fun hf => by
            have := hf q hq1 hlt
            rw [HX.out, HY.out] at this
            exact h this
          have hgood : (y ≠ 0 ∧ (x = 1 ∨ x = y)) → fitU xs ys q := fun h j h1 h2 => by
            by_cases hj : j = q
            · subst hj; rw [HX.out, HY.out]; exact h
            · exact HP.out j h1 (by omega)
          have HG := Lib.hid hgood
          clear hx hy hgood
          by_cases hy0 : y = 0
          · obtain rfl : c = 13 := hbad (fun h => h.1 hy0)
            have hn : (y == 0) = true := by simpa using hy0
            clear hbad
            go_wp2_with (go_at_call 69; refine kt.mono ?_; rintro e w3 ⟨rfl, rfl⟩)
            go_ret
            exact ⟨rfl, rfl⟩
          · have hn : (y == 0) = false := by simpa using hy0
            by_cases hx1 : x = 1
            · subst hx1
              clear hbad
              go_wp2_with (go_at_call 69; first | ((with_reducible refine kt.mono ?_); rintro e w3 ⟨rfl, rfl⟩) | ((with_reducible refine kf.mono ?_); rintro e w3 ⟨rfl, rfl⟩))
              go_round
              case rel => exact ⟨q + 1, by go_num, by omega, by omega, HG.out ⟨hy0, .inl (by trivial)⟩⟩
              case measure => simp [intOf]; omega
            · have hn1 : (x != 1) = true := by simpa using hx1
              by_cases hxy : x = y
              · subst hxy
                have hn2 : (x != x) = false := by simp
                clear hbad
                go_wp2_with (go_at_call 69; first | ((with_reducible refine kt.mono ?_); rintro e w3 ⟨rfl, rfl⟩) | ((with_reducible refine kf.mono ?_); rintro e w3 ⟨rfl, rfl⟩))
                go_round
                case rel => exact ⟨q + 1, by go_num, by omega, by omega, HG.out ⟨hy0, .inr (by trivial)⟩⟩
                case measure => simp [intOf]; omega
              · have hn2 : (x != y) = true := by simpa using hxy
                obtain rfl : c = 13 := hbad (fun h => h.2.elim hx1 hxy)
                clear hbad
                go_wp2_with (go_at_call 69; first | ((with_reducible refine kt.mono ?_); rintro e w3 ⟨rfl, rfl⟩) | ((with_reducible refine kf.mono ?_); rintro e w3 ⟨rfl, rfl⟩))
                go_ret
                exact ⟨rfl, rfl⟩
        · obtain rfl : q = L + 1 := by omega
          obtain rfl : c = 0 := HCC.out HP.out
          have hI : ¬ ((L + 1 : Nat) : Int) ≤ (L : Int) := by omega
          go_wp2
          go_ret
          exact ⟨rfl, rfl⟩
    · rw [fitC_to h1 h2] at hc
      subst hc
      obtain ⟨c, hc⟩ : ∃ c, mayC ys = c := ⟨_, rfl⟩
      rw [hc] at m2 h2 ⊢
      have hne : (c != 0) = true := by simpa using h2
      clear h1 h2 hc hbk hbt
      go_enter Try.func53, Try.ntmps53
      go_wp2_with fail
      refine m1.mono ?_
      rintro e w1 ⟨rfl, rfl⟩
      go_wp2_with fail
      refine m2.mono ?_
      rintro e w2 ⟨rfl, rfl⟩
      clear m1 m2
      go_wp2
      go_ret
      exact ⟨rfl, rfl⟩
  · rw [fitC_from h1] at hc
    subst hc
    obtain ⟨c, hc⟩ : ∃ c, mayC xs = c := ⟨_, rfl⟩
    rw [hc] at m1 h1 ⊢
    have hne : (c != 0) = true := by simpa using h1
    clear h1 hc hbk hbt m2
    go_enter Try.func53, Try.ntmps53
    go_wp2_with fail
    refine m1.mono ?_
    rintro e w1 ⟨rfl, rfl⟩
    clear m1
    go_wp2
    go_ret
    exact ⟨rfl, rfl⟩
end
section
open Go.RowKit
set_option linter.unusedVariables false
set_option linter.unusedSimpArgs false
set_option maxRecDepth 100000 in
set_option maxHeartbeats 4000000 in
theorem dropR_any {u v : Value} {xs ys : List Int} {a b : Option Addr} {ca cb : Nat} {w : World} (A : ArgS w u xs a ca) (B : ArgS w v ys b cb) (hx : xs.length ≤ 17592186044416) (hy : ys.length ≤ 140737488355328) :
    Calls Try.prog 54 #[u, v] w fun e w' => ∃ r, e = .returned r ∧ ResS w.heap.size w' r (dropS xs ys) ∧ Below w.heap.size w w' := by
  obtain ⟨i0, hi, hz0, hz1, hz2⟩ := info_parts infoS
  have HA := Lib.hid A
  have HB := Lib.hid B
  obtain rfl := A.is
  obtain rfl := B.is
  obtain ⟨L, hL⟩ : ∃ L, xs.length = L := ⟨_, rfl⟩
  obtain ⟨r, hr⟩ : ∃ r, dropS xs ys = r := ⟨_, rfl⟩
  have HL := Lib.hid hL
  have hr2 : dropL xs ys L = r := by rw [← hr]; unfold dropS; rw [hL]
  have HR := Lib.hid hr2
  rw [hL] at hx
  rw [hL, hr]
  clear A B hL hr hr2
  go_enter Try.func54, Try.ntmps54
  go_wp2
  go_loopw [5, 6] (fun s i wr => ∃ (k : Nat) (zs : List Int), i = .int .i64 (k : Int) ∧ k ≤ L ∧ ResS w.heap.size wr s zs ∧ zs.length ≤ k ∧ dropL xs ys k = zs ∧ Below w.heap.size w wr) (fun _ i _ => L - (intOf i).toNat)
  case atStart => exact ⟨0, [], rfl, Nat.zero_le _, ResS.nil _ _, Nat.le_refl _, rfl, Below.refl _ _⟩
  case round =>
    obtain ⟨k, zs, rfl, hkL, R, hzl, hz, hb⟩ := hrel
    have hsz := hb.size
    have HZ := Lib.hid hz
    clear hz
    by_cases hlt : k < L
    · have hk := hasR_any (k : Int) (HB.out.later hb) hy
      have hltI : (k : Int) < (L : Int) := by omega
      by_cases hm : (k : Int) ∈ ys
      · rw [decide_eq_true hm] at hk
        have hst : dropL xs ys (k + 1) = zs := by simp only [dropL]; rw [if_pos hm, HZ.out, List.append_nil]
        have HST := Lib.hid hst
        have HRES := Lib.hid R
        clear hm hst R
        go_wp2_with (go_at_call 70; (with_reducible refine hk.mono ?_); rintro e w3 ⟨rfl, rfl⟩)
        go_roundw
        case rel => exact ⟨k + 1, zs, by go_num, by omega, HRES.out, by omega, HST.out, hb⟩
        case measure => simp [intOf]; omega
      · rw [decide_eq_false hm] at hk
        obtain ⟨b1, o1, rfl, hc1⟩ := (HA.out.later hb).at (i := k) (by rw [HL.out]; exact hlt)
        have hwx := HA.out.wf.getD k
        obtain ⟨x, hxe⟩ : ∃ x, xs.getD k 0 = x := ⟨_, rfl⟩
        rw [hxe] at hc1 hwx
        have hst : dropL xs ys (k + 1) = zs ++ [x] := by simp only [dropL]; rw [if_neg hm, HZ.out, hxe]
        have HST := Lib.hid hst
        have HW := Lib.hid hwx
        have HRES := Lib.hid R
        have hrow : wr.ownsRow w.heap.size 3 1 _ zs.length (zs.map (Value.int .i64)) := R.num
        clear hm hst hxe hwx R
        go_wp2_with (first | (go_at_call 70; (with_reducible refine hk.mono ?_); rintro e w3 ⟨rfl, rfl⟩) | (at_builtin; refine wpList_append_own _ rfl _ _ 23 rfl w.heap.size 3 i0 (.int .i64 0) 1 8 Try.underlying23 hi hz0 hz1 hz2 rfl (by decide) _ _ _ rfl (hrow.alloc _) ⟨wr.heap.size, 0, none⟩ 1 1 [.int .i64 x] rfl rfl (cell_one_new _ _ _) (by simp [Value.oneCell']) (by unfold maxLen; omega) (by omega) (by simp; omega) ?_; intro v' w1 hown' hgrow _))
        go_roundw
        case rel =>
          obtain ⟨hn, hbw⟩ := pushS hb hsz HRES.out.num hown' hgrow
          exact ⟨k + 1, zs ++ [x], by go_num, by omega, ⟨hn, HRES.out.wf.append (Wid.one HW.out)⟩, by rw [List.length_append]; simp only [List.length_cons, List.length_nil]; omega, HST.out, hbw⟩
        case measure => simp [intOf]; omega
    · obtain rfl : k = L := by omega
      have hltI : ¬ (k : Int) < (k : Int) := by omega
      have HRES := Lib.hid R
      clear R
      go_wp2
      go_ret
      exact ⟨_, rfl, by rw [← HR.out, HZ.out]; exact HRES.out, hb⟩
end
section
open Go.RowKit
set_option linter.unusedVariables false
set_option linter.unusedSimpArgs false
theorem fit_ax {o : Int} {a : List Int} (ho : o = 14 ∨ o = 20) (h : fitO o a = true) : axesB a 4 = true := by rcases ho with rfl | rfl <;> exact h
/-- all dimensions are at least 1: it may be, or it is too great -/
theorem pos_may {s : List Int} (h : posS s) : mayC s = 0 ∨ mayC s = 14 := by
  by_cases h1 : s.length ≤ 4
  · rcases Int.lt_or_le 1024 (prodS s) with h2 | h2
    · exact .inr (mayC_count h1 h h2)
    · exact .inl (mayC_ok ⟨h1, h, h2⟩)
  · exact .inr (mayC_rank (by omega))
end
end Go.Proofs.Ytdcggcfgkhlblaa
