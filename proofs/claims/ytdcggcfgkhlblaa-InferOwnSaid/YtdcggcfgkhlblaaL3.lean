/-
  Part 3 of 21: contracts and what they rest on (SPart, SCode3, SCode4, OMath, OCode1).
-/
import Derived.Test.YtdcggcfgkhlblaaL1
import Derived.WalkKit
import Derived.Test.YtdcggcfgkhlblaaRows
import Derived.OrdersHeld
import Derived.Deep.RegionHeld
import Derived.BigQuiet
import Derived.Deep.QuietTactic
import Derived.Lib.Hide
import Derived.Lib.Small
import Derived.Lib.Walk
import Derived.Lib.BitFns
import Derived.Maps.AppendAt
import Derived.RangeFuncNested
import Derived.RangeFuncBound
import Derived.RangeFuncCalls
import Derived.RangeFuncLeaves
import Derived.Shelf.Abstract
import Derived.OwnWalkIn
import Derived.TacticsInMore
import Derived.LoopNIn
import Derived.LoopIn
import Derived.RangeFuncBox
import Derived.Deep.RegionHeld3
import Derived.OrdersIn
import Derived.StillTailTactics
import Derived.RangeFuncFrom
import Derived.Laws.EntriesVeiled
import Derived.ProofKit
import Derived.OpenShut
import Derived.JoinedCond
import Derived.Carry
import Derived.Laws.AppendOwnNone
import Derived.Lib.ItoaNum
import Derived.Deep.RegionLaw
import Derived.WalkMore
import Derived.Lib.SmallJoins
import Derived.IntWalk
import Derived.Deep.DeepCutAuto
import Derived.Laws.OwnMore
import Derived.ArgAppend
import Derived.Deep.Slices
import Derived.Laws.CopyOwn
import Derived.Lib.SliceRun
import Derived.SizedLaws
namespace Go.Proofs.Ytdcggcfgkhlblaa
set_option maxRecDepth 100000
section
open Go.RowKit
set_option linter.unusedVariables false
set_option linter.unusedSimpArgs false
/-- block g has room for cap numbers, of which the first are zs -/
def PartS (w : World) (g cap : Nat) (zs : List Int) : Prop := ∃ cur : Array Value, w.heap[g]? = some (.cells cur 3 (0, 0)) ∧ cur.size = cap ∧ zs.length ≤ cap ∧ cur.toList.take zs.length = zs.map (Value.int .i64)
theorem PartS.cell {w : World} {g cap : Nat} {zs : List Int} (h : PartS w g cap zs) (i : Nat) (hi : i < zs.length) : w.cell? ⟨g, i, none⟩ = some (.int .i64 (zs.getD i 0)) := by
  obtain ⟨cur, hh, hs, hl, ht⟩ := h
  have e : w.cell? ⟨g, i, none⟩ = cur[i]? := cell_of_row w g i _ 3 (0, 0) hh
  rw [e]
  have h1 : (cur.toList.take zs.length)[i]? = cur[i]? := by rw [List.getElem?_take_of_lt hi]; simp
  rw [← h1, ht]
  simp [hi]
theorem PartS.free {w : World} {g cap : Nat} {zs : List Int} (h : PartS w g cap zs) (i : Nat) : w.frozen? ⟨g, i, none⟩ = false := by
  obtain ⟨cur, hh, _⟩ := h
  exact frozen_of_row w g i _ 3 hh
theorem PartS.lt {w : World} {g cap : Nat} {zs : List Int} (h : PartS w g cap zs) : g < w.heap.size := by obtain ⟨cur, hh, _⟩ := h; exact lt_of_block hh
theorem PartS.same {w w' : World} {g cap : Nat} {zs : List Int} (h : PartS w g cap zs) (e : w'.heap[g]? = w.heap[g]?) : PartS w' g cap zs := by
  obtain ⟨cur, hh, r⟩ := h
  exact ⟨cur, e.trans hh, r⟩
theorem PartS.far {w : World} {g cap : Nat} {zs : List Int} (h : PartS w g cap zs) {p : Addr} (hne : g ≠ p.block) (u : Value) : PartS (w.setCell p u) g cap zs := h.same (Below.heap_setCell _ _ _ _ hne)
theorem PartS.set {w : World} {g cap : Nat} {zs : List Int} (h : PartS w g cap zs) (i : Nat) (hi : i < zs.length) (x : Int) : PartS (w.setCell ⟨g, i, none⟩ (.int .i64 x)) g cap (zs.set i x) := by
  obtain ⟨cur, hh, hs, hl, ht⟩ := h
  refine ⟨cur.setIfInBounds i (.int .i64 x), ?_, by simpa using hs, by simpa using hl, ?_⟩
  · have e := heap_setCell_same w g i _ 3 (.int .i64 x) hh
    rw [e]
  · rw [List.length_set, Array.toList_setIfInBounds, List.take_set, ht, List.map_set]
theorem PartS.num {base g cap : Nat} {w : World} {zs : List Int} (h : PartS w g cap zs) (hb : base ≤ g) (hm : cap ≤ maxLen) : NumS base w (.slice (some ⟨g, 0, none⟩) zs.length cap) zs := by
  obtain ⟨cur, hh, hs, hl, ht⟩ := h
  exact ⟨by simp, .inr ⟨g, cap, cur, rfl, hb, hh, hl, hm, by simpa using hs, by simpa using ht⟩⟩
end
section
open Go.RowKit
set_option linter.unusedVariables false
set_option linter.unusedSimpArgs false
theorem back_to {t : List Int} {k : Nat} (h : k < t.length) : backS t (t.length - k) = t.getD k 0 := by
  unfold backS
  rw [if_neg (by omega), show t.length - (t.length - k) = k by omega]
theorem back_ahead {f t : List Int} {k : Nat} (h : k < t.length - f.length) : backS f (t.length - k) = 0 := by
  unfold backS
  rw [if_pos (by omega)]
theorem back_in {f t : List Int} {k : Nat} (hl : f.length ≤ t.length) (hk : k < t.length) (h : t.length - f.length ≤ k) : backS f (t.length - k) = f.getD (k - (t.length - f.length)) 0 := by
  unfold backS
  rw [if_neg (by omega), show f.length - (t.length - k) = k - (t.length - f.length) by omega]
/-- the first k dimensions of the other one fit -/
def fitP (f t : List Int) (k : Nat) : Prop := ∀ i, i < k → t.length - f.length ≤ i → f.getD (i - (t.length - f.length)) 0 = t.getD i 0 ∨ f.getD (i - (t.length - f.length)) 0 = 1
theorem fitP.next {f t : List Int} {k : Nat} (h : fitP f t k) (h2 : t.length - f.length ≤ k → f.getD (k - (t.length - f.length)) 0 = t.getD k 0 ∨ f.getD (k - (t.length - f.length)) 0 = 1) : fitP f t (k + 1) := by
  intro i hi h3
  by_cases e : i = k
  · subst e; exact h2 h3
  · exact h i (by omega) h3
theorem fitP.all {f t : List Int} (ok : OkS t) (hl : f.length ≤ t.length) (h : fitP f t t.length) : fitU f t f.length := by
  intro j j1 j2
  refine ⟨by have := back_pos ok j1 (by omega); omega, ?_⟩
  have h3 := h (t.length - j) (by omega) (by omega)
  have e1 : backS f j = f.getD (t.length - j - (t.length - f.length)) 0 := by
    rw [← back_in hl (by omega) (by omega)]; congr 1; omega
  have e2 : backS t j = t.getD (t.length - j) 0 := by
    rw [← back_to (by omega)]; congr 1; omega
  rw [e1, e2]
  omega
theorem fitU.at {f t : List Int} (hl : f.length ≤ t.length) (h : fitU f t f.length) {k : Nat} (hk : k < t.length) (h2 : t.length - f.length ≤ k) : f.getD (k - (t.length - f.length)) 0 = t.getD k 0 ∨ f.getD (k - (t.length - f.length)) 0 = 1 := by
  have h3 := (h (t.length - k) (by omega) (by omega)).2
  rw [back_in hl hk h2, back_to hk] at h3
  omega
theorem fit_far {f t : List Int} (o1 : OkS f) (o2 : OkS t) (h : t.length < f.length) : fitC f t = 13 := by
  refine fitC_bad (mayC_ok o1) (mayC_ok o2) fun hu => ?_
  have := (hu f.length (by omega) (Nat.le_refl _)).1
  rw [back_zero h] at this
  exact this rfl
theorem grownS_bad {f t : List Int} (h : fitC f t ≠ 0) : grownS f t = [] := by unfold grownS; rw [if_neg h]
theorem grownS_ok {f t : List Int} (h : fitC f t = 0) : grownS f t = grownL f t t.length := by unfold grownS; rw [if_pos h]
set_option maxRecDepth 100000 in
set_option maxHeartbeats 4000000 in
theorem grown_any {u v : Value} {xs ys : List Int} {a b : Option Addr} {ca cb : Nat} {w : World} (A : ArgS w u xs a ca) (B : ArgS w v ys b cb) :
    Calls Try.prog 64 #[u, v] w fun e w' => ∃ r, e = .returned (.tuple #[r, .int .i64 (fitC xs ys)]) ∧ ResS w.heap.size w' r (grownS xs ys) ∧ Below w.heap.size w w' := by
  obtain ⟨i0, hi, hz0, hz1, hz2⟩ := info_parts infoS
  have HA := Lib.hid A
  have HB := Lib.hid B
  obtain rfl := A.is
  obtain rfl := B.is
  obtain ⟨c, hc⟩ : ∃ c, fitC xs ys = c := ⟨_, rfl⟩
  obtain ⟨r, hr⟩ : ∃ r, grownS xs ys = r := ⟨_, rfl⟩
  obtain ⟨F, hF⟩ : ∃ F, xs.length = F := ⟨_, rfl⟩
  obtain ⟨T, hT⟩ : ∃ T, ys.length = T := ⟨_, rfl⟩
  have HC := Lib.hid hc
  have HR := Lib.hid hr
  have HF := Lib.hid hF
  have HT := Lib.hid hT
  rw [hc, hr, hF, hT]
  clear A B hc hr hF hT
  go_enter Try.func64, Try.ntmps64
  go_wp2
  go_step3
  go_wp2
  have hbW : Below w.heap.size w (w.alloc (.cells #[.slice a F ca, .slice b T cb] 28)) := (Below.refl _ _).alloc (Nat.le_refl _) _
  have hc0 : (w.alloc (.cells #[.slice a F ca, .slice b T cb] 28)).cell? ⟨w.heap.size, 0, none⟩ = some (.slice a F ca) := cell_of_row _ _ 0 _ 28 (0, 0) (heap_alloc_new w _)
  have hc1 : (w.alloc (.cells #[.slice a F ca, .slice b T cb] 28)).cell? ⟨w.heap.size, 1, none⟩ = some (.slice b T cb) := cell_of_row _ _ 1 _ 28 (0, 0) (heap_alloc_new w _)
  obtain ⟨W, hW⟩ : ∃ W, w.alloc (.cells #[.slice a F ca, .slice b T cb] 28) = W := ⟨_, rfl⟩
  rw [hW] at hbW hc0 hc1 ⊢
  clear hW
  have hm1 := mayS_eq (HA.out.later hbW)
  have hm2 := mayS_eq (HB.out.later hbW)
  rw [HF.out] at hm1
  rw [HT.out] at hm2
  go_loop [7, 8, 17] (fun _ _ i => ∃ (k : Nat), i = .int .i64 (k : Int) ∧ k ≤ 2 ∧ (1 ≤ k → mayC xs = 0) ∧ (2 ≤ k → mayC ys = 0)) (fun _ _ i => 2 - (intOf i).toNat)
  case atStart => exact ⟨0, rfl, by omega, fun h => by omega, fun h => by omega⟩
  case round =>
    obtain ⟨k, rfl, hk, h1, h2⟩ := hrel
    rcases (show k = 0 ∨ k = 1 ∨ k = 2 by omega) with rfl | rfl | rfl
    · obtain ⟨m, hm⟩ : ∃ m, mayC xs = m := ⟨_, rfl⟩
      rw [hm] at hm1
      have HM := Lib.hid hm
      clear hm h1 h2
      by_cases h0 : m = 0
      · subst h0
        go_wp2_with (go_at_call 29; refine hm1.mono ?_; rintro e w1 ⟨rfl, rfl⟩)
        go_round
        case rel => exact ⟨1, by go_num, by omega, fun _ => HM.out, fun h => by omega⟩
        case measure => simp [intOf]
      · have hcc := fitC_from (f := xs) (t := ys) (by rw [HM.out]; exact h0)
        obtain rfl : c = m := by rw [← HC.out, hcc]; exact HM.out
        obtain rfl : r = [] := by rw [← HR.out]; exact grownS_bad (by rw [HC.out]; exact h0)
        have hne : (c != 0) = true := by simpa using h0
        clear hcc
        go_wp2_with (go_at_call 29; refine hm1.mono ?_; rintro e w1 ⟨rfl, rfl⟩)
        (try rw [Exit.noGoto_ret])
        go_ret2
        exact ⟨_, rfl, ResS.nil _ _, hbW⟩
    · obtain ⟨m, hm⟩ : ∃ m, mayC ys = m := ⟨_, rfl⟩
      have H1 := Lib.hid (h1 (by omega))
      rw [hm] at hm2
      have HM := Lib.hid hm
      clear hm h1 h2
      by_cases h0 : m = 0
      · subst h0
        go_wp2_with (go_at_call 29; refine hm2.mono ?_; rintro e w1 ⟨rfl, rfl⟩)
        go_round
        case rel => exact ⟨2, by go_num, by omega, fun _ => H1.out, fun _ => HM.out⟩
        case measure => simp [intOf]
      · have hcc := fitC_to (f := xs) (t := ys) H1.out (by rw [HM.out]; exact h0)
        obtain rfl : c = m := by rw [← HC.out, hcc]; exact HM.out
        obtain rfl : r = [] := by rw [← HR.out]; exact grownS_bad (by rw [HC.out]; exact h0)
        have hne : (c != 0) = true := by simpa using h0
        clear hcc
        go_wp2_with (go_at_call 29; refine hm2.mono ?_; rintro e w1 ⟨rfl, rfl⟩)
        (try rw [Exit.noGoto_ret])
        go_ret2
        exact ⟨_, rfl, ResS.nil _ _, hbW⟩
    · have o1 := mayC_zero.1 (h1 (by omega))
      have o2 := mayC_zero.1 (h2 (by omega))
      have l1 := o1.rank
      have l2 := o2.rank
      rw [HF.out] at l1
      rw [HT.out] at l2
      have O1 := Lib.hid o1
      have O2 := Lib.hid o2
      clear h1 h2 hm1 hm2 o1 o2
      have hnn : ¬ ((2 : Nat) : Int) < 2 := by omega
      by_cases hft : F ≤ T
      · obtain ⟨D, hD⟩ : ∃ D, T - F = D := ⟨_, rfl⟩
        have hDI : (T : Int) - (F : Int) = (D : Int) := by omega
        have hD0 : ¬ (D : Int) < 0 := by omega
        have HD := Lib.hid hD
        clear hD
        go_wp2
        go_step3
        go_wp2
        go_loopw [10, 11, 12, 36] (fun s _ _ i wr => ∃ (k : Nat) (zs : List Int), i = .int .i64 (k : Int) ∧ k ≤ T ∧ ResS w.heap.size wr s zs ∧ zs.length ≤ k ∧ grownL xs ys k = zs ∧ fitP xs ys k ∧ Below w.heap.size w wr) (fun _ _ _ i _ => T - (intOf i).toNat)
        case atStart => exact ⟨0, [], rfl, Nat.zero_le _, ResS.nil _ _, Nat.le_refl _, rfl, fun i hi => by omega, hbW⟩
        case round =>
          obtain ⟨k, zs, rfl, hk, R, hzl, hz, hfp, hb⟩ := hrel
          have hsz := hb.size
          have HZ := Lib.hid hz
          have HFP := Lib.hid hfp
          have HRES := Lib.hid R
          have hrow : wr.ownsRow w.heap.size 3 1 _ zs.length (zs.map (Value.int .i64)) := R.num
          clear hz hfp R
          by_cases hlt : k < T
          · obtain ⟨b2, o2, rfl, c2⟩ := (HB.out.later hb).at (i := k) (by rw [HT.out]; exact hlt)
            have hst : grownL xs ys (k + 1) = zs ++ (if backS xs (ys.length - k) = backS ys (ys.length - k) then [] else [(k : Int)]) := by simp only [grownL]; rw [HZ.out]
            rw [back_to (t := ys) (by rw [HT.out]; exact hlt)] at hst
            have hdp := O2.out.pos.getD (i := k) (by rw [HT.out]; exact hlt)
            obtain ⟨d, hde⟩ : ∃ d, ys.getD k 0 = d := ⟨_, rfl⟩
            rw [hde] at c2 hst hdp
            have HDE := Lib.hid hde
            have hltI : (k : Int) < (T : Int) := by omega
            clear hde
            by_cases hin : k < D
            · have hinI : (k : Int) < (D : Int) := by omega
              rw [back_ahead (f := xs) (t := ys) (by rw [HT.out, HF.out, HD.out]; exact hin), if_neg (by omega)] at hst
              have HST := Lib.hid hst
              have HN := Lib.hid (HFP.out.next fun h => by rw [HT.out, HF.out, HD.out] at h; omega)
              clear hst
              go_wp2_with (at_builtin; refine wpList_append_own _ rfl _ _ 23 rfl w.heap.size 3 i0 (.int .i64 0) 1 8 Try.underlying23 hi hz0 hz1 hz2 rfl (by decide) _ _ _ rfl (hrow.alloc _) ⟨wr.heap.size, 0, none⟩ 1 1 [.int .i64 (k : Int)] rfl rfl (cell_one_new _ _ _) (by simp [Value.oneCell']) (by unfold maxLen; omega) (by omega) (by simp; omega) ?_; intro v' w1 hown' hgrow _)
              go_roundw
              case rel =>
                obtain ⟨hn, hbw⟩ := pushS hb hsz HRES.out.num hown' hgrow
                exact ⟨k + 1, zs ++ [(k : Int)], by go_num, by omega, ⟨hn, HRES.out.wf.append (Wid.one (by omega))⟩, by rw [List.length_append]; simp only [List.length_cons, List.length_nil]; omega, HST.out, HN.out, hbw⟩
              case measure => simp [intOf]; omega
            · have hinI : ¬ (k : Int) < (D : Int) := by omega
              obtain ⟨j, hj⟩ : ∃ j, k - D = j := ⟨_, rfl⟩
              have hjI : (k : Int) - (D : Int) = (j : Int) := by omega
              have hjF : j < F := by have := HD.out; omega
              have hjFI : (j : Int) < (F : Int) := by omega
              obtain ⟨b1, o1, rfl, c1⟩ := (HA.out.later hb).at (i := j) (by rw [HF.out]; exact hjF)
              have hle : xs.length ≤ ys.length := by rw [HF.out, HT.out]; exact hft
              have hkk : ys.length - xs.length ≤ k := by rw [HT.out, HF.out, HD.out]; omega
              have hkt : k < ys.length := by rw [HT.out]; exact hlt
              have ej : k - (ys.length - xs.length) = j := by rw [HT.out, HF.out, HD.out]; exact hj
              rw [back_in hle hkt hkk, ej] at hst
              have hno : xs.getD j 0 ≠ d → xs.getD j 0 ≠ 1 → fitC xs ys = 13 := fun g1 g2 => fitC_bad (mayC_ok O1.out) (mayC_ok O2.out) fun hu => by
                have := hu.at hle hkt hkk
                rw [ej, HDE.out] at this
                omega
              have hyes : xs.getD j 0 = d ∨ xs.getD j 0 = 1 → fitP xs ys (k + 1) := fun g => HFP.out.next fun _ => by rw [ej, HDE.out]; exact g
              obtain ⟨x, hxe⟩ : ∃ x, xs.getD j 0 = x := ⟨_, rfl⟩
              rw [hxe] at c1 hst hno hyes
              have HNO := Lib.hid hno
              have HYES := Lib.hid hyes
              clear hno hyes hle hkk hkt ej hxe hj
              by_cases hxd : x = d
              · subst hxd
                rw [if_pos rfl, List.append_nil] at hst
                have HST := Lib.hid hst
                have heq : (x == x) = true := by simp
                clear hst
                go_wp2
                go_roundw
                case rel => exact ⟨k + 1, zs, by go_num, by omega, HRES.out, by omega, HST.out, HYES.out (.inl rfl), hb⟩
                case measure => simp [intOf]; omega
              · rw [if_neg hxd] at hst
                have HST := Lib.hid hst
                have heq : (x == d) = false := by simpa using hxd
                clear hst
                by_cases hx1 : x = 1
                · subst hx1
                  go_wp2_with (at_builtin; refine wpList_append_own _ rfl _ _ 23 rfl w.heap.size 3 i0 (.int .i64 0) 1 8 Try.underlying23 hi hz0 hz1 hz2 rfl (by decide) _ _ _ rfl (hrow.alloc _) ⟨wr.heap.size, 0, none⟩ 1 1 [.int .i64 (k : Int)] rfl rfl (cell_one_new _ _ _) (by simp [Value.oneCell']) (by unfold maxLen; omega) (by omega) (by simp; omega) ?_; intro v' w1 hown' hgrow _)
                  go_roundw
                  case rel =>
                    obtain ⟨hn, hbw⟩ := pushS hb hsz HRES.out.num hown' hgrow
                    exact ⟨k + 1, zs ++ [(k : Int)], by go_num, by omega, ⟨hn, HRES.out.wf.append (Wid.one (by omega))⟩, by rw [List.length_append]; simp only [List.length_cons, List.length_nil]; omega, HST.out, HYES.out (.inr rfl), hbw⟩
                  case measure => simp [intOf]; omega
                · have hcc := HNO.out hxd hx1
                  obtain rfl : c = 13 := by rw [← HC.out]; exact hcc
                  obtain rfl : r = [] := by rw [← HR.out]; exact grownS_bad (by rw [hcc]; decide)
                  have hne : (x != 1) = true := by simpa using hx1
                  clear hcc
                  go_wp2
                  (try rw [Exit.noGoto_ret])
                  go_ret2
                  exact ⟨_, rfl, ResS.nil _ _, hb⟩
          · obtain rfl : k = T := by omega
            have hu := fitP.all (f := xs) (t := ys) O2.out (by rw [HF.out, HT.out]; exact hft) (by rw [HT.out]; exact HFP.out)
            have hcc := fitC_of O1.out O2.out hu
            obtain rfl : c = 0 := by rw [← HC.out]; exact hcc
            have hrr : zs = r := by rw [← HR.out, grownS_ok hcc, HT.out]; exact HZ.out.symm
            subst hrr
            have hltI : ¬ (k : Int) < (k : Int) := by omega
            clear hu hcc
            go_wp2
            (try rw [Exit.noGoto_ret])
            go_ret2
            exact ⟨_, rfl, HRES.out, hb⟩
      · obtain rfl : c = 13 := by rw [← HC.out]; exact fit_far O1.out O2.out (by rw [HF.out, HT.out]; omega)
        obtain rfl : r = [] := by rw [← HR.out]; exact grownS_bad (by rw [HC.out]; decide)
        have hd : (T : Int) - (F : Int) < 0 := by omega
        go_wp2
        go_ret2
        exact ⟨_, rfl, ResS.nil _ _, hbW⟩
set_option maxRecDepth 100000 in
set_option maxHeartbeats 2000000 in
theorem fitsS_any {u v : Value} {xs ys : List Int} {a b : Option Addr} {ca cb : Nat} {w : World} (A : ArgS w u xs a ca) (B : ArgS w v ys b cb) (ha : a = none → ca = 0) (hb : b = none → cb = 0) (hx : xs.length ≤ 17592186044416) (hy : ys.length ≤ 17592186044416) :
    Calls Try.prog 40 #[u, v] w fun e w' => e = .returned (.int .i64 (fitC xs ys)) ∧ Below w.heap.size w w' := by
  have h := grown_any A B
  obtain rfl := A.is
  obtain rfl := B.is
  obtain ⟨c, hc⟩ : ∃ c, fitC xs ys = c := ⟨_, rfl⟩
  obtain ⟨z, hz⟩ : ∃ z, grownS xs ys = z := ⟨_, rfl⟩
  obtain ⟨n, hn⟩ : ∃ n, xs.length = n := ⟨_, rfl⟩
  obtain ⟨m, hm⟩ : ∃ n, ys.length = n := ⟨_, rfl⟩
  rw [hc, hz, hn, hm] at h
  rw [hc, hn, hm]
  clear A B ha hb hx hy hc hz hn hm
  go_enter Try.func40, Try.ntmps40
  go_wp2_with (go_at_call 64; refine h.mono ?_; rintro e w1 ⟨r, rfl, R, hb⟩)
  go_ret
  exact ⟨rfl, hb⟩
end
section
open Go.RowKit
set_option linter.unusedVariables false
set_option linter.unusedSimpArgs false
/-- a block of marks, known whole -/
def MrkS (w : World) (g : Nat) (zs : List Bool) : Prop := w.heap[g]? = some (.cells (zs.map Value.bool).toArray 4 (0, 0))
theorem MrkS.cell {w : World} {g : Nat} {zs : List Bool} (h : MrkS w g zs) (i : Nat) (hi : i < zs.length) : w.cell? ⟨g, i, none⟩ = some (.bool (zs.getD i false)) := by
  have e : w.cell? ⟨g, i, none⟩ = ((zs.map Value.bool).toArray)[i]? := cell_of_row w g i _ 4 (0, 0) h
  rw [e]; simp [hi]
theorem MrkS.free {w : World} {g : Nat} {zs : List Bool} (h : MrkS w g zs) (i : Nat) : w.frozen? ⟨g, i, none⟩ = false := frozen_of_row w g i _ 4 h
theorem MrkS.lt {w : World} {g : Nat} {zs : List Bool} (h : MrkS w g zs) : g < w.heap.size := lt_of_block h
theorem MrkS.same {w w' : World} {g : Nat} {zs : List Bool} (h : MrkS w g zs) (e : w'.heap[g]? = w.heap[g]?) : MrkS w' g zs := e.trans h
theorem MrkS.alloc {w : World} {g : Nat} {zs : List Bool} (h : MrkS w g zs) (o : Obj) : MrkS (w.alloc o) g zs := h.same (Below.heap_alloc _ _ _ h.lt)
theorem MrkS.far {w : World} {g : Nat} {zs : List Bool} (h : MrkS w g zs) {p : Addr} (hne : g ≠ p.block) (u : Value) : MrkS (w.setCell p u) g zs := h.same (Below.heap_setCell _ _ _ _ hne)
theorem MrkS.set {w : World} {g : Nat} {zs : List Bool} (h : MrkS w g zs) (i : Nat) (x : Bool) : MrkS (w.setCell ⟨g, i, none⟩ (.bool x)) g (zs.set i x) := by
  have hh := heap_setCell_same w g i _ 4 (.bool x) h
  unfold MrkS
  rw [hh]
  congr 2
  simp [List.map_set]
theorem MrkS.made (w : World) (n : Nat) : MrkS (w.alloc (.cells (madeCells #[.bool false] n) 4)) w.heap.size (List.replicate n false) := by
  have h := heap_alloc_new w (.cells (madeCells #[.bool false] n) 4)
  unfold MrkS
  rw [h]
  congr 2
  apply Array.ext
  · simp [madeCells]
  · intro i h1 h2
    simp [madeCells, Nat.mod_one]
theorem infoM : (Try.prog.info? 4).map (fun i => (i.zero, i.size, i.bytes)) = some (some (.bool false), 1, 1) := by kernel_rfl
theorem make_runM (n : Nat) (hc : n ≤ 17592186044416) (w : World) :
    (Instr.makeSlice 103 (.int .i64 (n : Int)) (.int .i64 (n : Int))).run Try.prog w = .ok (.slice (some ⟨w.heap.size, 0, none⟩) n n) (w.alloc (.cells (madeCells #[.bool false] n) 4)) := by
  obtain ⟨i0, hi, hz0, hz1, hz2⟩ := info_parts infoM
  have h := run_make (P := Try.prog) w 103 4 i0 (.bool false) Try.underlying103 hi hz0 .i64 .i64 n n (by omega) (by omega) (by rw [hz2]; omega) (by omega)
  simpa [hz1, Value.cells] using h
theorem make_runH (n m : Nat) (hm : n ≤ m) (hc : m ≤ 17592186044416) (w : World) :
    (Instr.makeSlice 28 (.int .i64 (n : Int)) (.int .i64 (m : Int))).run Try.prog w = .ok (.slice (some ⟨w.heap.size, 0, none⟩) n m) (w.alloc (.cells (madeCells #[.int .i64 0] m) 3)) := by
  obtain ⟨i0, hi, hz0, hz1, hz2⟩ := info_parts infoS
  have h := run_make (P := Try.prog) w 28 3 i0 (.int .i64 0) Try.underlying28 hi hz0 .i64 .i64 n m (by omega) (by omega) (by rw [hz2]; omega) (by omega)
  simpa [hz1, Value.cells] using h
/-- a list's numbers are marked, below n -/
def MarkS (w : World) (p n : Nat) (l : List Int) : Prop := ∃ g, w.cell? ⟨p, 0, none⟩ = some (.slice (some ⟨g, 0, none⟩) n n) ∧ ∀ i, i < n → w.cell? ⟨g, i, none⟩ = some (.bool (decide ((i : Int) ∈ l)))
theorem MarkS.later {w w' : World} {p n : Nat} {l : List Int} (h : MarkS w p n l) (hb : Below w.heap.size w w') : MarkS w' p n l := by
  obtain ⟨g, h1, h2⟩ := h
  exact ⟨g, (hb.cell (World.block_lt_of_cell? w _ h1)).trans h1, fun i hi => (hb.cell (World.block_lt_of_cell? w _ (h2 i hi))).trans (h2 i hi)⟩
/-- the marks, when the first k numbers have been seen -/
def SeenM (l : List Int) (n k : Nat) (M : List Bool) : Prop := M.length = n ∧ ∀ i, i < n → M.getD i false = decide ((i : Int) ∈ l.take k)
theorem SeenM.nil (l : List Int) (n : Nat) : SeenM l n 0 (List.replicate n false) := ⟨by simp, fun i hi => by simp [List.getD_eq_getElem?_getD, hi]⟩
theorem mem_next {l : List Int} {k : Nat} {x y : Int} (hx : l[k]? = some x) : y ∈ l.take (k + 1) ↔ y ∈ l.take k ∨ y = x := by
  rw [List.take_add_one, hx, Option.toList_some, List.mem_append, List.mem_singleton]
theorem SeenM.skip {l : List Int} {n k : Nat} {M : List Bool} {x : Int} (h : SeenM l n k M) (hx : l[k]? = some x) (ho : x < 0 ∨ (n : Int) ≤ x) : SeenM l n (k + 1) M := by
  refine ⟨h.1, fun i hi => ?_⟩
  rw [h.2 i hi]
  apply decide_eq_decide.2
  rw [mem_next hx]
  exact ⟨.inl, fun h => h.elim id fun e => by omega⟩
theorem SeenM.mark {l : List Int} {n k j : Nat} {M : List Bool} (h : SeenM l n k M) (hx : l[k]? = some (j : Int)) (hj : j < n) : SeenM l n (k + 1) (M.set j true) := by
  refine ⟨by rw [List.length_set]; exact h.1, fun i hi => ?_⟩
  by_cases e : i = j
  · subst e
    rw [List.getD_eq_getElem?_getD, List.getElem?_set_self (by rw [h.1]; exact hi)]
    exact (decide_eq_true ((mem_next hx).2 (.inr rfl))).symm
  · rw [List.getD_eq_getElem?_getD, List.getElem?_set_ne (by omega), ← List.getD_eq_getElem?_getD, h.2 i hi]
    apply decide_eq_decide.2
    rw [mem_next hx]
    exact ⟨.inl, fun h => h.elim id fun e2 => by omega⟩
set_option maxRecDepth 100000 in
set_option maxHeartbeats 2000000 in
theorem amongL_any {p n i : Nat} {l : List Int} {w : World} (M : MarkS w p n l) (hi : i < n) :
    Calls Try.prog 76 #[.int .i64 (i : Int), .pointer (some ⟨p, 0, none⟩)] w fun e w' => e = .returned (.bool (decide ((i : Int) ∈ l))) ∧ w = w' := by
  obtain ⟨g, h1, h2⟩ := M
  have h3 := h2 i hi
  have hiI : (i : Int) < (n : Int) := by omega
  obtain ⟨b, hb⟩ : ∃ b, decide ((i : Int) ∈ l) = b := ⟨_, rfl⟩
  rw [hb] at h3 ⊢
  clear h2 hb
  go_enter Try.func76, Try.ntmps76
  go_wp2
  go_ret
  exact ⟨rfl, rfl⟩
set_option maxRecDepth 100000 in
set_option maxHeartbeats 2000000 in
theorem among_any {u : Value} {l : List Int} {a : Option Addr} {ca : Nat} {w : World} (n : Nat) (A : ArgS w u l a ca) (hn : n ≤ 17592186044416) (hl : l.length ≤ 17592186044416) :
    Calls Try.prog 68 #[u, .int .i64 (n : Int)] w fun e w' => ∃ p, e = .returned (.func (.func 76) #[] #[.pointer (some ⟨p, 0, none⟩)]) ∧ MarkS w' p n l ∧ Below w.heap.size w w' := by
  have HA := Lib.hid A
  obtain rfl := A.is
  obtain ⟨L, hL⟩ : ∃ L, l.length = L := ⟨_, rfl⟩
  have HL := Lib.hid hL
  have hmk := make_runM n hn
  have hmf : ∀ (fn : Fn) (first cap : Array Value) (w : World), (Instr.makeFunc fn first cap).run Try.prog w = .ok (.func fn first cap) w := fun _ _ _ _ => rfl
  rw [hL] at hl ⊢
  clear A hL
  go_enter Try.func68, Try.ntmps68
  go_wp2
  have hb0 : Below w.heap.size w ((w.alloc (.cells (madeCells #[.bool false] n) 4)).alloc (.cells #[.slice (some ⟨w.heap.size, 0, none⟩) n n] 103)) := ((Below.refl _ w).alloc (Nat.le_refl _) _).alloc (by simp) _
  have hm0 : MrkS ((w.alloc (.cells (madeCells #[.bool false] n) 4)).alloc (.cells #[.slice (some ⟨w.heap.size, 0, none⟩) n n] 103)) w.heap.size (List.replicate n false) := (MrkS.made w n).alloc _
  have hc0 : ((w.alloc (.cells (madeCells #[.bool false] n) 4)).alloc (.cells #[.slice (some ⟨w.heap.size, 0, none⟩) n n] 103)).cell? ⟨w.heap.size + 1, 0, none⟩ = some (.slice (some ⟨w.heap.size, 0, none⟩) n n) := by
    simp
  have HB0 := Lib.hid hb0
  have HM0 := Lib.hid hm0
  have HC0 := Lib.hid hc0
  clear hb0 hm0 hc0
  go_loopw [7, 12] (fun _ i wr => ∃ (k : Nat) (M : List Bool), i = .int .i64 (k : Int) ∧ k ≤ L ∧ MrkS wr w.heap.size M ∧ SeenM l n k M ∧ wr.cell? ⟨w.heap.size + 1, 0, none⟩ = some (.slice (some ⟨w.heap.size, 0, none⟩) n n) ∧ Below w.heap.size w wr) (fun _ i _ => L - (intOf i).toNat)
  case atStart => exact ⟨0, _, rfl, Nat.zero_le _, HM0.out, SeenM.nil l n, HC0.out, HB0.out⟩
  case round =>
    obtain ⟨k, M, rfl, hk, hM, hS, hc, hb⟩ := hrel
    have hsz := hb.size
    have HMK := Lib.hid hM
    have HS := Lib.hid hS
    have HCC := Lib.hid hc
    by_cases hlt : k < L
    · obtain ⟨b1, o1, rfl, c1⟩ := (HA.out.later hb).at (i := k) (by rw [HL.out]; exact hlt)
      have hxx := getD_some (xs := l) (k := k) (by rw [HL.out]; exact hlt)
      obtain ⟨x, hxe⟩ : ∃ x, l.getD k 0 = x := ⟨_, rfl⟩
      rw [hxe] at c1 hxx
      have HX := Lib.hid hxx
      have hbw := below_any x (n : Int) wr
      have hltI : (k : Int) < (L : Int) := by omega
      clear hxx hxe hS
      by_cases hg : 0 ≤ x ∧ x < n
      · obtain ⟨g0, g1⟩ := hg
        rw [belowB_yes g0 g1] at hbw
        obtain ⟨j, rfl⟩ : ∃ j : Nat, x = (j : Int) := ⟨x.toNat, by omega⟩
        have hj : j < n := by omega
        have hf := hM.free j
        have hcj := hM.cell j (by rw [HS.out.1]; exact hj)
        clear hM
        go_wp2_with (go_at_call 66; refine hbw.mono ?_; rintro e w1 ⟨rfl, rfl⟩)
        go_roundw
        case rel =>
          refine ⟨k + 1, _, by go_num, by omega, HMK.out.set j true, HS.out.mark HX.out hj, ?_, ?_⟩
          · rw [World.cell?_of_block (Below.heap_setCell _ _ _ _ (by show w.heap.size + 1 ≠ w.heap.size; omega))]; exact HCC.out
          · exact hb.setCell (Nat.le_refl _) _
        case measure => simp [intOf]; omega
      · rw [belowB_no (by omega)] at hbw
        clear hM
        go_wp2_with (go_at_call 66; refine hbw.mono ?_; rintro e w1 ⟨rfl, rfl⟩)
        go_roundw
        case rel => exact ⟨k + 1, M, by go_num, by omega, HMK.out, HS.out.skip HX.out (by omega), HCC.out, hb⟩
        case measure => simp [intOf]; omega
    · obtain rfl : k = L := by omega
      have hltI : ¬ (k : Int) < (k : Int) := by omega
      clear hM hS hc
      go_wp2
      go_ret
      refine ⟨_, rfl, ⟨_, HCC.out, fun i hi => ?_⟩, hb⟩
      have h1 := HMK.out.cell i (by rw [HS.out.1]; exact hi)
      have h2 := HS.out.2 i hi
      rw [take_all HL.out] at h2
      rw [h1, h2]
set_option maxRecDepth 100000 in
set_option maxHeartbeats 4000000 in
theorem dropC_any {u v : Value} {xs ys : List Int} {a b : Option Addr} {ca cb : Nat} {w : World} (A : ArgS w u xs a ca) (B : ArgS w v ys b cb) (ha : a = none → ca = 0) (hb : b = none → cb = 0) (hx : xs.length ≤ 17592186044416) (hy : ys.length ≤ 17592186044416) :
    Calls Try.prog 45 #[u, v] w fun e w' => ∃ r, e = .returned r ∧ ResS w.heap.size w' r (dropS xs ys) ∧ Below w.heap.size w w' := by
  obtain ⟨i0, hi, hz0, hz1, hz2⟩ := info_parts infoS
  have hms := among_any xs.length B hx hy
  have HA := Lib.hid A
  obtain rfl := A.is
  obtain rfl := B.is
  obtain ⟨L, hL⟩ : ∃ L, xs.length = L := ⟨_, rfl⟩
  obtain ⟨T, hT⟩ : ∃ T, ys.length = T := ⟨_, rfl⟩
  obtain ⟨r, hr⟩ : ∃ r, dropS xs ys = r := ⟨_, rfl⟩
  have HL := Lib.hid hL
  have hr2 : dropL xs ys L = r := by rw [← hr]; unfold dropS; rw [hL]
  have HR := Lib.hid hr2
  have hmk : ∀ w : World, (Instr.makeSlice 28 (.int .i64 0) (.int .i64 (L : Int))).run Try.prog w = .ok (.slice (some ⟨w.heap.size, 0, none⟩) 0 L) (w.alloc (.cells (madeCells #[.int .i64 0] L) 3)) := make_runH 0 L (Nat.zero_le _) (by omega)
  rw [hL] at hx hms
  rw [hT] at hms
  rw [hL, hT, hr]
  clear A B ha hb hL hT hr hr2 hy
  go_enter Try.func45, Try.ntmps45
  go_wp2_with (go_at_call 68; refine hms.mono ?_; rintro e w1 ⟨p, rfl, hM1, hb1⟩)
  have hbA : Below w1.heap.size w1 (w1.alloc (.cells (madeCells #[.int .i64 0] L) 3)) := (Below.refl _ w1).alloc (Nat.le_refl _) _
  have hRA : ResS w1.heap.size (w1.alloc (.cells (madeCells #[.int .i64 0] L) 3)) (.slice (some ⟨w1.heap.size, 0, none⟩) 0 L) [] := by
    have h := NumS.ofBlk (BlkS.made w1 L) (Nat.le_refl _) 0 (Nat.zero_le _) (by rw [List.length_replicate]; unfold maxLen; omega)
    rw [List.length_replicate, List.take_zero] at h
    exact ⟨h, Wid.nil⟩
  have HMA := Lib.hid hM1
  have HBA := Lib.hid hbA
  have HRA := Lib.hid hRA
  have hs1 := hb1.size
  clear hM1 hbA hRA hms hmk
  go_loopw [6, 7, 8, 18] (fun s _ _ i wr => ∃ (k : Nat) (zs : List Int), i = .int .i64 (k : Int) ∧ k ≤ L ∧ ResS w1.heap.size wr s zs ∧ zs.length ≤ k ∧ dropL xs ys k = zs ∧ Below w1.heap.size w1 wr) (fun _ _ _ i _ => L - (intOf i).toNat)
  case atStart => exact ⟨0, [], rfl, Nat.zero_le _, HRA.out, Nat.le_refl _, rfl, HBA.out⟩
  case round =>
    obtain ⟨k, zs, rfl, hkL, R, hzl, hz, hb⟩ := hrel
    have hsz := hb.size
    have HZ := Lib.hid hz
    clear hz
    by_cases hlt : k < L
    · have hk := amongL_any (HMA.out.later hb) hlt
      have hltI : (k : Int) < (L : Int) := by omega
      obtain ⟨b1, o1, rfl, hc1⟩ := (HA.out.later (hb1.trans (hb.mono hs1))).at (i := k) (by rw [HL.out]; exact hlt)
      have hwx := HA.out.wf.getD k
      obtain ⟨x, hxe⟩ : ∃ x, xs.getD k 0 = x := ⟨_, rfl⟩
      rw [hxe] at hc1 hwx
      have HW := Lib.hid hwx
      have HRES := Lib.hid R
      have hrow : wr.ownsRow w1.heap.size 3 1 _ zs.length (zs.map (Value.int .i64)) := R.num
      by_cases hm : (k : Int) ∈ ys
      · rw [decide_eq_true hm] at hk
        have hst : dropL xs ys (k + 1) = zs := by simp only [dropL]; rw [if_pos hm, HZ.out, List.append_nil]
        have HST := Lib.hid hst
        clear hm hst hxe hwx R
        go_wp2_with fail
        refine hk.mono ?_
        rintro e w3 ⟨rfl, rfl⟩
        go_wp2
        go_roundw
        case rel => exact ⟨k + 1, zs, by go_num, by omega, HRES.out, by omega, HST.out, hb⟩
        case measure => simp [intOf]; omega
      · rw [decide_eq_false hm] at hk
        have hst : dropL xs ys (k + 1) = zs ++ [x] := by simp only [dropL]; rw [if_neg hm, HZ.out, hxe]
        have HST := Lib.hid hst
        clear hm hst hxe hwx R
        go_wp2_with fail
        refine hk.mono ?_
        rintro e w3 ⟨rfl, rfl⟩
        go_wp2_with (at_builtin; refine wpList_append_own _ rfl _ _ 28 rfl w1.heap.size 3 i0 (.int .i64 0) 1 8 Try.underlying28 hi hz0 hz1 hz2 rfl (by decide) _ _ _ rfl (hrow.alloc _) ⟨wr.heap.size, 0, none⟩ 1 1 [.int .i64 x] rfl rfl (cell_one_new _ _ _) (by simp [Value.oneCell']) (by unfold maxLen; omega) (by omega) (by simp; omega) ?_; intro v' w4 hown' hgrow _)
        go_roundw
        case rel =>
          obtain ⟨hn, hbw⟩ := pushS hb hsz HRES.out.num hown' hgrow
          exact ⟨k + 1, zs ++ [x], by go_num, by omega, ⟨hn, HRES.out.wf.append (Wid.one HW.out)⟩, by rw [List.length_append]; simp only [List.length_cons, List.length_nil]; omega, HST.out, hbw⟩
        case measure => simp [intOf]; omega
    · obtain rfl : k = L := by omega
      have hltI : ¬ (k : Int) < (k : Int) := by omega
      have HRES := Lib.hid R
      clear R
      go_wp2
      go_ret
      exact ⟨_, rfl, by rw [← HR.out, HZ.out]; exact HRES.out.mono hs1, hb1.trans (hb.mono hs1)⟩
theorem set_midS {A : List Int} {L k : Nat} (h : A.length = k) (hk : k < L) (x : Int) : (A ++ List.replicate (L - k) 0).set k x = A ++ [x] ++ List.replicate (L - (k + 1)) 0 := by
  rw [show L - k = (L - (k + 1)) + 1 by omega, List.replicate_succ, List.set_append_right _ _ (by omega), h, Nat.sub_self, List.set_cons_zero, List.append_assoc]
  rfl
theorem onesL_wid {xs : List Int} (ys : List Int) (h : Wid xs) (j : Nat) : Wid (onesL xs ys j) := by
  induction j with
  | zero => exact Wid.nil
  | succ j ih =>
    simp only [onesL]
    refine ih.append (Wid.one ?_)
    by_cases hm : (j : Int) ∈ ys
    · rw [if_pos hm]; omega
    · rw [if_neg hm]; exact h.getD j
set_option maxRecDepth 100000 in
set_option maxHeartbeats 4000000 in
theorem onesC_any {u v : Value} {xs ys : List Int} {a b : Option Addr} {ca cb : Nat} {w : World} (A : ArgS w u xs a ca) (B : ArgS w v ys b cb) (ha : a = none → ca = 0) (hb : b = none → cb = 0) (hx : xs.length ≤ 17592186044416) (hy : ys.length ≤ 17592186044416) :
    Calls Try.prog 65 #[u, v] w fun e w' => ∃ r, e = .returned r ∧ ResS w.heap.size w' r (onesS xs ys) ∧ Below w.heap.size w w' := by
  have hms := among_any xs.length B hx hy
  have HA := Lib.hid A
  obtain rfl := A.is
  obtain rfl := B.is
  obtain ⟨L, hL⟩ : ∃ L, xs.length = L := ⟨_, rfl⟩
  obtain ⟨T, hT⟩ : ∃ T, ys.length = T := ⟨_, rfl⟩
  obtain ⟨r, hr⟩ : ∃ r, onesS xs ys = r := ⟨_, rfl⟩
  have HL := Lib.hid hL
  have hr2 : onesL xs ys L = r := by rw [← hr]; unfold onesS; rw [hL]
  have HR := Lib.hid hr2
  have hmk := make_runH L L (Nat.le_refl _) (by omega)
  rw [hL] at hx hms
  rw [hT] at hms
  rw [hL, hT, hr]
  clear A B ha hb hL hT hr hr2 hy
  go_enter Try.func65, Try.ntmps65
  go_wp2_with (go_at_call 68; refine hms.mono ?_; rintro e w1 ⟨p, rfl, hM1, hb1⟩)
  have hbA : Below w1.heap.size w1 (w1.alloc (.cells (madeCells #[.int .i64 0] L) 3)) := (Below.refl _ w1).alloc (Nat.le_refl _) _
  have hRA : PartS (w1.alloc (.cells (madeCells #[.int .i64 0] L) 3)) w1.heap.size L (List.replicate L 0) := by
    have h := BlkS.made w1 L
    exact ⟨_, h, by simp, by simp, by simp⟩
  have HMA := Lib.hid hM1
  have HBA := Lib.hid hbA
  have HRA := Lib.hid hRA
  have hs1 := hb1.size
  clear hM1 hbA hRA hms hmk
  go_loopw [7, 8, 18] (fun _ _ i wr => ∃ (k : Nat), i = .int .i64 (k : Int) ∧ k ≤ L ∧ PartS wr w1.heap.size L (onesL xs ys k ++ List.replicate (L - k) 0) ∧ Below w1.heap.size w1 wr) (fun _ _ i _ => L - (intOf i).toNat)
  case atStart => exact ⟨0, rfl, Nat.zero_le _, HRA.out, HBA.out⟩
  case round =>
    obtain ⟨k, rfl, hkL, hP, hb⟩ := hrel
    have hsz := hb.size
    have HP := Lib.hid hP
    have hPl := hP.lt
    by_cases hlt : k < L
    · have hltI : (k : Int) < (L : Int) := by omega
      obtain ⟨b1, o1, rfl, hc1⟩ := (HA.out.later (hb1.trans (hb.mono hs1))).at (i := k) (by rw [HL.out]; exact hlt)
      have hwx := HA.out.wf.getD k
      have hf := hP.free k
      have hck := hP.cell k (by rw [List.length_append, onesL_len, List.length_replicate]; omega)
      obtain ⟨x, hxe⟩ : ∃ x, xs.getD k 0 = x := ⟨_, rfl⟩
      rw [hxe] at hc1 hwx
      have HXE := Lib.hid hxe
      have HW := Lib.hid hwx
      have hP1 := hP.set k (by rw [List.length_append, onesL_len, List.length_replicate]; omega) x
      have hb2 : Below w1.heap.size w1 (wr.setCell ⟨w1.heap.size, k, none⟩ (.int .i64 x)) := hb.setCell (Nat.le_refl _) _
      have hk := amongL_any (HMA.out.later hb2) hlt
      have hf1 := hP1.free k
      have hck1 := hP1.cell k (by rw [List.length_set, List.length_append, onesL_len, List.length_replicate]; omega)
      have HP1 := Lib.hid hP1
      have HB2 := Lib.hid hb2
      clear hxe hwx hP hP1 hb2
      by_cases hm : (k : Int) ∈ ys
      · rw [decide_eq_true hm] at hk
        have hst : onesL xs ys (k + 1) = onesL xs ys k ++ [1] := by simp only [onesL]; rw [if_pos hm]
        have HST := Lib.hid hst
        clear hm hst
        go_wp2_with fail
        refine hk.mono ?_
        rintro e w3 ⟨rfl, rfl⟩
        go_wp2
        go_roundw
        case rel =>
          refine ⟨k + 1, by go_num, by omega, ?_, HB2.out.setCell (Nat.le_refl _) _⟩
          have h := HP1.out.set k (by rw [List.length_set, List.length_append, onesL_len, List.length_replicate]; omega) 1
          rw [List.set_set, set_midS (onesL_len _ _ _) hlt] at h
          rw [HST.out]
          exact h
        case measure => simp [intOf]; omega
      · rw [decide_eq_false hm] at hk
        have hst : onesL xs ys (k + 1) = onesL xs ys k ++ [x] := by simp only [onesL]; rw [if_neg hm, HXE.out]
        have HST := Lib.hid hst
        clear hm hst
        go_wp2_with fail
        refine hk.mono ?_
        rintro e w3 ⟨rfl, rfl⟩
        go_wp2
        go_roundw
        case rel =>
          refine ⟨k + 1, by go_num, by omega, ?_, HB2.out⟩
          have h := HP1.out
          rw [set_midS (onesL_len _ _ _) hlt] at h
          rw [HST.out]
          exact h
        case measure => simp [intOf]; omega
    · obtain rfl : k = L := by omega
      have hltI : ¬ (k : Int) < (k : Int) := by omega
      clear hP
      go_wp2
      go_ret
      have hp := HP.out
      rw [Nat.sub_self, List.replicate_zero, List.append_nil, HR.out] at hp
      have hrl : r.length = k := by rw [← HR.out]; exact onesL_len _ _ _
      have hn := hp.num (Nat.le_refl _) (by unfold maxLen; omega)
      rw [hrl] at hn
      refine ⟨_, rfl, ⟨hn.mono hs1, ?_⟩, hb1.trans (hb.mono hs1)⟩
      rw [← HR.out]
      exact onesL_wid ys HA.out.wf _
end
section
open Go.RowKit
set_option linter.unusedVariables false
set_option linter.unusedSimpArgs false
/-- an operation's row: its name, versions, numbers of arguments, up to which version attributes may be left out -/
structure OpR where
  name : ByteArray
  vl : Int
  vh : Int
  al : Int
  ah : Int
  lo : Int
def noO : OpR := ⟨⟨#[]⟩, 0, 0, 0, 0, 0⟩
def opsO : List OpR := [⟨⟨#[]⟩, 0, 0, 0, 0, 0⟩,
  ⟨⟨#[97, 100, 100]⟩, 1, 3, 2, 2, 0⟩,
  ⟨⟨#[115, 117, 98]⟩, 1, 3, 2, 2, 0⟩,
  ⟨⟨#[109, 117, 108]⟩, 1, 3, 2, 2, 0⟩,
  ⟨⟨#[100, 105, 118]⟩, 1, 3, 2, 2, 0⟩,
  ⟨⟨#[110, 101, 103]⟩, 1, 3, 1, 1, 0⟩,
  ⟨⟨#[112, 111, 119]⟩, 1, 3, 1, 1, 1⟩,
  ⟨⟨#[114, 101, 108, 117]⟩, 1, 3, 1, 1, 0⟩,
  ⟨⟨#[115, 116, 101, 112]⟩, 3, 3, 1, 1, 0⟩,
  ⟨⟨#[115, 99, 97, 108, 101]⟩, 3, 3, 1, 1, 0⟩,
  ⟨⟨#[109, 97, 116, 109, 117, 108]⟩, 1, 3, 2, 2, 0⟩,
  ⟨⟨#[116, 114, 97, 110, 115, 112, 111, 115, 101]⟩, 1, 3, 1, 1, 1⟩,
  ⟨⟨#[114, 101, 115, 104, 97, 112, 101]⟩, 1, 3, 1, 1, 0⟩,
  ⟨⟨#[98, 114, 111, 97, 100, 99, 97, 115, 116]⟩, 1, 3, 1, 1, 0⟩,
  ⟨⟨#[115, 117, 109]⟩, 1, 3, 1, 1, 2⟩,
  ⟨⟨#[115, 108, 105, 99, 101]⟩, 1, 3, 1, 1, 0⟩,
  ⟨⟨#[112, 97, 100]⟩, 1, 3, 1, 1, 0⟩,
  ⟨⟨#[99, 111, 110, 99, 97, 116]⟩, 1, 3, 1, 8, 1⟩,
  ⟨⟨#[115, 113, 117, 97, 114, 101]⟩, 1, 1, 1, 1, 0⟩,
  ⟨⟨#[103, 101, 109, 109]⟩, 1, 2, 3, 3, 0⟩,
  ⟨⟨#[109, 101, 97, 110]⟩, 1, 2, 1, 1, 2⟩]
def inO (o : Int) : Bool := decide (1 ≤ o ∧ o ≤ 20)
def rowO (o : Int) : OpR := opsO.getD (if inO o = true then o.toNat else 0) noO
theorem rowO_nat {k : Nat} (h : k < 20) : inO ((k : Int) + 1) = true ∧ rowO ((k : Int) + 1) = opsO.getD (k + 1) noO := by
  have h1 : inO ((k : Int) + 1) = true := decide_eq_true ⟨by omega, by omega⟩
  refine ⟨h1, ?_⟩
  unfold rowO
  rw [if_pos h1]
  rfl
theorem rowO_out {o : Int} (h : inO o = false) : rowO o = noO := by
  unfold rowO
  rw [if_neg (by rw [h]; simp)]
  rfl
theorem inO_nat {o : Int} (h : inO o = true) : ∃ k : Nat, k < 20 ∧ o = (k : Int) + 1 := by
  have := of_decide_eq_true h
  exact ⟨(o - 1).toNat, by omega, by omega⟩
/-- which attributes fit -/
def oneB (m : Int) (xs : List Int) : Bool := decide (xs.length = 1 ∧ 0 ≤ xs.getD 0 0 ∧ xs.getD 0 0 ≤ m)
def copB (p q : Int) : Bool := decide (Int.gcd p q = 1)
def fracB (xs : List Int) : Bool := decide (xs.length = 2 ∧ 1 ≤ xs.getD 1 0) && copB (xs.getD 0 0) (xs.getD 1 0)
def perB (xs : List Int) : Bool := decide (xs.length ≤ 4) && permB xs xs.length
def shB (xs : List Int) : Bool := decide (mayC xs = 0)
def pairsB (f : Int → Int → Bool) (xs : List Int) : Bool := decide (xs.length % 2 = 0 ∧ xs.length ≤ 8 ∧ ∀ k, k < xs.length → 2 * k + 1 < xs.length → f (xs.getD (2 * k) 0) (xs.getD (2 * k + 1) 0) = true)
def slB (a b : Int) : Bool := decide (0 ≤ a ∧ a < b)
def paB (a b : Int) : Bool := decide (0 ≤ a ∧ 0 ≤ b)
def noB (xs : List Int) : Bool := decide (xs.length = 0)
def fitO (o : Int) (xs : List Int) : Bool :=
  if o = 6 then oneB 16 xs else if o = 9 then fracB xs else if o = 11 then perB xs else if o = 12 ∨ o = 13 then shB xs else if o = 14 ∨ o = 20 then axesB xs 4
  else if o = 15 then pairsB slB xs else if o = 16 then pairsB paB xs else if o = 17 then oneB 3 xs else noB xs
def bndB (xs : List Int) : Bool := xs.all fun x => decide (-2147483647 ≤ x ∧ x ≤ 2147483647)
def attB (o : Int) (xs : List Int) : Bool := bndB xs && fitO o xs
def leaveB (o v : Int) (xs : List Int) : Bool := decide (xs.length = 0 ∧ v ≤ (rowO o).lo)
def verO (o v : Int) : Bool := inO o && decide ((rowO o).vl ≤ v ∧ v ≤ (rowO o).vh)
def chkO (v o : Int) (n : Nat) (xs : List Int) : Int :=
  if ¬ (1 ≤ v ∧ v ≤ 3) then 8 else if verO o v = false then 9 else if ¬ ((rowO o).al ≤ (n : Int) ∧ (n : Int) ≤ (rowO o).ah) then 10 else if leaveB o v xs = false ∧ attB o xs = false then 11 else 0
/-- what none means -/
def fwdI (r : Int) : List Int := (List.range r.toNat).map fun i : Nat => (i : Int)
def bwdI (r : Int) : List Int := (List.range r.toNat).map fun i : Nat => r - 1 - (i : Int)
def meantO (o r : Int) : List Int := if o = 6 then [2] else if o = 17 then [0] else if o = 11 then bwdI r else fwdI r
def rkI (r : Int) : Int := if 0 ≤ r ∧ r ≤ 4 then r else 0
def expO (v o : Int) (n : Nat) (xs : List Int) (r : Int) : List Int := if chkO v o n xs = 0 ∧ leaveB o v xs = true then meantO o (rkI r) else xs
theorem rkI_in (r : Int) : 0 ≤ rkI r ∧ rkI r ≤ 4 := by unfold rkI; split <;> omega
theorem fwdI_len (r : Int) : (fwdI r).length = r.toNat := by simp [fwdI]
theorem bwdI_len (r : Int) : (bwdI r).length = r.toNat := by simp [bwdI]
theorem meantO_wid (o : Int) {r : Int} (h0 : 0 ≤ r) (h4 : r ≤ 4) : Wid (meantO o r) := fun x hx => by
  unfold meantO at hx
  split at hx
  · simp at hx; omega
  · split at hx
    · simp at hx; omega
    · split at hx
      · unfold bwdI at hx
        obtain ⟨i, hi, rfl⟩ := List.mem_map.1 hx
        have := List.mem_range.1 hi
        omega
      · unfold fwdI at hx
        obtain ⟨i, hi, rfl⟩ := List.mem_map.1 hx
        have := List.mem_range.1 hi
        omega
/-- what none means fits -/
theorem meantO_fits {k : Nat} (hk : k < 20) {r : Nat} (hr : r < 5) (hl : 1 ≤ (rowO ((k : Int) + 1)).lo) : attB ((k : Int) + 1) (meantO ((k : Int) + 1) (r : Int)) = true := by
  revert hl
  exact (by decide +kernel : ∀ k : Nat, k < 20 → ∀ r : Nat, r < 5 → 1 ≤ (rowO ((k : Int) + 1)).lo → attB ((k : Int) + 1) (meantO ((k : Int) + 1) (r : Int)) = true) k hk r hr
theorem onward {v o r : Int} {n : Nat} {xs : List Int} (h : chkO v o n xs = 0) {v' : Int} (h1 : v ≤ v') (h3 : v' ≤ 3) (hv : verO o v' = true) : chkO v' o n (expO v o n xs r) = 0 := by
  have h' := h
  unfold chkO at h
  split at h
  · cases h
  rename_i c1
  split at h
  · cases h
  split at h
  · cases h
  rename_i c2 c3
  split at h
  · cases h
  rename_i c4
  have hatt : attB o (expO v o n xs r) = true := by
    unfold expO
    by_cases hl : leaveB o v xs = true
    · rw [if_pos ⟨h', hl⟩]
      have hin : inO o = true := by
        unfold verO at hv
        rw [Bool.and_eq_true] at hv
        exact hv.1
      obtain ⟨k, hk, rfl⟩ := inO_nat hin
      have h5 := of_decide_eq_true hl
      obtain ⟨i0, i4⟩ := rkI_in r
      obtain ⟨m, hm⟩ : ∃ m : Nat, rkI r = (m : Int) := ⟨(rkI r).toNat, by omega⟩
      rw [hm]
      exact meantO_fits hk (by omega) (by omega)
    · rw [if_neg (fun h => hl h.2)]
      cases ha : attB o xs with
      | true => rfl
      | false => exact absurd ⟨by simpa using hl, ha⟩ c4
  unfold chkO
  rw [if_neg (by omega), if_neg (by rw [hv]; simp), if_neg c3, if_neg (fun h => by rw [hatt] at h; cases h.2)]
end
section
open Go.RowKit
set_option linter.unusedVariables false
set_option linter.unusedSimpArgs false
set_option maxRecDepth 100000 in
set_option maxHeartbeats 4000000 in
theorem allV_any (w : World) : Calls Try.prog 60 #[] w fun e w' => e = .returned (.agg #[.int .i64 1, .int .i64 3]) ∧ Below w.heap.size w w' := by
  obtain ⟨W, hW⟩ : ∃ W, w.alloc (.cells #[.int .i64 0, .int .i64 0] 62) = W := ⟨_, rfl⟩
  have R : Row W w.heap.size 62 #[.int .i64 0, .int .i64 0] := by rw [← hW]; exact Row.new _ _ _
  have hb : Below w.heap.size w W := by rw [← hW]; exact (Below.refl _ _).alloc (Nat.le_refl _) _
  obtain ⟨c0, c1, f0, f1⟩ := R.two
  obtain ⟨z0, z1, _, _⟩ := (R.set2 (.int .i64 1) (.int .i64 3)).two
  have hE := below_set2 hb (Nat.le_refl _) (.int .i64 1) (.int .i64 3)
  go_enter Try.func60, Try.ntmps60
  (try rw [hW])
  go_wp2_with fail
  exact bodyPost_ret (v := .agg #[.int .i64 1, .int .i64 3]) (by simp [results, Try.results60, go_sem, z0, z1]) rfl ⟨rfl, hE⟩
/-- is a number from low to high? -/
def hasB (a b n : Int) : Bool := decide (a ≤ n ∧ n ≤ b)
set_option maxRecDepth 100000 in
set_option maxHeartbeats 4000000 in
theorem has_any (a b n : Int) (w : World) : Calls Try.prog 61 #[.agg #[.int .i64 a, .int .i64 b], .int .i64 n] w fun e w' => e = .returned (.bool (hasB a b n)) ∧ Below w.heap.size w w' := by
  obtain ⟨c, hc⟩ : ∃ c, hasB a b n = c := ⟨_, rfl⟩
  rw [hc]
  obtain ⟨W, hW⟩ : ∃ W, w.alloc (.cells #[.int .i64 a, .int .i64 b] 62) = W := ⟨_, rfl⟩
  have R : Row W w.heap.size 62 #[.int .i64 a, .int .i64 b] := by rw [← hW]; exact Row.new _ _ _
  have hb : Below w.heap.size w W := by rw [← hW]; exact (Below.refl _ _).alloc (Nat.le_refl _) _
  obtain ⟨c0, c1, _, _⟩ := R.two
  by_cases h1 : a ≤ n
  · by_cases h2 : n ≤ b
    · obtain rfl : c = true := by rw [← hc]; unfold hasB; exact decide_eq_true (by omega)
      clear hc
      go_enter Try.func61, Try.ntmps61
      (try rw [hW])
      go_wp2_with fail
      go_ret
      exact ⟨rfl, hb⟩
    · obtain rfl : c = false := by rw [← hc]; unfold hasB; exact decide_eq_false (by omega)
      clear hc
      go_enter Try.func61, Try.ntmps61
      (try rw [hW])
      go_wp2_with fail
      go_ret
      exact ⟨rfl, hb⟩
  · obtain rfl : c = false := by rw [← hc]; unfold hasB; exact decide_eq_false (by omega)
    clear hc
    go_enter Try.func61, Try.ntmps61
    (try rw [hW])
    go_wp2_with fail
    go_ret
    exact ⟨rfl, hb⟩
end
end Go.Proofs.Ytdcggcfgkhlblaa
