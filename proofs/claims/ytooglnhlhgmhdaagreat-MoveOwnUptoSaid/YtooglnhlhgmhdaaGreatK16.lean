/-
  Package shape as it landed: grown, Fits, Grown.
-/
import Derived.Test.YtooglnhlhgmhdaaGreatK1
import Derived.Test.YtooglnhlhgmhdaaGreatK2
import Derived.Test.YtooglnhlhgmhdaaGreatK3
import Derived.Test.YtooglnhlhgmhdaaGreatK5
import Derived.Test.YtooglnhlhgmhdaaGreatK7
import Derived.Test.YtooglnhlhgmhdaaGreatK11
import Derived.Test.YtooglnhlhgmhdaaGreatK12
import Derived.Test.YtooglnhlhgmhdaaGreatK13
import Derived.WalkKit
import Derived.Test.YtooglnhlhgmhdaaGreatRows
import Derived.BigQuiet
import Derived.Deep.QuietTactic
import Derived.Lib.Hide
import Derived.Lib.Small
import Derived.Lib.Walk
import Derived.Lib.BitFns
import Derived.Maps.AppendAt
import Derived.RangeFuncNested
import Derived.RangeFuncBound
import Derived.RangeFuncCalls
import Derived.RangeFuncLeaves
import Derived.Shelf.Abstract
import Derived.OwnWalkIn
import Derived.TacticsInMore
import Derived.LoopNIn
import Derived.LoopIn
import Derived.RangeFuncBox
import Derived.Deep.RegionHeld3
import Derived.OrdersIn
import Derived.StillTailTactics
import Derived.RangeFuncFrom
import Derived.Laws.EntriesVeiled
import Derived.ProofKit
import Derived.OpenShut
import Derived.JoinedCond
import Derived.Carry
import Derived.Laws.AppendOwnNone
import Derived.Lib.ItoaNum
import Derived.Deep.RegionLaw
import Derived.WalkMore
import Derived.Lib.SmallJoins
import Derived.IntWalk
import Derived.Deep.DeepCutAuto
namespace Go.Proofs.YtooglnhlhgmhdaaGreat
set_option maxRecDepth 100000
section
open Go.RowKit
set_option linter.unusedVariables false
set_option linter.unusedSimpArgs false
set_option maxRecDepth 100000 in
set_option maxHeartbeats 2000000 in
theorem mayR6_any {u : Value} {xs : List Int} {ad : Option Addr} {cap : Nat} {w : World} (A : ArgS w u xs ad cap) :
    Calls Tryz.prog 55 #[u] w fun e w' => e = .returned (.int .i64 (mayC xs)) ∧ w = w' := by
  have HA := Lib.hid A
  obtain rfl := A.is
  obtain ⟨L, hL⟩ : ∃ L, xs.length = L := ⟨_, rfl⟩
  have HL := Lib.hid hL
  obtain ⟨c, hc⟩ : ∃ c, mayC xs = c := ⟨_, rfl⟩
  have HC := Lib.hid hc
  rw [hL, hc]
  clear A hL hc
  by_cases h4 : 4 < L
  · obtain rfl : c = 14 := by rw [← HC.out]; exact mayC_rank (by rw [HL.out]; exact h4)
    have h4I : (4 : Int) < (L : Int) := by omega
    go_enter Tryz.func55, Tryz.ntmps55
    go_wp2
    go_ret
    exact ⟨rfl, rfl⟩
  · have h4I : ¬ (4 : Int) < (L : Int) := by omega
    go_enter Tryz.func55, Tryz.ntmps55
    go_wp2
    go_loop [3] (fun i => ∃ k : Nat, i = .int .i64 (k : Int) ∧ k ≤ L ∧ posS (xs.take k)) (fun i => L - (intOf i).toNat)
    case atStart => exact ⟨0, rfl, Nat.zero_le _, fun x h => by simp at h⟩
    case round =>
      obtain ⟨k, rfl, hkL, hp⟩ := hrel
      have HP := Lib.hid hp
      clear hp
      by_cases hlt : k < L
      · obtain ⟨b, off, rfl, hc⟩ := HA.out.at (i := k) (by rw [HL.out]; exact hlt)
        have hx : xs[k]? = some (xs.getD k 0) := by rw [List.getD_eq_getElem?_getD, List.getElem?_eq_getElem (by rw [HL.out]; exact hlt)]; rfl
        obtain ⟨x, hxe⟩ : ∃ x, xs.getD k 0 = x := ⟨_, rfl⟩
        rw [hxe] at hc hx
        have HX := Lib.hid hx
        have hltI : (k : Int) < (L : Int) := by omega
        clear hxe hx
        by_cases h1 : x < 1
        · obtain rfl : c = 13 := by
            rw [← HC.out]
            refine mayC_dim (by rw [HL.out]; omega) fun hp => ?_
            have := hp x (List.mem_of_getElem? HX.out)
            omega
          go_wp2
          go_ret
          exact ⟨rfl, rfl⟩
        · go_wp2
          go_round
          case rel =>
            refine ⟨k + 1, by go_num, by omega, fun y hy => ?_⟩
            rw [List.take_add_one, HX.out, Option.toList_some] at hy
            rcases List.mem_append.1 hy with h | h
            · exact HP.out y h
            · rw [List.mem_singleton.1 h]; omega
          case measure => simp [intOf]; omega
      · obtain rfl : k = L := by omega
        have hpos : posS xs := by
          have := HP.out
          rwa [List.take_of_length_le (by rw [HL.out]; exact Nat.le_refl _)] at this
        have hltI : ¬ (k : Int) < (k : Int) := by omega
        have HQ := Lib.hid hpos
        clear hpos
        go_wp2
        go_loop [4, 5] (fun n i => ∃ j : Nat, i = .int .i64 (j : Int) ∧ j ≤ k ∧ n = .int .i64 (prodS (xs.take j)) ∧ prodS (xs.take j) ≤ 1024) (fun _ i => k - (intOf i).toNat)
        case atStart => exact ⟨0, rfl, Nat.zero_le _, rfl, by simp [prodS]⟩
        case round =>
          obtain ⟨j, rfl, hjk, rfl, hn⟩ := hrel
          have hn1 := prodS_pos (HQ.out.take j)
          obtain ⟨n, hne⟩ : ∃ n, prodS (xs.take j) = n := ⟨_, rfl⟩
          rw [hne] at hn hn1 ⊢
          by_cases hjl : j < k
          · obtain ⟨b, off, rfl, hc⟩ := HA.out.at (i := j) (by rw [HL.out]; exact hjl)
            have hx1 := HQ.out.getD (i := j) (by rw [HL.out]; exact hjl)
            have hst := prodS_take (s := xs) (k := j) (by rw [HL.out]; exact hjl)
            have hle := getD_le_prod HQ.out (k := j) (by rw [HL.out]; exact hjl)
            have hle2 := prodS_take_le HQ.out (j + 1)
            obtain ⟨x, hxe⟩ : ∃ x, xs.getD j 0 = x := ⟨_, rfl⟩
            rw [hxe] at hc hx1 hst hle
            rw [hne] at hst
            rw [hst] at hle2
            have HST := Lib.hid hst
            have HLE := Lib.hid hle
            have HLE2 := Lib.hid hle2
            have hjI : (j : Int) < (k : Int) := by omega
            clear hxe hne hst hle hle2
            by_cases hbig : 1024 < x
            · obtain rfl : c = 14 := by
                rw [← HC.out]
                exact mayC_count (by rw [HL.out]; omega) HQ.out (by have := HLE.out; omega)
              go_wp2
              go_ret
              exact ⟨rfl, rfl⟩
            · have hm0 : 0 ≤ n * x := Int.mul_nonneg (by omega) (by omega)
              have hm1 : n * x ≤ 1024 * 1024 := Int.mul_le_mul (by omega) (by omega) (by omega) (by omega)
              have hw : IntKind.i64.wrap (n * x) = n * x := IntWalk.i64_in _ (by omega)
              obtain ⟨m, hm⟩ : ∃ m, n * x = m := ⟨_, rfl⟩
              rw [hm] at hm0 hm1 hw
              have HM := Lib.hid hm
              by_cases hbig2 : 1024 < m
              · obtain rfl : c = 14 := by
                  rw [← HC.out]
                  exact mayC_count (by rw [HL.out]; omega) HQ.out (by have := HLE2.out; have := HM.out; omega)
                go_wp2
                go_ret
                exact ⟨rfl, rfl⟩
              · go_wp2
                go_round
                case rel => exact ⟨j + 1, by go_num, by omega, by rw [HST.out, HM.out], by rw [HST.out, HM.out]; omega⟩
                case measure => simp [intOf]; omega
          · obtain rfl : j = k := by omega
            obtain rfl : c = 0 := by
              rw [← HC.out]
              refine mayC_ok ⟨by rw [HL.out]; omega, HQ.out, ?_⟩
              rw [List.take_of_length_le (by rw [HL.out]; exact Nat.le_refl _)] at hne
              rw [hne]
              exact hn
            have hjI : ¬ (j : Int) < (j : Int) := by omega
            clear hne
            go_wp2
            go_ret
            exact ⟨rfl, rfl⟩
set_option maxRecDepth 100000 in
set_option maxHeartbeats 2000000 in
theorem countR6_any {u : Value} {xs : List Int} {ad : Option Addr} {cap : Nat} {w : World} (A : ArgS w u xs ad cap) :
    Calls Tryz.prog 66 #[u] w fun e w' => e = .returned (.int .i64 (countS xs)) ∧ w = w' := by
  have hm := mayR6_any A
  have HA := Lib.hid A
  obtain rfl := A.is
  by_cases h0 : mayC xs = 0
  · have ok := mayC_zero.1 h0
    rw [ok.count]
    rw [h0] at hm
    obtain ⟨L, hL⟩ : ∃ L, xs.length = L := ⟨_, rfl⟩
    have HL := Lib.hid hL
    obtain ⟨P, hP⟩ : ∃ P, prodS xs = P := ⟨_, rfl⟩
    have HP := Lib.hid hP
    rw [hL] at hm ⊢
    rw [hP]
    have HO := Lib.hid ok
    have h4 : L ≤ 4 := by rw [← hL]; exact ok.rank
    clear A hL hP ok h0
    go_enter Tryz.func66, Tryz.ntmps66
    go_wp2_with (go_at_call 55; refine hm.mono ?_; rintro e w1 ⟨rfl, rfl⟩)
    clear hm
    go_loop [3, 4] (fun n i => ∃ j : Nat, i = .int .i64 (j : Int) ∧ j ≤ L ∧ n = .int .i64 (prodS (xs.take j))) (fun _ i => L - (intOf i).toNat)
    case atStart => exact ⟨0, rfl, Nat.zero_le _, rfl⟩
    case round =>
      obtain ⟨j, rfl, hjk, rfl⟩ := hrel
      have hn1 := prodS_pos (HO.out.pos.take j)
      have hn2 := prodS_take_le HO.out.pos j
      have hf := HO.out.few
      obtain ⟨n, hne⟩ : ∃ n, prodS (xs.take j) = n := ⟨_, rfl⟩
      rw [hne] at hn1 hn2 ⊢
      by_cases hjl : j < L
      · obtain ⟨b, off, rfl, hc⟩ := HA.out.at (i := j) (by rw [HL.out]; exact hjl)
        have hx1 := HO.out.pos.getD (i := j) (by rw [HL.out]; exact hjl)
        have hst := prodS_take (s := xs) (k := j) (by rw [HL.out]; exact hjl)
        have hle := getD_le_prod HO.out.pos (k := j) (by rw [HL.out]; exact hjl)
        obtain ⟨x, hxe⟩ : ∃ x, xs.getD j 0 = x := ⟨_, rfl⟩
        rw [hxe] at hc hx1 hst hle
        rw [hne] at hst
        have hm0 : 0 ≤ n * x := Int.mul_nonneg (by omega) (by omega)
        have hm1 : n * x ≤ 1024 * 1024 := Int.mul_le_mul (by omega) (by omega) (by omega) (by omega)
        have hw : wrap64 (n * x) = n * x := by unfold wrap64; omega
        have HST := Lib.hid hst
        have hjI : (j : Int) < (L : Int) := by omega
        clear hxe hne hst hle hf hn2
        go_wp2
        go_round
        case rel => exact ⟨j + 1, by go_num, by omega, by rw [HST.out]⟩
        case measure => simp [intOf]; omega
      · obtain rfl : j = L := by omega
        obtain rfl : n = P := by
          rw [← hne, List.take_of_length_le (by rw [HL.out]; exact Nat.le_refl _)]; exact HP.out
        have hjI : ¬ (j : Int) < (j : Int) := by omega
        clear hne
        go_wp2
        go_ret
        exact ⟨rfl, rfl⟩
  · rw [count_bad h0]
    obtain ⟨c, hc⟩ : ∃ c, mayC xs = c := ⟨_, rfl⟩
    rw [hc] at hm h0
    have hne : (c != 0) = true := by simpa using h0
    clear h0 hc A
    go_enter Tryz.func66, Tryz.ntmps66
    go_wp2_with (go_at_call 55; refine hm.mono ?_; rintro e w1 ⟨rfl, rfl⟩)
    go_ret
    exact ⟨rfl, rfl⟩
end
section
open Go.RowKit
set_option linter.unusedVariables false
set_option linter.unusedSimpArgs false
theorem back_to {t : List Int} {k : Nat} (h : k < t.length) : backS t (t.length - k) = t.getD k 0 := by
  unfold backS
  rw [if_neg (by omega), show t.length - (t.length - k) = k by omega]
theorem back_ahead {f t : List Int} {k : Nat} (h : k < t.length - f.length) : backS f (t.length - k) = 0 := by
  unfold backS
  rw [if_pos (by omega)]
theorem back_in {f t : List Int} {k : Nat} (hl : f.length ≤ t.length) (hk : k < t.length) (h : t.length - f.length ≤ k) : backS f (t.length - k) = f.getD (k - (t.length - f.length)) 0 := by
  unfold backS
  rw [if_neg (by omega), show f.length - (t.length - k) = k - (t.length - f.length) by omega]
/-- the first k dimensions of the other one fit -/
def fitP (f t : List Int) (k : Nat) : Prop := ∀ i, i < k → t.length - f.length ≤ i → f.getD (i - (t.length - f.length)) 0 = t.getD i 0 ∨ f.getD (i - (t.length - f.length)) 0 = 1
theorem fitP.next {f t : List Int} {k : Nat} (h : fitP f t k) (h2 : t.length - f.length ≤ k → f.getD (k - (t.length - f.length)) 0 = t.getD k 0 ∨ f.getD (k - (t.length - f.length)) 0 = 1) : fitP f t (k + 1) := by
  intro i hi h3
  by_cases e : i = k
  · subst e; exact h2 h3
  · exact h i (by omega) h3
theorem fitP.all {f t : List Int} (ok : OkS t) (hl : f.length ≤ t.length) (h : fitP f t t.length) : fitU f t f.length := by
  intro j j1 j2
  refine ⟨by have := back_pos ok j1 (by omega); omega, ?_⟩
  have h3 := h (t.length - j) (by omega) (by omega)
  have e1 : backS f j = f.getD (t.length - j - (t.length - f.length)) 0 := by
    rw [← back_in hl (by omega) (by omega)]; congr 1; omega
  have e2 : backS t j = t.getD (t.length - j) 0 := by
    rw [← back_to (by omega)]; congr 1; omega
  rw [e1, e2]
  omega
theorem fitU.at {f t : List Int} (hl : f.length ≤ t.length) (h : fitU f t f.length) {k : Nat} (hk : k < t.length) (h2 : t.length - f.length ≤ k) : f.getD (k - (t.length - f.length)) 0 = t.getD k 0 ∨ f.getD (k - (t.length - f.length)) 0 = 1 := by
  have h3 := (h (t.length - k) (by omega) (by omega)).2
  rw [back_in hl hk h2, back_to hk] at h3
  omega
theorem fit_far {f t : List Int} (o1 : OkS f) (o2 : OkS t) (h : t.length < f.length) : fitC f t = 13 := by
  refine fitC_bad (mayC_ok o1) (mayC_ok o2) fun hu => ?_
  have := (hu f.length (by omega) (Nat.le_refl _)).1
  rw [back_zero h] at this
  exact this rfl
theorem grownS_bad {f t : List Int} (h : fitC f t ≠ 0) : grownS f t = [] := by unfold grownS; rw [if_neg h]
theorem grownS_ok {f t : List Int} (h : fitC f t = 0) : grownS f t = grownL f t t.length := by unfold grownS; rw [if_pos h]
set_option maxRecDepth 100000 in
set_option maxHeartbeats 4000000 in
theorem grown_any {u v : Value} {xs ys : List Int} {a b : Option Addr} {ca cb : Nat} {w : World} (A : ArgS w u xs a ca) (B : ArgS w v ys b cb) :
    Calls Tryz.prog 94 #[u, v] w fun e w' => ∃ r, e = .returned (.tuple #[r, .int .i64 (fitC xs ys)]) ∧ ResS w.heap.size w' r (grownS xs ys) ∧ Below w.heap.size w w' := by
  obtain ⟨i0, hi, hz0, hz1, hz2⟩ := info_parts infoS
  have HA := Lib.hid A
  have HB := Lib.hid B
  obtain rfl := A.is
  obtain rfl := B.is
  obtain ⟨c, hc⟩ : ∃ c, fitC xs ys = c := ⟨_, rfl⟩
  obtain ⟨r, hr⟩ : ∃ r, grownS xs ys = r := ⟨_, rfl⟩
  obtain ⟨F, hF⟩ : ∃ F, xs.length = F := ⟨_, rfl⟩
  obtain ⟨T, hT⟩ : ∃ T, ys.length = T := ⟨_, rfl⟩
  have HC := Lib.hid hc
  have HR := Lib.hid hr
  have HF := Lib.hid hF
  have HT := Lib.hid hT
  rw [hc, hr, hF, hT]
  clear A B hc hr hF hT
  go_enter Tryz.func94, Tryz.ntmps94
  go_wp2
  go_step3
  go_wp2
  have hbW : Below w.heap.size w (w.alloc (.cells #[.slice a F ca, .slice b T cb] 23)) := (Below.refl _ _).alloc (Nat.le_refl _) _
  have hc0 : (w.alloc (.cells #[.slice a F ca, .slice b T cb] 23)).cell? ⟨w.heap.size, 0, none⟩ = some (.slice a F ca) := cell_of_row _ _ 0 _ 23 (0, 0) (heap_alloc_new w _)
  have hc1 : (w.alloc (.cells #[.slice a F ca, .slice b T cb] 23)).cell? ⟨w.heap.size, 1, none⟩ = some (.slice b T cb) := cell_of_row _ _ 1 _ 23 (0, 0) (heap_alloc_new w _)
  obtain ⟨W, hW⟩ : ∃ W, w.alloc (.cells #[.slice a F ca, .slice b T cb] 23) = W := ⟨_, rfl⟩
  rw [hW] at hbW hc0 hc1 ⊢
  clear hW
  have hm1 := mayS_eq (HA.out.later hbW)
  have hm2 := mayS_eq (HB.out.later hbW)
  rw [HF.out] at hm1
  rw [HT.out] at hm2
  go_loop [7, 8, 17] (fun _ _ i => ∃ (k : Nat), i = .int .i64 (k : Int) ∧ k ≤ 2 ∧ (1 ≤ k → mayC xs = 0) ∧ (2 ≤ k → mayC ys = 0)) (fun _ _ i => 2 - (intOf i).toNat)
  case atStart => exact ⟨0, rfl, by omega, fun h => by omega, fun h => by omega⟩
  case round =>
    obtain ⟨k, rfl, hk, h1, h2⟩ := hrel
    rcases (show k = 0 ∨ k = 1 ∨ k = 2 by omega) with rfl | rfl | rfl
    · obtain ⟨m, hm⟩ : ∃ m, mayC xs = m := ⟨_, rfl⟩
      rw [hm] at hm1
      have HM := Lib.hid hm
      clear hm h1 h2
      by_cases h0 : m = 0
      · subst h0
        go_wp2_with (go_at_call 52; refine hm1.mono ?_; rintro e w1 ⟨rfl, rfl⟩)
        go_round
        case rel => exact ⟨1, by go_num, by omega, fun _ => HM.out, fun h => by omega⟩
        case measure => simp [intOf]
      · have hcc := fitC_from (f := xs) (t := ys) (by rw [HM.out]; exact h0)
        obtain rfl : c = m := by rw [← HC.out, hcc]; exact HM.out
        obtain rfl : r = [] := by rw [← HR.out]; exact grownS_bad (by rw [HC.out]; exact h0)
        have hne : (c != 0) = true := by simpa using h0
        clear hcc
        go_wp2_with (go_at_call 52; refine hm1.mono ?_; rintro e w1 ⟨rfl, rfl⟩)
        (try rw [Exit.noGoto_ret])
        go_ret2
        exact ⟨_, rfl, ResS.nil _ _, hbW⟩
    · obtain ⟨m, hm⟩ : ∃ m, mayC ys = m := ⟨_, rfl⟩
      have H1 := Lib.hid (h1 (by omega))
      rw [hm] at hm2
      have HM := Lib.hid hm
      clear hm h1 h2
      by_cases h0 : m = 0
      · subst h0
        go_wp2_with (go_at_call 52; refine hm2.mono ?_; rintro e w1 ⟨rfl, rfl⟩)
        go_round
        case rel => exact ⟨2, by go_num, by omega, fun _ => H1.out, fun _ => HM.out⟩
        case measure => simp [intOf]
      · have hcc := fitC_to (f := xs) (t := ys) H1.out (by rw [HM.out]; exact h0)
        obtain rfl : c = m := by rw [← HC.out, hcc]; exact HM.out
        obtain rfl : r = [] := by rw [← HR.out]; exact grownS_bad (by rw [HC.out]; exact h0)
        have hne : (c != 0) = true := by simpa using h0
        clear hcc
        go_wp2_with (go_at_call 52; refine hm2.mono ?_; rintro e w1 ⟨rfl, rfl⟩)
        (try rw [Exit.noGoto_ret])
        go_ret2
        exact ⟨_, rfl, ResS.nil _ _, hbW⟩
    · have o1 := mayC_zero.1 (h1 (by omega))
      have o2 := mayC_zero.1 (h2 (by omega))
      have l1 := o1.rank
      have l2 := o2.rank
      rw [HF.out] at l1
      rw [HT.out] at l2
      have O1 := Lib.hid o1
      have O2 := Lib.hid o2
      clear h1 h2 hm1 hm2 o1 o2
      have hnn : ¬ ((2 : Nat) : Int) < 2 := by omega
      by_cases hft : F ≤ T
      · obtain ⟨D, hD⟩ : ∃ D, T - F = D := ⟨_, rfl⟩
        have hDI : (T : Int) - (F : Int) = (D : Int) := by omega
        have hD0 : ¬ (D : Int) < 0 := by omega
        have HD := Lib.hid hD
        clear hD
        go_wp2
        go_step3
        go_wp2
        go_loopw [10, 11, 12, 36] (fun s _ _ i wr => ∃ (k : Nat) (zs : List Int), i = .int .i64 (k : Int) ∧ k ≤ T ∧ ResS w.heap.size wr s zs ∧ zs.length ≤ k ∧ grownL xs ys k = zs ∧ fitP xs ys k ∧ Below w.heap.size w wr) (fun _ _ _ i _ => T - (intOf i).toNat)
        case atStart => exact ⟨0, [], rfl, Nat.zero_le _, ResS.nil _ _, Nat.le_refl _, rfl, fun i hi => by omega, hbW⟩
        case round =>
          obtain ⟨k, zs, rfl, hk, R, hzl, hz, hfp, hb⟩ := hrel
          have hsz := hb.size
          have HZ := Lib.hid hz
          have HFP := Lib.hid hfp
          have HRES := Lib.hid R
          have hrow : wr.ownsRow w.heap.size 3 1 _ zs.length (zs.map (Value.int .i64)) := R.num
          clear hz hfp R
          by_cases hlt : k < T
          · obtain ⟨b2, o2, rfl, c2⟩ := (HB.out.later hb).at (i := k) (by rw [HT.out]; exact hlt)
            have hst : grownL xs ys (k + 1) = zs ++ (if backS xs (ys.length - k) = backS ys (ys.length - k) then [] else [(k : Int)]) := by simp only [grownL]; rw [HZ.out]
            rw [back_to (t := ys) (by rw [HT.out]; exact hlt)] at hst
            have hdp := O2.out.pos.getD (i := k) (by rw [HT.out]; exact hlt)
            obtain ⟨d, hde⟩ : ∃ d, ys.getD k 0 = d := ⟨_, rfl⟩
            rw [hde] at c2 hst hdp
            have HDE := Lib.hid hde
            have hltI : (k : Int) < (T : Int) := by omega
            clear hde
            by_cases hin : k < D
            · have hinI : (k : Int) < (D : Int) := by omega
              rw [back_ahead (f := xs) (t := ys) (by rw [HT.out, HF.out, HD.out]; exact hin), if_neg (by omega)] at hst
              have HST := Lib.hid hst
              have HN := Lib.hid (HFP.out.next fun h => by rw [HT.out, HF.out, HD.out] at h; omega)
              clear hst
              go_wp2_with (at_builtin; refine wpList_append_own _ rfl _ _ 22 rfl w.heap.size 3 i0 (.int .i64 0) 1 8 Tryz.underlying22 hi hz0 hz1 hz2 rfl (by decide) _ _ _ rfl (hrow.alloc _) ⟨wr.heap.size, 0, none⟩ 1 1 [.int .i64 (k : Int)] rfl rfl (cell_one_new _ _ _) (by simp [Value.oneCell']) (by unfold maxLen; omega) (by omega) (by simp; omega) ?_; intro v' w1 hown' hgrow _)
              go_roundw
              case rel =>
                obtain ⟨hn, hbw⟩ := pushS hb hsz HRES.out.num hown' hgrow
                exact ⟨k + 1, zs ++ [(k : Int)], by go_num, by omega, ⟨hn, HRES.out.wf.append (Wid.one (by omega))⟩, by rw [List.length_append]; simp only [List.length_cons, List.length_nil]; omega, HST.out, HN.out, hbw⟩
              case measure => simp [intOf]; omega
            · have hinI : ¬ (k : Int) < (D : Int) := by omega
              obtain ⟨j, hj⟩ : ∃ j, k - D = j := ⟨_, rfl⟩
              have hjI : (k : Int) - (D : Int) = (j : Int) := by omega
              have hjF : j < F := by have := HD.out; omega
              have hjFI : (j : Int) < (F : Int) := by omega
              obtain ⟨b1, o1, rfl, c1⟩ := (HA.out.later hb).at (i := j) (by rw [HF.out]; exact hjF)
              have hle : xs.length ≤ ys.length := by rw [HF.out, HT.out]; exact hft
              have hkk : ys.length - xs.length ≤ k := by rw [HT.out, HF.out, HD.out]; omega
              have hkt : k < ys.length := by rw [HT.out]; exact hlt
              have ej : k - (ys.length - xs.length) = j := by rw [HT.out, HF.out, HD.out]; exact hj
              rw [back_in hle hkt hkk, ej] at hst
              have hno : xs.getD j 0 ≠ d → xs.getD j 0 ≠ 1 → fitC xs ys = 13 := fun g1 g2 => fitC_bad (mayC_ok O1.out) (mayC_ok O2.out) fun hu => by
                have := hu.at hle hkt hkk
                rw [ej, HDE.out] at this
                omega
              have hyes : xs.getD j 0 = d ∨ xs.getD j 0 = 1 → fitP xs ys (k + 1) := fun g => HFP.out.next fun _ => by rw [ej, HDE.out]; exact g
              obtain ⟨x, hxe⟩ : ∃ x, xs.getD j 0 = x := ⟨_, rfl⟩
              rw [hxe] at c1 hst hno hyes
              have HNO := Lib.hid hno
              have HYES := Lib.hid hyes
              clear hno hyes hle hkk hkt ej hxe hj
              by_cases hxd : x = d
              · subst hxd
                rw [if_pos rfl, List.append_nil] at hst
                have HST := Lib.hid hst
                have heq : (x == x) = true := by simp
                clear hst
                go_wp2
                go_roundw
                case rel => exact ⟨k + 1, zs, by go_num, by omega, HRES.out, by omega, HST.out, HYES.out (.inl rfl), hb⟩
                case measure => simp [intOf]; omega
              · rw [if_neg hxd] at hst
                have HST := Lib.hid hst
                have heq : (x == d) = false := by simpa using hxd
                clear hst
                by_cases hx1 : x = 1
                · subst hx1
                  go_wp2_with (at_builtin; refine wpList_append_own _ rfl _ _ 22 rfl w.heap.size 3 i0 (.int .i64 0) 1 8 Tryz.underlying22 hi hz0 hz1 hz2 rfl (by decide) _ _ _ rfl (hrow.alloc _) ⟨wr.heap.size, 0, none⟩ 1 1 [.int .i64 (k : Int)] rfl rfl (cell_one_new _ _ _) (by simp [Value.oneCell']) (by unfold maxLen; omega) (by omega) (by simp; omega) ?_; intro v' w1 hown' hgrow _)
                  go_roundw
                  case rel =>
                    obtain ⟨hn, hbw⟩ := pushS hb hsz HRES.out.num hown' hgrow
                    exact ⟨k + 1, zs ++ [(k : Int)], by go_num, by omega, ⟨hn, HRES.out.wf.append (Wid.one (by omega))⟩, by rw [List.length_append]; simp only [List.length_cons, List.length_nil]; omega, HST.out, HYES.out (.inr rfl), hbw⟩
                  case measure => simp [intOf]; omega
                · have hcc := HNO.out hxd hx1
                  obtain rfl : c = 13 := by rw [← HC.out]; exact hcc
                  obtain rfl : r = [] := by rw [← HR.out]; exact grownS_bad (by rw [hcc]; decide)
                  have hne : (x != 1) = true := by simpa using hx1
                  clear hcc
                  go_wp2
                  (try rw [Exit.noGoto_ret])
                  go_ret2
                  exact ⟨_, rfl, ResS.nil _ _, hb⟩
          · obtain rfl : k = T := by omega
            have hu := fitP.all (f := xs) (t := ys) O2.out (by rw [HF.out, HT.out]; exact hft) (by rw [HT.out]; exact HFP.out)
            have hcc := fitC_of O1.out O2.out hu
            obtain rfl : c = 0 := by rw [← HC.out]; exact hcc
            have hrr : zs = r := by rw [← HR.out, grownS_ok hcc, HT.out]; exact HZ.out.symm
            subst hrr
            have hltI : ¬ (k : Int) < (k : Int) := by omega
            clear hu hcc
            go_wp2
            (try rw [Exit.noGoto_ret])
            go_ret2
            exact ⟨_, rfl, HRES.out, hb⟩
      · obtain rfl : c = 13 := by rw [← HC.out]; exact fit_far O1.out O2.out (by rw [HF.out, HT.out]; omega)
        obtain rfl : r = [] := by rw [← HR.out]; exact grownS_bad (by rw [HC.out]; decide)
        have hd : (T : Int) - (F : Int) < 0 := by omega
        go_wp2
        go_ret2
        exact ⟨_, rfl, ResS.nil _ _, hbW⟩
set_option maxRecDepth 100000 in
set_option maxHeartbeats 2000000 in
theorem fitsS_any {u v : Value} {xs ys : List Int} {a b : Option Addr} {ca cb : Nat} {w : World} (A : ArgS w u xs a ca) (B : ArgS w v ys b cb) (ha : a = none → ca = 0) (hb : b = none → cb = 0) (hx : xs.length ≤ 17592186044416) (hy : ys.length ≤ 17592186044416) :
    Calls Tryz.prog 57 #[u, v] w fun e w' => e = .returned (.int .i64 (fitC xs ys)) ∧ Below w.heap.size w w' := by
  have h := grown_any A B
  obtain rfl := A.is
  obtain rfl := B.is
  obtain ⟨c, hc⟩ : ∃ c, fitC xs ys = c := ⟨_, rfl⟩
  obtain ⟨z, hz⟩ : ∃ z, grownS xs ys = z := ⟨_, rfl⟩
  obtain ⟨n, hn⟩ : ∃ n, xs.length = n := ⟨_, rfl⟩
  obtain ⟨m, hm⟩ : ∃ n, ys.length = n := ⟨_, rfl⟩
  rw [hc, hz, hn, hm] at h
  rw [hc, hn, hm]
  clear A B ha hb hx hy hc hz hn hm
  go_enter Tryz.func57, Tryz.ntmps57
  go_wp2_with (go_at_call 94; refine h.mono ?_; rintro e w1 ⟨r, rfl, R, hb⟩)
  go_ret
  exact ⟨rfl, hb⟩
end
end Go.Proofs.YtooglnhlhgmhdaaGreat
