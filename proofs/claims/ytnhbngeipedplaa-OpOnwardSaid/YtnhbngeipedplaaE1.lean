/-
  Layer 11's law OpExplicit: any node's explicit attributes, whatever its arguments' ranks: for every input the law returns true, and its arguments read behind the call as they read before (first form: each slice that is met in reading them weighs at most the form's reach).
-/
import Derived.Test.YtnhbngeipedplaaD11
import Derived.WalkKit
import Derived.Test.YtnhbngeipedplaaRows
import Derived.OrdersHeld
import Derived.Deep.RegionHeld
import Derived.BigQuiet
import Derived.Deep.QuietTactic
import Derived.Lib.Hide
import Derived.Lib.Small
import Derived.Lib.Walk
import Derived.Lib.BitFns
import Derived.Maps.AppendAt
import Derived.RangeFuncNested
import Derived.RangeFuncBound
import Derived.RangeFuncCalls
import Derived.RangeFuncLeaves
import Derived.Shelf.Abstract
import Derived.OwnWalkIn
import Derived.TacticsInMore
import Derived.LoopNIn
import Derived.LoopIn
import Derived.RangeFuncBox
import Derived.Deep.RegionHeld3
import Derived.OrdersIn
import Derived.StillTailTactics
import Derived.RangeFuncFrom
import Derived.Laws.EntriesVeiled
import Derived.ProofKit
import Derived.OpenShut
import Derived.JoinedCond
import Derived.Carry
import Derived.Laws.AppendOwnNone
import Derived.Lib.ItoaNum
import Derived.Deep.RegionLaw
import Derived.WalkMore
import Derived.Lib.SmallJoins
import Derived.IntWalk
import Derived.Deep.DeepCutAuto
import Derived.Laws.OwnMore
import Derived.ArgAppend
import Derived.Deep.Slices
import Derived.Laws.CopyOwn
import Derived.Lib.SliceRun
import Derived.SizedLaws
import Derived.Great.BuildSlice
namespace Go.Proofs.Ytnhbngeipedplaa
set_option maxRecDepth 100000
section
open Go.RowKit
set_option linter.unusedVariables false
set_option linter.unusedSimpArgs false
theorem ResS.arg {base : Nat} {w : World} {u : Value} {xs : List Int} (h : ResS base w u xs) : ∃ ad cap, ArgS w u xs ad cap := by
  obtain ⟨ad, cap, h1, h2, h3, _, _⟩ := h.num.read
  exact ⟨ad, cap, h1, h2, h3, h.wf⟩
end
section
open Go.RowKit
set_option linter.unusedVariables false
set_option linter.unusedSimpArgs false
theorem NumS.partS {base : Nat} {w : World} {v : Value} {zs : List Int} (h : NumS base w v zs) (hz : zs ≠ []) :
    ∃ g cap, v = .slice (some ⟨g, 0, none⟩) zs.length cap ∧ base ≤ g ∧ cap ≤ maxLen ∧ PartS w g cap zs := by
  obtain ⟨h1, h2⟩ := h
  rcases h2 with ⟨hv, hn⟩ | ⟨g, cap, cur, hv, hb, hg, hc, hm, hs, ht⟩
  · exact absurd (List.eq_nil_of_length_eq_zero hn) hz
  · exact ⟨g, cap, hv, hb, hm, cur, hg, by simpa using hs, hc, by simpa using ht⟩
end
section
open Go.RowKit
set_option linter.unusedVariables false
set_option linter.unusedSimpArgs false
/-- three cells -/
structure E3 where
  a : Value
  b : Value
  c : Value
end
section
open Go.RowKit
set_option linter.unusedVariables false
set_option linter.unusedSimpArgs false
theorem fwdI_len (r : Int) : (fwdI r).length = r.toNat := by simp [fwdI]
theorem bwdI_len (r : Int) : (bwdI r).length = r.toNat := by simp [bwdI]
theorem meantO_wid (o : Int) {r : Int} (h0 : 0 ≤ r) (h4 : r ≤ 4) : Wid (meantO o r) := fun x hx => by
  unfold meantO at hx
  split at hx
  · simp at hx; omega
  · split at hx
    · simp at hx; omega
    · split at hx
      · unfold bwdI at hx
        obtain ⟨i, hi, rfl⟩ := List.mem_map.1 hx
        have := List.mem_range.1 hi
        omega
      · unfold fwdI at hx
        obtain ⟨i, hi, rfl⟩ := List.mem_map.1 hx
        have := List.mem_range.1 hi
        omega
/-- what none means fits -/
theorem meantO_fits {k : Nat} (hk : k < 20) {r : Nat} (hr : r < 5) (hl : 1 ≤ (rowO ((k : Int) + 1)).lo) : attB ((k : Int) + 1) (meantO ((k : Int) + 1) (r : Int)) = true := by
  revert hl
  exact (by decide +kernel : ∀ k : Nat, k < 20 → ∀ r : Nat, r < 5 → 1 ≤ (rowO ((k : Int) + 1)).lo → attB ((k : Int) + 1) (meantO ((k : Int) + 1) (r : Int)) = true) k hk r hr
theorem onward {v o r : Int} {n : Nat} {xs : List Int} (h : chkO v o n xs = 0) {v' : Int} (h1 : v ≤ v') (h3 : v' ≤ 3) (hv : verO o v' = true) : chkO v' o n (expO v o n xs r) = 0 := by
  have h' := h
  unfold chkO at h
  split at h
  · cases h
  rename_i c1
  split at h
  · cases h
  split at h
  · cases h
  rename_i c2 c3
  split at h
  · cases h
  rename_i c4
  have hatt : attB o (expO v o n xs r) = true := by
    unfold expO
    by_cases hl : leaveB o v xs = true
    · rw [if_pos ⟨h', hl⟩]
      have hin : inO o = true := by
        unfold verO at hv
        rw [Bool.and_eq_true] at hv
        exact hv.1
      obtain ⟨k, hk, rfl⟩ := inO_nat hin
      have h5 := of_decide_eq_true hl
      obtain ⟨i0, i4⟩ := rkI_in r
      obtain ⟨m, hm⟩ : ∃ m : Nat, rkI r = (m : Int) := ⟨(rkI r).toNat, by omega⟩
      rw [hm]
      exact meantO_fits hk (by omega) (by omega)
    · rw [if_neg (fun h => hl h.2)]
      cases ha : attB o xs with
      | true => rfl
      | false => exact absurd ⟨by simpa using hl, ha⟩ c4
  unfold chkO
  rw [if_neg (by omega), if_neg (by rw [hv]; simp), if_neg c3, if_neg (fun h => by rw [hatt] at h; cases h.2)]
theorem expO_again {v' o r : Int} {n : Nat} {xs : List Int} (h : 0 < xs.length) : expO v' o n xs r = xs := by
  unfold expO
  rw [if_neg]
  intro h2
  have := of_decide_eq_true h2.2
  omega
end
section
open Go.RowKit
set_option linter.unusedVariables false
set_option linter.unusedSimpArgs false
theorem ownT_slice11 {base : Nat} {w : World} {v : Value} {xs : List Int} (h : NumS base w v xs) : ∃ ad cap, v = .slice ad xs.length cap := by
  obtain ⟨ad, cap, h1, _⟩ := h.read
  exact ⟨ad, cap, h1⟩
set_option maxRecDepth 100000 in
set_option maxHeartbeats 40000000 in
theorem explicitR_any (v rk : Int) {o : Int} {xs : List Int} {a1 a2 : Option Addr} {n1 c1 c2 : Nat} {w : World} (A : ArgS w (.slice a2 xs.length c2) xs a2 c2) (na : a2 = none → c2 = 0) (hx : xs.length ≤ 17592186044416) : Calls Try.prog 23 #[.int .i64 v, .agg #[.int .i64 o, .slice a1 n1 c1, .slice a2 xs.length c2], .int .i64 rk] w fun e w' => ∃ r, e = .returned r ∧ (∃ ad cap, ArgS w' r (expO v o n1 xs rk) ad cap) ∧ Below w.heap.size w w' := by
  obtain ⟨iS, hiS, hzA, hzB, hzC⟩ := info_parts infoS
  have HA := Lib.hid A
  obtain ⟨ls, hls⟩ : ∃ l, expO v o n1 xs rk = l := ⟨_, rfl⟩
  rw [hls]
  have HLE0 := Lib.hid hls
  clear hls
  obtain ⟨c, hc⟩ : ∃ c, chkO v o n1 xs = c := ⟨_, rfl⟩
  have HC := Lib.hid hc
  obtain ⟨L, hL⟩ : ∃ L, xs.length = L := ⟨_, rfl⟩
  have HL := Lib.hid hL
  obtain ⟨W, hW⟩ : ∃ W, w.alloc (.cells #[.int .i64 o, .slice a1 n1 c1, .slice a2 L c2] 37) = W := ⟨_, rfl⟩
  have R0 : Row W w.heap.size 37 #[.int .i64 o, .slice a1 n1 c1, .slice a2 L c2] := by rw [← hW]; exact Row.new _ _ _
  have hbW : Below w.heap.size w W := by rw [← hW]; exact (Below.refl _ _).alloc (Nat.le_refl _) _
  have hck := checkR_any v (A.later hbW) na hx (o := o) (a1 := a1) (n1 := n1) (c1 := c1)
  rw [hL] at hx ⊢
  rw [hc, hL] at hck
  have HCK := Lib.hid hck
  obtain ⟨k0, k1, k2, _, _, _⟩ := R0.three
  clear hc hL A hck
  by_cases hc0 : c = 0
  case neg =>
    have hcI : (c != 0) = true := by simp [hc0]
    have HXS := Lib.hid (show xs = ls by rw [← HLE0.out]; unfold expO; exact (if_neg (fun h => hc0 (by rw [← HC.out]; exact h.1))).symm)
    go_enter Try.func23, Try.ntmps23
    (try rw [hW])
    go_wp2_with fail
    (try rw [hW])
    clear hW
    refine HCK.out.mono ?_
    rintro e y1 ⟨rfl, hy⟩
    clear k0 k1 k2
    obtain ⟨k0, k1, k2, _, _, _⟩ := (R0.later hy).three
    go_wp2_with fail
    go_ret
    refine ⟨_, rfl, ⟨a2, c2, ?_⟩, hbW.trans (hy.mono hbW.size)⟩
    have hAE := HA.out.later (hbW.trans (hy.mono hbW.size))
    rw [HL.out] at hAE
    rw [← HXS.out]
    exact hAE
  case pos =>
    subst hc0
    obtain ⟨hin, hv1⟩ := chk_in HC.out
    have hv3 : v ≤ 3 := by
      have h := HC.out
      unfold chkO at h
      split at h
      · cases h
      · omega
    have HLV := Lib.hid (none_is hin hv1 hv3 xs)
    have HIN := Lib.hid hin
    clear hin hv1 hv3
    by_cases h0 : L = 0
    case neg =>
      have h0I : (L : Int) > 0 := by omega
      have HXS := Lib.hid (show xs = ls by rw [← HLE0.out]; unfold expO; exact (if_neg (fun h => h0 (by have h2 := (of_decide_eq_true h.2).1; rw [HL.out] at h2; exact h2))).symm)
      go_enter Try.func23, Try.ntmps23
      (try rw [hW])
      go_wp2_with fail
      (try rw [hW])
      clear hW
      refine HCK.out.mono ?_
      rintro e y1 ⟨rfl, hy⟩
      clear k0 k1 k2
      obtain ⟨k0, k1, k2, _, _, _⟩ := (R0.later hy).three
      go_wp2_with fail
      go_ret
      refine ⟨_, rfl, ⟨a2, c2, ?_⟩, hbW.trans (hy.mono hbW.size)⟩
      have hAE := HA.out.later (hbW.trans (hy.mono hbW.size))
      rw [HL.out] at hAE
      rw [← HXS.out]
      exact hAE
    case pos =>
      subst h0
      obtain ⟨tn, htn⟩ : ∃ t, noneB v o = t := ⟨_, rfl⟩
      have HTN := Lib.hid htn
      have hlv : leaveB o v xs = tn := by rw [HLV.out, HL.out, htn]; rfl
      have HLVT := Lib.hid hlv
      clear htn hlv
      go_enter Try.func23, Try.ntmps23
      (try rw [hW])
      go_wp2_with fail
      (try rw [hW])
      clear hW
      refine HCK.out.mono ?_
      rintro e y1 ⟨rfl, hy⟩
      have B1 := hy
      clear k0 k1 k2 hy
      obtain ⟨k0, k1, k2, _, _, _⟩ := (R0.later B1).three
      go_wp2_with fail
      refine (noneR_any v o _).mono ?_
      rintro e y3 ⟨rfl, hy⟩
      have B3 : Below W.heap.size W y3 := B1.trans (hy.mono B1.size)
      clear k0 k1 k2 hy
      obtain ⟨k0, k1, k2, _, _, _⟩ := (R0.later B3).three
      rw [HTN.out]
      cases tn with
      | false =>
        have HXS := Lib.hid (show xs = ls by rw [← HLE0.out]; unfold expO; exact (if_neg (fun h => by rw [HLVT.out] at h; cases h.2)).symm)
        go_wp2_with fail
        go_ret
        refine ⟨_, rfl, ⟨a2, c2, ?_⟩, hbW.trans (B3.mono hbW.size)⟩
        have hAE := HA.out.later (hbW.trans (B3.mono hbW.size))
        rw [HL.out] at hAE
        rw [← HXS.out]
        exact hAE
      | true =>
        have hme : meantO o (rkI rk) = ls := by rw [← HLE0.out]; unfold expO; rw [if_pos ⟨HC.out, HLVT.out⟩]
        obtain ⟨m, hm⟩ : ∃ m : Nat, rkI rk = (m : Int) := ⟨(rkI rk).toNat, by have := (rkI_in rk).1; omega⟩
        have hm4 : m ≤ 4 := by have := (rkI_in rk).2; omega
        have HWL := Lib.hid (show Wid ls by rw [← hme]; exact meantO_wid o (rkI_in rk).1 (rkI_in rk).2)
        rw [hm] at hme
        have HME := Lib.hid hme
        have HMM := Lib.hid hm
        clear hme hm
        by_cases hr0 : rk < 0
        · obtain rfl : m = 0 := by have h := HMM.out; unfold rkI at h; rw [if_neg (by omega)] at h; omega
          by_cases hx6 : o = 6
          · subst hx6
            go_wp2_with fail
            go_ret
            refine ⟨_, rfl, ⟨some ⟨y3.heap.size, 0, none⟩, 1, ?_⟩, hbW.trans ((B3.alloc B3.size _).mono hbW.size)⟩
            rw [← HME.out]
            exact ArgS.lit y3 [2] (Wid.one ⟨by decide, by decide⟩)
          · skip
            by_cases hx17 : o = 17
            · subst hx17
              go_wp2_with fail
              go_ret
              refine ⟨_, rfl, ⟨some ⟨y3.heap.size, 0, none⟩, 1, ?_⟩, hbW.trans ((B3.alloc B3.size _).mono hbW.size)⟩
              rw [← HME.out]
              exact ArgS.lit y3 [0] (Wid.one ⟨by decide, by decide⟩)
            · skip
              by_cases hx11 : o = 11
              · subst hx11
                go_wp2_with fail
                go_loopw [7, 8] (fun u i wi => i = .int .i64 (-1) ∧ u = .slice none 0 0 ∧ Below y3.heap.size y3 wi) (fun _ _ _ => 0)
                case atStart => exact ⟨by first | rfl | simp, rfl, Below.refl _ _⟩
                case round =>
                  rename World => wi
                  obtain ⟨rfl, rfl, hbi⟩ := hrel
                  go_wp2_with fail
                  go_ret
                  refine ⟨_, rfl, ⟨none, 0, ?_⟩, hbW.trans ((B3.trans (hbi.mono B3.size)).mono hbW.size)⟩
                  rw [← HME.out]
                  exact nil_argS wi
              · skip
                by_cases hx14 : o = 14
                · subst hx14
                  go_wp2_with fail
                  go_loopw [7, 9] (fun u i wi => i = .int .i64 0 ∧ u = .slice none 0 0 ∧ Below y3.heap.size y3 wi) (fun _ _ _ => 0)
                  case atStart => exact ⟨by first | rfl | simp, rfl, Below.refl _ _⟩
                  case round =>
                    rename World => wi
                    obtain ⟨rfl, rfl, hbi⟩ := hrel
                    go_wp2_with fail
                    go_ret
                    refine ⟨_, rfl, ⟨none, 0, ?_⟩, hbW.trans ((B3.trans (hbi.mono B3.size)).mono hbW.size)⟩
                    rw [← HME.out]
                    exact nil_argS wi
                · skip
                  by_cases hx20 : o = 20
                  · subst hx20
                    go_wp2_with fail
                    go_loopw [7, 9] (fun u i wi => i = .int .i64 0 ∧ u = .slice none 0 0 ∧ Below y3.heap.size y3 wi) (fun _ _ _ => 0)
                    case atStart => exact ⟨by first | rfl | simp, rfl, Below.refl _ _⟩
                    case round =>
                      rename World => wi
                      obtain ⟨rfl, rfl, hbi⟩ := hrel
                      go_wp2_with fail
                      go_ret
                      refine ⟨_, rfl, ⟨none, 0, ?_⟩, hbW.trans ((B3.trans (hbi.mono B3.size)).mono hbW.size)⟩
                      rw [← HME.out]
                      exact nil_argS wi
                  · skip
                    have hno : noneB v o = false := by
                      unfold noneB
                      rw [if_neg (by omega), if_neg (by omega)]
                    rw [HTN.out] at hno
                    cases hno
        · by_cases hr4 : rk > 4
          · obtain rfl : m = 0 := by have h := HMM.out; unfold rkI at h; rw [if_neg (by omega)] at h; omega
            by_cases hx6 : o = 6
            · subst hx6
              go_wp2_with fail
              go_ret
              refine ⟨_, rfl, ⟨some ⟨y3.heap.size, 0, none⟩, 1, ?_⟩, hbW.trans ((B3.alloc B3.size _).mono hbW.size)⟩
              rw [← HME.out]
              exact ArgS.lit y3 [2] (Wid.one ⟨by decide, by decide⟩)
            · skip
              by_cases hx17 : o = 17
              · subst hx17
                go_wp2_with fail
                go_ret
                refine ⟨_, rfl, ⟨some ⟨y3.heap.size, 0, none⟩, 1, ?_⟩, hbW.trans ((B3.alloc B3.size _).mono hbW.size)⟩
                rw [← HME.out]
                exact ArgS.lit y3 [0] (Wid.one ⟨by decide, by decide⟩)
              · skip
                by_cases hx11 : o = 11
                · subst hx11
                  go_wp2_with fail
                  go_loopw [7, 8] (fun u i wi => i = .int .i64 (-1) ∧ u = .slice none 0 0 ∧ Below y3.heap.size y3 wi) (fun _ _ _ => 0)
                  case atStart => exact ⟨by first | rfl | simp, rfl, Below.refl _ _⟩
                  case round =>
                    rename World => wi
                    obtain ⟨rfl, rfl, hbi⟩ := hrel
                    go_wp2_with fail
                    go_ret
                    refine ⟨_, rfl, ⟨none, 0, ?_⟩, hbW.trans ((B3.trans (hbi.mono B3.size)).mono hbW.size)⟩
                    rw [← HME.out]
                    exact nil_argS wi
                · skip
                  by_cases hx14 : o = 14
                  · subst hx14
                    go_wp2_with fail
                    go_loopw [7, 9] (fun u i wi => i = .int .i64 0 ∧ u = .slice none 0 0 ∧ Below y3.heap.size y3 wi) (fun _ _ _ => 0)
                    case atStart => exact ⟨by first | rfl | simp, rfl, Below.refl _ _⟩
                    case round =>
                      rename World => wi
                      obtain ⟨rfl, rfl, hbi⟩ := hrel
                      go_wp2_with fail
                      go_ret
                      refine ⟨_, rfl, ⟨none, 0, ?_⟩, hbW.trans ((B3.trans (hbi.mono B3.size)).mono hbW.size)⟩
                      rw [← HME.out]
                      exact nil_argS wi
                  · skip
                    by_cases hx20 : o = 20
                    · subst hx20
                      go_wp2_with fail
                      go_loopw [7, 9] (fun u i wi => i = .int .i64 0 ∧ u = .slice none 0 0 ∧ Below y3.heap.size y3 wi) (fun _ _ _ => 0)
                      case atStart => exact ⟨by first | rfl | simp, rfl, Below.refl _ _⟩
                      case round =>
                        rename World => wi
                        obtain ⟨rfl, rfl, hbi⟩ := hrel
                        go_wp2_with fail
                        go_ret
                        refine ⟨_, rfl, ⟨none, 0, ?_⟩, hbW.trans ((B3.trans (hbi.mono B3.size)).mono hbW.size)⟩
                        rw [← HME.out]
                        exact nil_argS wi
                    · skip
                      have hno : noneB v o = false := by
                        unfold noneB
                        rw [if_neg (by omega), if_neg (by omega)]
                      rw [HTN.out] at hno
                      cases hno
          · obtain rfl : rk = (m : Int) := by have h := HMM.out; unfold rkI at h; rw [if_pos (by omega)] at h; exact h
            have hmz : (0 : Int) ≤ (m : Int) := by omega
            have hmw : IntKind.i64.wrap ((m : Int) - 1) = (m : Int) - 1 := IntWalk.i64_in _ (by omega)
            by_cases hx6 : o = 6
            · subst hx6
              go_wp2_with fail
              go_ret
              refine ⟨_, rfl, ⟨some ⟨y3.heap.size, 0, none⟩, 1, ?_⟩, hbW.trans ((B3.alloc B3.size _).mono hbW.size)⟩
              rw [← HME.out]
              exact ArgS.lit y3 [2] (Wid.one ⟨by decide, by decide⟩)
            · skip
              by_cases hx17 : o = 17
              · subst hx17
                go_wp2_with fail
                go_ret
                refine ⟨_, rfl, ⟨some ⟨y3.heap.size, 0, none⟩, 1, ?_⟩, hbW.trans ((B3.alloc B3.size _).mono hbW.size)⟩
                rw [← HME.out]
                exact ArgS.lit y3 [0] (Wid.one ⟨by decide, by decide⟩)
              · skip
                by_cases hx11 : o = 11
                · subst hx11
                  go_wp2_with fail
                  go_loopw [7, 8] (fun u i wi => ∃ k : Nat, i = .int .i64 ((m : Int) - 1 - (k : Int)) ∧ k ≤ m ∧ NumS y3.heap.size wi u ((List.range k).map fun i : Nat => (m : Int) - 1 - (i : Int)) ∧ Below y3.heap.size y3 wi) (fun _ i _ => (intOf i + 1).toNat)
                  case atStart => exact ⟨0, by simp, Nat.zero_le _, World.ownsRow_nil _ _ _ _, Below.refl _ _⟩
                  case round =>
                    rename World => wi
                    obtain ⟨k, rfl, hk, hown, hbi⟩ := hrel
                    have hszi := hbi.size
                    have hkl : ((List.range k).map fun i : Nat => (m : Int) - 1 - (i : Int)).length = k := by simp
                    have hnx : ((List.range (k + 1)).map fun i : Nat => (m : Int) - 1 - (i : Int)) = ((List.range k).map fun i : Nat => (m : Int) - 1 - (i : Int)) ++ [(m : Int) - 1 - (k : Int)] := by rw [List.range_succ, List.map_append]; rfl
                    obtain ⟨zs, hzs⟩ : ∃ zs, ((List.range k).map fun i : Nat => (m : Int) - 1 - (i : Int)) = zs := ⟨_, rfl⟩
                    rw [hzs] at hown hnx hkl
                    have HZS := Lib.hid hzs
                    have HKL := Lib.hid hkl
                    have HNX := Lib.hid hnx
                    by_cases hlt : k < m
                    · have ht : (m : Int) - 1 - (k : Int) ≥ 0 := by omega
                      have htw : IntKind.i64.wrap ((m : Int) - 1 - (k : Int) - 1) = (m : Int) - 1 - (k : Int) - 1 := IntWalk.i64_in _ (by omega)
                      obtain ⟨av1, cv1, rfl⟩ := ownT_slice11 hown
                      have hz4 : zs.length ≤ 4 := by rw [hkl]; omega
                      clear hzs hnx hkl
                      go_wp2_with (at_builtin; (refine wpList_append_own _ rfl _ _ 35 rfl y3.heap.size 3 iS (.int .i64 0) 1 8 Try.underlying35 hiS hzA hzB hzC rfl (by decide) _ zs.length (zs.map (Value.int .i64)) rfl (hown.later ((Below.refl _ _).alloc (Nat.le_refl _) _)) ⟨wi.heap.size, 0, none⟩ 1 1 [.int .i64 ((m : Int) - 1 - (k : Int))] rfl rfl (cell_one_new _ _ _) (by simp [Value.oneCell']) (by unfold maxLen; omega) (by omega) (by simp; omega) ?_; intro v' w6 hown' hgrow _))
                      have hb6 : Below y3.heap.size y3 w6 := (hbi.alloc hszi _).grown hgrow (by simp; omega) (fun q hq => (World.ownsRow.lt hown q hq).1)
                      have hN6 : NumS y3.heap.size w6 v' ((List.range (k + 1)).map fun i : Nat => (m : Int) - 1 - (i : Int)) := by
                        rw [HNX.out]
                        unfold NumS
                        rw [List.length_append, List.map_append]
                        exact hown'
                      have HN6 := Lib.hid hN6
                      clear hN6 hown' hgrow
                      (try go_wp2_with fail)
                      go_roundw
                      case rel => exact ⟨k + 1, by refine congrArg (Value.int .i64) ?_; omega, by omega, HN6.out, hb6⟩
                      case measure => simp [intOf]; omega
                    · obtain rfl : k = m := by omega
                      have ht : ¬ (k : Int) - 1 - (k : Int) ≥ 0 := by omega
                      have hls : ls = zs := by
                        rw [← HME.out, ← HZS.out]
                        show bwdI (k : Int) = _
                        unfold bwdI
                        rw [Int.toNat_natCast]
                      subst hls
                      have hwl : Wid ls := HWL.out
                      have hRS : ResS y3.heap.size wi _ ls := ⟨hown, hwl⟩
                      have HRS := Lib.hid hRS
                      clear hown hRS
                      go_wp2_with fail
                      go_ret
                      obtain ⟨ad, cap, hA⟩ := HRS.out.arg
                      exact ⟨_, rfl, ⟨ad, cap, hA⟩, hbW.trans ((B3.trans (hbi.mono B3.size)).mono hbW.size)⟩
                · skip
                  by_cases hx14 : o = 14
                  · subst hx14
                    go_wp2_with fail
                    go_loopw [7, 9] (fun u i wi => ∃ k : Nat, i = .int .i64 (k : Int) ∧ k ≤ m ∧ NumS y3.heap.size wi u ((List.range k).map fun i : Nat => (i : Int)) ∧ Below y3.heap.size y3 wi) (fun _ i _ => m - (intOf i).toNat)
                    case atStart => exact ⟨0, by simp, Nat.zero_le _, World.ownsRow_nil _ _ _ _, Below.refl _ _⟩
                    case round =>
                      rename World => wi
                      obtain ⟨k, rfl, hk, hown, hbi⟩ := hrel
                      have hszi := hbi.size
                      have hkl : ((List.range k).map fun i : Nat => (i : Int)).length = k := by simp
                      have hnx : ((List.range (k + 1)).map fun i : Nat => (i : Int)) = ((List.range k).map fun i : Nat => (i : Int)) ++ [(k : Int)] := by rw [List.range_succ, List.map_append]; rfl
                      obtain ⟨zs, hzs⟩ : ∃ zs, ((List.range k).map fun i : Nat => (i : Int)) = zs := ⟨_, rfl⟩
                      rw [hzs] at hown hnx hkl
                      have HZS := Lib.hid hzs
                      have HKL := Lib.hid hkl
                      have HNX := Lib.hid hnx
                      by_cases hlt : k < m
                      · have ht : (k : Int) < (m : Int) := by omega
                        obtain ⟨av1, cv1, rfl⟩ := ownT_slice11 hown
                        have hz4 : zs.length ≤ 4 := by rw [hkl]; omega
                        clear hzs hnx hkl
                        go_wp2_with (at_builtin; (refine wpList_append_own _ rfl _ _ 35 rfl y3.heap.size 3 iS (.int .i64 0) 1 8 Try.underlying35 hiS hzA hzB hzC rfl (by decide) _ zs.length (zs.map (Value.int .i64)) rfl (hown.later ((Below.refl _ _).alloc (Nat.le_refl _) _)) ⟨wi.heap.size, 0, none⟩ 1 1 [.int .i64 ((k : Int))] rfl rfl (cell_one_new _ _ _) (by simp [Value.oneCell']) (by unfold maxLen; omega) (by omega) (by simp; omega) ?_; intro v' w6 hown' hgrow _))
                        have hb6 : Below y3.heap.size y3 w6 := (hbi.alloc hszi _).grown hgrow (by simp; omega) (fun q hq => (World.ownsRow.lt hown q hq).1)
                        have hN6 : NumS y3.heap.size w6 v' ((List.range (k + 1)).map fun i : Nat => (i : Int)) := by
                          rw [HNX.out]
                          unfold NumS
                          rw [List.length_append, List.map_append]
                          exact hown'
                        have HN6 := Lib.hid hN6
                        clear hN6 hown' hgrow
                        (try go_wp2_with fail)
                        go_roundw
                        case rel => exact ⟨k + 1, by go_num, by omega, HN6.out, hb6⟩
                        case measure => simp [intOf]; omega
                      · obtain rfl : k = m := by omega
                        have ht : ¬ (k : Int) < (k : Int) := by omega
                        have hls : ls = zs := by
                          rw [← HME.out, ← HZS.out]
                          show fwdI (k : Int) = _
                          unfold fwdI
                          rw [Int.toNat_natCast]
                        subst hls
                        have hwl : Wid ls := HWL.out
                        have hRS : ResS y3.heap.size wi _ ls := ⟨hown, hwl⟩
                        have HRS := Lib.hid hRS
                        clear hown hRS
                        go_wp2_with fail
                        go_ret
                        obtain ⟨ad, cap, hA⟩ := HRS.out.arg
                        exact ⟨_, rfl, ⟨ad, cap, hA⟩, hbW.trans ((B3.trans (hbi.mono B3.size)).mono hbW.size)⟩
                  · skip
                    by_cases hx20 : o = 20
                    · subst hx20
                      go_wp2_with fail
                      go_loopw [7, 9] (fun u i wi => ∃ k : Nat, i = .int .i64 (k : Int) ∧ k ≤ m ∧ NumS y3.heap.size wi u ((List.range k).map fun i : Nat => (i : Int)) ∧ Below y3.heap.size y3 wi) (fun _ i _ => m - (intOf i).toNat)
                      case atStart => exact ⟨0, by simp, Nat.zero_le _, World.ownsRow_nil _ _ _ _, Below.refl _ _⟩
                      case round =>
                        rename World => wi
                        obtain ⟨k, rfl, hk, hown, hbi⟩ := hrel
                        have hszi := hbi.size
                        have hkl : ((List.range k).map fun i : Nat => (i : Int)).length = k := by simp
                        have hnx : ((List.range (k + 1)).map fun i : Nat => (i : Int)) = ((List.range k).map fun i : Nat => (i : Int)) ++ [(k : Int)] := by rw [List.range_succ, List.map_append]; rfl
                        obtain ⟨zs, hzs⟩ : ∃ zs, ((List.range k).map fun i : Nat => (i : Int)) = zs := ⟨_, rfl⟩
                        rw [hzs] at hown hnx hkl
                        have HZS := Lib.hid hzs
                        have HKL := Lib.hid hkl
                        have HNX := Lib.hid hnx
                        by_cases hlt : k < m
                        · have ht : (k : Int) < (m : Int) := by omega
                          obtain ⟨av1, cv1, rfl⟩ := ownT_slice11 hown
                          have hz4 : zs.length ≤ 4 := by rw [hkl]; omega
                          clear hzs hnx hkl
                          go_wp2_with (at_builtin; (refine wpList_append_own _ rfl _ _ 35 rfl y3.heap.size 3 iS (.int .i64 0) 1 8 Try.underlying35 hiS hzA hzB hzC rfl (by decide) _ zs.length (zs.map (Value.int .i64)) rfl (hown.later ((Below.refl _ _).alloc (Nat.le_refl _) _)) ⟨wi.heap.size, 0, none⟩ 1 1 [.int .i64 ((k : Int))] rfl rfl (cell_one_new _ _ _) (by simp [Value.oneCell']) (by unfold maxLen; omega) (by omega) (by simp; omega) ?_; intro v' w6 hown' hgrow _))
                          have hb6 : Below y3.heap.size y3 w6 := (hbi.alloc hszi _).grown hgrow (by simp; omega) (fun q hq => (World.ownsRow.lt hown q hq).1)
                          have hN6 : NumS y3.heap.size w6 v' ((List.range (k + 1)).map fun i : Nat => (i : Int)) := by
                            rw [HNX.out]
                            unfold NumS
                            rw [List.length_append, List.map_append]
                            exact hown'
                          have HN6 := Lib.hid hN6
                          clear hN6 hown' hgrow
                          (try go_wp2_with fail)
                          go_roundw
                          case rel => exact ⟨k + 1, by go_num, by omega, HN6.out, hb6⟩
                          case measure => simp [intOf]; omega
                        · obtain rfl : k = m := by omega
                          have ht : ¬ (k : Int) < (k : Int) := by omega
                          have hls : ls = zs := by
                            rw [← HME.out, ← HZS.out]
                            show fwdI (k : Int) = _
                            unfold fwdI
                            rw [Int.toNat_natCast]
                          subst hls
                          have hwl : Wid ls := HWL.out
                          have hRS : ResS y3.heap.size wi _ ls := ⟨hown, hwl⟩
                          have HRS := Lib.hid hRS
                          clear hown hRS
                          go_wp2_with fail
                          go_ret
                          obtain ⟨ad, cap, hA⟩ := HRS.out.arg
                          exact ⟨_, rfl, ⟨ad, cap, hA⟩, hbW.trans ((B3.trans (hbi.mono B3.size)).mono hbW.size)⟩
                    · skip
                      have hno : noneB v o = false := by
                        unfold noneB
                        rw [if_neg (by omega), if_neg (by omega)]
                      rw [HTN.out] at hno
                      cases hno
end
section
open Go.RowKit
set_option linter.unusedVariables false
set_option linter.unusedSimpArgs false
theorem meantO_len (o : Int) {r : Int} (h0 : 0 ≤ r) (h4 : r ≤ 4) : (meantO o r).length ≤ 4 := by
  unfold meantO
  split
  · simp
  · split
    · simp
    · split
      · rw [bwdI_len]; omega
      · rw [fwdI_len]; omega
theorem expO_len {v o r : Int} {n : Nat} {xs : List Int} (h : xs.length ≤ 17592186044416) : (expO v o n xs r).length ≤ 17592186044416 := by
  unfold expO
  split
  · have := meantO_len o (rkI_in r).1 (rkI_in r).2
    omega
  · exact h
set_option maxRecDepth 100000 in
set_option maxHeartbeats 40000000 in
theorem opExplicit_walk (v : Int) {v0 : Value} {o : Int} {ys xs : List Int} {a1 a2 : Option Addr} {c1 c2 : Nat} {u : Value} {rs : List Int} {a3 : Option Addr} {c3 : Nat} (w : World) (N : NodeA w v0 o ys xs a1 c1 a2 c2) (hy0 : ys.length ≤ 17592186044416) (hx0 : xs.length ≤ 17592186044416) (D : ArgS w u rs a3 c3) (n3 : a3 = none → c3 = 0) (hr0 : rs.length ≤ 17592186044416) :
    Calls Try.prog 7 #[.int .i64 v, v0, u] w fun e w' => e = .returned (.bool true) ∧ Below w.heap.size w w' := by
  have HN := Lib.hid N
  obtain rfl := N.is
  obtain ⟨m1, hm1⟩ : ∃ m, ys.length = m := ⟨_, rfl⟩
  obtain ⟨m2, hm2⟩ : ∃ m, xs.length = m := ⟨_, rfl⟩
  have HM1 := Lib.hid hm1
  have HM2 := Lib.hid hm2
  have HD := Lib.hid D
  obtain rfl := D.is
  obtain ⟨m3, hm3⟩ : ∃ m, rs.length = m := ⟨_, rfl⟩
  have HM3 := Lib.hid hm3
  obtain ⟨W, hW⟩ : ∃ W, w.alloc (.cells #[.int .i64 o, .slice a1 m1 c1, .slice a2 m2 c2] 37) = W := ⟨_, rfl⟩
  have R0 : Row W w.heap.size 37 #[.int .i64 o, .slice a1 m1 c1, .slice a2 m2 c2] := by rw [← hW]; exact Row.new _ _ _
  have hbW : Below w.heap.size w W := by rw [← hW]; exact (Below.refl _ _).alloc (Nat.le_refl _) _
  obtain ⟨ls, hls⟩ : ∃ l, expO v o m1 xs (rs.getD 0 0) = l := ⟨_, rfl⟩
  have HLS := Lib.hid hls
  have HLB := Lib.hid (show ls.length ≤ 17592186044416 by rw [← hls]; exact expO_len hx0)
  have how := own_any (HN.out.later hbW) hy0 hx0
  rw [hm1, hm2] at how
  rw [hm1, hm2, hm3]
  have HOW := Lib.hid how
  obtain ⟨k0, k1, k2, _, _, _⟩ := R0.three
  clear how hls hm1 hm2 hm3 N D
  go_enter Try.func7, Try.ntmps7
  (try rw [hW])
  go_wp2_with fail
  (try rw [hW])
  clear hW
  refine HOW.out.mono ?_
  rintro e y1 ⟨r1, rfl, ho, hy⟩
  obtain ⟨d1, e1, d2, e2, rfl, hr1, hr2⟩ := ho
  have hbi0 := hr2.at_.2.1
  rw [HM1.out, HM2.out]
  rw [HM2.out] at hr2
  have HR2 := Lib.hid hr2
  obtain ⟨y2, hst⟩ : ∃ Y, y1.alloc (.cells #[.int .i64 o, .slice d1 m1 e1, .slice d2 m2 e2] 37) = Y := ⟨_, rfl⟩
  have R1 : Row y2 y1.heap.size 37 #[.int .i64 o, .slice d1 m1 e1, .slice d2 m2 e2] := by rw [← hst]; exact Row.new _ _ _
  have b12 : Below y1.heap.size y1 y2 := by rw [← hst]; exact (Below.refl _ _).alloc (Nat.le_refl _) _
  have B2 : Below W.heap.size W y2 := hy.trans (b12.mono hy.size)
  have HR3 := Lib.hid (hr2.later b12)
  clear k0 k1 k2 hr1 hr2 hy b12 hbi0
  obtain ⟨k0, k1, k2, _, _, _⟩ := (R0.later B2).three
  go_wp2_with fail
  (try rw [hst])
  clear hst
  have MK := Lib.hid (show ∀ X, Below y2.heap.size y2 X → (fun X => X.cell? ⟨y1.heap.size, 0, none⟩ = some (.int .i64 o) ∧ X.cell? ⟨y1.heap.size, 1, none⟩ = some (.slice d1 m1 e1) ∧ X.cell? ⟨y1.heap.size, 2, none⟩ = some (.slice d2 m2 e2)) X from fun X h => by
    obtain ⟨g0, g1, g2, _⟩ := (R1.later h).three
    exact ⟨g0, g1, g2⟩)
  have E0 : Below y2.heap.size y2 y2.drew := (Below.refl _ _).drew
  clear k0 k1 k2
  refine wp_region_held_drew (S := fun X => X.cell? ⟨y1.heap.size, 0, none⟩ = some (.int .i64 o) ∧ X.cell? ⟨y1.heap.size, 1, none⟩ = some (.slice d1 m1 e1) ∧ X.cell? ⟨y1.heap.size, 2, none⟩ = some (.slice d2 m2 e2)) (by kernel_rfl) (MK.out _ E0) (fun hHeld => ?_)
  obtain ⟨x0, hdr⟩ : ∃ Y, y2.drew = Y := ⟨_, rfl⟩
  rw [hdr] at E0 hHeld ⊢
  clear hdr
  refine todo [0, 1, 2] ?_
  iterate 3
   first
   | (refine todoH (v := ?_) rfl (by kernel_rfl) (fun _ _ _ h => h) (by assumption) (Or.inl ⟨by rfl, ?_⟩) ?_
      rotate_left
      · intro w hSw; (try dsimp only at hSw); go_simp; (try with_reducible rfl)
      try simp only [Act.put, List.getElem_toArray, List.getElem_cons_succ, List.getElem_cons_zero, List.setIfInBounds_toArray, List.set_cons_zero, List.set_cons_succ])
   | (refine todoH (v := undef) rfl (by kernel_rfl) (fun _ _ _ h => h) (by assumption) (Or.inr ⟨by rfl, rfl⟩) ?_
      try simp only [Act.put, List.getElem_toArray, List.getElem_cons_succ, List.getElem_cons_zero, List.setIfInBounds_toArray, List.set_cons_zero, List.set_cons_succ])
  refine todone ?_
  have hDx := HD.out.later (hbW.trans ((B2.trans (E0.mono B2.size)).mono hbW.size))
  rw [HM3.out] at hDx
  refine wpAnyH_ready (rs := [3]) (by kernel_rfl) (by simp) ?_
  refine AllReadyH.cons rfl (fun K hK => ?se_3) AllReadyH.nil
  refine step_copyK rfl 15 35 Try.underlying35 rfl (u := .slice a3 m3 c3) rfl hDx n3 hr0 ?_
  intro v1 x1 q1 hy
  obtain ⟨ad1, cp1, rfl, q2⟩ := res_slice11 q1
  have hq3 := q2.at_
  have E1 : Below y2.heap.size y2 x1 := E0.trans (hy.mono E0.size)
  have HE1 := Lib.hid E1
  rw [HM3.out] at q2 ⊢
  have HQ := Lib.hid hq3.2.1
  clear hy q1 q2 hq3 hDx
  refine hK.out _ _ (MK.out _ E1) (fun hHeld2 => ?me_3)
  clear hK K hHeld
  have hHeld := hHeld2
  clear hHeld2
  try simp only [Act.put, List.getElem_toArray, List.getElem_cons_succ, List.getElem_cons_zero, List.setIfInBounds_toArray, List.set_cons_zero, List.set_cons_succ]
  have hm2l := (HR3.out.later E1)
  rw [← HM2.out] at hm2l
  have hex := explicit_any v hm2l.at_.2.1 hm2l.at_.2.2 hx0 HQ.out hr0 (o := o) (a1 := d1) (n1 := m1) (c1 := e1)
  rw [HLS.out, HM2.out, HM3.out] at hex
  have HEX := Lib.hid hex
  clear hm2l hex
  refine wpAnyH_ready (rs := [4]) (by kernel_rfl) (by simp) ?_
  refine AllReadyH.cons rfl (fun K hK => ?se_4) AllReadyH.nil
  go_simp
  refine HEX.out.mono ?_
  rintro e x2 ⟨rl, rfl, hrl, hy⟩
  have E2 : Below y2.heap.size y2 x2 := E1.trans (hy.mono E1.size)
  obtain ⟨adl, cpl, rfl, hrl2⟩ := res_slice11 hrl
  obtain ⟨ll, hll⟩ : ∃ n, ls.length = n := ⟨_, rfl⟩
  have HLL := Lib.hid hll
  have hllb : ll ≤ 17592186044416 := by rw [← hll]; exact HLB.out
  rw [hll] at hrl2 ⊢
  have HRL := Lib.hid hrl2
  have HX12 := Lib.hid hy
  clear hrl hrl2 hll hy
  go_simp
  refine hK.out _ _ (MK.out _ E2) (fun hHeld2 => ?me_4)
  clear hK K hHeld
  have hHeld := hHeld2
  clear hHeld2
  try simp only [Act.put, List.getElem_toArray, List.getElem_cons_succ, List.getElem_cons_zero, List.setIfInBounds_toArray, List.set_cons_zero, List.set_cons_succ]
  refine todo [5] ?_
  iterate 1
   first
   | (refine todoH (v := ?_) rfl (by kernel_rfl) (fun _ _ _ h => h) (by assumption) (Or.inl ⟨by rfl, ?_⟩) ?_
      rotate_left
      · intro w hSw; (try dsimp only at hSw); go_simp; (try with_reducible rfl)
      try simp only [Act.put, List.getElem_toArray, List.getElem_cons_succ, List.getElem_cons_zero, List.setIfInBounds_toArray, List.set_cons_zero, List.set_cons_succ])
   | (refine todoH (v := undef) rfl (by kernel_rfl) (fun _ _ _ h => h) (by assumption) (Or.inr ⟨by rfl, rfl⟩) ?_
      try simp only [Act.put, List.getElem_toArray, List.getElem_cons_succ, List.getElem_cons_zero, List.setIfInBounds_toArray, List.set_cons_zero, List.set_cons_succ])
  refine todone ?_
  refine wpAnyH_done (by kernel_rfl) ?_ _
  (try dsimp only [Straight])
  obtain ⟨rk, hrk⟩ : ∃ r, rs.getD 0 0 = r := ⟨_, rfl⟩
  have HRK := Lib.hid hrk
  clear hrk hHeld
  have bx2 : Below w.heap.size w x2 := hbW.trans ((B2.trans (E2.mono B2.size)).mono hbW.size)
  have hnx := HN.out.later bx2
  have hrex := explicitR_any v rk hnx.atts hnx.nil2 hx0 (o := o) (a1 := a1) (n1 := m1) (c1 := c1)
  rw [show expO v o m1 xs rk = ls by rw [← HRK.out]; exact HLS.out, HM2.out] at hrex
  have HREX := Lib.hid hrex
  obtain ⟨k0, k1, k2, _, _, _⟩ := (R0.later (B2.trans (E2.mono B2.size))).three
  clear hnx hrex
  by_cases hm0 : m3 = 0
  · subst hm0
    obtain rfl : rk = 0 := by rw [← HRK.out, List.eq_nil_of_length_eq_zero HM3.out]; rfl
    go_wp2_with fail
    refine HREX.out.mono ?_
    rintro e y3 ⟨r', rfl, ⟨adr, cpr, hAr⟩, hy⟩
    have B3 : Below x2.heap.size x2 y3 := hy
    have hAl := (HRL.out.later B3).at_
    have hss := sameSh_any hAl.2.1 hAr (by have h1 := HLB.out; omega)
    rw [decide_eq_true (show ls = ls from rfl)] at hss
    have HSS := Lib.hid hss
    obtain rfl := hAr.is
    clear hAl hss hy hAr
    go_wp2_with fail
    refine HSS.out.mono ?_
    rintro e y4 ⟨rfl, hy⟩
    have C4 : Below x1.heap.size x1 y4 := (HX12.out.trans (B3.mono HX12.out.size)).trans (hy.mono (Nat.le_trans HX12.out.size B3.size))
    have HRL4 := Lib.hid (HRL.out.num.later (B3.trans (hy.mono B3.size)))
    clear hy k0 k1 k2
    go_wp2_with fail
    go_loopw [10] (fun i wi => ∃ (k : Nat) (zs : List Int), i = .int .i64 (k : Int) ∧ k ≤ ll ∧ zs.length = ll ∧ NumS x1.heap.size wi (.slice adl ll cpl) zs ∧ Below x1.heap.size x1 wi) (fun i _ => ll - (intOf i).toNat)
    case atStart => exact ⟨0, ls, rfl, Nat.zero_le _, HLL.out, HRL4.out, C4⟩
    case round =>
      rename World => wi
      obtain ⟨k, zs, rfl, hk, hzl, hN, hbi⟩ := hrel
      have HZL := Lib.hid hzl
      by_cases hlt : k < ll
      · have hltI : (k : Int) < (ll : Int) := by omega
        have hk0 : (0 : Int) ≤ (k : Int) := by omega
        obtain ⟨g, cap, hv, hbg, hcap, hP⟩ := hN.partS (fun h => by rw [h] at hzl; simp at hzl; omega)
        simp only [Value.slice.injEq] at hv
        obtain ⟨hv1, _, hv3⟩ := hv
        have hc := hP.cell k (by omega)
        have hf := hP.free k
        obtain ⟨x, hx⟩ : ∃ x, zs.getD k 0 = x := ⟨_, rfl⟩
        rw [hx] at hc
        obtain ⟨z, hz⟩ : ∃ z, IntKind.i64.wrap (x + 1) = z := ⟨_, rfl⟩
        have hP1 := hP.set k (by omega) z
        have hN1 := hP1.num hbg hcap
        rw [List.length_set, hzl, ← hv1, ← hv3] at hN1
        have HN1 := Lib.hid hN1
        have HBE := Lib.hid (hbi.setCell hbg (p := ⟨g, k, none⟩) (.int .i64 z))
        rw [hv1]
        rw [hv1] at HN1
        clear hN1 hP1 hP hN hx hzl
        go_wp2_with fail
        go_roundw
        case rel => exact ⟨k + 1, zs.set k z, by go_num, by omega, by rw [List.length_set, HZL.out], HN1.out, HBE.out⟩
        case measure => simp [intOf]; omega
      · obtain rfl : k = ll := by omega
        have hltI : ¬ (k : Int) < (k : Int) := by omega
        have bE1 : Below y2.heap.size y2 wi := HE1.out.trans (hbi.mono HE1.out.size)
        have bW : Below W.heap.size W wi := B2.trans (bE1.mono B2.size)
        obtain ⟨k0, k1, k2, _, _, _⟩ := (R0.later bW).three
        obtain ⟨j0, j1, j2, _, _, _⟩ := (R1.later bE1).three
        have hma := (HR3.out.later bE1).at_.2.1
        have hna := (HN.out.later (hbW.trans (bW.mono hbW.size))).atts
        rw [HM2.out] at hna
        have hss := sameSh_any hma hna (by omega)
        rw [decide_eq_true (show xs = xs from rfl)] at hss
        have HS2 := Lib.hid hss
        clear hma hna hss hN hzl
        go_wp2_with fail
        refine HS2.out.mono ?_
        rintro e y5 ⟨rfl, hy⟩
        have b5 : Below W.heap.size W y5 := bW.trans (hy.mono bW.size)
        clear hy
        go_wp2_with fail
        refine (known11_any _).mono ?_
        rintro e y6 ⟨rfl, hy⟩
        go_wp2_with fail
        go_ret
        exact ⟨rfl, hbW.trans ((b5.trans (hy.mono b5.size)).mono hbW.size)⟩
  · have hm0I : (m3 : Int) > 0 := by omega
    have hm0n : 0 < m3 := by omega
    obtain ⟨br, or_, rfl, hcr⟩ := (HD.out.later bx2).at (i := 0) (by rw [HM3.out]; exact hm0n)
    rw [HRK.out, Nat.add_zero] at hcr
    go_wp2_with fail
    refine HREX.out.mono ?_
    rintro e y3 ⟨r', rfl, ⟨adr, cpr, hAr⟩, hy⟩
    have B3 : Below x2.heap.size x2 y3 := hy
    have hAl := (HRL.out.later B3).at_
    have hss := sameSh_any hAl.2.1 hAr (by have h1 := HLB.out; omega)
    rw [decide_eq_true (show ls = ls from rfl)] at hss
    have HSS := Lib.hid hss
    obtain rfl := hAr.is
    clear hAl hss hy hAr
    go_wp2_with fail
    refine HSS.out.mono ?_
    rintro e y4 ⟨rfl, hy⟩
    have C4 : Below x1.heap.size x1 y4 := (HX12.out.trans (B3.mono HX12.out.size)).trans (hy.mono (Nat.le_trans HX12.out.size B3.size))
    have HRL4 := Lib.hid (HRL.out.num.later (B3.trans (hy.mono B3.size)))
    clear hy k0 k1 k2
    go_wp2_with fail
    go_loopw [10] (fun i wi => ∃ (k : Nat) (zs : List Int), i = .int .i64 (k : Int) ∧ k ≤ ll ∧ zs.length = ll ∧ NumS x1.heap.size wi (.slice adl ll cpl) zs ∧ Below x1.heap.size x1 wi) (fun i _ => ll - (intOf i).toNat)
    case atStart => exact ⟨0, ls, rfl, Nat.zero_le _, HLL.out, HRL4.out, C4⟩
    case round =>
      rename World => wi
      obtain ⟨k, zs, rfl, hk, hzl, hN, hbi⟩ := hrel
      have HZL := Lib.hid hzl
      by_cases hlt : k < ll
      · have hltI : (k : Int) < (ll : Int) := by omega
        have hk0 : (0 : Int) ≤ (k : Int) := by omega
        obtain ⟨g, cap, hv, hbg, hcap, hP⟩ := hN.partS (fun h => by rw [h] at hzl; simp at hzl; omega)
        simp only [Value.slice.injEq] at hv
        obtain ⟨hv1, _, hv3⟩ := hv
        have hc := hP.cell k (by omega)
        have hf := hP.free k
        obtain ⟨x, hx⟩ : ∃ x, zs.getD k 0 = x := ⟨_, rfl⟩
        rw [hx] at hc
        obtain ⟨z, hz⟩ : ∃ z, IntKind.i64.wrap (x + 1) = z := ⟨_, rfl⟩
        have hP1 := hP.set k (by omega) z
        have hN1 := hP1.num hbg hcap
        rw [List.length_set, hzl, ← hv1, ← hv3] at hN1
        have HN1 := Lib.hid hN1
        have HBE := Lib.hid (hbi.setCell hbg (p := ⟨g, k, none⟩) (.int .i64 z))
        rw [hv1]
        rw [hv1] at HN1
        clear hN1 hP1 hP hN hx hzl
        go_wp2_with fail
        go_roundw
        case rel => exact ⟨k + 1, zs.set k z, by go_num, by omega, by rw [List.length_set, HZL.out], HN1.out, HBE.out⟩
        case measure => simp [intOf]; omega
      · obtain rfl : k = ll := by omega
        have hltI : ¬ (k : Int) < (k : Int) := by omega
        have bE1 : Below y2.heap.size y2 wi := HE1.out.trans (hbi.mono HE1.out.size)
        have bW : Below W.heap.size W wi := B2.trans (bE1.mono B2.size)
        obtain ⟨k0, k1, k2, _, _, _⟩ := (R0.later bW).three
        obtain ⟨j0, j1, j2, _, _, _⟩ := (R1.later bE1).three
        have hma := (HR3.out.later bE1).at_.2.1
        have hna := (HN.out.later (hbW.trans (bW.mono hbW.size))).atts
        rw [HM2.out] at hna
        have hss := sameSh_any hma hna (by omega)
        rw [decide_eq_true (show xs = xs from rfl)] at hss
        have HS2 := Lib.hid hss
        clear hma hna hss hN hzl
        go_wp2_with fail
        refine HS2.out.mono ?_
        rintro e y5 ⟨rfl, hy⟩
        have b5 : Below W.heap.size W y5 := bW.trans (hy.mono bW.size)
        clear hy
        go_wp2_with fail
        refine (known11_any _).mono ?_
        rintro e y6 ⟨rfl, hy⟩
        go_wp2_with fail
        go_ret
        exact ⟨rfl, hbW.trans ((b5.trans (hy.mono b5.size)).mono hbW.size)⟩
end
section
open Go.RowKit
open Go.ChangeShapes Go.WideShapes Go.ChangeAt
set_option linter.unusedVariables false
set_option linter.unusedSimpArgs false
set_option maxRecDepth 100000
namespace opExplicit
theorem contract (H : Type) (enc : TypeId × Value → H) (W : World) (base : Nat) (args : Array Value) (ds gs : List (DataW H)) (before : List MemPlace)
    (hval : ∀ (j : Nat) t v, Try.f7.params[j]? = some t → args[j]? = some v → Value.okWide Try.prog W .any base t v)
    (hW : DataW.Whole enc Try.prog Try.f7.params.toList Rows.opExplicitSpec.vars false W args.toList ds gs before) (hsz0 : (DataW.weightsEach Try.prog (Try.f7.params.toList ++ Rows.opExplicitSpec.plain.varTypes Try.prog) (ds ++ gs)).all (· ≤ reachBytes) = true) :
    Calls Try.prog 7 args W fun e W' => ∃ v, e = .returned v ∧ Rows.opExplicitSpec.post enc Try.prog Try.f7 false true false false W args v W' := by
  have hW' := hW
  have hlt := fun p hp => hW'.lt p hp
  have hsz : (DataW.weightsEach Try.prog (Try.f7.params.toList ++ []) (ds ++ gs)).all (· ≤ reachBytes) = true := hsz0
  obtain ⟨p, q, hA0, hV, rfl, hfz, hnd⟩ := hW
  have hA : DataW.TrodAll enc Try.prog W 0 (fun _ => true) true Try.f7.params.toList args.toList ds p := hA0
  rw [Try.params7] at hA hval hsz
  obtain ⟨v0, vs0, d0, ds0, p0, q0, ha0, rfl, rfl, h0, r0⟩ := trodAll_cons hA
  obtain ⟨v1, vs1, d1, ds1, p1, q1, ha1, rfl, rfl, h1, r1⟩ := trodAll_cons r0
  obtain ⟨v2, vs2, d2, ds2, p2, q2, ha2, rfl, rfl, h2, r2⟩ := trodAll_cons r1
  obtain ⟨rfl, rfl, rfl⟩ := trodAll_nil r2
  subst ha1
  subst ha2
  obtain rfl : args = #[v0, v1, v2] := by cases args; simp_all
  obtain ⟨rfl, rfl⟩ := trodVars_none hV
  clear hA hA0 hV
  obtain ⟨i0, rfl, rfl, rfl, w0⟩ := open_int Try.underlying3 (hval 0 3 v0 rfl rfl) h0
  simp only [List.append_nil] at hW' hlt hsz
  (try simp only [List.nil_append] at hW' hlt hsz)
  obtain ⟨o1, ys1, xs1, a1, ca1, b1, cb1, N1, ly1, lx1⟩ := open_node (hval 1 37 v1 rfl rfl) h1 (fun n hn => by simpa using List.all_eq_true.1 hsz n (DataW.weights_mem_each (j := 1) rfl rfl n hn))
  obtain ⟨aa2, nn2, cc2, hv2⟩ := okWide_slice Try.underlying35 (hval 2 35 v2 rfl rfl)
  subst hv2
  obtain ⟨f2, g2⟩ := id h2
  obtain ⟨a2, xs2, ca2, e2, A2, l2, n2⟩ := open_intsW (v := .slice aa2 nn2 cc2) (y := (d2, p2)) Try.underlying35 g2
  obtain ⟨rfl, rfl, rfl⟩ : aa2 = a2 ∧ nn2 = xs2.length ∧ cc2 = ca2 := by simpa using e2
  have hw2 : ∀ n ∈ DataW.weights Try.prog 35 d2, n ≤ reachBytes := (fun n hn => by simpa using List.all_eq_true.1 hsz n (DataW.weights_mem_each (j := 2) rfl rfl n hn))
  have L2 : xs2.length ≤ 17592186044416 := by
    rw [show reachBytes = 140737488351232 by decide] at hw2
    rcases l2 with h | h | ⟨m, h1, h2⟩
    · omega
    · have := hw2 _ h; omega
    · have := hw2 _ h2; omega
  refine (opExplicit_walk i0 W N1 (by omega) (by omega) A2 n2 L2).mono fun e W' ⟨he, hb⟩ => ?_
  subst he
  have t1 := Below.trod laid8 (by kernel_rfl) (of_decide_eq_true (by kernel_rfl)) h1 hb (fun x hx => hlt x (by simp [hx]))
  have t2 := Below.trod laid8 (by kernel_rfl) (of_decide_eq_true (by kernel_rfl)) h2 hb (fun x hx => hlt x (by simp [hx]))
  exact ⟨_, rfl, [.lit (.int .i64 i0), d1, d2], [], (p1 ++ p2), [], ([] ++ (p1 ++ (p2 ++ []))), [], hW', trodAll_cons_mk (shut_bool Try.underlying4 _) trodAll_mk0,
    (trodAll_cons_mk (shut_int Try.underlying3 w0) (trodAll_cons_mk t1 (trodAll_cons_mk t2 trodAll_mk0))), rfl, hb.frame _, fun h => by cases h⟩
set_option maxRecDepth 100000 in
theorem lifted (os : Os) (started : os.Started) (H : Type) (enc : TypeId × Value → H) :
    ReturnsInHanded {} Try.checked os 7 .any (Rows.opExplicitSpec.pre6 enc Try.prog Try.f7 Rows.opExplicitRow.domain false) (Rows.opExplicitSpec.post enc Try.prog Try.f7 false true false false) := by
  refine returnsInHanded_of_change_sized (C := Try.checked) own started (by kernel_rfl) Try.func7
    (ChangeSpec.witness6 (enc := enc) (C := Try.checked) false ⟨#[], #[.int .i64 0, .agg #[.int .i64 0, .slice none 0 0, .slice none 0 0], .slice none 0 0], []⟩ 8 (by kernel_rfl) (by kernel_rfl) (by kernel_rfl) (by kernel_rfl)) ?_
  intro W base args ds gs before hval hW _ hsz0 _
  exact contract H enc W base args ds gs before hval hW hsz0
theorem proved : Rows.OpExplicitSaid :=
  OpenClaim.holds_of_wide 7 Try.f7 rfl rfl rfl rfl rfl rfl rfl ⟨rfl, rfl, rfl, rfl, rfl⟩ rfl rfl rfl rfl rfl (by kernel_rfl) Try.func7 (by kernel_rfl)
    (of_decide_eq_true (by kernel_rfl)) (by unfold Func.isWrapper; first | (rw [if_pos (by decide +kernel)]; kernel_rfl) | (rw [if_neg (by decide +kernel)]; exact ⟨rfl, rfl⟩))
    (fun os started H enc _ => lifted os started H enc)
end opExplicit
end
end Go.Proofs.Ytnhbngeipedplaa
