/-
  Part 15 of 21: contracts and what they rest on (ORef3, ORef4).
-/
import Derived.Test.YtdcggcfgkhlblaaL1
import Derived.Test.YtdcggcfgkhlblaaL3
import Derived.Test.YtdcggcfgkhlblaaL5
import Derived.Test.YtdcggcfgkhlblaaL6
import Derived.Test.YtdcggcfgkhlblaaL8
import Derived.Test.YtdcggcfgkhlblaaL10
import Derived.Test.YtdcggcfgkhlblaaL11
import Derived.Test.YtdcggcfgkhlblaaL13
import Derived.WalkKit
import Derived.Test.YtdcggcfgkhlblaaRows
import Derived.OrdersHeld
import Derived.Deep.RegionHeld
import Derived.BigQuiet
import Derived.Deep.QuietTactic
import Derived.Lib.Hide
import Derived.Lib.Small
import Derived.Lib.Walk
import Derived.Lib.BitFns
import Derived.Maps.AppendAt
import Derived.RangeFuncNested
import Derived.RangeFuncBound
import Derived.RangeFuncCalls
import Derived.RangeFuncLeaves
import Derived.Shelf.Abstract
import Derived.OwnWalkIn
import Derived.TacticsInMore
import Derived.LoopNIn
import Derived.LoopIn
import Derived.RangeFuncBox
import Derived.Deep.RegionHeld3
import Derived.OrdersIn
import Derived.StillTailTactics
import Derived.RangeFuncFrom
import Derived.Laws.EntriesVeiled
import Derived.ProofKit
import Derived.OpenShut
import Derived.JoinedCond
import Derived.Carry
import Derived.Laws.AppendOwnNone
import Derived.Lib.ItoaNum
import Derived.Deep.RegionLaw
import Derived.WalkMore
import Derived.Lib.SmallJoins
import Derived.IntWalk
import Derived.Deep.DeepCutAuto
import Derived.Laws.OwnMore
import Derived.ArgAppend
import Derived.Deep.Slices
import Derived.Laws.CopyOwn
import Derived.Lib.SliceRun
import Derived.SizedLaws
import Derived.Great.BuildSlice
namespace Go.Proofs.Ytdcggcfgkhlblaa
set_option maxRecDepth 100000
section
open Go.RowKit
set_option linter.unusedVariables false
set_option linter.unusedSimpArgs false
set_option maxRecDepth 100000 in
set_option maxHeartbeats 8000000 in
theorem checkR_any (v : Int) {o : Int} {xs : List Int} {a1 a2 : Option Addr} {n1 c1 c2 : Nat} {w : World} (A : ArgS w (.slice a2 xs.length c2) xs a2 c2) (na : a2 = none → c2 = 0) (hx : xs.length ≤ 17592186044416) : Calls Try.prog 14 #[.int .i64 v, .agg #[.int .i64 o, .slice a1 n1 c1, .slice a2 xs.length c2]] w fun e w' => e = .returned (.int .i64 (chkO v o n1 xs)) ∧ Below w.heap.size w w' := by
  have HA := Lib.hid A
  obtain ⟨c, hc⟩ : ∃ c, chkO v o n1 xs = c := ⟨_, rfl⟩
  rw [hc]
  have HC := Lib.hid hc
  obtain ⟨L, hL⟩ : ∃ L, xs.length = L := ⟨_, rfl⟩
  have HL := Lib.hid hL
  have hat := fun X (hX : Below w.heap.size w X) => attrsR_any o (A.later hX) hx
  rw [hL] at hx hat ⊢
  obtain ⟨ta, hta⟩ : ∃ t, attB o xs = t := ⟨_, rfl⟩
  rw [hta] at hat
  have HTA := Lib.hid hta
  have HAT := Lib.hid hat
  obtain ⟨W, hW⟩ : ∃ W, w.alloc (.cells #[.int .i64 o, .slice a1 n1 c1, .slice a2 L c2] 25) = W := ⟨_, rfl⟩
  have R0 : Row W w.heap.size 25 #[.int .i64 o, .slice a1 n1 c1, .slice a2 L c2] := by rw [← hW]; exact Row.new _ _ _
  have hbW : Below w.heap.size w W := by rw [← hW]; exact (Below.refl _ _).alloc (Nat.le_refl _) _
  have B0 : Below W.heap.size W W := Below.refl _ _
  obtain ⟨k0, k1, k2, _, _, _⟩ := R0.three
  clear hc hL A hta hat
  by_cases hv : 1 ≤ v ∧ v ≤ 3
  case neg =>
    obtain rfl : c = 8 := by rw [← HC.out]; exact chk8 (decide_eq_false hv)
    by_cases h1 : v < 1
    · clear hv
      go_enter Try.func14, Try.ntmps14
      (try rw [hW])
      go_wp2_with fail
      go_ret
      exact ⟨rfl, hbW⟩
    · have h2 : v > 3 := by omega
      clear hv
      go_enter Try.func14, Try.ntmps14
      (try rw [hW])
      go_wp2_with fail
      go_ret
      exact ⟨rfl, hbW⟩
  case pos =>
    have h1 : ¬ v < 1 := by omega
    have h2 : ¬ v > 3 := by omega
    have HV := Lib.hid hv
    have HV3 := Lib.hid (show hasB 1 3 v = true from decide_eq_true hv)
    obtain ⟨tv, htv⟩ : ∃ t, verO o v = t := ⟨_, rfl⟩
    have HTV := Lib.hid htv
    clear hv htv
    go_enter Try.func14, Try.ntmps14
    (try rw [hW])
    go_wp2_with fail
    (try rw [hW])
    clear hW
    refine (inR_any o v _).mono ?_
    rintro e y1 ⟨rfl, hy⟩
    have B1 : Below W.heap.size W y1 := B0.trans (hy.mono B0.size)
    clear k0 k1 k2 hy
    obtain ⟨k0, k1, k2, _, _, _⟩ := (R0.later B1).three
    rw [HTV.out]
    cases tv with
    | false =>
      obtain rfl : c = 9 := by rw [← HC.out]; exact chk9 HV3.out HTV.out
      go_wp2_with fail
      go_ret
      exact ⟨rfl, hbW.trans (B1.mono hbW.size)⟩
    | true =>
      have hin : inO o = true := by
        have h := HTV.out
        unfold verO at h
        rw [Bool.and_eq_true] at h
        exact h.1
      have HIN := Lib.hid hin
      obtain ⟨al, hal⟩ : ∃ t, (rowO o).al = t := ⟨_, rfl⟩
      obtain ⟨ah, hah⟩ : ∃ t, (rowO o).ah = t := ⟨_, rfl⟩
      have HAL := Lib.hid hal
      have HAH := Lib.hid hah
      clear hin hal hah
      go_wp2_with fail
      refine (arityR_any o _).mono ?_
      rintro e y2 ⟨rfl, hy⟩
      rw [HAL.out, HAH.out]
      have B2 : Below W.heap.size W y2 := B1.trans (hy.mono B1.size)
      clear k0 k1 k2 hy
      obtain ⟨k0, k1, k2, _, _, _⟩ := (R0.later B2).three
      by_cases hn : al ≤ (n1 : Int) ∧ (n1 : Int) ≤ ah
      case neg =>
        obtain rfl : c = 10 := by rw [← HC.out]; exact chk10 HV3.out HTV.out (by rw [HAL.out, HAH.out]; exact decide_eq_false hn)
        by_cases h3 : (n1 : Int) < al
        · clear hn
          go_wp2_with fail
          go_ret
          exact ⟨rfl, hbW.trans (B2.mono hbW.size)⟩
        · have h4 : (n1 : Int) > ah := by omega
          clear hn
          go_wp2_with fail
          go_ret
          exact ⟨rfl, hbW.trans (B2.mono hbW.size)⟩
      case pos =>
        have h3 : ¬ (n1 : Int) < al := by omega
        have h4 : ¬ (n1 : Int) > ah := by omega
        have HN := Lib.hid (show hasB (rowO o).al (rowO o).ah (n1 : Int) = true by rw [HAL.out, HAH.out]; exact decide_eq_true hn)
        obtain ⟨tn, htn⟩ : ∃ t, noneB v o = t := ⟨_, rfl⟩
        have HTN := Lib.hid htn
        have HLE := Lib.hid (show leaveB o v xs = (decide (L = 0) && tn) by rw [none_is HIN.out HV.out.1 HV.out.2 xs, HL.out, htn])
        clear hn htn
        by_cases h0 : L = 0
        · subst h0
          go_wp2_with fail
          refine (noneR_any v o _).mono ?_
          rintro e y3 ⟨rfl, hy⟩
          have B3 : Below W.heap.size W y3 := B2.trans (hy.mono B2.size)
          clear k0 k1 k2 hy
          obtain ⟨k0, k1, k2, _, _, _⟩ := (R0.later B3).three
          rw [HTN.out]
          cases tn with
          | true =>
            obtain rfl : c = 0 := by rw [← HC.out]; exact chk0 HV3.out HTV.out HN.out (.inl (by rw [HLE.out]; rfl))
            go_wp2_with fail
            go_ret
            exact ⟨rfl, hbW.trans (B3.mono hbW.size)⟩
          | false =>
            go_wp2_with fail
            refine (HAT.out _ (hbW.trans (B3.mono hbW.size))).mono ?_
            rintro e y4 ⟨rfl, hy⟩
            have B4 : Below W.heap.size W y4 := B3.trans (hy.mono B3.size)
            clear k0 k1 k2 hy
            obtain ⟨k0, k1, k2, _, _, _⟩ := (R0.later B4).three
            cases ta with
            | true =>
              obtain rfl : c = 0 := by rw [← HC.out]; exact chk0 HV3.out HTV.out HN.out (.inr HTA.out)
              go_wp2_with fail
              go_ret
              exact ⟨rfl, hbW.trans (B4.mono hbW.size)⟩
            | false =>
              obtain rfl : c = 11 := by rw [← HC.out]; exact chk11 HV3.out HTV.out HN.out (by rw [HLE.out]; rfl) HTA.out
              go_wp2_with fail
              go_ret
              exact ⟨rfl, hbW.trans (B4.mono hbW.size)⟩
        · have h0I : ((L : Int) == 0) = false := by simp; omega
          have HLF := Lib.hid (show leaveB o v xs = false by rw [HLE.out, decide_eq_false h0]; rfl)
          go_wp2_with fail
          refine (HAT.out _ (hbW.trans (B2.mono hbW.size))).mono ?_
          rintro e y3 ⟨rfl, hy⟩
          have B3 : Below W.heap.size W y3 := B2.trans (hy.mono B2.size)
          clear k0 k1 k2 hy
          obtain ⟨k0, k1, k2, _, _, _⟩ := (R0.later B3).three
          cases ta with
          | true =>
            obtain rfl : c = 0 := by rw [← HC.out]; exact chk0 HV3.out HTV.out HN.out (.inr HTA.out)
            go_wp2_with fail
            go_ret
            exact ⟨rfl, hbW.trans (B3.mono hbW.size)⟩
          | false =>
            obtain rfl : c = 11 := by rw [← HC.out]; exact chk11 HV3.out HTV.out HN.out HLF.out HTA.out
            go_wp2_with fail
            go_ret
            exact ⟨rfl, hbW.trans (B3.mono hbW.size)⟩
theorem ownT_slice11 {base : Nat} {w : World} {v : Value} {xs : List Int} (h : NumS base w v xs) : ∃ ad cap, v = .slice ad xs.length cap := by
  obtain ⟨ad, cap, h1, _⟩ := h.read
  exact ⟨ad, cap, h1⟩
end
section
open Go.RowKit
set_option linter.unusedVariables false
set_option linter.unusedSimpArgs false
theorem litRes {base : Nat} (w : World) (x : Int) (h : base ≤ w.heap.size) (hw : -9223372036854775808 ≤ x ∧ x ≤ 9223372036854775807) : ResS base (w.alloc (.cells #[.int .i64 x] 3)) (.slice (some ⟨w.heap.size, 0, none⟩) 1 1) [x] :=
  ⟨⟨rfl, .inr ⟨w.heap.size, 1, #[.int .i64 x], rfl, h, heap_alloc_new w _, Nat.le_refl _, by unfold maxLen; omega, by simp, by simp⟩⟩, Wid.one hw⟩
set_option maxRecDepth 100000 in
set_option maxHeartbeats 40000000 in
theorem explicitRn_any (v rk : Int) {o : Int} {xs : List Int} {a1 a2 : Option Addr} {n1 c1 c2 : Nat} {w : World} (A : ArgS w (.slice a2 xs.length c2) xs a2 c2) (na : a2 = none → c2 = 0) (hx : xs.length ≤ 17592186044416) : Calls Try.prog 16 #[.int .i64 v, .agg #[.int .i64 o, .slice a1 n1 c1, .slice a2 xs.length c2], .int .i64 rk] w fun e w' => ∃ r, e = .returned r ∧ ((r = .slice a2 xs.length c2 ∧ expO v o n1 xs rk = xs) ∨ ResS w.heap.size w' r (expO v o n1 xs rk)) ∧ Below w.heap.size w w' := by
  obtain ⟨iS, hiS, hzA, hzB, hzC⟩ := info_parts infoS
  have HA := Lib.hid A
  obtain ⟨ls, hls⟩ : ∃ l, expO v o n1 xs rk = l := ⟨_, rfl⟩
  rw [hls]
  have HLE0 := Lib.hid hls
  clear hls
  obtain ⟨c, hc⟩ : ∃ c, chkO v o n1 xs = c := ⟨_, rfl⟩
  have HC := Lib.hid hc
  obtain ⟨L, hL⟩ : ∃ L, xs.length = L := ⟨_, rfl⟩
  have HL := Lib.hid hL
  obtain ⟨W, hW⟩ : ∃ W, w.alloc (.cells #[.int .i64 o, .slice a1 n1 c1, .slice a2 L c2] 25) = W := ⟨_, rfl⟩
  have R0 : Row W w.heap.size 25 #[.int .i64 o, .slice a1 n1 c1, .slice a2 L c2] := by rw [← hW]; exact Row.new _ _ _
  have hbW : Below w.heap.size w W := by rw [← hW]; exact (Below.refl _ _).alloc (Nat.le_refl _) _
  have hck := checkR_any v (A.later hbW) na hx (o := o) (a1 := a1) (n1 := n1) (c1 := c1)
  rw [hL] at hx ⊢
  rw [hc, hL] at hck
  have HCK := Lib.hid hck
  obtain ⟨k0, k1, k2, _, _, _⟩ := R0.three
  clear hc hL A hck
  by_cases hc0 : c = 0
  case neg =>
    have hcI : (c != 0) = true := by simp [hc0]
    have HXS := Lib.hid (show xs = ls by rw [← HLE0.out]; unfold expO; exact (if_neg (fun h => hc0 (by rw [← HC.out]; exact h.1))).symm)
    go_enter Try.func16, Try.ntmps16
    (try rw [hW])
    go_wp2_with fail
    (try rw [hW])
    clear hW
    refine HCK.out.mono ?_
    rintro e y1 ⟨rfl, hy⟩
    clear k0 k1 k2
    obtain ⟨k0, k1, k2, _, _, _⟩ := (R0.later hy).three
    go_wp2_with fail
    go_ret
    exact ⟨_, rfl, .inl ⟨rfl, HXS.out.symm⟩, hbW.trans (hy.mono hbW.size)⟩
  case pos =>
    subst hc0
    obtain ⟨hin, hv1⟩ := chk_in HC.out
    have hv3 : v ≤ 3 := by
      have h := HC.out
      unfold chkO at h
      split at h
      · cases h
      · omega
    have HLV := Lib.hid (none_is hin hv1 hv3 xs)
    have HIN := Lib.hid hin
    clear hin hv1 hv3
    by_cases h0 : L = 0
    case neg =>
      have h0I : (L : Int) > 0 := by omega
      have HXS := Lib.hid (show xs = ls by rw [← HLE0.out]; unfold expO; exact (if_neg (fun h => h0 (by have h2 := (of_decide_eq_true h.2).1; rw [HL.out] at h2; exact h2))).symm)
      go_enter Try.func16, Try.ntmps16
      (try rw [hW])
      go_wp2_with fail
      (try rw [hW])
      clear hW
      refine HCK.out.mono ?_
      rintro e y1 ⟨rfl, hy⟩
      clear k0 k1 k2
      obtain ⟨k0, k1, k2, _, _, _⟩ := (R0.later hy).three
      go_wp2_with fail
      go_ret
      exact ⟨_, rfl, .inl ⟨rfl, HXS.out.symm⟩, hbW.trans (hy.mono hbW.size)⟩
    case pos =>
      subst h0
      obtain ⟨tn, htn⟩ : ∃ t, noneB v o = t := ⟨_, rfl⟩
      have HTN := Lib.hid htn
      have hlv : leaveB o v xs = tn := by rw [HLV.out, HL.out, htn]; rfl
      have HLVT := Lib.hid hlv
      clear htn hlv
      go_enter Try.func16, Try.ntmps16
      (try rw [hW])
      go_wp2_with fail
      (try rw [hW])
      clear hW
      refine HCK.out.mono ?_
      rintro e y1 ⟨rfl, hy⟩
      have B1 := hy
      clear k0 k1 k2 hy
      obtain ⟨k0, k1, k2, _, _, _⟩ := (R0.later B1).three
      go_wp2_with fail
      refine (noneR_any v o _).mono ?_
      rintro e y3 ⟨rfl, hy⟩
      have B3 : Below W.heap.size W y3 := B1.trans (hy.mono B1.size)
      clear k0 k1 k2 hy
      obtain ⟨k0, k1, k2, _, _, _⟩ := (R0.later B3).three
      rw [HTN.out]
      cases tn with
      | false =>
        have HXS := Lib.hid (show xs = ls by rw [← HLE0.out]; unfold expO; exact (if_neg (fun h => by rw [HLVT.out] at h; cases h.2)).symm)
        go_wp2_with fail
        go_ret
        exact ⟨_, rfl, .inl ⟨rfl, HXS.out.symm⟩, hbW.trans (B3.mono hbW.size)⟩
      | true =>
        have hme : meantO o (rkI rk) = ls := by rw [← HLE0.out]; unfold expO; rw [if_pos ⟨HC.out, HLVT.out⟩]
        obtain ⟨m, hm⟩ : ∃ m : Nat, rkI rk = (m : Int) := ⟨(rkI rk).toNat, by have := (rkI_in rk).1; omega⟩
        have hm4 : m ≤ 4 := by have := (rkI_in rk).2; omega
        have HWL := Lib.hid (show Wid ls by rw [← hme]; exact meantO_wid o (rkI_in rk).1 (rkI_in rk).2)
        rw [hm] at hme
        have HME := Lib.hid hme
        have HMM := Lib.hid hm
        clear hme hm
        by_cases hr0 : rk < 0
        · obtain rfl : m = 0 := by have h := HMM.out; unfold rkI at h; rw [if_neg (by omega)] at h; omega
          by_cases hx6 : o = 6
          · subst hx6
            go_wp2_with fail
            go_ret
            refine ⟨_, rfl, .inr ?_, hbW.trans ((B3.alloc B3.size _).mono hbW.size)⟩
            rw [← HME.out]
            exact litRes y3 2 (Nat.le_trans hbW.size B3.size) (by decide)
          · skip
            by_cases hx17 : o = 17
            · subst hx17
              go_wp2_with fail
              go_ret
              refine ⟨_, rfl, .inr ?_, hbW.trans ((B3.alloc B3.size _).mono hbW.size)⟩
              rw [← HME.out]
              exact litRes y3 0 (Nat.le_trans hbW.size B3.size) (by decide)
            · skip
              by_cases hx11 : o = 11
              · subst hx11
                go_wp2_with fail
                go_loopw [7, 8] (fun u i wi => i = .int .i64 (-1) ∧ u = .slice none 0 0 ∧ Below y3.heap.size y3 wi) (fun _ _ _ => 0)
                case atStart => exact ⟨by first | rfl | simp, rfl, Below.refl _ _⟩
                case round =>
                  rename World => wi
                  obtain ⟨rfl, rfl, hbi⟩ := hrel
                  go_wp2_with fail
                  go_ret
                  refine ⟨_, rfl, .inr ?_, hbW.trans ((B3.trans (hbi.mono B3.size)).mono hbW.size)⟩
                  rw [← HME.out]
                  exact ResS.nil _ _
              · skip
                by_cases hx14 : o = 14
                · subst hx14
                  go_wp2_with fail
                  go_loopw [7, 9] (fun u i wi => i = .int .i64 0 ∧ u = .slice none 0 0 ∧ Below y3.heap.size y3 wi) (fun _ _ _ => 0)
                  case atStart => exact ⟨by first | rfl | simp, rfl, Below.refl _ _⟩
                  case round =>
                    rename World => wi
                    obtain ⟨rfl, rfl, hbi⟩ := hrel
                    go_wp2_with fail
                    go_ret
                    refine ⟨_, rfl, .inr ?_, hbW.trans ((B3.trans (hbi.mono B3.size)).mono hbW.size)⟩
                    rw [← HME.out]
                    exact ResS.nil _ _
                · skip
                  by_cases hx20 : o = 20
                  · subst hx20
                    go_wp2_with fail
                    go_loopw [7, 9] (fun u i wi => i = .int .i64 0 ∧ u = .slice none 0 0 ∧ Below y3.heap.size y3 wi) (fun _ _ _ => 0)
                    case atStart => exact ⟨by first | rfl | simp, rfl, Below.refl _ _⟩
                    case round =>
                      rename World => wi
                      obtain ⟨rfl, rfl, hbi⟩ := hrel
                      go_wp2_with fail
                      go_ret
                      refine ⟨_, rfl, .inr ?_, hbW.trans ((B3.trans (hbi.mono B3.size)).mono hbW.size)⟩
                      rw [← HME.out]
                      exact ResS.nil _ _
                  · skip
                    have hno : noneB v o = false := by
                      unfold noneB
                      rw [if_neg (by omega), if_neg (by omega)]
                    rw [HTN.out] at hno
                    cases hno
        · by_cases hr4 : rk > 4
          · obtain rfl : m = 0 := by have h := HMM.out; unfold rkI at h; rw [if_neg (by omega)] at h; omega
            by_cases hx6 : o = 6
            · subst hx6
              go_wp2_with fail
              go_ret
              refine ⟨_, rfl, .inr ?_, hbW.trans ((B3.alloc B3.size _).mono hbW.size)⟩
              rw [← HME.out]
              exact litRes y3 2 (Nat.le_trans hbW.size B3.size) (by decide)
            · skip
              by_cases hx17 : o = 17
              · subst hx17
                go_wp2_with fail
                go_ret
                refine ⟨_, rfl, .inr ?_, hbW.trans ((B3.alloc B3.size _).mono hbW.size)⟩
                rw [← HME.out]
                exact litRes y3 0 (Nat.le_trans hbW.size B3.size) (by decide)
              · skip
                by_cases hx11 : o = 11
                · subst hx11
                  go_wp2_with fail
                  go_loopw [7, 8] (fun u i wi => i = .int .i64 (-1) ∧ u = .slice none 0 0 ∧ Below y3.heap.size y3 wi) (fun _ _ _ => 0)
                  case atStart => exact ⟨by first | rfl | simp, rfl, Below.refl _ _⟩
                  case round =>
                    rename World => wi
                    obtain ⟨rfl, rfl, hbi⟩ := hrel
                    go_wp2_with fail
                    go_ret
                    refine ⟨_, rfl, .inr ?_, hbW.trans ((B3.trans (hbi.mono B3.size)).mono hbW.size)⟩
                    rw [← HME.out]
                    exact ResS.nil _ _
                · skip
                  by_cases hx14 : o = 14
                  · subst hx14
                    go_wp2_with fail
                    go_loopw [7, 9] (fun u i wi => i = .int .i64 0 ∧ u = .slice none 0 0 ∧ Below y3.heap.size y3 wi) (fun _ _ _ => 0)
                    case atStart => exact ⟨by first | rfl | simp, rfl, Below.refl _ _⟩
                    case round =>
                      rename World => wi
                      obtain ⟨rfl, rfl, hbi⟩ := hrel
                      go_wp2_with fail
                      go_ret
                      refine ⟨_, rfl, .inr ?_, hbW.trans ((B3.trans (hbi.mono B3.size)).mono hbW.size)⟩
                      rw [← HME.out]
                      exact ResS.nil _ _
                  · skip
                    by_cases hx20 : o = 20
                    · subst hx20
                      go_wp2_with fail
                      go_loopw [7, 9] (fun u i wi => i = .int .i64 0 ∧ u = .slice none 0 0 ∧ Below y3.heap.size y3 wi) (fun _ _ _ => 0)
                      case atStart => exact ⟨by first | rfl | simp, rfl, Below.refl _ _⟩
                      case round =>
                        rename World => wi
                        obtain ⟨rfl, rfl, hbi⟩ := hrel
                        go_wp2_with fail
                        go_ret
                        refine ⟨_, rfl, .inr ?_, hbW.trans ((B3.trans (hbi.mono B3.size)).mono hbW.size)⟩
                        rw [← HME.out]
                        exact ResS.nil _ _
                    · skip
                      have hno : noneB v o = false := by
                        unfold noneB
                        rw [if_neg (by omega), if_neg (by omega)]
                      rw [HTN.out] at hno
                      cases hno
          · obtain rfl : rk = (m : Int) := by have h := HMM.out; unfold rkI at h; rw [if_pos (by omega)] at h; exact h
            have hmz : (0 : Int) ≤ (m : Int) := by omega
            have hmw : IntKind.i64.wrap ((m : Int) - 1) = (m : Int) - 1 := IntWalk.i64_in _ (by omega)
            by_cases hx6 : o = 6
            · subst hx6
              go_wp2_with fail
              go_ret
              refine ⟨_, rfl, .inr ?_, hbW.trans ((B3.alloc B3.size _).mono hbW.size)⟩
              rw [← HME.out]
              exact litRes y3 2 (Nat.le_trans hbW.size B3.size) (by decide)
            · skip
              by_cases hx17 : o = 17
              · subst hx17
                go_wp2_with fail
                go_ret
                refine ⟨_, rfl, .inr ?_, hbW.trans ((B3.alloc B3.size _).mono hbW.size)⟩
                rw [← HME.out]
                exact litRes y3 0 (Nat.le_trans hbW.size B3.size) (by decide)
              · skip
                by_cases hx11 : o = 11
                · subst hx11
                  go_wp2_with fail
                  go_loopw [7, 8] (fun u i wi => ∃ k : Nat, i = .int .i64 ((m : Int) - 1 - (k : Int)) ∧ k ≤ m ∧ NumS y3.heap.size wi u ((List.range k).map fun i : Nat => (m : Int) - 1 - (i : Int)) ∧ Below y3.heap.size y3 wi) (fun _ i _ => (intOf i + 1).toNat)
                  case atStart => exact ⟨0, by simp, Nat.zero_le _, World.ownsRow_nil _ _ _ _, Below.refl _ _⟩
                  case round =>
                    rename World => wi
                    obtain ⟨k, rfl, hk, hown, hbi⟩ := hrel
                    have hszi := hbi.size
                    have hkl : ((List.range k).map fun i : Nat => (m : Int) - 1 - (i : Int)).length = k := by simp
                    have hnx : ((List.range (k + 1)).map fun i : Nat => (m : Int) - 1 - (i : Int)) = ((List.range k).map fun i : Nat => (m : Int) - 1 - (i : Int)) ++ [(m : Int) - 1 - (k : Int)] := by rw [List.range_succ, List.map_append]; rfl
                    obtain ⟨zs, hzs⟩ : ∃ zs, ((List.range k).map fun i : Nat => (m : Int) - 1 - (i : Int)) = zs := ⟨_, rfl⟩
                    rw [hzs] at hown hnx hkl
                    have HZS := Lib.hid hzs
                    have HKL := Lib.hid hkl
                    have HNX := Lib.hid hnx
                    by_cases hlt : k < m
                    · have ht : (m : Int) - 1 - (k : Int) ≥ 0 := by omega
                      have htw : IntKind.i64.wrap ((m : Int) - 1 - (k : Int) - 1) = (m : Int) - 1 - (k : Int) - 1 := IntWalk.i64_in _ (by omega)
                      obtain ⟨av1, cv1, rfl⟩ := ownT_slice11 hown
                      have hz4 : zs.length ≤ 4 := by rw [hkl]; omega
                      clear hzs hnx hkl
                      go_wp2_with (at_builtin; (refine wpList_append_own _ rfl _ _ 23 rfl y3.heap.size 3 iS (.int .i64 0) 1 8 Try.underlying23 hiS hzA hzB hzC rfl (by decide) _ zs.length (zs.map (Value.int .i64)) rfl (hown.later ((Below.refl _ _).alloc (Nat.le_refl _) _)) ⟨wi.heap.size, 0, none⟩ 1 1 [.int .i64 ((m : Int) - 1 - (k : Int))] rfl rfl (cell_one_new _ _ _) (by simp [Value.oneCell']) (by unfold maxLen; omega) (by omega) (by simp; omega) ?_; intro v' w6 hown' hgrow _))
                      have hb6 : Below y3.heap.size y3 w6 := (hbi.alloc hszi _).grown hgrow (by simp; omega) (fun q hq => (World.ownsRow.lt hown q hq).1)
                      have hN6 : NumS y3.heap.size w6 v' ((List.range (k + 1)).map fun i : Nat => (m : Int) - 1 - (i : Int)) := by
                        rw [HNX.out]
                        unfold NumS
                        rw [List.length_append, List.map_append]
                        exact hown'
                      have HN6 := Lib.hid hN6
                      clear hN6 hown' hgrow
                      (try go_wp2_with fail)
                      go_roundw
                      case rel => exact ⟨k + 1, by refine congrArg (Value.int .i64) ?_; omega, by omega, HN6.out, hb6⟩
                      case measure => simp [intOf]; omega
                    · obtain rfl : k = m := by omega
                      have ht : ¬ (k : Int) - 1 - (k : Int) ≥ 0 := by omega
                      have hls : ls = zs := by
                        rw [← HME.out, ← HZS.out]
                        show bwdI (k : Int) = _
                        unfold bwdI
                        rw [Int.toNat_natCast]
                      subst hls
                      have hwl : Wid ls := HWL.out
                      have hRS : ResS y3.heap.size wi _ ls := ⟨hown, hwl⟩
                      have HRS := Lib.hid hRS
                      clear hown hRS
                      go_wp2_with fail
                      go_ret
                      exact ⟨_, rfl, .inr (HRS.out.mono (Nat.le_trans hbW.size B3.size)), hbW.trans ((B3.trans (hbi.mono B3.size)).mono hbW.size)⟩
                · skip
                  by_cases hx14 : o = 14
                  · subst hx14
                    go_wp2_with fail
                    go_loopw [7, 9] (fun u i wi => ∃ k : Nat, i = .int .i64 (k : Int) ∧ k ≤ m ∧ NumS y3.heap.size wi u ((List.range k).map fun i : Nat => (i : Int)) ∧ Below y3.heap.size y3 wi) (fun _ i _ => m - (intOf i).toNat)
                    case atStart => exact ⟨0, by simp, Nat.zero_le _, World.ownsRow_nil _ _ _ _, Below.refl _ _⟩
                    case round =>
                      rename World => wi
                      obtain ⟨k, rfl, hk, hown, hbi⟩ := hrel
                      have hszi := hbi.size
                      have hkl : ((List.range k).map fun i : Nat => (i : Int)).length = k := by simp
                      have hnx : ((List.range (k + 1)).map fun i : Nat => (i : Int)) = ((List.range k).map fun i : Nat => (i : Int)) ++ [(k : Int)] := by rw [List.range_succ, List.map_append]; rfl
                      obtain ⟨zs, hzs⟩ : ∃ zs, ((List.range k).map fun i : Nat => (i : Int)) = zs := ⟨_, rfl⟩
                      rw [hzs] at hown hnx hkl
                      have HZS := Lib.hid hzs
                      have HKL := Lib.hid hkl
                      have HNX := Lib.hid hnx
                      by_cases hlt : k < m
                      · have ht : (k : Int) < (m : Int) := by omega
                        obtain ⟨av1, cv1, rfl⟩ := ownT_slice11 hown
                        have hz4 : zs.length ≤ 4 := by rw [hkl]; omega
                        clear hzs hnx hkl
                        go_wp2_with (at_builtin; (refine wpList_append_own _ rfl _ _ 23 rfl y3.heap.size 3 iS (.int .i64 0) 1 8 Try.underlying23 hiS hzA hzB hzC rfl (by decide) _ zs.length (zs.map (Value.int .i64)) rfl (hown.later ((Below.refl _ _).alloc (Nat.le_refl _) _)) ⟨wi.heap.size, 0, none⟩ 1 1 [.int .i64 ((k : Int))] rfl rfl (cell_one_new _ _ _) (by simp [Value.oneCell']) (by unfold maxLen; omega) (by omega) (by simp; omega) ?_; intro v' w6 hown' hgrow _))
                        have hb6 : Below y3.heap.size y3 w6 := (hbi.alloc hszi _).grown hgrow (by simp; omega) (fun q hq => (World.ownsRow.lt hown q hq).1)
                        have hN6 : NumS y3.heap.size w6 v' ((List.range (k + 1)).map fun i : Nat => (i : Int)) := by
                          rw [HNX.out]
                          unfold NumS
                          rw [List.length_append, List.map_append]
                          exact hown'
                        have HN6 := Lib.hid hN6
                        clear hN6 hown' hgrow
                        (try go_wp2_with fail)
                        go_roundw
                        case rel => exact ⟨k + 1, by go_num, by omega, HN6.out, hb6⟩
                        case measure => simp [intOf]; omega
                      · obtain rfl : k = m := by omega
                        have ht : ¬ (k : Int) < (k : Int) := by omega
                        have hls : ls = zs := by
                          rw [← HME.out, ← HZS.out]
                          show fwdI (k : Int) = _
                          unfold fwdI
                          rw [Int.toNat_natCast]
                        subst hls
                        have hwl : Wid ls := HWL.out
                        have hRS : ResS y3.heap.size wi _ ls := ⟨hown, hwl⟩
                        have HRS := Lib.hid hRS
                        clear hown hRS
                        go_wp2_with fail
                        go_ret
                        exact ⟨_, rfl, .inr (HRS.out.mono (Nat.le_trans hbW.size B3.size)), hbW.trans ((B3.trans (hbi.mono B3.size)).mono hbW.size)⟩
                  · skip
                    by_cases hx20 : o = 20
                    · subst hx20
                      go_wp2_with fail
                      go_loopw [7, 9] (fun u i wi => ∃ k : Nat, i = .int .i64 (k : Int) ∧ k ≤ m ∧ NumS y3.heap.size wi u ((List.range k).map fun i : Nat => (i : Int)) ∧ Below y3.heap.size y3 wi) (fun _ i _ => m - (intOf i).toNat)
                      case atStart => exact ⟨0, by simp, Nat.zero_le _, World.ownsRow_nil _ _ _ _, Below.refl _ _⟩
                      case round =>
                        rename World => wi
                        obtain ⟨k, rfl, hk, hown, hbi⟩ := hrel
                        have hszi := hbi.size
                        have hkl : ((List.range k).map fun i : Nat => (i : Int)).length = k := by simp
                        have hnx : ((List.range (k + 1)).map fun i : Nat => (i : Int)) = ((List.range k).map fun i : Nat => (i : Int)) ++ [(k : Int)] := by rw [List.range_succ, List.map_append]; rfl
                        obtain ⟨zs, hzs⟩ : ∃ zs, ((List.range k).map fun i : Nat => (i : Int)) = zs := ⟨_, rfl⟩
                        rw [hzs] at hown hnx hkl
                        have HZS := Lib.hid hzs
                        have HKL := Lib.hid hkl
                        have HNX := Lib.hid hnx
                        by_cases hlt : k < m
                        · have ht : (k : Int) < (m : Int) := by omega
                          obtain ⟨av1, cv1, rfl⟩ := ownT_slice11 hown
                          have hz4 : zs.length ≤ 4 := by rw [hkl]; omega
                          clear hzs hnx hkl
                          go_wp2_with (at_builtin; (refine wpList_append_own _ rfl _ _ 23 rfl y3.heap.size 3 iS (.int .i64 0) 1 8 Try.underlying23 hiS hzA hzB hzC rfl (by decide) _ zs.length (zs.map (Value.int .i64)) rfl (hown.later ((Below.refl _ _).alloc (Nat.le_refl _) _)) ⟨wi.heap.size, 0, none⟩ 1 1 [.int .i64 ((k : Int))] rfl rfl (cell_one_new _ _ _) (by simp [Value.oneCell']) (by unfold maxLen; omega) (by omega) (by simp; omega) ?_; intro v' w6 hown' hgrow _))
                          have hb6 : Below y3.heap.size y3 w6 := (hbi.alloc hszi _).grown hgrow (by simp; omega) (fun q hq => (World.ownsRow.lt hown q hq).1)
                          have hN6 : NumS y3.heap.size w6 v' ((List.range (k + 1)).map fun i : Nat => (i : Int)) := by
                            rw [HNX.out]
                            unfold NumS
                            rw [List.length_append, List.map_append]
                            exact hown'
                          have HN6 := Lib.hid hN6
                          clear hN6 hown' hgrow
                          (try go_wp2_with fail)
                          go_roundw
                          case rel => exact ⟨k + 1, by go_num, by omega, HN6.out, hb6⟩
                          case measure => simp [intOf]; omega
                        · obtain rfl : k = m := by omega
                          have ht : ¬ (k : Int) < (k : Int) := by omega
                          have hls : ls = zs := by
                            rw [← HME.out, ← HZS.out]
                            show fwdI (k : Int) = _
                            unfold fwdI
                            rw [Int.toNat_natCast]
                          subst hls
                          have hwl : Wid ls := HWL.out
                          have hRS : ResS y3.heap.size wi _ ls := ⟨hown, hwl⟩
                          have HRS := Lib.hid hRS
                          clear hown hRS
                          go_wp2_with fail
                          go_ret
                          exact ⟨_, rfl, .inr (HRS.out.mono (Nat.le_trans hbW.size B3.size)), hbW.trans ((B3.trans (hbi.mono B3.size)).mono hbW.size)⟩
                    · skip
                      have hno : noneB v o = false := by
                        unfold noneB
                        rw [if_neg (by omega), if_neg (by omega)]
                      rw [HTN.out] at hno
                      cases hno
end
end Go.Proofs.Ytdcggcfgkhlblaa
