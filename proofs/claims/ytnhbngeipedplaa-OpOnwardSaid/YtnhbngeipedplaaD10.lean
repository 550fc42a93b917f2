/-
  Layer 11's law OpBack: an op that is in some version has a name, by which it is found again, and which no other one has; and one that is in none has none: for every input the law returns true, and its arguments read behind the call as they read before (first form: each slice that is met in reading them weighs at most the form's reach).
-/
import Derived.Test.YtnhbngeipedplaaD1
import Derived.Test.YtnhbngeipedplaaD2
import Derived.Test.YtnhbngeipedplaaD4
import Derived.Test.YtnhbngeipedplaaD5
import Derived.Test.YtnhbngeipedplaaD6
import Derived.Test.YtnhbngeipedplaaD7
import Derived.Test.YtnhbngeipedplaaD8
import Derived.Test.YtnhbngeipedplaaD9
import Derived.WalkKit
import Derived.Test.YtnhbngeipedplaaRows
import Derived.OrdersHeld
import Derived.Deep.RegionHeld
import Derived.BigQuiet
import Derived.Deep.QuietTactic
import Derived.Lib.Hide
import Derived.Lib.Small
import Derived.Lib.Walk
import Derived.Lib.BitFns
import Derived.Maps.AppendAt
import Derived.RangeFuncNested
import Derived.RangeFuncBound
import Derived.RangeFuncCalls
import Derived.RangeFuncLeaves
import Derived.Shelf.Abstract
import Derived.OwnWalkIn
import Derived.TacticsInMore
import Derived.LoopNIn
import Derived.LoopIn
import Derived.RangeFuncBox
import Derived.Deep.RegionHeld3
import Derived.OrdersIn
import Derived.StillTailTactics
import Derived.RangeFuncFrom
import Derived.Laws.EntriesVeiled
import Derived.ProofKit
import Derived.OpenShut
import Derived.JoinedCond
import Derived.Carry
import Derived.Laws.AppendOwnNone
import Derived.Lib.ItoaNum
import Derived.Deep.RegionLaw
import Derived.WalkMore
import Derived.Lib.SmallJoins
import Derived.IntWalk
import Derived.Deep.DeepCutAuto
import Derived.Laws.OwnMore
import Derived.ArgAppend
import Derived.Deep.Slices
import Derived.Laws.CopyOwn
import Derived.Lib.SliceRun
import Derived.SizedLaws
import Derived.Great.BuildSlice
namespace Go.Proofs.Ytnhbngeipedplaa
set_option maxRecDepth 100000
section
open Go.RowKit
set_option linter.unusedVariables false
set_option linter.unusedSimpArgs false
set_option maxRecDepth 100000 in
set_option maxHeartbeats 8000000 in
theorem checkR_any (v : Int) {o : Int} {xs : List Int} {a1 a2 : Option Addr} {n1 c1 c2 : Nat} {w : World} (A : ArgS w (.slice a2 xs.length c2) xs a2 c2) (na : a2 = none → c2 = 0) (hx : xs.length ≤ 17592186044416) : Calls Try.prog 20 #[.int .i64 v, .agg #[.int .i64 o, .slice a1 n1 c1, .slice a2 xs.length c2]] w fun e w' => e = .returned (.int .i64 (chkO v o n1 xs)) ∧ Below w.heap.size w w' := by
  have HA := Lib.hid A
  obtain ⟨c, hc⟩ : ∃ c, chkO v o n1 xs = c := ⟨_, rfl⟩
  rw [hc]
  have HC := Lib.hid hc
  obtain ⟨L, hL⟩ : ∃ L, xs.length = L := ⟨_, rfl⟩
  have HL := Lib.hid hL
  have hat := fun X (hX : Below w.heap.size w X) => attrsR_any o (A.later hX) hx
  rw [hL] at hx hat ⊢
  obtain ⟨ta, hta⟩ : ∃ t, attB o xs = t := ⟨_, rfl⟩
  rw [hta] at hat
  have HTA := Lib.hid hta
  have HAT := Lib.hid hat
  obtain ⟨W, hW⟩ : ∃ W, w.alloc (.cells #[.int .i64 o, .slice a1 n1 c1, .slice a2 L c2] 37) = W := ⟨_, rfl⟩
  have R0 : Row W w.heap.size 37 #[.int .i64 o, .slice a1 n1 c1, .slice a2 L c2] := by rw [← hW]; exact Row.new _ _ _
  have hbW : Below w.heap.size w W := by rw [← hW]; exact (Below.refl _ _).alloc (Nat.le_refl _) _
  have B0 : Below W.heap.size W W := Below.refl _ _
  obtain ⟨k0, k1, k2, _, _, _⟩ := R0.three
  clear hc hL A hta hat
  by_cases hv : 1 ≤ v ∧ v ≤ 3
  case neg =>
    obtain rfl : c = 8 := by rw [← HC.out]; exact chk8 (decide_eq_false hv)
    by_cases h1 : v < 1
    · clear hv
      go_enter Try.func20, Try.ntmps20
      (try rw [hW])
      go_wp2_with fail
      go_ret
      exact ⟨rfl, hbW⟩
    · have h2 : v > 3 := by omega
      clear hv
      go_enter Try.func20, Try.ntmps20
      (try rw [hW])
      go_wp2_with fail
      go_ret
      exact ⟨rfl, hbW⟩
  case pos =>
    have h1 : ¬ v < 1 := by omega
    have h2 : ¬ v > 3 := by omega
    have HV := Lib.hid hv
    have HV3 := Lib.hid (show hasB 1 3 v = true from decide_eq_true hv)
    obtain ⟨tv, htv⟩ : ∃ t, verO o v = t := ⟨_, rfl⟩
    have HTV := Lib.hid htv
    clear hv htv
    go_enter Try.func20, Try.ntmps20
    (try rw [hW])
    go_wp2_with fail
    (try rw [hW])
    clear hW
    refine (inR_any o v _).mono ?_
    rintro e y1 ⟨rfl, hy⟩
    have B1 : Below W.heap.size W y1 := B0.trans (hy.mono B0.size)
    clear k0 k1 k2 hy
    obtain ⟨k0, k1, k2, _, _, _⟩ := (R0.later B1).three
    rw [HTV.out]
    cases tv with
    | false =>
      obtain rfl : c = 9 := by rw [← HC.out]; exact chk9 HV3.out HTV.out
      go_wp2_with fail
      go_ret
      exact ⟨rfl, hbW.trans (B1.mono hbW.size)⟩
    | true =>
      have hin : inO o = true := by
        have h := HTV.out
        unfold verO at h
        rw [Bool.and_eq_true] at h
        exact h.1
      have HIN := Lib.hid hin
      obtain ⟨al, hal⟩ : ∃ t, (rowO o).al = t := ⟨_, rfl⟩
      obtain ⟨ah, hah⟩ : ∃ t, (rowO o).ah = t := ⟨_, rfl⟩
      have HAL := Lib.hid hal
      have HAH := Lib.hid hah
      clear hin hal hah
      go_wp2_with fail
      refine (arityR_any o _).mono ?_
      rintro e y2 ⟨rfl, hy⟩
      rw [HAL.out, HAH.out]
      have B2 : Below W.heap.size W y2 := B1.trans (hy.mono B1.size)
      clear k0 k1 k2 hy
      obtain ⟨k0, k1, k2, _, _, _⟩ := (R0.later B2).three
      by_cases hn : al ≤ (n1 : Int) ∧ (n1 : Int) ≤ ah
      case neg =>
        obtain rfl : c = 10 := by rw [← HC.out]; exact chk10 HV3.out HTV.out (by rw [HAL.out, HAH.out]; exact decide_eq_false hn)
        by_cases h3 : (n1 : Int) < al
        · clear hn
          go_wp2_with fail
          go_ret
          exact ⟨rfl, hbW.trans (B2.mono hbW.size)⟩
        · have h4 : (n1 : Int) > ah := by omega
          clear hn
          go_wp2_with fail
          go_ret
          exact ⟨rfl, hbW.trans (B2.mono hbW.size)⟩
      case pos =>
        have h3 : ¬ (n1 : Int) < al := by omega
        have h4 : ¬ (n1 : Int) > ah := by omega
        have HN := Lib.hid (show hasB (rowO o).al (rowO o).ah (n1 : Int) = true by rw [HAL.out, HAH.out]; exact decide_eq_true hn)
        obtain ⟨tn, htn⟩ : ∃ t, noneB v o = t := ⟨_, rfl⟩
        have HTN := Lib.hid htn
        have HLE := Lib.hid (show leaveB o v xs = (decide (L = 0) && tn) by rw [none_is HIN.out HV.out.1 HV.out.2 xs, HL.out, htn])
        clear hn htn
        by_cases h0 : L = 0
        · subst h0
          go_wp2_with fail
          refine (noneR_any v o _).mono ?_
          rintro e y3 ⟨rfl, hy⟩
          have B3 : Below W.heap.size W y3 := B2.trans (hy.mono B2.size)
          clear k0 k1 k2 hy
          obtain ⟨k0, k1, k2, _, _, _⟩ := (R0.later B3).three
          rw [HTN.out]
          cases tn with
          | true =>
            obtain rfl : c = 0 := by rw [← HC.out]; exact chk0 HV3.out HTV.out HN.out (.inl (by rw [HLE.out]; rfl))
            go_wp2_with fail
            go_ret
            exact ⟨rfl, hbW.trans (B3.mono hbW.size)⟩
          | false =>
            go_wp2_with fail
            refine (HAT.out _ (hbW.trans (B3.mono hbW.size))).mono ?_
            rintro e y4 ⟨rfl, hy⟩
            have B4 : Below W.heap.size W y4 := B3.trans (hy.mono B3.size)
            clear k0 k1 k2 hy
            obtain ⟨k0, k1, k2, _, _, _⟩ := (R0.later B4).three
            cases ta with
            | true =>
              obtain rfl : c = 0 := by rw [← HC.out]; exact chk0 HV3.out HTV.out HN.out (.inr HTA.out)
              go_wp2_with fail
              go_ret
              exact ⟨rfl, hbW.trans (B4.mono hbW.size)⟩
            | false =>
              obtain rfl : c = 11 := by rw [← HC.out]; exact chk11 HV3.out HTV.out HN.out (by rw [HLE.out]; rfl) HTA.out
              go_wp2_with fail
              go_ret
              exact ⟨rfl, hbW.trans (B4.mono hbW.size)⟩
        · have h0I : ((L : Int) == 0) = false := by simp; omega
          have HLF := Lib.hid (show leaveB o v xs = false by rw [HLE.out, decide_eq_false h0]; rfl)
          go_wp2_with fail
          refine (HAT.out _ (hbW.trans (B2.mono hbW.size))).mono ?_
          rintro e y3 ⟨rfl, hy⟩
          have B3 : Below W.heap.size W y3 := B2.trans (hy.mono B2.size)
          clear k0 k1 k2 hy
          obtain ⟨k0, k1, k2, _, _, _⟩ := (R0.later B3).three
          cases ta with
          | true =>
            obtain rfl : c = 0 := by rw [← HC.out]; exact chk0 HV3.out HTV.out HN.out (.inr HTA.out)
            go_wp2_with fail
            go_ret
            exact ⟨rfl, hbW.trans (B3.mono hbW.size)⟩
          | false =>
            obtain rfl : c = 11 := by rw [← HC.out]; exact chk11 HV3.out HTV.out HN.out HLF.out HTA.out
            go_wp2_with fail
            go_ret
            exact ⟨rfl, hbW.trans (B3.mono hbW.size)⟩
end
section
open Go.RowKit
set_option linter.unusedVariables false
set_option linter.unusedSimpArgs false
set_option maxRecDepth 100000 in
set_option maxHeartbeats 8000000 in
theorem known11_any (w : World) : Calls Try.prog 13 #[] w fun e w' => e = .returned (.bool true) ∧ Below w.heap.size w w' := by
  go_enter Try.func13, Try.ntmps13
  go_wp2_with fail
  refine (nodeN_any 11 _).mono ?_
  rintro e y1 ⟨g1, rfl, hy⟩
  have B1 : Below w.heap.size w y1 := (Below.refl w.heap.size w).trans (hy.mono (Below.refl w.heap.size w).size)
  clear hy
  obtain ⟨y2, hy2⟩ : ∃ Y, y1.alloc (.cells #[.int .i64 3] 3) = Y := ⟨_, rfl⟩
  have B2 : Below w.heap.size w y2 := by rw [← hy2]; exact B1.alloc B1.size _
  have hD : ArgS y2 (.slice (some ⟨y1.heap.size, 0, none⟩) 1 1) [3] (some ⟨y1.heap.size, 0, none⟩) 1 := by rw [← hy2]; exact ArgS.lit y1 [3] (Wid.one ⟨by decide, by decide⟩)
  have hex := explicit_any 1 (o := 11) (xs := []) (a1 := some ⟨g1, 0, none⟩) (n1 := 1) (c1 := 1) (nil_argS y2) (fun _ => rfl) (by simp) hD (by simp)
  rw [show expO 1 11 1 [] (([3] : List Int).getD 0 0) = [2, 1, 0] by decide +kernel] at hex
  have HEX := Lib.hid hex
  have HY := Lib.hid hy2
  clear hD hex hy2
  go_wp2_with fail
  have hyy := HY.out
  (try rw [hyy])
  clear hyy
  refine (HEX.out).mono ?_
  rintro e y3 ⟨rl, rfl, hrl, hy⟩
  have B3 : Below w.heap.size w y3 := B2.trans (hy.mono B2.size)
  obtain ⟨adl, cpl, rfl, hrl2⟩ := res_slice11 hrl
  have HRL := Lib.hid hrl2
  clear hrl hrl2
  clear hy
  go_wp2_with fail
  refine (nodeN_any 6 _).mono ?_
  rintro e y4 ⟨g, rfl, hy⟩
  have B4 : Below w.heap.size w y4 := B3.trans (hy.mono B3.size)
  have D4 : Below y3.heap.size y3 y4 := (Below.refl y3.heap.size y3).trans (hy.mono (Below.refl y3.heap.size y3).size)
  clear hy
  have hck := check_any 2 (o := 6) (xs := []) (a1 := some ⟨g, 0, none⟩) (n1 := 1) (c1 := 1) (nil_argS y4) (fun _ => rfl) (by simp)
  rw [show chkO 2 6 1 [] = 11 by decide +kernel] at hck
  have HCK := Lib.hid hck
  clear hck
  go_wp2_with fail
  refine (HCK.out).mono ?_
  rintro e y5 ⟨rfl, hy⟩
  have B5 : Below w.heap.size w y5 := B4.trans (hy.mono B4.size)
  have D5 : Below y3.heap.size y3 y5 := D4.trans (hy.mono D4.size)
  clear hy
  go_wp2_with fail
  refine (nodeN_any 6 _).mono ?_
  rintro e y6 ⟨g, rfl, hy⟩
  have B6 : Below w.heap.size w y6 := B5.trans (hy.mono B5.size)
  have D6 : Below y3.heap.size y3 y6 := D5.trans (hy.mono D5.size)
  clear hy
  have hck := check_any 1 (o := 6) (xs := []) (a1 := some ⟨g, 0, none⟩) (n1 := 1) (c1 := 1) (nil_argS y6) (fun _ => rfl) (by simp)
  rw [show chkO 1 6 1 [] = 0 by decide +kernel] at hck
  have HCK := Lib.hid hck
  clear hck
  go_wp2_with fail
  refine (HCK.out).mono ?_
  rintro e y7 ⟨rfl, hy⟩
  have B7 : Below w.heap.size w y7 := B6.trans (hy.mono B6.size)
  have D7 : Below y3.heap.size y3 y7 := D6.trans (hy.mono D6.size)
  clear hy
  obtain ⟨y8, hya⟩ : ∃ Y, y7.alloc (.cells #[.int .i64 2, .int .i64 1, .int .i64 0] 3) = Y := ⟨_, rfl⟩
  have B8 : Below w.heap.size w y8 := by rw [← hya]; exact B7.alloc B7.size _
  have D8 : Below y3.heap.size y3 y8 := by rw [← hya]; exact D7.alloc D7.size _
  have hL2 : ArgS y8 (.slice (some ⟨y7.heap.size, 0, none⟩) 3 3) [2, 1, 0] (some ⟨y7.heap.size, 0, none⟩) 3 := by rw [← hya]; exact ArgS.lit y7 [2, 1, 0] (fun x hx => by simp at hx; omega)
  obtain ⟨_, hA1, _⟩ := (HRL.out.later D8).at_
  have hss := sameSh_any hA1 hL2 (by simp)
  rw [decide_eq_true (show ([2, 1, 0] : List Int) = [2, 1, 0] from rfl)] at hss
  have HSS := Lib.hid hss
  have HYA := Lib.hid hya
  clear hL2 hA1 hss hya
  go_wp2_with fail
  have hyy := HYA.out
  (try rw [hyy])
  clear hyy
  refine (HSS.out).mono ?_
  rintro e y9 ⟨rfl, hy⟩
  have B9 : Below w.heap.size w y9 := B8.trans (hy.mono B8.size)
  have D9 : Below y3.heap.size y3 y9 := D8.trans (hy.mono D8.size)
  clear hy
  go_wp2_with fail
  refine (nodeN_any 18 _).mono ?_
  rintro e y10 ⟨g, rfl, hy⟩
  have B10 : Below w.heap.size w y10 := B9.trans (hy.mono B9.size)
  have D10 : Below y3.heap.size y3 y10 := D9.trans (hy.mono D9.size)
  clear hy
  have hck := check_any 3 (o := 18) (xs := []) (a1 := some ⟨g, 0, none⟩) (n1 := 1) (c1 := 1) (nil_argS y10) (fun _ => rfl) (by simp)
  rw [show chkO 3 18 1 [] = 9 by decide +kernel] at hck
  have HCK := Lib.hid hck
  clear hck
  go_wp2_with fail
  refine (HCK.out).mono ?_
  rintro e y11 ⟨rfl, hy⟩
  have B11 : Below w.heap.size w y11 := B10.trans (hy.mono B10.size)
  have D11 : Below y3.heap.size y3 y11 := D10.trans (hy.mono D10.size)
  clear hy
  obtain ⟨y12, hya⟩ : ∃ Y, y11.alloc (.cells #[.int .i64 2, .int .i64 4] 3) = Y := ⟨_, rfl⟩
  have B12 : Below w.heap.size w y12 := by rw [← hya]; exact B11.alloc B11.size _
  have hL2 : ArgS y12 (.slice (some ⟨y11.heap.size, 0, none⟩) 2 2) [2, 4] (some ⟨y11.heap.size, 0, none⟩) 2 := by rw [← hya]; exact ArgS.lit y11 [2, 4] (fun x hx => by simp at hx; omega)
  have HL2 := Lib.hid hL2
  have HYA := Lib.hid hya
  clear hL2 hya
  go_wp2_with fail
  have hyy := HYA.out
  (try rw [hyy])
  clear hyy
  refine (nodeN_any 9 _).mono ?_
  rintro e y13 ⟨g, rfl, hy⟩
  have B13 : Below w.heap.size w y13 := B12.trans (hy.mono B12.size)
  have hL3 := HL2.out.later hy
  have HL3 := Lib.hid hL3
  clear hL3
  clear hy
  have hck := check_any 3 (o := 9) (xs := [2, 4]) (a1 := some ⟨g, 0, none⟩) (n1 := 1) (c1 := 1) HL3.out (fun h => by cases h) (by simp)
  rw [show chkO 3 9 1 [2, 4] = 11 by decide +kernel] at hck
  have HCK := Lib.hid hck
  clear hck
  go_wp2_with fail
  refine (HCK.out).mono ?_
  rintro e y14 ⟨rfl, hy⟩
  have B14 : Below w.heap.size w y14 := B13.trans (hy.mono B13.size)
  clear hy
  go_wp2_with fail
  go_ret
  exact ⟨rfl, B14⟩
end
section
open Go.RowKit
set_option linter.unusedVariables false
set_option linter.unusedSimpArgs false
set_option maxRecDepth 100000 in
set_option maxHeartbeats 8000000 in
theorem opNames_walk (o : Int) (s : ByteArray) (w : World) : Calls Try.prog 3 #[.int .i64 o, .string s] w fun e w' => e = .returned (.bool true) ∧ Below w.heap.size w w' := by
  obtain ⟨nm, hnm⟩ : ∃ n, (rowO o).name = n := ⟨_, rfl⟩
  have h1 := fun X => name_any o X
  have h2 := fun X => nameR_any o X
  rw [hnm] at h1 h2
  have H1 := Lib.hid h1
  have H2 := Lib.hid h2
  have hbb : (nm.toList == nm.toList) = true := by simp
  clear h1 h2 hnm
  go_enter Try.func3, Try.ntmps3
  go_wp2_with fail
  refine (of_any s _).mono ?_
  rintro e y1 ⟨c, d, rfl, ho, hy⟩
  have B1 : Below w.heap.size w y1 := (Below.refl w.heap.size w).trans (hy.mono (Below.refl w.heap.size w).size)
  clear hy
  go_wp2_with fail
  refine (ofR_any s _).mono ?_
  rintro e y2 ⟨c2, d2, rfl, ho2, hy⟩
  have B2 : Below w.heap.size w y2 := B1.trans (hy.mono B1.size)
  clear hy
  obtain ⟨rfl, rfl⟩ := ho.one ho2
  clear ho ho2
  go_wp2_with fail
  refine (H1.out _).mono ?_
  rintro e y3 ⟨rfl, hy⟩
  have B3 : Below w.heap.size w y3 := B2.trans (hy.mono B2.size)
  clear hy
  go_wp2_with fail
  refine (H2.out _).mono ?_
  rintro e y4 ⟨rfl, hy⟩
  have B4 : Below w.heap.size w y4 := B3.trans (hy.mono B3.size)
  clear hy
  go_wp2_with fail
  refine (known11_any _).mono ?_
  rintro e y5 ⟨rfl, hy⟩
  have B5 : Below w.heap.size w y5 := B4.trans (hy.mono B4.size)
  clear hy
  go_wp2_with fail
  go_ret
  exact ⟨rfl, B5⟩
end
section
open Go.RowKit
set_option linter.unusedVariables false
set_option linter.unusedSimpArgs false
set_option maxRecDepth 100000 in
set_option maxHeartbeats 8000000 in
theorem opVersions_walk (o v : Int) (w : World) : Calls Try.prog 5 #[.int .i64 o, .int .i64 v] w fun e w' => e = .returned (.bool true) ∧ Below w.heap.size w w' := by
  obtain ⟨al, hal⟩ : ∃ n, (rowO o).al = n := ⟨_, rfl⟩
  obtain ⟨ah, hah⟩ : ∃ n, (rowO o).ah = n := ⟨_, rfl⟩
  obtain ⟨t, ht⟩ : ∃ n, verO o v = n := ⟨_, rfl⟩
  have h1 := fun X => arity_any o X
  have h2 := fun X => arityR_any o X
  have h3 := fun X => in_any o v X
  have h4 := fun X => inR_any o v X
  rw [hal, hah] at h1 h2
  rw [ht] at h3 h4
  have H1 := Lib.hid h1
  have H2 := Lib.hid h2
  have H3 := Lib.hid h3
  have H4 := Lib.hid h4
  have htt : (t == t) = true := by simp
  clear h1 h2 h3 h4 hal hah ht
  go_enter Try.func5, Try.ntmps5
  go_wp2_with fail
  refine (H1.out _).mono ?_
  rintro e y1 ⟨rfl, hy⟩
  have B1 : Below w.heap.size w y1 := (Below.refl w.heap.size w).trans (hy.mono (Below.refl w.heap.size w).size)
  clear hy
  go_wp2_with fail
  refine (H2.out _).mono ?_
  rintro e y2 ⟨rfl, hy⟩
  have B2 : Below w.heap.size w y2 := B1.trans (hy.mono B1.size)
  clear hy
  go_wp2_with fail
  refine (H3.out _).mono ?_
  rintro e y3 ⟨rfl, hy⟩
  have B3 : Below w.heap.size w y3 := B2.trans (hy.mono B2.size)
  clear hy
  go_wp2_with fail
  refine (H4.out _).mono ?_
  rintro e y4 ⟨rfl, hy⟩
  have B4 : Below w.heap.size w y4 := B3.trans (hy.mono B3.size)
  clear hy
  go_wp2_with fail
  refine (known11_any _).mono ?_
  rintro e y5 ⟨rfl, hy⟩
  have B5 : Below w.heap.size w y5 := B4.trans (hy.mono B4.size)
  clear hy
  go_wp2_with fail
  go_ret
  exact ⟨rfl, B5⟩
end
section
open Go.RowKit
set_option linter.unusedVariables false
set_option linter.unusedSimpArgs false
theorem in_some {o : Int} (h : inO o = true) : (verO o 1 || verO o 2 || verO o 3) = true := by
  obtain ⟨k, hk, rfl⟩ := inO_nat h
  exact (by decide +kernel : ∀ k : Nat, k < 20 → (verO ((k : Int) + 1) 1 || verO ((k : Int) + 1) 2 || verO ((k : Int) + 1) 3) = true) k hk
theorem some_in {o : Int} {v : Int} (h : verO o v = true) : inO o = true := by
  unfold verO at h
  rw [Bool.and_eq_true] at h
  exact h.1
theorem name_some {o : Int} (h : inO o = true) : ((rowO o).name.toList == ([] : List UInt8)) = false := by
  obtain ⟨k, hk, rfl⟩ := inO_nat h
  exact (by decide +kernel : ∀ k : Nat, k < 20 → ((rowO ((k : Int) + 1)).name.toList == ([] : List UInt8)) = false) k hk
theorem name_of {o : Int} (h : inO o = true) : OfIs (rowO o).name o 0 := by
  obtain ⟨k, hk, rfl⟩ := inO_nat h
  exact .inl ⟨k, hk, by simp, rfl, rfl⟩
theorem name_differs {a b : Int} (h : inO a = true) (hab : ¬ a = b) : ((rowO b).name.toList == (rowO a).name.toList) = false := by
  cases hb : inO b with
  | false =>
    rw [rowO_out hb]
    have h1 := name_some h
    cases hx : (noO.name.toList == (rowO a).name.toList) with
    | false => rfl
    | true =>
      have h2 := eq_of_beq hx
      rw [← h2] at h1
      exact absurd h1 (by decide +kernel)
  | true =>
    obtain ⟨k, hk, rfl⟩ := inO_nat h
    obtain ⟨j, hj, rfl⟩ := inO_nat hb
    cases hx : ((rowO ((j : Int) + 1)).name.toList == (rowO ((k : Int) + 1)).name.toList) with
    | false => rfl
    | true => exact absurd (by rw [names_differ hj hk (eq_of_beq hx)]) hab
set_option maxRecDepth 100000 in
set_option maxHeartbeats 8000000 in
theorem opBack_walk (a b : Int) (w : World) : Calls Try.prog 4 #[.int .i64 a, .int .i64 b] w fun e w' => e = .returned (.bool true) ∧ Below w.heap.size w w' := by
  obtain ⟨nm, hnm⟩ : ∃ n, (rowO a).name = n := ⟨_, rfl⟩
  have hna := fun X => name_any a X
  rw [hnm] at hna
  have HNA := Lib.hid hna
  have HNM := Lib.hid hnm
  obtain ⟨t1, ht1⟩ : ∃ n, verO a 1 = n := ⟨_, rfl⟩
  have hv1 := fun X => in_any a 1 X
  rw [ht1] at hv1
  have HV1 := Lib.hid hv1
  have HT1 := Lib.hid ht1
  clear hv1 ht1
  obtain ⟨t2, ht2⟩ : ∃ n, verO a 2 = n := ⟨_, rfl⟩
  have hv2 := fun X => in_any a 2 X
  rw [ht2] at hv2
  have HV2 := Lib.hid hv2
  have HT2 := Lib.hid ht2
  clear hv2 ht2
  obtain ⟨t3, ht3⟩ : ∃ n, verO a 3 = n := ⟨_, rfl⟩
  have hv3 := fun X => in_any a 3 X
  rw [ht3] at hv3
  have HV3 := Lib.hid hv3
  have HT3 := Lib.hid ht3
  clear hv3 ht3
  clear hna hnm
  go_enter Try.func4, Try.ntmps4
  go_wp2_with fail
  refine (HV1.out _).mono ?_
  rintro e y1 ⟨rfl, hy⟩
  have B1 : Below w.heap.size w y1 := (Below.refl w.heap.size w).trans (hy.mono (Below.refl w.heap.size w).size)
  clear hy
  cases t1 with
  | true =>
    have HIN := Lib.hid (some_in HT1.out)
    have HOF := Lib.hid (show OfIs nm a 0 by rw [← HNM.out]; exact name_of HIN.out)
    have hne : (nm.toList == ([] : List UInt8)) = false := by rw [← HNM.out]; exact name_some HIN.out
    have hbb : (nm.toList == nm.toList) = true := by simp
    go_wp2_with fail
    refine (HNA.out _).mono ?_
    rintro e y2 ⟨rfl, hy⟩
    have B2 : Below w.heap.size w y2 := B1.trans (hy.mono B1.size)
    clear hy
    go_wp2_with fail
    refine (of_any nm _).mono ?_
    rintro e y3 ⟨c, d, rfl, ho, hy⟩
    have B3 : Below w.heap.size w y3 := B2.trans (hy.mono B2.size)
    clear hy
    obtain ⟨rfl, rfl⟩ := ho.one HOF.out
    clear ho
    by_cases hab : c = b
    · subst hab
      go_wp2_with fail
      refine (known11_any _).mono ?_
      rintro e y4 ⟨rfl, hy⟩
      have B4 : Below w.heap.size w y4 := B3.trans (hy.mono B3.size)
      clear hy
      go_wp2_with fail
      go_ret
      exact ⟨rfl, B4⟩
    · have habI : (c == b) = false := by simp [hab]
      have hdf := name_differs HIN.out hab
      have hnb := fun X => name_any b X
      obtain ⟨nb, hnb2⟩ : ∃ n, (rowO b).name = n := ⟨_, rfl⟩
      rw [hnb2, HNM.out] at hdf
      rw [hnb2] at hnb
      have HNB := Lib.hid hnb
      clear hnb hnb2
      go_wp2_with fail
      refine (HNB.out _).mono ?_
      rintro e y4 ⟨rfl, hy⟩
      have B4 : Below w.heap.size w y4 := B3.trans (hy.mono B3.size)
      clear hy
      go_wp2_with fail
      refine (known11_any _).mono ?_
      rintro e y5 ⟨rfl, hy⟩
      have B5 : Below w.heap.size w y5 := B4.trans (hy.mono B4.size)
      clear hy
      go_wp2_with fail
      go_ret
      exact ⟨rfl, B5⟩
  | false =>
    go_wp2_with fail
    refine (HV2.out _).mono ?_
    rintro e y2 ⟨rfl, hy⟩
    have B2 : Below w.heap.size w y2 := B1.trans (hy.mono B1.size)
    clear hy
    cases t2 with
    | true =>
      have HIN := Lib.hid (some_in HT2.out)
      have HOF := Lib.hid (show OfIs nm a 0 by rw [← HNM.out]; exact name_of HIN.out)
      have hne : (nm.toList == ([] : List UInt8)) = false := by rw [← HNM.out]; exact name_some HIN.out
      have hbb : (nm.toList == nm.toList) = true := by simp
      go_wp2_with fail
      refine (HNA.out _).mono ?_
      rintro e y3 ⟨rfl, hy⟩
      have B3 : Below w.heap.size w y3 := B2.trans (hy.mono B2.size)
      clear hy
      go_wp2_with fail
      refine (of_any nm _).mono ?_
      rintro e y4 ⟨c, d, rfl, ho, hy⟩
      have B4 : Below w.heap.size w y4 := B3.trans (hy.mono B3.size)
      clear hy
      obtain ⟨rfl, rfl⟩ := ho.one HOF.out
      clear ho
      by_cases hab : c = b
      · subst hab
        go_wp2_with fail
        refine (known11_any _).mono ?_
        rintro e y5 ⟨rfl, hy⟩
        have B5 : Below w.heap.size w y5 := B4.trans (hy.mono B4.size)
        clear hy
        go_wp2_with fail
        go_ret
        exact ⟨rfl, B5⟩
      · have habI : (c == b) = false := by simp [hab]
        have hdf := name_differs HIN.out hab
        have hnb := fun X => name_any b X
        obtain ⟨nb, hnb2⟩ : ∃ n, (rowO b).name = n := ⟨_, rfl⟩
        rw [hnb2, HNM.out] at hdf
        rw [hnb2] at hnb
        have HNB := Lib.hid hnb
        clear hnb hnb2
        go_wp2_with fail
        refine (HNB.out _).mono ?_
        rintro e y5 ⟨rfl, hy⟩
        have B5 : Below w.heap.size w y5 := B4.trans (hy.mono B4.size)
        clear hy
        go_wp2_with fail
        refine (known11_any _).mono ?_
        rintro e y6 ⟨rfl, hy⟩
        have B6 : Below w.heap.size w y6 := B5.trans (hy.mono B5.size)
        clear hy
        go_wp2_with fail
        go_ret
        exact ⟨rfl, B6⟩
    | false =>
      go_wp2_with fail
      refine (HV3.out _).mono ?_
      rintro e y3 ⟨rfl, hy⟩
      have B3 : Below w.heap.size w y3 := B2.trans (hy.mono B2.size)
      clear hy
      cases t3 with
      | true =>
        have HIN := Lib.hid (some_in HT3.out)
        have HOF := Lib.hid (show OfIs nm a 0 by rw [← HNM.out]; exact name_of HIN.out)
        have hne : (nm.toList == ([] : List UInt8)) = false := by rw [← HNM.out]; exact name_some HIN.out
        have hbb : (nm.toList == nm.toList) = true := by simp
        go_wp2_with fail
        refine (HNA.out _).mono ?_
        rintro e y4 ⟨rfl, hy⟩
        have B4 : Below w.heap.size w y4 := B3.trans (hy.mono B3.size)
        clear hy
        go_wp2_with fail
        refine (of_any nm _).mono ?_
        rintro e y5 ⟨c, d, rfl, ho, hy⟩
        have B5 : Below w.heap.size w y5 := B4.trans (hy.mono B4.size)
        clear hy
        obtain ⟨rfl, rfl⟩ := ho.one HOF.out
        clear ho
        by_cases hab : c = b
        · subst hab
          go_wp2_with fail
          refine (known11_any _).mono ?_
          rintro e y6 ⟨rfl, hy⟩
          have B6 : Below w.heap.size w y6 := B5.trans (hy.mono B5.size)
          clear hy
          go_wp2_with fail
          go_ret
          exact ⟨rfl, B6⟩
        · have habI : (c == b) = false := by simp [hab]
          have hdf := name_differs HIN.out hab
          have hnb := fun X => name_any b X
          obtain ⟨nb, hnb2⟩ : ∃ n, (rowO b).name = n := ⟨_, rfl⟩
          rw [hnb2, HNM.out] at hdf
          rw [hnb2] at hnb
          have HNB := Lib.hid hnb
          clear hnb hnb2
          go_wp2_with fail
          refine (HNB.out _).mono ?_
          rintro e y6 ⟨rfl, hy⟩
          have B6 : Below w.heap.size w y6 := B5.trans (hy.mono B5.size)
          clear hy
          go_wp2_with fail
          refine (known11_any _).mono ?_
          rintro e y7 ⟨rfl, hy⟩
          have B7 : Below w.heap.size w y7 := B6.trans (hy.mono B6.size)
          clear hy
          go_wp2_with fail
          go_ret
          exact ⟨rfl, B7⟩
      | false =>
        have HNI := Lib.hid (show inO a = false by
          cases hi : inO a with
          | false => rfl
          | true =>
            have h := in_some hi
            rw [HT1.out, HT2.out, HT3.out] at h
            cases h)
        go_wp2_with fail
        refine (HNA.out _).mono ?_
        rintro e y4 ⟨rfl, hy⟩
        have B4 : Below w.heap.size w y4 := B3.trans (hy.mono B3.size)
        clear hy
        obtain rfl : nm = ⟨#[]⟩ := by rw [← HNM.out, rowO_out HNI.out]; rfl
        by_cases h1 : a < 1
        · go_wp2_with fail
          refine (known11_any _).mono ?_
          rintro e y5 ⟨rfl, hy⟩
          have B5 : Below w.heap.size w y5 := B4.trans (hy.mono B4.size)
          clear hy
          go_wp2_with fail
          go_ret
          exact ⟨rfl, B5⟩
        · have h2 : a > 20 := by
            have h := of_decide_eq_false HNI.out
            omega
          go_wp2_with fail
          refine (known11_any _).mono ?_
          rintro e y5 ⟨rfl, hy⟩
          have B5 : Below w.heap.size w y5 := B4.trans (hy.mono B4.size)
          clear hy
          go_wp2_with fail
          go_ret
          exact ⟨rfl, B5⟩
end
section
open Go.RowKit
set_option linter.unusedVariables false
set_option linter.unusedSimpArgs false
set_option maxRecDepth 100000 in
set_option maxHeartbeats 8000000 in
theorem opChecks_walk (v : Int) {v0 : Value} {o : Int} {ys xs : List Int} {a1 a2 : Option Addr} {c1 c2 : Nat} (w : World) (N : NodeA w v0 o ys xs a1 c1 a2 c2) (hy0 : ys.length ≤ 17592186044416) (hx0 : xs.length ≤ 17592186044416) : Calls Try.prog 6 #[.int .i64 v, v0] w fun e w' => e = .returned (.bool true) ∧ Below w.heap.size w w' := by
  have HN := Lib.hid N
  obtain rfl := N.is
  obtain ⟨m1, hm1⟩ : ∃ m, ys.length = m := ⟨_, rfl⟩
  obtain ⟨m2, hm2⟩ : ∃ m, xs.length = m := ⟨_, rfl⟩
  have HM1 := Lib.hid hm1
  have HM2 := Lib.hid hm2
  obtain ⟨W, hW⟩ : ∃ W, w.alloc (.cells #[.int .i64 o, .slice a1 m1 c1, .slice a2 m2 c2] 37) = W := ⟨_, rfl⟩
  have R0 : Row W w.heap.size 37 #[.int .i64 o, .slice a1 m1 c1, .slice a2 m2 c2] := by rw [← hW]; exact Row.new _ _ _
  have hbW : Below w.heap.size w W := by rw [← hW]; exact (Below.refl _ _).alloc (Nat.le_refl _) _
  have MK := Lib.hid (show ∀ X, Below W.heap.size W X → (fun X => X.cell? ⟨w.heap.size, 0, none⟩ = some (.int .i64 o) ∧ X.cell? ⟨w.heap.size, 1, none⟩ = some (.slice a1 m1 c1) ∧ X.cell? ⟨w.heap.size, 2, none⟩ = some (.slice a2 m2 c2)) X from fun X h => by
    obtain ⟨g0, g1, g2, _⟩ := (R0.later h).three
    exact ⟨g0, g1, g2⟩)
  obtain ⟨c, hc⟩ : ∃ c, chkO v o m1 xs = c := ⟨_, rfl⟩
  have how := fun X (hX : Below W.heap.size W X) => own_any (HN.out.later (hbW.trans (hX.mono hbW.size))) hy0 hx0
  have hcr := fun X (hX : Below W.heap.size W X) => checkR_any v (HN.out.later (hbW.trans (hX.mono hbW.size))).atts HN.out.nil2 hx0 (o := o) (a1 := a1) (n1 := m1) (c1 := c1)
  have hck := fun X B d1 e1 d2 e2 (hr : ResS B X (.slice d2 xs.length e2) xs) => check_any v hr.at_.2.1 hr.at_.2.2 hx0 (o := o) (a1 := d1) (n1 := m1) (c1 := e1)
  rw [hm1, hm2] at how ⊢
  rw [hc, hm2] at hcr hck
  have HOW := Lib.hid how
  have HCR := Lib.hid hcr
  have HCK := Lib.hid hck
  have B0 : Below W.heap.size W W.drew := (Below.refl _ _).drew
  have hcc : (c == c) = true := by simp
  clear how hcr hck hc hm1 hm2 N R0
  go_enter Try.func6, Try.ntmps6
  (try rw [hW])
  go_wp2_with fail
  (try rw [hW])
  clear hW
  refine wp_region_held_drew (S := fun X => X.cell? ⟨w.heap.size, 0, none⟩ = some (.int .i64 o) ∧ X.cell? ⟨w.heap.size, 1, none⟩ = some (.slice a1 m1 c1) ∧ X.cell? ⟨w.heap.size, 2, none⟩ = some (.slice a2 m2 c2)) (by kernel_rfl) (MK.out _ B0) (fun hHeld => ?_)
  obtain ⟨y0, hdrh⟩ : ∃ Y, W.drew = Y := ⟨_, rfl⟩
  rw [hdrh] at B0 hHeld ⊢
  clear hdrh
  refine todo [0, 1, 4, 5] ?_
  iterate 4
   first
   | (refine todoH (v := ?_) rfl (by kernel_rfl) (fun _ _ _ h => h) (by assumption) (Or.inl ⟨by rfl, ?_⟩) ?_
      rotate_left
      · intro w hSw; (try dsimp only at hSw); go_simp; (try with_reducible rfl)
      try simp only [Act.put, List.getElem_toArray, List.getElem_cons_succ, List.getElem_cons_zero, List.setIfInBounds_toArray, List.set_cons_zero, List.set_cons_succ])
   | (refine todoH (v := undef) rfl (by kernel_rfl) (fun _ _ _ h => h) (by assumption) (Or.inr ⟨by rfl, rfl⟩) ?_
      try simp only [Act.put, List.getElem_toArray, List.getElem_cons_succ, List.getElem_cons_zero, List.setIfInBounds_toArray, List.set_cons_zero, List.set_cons_succ])
  refine todone ?_
  refine wpAnyH_ready (rs := [2]) (by kernel_rfl) (by simp) ?_
  refine AllReadyH.cons rfl (fun K hK => ?sh_2) AllReadyH.nil
  go_simp
  refine (HOW.out _ B0).mono ?_
  rintro e y1 ⟨r1, rfl, ho, hy⟩
  have B1 : Below W.heap.size W y1 := B0.trans (hy.mono B0.size)
  have Dh1 := hy
  clear hy
  obtain ⟨d1, e1, d2, e2, rfl, hr1, hr2⟩ := ho
  rw [HM2.out] at hr2
  have HO := Lib.hid hr2
  rw [HM1.out, HM2.out]
  clear hr1 hr2
  go_simp
  refine hK.out _ _ (MK.out _ B1) (fun hHeld2 => ?mh_2)
  clear hK K hHeld
  have hHeld := hHeld2
  clear hHeld2
  try simp only [Act.put, List.getElem_toArray, List.getElem_cons_succ, List.getElem_cons_zero, List.setIfInBounds_toArray, List.set_cons_zero, List.set_cons_succ]
  refine wpAnyH_ready (rs := [3]) (by kernel_rfl) (by simp) ?_
  refine AllReadyH.cons rfl (fun K hK => ?sh_3) AllReadyH.nil
  go_simp
  refine (HCK.out _ _ _ _ _ _ HO.out).mono ?_
  rintro e y2 ⟨rfl, hy⟩
  have B2 : Below W.heap.size W y2 := B1.trans (hy.mono B1.size)
  have Dh2 := hy
  clear hy
  go_simp
  refine hK.out _ _ (MK.out _ B2) (fun hHeld2 => ?mh_3)
  clear hK K hHeld
  have hHeld := hHeld2
  clear hHeld2
  try simp only [Act.put, List.getElem_toArray, List.getElem_cons_succ, List.getElem_cons_zero, List.setIfInBounds_toArray, List.set_cons_zero, List.set_cons_succ]
  refine wpAnyH_ready (rs := [6]) (by kernel_rfl) (by simp) ?_
  refine AllReadyH.cons rfl (fun K hK => ?sh_6) AllReadyH.nil
  go_simp
  refine (HCR.out _ B2).mono ?_
  rintro e y3 ⟨rfl, hy⟩
  have B3 : Below W.heap.size W y3 := B2.trans (hy.mono B2.size)
  have Dh3 := hy
  clear hy
  go_simp
  refine hK.out _ _ (MK.out _ B3) (fun hHeld2 => ?mh_6)
  clear hK K hHeld
  have hHeld := hHeld2
  clear hHeld2
  try simp only [Act.put, List.getElem_toArray, List.getElem_cons_succ, List.getElem_cons_zero, List.setIfInBounds_toArray, List.set_cons_zero, List.set_cons_succ]
  refine todo [7, 8] ?_
  iterate 2
   first
   | (refine todoH (v := ?_) rfl (by kernel_rfl) (fun _ _ _ h => h) (by assumption) (Or.inl ⟨by rfl, ?_⟩) ?_
      rotate_left
      · intro w hSw; (try dsimp only at hSw); go_simp; (try with_reducible rfl)
      try simp only [Act.put, List.getElem_toArray, List.getElem_cons_succ, List.getElem_cons_zero, List.setIfInBounds_toArray, List.set_cons_zero, List.set_cons_succ])
   | (refine todoH (v := undef) rfl (by kernel_rfl) (fun _ _ _ h => h) (by assumption) (Or.inr ⟨by rfl, rfl⟩) ?_
      try simp only [Act.put, List.getElem_toArray, List.getElem_cons_succ, List.getElem_cons_zero, List.setIfInBounds_toArray, List.set_cons_zero, List.set_cons_succ])
  refine todone ?_
  refine wpAnyH_ready (rs := [9]) (by kernel_rfl) (by simp) ?_
  refine AllReadyH.cons rfl (fun K hK => ?sh_9) AllReadyH.nil
  go_simp
  refine (known11_any _).mono ?_
  rintro e y4 ⟨rfl, hy⟩
  have B4 : Below W.heap.size W y4 := B3.trans (hy.mono B3.size)
  have Dh4 := hy
  clear hy
  go_simp
  refine hK.out _ _ (MK.out _ B4) (fun hHeld2 => ?mh_9)
  clear hK K hHeld
  have hHeld := hHeld2
  clear hHeld2
  try simp only [Act.put, List.getElem_toArray, List.getElem_cons_succ, List.getElem_cons_zero, List.setIfInBounds_toArray, List.set_cons_zero, List.set_cons_succ]
  refine todo [10, 11] ?_
  iterate 2
   first
   | (refine todoH (v := ?_) rfl (by kernel_rfl) (fun _ _ _ h => h) (by assumption) (Or.inl ⟨by rfl, ?_⟩) ?_
      rotate_left
      · intro w hSw; (try dsimp only at hSw); go_simp; (try with_reducible rfl)
      try simp only [Act.put, List.getElem_toArray, List.getElem_cons_succ, List.getElem_cons_zero, List.setIfInBounds_toArray, List.set_cons_zero, List.set_cons_succ])
   | (refine todoH (v := undef) rfl (by kernel_rfl) (fun _ _ _ h => h) (by assumption) (Or.inr ⟨by rfl, rfl⟩) ?_
      try simp only [Act.put, List.getElem_toArray, List.getElem_cons_succ, List.getElem_cons_zero, List.setIfInBounds_toArray, List.set_cons_zero, List.set_cons_succ])
  refine todone ?_
  refine wpAnyH_done (by kernel_rfl) ?_ _
  (try dsimp only [Straight])
  go_wp2_with fail
  go_ret
  exact ⟨rfl, hbW.trans (B4.mono hbW.size)⟩
end
section
open Go.RowKit
open Go.ChangeShapes Go.WideShapes Go.ChangeAt
set_option linter.unusedVariables false
set_option linter.unusedSimpArgs false
set_option maxRecDepth 100000
namespace opNames
theorem contract (H : Type) (enc : TypeId × Value → H) (W : World) (base : Nat) (args : Array Value) (ds gs : List (DataW H)) (before : List MemPlace)
    (hval : ∀ (j : Nat) t v, Try.f3.params[j]? = some t → args[j]? = some v → Value.okWide Try.prog W .any base t v)
    (hW : DataW.Whole enc Try.prog Try.f3.params.toList Rows.opNamesSpec.vars false W args.toList ds gs before) (hsz0 : (DataW.weightsEach Try.prog (Try.f3.params.toList ++ Rows.opNamesSpec.plain.varTypes Try.prog) (ds ++ gs)).all (· ≤ reachBytes) = true) :
    Calls Try.prog 3 args W fun e W' => ∃ v, e = .returned v ∧ Rows.opNamesSpec.post enc Try.prog Try.f3 false true false false W args v W' := by
  have hW' := hW
  have hlt := fun p hp => hW'.lt p hp
  have hsz : (DataW.weightsEach Try.prog (Try.f3.params.toList ++ []) (ds ++ gs)).all (· ≤ reachBytes) = true := hsz0
  obtain ⟨p, q, hA0, hV, rfl, hfz, hnd⟩ := hW
  have hA : DataW.TrodAll enc Try.prog W 0 (fun _ => true) true Try.f3.params.toList args.toList ds p := hA0
  rw [Try.params3] at hA hval hsz
  obtain ⟨v0, vs0, d0, ds0, p0, q0, ha0, rfl, rfl, h0, r0⟩ := trodAll_cons hA
  obtain ⟨v1, vs1, d1, ds1, p1, q1, ha1, rfl, rfl, h1, r1⟩ := trodAll_cons r0
  obtain ⟨rfl, rfl, rfl⟩ := trodAll_nil r1
  subst ha1
  obtain rfl : args = #[v0, v1] := by cases args; simp_all
  obtain ⟨rfl, rfl⟩ := trodVars_none hV
  clear hA hA0 hV
  obtain ⟨i0, rfl, rfl, rfl, w0⟩ := open_int Try.underlying22 (hval 0 22 v0 rfl rfl) h0
  obtain ⟨s1, rfl, rfl, rfl, w1⟩ := Go.ChangeMaps.open_string Try.underlying9 (hval 1 9 v1 rfl rfl) h1
  simp only [List.append_nil] at hW' hlt hsz
  (try simp only [List.nil_append] at hW' hlt hsz)
  refine (opNames_walk i0 s1 W).mono fun e W' ⟨he, hb⟩ => ?_
  subst he
  exact ⟨_, rfl, [.lit (.int .i64 i0), .lit (.string s1.data.toList)], [], [], [], ([] ++ ([] ++ [])), [], hW', trodAll_cons_mk (shut_bool Try.underlying4 _) trodAll_mk0,
    (trodAll_cons_mk (shut_int Try.underlying22 w0) (trodAll_cons_mk (Go.ChangeMaps.shut_string Try.underlying9 w1) trodAll_mk0)), rfl, hb.frame _, fun h => by cases h⟩
set_option maxRecDepth 100000 in
theorem lifted (os : Os) (started : os.Started) (H : Type) (enc : TypeId × Value → H) :
    ReturnsInHanded {} Try.checked os 3 .any (Rows.opNamesSpec.pre6 enc Try.prog Try.f3 Rows.opNamesRow.domain false) (Rows.opNamesSpec.post enc Try.prog Try.f3 false true false false) := by
  refine returnsInHanded_of_change_sized (C := Try.checked) own started (by kernel_rfl) Try.func3
    (ChangeSpec.witness6 (enc := enc) (C := Try.checked) false ⟨#[], #[.int .i64 0, .string (ByteArray.mk #[])], []⟩ 8 (by kernel_rfl) (by kernel_rfl) (by kernel_rfl) (by kernel_rfl)) ?_
  intro W base args ds gs before hval hW _ hsz0 _
  exact contract H enc W base args ds gs before hval hW hsz0
theorem proved : Rows.OpNamesSaid :=
  OpenClaim.holds_of_wide 3 Try.f3 rfl rfl rfl rfl rfl rfl rfl ⟨rfl, rfl, rfl, rfl, rfl⟩ rfl rfl rfl rfl rfl (by kernel_rfl) Try.func3 (by kernel_rfl)
    (of_decide_eq_true (by kernel_rfl)) (by unfold Func.isWrapper; first | (rw [if_pos (by decide +kernel)]; kernel_rfl) | (rw [if_neg (by decide +kernel)]; exact ⟨rfl, rfl⟩))
    (fun os started H enc _ => lifted os started H enc)
end opNames
end
section
open Go.RowKit
open Go.ChangeShapes Go.WideShapes Go.ChangeAt
set_option linter.unusedVariables false
set_option linter.unusedSimpArgs false
set_option maxRecDepth 100000
namespace opVersions
theorem contract (H : Type) (enc : TypeId × Value → H) (W : World) (base : Nat) (args : Array Value) (ds gs : List (DataW H)) (before : List MemPlace)
    (hval : ∀ (j : Nat) t v, Try.f5.params[j]? = some t → args[j]? = some v → Value.okWide Try.prog W .any base t v)
    (hW : DataW.Whole enc Try.prog Try.f5.params.toList Rows.opVersionsSpec.vars false W args.toList ds gs before) (hsz0 : (DataW.weightsEach Try.prog (Try.f5.params.toList ++ Rows.opVersionsSpec.plain.varTypes Try.prog) (ds ++ gs)).all (· ≤ reachBytes) = true) :
    Calls Try.prog 5 args W fun e W' => ∃ v, e = .returned v ∧ Rows.opVersionsSpec.post enc Try.prog Try.f5 false true false false W args v W' := by
  have hW' := hW
  have hlt := fun p hp => hW'.lt p hp
  have hsz : (DataW.weightsEach Try.prog (Try.f5.params.toList ++ []) (ds ++ gs)).all (· ≤ reachBytes) = true := hsz0
  obtain ⟨p, q, hA0, hV, rfl, hfz, hnd⟩ := hW
  have hA : DataW.TrodAll enc Try.prog W 0 (fun _ => true) true Try.f5.params.toList args.toList ds p := hA0
  rw [Try.params5] at hA hval hsz
  obtain ⟨v0, vs0, d0, ds0, p0, q0, ha0, rfl, rfl, h0, r0⟩ := trodAll_cons hA
  obtain ⟨v1, vs1, d1, ds1, p1, q1, ha1, rfl, rfl, h1, r1⟩ := trodAll_cons r0
  obtain ⟨rfl, rfl, rfl⟩ := trodAll_nil r1
  subst ha1
  obtain rfl : args = #[v0, v1] := by cases args; simp_all
  obtain ⟨rfl, rfl⟩ := trodVars_none hV
  clear hA hA0 hV
  obtain ⟨i0, rfl, rfl, rfl, w0⟩ := open_int Try.underlying22 (hval 0 22 v0 rfl rfl) h0
  obtain ⟨i1, rfl, rfl, rfl, w1⟩ := open_int Try.underlying3 (hval 1 3 v1 rfl rfl) h1
  simp only [List.append_nil] at hW' hlt hsz
  (try simp only [List.nil_append] at hW' hlt hsz)
  refine (opVersions_walk i0 i1 W).mono fun e W' ⟨he, hb⟩ => ?_
  subst he
  exact ⟨_, rfl, [.lit (.int .i64 i0), .lit (.int .i64 i1)], [], [], [], ([] ++ ([] ++ [])), [], hW', trodAll_cons_mk (shut_bool Try.underlying4 _) trodAll_mk0,
    (trodAll_cons_mk (shut_int Try.underlying22 w0) (trodAll_cons_mk (shut_int Try.underlying3 w1) trodAll_mk0)), rfl, hb.frame _, fun h => by cases h⟩
set_option maxRecDepth 100000 in
theorem lifted (os : Os) (started : os.Started) (H : Type) (enc : TypeId × Value → H) :
    ReturnsInHanded {} Try.checked os 5 .any (Rows.opVersionsSpec.pre6 enc Try.prog Try.f5 Rows.opVersionsRow.domain false) (Rows.opVersionsSpec.post enc Try.prog Try.f5 false true false false) := by
  refine returnsInHanded_of_change_sized (C := Try.checked) own started (by kernel_rfl) Try.func5
    (ChangeSpec.witness6 (enc := enc) (C := Try.checked) false ⟨#[], #[.int .i64 0, .int .i64 0], []⟩ 8 (by kernel_rfl) (by kernel_rfl) (by kernel_rfl) (by kernel_rfl)) ?_
  intro W base args ds gs before hval hW _ hsz0 _
  exact contract H enc W base args ds gs before hval hW hsz0
theorem proved : Rows.OpVersionsSaid :=
  OpenClaim.holds_of_wide 5 Try.f5 rfl rfl rfl rfl rfl rfl rfl ⟨rfl, rfl, rfl, rfl, rfl⟩ rfl rfl rfl rfl rfl (by kernel_rfl) Try.func5 (by kernel_rfl)
    (of_decide_eq_true (by kernel_rfl)) (by unfold Func.isWrapper; first | (rw [if_pos (by decide +kernel)]; kernel_rfl) | (rw [if_neg (by decide +kernel)]; exact ⟨rfl, rfl⟩))
    (fun os started H enc _ => lifted os started H enc)
end opVersions
end
section
open Go.RowKit
open Go.ChangeShapes Go.WideShapes Go.ChangeAt
set_option linter.unusedVariables false
set_option linter.unusedSimpArgs false
set_option maxRecDepth 100000
namespace opBack
theorem contract (H : Type) (enc : TypeId × Value → H) (W : World) (base : Nat) (args : Array Value) (ds gs : List (DataW H)) (before : List MemPlace)
    (hval : ∀ (j : Nat) t v, Try.f4.params[j]? = some t → args[j]? = some v → Value.okWide Try.prog W .any base t v)
    (hW : DataW.Whole enc Try.prog Try.f4.params.toList Rows.opBackSpec.vars false W args.toList ds gs before) (hsz0 : (DataW.weightsEach Try.prog (Try.f4.params.toList ++ Rows.opBackSpec.plain.varTypes Try.prog) (ds ++ gs)).all (· ≤ reachBytes) = true) :
    Calls Try.prog 4 args W fun e W' => ∃ v, e = .returned v ∧ Rows.opBackSpec.post enc Try.prog Try.f4 false true false false W args v W' := by
  have hW' := hW
  have hlt := fun p hp => hW'.lt p hp
  have hsz : (DataW.weightsEach Try.prog (Try.f4.params.toList ++ []) (ds ++ gs)).all (· ≤ reachBytes) = true := hsz0
  obtain ⟨p, q, hA0, hV, rfl, hfz, hnd⟩ := hW
  have hA : DataW.TrodAll enc Try.prog W 0 (fun _ => true) true Try.f4.params.toList args.toList ds p := hA0
  rw [Try.params4] at hA hval hsz
  obtain ⟨v0, vs0, d0, ds0, p0, q0, ha0, rfl, rfl, h0, r0⟩ := trodAll_cons hA
  obtain ⟨v1, vs1, d1, ds1, p1, q1, ha1, rfl, rfl, h1, r1⟩ := trodAll_cons r0
  obtain ⟨rfl, rfl, rfl⟩ := trodAll_nil r1
  subst ha1
  obtain rfl : args = #[v0, v1] := by cases args; simp_all
  obtain ⟨rfl, rfl⟩ := trodVars_none hV
  clear hA hA0 hV
  obtain ⟨i0, rfl, rfl, rfl, w0⟩ := open_int Try.underlying22 (hval 0 22 v0 rfl rfl) h0
  obtain ⟨i1, rfl, rfl, rfl, w1⟩ := open_int Try.underlying22 (hval 1 22 v1 rfl rfl) h1
  simp only [List.append_nil] at hW' hlt hsz
  (try simp only [List.nil_append] at hW' hlt hsz)
  refine (opBack_walk i0 i1 W).mono fun e W' ⟨he, hb⟩ => ?_
  subst he
  exact ⟨_, rfl, [.lit (.int .i64 i0), .lit (.int .i64 i1)], [], [], [], ([] ++ ([] ++ [])), [], hW', trodAll_cons_mk (shut_bool Try.underlying4 _) trodAll_mk0,
    (trodAll_cons_mk (shut_int Try.underlying22 w0) (trodAll_cons_mk (shut_int Try.underlying22 w1) trodAll_mk0)), rfl, hb.frame _, fun h => by cases h⟩
set_option maxRecDepth 100000 in
theorem lifted (os : Os) (started : os.Started) (H : Type) (enc : TypeId × Value → H) :
    ReturnsInHanded {} Try.checked os 4 .any (Rows.opBackSpec.pre6 enc Try.prog Try.f4 Rows.opBackRow.domain false) (Rows.opBackSpec.post enc Try.prog Try.f4 false true false false) := by
  refine returnsInHanded_of_change_sized (C := Try.checked) own started (by kernel_rfl) Try.func4
    (ChangeSpec.witness6 (enc := enc) (C := Try.checked) false ⟨#[], #[.int .i64 0, .int .i64 0], []⟩ 8 (by kernel_rfl) (by kernel_rfl) (by kernel_rfl) (by kernel_rfl)) ?_
  intro W base args ds gs before hval hW _ hsz0 _
  exact contract H enc W base args ds gs before hval hW hsz0
theorem proved : Rows.OpBackSaid :=
  OpenClaim.holds_of_wide 4 Try.f4 rfl rfl rfl rfl rfl rfl rfl ⟨rfl, rfl, rfl, rfl, rfl⟩ rfl rfl rfl rfl rfl (by kernel_rfl) Try.func4 (by kernel_rfl)
    (of_decide_eq_true (by kernel_rfl)) (by unfold Func.isWrapper; first | (rw [if_pos (by decide +kernel)]; kernel_rfl) | (rw [if_neg (by decide +kernel)]; exact ⟨rfl, rfl⟩))
    (fun os started H enc _ => lifted os started H enc)
end opBack
end
end Go.Proofs.Ytnhbngeipedplaa
