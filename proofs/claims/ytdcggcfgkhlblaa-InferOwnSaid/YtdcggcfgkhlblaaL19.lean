/-
  Layer 12's law InferMay: what is answered may be, and no more elements come than may be; and whether more come than go in: for every input the law returns true, and its arguments read behind the call as they read before (first form: each slice that is met in reading them weighs at most the form's reach).
-/
import Derived.Test.YtdcggcfgkhlblaaL1
import Derived.Test.YtdcggcfgkhlblaaL2
import Derived.Test.YtdcggcfgkhlblaaL3
import Derived.Test.YtdcggcfgkhlblaaL4
import Derived.Test.YtdcggcfgkhlblaaL5
import Derived.Test.YtdcggcfgkhlblaaL7
import Derived.Test.YtdcggcfgkhlblaaL8
import Derived.Test.YtdcggcfgkhlblaaL10
import Derived.Test.YtdcggcfgkhlblaaL11
import Derived.Test.YtdcggcfgkhlblaaL15
import Derived.Test.YtdcggcfgkhlblaaL16
import Derived.Test.YtdcggcfgkhlblaaL17
import Derived.WalkKit
import Derived.Test.YtdcggcfgkhlblaaRows
import Derived.OrdersHeld
import Derived.Deep.RegionHeld
import Derived.BigQuiet
import Derived.Deep.QuietTactic
import Derived.Lib.Hide
import Derived.Lib.Small
import Derived.Lib.Walk
import Derived.Lib.BitFns
import Derived.Maps.AppendAt
import Derived.RangeFuncNested
import Derived.RangeFuncBound
import Derived.RangeFuncCalls
import Derived.RangeFuncLeaves
import Derived.Shelf.Abstract
import Derived.OwnWalkIn
import Derived.TacticsInMore
import Derived.LoopNIn
import Derived.LoopIn
import Derived.RangeFuncBox
import Derived.Deep.RegionHeld3
import Derived.OrdersIn
import Derived.StillTailTactics
import Derived.RangeFuncFrom
import Derived.Laws.EntriesVeiled
import Derived.ProofKit
import Derived.OpenShut
import Derived.JoinedCond
import Derived.Carry
import Derived.Laws.AppendOwnNone
import Derived.Lib.ItoaNum
import Derived.Deep.RegionLaw
import Derived.WalkMore
import Derived.Lib.SmallJoins
import Derived.IntWalk
import Derived.Deep.DeepCutAuto
import Derived.Laws.OwnMore
import Derived.ArgAppend
import Derived.Deep.Slices
import Derived.Laws.CopyOwn
import Derived.Lib.SliceRun
import Derived.SizedLaws
import Derived.Great.BuildSlice
namespace Go.Proofs.Ytdcggcfgkhlblaa
set_option maxRecDepth 100000
section
open Go.RowKit
set_option linter.unusedVariables false
set_option linter.unusedSimpArgs false
theorem infC_end {v o : Int} {n : Nat} {xs : List Int} {ls : List (List Int)} (h1 : chkO v o n xs = 0) (h2 : ls.length = n) (h3 : orL (ls.map mayC) = 0) : infC v o n xs ls = 0 ∨ infC v o n xs ls = 13 ∨ infC v o n xs ls = 14 := by
  cases hh : holdI o (attI v o n xs ls) ls with
  | false => exact .inr (.inl (infC_hold h1 h2 h3 hh))
  | true =>
    rw [infC_val h1 h2 h3 hh]
    simp only [orL]
    rcases mayC_range (valI o (attI v o n xs ls) ls) with h | h | h
    · rw [if_pos h]
      unfold addC
      by_cases ho : o = 19
      · rw [if_pos ho]
        unfold fitC
        split
        · rename_i h5
          rcases mayC_range (shpI ls 2) with h6 | h6 | h6
          · exact absurd h6 h5
          · rw [h6]; simp
          · rw [h6]; simp
        · split
          · rename_i h5; exact absurd h h5
          · split <;> simp
      · rw [if_neg ho]; simp
    · rw [if_neg (by rw [h]; decide), h]; simp
    · rw [if_neg (by rw [h]; decide), h]; simp
set_option maxRecDepth 100000 in
set_option maxHeartbeats 40000000 in
theorem inferFew_walk (v : Int) {v0 : Value} {o : Int} {ys xs : List Int} {ls : List (List Int)} {a1 a2 al : Option Addr} {c1 c2 cl : Nat} (w : World) (N : NodeA w v0 o ys xs a1 c1 a2 c2) (hy0 : ys.length ≤ 17592186044416) (hx0 : xs.length ≤ 17592186044416) (L : RowL w (.slice al ls.length cl) ls al cl) (hls : ∀ x ∈ ls, x.length ≤ 17592186044416) (hll : ls.length ≤ 17592186044416) : Calls Try.prog 6 #[.int .i64 v, v0, .slice al ls.length cl] w fun e w' => e = .returned (.bool true) ∧ Below w.heap.size w w' := by
  have HN := Lib.hid N
  have HL := Lib.hid L
  have HLS := Lib.hid hls
  obtain rfl := N.is
  obtain ⟨m1, hm1⟩ : ∃ m, ys.length = m := ⟨_, rfl⟩
  obtain ⟨m2, hm2⟩ : ∃ m, xs.length = m := ⟨_, rfl⟩
  obtain ⟨k, hk⟩ : ∃ m, ls.length = m := ⟨_, rfl⟩
  have HM1 := Lib.hid hm1
  have HM2 := Lib.hid hm2
  have HK := Lib.hid hk
  obtain ⟨IC, hic⟩ : ∃ c, infC v o m1 xs ls = c := ⟨_, rfl⟩
  obtain ⟨IV, hiv⟩ : ∃ c, infV v o m1 xs ls = c := ⟨_, rfl⟩
  have HIC := Lib.hid hic
  have HIV := Lib.hid hiv
  obtain ⟨e1, he1⟩ : ∃ c, chkO v o m1 xs = c := ⟨_, rfl⟩
  have HE1 := Lib.hid he1
  rw [hm1, hm2, hk]
  obtain ⟨W, hW⟩ : ∃ W, w.alloc (.cells #[.int .i64 o, .slice a1 m1 c1, .slice a2 m2 c2] 25) = W := ⟨_, rfl⟩
  have R0 : Row W w.heap.size 25 #[.int .i64 o, .slice a1 m1 c1, .slice a2 m2 c2] := by rw [← hW]; exact Row.new _ _ _
  have hbW : Below w.heap.size w W := by rw [← hW]; exact (Below.refl _ _).alloc (Nat.le_refl _) _
  have HSH := Lib.hid (show ∀ X, Below w.heap.size w X → Calls Try.prog 10 #[.int .i64 v, .agg #[.int .i64 o, .slice a1 m1 c1, .slice a2 m2 c2], .slice al k cl] X fun e w' => ∃ r, e = .returned (.tuple #[r, .int .i64 IC]) ∧ ResS X.heap.size w' r IV ∧ Below X.heap.size X w' from fun X hX => by
    have h := shape_any v (HN.out.later hX).atts HN.out.nil2 hx0 (HL.out.later hX) hls hll (o := o) (a1 := a1) (n1 := m1) (c1 := c1)
    rw [hm2, hk, hic, hiv] at h
    exact h)
  have HR0 := Lib.hid R0
  obtain ⟨k0, k1, k2, _, _, _⟩ := R0.three
  have HCK := Lib.hid (show ∀ X, Below w.heap.size w X → Calls Try.prog 14 #[.int .i64 v, .agg #[.int .i64 o, .slice a1 m1 c1, .slice a2 m2 c2]] X fun e w' => e = .returned (.int .i64 e1) ∧ Below X.heap.size X w' from fun X hX => by
    have h := checkR_any v (HN.out.later hX).atts HN.out.nil2 hx0 (o := o) (a1 := a1) (n1 := m1) (c1 := c1)
    rw [hm2, he1] at h
    exact h)
  rw [hm1] at hy0
  rw [hm2] at hx0
  rw [hk] at hll
  have HX0 := Lib.hid hx0
  clear hm1 hm2 hk hic hiv he1 N L hls R0
  by_cases h20 : k > 20
  · have h20I : (k : Int) > 20 := by omega
    go_enter Try.func6, Try.ntmps6
    (try rw [hW])
    go_wp2_with fail
    (try rw [hW])
    refine (known12_any _).mono ?_
    rintro e z1 ⟨rfl, hz1⟩
    go_wp2_with fail
    (try rw [Exit.noGoto_ret])
    go_ret
    exact ⟨rfl, hbW.trans (hz1.mono hbW.size)⟩
  · have h20I : ¬ (k : Int) > 20 := by omega
    go_enter Try.func6, Try.ntmps6
    (try rw [hW])
    go_wp2_with fail
    (try rw [hW])
    clear hW
    refine (HSH.out _ (hbW.trans ((Below.refl W.heap.size W).mono hbW.size))).mono ?_
    rintro e y1 ⟨r, rfl, hr, hy⟩
    have B1 : Below W.heap.size W y1 := (Below.refl W.heap.size W).trans (hy.mono (Below.refl W.heap.size W).size)
    obtain ⟨ar, cr, rfl, hr2⟩ := res_slice11 hr
    obtain ⟨lv, hlv⟩ : ∃ n, IV.length = n := ⟨_, rfl⟩
    have HLV := Lib.hid hlv
    rw [hlv] at hr2 ⊢
    have HR := Lib.hid hr2
    clear hr hr2 hy hlv
    clear k0 k1 k2
    obtain ⟨k0, k1, k2, _, _, _⟩ := (HR0.out.later B1).three
    go_wp2_with fail
    refine (HCK.out _ (hbW.trans (B1.mono hbW.size))).mono ?_
    rintro e y2 ⟨rfl, hy⟩
    have B2 : Below W.heap.size W y2 := B1.trans (hy.mono B1.size)
    clear hy
    clear k0 k1 k2
    obtain ⟨k0, k1, k2, _, _, _⟩ := (HR0.out.later B2).three
    by_cases h1 : e1 = 0
    case neg =>
      have h1I : (e1 != 0) = true := by simpa using h1
      obtain rfl : IC = e1 := by rw [← HIC.out, ← HE1.out]; exact infC_chk (by rw [HE1.out]; exact h1)
      clear h1
      go_wp2_with fail
      refine (HCK.out _ (hbW.trans (B2.mono hbW.size))).mono ?_
      rintro e y3 ⟨rfl, hy⟩
      have B3 : Below w.heap.size w y3 := hbW.trans ((B2.trans (hy.mono B2.size)).mono hbW.size)
      clear hy
      go_wp2_with fail
      refine (known12_any _).mono ?_
      rintro e z4 ⟨rfl, hz4⟩
      go_wp2_with fail
      (try rw [Exit.noGoto_ret])
      go_ret
      exact ⟨rfl, B3.trans (hz4.mono B3.size)⟩
    case pos =>
      subst h1
      have hb2 : Below w.heap.size w y2 := hbW.trans (B2.mono hbW.size)
      by_cases h2 : k = m1
      case neg =>
        have h2I : ((k : Int) != (m1 : Int)) = true := by simp; omega
        obtain rfl : IC = 10 := by rw [← HIC.out]; exact infC_few HE1.out (by rw [HK.out]; exact h2)
        clear h2
        go_wp2_with fail
        refine (known12_any _).mono ?_
        rintro e z3 ⟨rfl, hz3⟩
        go_wp2_with fail
        (try rw [Exit.noGoto_ret])
        go_ret
        exact ⟨rfl, hb2.trans (hz3.mono hb2.size)⟩
      case pos =>
        have h2I : ((k : Int) != (m1 : Int)) = false := by simp; omega
        have HKM := Lib.hid h2
        clear h2
        go_wp2_with fail
        go_loopw [9, 10] (fun i _ wi => ∃ j : Nat, i = .int .i64 (j : Int) ∧ j ≤ k ∧ Hid (orL ((ls.take j).map mayC) = 0) ∧ Below y2.heap.size y2 wi) (fun i _ _ => k - (intOf i).toNat)
        case atStart => exact ⟨0, rfl, Nat.zero_le _, Lib.hid rfl, Below.refl _ _⟩
        case round =>
          rename World => wi
          obtain ⟨j, rfl, hj, hor, hbi⟩ := hrel
          have bwi : Below w.heap.size w wi := hb2.trans (hbi.mono hb2.size)
          by_cases hlt : j < k
          · have hltI : (j : Int) < (k : Int) := by omega
            have hj0 : (0 : Int) ≤ (j : Int) := by omega
            obtain ⟨b, o0, ax, cx, rfl, hbl, hcx, hAx, hnx⟩ := (HL.out.later bwi).at (i := j) (by rw [HK.out]; exact hlt)
            have hms := mayR6_any hAx
            obtain ⟨q, hq⟩ : ∃ q, mayC (shpI ls j) = q := ⟨_, rfl⟩
            obtain ⟨lx, hlx⟩ : ∃ l, (shpI ls j).length = l := ⟨_, rfl⟩
            rw [hq] at hms
            rw [hlx] at hms hcx
            have HQ := Lib.hid hq
            have HMS := Lib.hid hms
            clear hq hlx hms hAx
            go_wp2_with fail
            refine HMS.out.mono ?_
            rintro e w2 ⟨rfl, rfl⟩
            by_cases hq0 : q = 0
            · subst hq0
              go_wp2_with fail
              go_roundw
              case rel => exact ⟨j + 1, by go_num, by omega, Lib.hid (by rw [may_next (by rw [HK.out]; exact hlt), orL_snoc0 hor.out, HQ.out]), hbi⟩
              case measure => simp [intOf]; omega
            · have hqI : (q != 0) = true := by simpa using hq0
              obtain rfl : IC = q := by
                have h5 := may_stop (by rw [HK.out]; exact hlt) hor.out (by rw [HQ.out]; exact hq0)
                rw [HQ.out] at h5
                rw [← HIC.out, infC_may HE1.out (by rw [HK.out]; exact HKM.out) (by rw [h5]; exact hq0), h5]
              clear hq0 hcx
              go_wp2_with fail
              refine (known12_any _).mono ?_
              rintro e z3 ⟨rfl, hz3⟩
              go_wp2_with fail
              (try rw [Exit.noGoto_ret])
              go_ret
              exact ⟨rfl, bwi.trans (hz3.mono bwi.size)⟩
          · obtain rfl : j = k := by omega
            have hor2 : orL (ls.map mayC) = 0 := by
              have h5 := hor.out
              rw [List.take_of_length_le (by rw [HK.out]; exact Nat.le_refl _)] at h5
              exact h5
            have hend := infC_end HE1.out (HK.out.trans HKM.out) hor2
            rw [HIC.out] at hend
            clear hor2 hor
            rcases hend with rfl | rfl | rfl
            · go_wp2_with fail
              refine (known12_any _).mono ?_
              rintro e z3 ⟨rfl, hz3⟩
              go_wp2_with fail
              (try rw [Exit.noGoto_ret])
              go_ret
              exact ⟨rfl, bwi.trans (hz3.mono bwi.size)⟩
            · go_wp2_with fail
              refine (known12_any _).mono ?_
              rintro e z3 ⟨rfl, hz3⟩
              go_wp2_with fail
              (try rw [Exit.noGoto_ret])
              go_ret
              exact ⟨rfl, bwi.trans (hz3.mono bwi.size)⟩
            · go_wp2_with fail
              refine (known12_any _).mono ?_
              rintro e z3 ⟨rfl, hz3⟩
              go_wp2_with fail
              (try rw [Exit.noGoto_ret])
              go_ret
              exact ⟨rfl, bwi.trans (hz3.mono bwi.size)⟩
end
section
open Go.RowKit
set_option linter.unusedVariables false
set_option linter.unusedSimpArgs false
set_option maxRecDepth 100000 in
set_option maxHeartbeats 40000000 in
theorem inferMay_walk (v : Int) {v0 : Value} {o : Int} {ys xs : List Int} {ls : List (List Int)} {a1 a2 al : Option Addr} {c1 c2 cl : Nat} (w : World) (N : NodeA w v0 o ys xs a1 c1 a2 c2) (hy0 : ys.length ≤ 17592186044416) (hx0 : xs.length ≤ 17592186044416) (L : RowL w (.slice al ls.length cl) ls al cl) (hls : ∀ x ∈ ls, x.length ≤ 17592186044416) (hll : ls.length ≤ 17592186044416) : Calls Try.prog 5 #[.int .i64 v, v0, .slice al ls.length cl] w fun e w' => e = .returned (.bool true) ∧ Below w.heap.size w w' := by
  have HN := Lib.hid N
  have HL := Lib.hid L
  have HLS := Lib.hid hls
  obtain rfl := N.is
  obtain ⟨m1, hm1⟩ : ∃ m, ys.length = m := ⟨_, rfl⟩
  obtain ⟨m2, hm2⟩ : ∃ m, xs.length = m := ⟨_, rfl⟩
  obtain ⟨k, hk⟩ : ∃ m, ls.length = m := ⟨_, rfl⟩
  have HM1 := Lib.hid hm1
  have HM2 := Lib.hid hm2
  have HK := Lib.hid hk
  obtain ⟨IC, hic⟩ : ∃ c, infC v o m1 xs ls = c := ⟨_, rfl⟩
  obtain ⟨IV, hiv⟩ : ∃ c, infV v o m1 xs ls = c := ⟨_, rfl⟩
  have HIC := Lib.hid hic
  have HIV := Lib.hid hiv
  obtain ⟨e1, he1⟩ : ∃ c, chkO v o m1 xs = c := ⟨_, rfl⟩
  have HE1 := Lib.hid he1
  rw [hm1, hm2, hk]
  obtain ⟨W, hW⟩ : ∃ W, w.alloc (.cells #[.int .i64 o, .slice a1 m1 c1, .slice a2 m2 c2] 25) = W := ⟨_, rfl⟩
  have R0 : Row W w.heap.size 25 #[.int .i64 o, .slice a1 m1 c1, .slice a2 m2 c2] := by rw [← hW]; exact Row.new _ _ _
  have hbW : Below w.heap.size w W := by rw [← hW]; exact (Below.refl _ _).alloc (Nat.le_refl _) _
  have HSH := Lib.hid (show ∀ X, Below w.heap.size w X → Calls Try.prog 10 #[.int .i64 v, .agg #[.int .i64 o, .slice a1 m1 c1, .slice a2 m2 c2], .slice al k cl] X fun e w' => ∃ r, e = .returned (.tuple #[r, .int .i64 IC]) ∧ ResS X.heap.size w' r IV ∧ Below X.heap.size X w' from fun X hX => by
    have h := shape_any v (HN.out.later hX).atts HN.out.nil2 hx0 (HL.out.later hX) hls hll (o := o) (a1 := a1) (n1 := m1) (c1 := c1)
    rw [hm2, hk, hic, hiv] at h
    exact h)
  have HR0 := Lib.hid R0
  obtain ⟨k0, k1, k2, _, _, _⟩ := R0.three
  obtain ⟨gr, hgr⟩ : ∃ g, growI v o m1 xs ls = g := ⟨_, rfl⟩
  have HG := Lib.hid (show decide (IC = 0 ∧ sumC ls < countS IV) = gr by rw [← hgr, ← hic, ← hiv]; rfl)
  have HGR := Lib.hid (show k ≤ 20 → ∀ X, Below w.heap.size w X → Calls Try.prog 19 #[.int .i64 v, .agg #[.int .i64 o, .slice a1 m1 c1, .slice a2 m2 c2], .slice al k cl] X fun e w' => e = .returned (.bool gr) ∧ Below X.heap.size X w' from fun h20 X hX => by
    have h := grows_any v (HN.out.later hX).atts HN.out.nil2 hx0 (HL.out.later hX) hls (by omega) (o := o) (a1 := a1) (n1 := m1) (c1 := c1)
    rw [hm2, hk, hgr] at h
    exact h)
  rw [hm1] at hy0
  rw [hm2] at hx0
  rw [hk] at hll
  have HX0 := Lib.hid hx0
  clear hm1 hm2 hk hic hiv he1 hgr N L hls R0
  by_cases h20 : k > 20
  · have h20I : (k : Int) > 20 := by omega
    go_enter Try.func5, Try.ntmps5
    (try rw [hW])
    go_wp2_with fail
    (try rw [hW])
    refine (known12_any _).mono ?_
    rintro e z1 ⟨rfl, hz1⟩
    go_wp2_with fail
    (try rw [Exit.noGoto_ret])
    go_ret
    exact ⟨rfl, hbW.trans (hz1.mono hbW.size)⟩
  · have h20I : ¬ (k : Int) > 20 := by omega
    have HGG := Lib.hid (HGR.out (by omega))
    go_enter Try.func5, Try.ntmps5
    (try rw [hW])
    go_wp2_with fail
    (try rw [hW])
    clear hW
    refine (HSH.out _ (hbW.trans ((Below.refl W.heap.size W).mono hbW.size))).mono ?_
    rintro e y1 ⟨r, rfl, hr, hy⟩
    have B1 : Below W.heap.size W y1 := (Below.refl W.heap.size W).trans (hy.mono (Below.refl W.heap.size W).size)
    obtain ⟨ar, cr, rfl, hr2⟩ := res_slice11 hr
    obtain ⟨lv, hlv⟩ : ∃ n, IV.length = n := ⟨_, rfl⟩
    have HLV := Lib.hid hlv
    rw [hlv] at hr2 ⊢
    have HR := Lib.hid hr2
    clear hr hr2 hy hlv
    have hb1 : Below w.heap.size w y1 := hbW.trans (B1.mono hbW.size)
    clear k0 k1 k2
    obtain ⟨k0, k1, k2, _, _, _⟩ := (HR0.out.later B1).three
    go_wp2_with fail
    go_loopw [9, 10] (fun s i wi => ∃ j : Nat, i = .int .i64 (j : Int) ∧ j ≤ k ∧ s = .int .i64 (sumC (ls.take j)) ∧ Below y1.heap.size y1 wi) (fun _ i _ => k - (intOf i).toNat)
    case atStart => exact ⟨0, rfl, Nat.zero_le _, rfl, Below.refl _ _⟩
    case round =>
      rename World => wi
      obtain ⟨j, rfl, hj, hss, hbi⟩ := hrel
      have bwi : Below w.heap.size w wi := hb1.trans (hbi.mono hb1.size)
      obtain ⟨sm, hsm⟩ : ∃ c, sumC (ls.take j) = c := ⟨_, rfl⟩
      have hsr := sumC_range (ls.take j)
      rw [List.length_take, HK.out] at hsr
      rw [hsm] at hsr hss
      subst hss
      have HSM := Lib.hid hsm
      clear k0 k1 k2
      by_cases hlt : j < k
      · have hltI : (j : Int) < (k : Int) := by omega
        have hj0 : (0 : Int) ≤ (j : Int) := by omega
        obtain ⟨b, o0, ax, cx, rfl, hbl, hcx, hAx, hnx⟩ := (HL.out.later bwi).at (i := j) (by rw [HK.out]; exact hlt)
        have hct := countR6_any hAx
        obtain ⟨lx, hlx⟩ : ∃ l, (shpI ls j).length = l := ⟨_, rfl⟩
        obtain ⟨cn, hcn⟩ : ∃ c, countS (shpI ls j) = c := ⟨_, rfl⟩
        have hcr := count_range (shpI ls j)
        rw [hlx, hcn] at hct
        rw [hlx] at hcx
        rw [hcn] at hcr
        have HCN := Lib.hid hcn
        have HCT := Lib.hid hct
        have hmn : min j k ≤ 20 := by omega
        have hww : IntKind.i64.wrap (sm + cn) = sm + cn := IntWalk.i64_in _ (by omega)
        clear hsm hct hlx hcn hAx hnx hsr hcr hmn
        go_wp2_with fail
        refine HCT.out.mono ?_
        rintro e w2 ⟨rfl, rfl⟩
        clear hcx
        go_wp2_with fail
        go_roundw
        case rel => exact ⟨j + 1, by go_num, by omega, by rw [List.take_add_one, shp_some (by rw [HK.out]; exact hlt), Option.toList_some, sumC_snoc, HSM.out, HCN.out], hbi⟩
        case measure => simp [intOf]; omega
      · obtain rfl : j = k := by omega
        have BWi : Below W.heap.size W wi := B1.trans (hbi.mono B1.size)
        obtain ⟨k0, k1, k2, _, _, _⟩ := (HR0.out.later BWi).three
        have hall : sumC ls = sm := by rw [← HSM.out, List.take_of_length_le (by rw [HK.out]; exact Nat.le_refl _)]
        have HALL := Lib.hid hall
        clear hall hsm hsr
        by_cases h0 : IC = 0
        case neg =>
          have h0I : (IC != 0) = true := by simpa using h0
          obtain rfl : IV = [] := by rw [← HIV.out]; exact infV_bad (by rw [HIC.out]; exact h0)
          obtain rfl : lv = 0 := HLV.out.symm
          obtain rfl : gr = false := by rw [← HG.out]; exact decide_eq_false (fun h => h0 h.1)
          clear h0
          go_wp2_with fail
          refine (HGG.out _ bwi).mono ?_
          rintro e y4 ⟨rfl, hy⟩
          have B4 : Below w.heap.size w y4 := bwi.trans (hy.mono bwi.size)
          clear hy
          go_wp2_with fail
          refine (known12_any _).mono ?_
          rintro e z5 ⟨rfl, hz5⟩
          go_wp2_with fail
          (try rw [Exit.noGoto_ret])
          go_ret
          exact ⟨rfl, B4.trans (hz5.mono B4.size)⟩
        case pos =>
          subst h0
          have hok := inf_ok HIC.out
          rw [HIV.out] at hok
          have hat := (HR.out.later hbi).at_
          have hms := mayR6_any hat.2.1
          rw [mayC_ok hok] at hms
          have HMS := Lib.hid hms
          have HAT := Lib.hid hat.2.1
          clear hok hat hms
          go_wp2_with fail
          refine HMS.out.mono ?_
          rintro e w2 ⟨rfl, rfl⟩
          go_wp2_with fail
          refine (HGG.out _ bwi).mono ?_
          rintro e y4 ⟨rfl, hy⟩
          have B4 : Below w.heap.size w y4 := bwi.trans (hy.mono bwi.size)
          have hct := countR6_any (HAT.out.later hy)
          obtain ⟨cn, hcn⟩ : ∃ c, countS IV = c := ⟨_, rfl⟩
          rw [hcn] at hct
          have HCT := Lib.hid hct
          have hgq : decide (sm < cn) = gr := by rw [← HG.out, hcn, HALL.out]; simp
          have HGQ := Lib.hid hgq
          clear hy hct hcn hgq
          go_wp2_with fail
          refine HCT.out.mono ?_
          rintro e y5 ⟨rfl, rfl⟩
          have hgq := HGQ.out
          cases gr with
          | true =>
            have hlt2 : sm < cn := of_decide_eq_true hgq
            clear hgq
            go_wp2_with fail
            refine (known12_any _).mono ?_
            rintro e z6 ⟨rfl, hz6⟩
            go_wp2_with fail
            (try rw [Exit.noGoto_ret])
            go_ret
            exact ⟨rfl, B4.trans (hz6.mono B4.size)⟩
          | false =>
            have HGF := Lib.hid hgq
            have hlt2 : ¬ sm < cn := of_decide_eq_false hgq
            clear hgq
            go_wp2_with fail
            refine (known12_any _).mono ?_
            rintro e z6 ⟨rfl, hz6⟩
            go_wp2_with fail
            (try rw [Exit.noGoto_ret])
            go_ret
            exact ⟨by first | rfl | (rw [HGF.out]; rfl), B4.trans (hz6.mono B4.size)⟩
end
section
open Go.RowKit
open Go.ChangeShapes Go.WideShapes Go.ChangeAt
set_option linter.unusedVariables false
set_option linter.unusedSimpArgs false
set_option maxRecDepth 100000
namespace inferFew
theorem contract (H : Type) (enc : TypeId × Value → H) (W : World) (base : Nat) (args : Array Value) (ds gs : List (DataW H)) (before : List MemPlace)
    (hval : ∀ (j : Nat) t v, Try.f6.params[j]? = some t → args[j]? = some v → Value.okWide Try.prog W .any base t v)
    (hW : DataW.Whole enc Try.prog Try.f6.params.toList Rows.inferFewSpec.vars false W args.toList ds gs before) (hsz0 : (DataW.weightsEach Try.prog (Try.f6.params.toList ++ Rows.inferFewSpec.plain.varTypes Try.prog) (ds ++ gs)).all (· ≤ reachBytes) = true) :
    Calls Try.prog 6 args W fun e W' => ∃ v, e = .returned v ∧ Rows.inferFewSpec.post enc Try.prog Try.f6 false true false false W args v W' := by
  have hW' := hW
  have hlt := fun p hp => hW'.lt p hp
  have hsz : (DataW.weightsEach Try.prog (Try.f6.params.toList ++ []) (ds ++ gs)).all (· ≤ reachBytes) = true := hsz0
  obtain ⟨p, q, hA0, hV, rfl, hfz, hnd⟩ := hW
  have hA : DataW.TrodAll enc Try.prog W 0 (fun _ => true) true Try.f6.params.toList args.toList ds p := hA0
  rw [Try.params6] at hA hval hsz
  obtain ⟨v0, vs0, d0, ds0, p0, q0, ha0, rfl, rfl, h0, r0⟩ := trodAll_cons hA
  obtain ⟨v1, vs1, d1, ds1, p1, q1, ha1, rfl, rfl, h1, r1⟩ := trodAll_cons r0
  obtain ⟨v2, vs2, d2, ds2, p2, q2, ha2, rfl, rfl, h2, r2⟩ := trodAll_cons r1
  obtain ⟨rfl, rfl, rfl⟩ := trodAll_nil r2
  subst ha1
  subst ha2
  obtain rfl : args = #[v0, v1, v2] := by cases args; simp_all
  obtain ⟨rfl, rfl⟩ := trodVars_none hV
  clear hA hA0 hV
  obtain ⟨i0, rfl, rfl, rfl, w0⟩ := open_int Try.underlying3 (hval 0 3 v0 rfl rfl) h0
  simp only [List.append_nil] at hW' hlt hsz
  (try simp only [List.nil_append] at hW' hlt hsz)
  obtain ⟨o1, ys1, xs1, a1, ca1, b1, cb1, N1, ly1, lx1⟩ := open_node (hval 1 25 v1 rfl rfl) h1 (fun n hn => by simpa using List.all_eq_true.1 hsz n (DataW.weights_mem_each (j := 1) rfl rfl n hn))
  obtain ⟨a2, ls2, ca2, hv2, L2, lb2, ll2⟩ := open_shapesL (hval 2 26 v2 rfl rfl) h2 (fun n hn => by simpa using List.all_eq_true.1 hsz n (DataW.weights_mem_each (j := 2) rfl rfl n hn))
  subst hv2
  refine (inferFew_walk i0 W N1 (by omega) (by omega) L2 lb2 ll2).mono fun e W' ⟨he, hb⟩ => ?_
  subst he
  have t1 := Below.trod laid8 (by kernel_rfl) (of_decide_eq_true (by kernel_rfl)) h1 hb (fun x hx => hlt x (by simp [hx]))
  have t2 := Below.trod laid8 (by kernel_rfl) (of_decide_eq_true (by kernel_rfl)) h2 hb (fun x hx => hlt x (by simp [hx]))
  exact ⟨_, rfl, [.lit (.int .i64 i0), d1, d2], [], (p1 ++ p2), [], ([] ++ (p1 ++ (p2 ++ []))), [], hW', trodAll_cons_mk (shut_bool Try.underlying4 _) trodAll_mk0,
    (trodAll_cons_mk (shut_int Try.underlying3 w0) (trodAll_cons_mk t1 (trodAll_cons_mk t2 trodAll_mk0))), rfl, hb.frame _, fun h => by cases h⟩
set_option maxRecDepth 100000 in
theorem lifted (os : Os) (started : os.Started) (H : Type) (enc : TypeId × Value → H) :
    ReturnsInHanded {} Try.checked os 6 .any (Rows.inferFewSpec.pre6 enc Try.prog Try.f6 Rows.inferFewRow.domain false) (Rows.inferFewSpec.post enc Try.prog Try.f6 false true false false) := by
  refine returnsInHanded_of_change_sized (C := Try.checked) own started (by kernel_rfl) Try.func6
    (ChangeSpec.witness6 (enc := enc) (C := Try.checked) false ⟨#[], #[.int .i64 0, .agg #[.int .i64 0, .slice none 0 0, .slice none 0 0], .slice none 0 0], []⟩ 8 (by kernel_rfl) (by kernel_rfl) (by kernel_rfl) (by kernel_rfl)) ?_
  intro W base args ds gs before hval hW _ hsz0 _
  exact contract H enc W base args ds gs before hval hW hsz0
theorem proved : Rows.InferFewSaid :=
  OpenClaim.holds_of_wide 6 Try.f6 rfl rfl rfl rfl rfl rfl rfl ⟨rfl, rfl, rfl, rfl, rfl⟩ rfl rfl rfl rfl rfl (by kernel_rfl) Try.func6 (by kernel_rfl)
    (of_decide_eq_true (by kernel_rfl)) (by unfold Func.isWrapper; first | (rw [if_pos (by decide +kernel)]; kernel_rfl) | (rw [if_neg (by decide +kernel)]; exact ⟨rfl, rfl⟩))
    (fun os started H enc _ => lifted os started H enc)
end inferFew
end
section
open Go.RowKit
open Go.ChangeShapes Go.WideShapes Go.ChangeAt
set_option linter.unusedVariables false
set_option linter.unusedSimpArgs false
set_option maxRecDepth 100000
namespace inferMay
theorem contract (H : Type) (enc : TypeId × Value → H) (W : World) (base : Nat) (args : Array Value) (ds gs : List (DataW H)) (before : List MemPlace)
    (hval : ∀ (j : Nat) t v, Try.f5.params[j]? = some t → args[j]? = some v → Value.okWide Try.prog W .any base t v)
    (hW : DataW.Whole enc Try.prog Try.f5.params.toList Rows.inferMaySpec.vars false W args.toList ds gs before) (hsz0 : (DataW.weightsEach Try.prog (Try.f5.params.toList ++ Rows.inferMaySpec.plain.varTypes Try.prog) (ds ++ gs)).all (· ≤ reachBytes) = true) :
    Calls Try.prog 5 args W fun e W' => ∃ v, e = .returned v ∧ Rows.inferMaySpec.post enc Try.prog Try.f5 false true false false W args v W' := by
  have hW' := hW
  have hlt := fun p hp => hW'.lt p hp
  have hsz : (DataW.weightsEach Try.prog (Try.f5.params.toList ++ []) (ds ++ gs)).all (· ≤ reachBytes) = true := hsz0
  obtain ⟨p, q, hA0, hV, rfl, hfz, hnd⟩ := hW
  have hA : DataW.TrodAll enc Try.prog W 0 (fun _ => true) true Try.f5.params.toList args.toList ds p := hA0
  rw [Try.params5] at hA hval hsz
  obtain ⟨v0, vs0, d0, ds0, p0, q0, ha0, rfl, rfl, h0, r0⟩ := trodAll_cons hA
  obtain ⟨v1, vs1, d1, ds1, p1, q1, ha1, rfl, rfl, h1, r1⟩ := trodAll_cons r0
  obtain ⟨v2, vs2, d2, ds2, p2, q2, ha2, rfl, rfl, h2, r2⟩ := trodAll_cons r1
  obtain ⟨rfl, rfl, rfl⟩ := trodAll_nil r2
  subst ha1
  subst ha2
  obtain rfl : args = #[v0, v1, v2] := by cases args; simp_all
  obtain ⟨rfl, rfl⟩ := trodVars_none hV
  clear hA hA0 hV
  obtain ⟨i0, rfl, rfl, rfl, w0⟩ := open_int Try.underlying3 (hval 0 3 v0 rfl rfl) h0
  simp only [List.append_nil] at hW' hlt hsz
  (try simp only [List.nil_append] at hW' hlt hsz)
  obtain ⟨o1, ys1, xs1, a1, ca1, b1, cb1, N1, ly1, lx1⟩ := open_node (hval 1 25 v1 rfl rfl) h1 (fun n hn => by simpa using List.all_eq_true.1 hsz n (DataW.weights_mem_each (j := 1) rfl rfl n hn))
  obtain ⟨a2, ls2, ca2, hv2, L2, lb2, ll2⟩ := open_shapesL (hval 2 26 v2 rfl rfl) h2 (fun n hn => by simpa using List.all_eq_true.1 hsz n (DataW.weights_mem_each (j := 2) rfl rfl n hn))
  subst hv2
  refine (inferMay_walk i0 W N1 (by omega) (by omega) L2 lb2 ll2).mono fun e W' ⟨he, hb⟩ => ?_
  subst he
  have t1 := Below.trod laid8 (by kernel_rfl) (of_decide_eq_true (by kernel_rfl)) h1 hb (fun x hx => hlt x (by simp [hx]))
  have t2 := Below.trod laid8 (by kernel_rfl) (of_decide_eq_true (by kernel_rfl)) h2 hb (fun x hx => hlt x (by simp [hx]))
  exact ⟨_, rfl, [.lit (.int .i64 i0), d1, d2], [], (p1 ++ p2), [], ([] ++ (p1 ++ (p2 ++ []))), [], hW', trodAll_cons_mk (shut_bool Try.underlying4 _) trodAll_mk0,
    (trodAll_cons_mk (shut_int Try.underlying3 w0) (trodAll_cons_mk t1 (trodAll_cons_mk t2 trodAll_mk0))), rfl, hb.frame _, fun h => by cases h⟩
set_option maxRecDepth 100000 in
theorem lifted (os : Os) (started : os.Started) (H : Type) (enc : TypeId × Value → H) :
    ReturnsInHanded {} Try.checked os 5 .any (Rows.inferMaySpec.pre6 enc Try.prog Try.f5 Rows.inferMayRow.domain false) (Rows.inferMaySpec.post enc Try.prog Try.f5 false true false false) := by
  refine returnsInHanded_of_change_sized (C := Try.checked) own started (by kernel_rfl) Try.func5
    (ChangeSpec.witness6 (enc := enc) (C := Try.checked) false ⟨#[], #[.int .i64 0, .agg #[.int .i64 0, .slice none 0 0, .slice none 0 0], .slice none 0 0], []⟩ 8 (by kernel_rfl) (by kernel_rfl) (by kernel_rfl) (by kernel_rfl)) ?_
  intro W base args ds gs before hval hW _ hsz0 _
  exact contract H enc W base args ds gs before hval hW hsz0
theorem proved : Rows.InferMaySaid :=
  OpenClaim.holds_of_wide 5 Try.f5 rfl rfl rfl rfl rfl rfl rfl ⟨rfl, rfl, rfl, rfl, rfl⟩ rfl rfl rfl rfl rfl (by kernel_rfl) Try.func5 (by kernel_rfl)
    (of_decide_eq_true (by kernel_rfl)) (by unfold Func.isWrapper; first | (rw [if_pos (by decide +kernel)]; kernel_rfl) | (rw [if_neg (by decide +kernel)]; exact ⟨rfl, rfl⟩))
    (fun os started H enc _ => lifted os started H enc)
end inferMay
end
end Go.Proofs.Ytdcggcfgkhlblaa
