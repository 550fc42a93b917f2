/-
  Part 4 of 5: contracts and what they rest on (IWTell).
-/
import Derived.Test.YtdcggcfgkhlblaaM1
import Derived.Test.YtdcggcfgkhlblaaM3
import Derived.Test.YtdcggcfgkhlblaaL21
import Derived.WalkKit
import Derived.Test.YtdcggcfgkhlblaaRows
import Derived.OrdersHeld
import Derived.Deep.RegionHeld
import Derived.BigQuiet
import Derived.Deep.QuietTactic
import Derived.Lib.Hide
import Derived.Lib.Small
import Derived.Lib.Walk
import Derived.Lib.BitFns
import Derived.Maps.AppendAt
import Derived.RangeFuncNested
import Derived.RangeFuncBound
import Derived.RangeFuncCalls
import Derived.RangeFuncLeaves
import Derived.Shelf.Abstract
import Derived.OwnWalkIn
import Derived.TacticsInMore
import Derived.LoopNIn
import Derived.LoopIn
import Derived.RangeFuncBox
import Derived.Deep.RegionHeld3
import Derived.OrdersIn
import Derived.StillTailTactics
import Derived.RangeFuncFrom
import Derived.Laws.EntriesVeiled
import Derived.ProofKit
import Derived.OpenShut
import Derived.JoinedCond
import Derived.Carry
import Derived.Laws.AppendOwnNone
import Derived.Lib.ItoaNum
import Derived.Deep.RegionLaw
import Derived.WalkMore
import Derived.Lib.SmallJoins
import Derived.IntWalk
import Derived.Deep.DeepCutAuto
import Derived.Laws.OwnMore
import Derived.ArgAppend
import Derived.Deep.Slices
import Derived.Laws.CopyOwn
import Derived.Lib.SliceRun
import Derived.SizedLaws
import Derived.Great.BuildSlice
namespace Go.Proofs.Ytdcggcfgkhlblaa
set_option maxRecDepth 100000
section
open Go.RowKit
set_option linter.unusedVariables false
set_option linter.unusedSimpArgs false
set_option maxRecDepth 100000 in
set_option maxHeartbeats 40000000 in
theorem inferTells_walk (v : Int) {v0 : Value} {o : Int} {ys xs : List Int} {ls : List (List Int)} {a1 a2 al : Option Addr} {c1 c2 cl : Nat} (w : World) (N : NodeA w v0 o ys xs a1 c1 a2 c2) (hy0 : ys.length ≤ 17592186044416) (hx0 : xs.length ≤ 17592186044416) (L : RowL w (.slice al ls.length cl) ls al cl) (hls : ∀ x ∈ ls, x.length ≤ 17592186044416) (hll : ls.length ≤ 17592186044416) : Calls Try.prog 3 #[.int .i64 v, v0, .slice al ls.length cl] w fun e w' => e = .returned (.bool true) ∧ Below w.heap.size w w' := by
  have HN := Lib.hid N
  have HL := Lib.hid L
  have HLS := Lib.hid hls
  obtain rfl := N.is
  obtain ⟨m1, hm1⟩ : ∃ m, ys.length = m := ⟨_, rfl⟩
  obtain ⟨m2, hm2⟩ : ∃ m, xs.length = m := ⟨_, rfl⟩
  obtain ⟨k, hk⟩ : ∃ m, ls.length = m := ⟨_, rfl⟩
  have HM1 := Lib.hid hm1
  have HM2 := Lib.hid hm2
  have HK := Lib.hid hk
  obtain ⟨IC, hic⟩ : ∃ c, infC v o m1 xs ls = c := ⟨_, rfl⟩
  obtain ⟨IV, hiv⟩ : ∃ c, infV v o m1 xs ls = c := ⟨_, rfl⟩
  have HIC := Lib.hid hic
  have HIV := Lib.hid hiv
  obtain ⟨e1, he1⟩ : ∃ c, chkO v o m1 xs = c := ⟨_, rfl⟩
  have HE1 := Lib.hid he1
  rw [hm1, hm2, hk]
  obtain ⟨W, hW⟩ : ∃ W, w.alloc (.cells #[.int .i64 o, .slice a1 m1 c1, .slice a2 m2 c2] 25) = W := ⟨_, rfl⟩
  have R0 : Row W w.heap.size 25 #[.int .i64 o, .slice a1 m1 c1, .slice a2 m2 c2] := by rw [← hW]; exact Row.new _ _ _
  have hbW : Below w.heap.size w W := by rw [← hW]; exact (Below.refl _ _).alloc (Nat.le_refl _) _
  have HSH := Lib.hid (show ∀ X, Below w.heap.size w X → Calls Try.prog 10 #[.int .i64 v, .agg #[.int .i64 o, .slice a1 m1 c1, .slice a2 m2 c2], .slice al k cl] X fun e w' => ∃ r, e = .returned (.tuple #[r, .int .i64 IC]) ∧ ResS X.heap.size w' r IV ∧ Below X.heap.size X w' from fun X hX => by
    have h := shape_any v (HN.out.later hX).atts HN.out.nil2 hx0 (HL.out.later hX) hls hll (o := o) (a1 := a1) (n1 := m1) (c1 := c1)
    rw [hm2, hk, hic, hiv] at h
    exact h)
  have HR0 := Lib.hid R0
  obtain ⟨k0, k1, k2, _, _, _⟩ := R0.three
  rw [hm1] at hy0
  rw [hm2] at hx0
  rw [hk] at hll
  have HX0 := Lib.hid hx0
  have HN1 := Lib.hid (show xs.length ≤ 17592186044416 by rw [HM2.out]; exact hx0)
  clear hm1 hm2 hk hic hiv he1 N L hls R0
  by_cases h20 : k > 20
  · have h20I : (k : Int) > 20 := by omega
    go_enter Try.func3, Try.ntmps3
    (try rw [hW])
    go_wp2_with fail
    (try rw [hW])
    refine (known12_any _).mono ?_
    rintro e z1 ⟨rfl, hz1⟩
    go_wp2_with fail
    (try rw [Exit.noGoto_ret])
    go_ret
    exact ⟨rfl, hbW.trans (hz1.mono hbW.size)⟩
  · have h20I : ¬ (k : Int) > 20 := by omega
    go_enter Try.func3, Try.ntmps3
    (try rw [hW])
    go_wp2_with fail
    (try rw [hW])
    clear hW
    refine (HSH.out _ (hbW.trans ((Below.refl W.heap.size W).mono hbW.size))).mono ?_
    rintro e y1 ⟨r, rfl, hr, hy⟩
    have B1 : Below W.heap.size W y1 := (Below.refl W.heap.size W).trans (hy.mono (Below.refl W.heap.size W).size)
    obtain ⟨ar, cr, rfl, hr2⟩ := res_slice11 hr
    obtain ⟨lv, hlv⟩ : ∃ n, IV.length = n := ⟨_, rfl⟩
    have HLV := Lib.hid hlv
    rw [hlv] at hr2 ⊢
    have HR := Lib.hid hr2
    clear hr hr2 hy hlv
    have hb1 : Below w.heap.size w y1 := hbW.trans (B1.mono hbW.size)
    have hlv4 : lv ≤ 1000 := by
      rw [← HLV.out]
      by_cases h0 : IC = 0
      · have := inf_ok (by rw [HIC.out]; exact h0 : infC v o m1 xs ls = 0)
        rw [HIV.out] at this
        have := this.rank
        omega
      · rw [← HIV.out, infV_bad (by rw [HIC.out]; exact h0)]; simp
    have hli := fun X (hX : Below w.heap.size w X) => listsR_any (HL.out.later hX) (by rw [HK.out]; omega)
    rw [HK.out] at hli
    have HLI := Lib.hid hli
    clear hli k0 k1 k2
    have MK := Lib.hid (show ∀ X, Below y1.heap.size y1 X → (fun X => X.cell? ⟨w.heap.size, 0, none⟩ = some (.int .i64 o) ∧ X.cell? ⟨w.heap.size, 1, none⟩ = some (.slice a1 m1 c1) ∧ X.cell? ⟨w.heap.size, 2, none⟩ = some (.slice a2 m2 c2)) X from fun X h => by
      obtain ⟨g0, g1, g2, _⟩ := (HR0.out.later (B1.trans (h.mono B1.size))).three
      exact ⟨g0, g1, g2⟩)
    have Q0 : Below y1.heap.size y1 y1.drew := (Below.refl _ _).drew
    (try go_wp2_with fail)
    refine wp_region_held_drew (S := fun X => X.cell? ⟨w.heap.size, 0, none⟩ = some (.int .i64 o) ∧ X.cell? ⟨w.heap.size, 1, none⟩ = some (.slice a1 m1 c1) ∧ X.cell? ⟨w.heap.size, 2, none⟩ = some (.slice a2 m2 c2)) (by kernel_rfl) (MK.out _ Q0) (fun hHeld => ?_)
    obtain ⟨q0, hdrh⟩ : ∃ Y, y1.drew = Y := ⟨_, rfl⟩
    rw [hdrh] at Q0 hHeld ⊢
    clear hdrh
    refine todo [0, 1, 2] ?_
    iterate 3
     first
     | (refine todoH (v := ?_) rfl (by kernel_rfl) (fun _ _ _ h => h) (by assumption) (Or.inl ⟨by rfl, ?_⟩) ?_
        rotate_left
        · intro w hSw; (try dsimp only at hSw); go_simp; (try with_reducible rfl)
        try simp only [Act.put, List.getElem_toArray, List.getElem_cons_succ, List.getElem_cons_zero, List.setIfInBounds_toArray, List.set_cons_zero, List.set_cons_succ])
     | (refine todoH (v := undef) rfl (by kernel_rfl) (fun _ _ _ h => h) (by assumption) (Or.inr ⟨by rfl, rfl⟩) ?_
        try simp only [Act.put, List.getElem_toArray, List.getElem_cons_succ, List.getElem_cons_zero, List.setIfInBounds_toArray, List.set_cons_zero, List.set_cons_succ])
    refine todone ?_
    refine wpAnyH_ready (rs := [3]) (by kernel_rfl) (by simp) ?_
    refine AllReadyH.cons rfl (fun K hK => ?sh_3) AllReadyH.nil
    go_simp
    refine (HLI.out _ (hb1.trans (Q0.mono hb1.size))).mono ?_
    rintro e q1 ⟨bd, bcap, rfl, hrl, hy⟩
    have Q1 : Below y1.heap.size y1 q1 := Q0.trans (hy.mono Q0.size)
    have Dh1 := hy
    clear hy
    have hrl2 : RowL q1 (.slice bd ls.length bcap) ls bd bcap := by rw [HK.out]; exact hrl
    have hb2 : Below w.heap.size w q1 := hb1.trans (Q1.mono hb1.size)
    have hsr := shapeR_any v (HN.out.later hb2).atts HN.out.nil2 HN1.out hrl2 (by rw [HK.out]; omega) (o := o) (a1 := a1) (n1 := m1) (c1 := c1)
    rw [HM2.out, HK.out, HIC.out, HIV.out, HLV.out] at hsr
    have HSR := Lib.hid hsr
    clear hrl hrl2 hsr
    go_simp
    refine hK.out _ _ (MK.out _ Q1) (fun hHeld2 => ?mh_3)
    clear hK K hHeld
    have hHeld := hHeld2
    clear hHeld2
    try simp only [Act.put, List.getElem_toArray, List.getElem_cons_succ, List.getElem_cons_zero, List.setIfInBounds_toArray, List.set_cons_zero, List.set_cons_succ]
    refine wpAnyH_ready (rs := [4]) (by kernel_rfl) (by simp) ?_
    refine AllReadyH.cons rfl (fun K hK => ?sh_4) AllReadyH.nil
    go_simp
    refine (HSR.out).mono ?_
    rintro e q2 ⟨rd, rcp, rfl, hra, hy⟩
    have Q2 : Below y1.heap.size y1 q2 := Q1.trans (hy.mono Q1.size)
    have Dh2 := hy
    clear hy
    have HRA := Lib.hid hra
    clear hra
    go_simp
    refine hK.out _ _ (MK.out _ Q2) (fun hHeld2 => ?mh_4)
    clear hK K hHeld
    have hHeld := hHeld2
    clear hHeld2
    try simp only [Act.put, List.getElem_toArray, List.getElem_cons_succ, List.getElem_cons_zero, List.setIfInBounds_toArray, List.set_cons_zero, List.set_cons_succ]
    refine todo [5, 6, 7, 8, 9] ?_
    iterate 5
     first
     | (refine todoH (v := ?_) rfl (by kernel_rfl) (fun _ _ _ h => h) (by assumption) (Or.inl ⟨by rfl, ?_⟩) ?_
        rotate_left
        · intro w hSw; (try dsimp only at hSw); go_simp; (try with_reducible rfl)
        try simp only [Act.put, List.getElem_toArray, List.getElem_cons_succ, List.getElem_cons_zero, List.setIfInBounds_toArray, List.set_cons_zero, List.set_cons_succ])
     | (refine todoH (v := undef) rfl (by kernel_rfl) (fun _ _ _ h => h) (by assumption) (Or.inr ⟨by rfl, rfl⟩) ?_
        try simp only [Act.put, List.getElem_toArray, List.getElem_cons_succ, List.getElem_cons_zero, List.setIfInBounds_toArray, List.set_cons_zero, List.set_cons_succ])
    refine todone ?_
    refine wpAnyH_done (by kernel_rfl) ?_ _
    (try dsimp only [Straight])
    have hb3 : Below w.heap.size w q2 := hb1.trans (Q2.mono hb1.size)
    have hss := sameL_any (HR.out.later Q2).at_.2.1 HRA.out (by rw [HLV.out]; omega)
    rw [decide_eq_true (show IV = IV from rfl)] at hss
    have HSS := Lib.hid hss
    clear hss hlv4 hHeld
    go_wp2_with fail
    refine HSS.out.mono ?_
    rintro e y4 ⟨rfl, hy⟩
    have hb4 : Below w.heap.size w y4 := hb3.trans (hy.mono hb3.size)
    clear hy
    go_wp2_with fail
    refine (known12_any _).mono ?_
    rintro e z5 ⟨rfl, hz5⟩
    go_wp2_with fail
    (try rw [Exit.noGoto_ret])
    go_ret
    exact ⟨rfl, hb4.trans (hz5.mono hb4.size)⟩
end
end Go.Proofs.Ytdcggcfgkhlblaa
