/-
  Part 3 of 4: contracts and what they rest on (OWOnw).
-/
import Derived.Test.YtnhbngeipedplaaE1
import Derived.Test.YtnhbngeipedplaaD11
import Derived.WalkKit
import Derived.Test.YtnhbngeipedplaaRows
import Derived.OrdersHeld
import Derived.Deep.RegionHeld
import Derived.BigQuiet
import Derived.Deep.QuietTactic
import Derived.Lib.Hide
import Derived.Lib.Small
import Derived.Lib.Walk
import Derived.Lib.BitFns
import Derived.Maps.AppendAt
import Derived.RangeFuncNested
import Derived.RangeFuncBound
import Derived.RangeFuncCalls
import Derived.RangeFuncLeaves
import Derived.Shelf.Abstract
import Derived.OwnWalkIn
import Derived.TacticsInMore
import Derived.LoopNIn
import Derived.LoopIn
import Derived.RangeFuncBox
import Derived.Deep.RegionHeld3
import Derived.OrdersIn
import Derived.StillTailTactics
import Derived.RangeFuncFrom
import Derived.Laws.EntriesVeiled
import Derived.ProofKit
import Derived.OpenShut
import Derived.JoinedCond
import Derived.Carry
import Derived.Laws.AppendOwnNone
import Derived.Lib.ItoaNum
import Derived.Deep.RegionLaw
import Derived.WalkMore
import Derived.Lib.SmallJoins
import Derived.IntWalk
import Derived.Deep.DeepCutAuto
import Derived.Laws.OwnMore
import Derived.ArgAppend
import Derived.Deep.Slices
import Derived.Laws.CopyOwn
import Derived.Lib.SliceRun
import Derived.SizedLaws
import Derived.Great.BuildSlice
namespace Go.Proofs.Ytnhbngeipedplaa
set_option maxRecDepth 100000
section
open Go.RowKit
set_option linter.unusedVariables false
set_option linter.unusedSimpArgs false
theorem Row.argS10' {w : World} {g : Nat} {cs : Array Value} (R : Row w g 3 cs) (xs : List Int) (hc : cs = (xs.map (Value.int .i64)).toArray) (hw : Wid xs) : ArgS w (.slice (some ⟨g, 0, none⟩) xs.length xs.length) xs (some ⟨g, 0, none⟩) xs.length :=
  ⟨rfl, .inr ⟨g, 0, rfl, fun i hi => by
    rw [Nat.zero_add, R.cell i, hc]
    simp [hi]⟩, Nat.le_refl _, hw⟩
set_option maxRecDepth 100000 in
set_option maxHeartbeats 40000000 in
theorem opOnward_walk (v r : Int) {v0 : Value} {o : Int} {ys xs : List Int} {a1 a2 : Option Addr} {c1 c2 : Nat} (w : World) (N : NodeA w v0 o ys xs a1 c1 a2 c2) (hy0 : ys.length ≤ 17592186044416) (hx0 : xs.length ≤ 17592186044416) (hv0 : -9223372036854775808 ≤ v) (hv9 : v ≤ 9223372036854775807) :
    Calls Try.prog 8 #[.int .i64 v, v0, .int .i64 r] w fun e w' => e = .returned (.bool true) ∧ Below w.heap.size w w' := by
  have HN := Lib.hid N
  obtain rfl := N.is
  obtain ⟨m1, hm1⟩ : ∃ m, ys.length = m := ⟨_, rfl⟩
  obtain ⟨m2, hm2⟩ : ∃ m, xs.length = m := ⟨_, rfl⟩
  have HM1 := Lib.hid hm1
  have HM2 := Lib.hid hm2
  obtain ⟨W, hW⟩ : ∃ W, w.alloc (.cells #[.int .i64 o, .slice a1 m1 c1, .slice a2 m2 c2] 37) = W := ⟨_, rfl⟩
  have R0 : Row W w.heap.size 37 #[.int .i64 o, .slice a1 m1 c1, .slice a2 m2 c2] := by rw [← hW]; exact Row.new _ _ _
  have hbW : Below w.heap.size w W := by rw [← hW]; exact (Below.refl _ _).alloc (Nat.le_refl _) _
  have B0 : Below W.heap.size W W := Below.refl _ _
  obtain ⟨c, hc⟩ : ∃ c, chkO v o m1 xs = c := ⟨_, rfl⟩
  have hck := fun X (hX : Below W.heap.size W X) => check_any v (HN.out.later (hbW.trans (hX.mono hbW.size))).atts HN.out.nil2 hx0 (o := o) (a1 := a1) (n1 := m1) (c1 := c1)
  have hcr := fun X (hX : Below W.heap.size W X) => checkR_any v (HN.out.later (hbW.trans (hX.mono hbW.size))).atts HN.out.nil2 hx0 (o := o) (a1 := a1) (n1 := m1) (c1 := c1)
  have how := fun X (hX : Below W.heap.size W X) => own_any (HN.out.later (hbW.trans (hX.mono hbW.size))) hy0 hx0
  rw [hc, hm2] at hck hcr
  rw [hm1, hm2] at how ⊢
  have HCK := Lib.hid hck
  have HCR := Lib.hid hcr
  have HOW := Lib.hid how
  have HC := Lib.hid hc
  have hcc : (c == c) = true := by simp
  obtain ⟨k0, k1, k2, _, _, _⟩ := R0.three
  clear how hck hcr hm1 hm2 N hc
  by_cases hr0 : r < 0
  · go_enter Try.func8, Try.ntmps8
    (try rw [hW])
    go_wp2_with fail
    (try rw [hW])
    clear hW
    have MK := Lib.hid (show ∀ X, Below W.heap.size W X → (fun X => X.cell? ⟨w.heap.size, 0, none⟩ = some (.int .i64 o) ∧ X.cell? ⟨w.heap.size, 1, none⟩ = some (.slice a1 m1 c1) ∧ X.cell? ⟨w.heap.size, 2, none⟩ = some (.slice a2 m2 c2)) X from fun X h => by
      obtain ⟨g0, g1, g2, _⟩ := ((R0.later B0).later h).three
      exact ⟨g0, g1, g2⟩)
    have E0 : Below W.heap.size W W.drew := (Below.refl _ _).drew
    go_wp2_with fail
    refine wp_region_held_drew (S := fun X => X.cell? ⟨w.heap.size, 0, none⟩ = some (.int .i64 o) ∧ X.cell? ⟨w.heap.size, 1, none⟩ = some (.slice a1 m1 c1) ∧ X.cell? ⟨w.heap.size, 2, none⟩ = some (.slice a2 m2 c2)) (by kernel_rfl) (MK.out _ E0) (fun hHeld => ?_)
    obtain ⟨x0, hdrh⟩ : ∃ Y, W.drew = Y := ⟨_, rfl⟩
    rw [hdrh] at E0 hHeld ⊢
    clear hdrh
    refine todo [0, 1, 3, 4] ?_
    iterate 4
     first
     | (refine todoH (v := ?_) rfl (by kernel_rfl) (fun _ _ _ h => h) (by assumption) (Or.inl ⟨by rfl, ?_⟩) ?_
        rotate_left
        · intro w hSw; (try dsimp only at hSw); go_simp; (try with_reducible rfl)
        try simp only [Act.put, List.getElem_toArray, List.getElem_cons_succ, List.getElem_cons_zero, List.setIfInBounds_toArray, List.set_cons_zero, List.set_cons_succ])
     | (refine todoH (v := undef) rfl (by kernel_rfl) (fun _ _ _ h => h) (by assumption) (Or.inr ⟨by rfl, rfl⟩) ?_
        try simp only [Act.put, List.getElem_toArray, List.getElem_cons_succ, List.getElem_cons_zero, List.setIfInBounds_toArray, List.set_cons_zero, List.set_cons_succ])
    refine todone ?_
    refine wpAnyH_ready (rs := [2]) (by kernel_rfl) (by simp) ?_
    refine AllReadyH.cons rfl (fun K hK => ?sh_2) AllReadyH.nil
    go_simp
    refine (HCK.out _ (B0.trans (E0.mono B0.size))).mono ?_
    rintro e x1 ⟨rfl, hy⟩
    have E1 : Below W.heap.size W x1 := E0.trans (hy.mono E0.size)
    have Dh1 := hy
    clear hy
    go_simp
    refine hK.out _ _ (MK.out _ E1) (fun hHeld2 => ?mh_2)
    clear hK K hHeld
    have hHeld := hHeld2
    clear hHeld2
    try simp only [Act.put, List.getElem_toArray, List.getElem_cons_succ, List.getElem_cons_zero, List.setIfInBounds_toArray, List.set_cons_zero, List.set_cons_succ]
    refine wpAnyH_ready (rs := [5]) (by kernel_rfl) (by simp) ?_
    refine AllReadyH.cons rfl (fun K hK => ?sh_5) AllReadyH.nil
    go_simp
    refine (HCR.out _ (B0.trans (E1.mono B0.size))).mono ?_
    rintro e x2 ⟨rfl, hy⟩
    have E2 : Below W.heap.size W x2 := E1.trans (hy.mono E1.size)
    have Dh2 := hy
    clear hy
    go_simp
    refine hK.out _ _ (MK.out _ E2) (fun hHeld2 => ?mh_5)
    clear hK K hHeld
    have hHeld := hHeld2
    clear hHeld2
    try simp only [Act.put, List.getElem_toArray, List.getElem_cons_succ, List.getElem_cons_zero, List.setIfInBounds_toArray, List.set_cons_zero, List.set_cons_succ]
    refine todo [6, 7] ?_
    iterate 2
     first
     | (refine todoH (v := ?_) rfl (by kernel_rfl) (fun _ _ _ h => h) (by assumption) (Or.inl ⟨by rfl, ?_⟩) ?_
        rotate_left
        · intro w hSw; (try dsimp only at hSw); go_simp; (try with_reducible rfl)
        try simp only [Act.put, List.getElem_toArray, List.getElem_cons_succ, List.getElem_cons_zero, List.setIfInBounds_toArray, List.set_cons_zero, List.set_cons_succ])
     | (refine todoH (v := undef) rfl (by kernel_rfl) (fun _ _ _ h => h) (by assumption) (Or.inr ⟨by rfl, rfl⟩) ?_
        try simp only [Act.put, List.getElem_toArray, List.getElem_cons_succ, List.getElem_cons_zero, List.setIfInBounds_toArray, List.set_cons_zero, List.set_cons_succ])
    refine todone ?_
    refine wpAnyH_ready (rs := [8]) (by kernel_rfl) (by simp) ?_
    refine AllReadyH.cons rfl (fun K hK => ?sh_8) AllReadyH.nil
    go_simp
    refine (known11_any _).mono ?_
    rintro e x3 ⟨rfl, hy⟩
    have E3 : Below W.heap.size W x3 := E2.trans (hy.mono E2.size)
    have Dh3 := hy
    clear hy
    go_simp
    refine hK.out _ _ (MK.out _ E3) (fun hHeld2 => ?mh_8)
    clear hK K hHeld
    have hHeld := hHeld2
    clear hHeld2
    try simp only [Act.put, List.getElem_toArray, List.getElem_cons_succ, List.getElem_cons_zero, List.setIfInBounds_toArray, List.set_cons_zero, List.set_cons_succ]
    refine todo [9, 10] ?_
    iterate 2
     first
     | (refine todoH (v := ?_) rfl (by kernel_rfl) (fun _ _ _ h => h) (by assumption) (Or.inl ⟨by rfl, ?_⟩) ?_
        rotate_left
        · intro w hSw; (try dsimp only at hSw); go_simp; (try with_reducible rfl)
        try simp only [Act.put, List.getElem_toArray, List.getElem_cons_succ, List.getElem_cons_zero, List.setIfInBounds_toArray, List.set_cons_zero, List.set_cons_succ])
     | (refine todoH (v := undef) rfl (by kernel_rfl) (fun _ _ _ h => h) (by assumption) (Or.inr ⟨by rfl, rfl⟩) ?_
        try simp only [Act.put, List.getElem_toArray, List.getElem_cons_succ, List.getElem_cons_zero, List.setIfInBounds_toArray, List.set_cons_zero, List.set_cons_succ])
    refine todone ?_
    refine wpAnyH_done (by kernel_rfl) ?_ _
    (try dsimp only [Straight])
    go_wp2_with fail
    go_ret
    exact ⟨rfl, hbW.trans ((B0.trans (E3.mono B0.size)).mono hbW.size)⟩
  · by_cases hr4 : r > 4
    · go_enter Try.func8, Try.ntmps8
      (try rw [hW])
      go_wp2_with fail
      (try rw [hW])
      clear hW
      have MK := Lib.hid (show ∀ X, Below W.heap.size W X → (fun X => X.cell? ⟨w.heap.size, 0, none⟩ = some (.int .i64 o) ∧ X.cell? ⟨w.heap.size, 1, none⟩ = some (.slice a1 m1 c1) ∧ X.cell? ⟨w.heap.size, 2, none⟩ = some (.slice a2 m2 c2)) X from fun X h => by
        obtain ⟨g0, g1, g2, _⟩ := ((R0.later B0).later h).three
        exact ⟨g0, g1, g2⟩)
      have E0 : Below W.heap.size W W.drew := (Below.refl _ _).drew
      go_wp2_with fail
      refine wp_region_held_drew (S := fun X => X.cell? ⟨w.heap.size, 0, none⟩ = some (.int .i64 o) ∧ X.cell? ⟨w.heap.size, 1, none⟩ = some (.slice a1 m1 c1) ∧ X.cell? ⟨w.heap.size, 2, none⟩ = some (.slice a2 m2 c2)) (by kernel_rfl) (MK.out _ E0) (fun hHeld => ?_)
      obtain ⟨x0, hdri⟩ : ∃ Y, W.drew = Y := ⟨_, rfl⟩
      rw [hdri] at E0 hHeld ⊢
      clear hdri
      refine todo [0, 1, 3, 4] ?_
      iterate 4
       first
       | (refine todoH (v := ?_) rfl (by kernel_rfl) (fun _ _ _ h => h) (by assumption) (Or.inl ⟨by rfl, ?_⟩) ?_
          rotate_left
          · intro w hSw; (try dsimp only at hSw); go_simp; (try with_reducible rfl)
          try simp only [Act.put, List.getElem_toArray, List.getElem_cons_succ, List.getElem_cons_zero, List.setIfInBounds_toArray, List.set_cons_zero, List.set_cons_succ])
       | (refine todoH (v := undef) rfl (by kernel_rfl) (fun _ _ _ h => h) (by assumption) (Or.inr ⟨by rfl, rfl⟩) ?_
          try simp only [Act.put, List.getElem_toArray, List.getElem_cons_succ, List.getElem_cons_zero, List.setIfInBounds_toArray, List.set_cons_zero, List.set_cons_succ])
      refine todone ?_
      refine wpAnyH_ready (rs := [2]) (by kernel_rfl) (by simp) ?_
      refine AllReadyH.cons rfl (fun K hK => ?si_2) AllReadyH.nil
      go_simp
      refine (HCK.out _ (B0.trans (E0.mono B0.size))).mono ?_
      rintro e x1 ⟨rfl, hy⟩
      have E1 : Below W.heap.size W x1 := E0.trans (hy.mono E0.size)
      have Di1 := hy
      clear hy
      go_simp
      refine hK.out _ _ (MK.out _ E1) (fun hHeld2 => ?mi_2)
      clear hK K hHeld
      have hHeld := hHeld2
      clear hHeld2
      try simp only [Act.put, List.getElem_toArray, List.getElem_cons_succ, List.getElem_cons_zero, List.setIfInBounds_toArray, List.set_cons_zero, List.set_cons_succ]
      refine wpAnyH_ready (rs := [5]) (by kernel_rfl) (by simp) ?_
      refine AllReadyH.cons rfl (fun K hK => ?si_5) AllReadyH.nil
      go_simp
      refine (HCR.out _ (B0.trans (E1.mono B0.size))).mono ?_
      rintro e x2 ⟨rfl, hy⟩
      have E2 : Below W.heap.size W x2 := E1.trans (hy.mono E1.size)
      have Di2 := hy
      clear hy
      go_simp
      refine hK.out _ _ (MK.out _ E2) (fun hHeld2 => ?mi_5)
      clear hK K hHeld
      have hHeld := hHeld2
      clear hHeld2
      try simp only [Act.put, List.getElem_toArray, List.getElem_cons_succ, List.getElem_cons_zero, List.setIfInBounds_toArray, List.set_cons_zero, List.set_cons_succ]
      refine todo [6, 7] ?_
      iterate 2
       first
       | (refine todoH (v := ?_) rfl (by kernel_rfl) (fun _ _ _ h => h) (by assumption) (Or.inl ⟨by rfl, ?_⟩) ?_
          rotate_left
          · intro w hSw; (try dsimp only at hSw); go_simp; (try with_reducible rfl)
          try simp only [Act.put, List.getElem_toArray, List.getElem_cons_succ, List.getElem_cons_zero, List.setIfInBounds_toArray, List.set_cons_zero, List.set_cons_succ])
       | (refine todoH (v := undef) rfl (by kernel_rfl) (fun _ _ _ h => h) (by assumption) (Or.inr ⟨by rfl, rfl⟩) ?_
          try simp only [Act.put, List.getElem_toArray, List.getElem_cons_succ, List.getElem_cons_zero, List.setIfInBounds_toArray, List.set_cons_zero, List.set_cons_succ])
      refine todone ?_
      refine wpAnyH_ready (rs := [8]) (by kernel_rfl) (by simp) ?_
      refine AllReadyH.cons rfl (fun K hK => ?si_8) AllReadyH.nil
      go_simp
      refine (known11_any _).mono ?_
      rintro e x3 ⟨rfl, hy⟩
      have E3 : Below W.heap.size W x3 := E2.trans (hy.mono E2.size)
      have Di3 := hy
      clear hy
      go_simp
      refine hK.out _ _ (MK.out _ E3) (fun hHeld2 => ?mi_8)
      clear hK K hHeld
      have hHeld := hHeld2
      clear hHeld2
      try simp only [Act.put, List.getElem_toArray, List.getElem_cons_succ, List.getElem_cons_zero, List.setIfInBounds_toArray, List.set_cons_zero, List.set_cons_succ]
      refine todo [9, 10] ?_
      iterate 2
       first
       | (refine todoH (v := ?_) rfl (by kernel_rfl) (fun _ _ _ h => h) (by assumption) (Or.inl ⟨by rfl, ?_⟩) ?_
          rotate_left
          · intro w hSw; (try dsimp only at hSw); go_simp; (try with_reducible rfl)
          try simp only [Act.put, List.getElem_toArray, List.getElem_cons_succ, List.getElem_cons_zero, List.setIfInBounds_toArray, List.set_cons_zero, List.set_cons_succ])
       | (refine todoH (v := undef) rfl (by kernel_rfl) (fun _ _ _ h => h) (by assumption) (Or.inr ⟨by rfl, rfl⟩) ?_
          try simp only [Act.put, List.getElem_toArray, List.getElem_cons_succ, List.getElem_cons_zero, List.setIfInBounds_toArray, List.set_cons_zero, List.set_cons_succ])
      refine todone ?_
      refine wpAnyH_done (by kernel_rfl) ?_ _
      (try dsimp only [Straight])
      go_wp2_with fail
      go_ret
      exact ⟨rfl, hbW.trans ((B0.trans (E3.mono B0.size)).mono hbW.size)⟩
    · by_cases hc0 : c = 0
      case neg =>
        have hcI : (c != 0) = true := by simp [hc0]
        go_enter Try.func8, Try.ntmps8
        (try rw [hW])
        go_wp2_with fail
        (try rw [hW])
        clear hW
        refine (HCK.out _ B0).mono ?_
        rintro e y1 ⟨rfl, hy⟩
        have B1 : Below W.heap.size W y1 := hy
        clear k0 k1 k2 hy
        obtain ⟨k0, k1, k2, _, _, _⟩ := (R0.later B1).three
        have MK := Lib.hid (show ∀ X, Below y1.heap.size y1 X → (fun X => X.cell? ⟨w.heap.size, 0, none⟩ = some (.int .i64 o) ∧ X.cell? ⟨w.heap.size, 1, none⟩ = some (.slice a1 m1 c1) ∧ X.cell? ⟨w.heap.size, 2, none⟩ = some (.slice a2 m2 c2)) X from fun X h => by
          obtain ⟨g0, g1, g2, _⟩ := ((R0.later B1).later h).three
          exact ⟨g0, g1, g2⟩)
        have E0 : Below y1.heap.size y1 y1.drew := (Below.refl _ _).drew
        go_wp2_with fail
        refine wp_region_held_drew (S := fun X => X.cell? ⟨w.heap.size, 0, none⟩ = some (.int .i64 o) ∧ X.cell? ⟨w.heap.size, 1, none⟩ = some (.slice a1 m1 c1) ∧ X.cell? ⟨w.heap.size, 2, none⟩ = some (.slice a2 m2 c2)) (by kernel_rfl) (MK.out _ E0) (fun hHeld => ?_)
        obtain ⟨x0, hdrj⟩ : ∃ Y, y1.drew = Y := ⟨_, rfl⟩
        rw [hdrj] at E0 hHeld ⊢
        clear hdrj
        refine todo [0, 1, 3, 4] ?_
        iterate 4
         first
         | (refine todoH (v := ?_) rfl (by kernel_rfl) (fun _ _ _ h => h) (by assumption) (Or.inl ⟨by rfl, ?_⟩) ?_
            rotate_left
            · intro w hSw; (try dsimp only at hSw); go_simp; (try with_reducible rfl)
            try simp only [Act.put, List.getElem_toArray, List.getElem_cons_succ, List.getElem_cons_zero, List.setIfInBounds_toArray, List.set_cons_zero, List.set_cons_succ])
         | (refine todoH (v := undef) rfl (by kernel_rfl) (fun _ _ _ h => h) (by assumption) (Or.inr ⟨by rfl, rfl⟩) ?_
            try simp only [Act.put, List.getElem_toArray, List.getElem_cons_succ, List.getElem_cons_zero, List.setIfInBounds_toArray, List.set_cons_zero, List.set_cons_succ])
        refine todone ?_
        refine wpAnyH_ready (rs := [2]) (by kernel_rfl) (by simp) ?_
        refine AllReadyH.cons rfl (fun K hK => ?sj_2) AllReadyH.nil
        go_simp
        refine (HCK.out _ (B1.trans (E0.mono B1.size))).mono ?_
        rintro e x1 ⟨rfl, hy⟩
        have E1 : Below y1.heap.size y1 x1 := E0.trans (hy.mono E0.size)
        have Dj1 := hy
        clear hy
        go_simp
        refine hK.out _ _ (MK.out _ E1) (fun hHeld2 => ?mj_2)
        clear hK K hHeld
        have hHeld := hHeld2
        clear hHeld2
        try simp only [Act.put, List.getElem_toArray, List.getElem_cons_succ, List.getElem_cons_zero, List.setIfInBounds_toArray, List.set_cons_zero, List.set_cons_succ]
        refine wpAnyH_ready (rs := [5]) (by kernel_rfl) (by simp) ?_
        refine AllReadyH.cons rfl (fun K hK => ?sj_5) AllReadyH.nil
        go_simp
        refine (HCR.out _ (B1.trans (E1.mono B1.size))).mono ?_
        rintro e x2 ⟨rfl, hy⟩
        have E2 : Below y1.heap.size y1 x2 := E1.trans (hy.mono E1.size)
        have Dj2 := hy
        clear hy
        go_simp
        refine hK.out _ _ (MK.out _ E2) (fun hHeld2 => ?mj_5)
        clear hK K hHeld
        have hHeld := hHeld2
        clear hHeld2
        try simp only [Act.put, List.getElem_toArray, List.getElem_cons_succ, List.getElem_cons_zero, List.setIfInBounds_toArray, List.set_cons_zero, List.set_cons_succ]
        refine todo [6, 7] ?_
        iterate 2
         first
         | (refine todoH (v := ?_) rfl (by kernel_rfl) (fun _ _ _ h => h) (by assumption) (Or.inl ⟨by rfl, ?_⟩) ?_
            rotate_left
            · intro w hSw; (try dsimp only at hSw); go_simp; (try with_reducible rfl)
            try simp only [Act.put, List.getElem_toArray, List.getElem_cons_succ, List.getElem_cons_zero, List.setIfInBounds_toArray, List.set_cons_zero, List.set_cons_succ])
         | (refine todoH (v := undef) rfl (by kernel_rfl) (fun _ _ _ h => h) (by assumption) (Or.inr ⟨by rfl, rfl⟩) ?_
            try simp only [Act.put, List.getElem_toArray, List.getElem_cons_succ, List.getElem_cons_zero, List.setIfInBounds_toArray, List.set_cons_zero, List.set_cons_succ])
        refine todone ?_
        refine wpAnyH_ready (rs := [8]) (by kernel_rfl) (by simp) ?_
        refine AllReadyH.cons rfl (fun K hK => ?sj_8) AllReadyH.nil
        go_simp
        refine (known11_any _).mono ?_
        rintro e x3 ⟨rfl, hy⟩
        have E3 : Below y1.heap.size y1 x3 := E2.trans (hy.mono E2.size)
        have Dj3 := hy
        clear hy
        go_simp
        refine hK.out _ _ (MK.out _ E3) (fun hHeld2 => ?mj_8)
        clear hK K hHeld
        have hHeld := hHeld2
        clear hHeld2
        try simp only [Act.put, List.getElem_toArray, List.getElem_cons_succ, List.getElem_cons_zero, List.setIfInBounds_toArray, List.set_cons_zero, List.set_cons_succ]
        refine todo [9, 10] ?_
        iterate 2
         first
         | (refine todoH (v := ?_) rfl (by kernel_rfl) (fun _ _ _ h => h) (by assumption) (Or.inl ⟨by rfl, ?_⟩) ?_
            rotate_left
            · intro w hSw; (try dsimp only at hSw); go_simp; (try with_reducible rfl)
            try simp only [Act.put, List.getElem_toArray, List.getElem_cons_succ, List.getElem_cons_zero, List.setIfInBounds_toArray, List.set_cons_zero, List.set_cons_succ])
         | (refine todoH (v := undef) rfl (by kernel_rfl) (fun _ _ _ h => h) (by assumption) (Or.inr ⟨by rfl, rfl⟩) ?_
            try simp only [Act.put, List.getElem_toArray, List.getElem_cons_succ, List.getElem_cons_zero, List.setIfInBounds_toArray, List.set_cons_zero, List.set_cons_succ])
        refine todone ?_
        refine wpAnyH_done (by kernel_rfl) ?_ _
        (try dsimp only [Straight])
        go_wp2_with fail
        go_ret
        exact ⟨rfl, hbW.trans ((B1.trans (E3.mono B1.size)).mono hbW.size)⟩
      case pos =>
        subst hc0
        have hrw : -9223372036854775808 ≤ r ∧ r ≤ 9223372036854775807 := by omega
        obtain ⟨ls, hls⟩ : ∃ l, expO v o m1 xs r = l := ⟨_, rfl⟩
        have HLS := Lib.hid hls
        have HLB := Lib.hid (show ls.length ≤ 17592186044416 by rw [← hls]; exact expO_len hx0)
        have HON := Lib.hid (show ∀ k : Int, v ≤ k → k ≤ 3 → verO o k = true → chkO k o m1 ls = 0 from fun k h1 h3 hk => by rw [← hls]; exact onward HC.out h1 h3 hk)
        have hv1 := (chk_in HC.out).2
        clear hls
        go_enter Try.func8, Try.ntmps8
        (try rw [hW])
        go_wp2_with fail
        (try rw [hW])
        clear hW
        refine (HCK.out _ B0).mono ?_
        rintro e y1 ⟨rfl, hy⟩
        have B1 : Below W.heap.size W y1 := hy
        clear k0 k1 k2 hy
        obtain ⟨k0, k1, k2, _, _, _⟩ := (R0.later B1).three
        go_wp2_with fail
        refine (HCR.out _ B1).mono ?_
        rintro e y2 ⟨rfl, hy⟩
        have B2 : Below W.heap.size W y2 := B1.trans (hy.mono B1.size)
        clear k0 k1 k2 hy
        obtain ⟨k0, k1, k2, _, _, _⟩ := (R0.later B2).three
        go_wp2_with fail
        refine (HOW.out _ B2).mono ?_
        rintro e y3 ⟨r1, rfl, ho, hy⟩
        obtain ⟨d1, e1, d2, e2, rfl, hr1, hr2⟩ := ho
        rw [HM1.out, HM2.out]
        have B3 : Below W.heap.size W y3 := B2.trans (hy.mono B2.size)
        clear hr1 hr2 hy
        obtain ⟨y4, hst⟩ : ∃ Y, y3.alloc (.cells #[.int .i64 o, .slice d1 m1 e1, .slice d2 m2 e2] 37) = Y := ⟨_, rfl⟩
        have R1 : Row y4 y3.heap.size 37 #[.int .i64 o, .slice d1 m1 e1, .slice d2 m2 e2] := by rw [← hst]; exact Row.new _ _ _
        have D4 : Below y3.heap.size y3 y4 := by rw [← hst]; exact (Below.refl _ _).alloc (Nat.le_refl _) _
        have B4 : Below W.heap.size W y4 := B3.trans (D4.mono B3.size)
        have HST := Lib.hid hst
        clear k0 k1 k2 hst
        obtain ⟨k0, k1, k2, _, _, _⟩ := ((R0.later B3).alloc (.cells #[.int .i64 o, .slice d1 m1 e1, .slice d2 m2 e2] 37)).three
        obtain ⟨y5, hal⟩ : ∃ Y, y4.alloc (.cells #[.int .i64 r] 3) = Y := ⟨_, rfl⟩
        have D5 : Below y4.heap.size y4 y5 := by rw [← hal]; exact (Below.refl _ _).alloc (Nat.le_refl _) _
        have B5 : Below W.heap.size W y5 := B4.trans (D5.mono B4.size)
        have hs4 : y4.heap.size = y3.heap.size + 1 := by rw [← HST.out, World.size_alloc]
        have hDr : ArgS y5 (.slice (some ⟨y3.heap.size + 1, 0, none⟩) 1 1) [r] (some ⟨y3.heap.size + 1, 0, none⟩) 1 := by rw [← hal, ← hs4]; exact ArgS.lit y4 [r] (Wid.one hrw)
        have hnx := HN.out.later (hbW.trans (B5.mono hbW.size))
        have hex := explicit_any v hnx.atts hnx.nil2 hx0 hDr (by simp) (o := o) (a1 := a1) (n1 := m1) (c1 := c1)
        rw [show ([r] : List Int).getD 0 0 = r from rfl, HLS.out, HM2.out] at hex
        have HEX := Lib.hid hex
        have HAL := Lib.hid hal
        clear hnx hex hDr hal hs4
        go_wp2_with fail
        have hst := HST.out
        have hal := HAL.out
        (try rw [hst])
        (try rw [hal])
        clear hst hal
        refine HEX.out.mono ?_
        rintro e y6 ⟨rl, rfl, hrl, hy⟩
        have D6 : Below y4.heap.size y4 y6 := D5.trans (hy.mono D5.size)
        have B6 : Below W.heap.size W y6 := B4.trans (D6.mono B4.size)
        obtain ⟨adl, cpl, rfl, hrl2⟩ := res_slice11 hrl
        obtain ⟨ll, hll⟩ : ∃ n, ls.length = n := ⟨_, rfl⟩
        have HLL := Lib.hid hll
        have hllb : ll ≤ 17592186044416 := by rw [← hll]; exact HLB.out
        rw [hll] at hrl2 ⊢
        have R6 := R1.later D6
        have hf2 := R6.free 2
        have P6 := R6.set 2 (.slice adl ll cpl)
        simp only [List.setIfInBounds_toArray, List.set_cons_zero, List.set_cons_succ] at P6
        have HRL := Lib.hid (hrl2.far R6 (by decide) (fun k hk => Below.heap_setCell _ ⟨y3.heap.size, 2, none⟩ (.slice adl ll cpl) k hk))
        have HP6 := Lib.hid P6
        have hbS : Below W.heap.size W (y6.setCell ⟨y3.heap.size, 2, none⟩ (.slice adl ll cpl)) := B6.setCell B3.size _
        obtain ⟨yS, hyS⟩ : ∃ Y, y6.setCell ⟨y3.heap.size, 2, none⟩ (.slice adl ll cpl) = Y := ⟨_, rfl⟩
        have HYS := Lib.hid hyS
        have PS := HP6.out
        have RS := HRL.out
        rw [hyS] at PS RS hbS
        have HPS := Lib.hid PS
        have HRS := Lib.hid RS
        have HBS := Lib.hid hbS
        obtain ⟨u0, u1, u2, _, _, _⟩ := R6.three
        clear k0 k1 k2 hrl hrl2 hll hy P6 hyS PS RS hbS HRL
        go_wp2_with fail
        have hyS := HYS.out
        (try rw [hyS])
        clear hyS u0 u1 u2 hf2
        go_loopw [8] (fun i wi => ∃ k : Int, i = .int .i64 k ∧ v ≤ k ∧ (k ≤ 4 ∨ k = v) ∧ Below yS.heap.size yS wi) (fun i _ => (4 - intOf i).toNat)
        case atStart => exact ⟨v, rfl, by omega, .inr rfl, Below.refl _ _⟩
        case round =>
          rename World => wi
          obtain ⟨k, rfl, hvk, hk4, hbi⟩ := hrel
          have bWi : Below W.heap.size W wi := HBS.out.trans (hbi.mono HBS.out.size)
          obtain ⟨k0, k1, k2, _, _, _⟩ := (R0.later bWi).three
          by_cases hk3 : k ≤ 3
          · obtain ⟨t, ht⟩ : ∃ t, verO o k = t := ⟨_, rfl⟩
            have HT := Lib.hid ht
            have hin := in_any o k wi
            rw [ht] at hin
            have HIN := Lib.hid hin
            have hkw : IntKind.i64.wrap (k + 1) = k + 1 := IntWalk.i64_in _ (by omega)
            clear ht hin
            go_wp2_with fail
            refine HIN.out.mono ?_
            rintro e y8 ⟨rfl, hy⟩
            have b8 : Below yS.heap.size yS y8 := hbi.trans (hy.mono hbi.size)
            clear hy k0 k1 k2
            cases t with
            | false =>
              go_wp2_with fail
              go_roundw
              case rel => exact ⟨k + 1, by first | rfl | go_num | (refine congrArg (Value.int .i64) ?_; omega), by omega, by omega, b8⟩
              case measure => simp [intOf]; omega
            | true =>
              have hon := HON.out k hvk hk3 HT.out
              have hcm := fun X (hX : Below yS.heap.size yS X) => check_any k (show ArgS X (.slice adl ls.length cpl) ls adl cpl by rw [HLL.out]; exact (HRS.out.later hX).at_.2.1) ((HRS.out.later hX).at_.2.2) HLB.out (o := o) (a1 := d1) (n1 := m1) (c1 := e1)
              rw [hon, HLL.out] at hcm
              have HCM := Lib.hid hcm
              have hem := fun X (hX : Below yS.heap.size yS X) q (hq : ArgS X (.slice (some ⟨q, 0, none⟩) 1 1) [r] (some ⟨q, 0, none⟩) 1) => explicit_any k (show ArgS X (.slice adl ls.length cpl) ls adl cpl by rw [HLL.out]; exact (HRS.out.later hX).at_.2.1) ((HRS.out.later hX).at_.2.2) HLB.out hq (by simp) (o := o) (a1 := d1) (n1 := m1) (c1 := e1)
              have hssm := fun X (hX : Below yS.heap.size yS X) p q (hq : ArgS X (.slice p ll q) ls p q) => sameSh_any hq ((HRS.out.later hX).at_.2.1) (by have := HLB.out; omega)
              rw [decide_eq_true (show ls = ls from rfl)] at hssm
              have HSS := Lib.hid hssm
              have MKM := Lib.hid (show ∀ X, Below y8.heap.size y8 X → (fun X => X.cell? ⟨y3.heap.size, 0, none⟩ = some (.int .i64 o) ∧ X.cell? ⟨y3.heap.size, 1, none⟩ = some (.slice d1 m1 e1) ∧ X.cell? ⟨y3.heap.size, 2, none⟩ = some (.slice adl ll cpl)) X from fun X h => by
                obtain ⟨g0, g1, g2, _⟩ := ((HPS.out.later b8).later h).three
                exact ⟨g0, g1, g2⟩)
              have E0 : Below y8.heap.size y8 y8.drew := (Below.refl _ _).drew
              clear hon hcm hssm
              by_cases hl0 : ll = 0
              · have hl0I : decide ((ll : Int) > 0) = false := decide_eq_false (by omega)
                have hl0K : decide (0 < ll) = false := decide_eq_false (by omega)
                have hl0N : ¬ 0 < ll := by omega
                clear hem hl0
                go_wp2_with fail
                refine wp_region_held_drew (S := fun X => X.cell? ⟨y3.heap.size, 0, none⟩ = some (.int .i64 o) ∧ X.cell? ⟨y3.heap.size, 1, none⟩ = some (.slice d1 m1 e1) ∧ X.cell? ⟨y3.heap.size, 2, none⟩ = some (.slice adl ll cpl)) (by kernel_rfl) (MKM.out _ E0) (fun hHeld => ?_)
                obtain ⟨x0, hdrm⟩ : ∃ Y, y8.drew = Y := ⟨_, rfl⟩
                rw [hdrm] at E0 hHeld ⊢
                clear hdrm
                refine todo [0, 1] ?_
                iterate 2
                 first
                 | (refine todoH (v := ?_) rfl (by kernel_rfl) (fun _ _ _ h => h) (by assumption) (Or.inl ⟨by rfl, ?_⟩) ?_
                    rotate_left
                    · intro w hSw; (try dsimp only at hSw); go_simp; (try with_reducible rfl)
                    try simp only [Act.put, List.getElem_toArray, List.getElem_cons_succ, List.getElem_cons_zero, List.setIfInBounds_toArray, List.set_cons_zero, List.set_cons_succ])
                 | (refine todoH (v := undef) rfl (by kernel_rfl) (fun _ _ _ h => h) (by assumption) (Or.inr ⟨by rfl, rfl⟩) ?_
                    try simp only [Act.put, List.getElem_toArray, List.getElem_cons_succ, List.getElem_cons_zero, List.setIfInBounds_toArray, List.set_cons_zero, List.set_cons_succ])
                refine todone ?_
                refine wpAnyH_ready (rs := [2]) (by kernel_rfl) (by simp) ?_
                refine AllReadyH.cons rfl (fun K hK => ?sm_2) AllReadyH.nil
                go_simp
                refine (HCM.out _ (b8.trans (E0.mono b8.size))).mono ?_
                rintro e x1 ⟨rfl, hy⟩
                have E1 : Below y8.heap.size y8 x1 := E0.trans (hy.mono E0.size)
                have Dm1 := hy
                clear hy
                go_simp
                refine hK.out _ _ (MKM.out _ E1) (fun hHeld2 => ?mm_2)
                clear hK K hHeld
                have hHeld := hHeld2
                clear hHeld2
                try simp only [Act.put, List.getElem_toArray, List.getElem_cons_succ, List.getElem_cons_zero, List.setIfInBounds_toArray, List.set_cons_zero, List.set_cons_succ]
                refine todo [3, 4, 5, 6, 7, 8, 9] ?_
                iterate 7
                 first
                 | (refine todoH (v := ?_) rfl (by kernel_rfl) (fun _ _ _ h => h) (by assumption) (Or.inl ⟨by rfl, ?_⟩) ?_
                    rotate_left
                    · intro w hSw; (try dsimp only at hSw); go_simp; (try with_reducible rfl)
                    try simp only [Act.put, List.getElem_toArray, List.getElem_cons_succ, List.getElem_cons_zero, List.setIfInBounds_toArray, List.set_cons_zero, List.set_cons_succ])
                 | (refine todoH (v := undef) rfl (by kernel_rfl) (fun _ _ _ h => h) (by assumption) (Or.inr ⟨by rfl, rfl⟩) ?_
                    try simp only [Act.put, List.getElem_toArray, List.getElem_cons_succ, List.getElem_cons_zero, List.setIfInBounds_toArray, List.set_cons_zero, List.set_cons_succ])
                refine todone ?_
                refine todo [10, 11, 12, 13, 14, 15, 16, 17, 18, 19, 20] ?_
                iterate 11
                 first
                 | (refine todoH (v := ?_) rfl (by kernel_rfl) (fun _ _ _ h => h) (by assumption) (Or.inl ⟨by rfl, ?_⟩) ?_
                    rotate_left
                    · intro w hSw; (try dsimp only at hSw); go_simp; (try with_reducible rfl)
                    try simp only [Act.put, List.getElem_toArray, List.getElem_cons_succ, List.getElem_cons_zero, List.setIfInBounds_toArray, List.set_cons_zero, List.set_cons_succ])
                 | (refine todoH (v := undef) rfl (by kernel_rfl) (fun _ _ _ h => h) (by assumption) (Or.inr ⟨by rfl, rfl⟩) ?_
                    try simp only [Act.put, List.getElem_toArray, List.getElem_cons_succ, List.getElem_cons_zero, List.setIfInBounds_toArray, List.set_cons_zero, List.set_cons_succ])
                refine todone ?_
                refine wpAnyH_done (by kernel_rfl) ?_ _
                (try dsimp only [Straight])
                go_wp2_with fail
                go_roundw
                case rel => exact ⟨k + 1, by first | rfl | go_num | (refine congrArg (Value.int .i64) ?_; omega), by omega, by omega, b8.trans (E1.mono b8.size)⟩
                case measure => simp [intOf]; omega
              · have hlp : 0 < ll := by omega
                have hlpI : (ll : Int) > 0 := by omega
                have hlpD : decide ((ll : Int) > 0) = true := decide_eq_true hlpI
                rw [show expO k o m1 ls (([r] : List Int).getD 0 0) = ls from expO_again (by rw [HLL.out]; exact hlp), HLL.out] at hem
                have HEM := Lib.hid hem
                clear hem hl0
                go_wp2_with fail
                refine wp_region_held_drew (S := fun X => X.cell? ⟨y3.heap.size, 0, none⟩ = some (.int .i64 o) ∧ X.cell? ⟨y3.heap.size, 1, none⟩ = some (.slice d1 m1 e1) ∧ X.cell? ⟨y3.heap.size, 2, none⟩ = some (.slice adl ll cpl)) (by kernel_rfl) (MKM.out _ E0) (fun hHeld => ?_)
                obtain ⟨x0, hdrn⟩ : ∃ Y, y8.drew = Y := ⟨_, rfl⟩
                rw [hdrn] at E0 hHeld ⊢
                clear hdrn
                refine todo [0, 1] ?_
                iterate 2
                 first
                 | (refine todoH (v := ?_) rfl (by kernel_rfl) (fun _ _ _ h => h) (by assumption) (Or.inl ⟨by rfl, ?_⟩) ?_
                    rotate_left
                    · intro w hSw; (try dsimp only at hSw); go_simp; (try with_reducible rfl)
                    try simp only [Act.put, List.getElem_toArray, List.getElem_cons_succ, List.getElem_cons_zero, List.setIfInBounds_toArray, List.set_cons_zero, List.set_cons_succ])
                 | (refine todoH (v := undef) rfl (by kernel_rfl) (fun _ _ _ h => h) (by assumption) (Or.inr ⟨by rfl, rfl⟩) ?_
                    try simp only [Act.put, List.getElem_toArray, List.getElem_cons_succ, List.getElem_cons_zero, List.setIfInBounds_toArray, List.set_cons_zero, List.set_cons_succ])
                refine todone ?_
                refine wpAnyH_ready (rs := [2]) (by kernel_rfl) (by simp) ?_
                refine AllReadyH.cons rfl (fun K hK => ?sn_2) AllReadyH.nil
                go_simp
                refine (HCM.out _ (b8.trans (E0.mono b8.size))).mono ?_
                rintro e x1 ⟨rfl, hy⟩
                have E1 : Below y8.heap.size y8 x1 := E0.trans (hy.mono E0.size)
                have Dn1 := hy
                clear hy
                go_simp
                refine hK.out _ _ (MKM.out _ E1) (fun hHeld2 => ?mn_2)
                clear hK K hHeld
                have hHeld := hHeld2
                clear hHeld2
                try simp only [Act.put, List.getElem_toArray, List.getElem_cons_succ, List.getElem_cons_zero, List.setIfInBounds_toArray, List.set_cons_zero, List.set_cons_succ]
                refine todo [3, 4, 5, 6, 7, 8, 9] ?_
                iterate 7
                 first
                 | (refine todoH (v := ?_) rfl (by kernel_rfl) (fun _ _ _ h => h) (by assumption) (Or.inl ⟨by rfl, ?_⟩) ?_
                    rotate_left
                    · intro w hSw; (try dsimp only at hSw); go_simp; (try with_reducible rfl)
                    try simp only [Act.put, List.getElem_toArray, List.getElem_cons_succ, List.getElem_cons_zero, List.setIfInBounds_toArray, List.set_cons_zero, List.set_cons_succ])
                 | (refine todoH (v := undef) rfl (by kernel_rfl) (fun _ _ _ h => h) (by assumption) (Or.inr ⟨by rfl, rfl⟩) ?_
                    try simp only [Act.put, List.getElem_toArray, List.getElem_cons_succ, List.getElem_cons_zero, List.setIfInBounds_toArray, List.set_cons_zero, List.set_cons_succ])
                refine todone ?_
                refine todo [10, 11, 12, 15, 16] ?_
                iterate 5
                 first
                 | (refine todoH (v := ?_) rfl (by kernel_rfl) (fun _ _ _ h => h) (by assumption) (Or.inl ⟨by rfl, ?_⟩) ?_
                    rotate_left
                    · intro w hSw; (try dsimp only at hSw); go_simp; (try with_reducible rfl)
                    try simp only [Act.put, List.getElem_toArray, List.getElem_cons_succ, List.getElem_cons_zero, List.setIfInBounds_toArray, List.set_cons_zero, List.set_cons_succ])
                 | (refine todoH (v := undef) rfl (by kernel_rfl) (fun _ _ _ h => h) (by assumption) (Or.inr ⟨by rfl, rfl⟩) ?_
                    try simp only [Act.put, List.getElem_toArray, List.getElem_cons_succ, List.getElem_cons_zero, List.setIfInBounds_toArray, List.set_cons_zero, List.set_cons_succ])
                refine todone ?_
                obtain ⟨x2, hn2⟩ : ∃ Y, x1.alloc (.cells #[.int .i64 r] 3) = Y := ⟨_, rfl⟩
                have E2 : Below y8.heap.size y8 x2 := by rw [← hn2]; exact E1.alloc E1.size _
                have Rn2 : Row x2 x1.heap.size 3 #[.int .i64 r] := by rw [← hn2]; exact Row.new _ _ _
                refine wpAnyH_ready (rs := [13]) (by kernel_rfl) (by simp) ?_
                refine AllReadyH.cons rfl (fun K hK => ?sn_13) AllReadyH.nil
                go_simp
                (try rw [hn2])
                clear hn2
                refine hK.out _ _ (MKM.out _ E2) (fun hHeld2 => ?mn_13)
                clear hK K hHeld
                have hHeld := hHeld2
                clear hHeld2
                try simp only [Act.put, List.getElem_toArray, List.getElem_cons_succ, List.getElem_cons_zero, List.setIfInBounds_toArray, List.set_cons_zero, List.set_cons_succ]
                have hrd : ArgS x2 (.slice (some ⟨x1.heap.size, 0, none⟩) 1 1) [r] (some ⟨x1.heap.size, 0, none⟩) 1 := Rn2.argS10' [r] rfl (Wid.one hrw)
                have hexm := HEM.out _ (b8.trans (E2.mono b8.size)) _ hrd
                have HEXM := Lib.hid hexm
                clear hrd hexm
                refine wpAnyH_ready (rs := [14]) (by kernel_rfl) (by simp) ?_
                refine AllReadyH.cons rfl (fun K hK => ?sn_14) AllReadyH.nil
                go_simp
                refine (HEXM.out).mono ?_
                rintro e x3 ⟨rv, rfl, hrv, hy⟩
                have E3 : Below y8.heap.size y8 x3 := E2.trans (hy.mono E2.size)
                have Dn3 := hy
                clear hy
                obtain ⟨adv, cpv, rfl, hrv2⟩ := res_slice11 hrv
                rw [HLL.out] at hrv2
                rw [HLL.out]
                have hss := HSS.out _ (b8.trans (E3.mono b8.size)) _ _ hrv2.at_.2.1
                have HSSM := Lib.hid hss
                clear hrv hrv2 hss
                go_simp
                refine hK.out _ _ (MKM.out _ E3) (fun hHeld2 => ?mn_14)
                clear hK K hHeld
                have hHeld := hHeld2
                clear hHeld2
                try simp only [Act.put, List.getElem_toArray, List.getElem_cons_succ, List.getElem_cons_zero, List.setIfInBounds_toArray, List.set_cons_zero, List.set_cons_succ]
                refine wpAnyH_ready (rs := [17]) (by kernel_rfl) (by simp) ?_
                refine AllReadyH.cons rfl (fun K hK => ?sn_17) AllReadyH.nil
                go_simp
                refine (HSSM.out).mono ?_
                rintro e x4 ⟨rfl, hy⟩
                have E4 : Below y8.heap.size y8 x4 := E3.trans (hy.mono E3.size)
                have Dn4 := hy
                clear hy
                go_simp
                refine hK.out _ _ (MKM.out _ E4) (fun hHeld2 => ?mn_17)
                clear hK K hHeld
                have hHeld := hHeld2
                clear hHeld2
                try simp only [Act.put, List.getElem_toArray, List.getElem_cons_succ, List.getElem_cons_zero, List.setIfInBounds_toArray, List.set_cons_zero, List.set_cons_succ]
                refine todo [18, 19, 20] ?_
                iterate 3
                 first
                 | (refine todoH (v := ?_) rfl (by kernel_rfl) (fun _ _ _ h => h) (by assumption) (Or.inl ⟨by rfl, ?_⟩) ?_
                    rotate_left
                    · intro w hSw; (try dsimp only at hSw); go_simp; (try with_reducible rfl)
                    try simp only [Act.put, List.getElem_toArray, List.getElem_cons_succ, List.getElem_cons_zero, List.setIfInBounds_toArray, List.set_cons_zero, List.set_cons_succ])
                 | (refine todoH (v := undef) rfl (by kernel_rfl) (fun _ _ _ h => h) (by assumption) (Or.inr ⟨by rfl, rfl⟩) ?_
                    try simp only [Act.put, List.getElem_toArray, List.getElem_cons_succ, List.getElem_cons_zero, List.setIfInBounds_toArray, List.set_cons_zero, List.set_cons_succ])
                refine todone ?_
                refine wpAnyH_done (by kernel_rfl) ?_ _
                (try dsimp only [Straight])
                go_wp2_with fail
                go_roundw
                case rel => exact ⟨k + 1, by first | rfl | go_num | (refine congrArg (Value.int .i64) ?_; omega), by omega, by omega, b8.trans (E4.mono b8.size)⟩
                case measure => simp [intOf]; omega
          · have hk3I : ¬ k ≤ 3 := hk3
            clear k0 k1 k2
            go_wp2_with fail
            refine (known11_any _).mono ?_
            rintro e y9 ⟨rfl, hy⟩
            go_wp2_with fail
            go_ret
            exact ⟨rfl, hbW.trans ((bWi.trans (hy.mono bWi.size)).mono hbW.size)⟩
end
end Go.Proofs.Ytnhbngeipedplaa
