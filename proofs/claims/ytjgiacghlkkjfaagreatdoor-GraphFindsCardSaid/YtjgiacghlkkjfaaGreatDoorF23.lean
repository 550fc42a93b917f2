/-
  Part 23 of 29: contracts and what they rest on (OCodeT, GFind).
-/
import Derived.Test.YtjgiacghlkkjfaaGreatDoorF1
import Derived.Test.YtjgiacghlkkjfaaGreatDoorF2
import Derived.Test.YtjgiacghlkkjfaaGreatDoorF3
import Derived.Test.YtjgiacghlkkjfaaGreatDoorF4
import Derived.Test.YtjgiacghlkkjfaaGreatDoorF5
import Derived.Test.YtjgiacghlkkjfaaGreatDoorF6
import Derived.Test.YtjgiacghlkkjfaaGreatDoorF7
import Derived.Test.YtjgiacghlkkjfaaGreatDoorF8
import Derived.Test.YtjgiacghlkkjfaaGreatDoorF9
import Derived.Test.YtjgiacghlkkjfaaGreatDoorF10
import Derived.Test.YtjgiacghlkkjfaaGreatDoorF11
import Derived.Test.YtjgiacghlkkjfaaGreatDoorF13
import Derived.Test.YtjgiacghlkkjfaaGreatDoorF14
import Derived.Test.YtjgiacghlkkjfaaGreatDoorF16
import Derived.Test.YtjgiacghlkkjfaaGreatDoorF19
import Derived.WalkKit
import Derived.Test.YtjgiacghlkkjfaaGreatDoorRows
import Derived.OrdersHeld
import Derived.Deep.RegionHeld
import Derived.BigQuiet
import Derived.Deep.QuietTactic
import Derived.Lib.Hide
import Derived.Lib.Small
import Derived.Lib.Walk
import Derived.Lib.BitFns
import Derived.Maps.AppendAt
import Derived.RangeFuncNested
import Derived.RangeFuncBound
import Derived.RangeFuncCalls
import Derived.RangeFuncLeaves
import Derived.Shelf.Abstract
import Derived.OwnWalkIn
import Derived.TacticsInMore
import Derived.LoopNIn
import Derived.LoopIn
import Derived.RangeFuncBox
import Derived.Deep.RegionHeld3
import Derived.OrdersIn
import Derived.StillTailTactics
import Derived.RangeFuncFrom
import Derived.Laws.EntriesVeiled
import Derived.ProofKit
import Derived.OpenShut
import Derived.JoinedCond
import Derived.Carry
import Derived.Laws.AppendOwnNone
import Derived.Lib.ItoaNum
import Derived.Deep.RegionLaw
import Derived.WalkMore
import Derived.Lib.SmallJoins
import Derived.IntWalk
import Derived.Deep.DeepCutAuto
import Derived.Laws.OwnMore
import Derived.ArgAppend
import Derived.Deep.Slices
import Derived.Laws.CopyOwn
import Derived.Lib.SliceRun
import Derived.SizedLaws
import Derived.Great.BuildSlice
import Derived.Defers
import Derived.Recover
import Derived.Shelf.Small.Wraps
import Derived.Shelf.Strconv.Itoa3
import Derived.Shelf.Strconv.AtoiAll
import Derived.Laws.RangeAny
import Derived.Lib.AppendZerosOnto
import Derived.Maps.OwnSet
import Derived.Maps.Views
namespace Go.Proofs.YtjgiacghlkkjfaaGreatDoor
set_option maxRecDepth 100000
section
open Go.RowKit
set_option linter.unusedVariables false
set_option linter.unusedSimpArgs false
theorem chk_in {v o : Int} {n : Nat} {xs : List Int} (h : chkO v o n xs = 0) : inO o = true ∧ 1 ≤ v := by
  unfold chkO at h
  split at h
  · cases h
  rename_i h1
  split at h
  · cases h
  rename_i h2
  refine ⟨?_, by omega⟩
  cases hi : inO o with
  | true => rfl
  | false => exact absurd (show verO o v = false by unfold verO; rw [hi]; rfl) h2
set_option maxRecDepth 100000 in
set_option maxHeartbeats 4000000 in
theorem check_any (v : Int) {o : Int} {xs : List Int} {a1 a2 : Option Addr} {n1 c1 c2 : Nat} {w : World} (A : ArgS w (.slice a2 xs.length c2) xs a2 c2) (na : a2 = none → c2 = 0) (hx : xs.length ≤ 17592186044416) : Calls Tryz.prog 113 #[.int .i64 v, .agg #[.int .i64 o, .slice a1 n1 c1, .slice a2 xs.length c2]] w fun e w' => e = .returned (.int .i64 (chkO v o n1 xs)) ∧ Below w.heap.size w w' := by
  have HA := Lib.hid A
  obtain ⟨c, hc⟩ : ∃ c, chkO v o n1 xs = c := ⟨_, rfl⟩
  have HC := Lib.hid hc
  obtain ⟨L, hL⟩ : ∃ L, xs.length = L := ⟨_, rfl⟩
  have HL := Lib.hid hL
  obtain ⟨W, hW⟩ : ∃ W, w.alloc (.cells #[.int .i64 o, .slice a1 n1 c1, .slice a2 L c2] 46) = W := ⟨_, rfl⟩
  have R0 : Row W w.heap.size 46 #[.int .i64 o, .slice a1 n1 c1, .slice a2 L c2] := by rw [← hW]; exact Row.new _ _ _
  have hbW : Below w.heap.size w W := by rw [← hW]; exact (Below.refl _ _).alloc (Nat.le_refl _) _
  have hva := validRow_any v (A.later hbW) na hx (o := o) (a1 := a1) (n1 := n1) (c1 := c1)
  rw [hL] at hx ⊢
  rw [hc, hL] at hva
  rw [HC.out]
  have HVA := Lib.hid hva
  obtain ⟨k0, k1, k2, _, _, _⟩ := R0.three
  clear hc hL A hva
  go_enter Tryz.func113, Tryz.ntmps113
  (try rw [hW])
  go_wp2_with fail
  (try rw [hW])
  clear hW
  refine HVA.out.mono ?_
  rintro e y1 ⟨r, rfl, ⟨n0, nm, vl, vh, al, ah, lo, F, M, rfl, hF, hM, hin⟩, hy⟩
  have HIN := Lib.hid hin
  have HO3 := Lib.hid (rowIs_one (n0 := n0) (nm := nm) (vl := vl) (vh := vh) (al := al) (ah := ah) (lo := lo) hF hM)
  clear hin
  obtain ⟨y2, hst⟩ : ∃ Y, (y1.alloc (.cells #[.int .i64 0, .string ⟨#[]⟩, .int .i64 0, .int .i64 0, .int .i64 0, .int .i64 0, .nilFunc, .int .i64 0, .nilFunc] 181)).setRow y1.heap.size #[.int .i64 n0, .string nm, .int .i64 vl, .int .i64 vh, .int .i64 al, .int .i64 ah, F, .int .i64 lo, M] = Y := ⟨_, rfl⟩
  have R : Row y2 y1.heap.size 181 #[.int .i64 n0, .string nm, .int .i64 vl, .int .i64 vh, .int .i64 al, .int .i64 ah, F, .int .i64 lo, M] := by rw [← hst]; exact (Row.new y1 181 #[.int .i64 0, .string ⟨#[]⟩, .int .i64 0, .int .i64 0, .int .i64 0, .int .i64 0, .nilFunc, .int .i64 0, .nilFunc]).setRow
  have hs01 : Below y1.heap.size y1 y2 := by rw [← hst]; exact below_setRow ((Below.refl _ _).alloc (Nat.le_refl _) _) (Nat.le_refl _)
  have B2 : Below W.heap.size W y2 := hy.trans (hs01.mono hy.size)
  have D2 : Below y1.heap.size y1 y2 := hs01
  have z0 := R.cell 0
  have z1 := R.cell 1
  have z2 := R.cell 2
  have z3 := R.cell 3
  have z4 := R.cell 4
  have z5 := R.cell 5
  have z6 := R.cell 6
  have z7 := R.cell 7
  have z8 := R.cell 8
  clear k0 k1 k2 hy
  obtain ⟨k0, k1, k2, _, _, _⟩ := (R0.later B2).three
  go_wp2_with (refine wpList_store_row rfl 181 _ _ rfl y1.heap.size #[.int .i64 n0, .string nm, .int .i64 vl, .int .i64 vh, .int .i64 al, .int .i64 ah, F, .int .i64 lo, M] (by rfl) (by rfl) 181 #[.int .i64 0, .string ⟨#[]⟩, .int .i64 0, .int .i64 0, .int .i64 0, .int .i64 0, .nilFunc, .int .i64 0, .nilFunc] (Row.new _ _ _) (by kernel_rfl) rfl HO3.out ?_; rw [hst])
  clear hst hs01
  go_ret
  exact ⟨rfl, hbW.trans (B2.mono hbW.size)⟩
set_option maxRecDepth 100000 in
set_option maxHeartbeats 8000000 in
theorem explicit_any (v : Int) {o : Int} {xs : List Int} {a1 a2 : Option Addr} {n1 c1 c2 : Nat} {w : World} (A : ArgS w (.slice a2 xs.length c2) xs a2 c2) (na : a2 = none → c2 = 0) (hx : xs.length ≤ 17592186044416) {u : Value} {rs : List Int} {a3 : Option Addr} {c3 : Nat} (D : ArgS w u rs a3 c3) (hrs : rs.length ≤ 17592186044416) : Calls Tryz.prog 151 #[.int .i64 v, .agg #[.int .i64 o, .slice a1 n1 c1, .slice a2 xs.length c2], u] w fun e w' => ∃ r, e = .returned r ∧ ResS w.heap.size w' r (expO v o n1 xs (rs.getD 0 0)) ∧ Below w.heap.size w w' := by
  have HD := Lib.hid D
  obtain rfl := D.is
  clear D
  obtain ⟨ls, hls⟩ : ∃ l, expO v o n1 xs (rs.getD 0 0) = l := ⟨_, rfl⟩
  rw [hls]
  have HLS := Lib.hid hls
  clear hls
  obtain ⟨LR, hLR⟩ : ∃ L, rs.length = L := ⟨_, rfl⟩
  have HLR := Lib.hid hLR
  obtain ⟨rk, hrk⟩ : ∃ r, rkI (rs.getD 0 0) = r := ⟨_, rfl⟩
  have HRK := Lib.hid hrk
  have HRB := Lib.hid (show 0 ≤ rk ∧ rk ≤ 4 by rw [← hrk]; exact rkI_in _)
  have HFR := Lib.hid (show ∀ X, Below w.heap.size w X → Calls Tryz.prog 182 #[.slice a3 LR c3] X fun e w' => e = .returned (.int .i64 rk) ∧ Below X.heap.size X w' from fun X h => by
    have h2 := firstRank_any (HD.out.later h) hrs
    rw [hrk, hLR] at h2
    exact h2)
  rw [hLR] at hrs ⊢
  clear hLR hrk
  have HA := Lib.hid A
  obtain ⟨c, hc⟩ : ∃ c, chkO v o n1 xs = c := ⟨_, rfl⟩
  have HC := Lib.hid hc
  obtain ⟨L, hL⟩ : ∃ L, xs.length = L := ⟨_, rfl⟩
  have HL := Lib.hid hL
  obtain ⟨W, hW⟩ : ∃ W, w.alloc (.cells #[.int .i64 o, .slice a1 n1 c1, .slice a2 L c2] 46) = W := ⟨_, rfl⟩
  have R0 : Row W w.heap.size 46 #[.int .i64 o, .slice a1 n1 c1, .slice a2 L c2] := by rw [← hW]; exact Row.new _ _ _
  have hbW : Below w.heap.size w W := by rw [← hW]; exact (Below.refl _ _).alloc (Nat.le_refl _) _
  have hva := validRow_any v (A.later hbW) na hx (o := o) (a1 := a1) (n1 := n1) (c1 := c1)
  rw [hL] at hx ⊢
  rw [hc, hL] at hva
  have HVA := Lib.hid hva
  obtain ⟨k0, k1, k2, _, _, _⟩ := R0.three
  clear hc hL A hva
  go_enter Tryz.func151, Tryz.ntmps151
  (try rw [hW])
  go_wp2_with fail
  (try rw [hW])
  clear hW
  refine HVA.out.mono ?_
  rintro e y1 ⟨r, rfl, ⟨n0, nm, vl, vh, al, ah, lo, F, M, rfl, hF, hM, hin⟩, hy⟩
  have HIN := Lib.hid hin
  have HO3 := Lib.hid (rowIs_one (n0 := n0) (nm := nm) (vl := vl) (vh := vh) (al := al) (ah := ah) (lo := lo) hF hM)
  clear hin
  obtain ⟨y2, hst⟩ : ∃ Y, (y1.alloc (.cells #[.int .i64 0, .string ⟨#[]⟩, .int .i64 0, .int .i64 0, .int .i64 0, .int .i64 0, .nilFunc, .int .i64 0, .nilFunc] 181)).setRow y1.heap.size #[.int .i64 n0, .string nm, .int .i64 vl, .int .i64 vh, .int .i64 al, .int .i64 ah, F, .int .i64 lo, M] = Y := ⟨_, rfl⟩
  have R : Row y2 y1.heap.size 181 #[.int .i64 n0, .string nm, .int .i64 vl, .int .i64 vh, .int .i64 al, .int .i64 ah, F, .int .i64 lo, M] := by rw [← hst]; exact (Row.new y1 181 #[.int .i64 0, .string ⟨#[]⟩, .int .i64 0, .int .i64 0, .int .i64 0, .int .i64 0, .nilFunc, .int .i64 0, .nilFunc]).setRow
  have hs01 : Below y1.heap.size y1 y2 := by rw [← hst]; exact below_setRow ((Below.refl _ _).alloc (Nat.le_refl _) _) (Nat.le_refl _)
  have B2 : Below W.heap.size W y2 := hy.trans (hs01.mono hy.size)
  have D2 : Below y1.heap.size y1 y2 := hs01
  have z0 := R.cell 0
  have z1 := R.cell 1
  have z2 := R.cell 2
  have z3 := R.cell 3
  have z4 := R.cell 4
  have z5 := R.cell 5
  have z6 := R.cell 6
  have z7 := R.cell 7
  have z8 := R.cell 8
  clear k0 k1 k2 hy
  obtain ⟨k0, k1, k2, _, _, _⟩ := (R0.later B2).three
  by_cases hc0 : c = 0
  · subst hc0
    obtain ⟨m0, F2', M2, hrw, hF', hM', hrest⟩ := HIN.out rfl
    simp only [Array.mk.injEq, List.cons.injEq, Value.int.injEq, Value.string.injEq, true_and, and_true] at hrw
    obtain ⟨-, -, -, -, -, -, eF, elo, eM⟩ := hrw
    subst eF
    subst eM
    have HLO := Lib.hid elo
    obtain ⟨hin1, hv1⟩ := chk_in HC.out
    obtain ⟨-, -, hmean⟩ := hrest hin1
    clear elo hF' hM' hrest
    by_cases hlv : L = 0 ∧ v ≤ lo
    · obtain ⟨F2, cap2, rfl, heM, hcM⟩ := hmean (by rw [← HLO.out]; omega)
      have HMM := Lib.hid hcM
      have hlvI : decide (L = 0 ∧ v ≤ lo) = true := decide_eq_true hlv
      have hlsE : meantO o rk = ls := by
        rw [← HLS.out, ← HRK.out]
        unfold expO
        rw [if_pos ⟨HC.out, by unfold leaveB; rw [HL.out, ← HLO.out]; exact hlvI⟩]
      have HLSE := Lib.hid hlsE
      have HLV := Lib.hid hlvI
      clear hcM hmean hlvI hlv hlsE
      go_wp2_with (refine wpList_store_row rfl 181 _ _ rfl y1.heap.size #[.int .i64 n0, .string nm, .int .i64 vl, .int .i64 vh, .int .i64 al, .int .i64 ah, F, .int .i64 lo, .func (.func F2) #[] cap2] (by rfl) (by rfl) 181 #[.int .i64 0, .string ⟨#[]⟩, .int .i64 0, .int .i64 0, .int .i64 0, .int .i64 0, .nilFunc, .int .i64 0, .nilFunc] (Row.new _ _ _) (by kernel_rfl) rfl HO3.out ?_; rw [hst])
      clear hst hs01
      refine (leaves_any v _).mono ?_
      rintro e y3 ⟨rfl, hy⟩
      have B3 : Below W.heap.size W y3 := B2.trans (hy.mono B2.size)
      have D3 : Below y1.heap.size y1 y3 := D2.trans (hy.mono D2.size)
      replace R := R.later hy
      clear z0 z1 z2 z3 z4 z5 z6 z7 z8 hy
      have z0 := R.cell 0
      have z1 := R.cell 1
      have z2 := R.cell 2
      have z3 := R.cell 3
      have z4 := R.cell 4
      have z5 := R.cell 5
      have z6 := R.cell 6
      have z7 := R.cell 7
      have z8 := R.cell 8
      clear k0 k1 k2
      obtain ⟨k0, k1, k2, _, _, _⟩ := (R0.later B3).three
      rw [HLV.out]
      have MK := Lib.hid (show ∀ X, Below y3.heap.size y3 X → X.cell? ⟨y1.heap.size, 8, none⟩ = some (.func (.func F2) #[] cap2) from fun X h => (R.later h).cell 8)
      have E0 : Below y3.heap.size y3 y3.drew := (Below.refl _ _).drew
      go_wp2_with fail
      refine wp_region_held_drew (S := fun X => X.cell? ⟨y1.heap.size, 8, none⟩ = some (.func (.func F2) #[] cap2)) (by kernel_rfl) (MK.out _ E0) (fun hHeld => ?_)
      obtain ⟨x0, hdrh⟩ : ∃ Y, y3.drew = Y := ⟨_, rfl⟩
      rw [hdrh] at E0 hHeld ⊢
      clear hdrh
      refine todo [0, 1, 2] ?_
      iterate 3
       first
       | (refine todoH (v := ?_) rfl (by kernel_rfl) (fun _ _ _ h => h) (by assumption) (Or.inl ⟨by rfl, ?_⟩) ?_
          rotate_left
          · intro w hSw; (try dsimp only at hSw); go_simp; (try with_reducible rfl)
          try simp only [Act.put, List.getElem_toArray, List.getElem_cons_succ, List.getElem_cons_zero, List.setIfInBounds_toArray, List.set_cons_zero, List.set_cons_succ])
       | (refine todoH (v := undef) rfl (by kernel_rfl) (fun _ _ _ h => h) (by assumption) (Or.inr ⟨by rfl, rfl⟩) ?_
          try simp only [Act.put, List.getElem_toArray, List.getElem_cons_succ, List.getElem_cons_zero, List.setIfInBounds_toArray, List.set_cons_zero, List.set_cons_succ])
      refine todone ?_
      refine wpAnyH_ready (rs := [3]) (by kernel_rfl) (by simp) ?_
      refine AllReadyH.cons rfl (fun K hK => ?sh_3) AllReadyH.nil
      go_simp
      refine (HFR.out _ (hbW.trans ((B3.trans (E0.mono B3.size)).mono hbW.size))).mono ?_
      rintro e x1 ⟨rfl, hy⟩
      have E1 : Below y3.heap.size y3 x1 := E0.trans (hy.mono E0.size)
      have Dh1 := hy
      clear hy
      go_simp
      refine hK.out _ _ (MK.out _ E1) (fun hHeld2 => ?mh_3)
      clear hK K hHeld
      have hHeld := hHeld2
      clear hHeld2
      try simp only [Act.put, List.getElem_toArray, List.getElem_cons_succ, List.getElem_cons_zero, List.setIfInBounds_toArray, List.set_cons_zero, List.set_cons_succ]
      refine wpAnyH_ready (rs := [4]) (by kernel_rfl) (by simp) ?_
      refine AllReadyH.cons rfl (fun K hK => ?sh_4) AllReadyH.nil
      go_simp
      refine (HMM.out _ _ ((From.of D3).trans ((From.of E1).mono (Nat.zero_le _))) HRB.out.1 HRB.out.2).mono ?_
      rintro e x2 ⟨rv, rfl, hrv, hy⟩
      have E2 : Below y3.heap.size y3 x2 := E1.trans (hy.mono E1.size)
      have Dh2 := hy
      clear hy
      have HRV := Lib.hid hrv
      clear hrv
      go_simp
      refine hK.out _ _ (MK.out _ E2) (fun hHeld2 => ?mh_4)
      clear hK K hHeld
      have hHeld := hHeld2
      clear hHeld2
      try simp only [Act.put, List.getElem_toArray, List.getElem_cons_succ, List.getElem_cons_zero, List.setIfInBounds_toArray, List.set_cons_zero, List.set_cons_succ]
      refine todo [5] ?_
      iterate 1
       first
       | (refine todoH (v := ?_) rfl (by kernel_rfl) (fun _ _ _ h => h) (by assumption) (Or.inl ⟨by rfl, ?_⟩) ?_
          rotate_left
          · intro w hSw; (try dsimp only at hSw); go_simp; (try with_reducible rfl)
          try simp only [Act.put, List.getElem_toArray, List.getElem_cons_succ, List.getElem_cons_zero, List.setIfInBounds_toArray, List.set_cons_zero, List.set_cons_succ])
       | (refine todoH (v := undef) rfl (by kernel_rfl) (fun _ _ _ h => h) (by assumption) (Or.inr ⟨by rfl, rfl⟩) ?_
          try simp only [Act.put, List.getElem_toArray, List.getElem_cons_succ, List.getElem_cons_zero, List.setIfInBounds_toArray, List.set_cons_zero, List.set_cons_succ])
      refine todone ?_
      refine wpAnyH_done (by kernel_rfl) ?_ _
      (try dsimp only [Straight])
      go_wp2_with fail
      go_ret
      have hr := HRV.out
      rw [HLSE.out] at hr
      exact ⟨_, rfl, hr.mono (Nat.le_trans hbW.size (Nat.le_trans B3.size E1.size)), hbW.trans ((B3.trans (E2.mono B3.size)).mono hbW.size)⟩
    · have hlvI : decide (L = 0 ∧ v ≤ lo) = false := decide_eq_false hlv
      have hlsE : xs = ls := by
        rw [← HLS.out]
        unfold expO
        rw [if_neg (fun h => by have h2 := h.2; unfold leaveB at h2; rw [HL.out, ← HLO.out, hlvI] at h2; cases h2)]
      have HLSE := Lib.hid hlsE
      have HLV := Lib.hid hlvI
      clear hmean hlvI hlv hlsE
      go_wp2_with (refine wpList_store_row rfl 181 _ _ rfl y1.heap.size #[.int .i64 n0, .string nm, .int .i64 vl, .int .i64 vh, .int .i64 al, .int .i64 ah, F, .int .i64 lo, M] (by rfl) (by rfl) 181 #[.int .i64 0, .string ⟨#[]⟩, .int .i64 0, .int .i64 0, .int .i64 0, .int .i64 0, .nilFunc, .int .i64 0, .nilFunc] (Row.new _ _ _) (by kernel_rfl) rfl HO3.out ?_; rw [hst])
      clear hst hs01
      refine (leaves_any v _).mono ?_
      rintro e y3 ⟨rfl, hy⟩
      have B3 : Below W.heap.size W y3 := B2.trans (hy.mono B2.size)
      have D3 : Below y1.heap.size y1 y3 := D2.trans (hy.mono D2.size)
      replace R := R.later hy
      clear z0 z1 z2 z3 z4 z5 z6 z7 z8 hy
      have z0 := R.cell 0
      have z1 := R.cell 1
      have z2 := R.cell 2
      have z3 := R.cell 3
      have z4 := R.cell 4
      have z5 := R.cell 5
      have z6 := R.cell 6
      have z7 := R.cell 7
      have z8 := R.cell 8
      clear k0 k1 k2
      obtain ⟨k0, k1, k2, _, _, _⟩ := (R0.later B3).three
      rw [HLV.out]
      go_wp2_with fail
      have hcl := cloneI_any (HA.out.later (hbW.trans (B3.mono hbW.size))) na (by rw [HL.out]; exact hx)
      rw [HL.out] at hcl
      have HCL := Lib.hid hcl
      clear hcl
      refine HCL.out.mono ?_
      rintro e yz ⟨r, rfl, hr, hy⟩
      rw [HLSE.out] at hr
      go_wp2_with fail
      go_ret
      exact ⟨_, rfl, hr.mono (Nat.le_trans hbW.size B3.size), hbW.trans ((B3.trans (hy.mono B3.size)).mono hbW.size)⟩
  · have hcI : (c == 0) = false := by simp [hc0]
    have hlsE : xs = ls := by
      rw [← HLS.out]
      unfold expO
      rw [if_neg (fun h => hc0 (by rw [← HC.out]; exact h.1))]
    have HLSE := Lib.hid hlsE
    clear hlsE
    go_wp2_with (refine wpList_store_row rfl 181 _ _ rfl y1.heap.size #[.int .i64 n0, .string nm, .int .i64 vl, .int .i64 vh, .int .i64 al, .int .i64 ah, F, .int .i64 lo, M] (by rfl) (by rfl) 181 #[.int .i64 0, .string ⟨#[]⟩, .int .i64 0, .int .i64 0, .int .i64 0, .int .i64 0, .nilFunc, .int .i64 0, .nilFunc] (Row.new _ _ _) (by kernel_rfl) rfl HO3.out ?_; rw [hst])
    clear hst hs01
    have hcl := cloneI_any (HA.out.later (hbW.trans (B2.mono hbW.size))) na (by rw [HL.out]; exact hx)
    rw [HL.out] at hcl
    have HCL := Lib.hid hcl
    clear hcl
    refine HCL.out.mono ?_
    rintro e yz ⟨r, rfl, hr, hy⟩
    rw [HLSE.out] at hr
    go_wp2_with fail
    go_ret
    exact ⟨_, rfl, hr.mono (Nat.le_trans hbW.size B2.size), hbW.trans ((B2.trans (hy.mono B2.size)).mono hbW.size)⟩
end
section
open Go.RowKit
set_option linter.unusedVariables false
set_option linter.unusedSimpArgs false
def namesG (g : GrD) : List ByteArray := g.ps.map PoD.nm ++ g.ws.map WeD.nm
/-- where a name is found -/
def FoundAt (L : List ByteArray) (s : ByteArray) (r c : Int) : Prop := (∃ i : Nat, L[i]? = some s ∧ (∀ j, j < i → ¬ L[j]? = some s) ∧ r = (i : Int) ∧ c = 0) ∨ ((∀ j : Nat, ¬ L[j]? = some s) ∧ r = 0 ∧ c = 22)
theorem FoundAt.same {L : List ByteArray} {s : ByteArray} {r c r' c' : Int} (h : FoundAt L s r c) (h' : FoundAt L s r' c') : r = r' ∧ c = c' := by
  rcases h with ⟨i, h1, h2, h3, h4⟩ | ⟨h1, h2, h3⟩ <;> rcases h' with ⟨i', k1, k2, k3, k4⟩ | ⟨k1, k2, k3⟩
  · have e : i = i' := by
      rcases Nat.lt_trichotomy i i' with h | h | h
      · exact absurd h1 (k2 _ h)
      · exact h
      · exact absurd k1 (h2 _ h)
    subst e
    exact ⟨by rw [h3, k3], by rw [h4, k4]⟩
  · exact absurd h1 (k1 i)
  · exact absurd k1 (h1 i')
  · exact ⟨by rw [h2, k2], by rw [h3, k3]⟩
theorem namesG_p {g : GrD} {k : Nat} {x : PoD} (h : g.ps[k]? = some x) : (namesG g)[k]? = some x.nm := by
  have hl : k < g.ps.length := (List.getElem?_eq_some_iff.1 h).1
  unfold namesG
  rw [List.getElem?_append_left (by simpa using hl), List.getElem?_map, h]
  rfl
theorem namesG_w {g : GrD} {k : Nat} {x : WeD} (h : g.ws[k]? = some x) : (namesG g)[g.ps.length + k]? = some x.nm := by
  unfold namesG
  rw [List.getElem?_append_right (by simp), List.length_map, Nat.add_sub_cancel_left, List.getElem?_map, h]
  rfl
theorem namesG_end {g : GrD} {k : Nat} (h : g.ps.length + g.ws.length ≤ k) : (namesG g)[k]? = none := by
  unfold namesG
  exact List.getElem?_eq_none (by simp; omega)
def FoundG (g : GrD) (s : ByteArray) (w : World) (e : Ending) (w' : World) : Prop := ∃ r c, e = .returned (.tuple #[.int .i64 r, .int .i64 c]) ∧ FoundAt (namesG g) s r c ∧ Below w.heap.size w w'
set_option maxRecDepth 100000 in
set_option maxHeartbeats 8000000 in
theorem findG_any {g : GrD} {A : AdG} {w : World} (s : ByteArray) (H : GrA w g A) (hp0 : g.ps.length ≤ 17592186044416) (hw0 : g.ws.length ≤ 17592186044416) : Calls Tryz.prog 20 #[.agg (cellsG g A), .string s] w (FoundG g s w) := by
  obtain ⟨gv, hgv⟩ : ∃ n, g.v = n := ⟨_, rfl⟩
  obtain ⟨np, hnp⟩ : ∃ n, g.ps.length = n := ⟨_, rfl⟩
  obtain ⟨nw, hnw⟩ : ∃ n, g.ws.length = n := ⟨_, rfl⟩
  obtain ⟨nn, hnn1⟩ : ∃ n, g.b.ns.length = n := ⟨_, rfl⟩
  obtain ⟨no, hno⟩ : ∃ n, g.b.os.length = n := ⟨_, rfl⟩
  obtain ⟨nv, hnv⟩ : ∃ n, g.vb.ns.length = n := ⟨_, rfl⟩
  obtain ⟨nu, hnu⟩ : ∃ n, g.vb.os.length = n := ⟨_, rfl⟩
  obtain ⟨hv, hhv⟩ : ∃ n, g.hv = n := ⟨_, rfl⟩
  have hcl : cellsG g A = #[.int .i64 gv, .slice A.pa np A.pc, .slice A.wa nw A.wc, .slice A.na nn A.nc, .slice A.oa no A.oc, .bool hv, .slice A.va nv A.vc, .slice A.ua nu A.uc] := by unfold cellsG; rw [hgv, hnp, hnw, hnn1, hno, hnv, hnu, hhv]
  obtain ⟨pa, hpa⟩ : ∃ a, A.pa = a := ⟨_, rfl⟩
  obtain ⟨wa, hwa⟩ : ∃ a, A.wa = a := ⟨_, rfl⟩
  obtain ⟨W, hW⟩ : ∃ W, w.alloc (.cells (cellsG g A) 29) = W := ⟨_, rfl⟩
  have R0 : Row W w.heap.size 29 (cellsG g A) := by rw [← hW]; exact Row.new _ _ _
  have hbW : Below w.heap.size w W := by rw [← hW]; exact (Below.refl _ _).alloc (Nat.le_refl _) _
  rw [hcl, hpa, hwa] at hW R0 ⊢
  have HH := Lib.hid H
  have HPA := Lib.hid hpa
  have HWA := Lib.hid hwa
  have HNP := Lib.hid hnp
  have HNW := Lib.hid hnw
  have HR0 := Lib.hid R0
  have HBW := Lib.hid hbW
  have hp := hp0
  have hw := hw0
  rw [hnp] at hp
  rw [hnw] at hw
  have k1 := R0.cell 1
  have k2 := R0.cell 2
  simp only [List.getElem?_toArray, List.getElem?_cons_zero, List.getElem?_cons_succ] at k1 k2
  clear H hp0 hw0 hcl hgv hnp hnw hnn1 hno hnv hnu hhv hpa hwa R0 hbW
  go_enter Tryz.func20, Tryz.ntmps20
  (try rw [hW])
  go_wp2_with fail
  (try rw [hW])
  clear hW k1 k2
  go_loopw [13] (fun i wr => ∃ k : Nat, i = .int .i64 (k : Int) ∧ k ≤ np ∧ Row wr w.heap.size 29 #[.int .i64 gv, .slice pa np A.pc, .slice wa nw A.wc, .slice A.na nn A.nc, .slice A.oa no A.oc, .bool hv, .slice A.va nv A.vc, .slice A.ua nu A.uc] ∧ Below w.heap.size w wr ∧ Hid (∀ j, j < k → ¬ (namesG g)[j]? = some s)) (fun i _ => np - (intOf i).toNat)
  case atStart => exact ⟨0, rfl, Nat.zero_le _, HR0.out, HBW.out, Lib.hid (fun j hj => by omega)⟩
  case round =>
    rename World => wr
    obtain ⟨k, rfl, hk, R0, hbE, hzero⟩ := hrel
    have hszE := hbE.size
    have k1 := R0.cell 1
    have k2 := R0.cell 2
    simp only [List.getElem?_toArray, List.getElem?_cons_zero, List.getElem?_cons_succ] at k1 k2
    have HRE := Lib.hid R0
    have HBE := Lib.hid hbE
    clear R0
    by_cases hlt : k < np
    · have hltI : (k : Int) < (np : Int) := by omega
      obtain ⟨b1, o1, x, ha2, hx, a1, c1, n0w, n1w, hA, hn⟩ := HH.out.ps.at (i := k) (by rw [HNP.out]; exact hlt)
      have n0 := oldCell n0w hbE
      have n1 := oldCell n1w hbE
      clear n0w n1w
      rw [HPA.out] at ha2
      subst ha2
      have hnm : (namesG g)[k]? = some x.nm := by exact namesG_p hx
      have HNM := Lib.hid hnm
      clear hx hnm hA hn hbE
      by_cases he : x.nm = s
      · have HF := Lib.hid (show FoundAt (namesG g) s ((k : Nat) : Int) 0 from .inl ⟨k, by rw [HNM.out, he], hzero.out, rfl, rfl⟩)
        
        have heI : (x.nm.toList == s.toList) = true := by rw [nm_beq]; exact decide_eq_true he
        clear he
        go_wp2_with fail
        (try rw [Exit.noGoto_ret])
        go_ret2
        exact ⟨_, _, rfl, HF.out, HBE.out.alloc hszE _⟩
      · have heI : (x.nm.toList == s.toList) = false := by rw [nm_beq]; exact decide_eq_false he
        have HZ := Lib.hid (show ∀ j, j < k + 1 → ¬ (namesG g)[j]? = some s from fun j hj => by
          rcases Nat.lt_or_ge j (k) with h | h
          · exact hzero.out j h
          · obtain rfl : j = k := by omega
            rw [HNM.out]
            intro h
            exact he (Option.some.inj h))
        clear he
        go_wp2_with fail
        go_roundw
        case rel => exact ⟨k + 1, by go_num, by omega, HRE.out.alloc _, HBE.out.alloc hszE _, HZ.out⟩
        case measure => simp [intOf]; omega
    · obtain rfl : np = k := by omega
      have hltI : ¬ (np : Int) < (np : Int) := by omega
      have HR1 := HRE
      have HB1 := HBE
      have HZ1 := hzero
      clear HRE HBE hzero hbE
      go_wp2_with fail
      clear k1 k2
      go_loopw [27] (fun i wr => ∃ k : Nat, i = .int .i64 (k : Int) ∧ k ≤ nw ∧ Row wr w.heap.size 29 #[.int .i64 gv, .slice pa np A.pc, .slice wa nw A.wc, .slice A.na nn A.nc, .slice A.oa no A.oc, .bool hv, .slice A.va nv A.vc, .slice A.ua nu A.uc] ∧ Below w.heap.size w wr ∧ Hid (∀ j, j < np + k → ¬ (namesG g)[j]? = some s)) (fun i _ => nw - (intOf i).toNat)
      case atStart => exact ⟨0, rfl, Nat.zero_le _, HR1.out, HB1.out, Lib.hid (fun j hj => HZ1.out j (by omega))⟩
      case round =>
        rename World => wr
        obtain ⟨k, rfl, hk, R0, hbE, hzero⟩ := hrel
        have hszE := hbE.size
        have k1 := R0.cell 1
        have k2 := R0.cell 2
        simp only [List.getElem?_toArray, List.getElem?_cons_zero, List.getElem?_cons_succ] at k1 k2
        have HRE := Lib.hid R0
        have HBE := Lib.hid hbE
        clear R0
        by_cases hlt : k < nw
        · have hltI : (k : Int) < (nw : Int) := by omega
          obtain ⟨b1, o1, x, ha2, hx, a1, c1, a2, c2, n0w, n1w, n2w, hT⟩ := HH.out.ws.at (i := k) (by rw [HNW.out]; exact hlt)
          have n0 := oldCell n0w hbE
          have n1 := oldCell n1w hbE
          have n2 := oldCell n2w hbE
          clear n0w n1w n2w
          rw [HWA.out] at ha2
          subst ha2
          have hnm : (namesG g)[np + k]? = some x.nm := by rw [← HNP.out]; exact namesG_w hx
          have HNM := Lib.hid hnm
          clear hx hnm hT hbE
          by_cases he : x.nm = s
          · have HF := Lib.hid (show FoundAt (namesG g) s ((np + k : Nat) : Int) 0 from .inl ⟨np + k, by rw [HNM.out, he], hzero.out, rfl, rfl⟩)
            rw [show ((np + k : Nat) : Int) = (np : Int) + (k : Int) by omega] at HF
            have heI : (x.nm.toList == s.toList) = true := by rw [nm_beq]; exact decide_eq_true he
            clear he
            have kk := (HRE.out.alloc (.cells #[.string x.nm, .slice a1 x.s.length c1, .slice a2 x.q.length c2] 67)).cell 1
            simp only [List.getElem?_toArray, List.getElem?_cons_zero, List.getElem?_cons_succ] at kk
            go_wp2_with fail
            (try rw [Exit.noGoto_ret])
            go_ret2
            exact ⟨_, _, rfl, HF.out, HBE.out.alloc hszE _⟩
          · have heI : (x.nm.toList == s.toList) = false := by rw [nm_beq]; exact decide_eq_false he
            have HZ := Lib.hid (show ∀ j, j < np + k + 1 → ¬ (namesG g)[j]? = some s from fun j hj => by
              rcases Nat.lt_or_ge j (np + k) with h | h
              · exact hzero.out j h
              · obtain rfl : j = np + k := by omega
                rw [HNM.out]
                intro h
                exact he (Option.some.inj h))
            clear he
            go_wp2_with fail
            go_roundw
            case rel => exact ⟨k + 1, by go_num, by omega, HRE.out.alloc _, HBE.out.alloc hszE _, HZ.out⟩
            case measure => simp [intOf]; omega
        · obtain rfl : nw = k := by omega
          have hltI : ¬ (nw : Int) < (nw : Int) := by omega
          have HF := Lib.hid (show FoundAt (namesG g) s 0 22 from .inr ⟨(fun j h => by
            rcases Nat.lt_or_ge j (np + nw) with h1 | h1
            · exact hzero.out j h1 h
            · rw [namesG_end (by rw [HNP.out, HNW.out]; exact h1)] at h
              cases h), rfl, rfl⟩)
          go_wp2_with fail
          (try rw [Exit.noGoto_ret])
          go_ret2
          exact ⟨_, _, rfl, HF.out, HBE.out⟩
set_option maxRecDepth 100000 in
set_option maxHeartbeats 8000000 in
theorem findR_any {g : GrD} {A : AdG} {w : World} (s : ByteArray) (H : GrA w g A) (hp0 : g.ps.length ≤ 17592186044416) (hw0 : g.ws.length ≤ 17592186044416) : Calls Tryz.prog 21 #[.agg (cellsG g A), .string s] w (FoundG g s w) := by
  obtain ⟨gv, hgv⟩ : ∃ n, g.v = n := ⟨_, rfl⟩
  obtain ⟨np, hnp⟩ : ∃ n, g.ps.length = n := ⟨_, rfl⟩
  obtain ⟨nw, hnw⟩ : ∃ n, g.ws.length = n := ⟨_, rfl⟩
  obtain ⟨nn, hnn1⟩ : ∃ n, g.b.ns.length = n := ⟨_, rfl⟩
  obtain ⟨no, hno⟩ : ∃ n, g.b.os.length = n := ⟨_, rfl⟩
  obtain ⟨nv, hnv⟩ : ∃ n, g.vb.ns.length = n := ⟨_, rfl⟩
  obtain ⟨nu, hnu⟩ : ∃ n, g.vb.os.length = n := ⟨_, rfl⟩
  obtain ⟨hv, hhv⟩ : ∃ n, g.hv = n := ⟨_, rfl⟩
  have hcl : cellsG g A = #[.int .i64 gv, .slice A.pa np A.pc, .slice A.wa nw A.wc, .slice A.na nn A.nc, .slice A.oa no A.oc, .bool hv, .slice A.va nv A.vc, .slice A.ua nu A.uc] := by unfold cellsG; rw [hgv, hnp, hnw, hnn1, hno, hnv, hnu, hhv]
  obtain ⟨pa, hpa⟩ : ∃ a, A.pa = a := ⟨_, rfl⟩
  obtain ⟨wa, hwa⟩ : ∃ a, A.wa = a := ⟨_, rfl⟩
  obtain ⟨W, hW⟩ : ∃ W, w.alloc (.cells (cellsG g A) 29) = W := ⟨_, rfl⟩
  have R0 : Row W w.heap.size 29 (cellsG g A) := by rw [← hW]; exact Row.new _ _ _
  have hbW : Below w.heap.size w W := by rw [← hW]; exact (Below.refl _ _).alloc (Nat.le_refl _) _
  rw [hcl, hpa, hwa] at hW R0 ⊢
  have HH := Lib.hid H
  have HPA := Lib.hid hpa
  have HWA := Lib.hid hwa
  have HNP := Lib.hid hnp
  have HNW := Lib.hid hnw
  have HR0 := Lib.hid R0
  have HBW := Lib.hid hbW
  have hp := hp0
  have hw := hw0
  rw [hnp] at hp
  rw [hnw] at hw
  have k1 := R0.cell 1
  have k2 := R0.cell 2
  simp only [List.getElem?_toArray, List.getElem?_cons_zero, List.getElem?_cons_succ] at k1 k2
  clear H hp0 hw0 hcl hgv hnp hnw hnn1 hno hnv hnu hhv hpa hwa R0 hbW
  go_enter Tryz.func21, Tryz.ntmps21
  (try rw [hW])
  go_wp2_with fail
  (try rw [hW])
  clear hW k1 k2
  go_loopw [6] (fun i wr => ∃ k : Nat, i = .int .i64 (k : Int) ∧ k ≤ np ∧ Row wr w.heap.size 29 #[.int .i64 gv, .slice pa np A.pc, .slice wa nw A.wc, .slice A.na nn A.nc, .slice A.oa no A.oc, .bool hv, .slice A.va nv A.vc, .slice A.ua nu A.uc] ∧ Below w.heap.size w wr ∧ Hid (∀ j, j < k → ¬ (namesG g)[j]? = some s)) (fun i _ => np - (intOf i).toNat)
  case atStart => exact ⟨0, rfl, Nat.zero_le _, HR0.out, HBW.out, Lib.hid (fun j hj => by omega)⟩
  case round =>
    rename World => wr
    obtain ⟨k, rfl, hk, R0, hbE, hzero⟩ := hrel
    have hszE := hbE.size
    have k1 := R0.cell 1
    have k2 := R0.cell 2
    simp only [List.getElem?_toArray, List.getElem?_cons_zero, List.getElem?_cons_succ] at k1 k2
    have HRE := Lib.hid R0
    have HBE := Lib.hid hbE
    clear R0
    by_cases hlt : k < np
    · have hltI : (k : Int) < (np : Int) := by omega
      obtain ⟨b1, o1, x, ha2, hx, a1, c1, n0w, n1w, hA, hn⟩ := HH.out.ps.at (i := k) (by rw [HNP.out]; exact hlt)
      have n0 := oldCell n0w hbE
      have n1 := oldCell n1w hbE
      clear n0w n1w
      rw [HPA.out] at ha2
      subst ha2
      have hnm : (namesG g)[k]? = some x.nm := by exact namesG_p hx
      have HNM := Lib.hid hnm
      clear hx hnm hA hn hbE
      by_cases he : x.nm = s
      · have HF := Lib.hid (show FoundAt (namesG g) s ((k : Nat) : Int) 0 from .inl ⟨k, by rw [HNM.out, he], hzero.out, rfl, rfl⟩)
        
        have heI : (x.nm.toList == s.toList) = true := by rw [nm_beq]; exact decide_eq_true he
        clear he
        go_wp2_with fail
        (try rw [Exit.noGoto_ret])
        go_ret2
        exact ⟨_, _, rfl, HF.out, HBE.out⟩
      · have heI : (x.nm.toList == s.toList) = false := by rw [nm_beq]; exact decide_eq_false he
        have HZ := Lib.hid (show ∀ j, j < k + 1 → ¬ (namesG g)[j]? = some s from fun j hj => by
          rcases Nat.lt_or_ge j (k) with h | h
          · exact hzero.out j h
          · obtain rfl : j = k := by omega
            rw [HNM.out]
            intro h
            exact he (Option.some.inj h))
        clear he
        go_wp2_with fail
        go_roundw
        case rel => exact ⟨k + 1, by go_num, by omega, HRE.out, HBE.out, HZ.out⟩
        case measure => simp [intOf]; omega
    · obtain rfl : np = k := by omega
      have hltI : ¬ (np : Int) < (np : Int) := by omega
      have HR1 := HRE
      have HB1 := HBE
      have HZ1 := hzero
      clear HRE HBE hzero hbE
      go_wp2_with fail
      clear k1 k2
      go_loopw [7] (fun i wr => ∃ k : Nat, i = .int .i64 (k : Int) ∧ k ≤ nw ∧ Row wr w.heap.size 29 #[.int .i64 gv, .slice pa np A.pc, .slice wa nw A.wc, .slice A.na nn A.nc, .slice A.oa no A.oc, .bool hv, .slice A.va nv A.vc, .slice A.ua nu A.uc] ∧ Below w.heap.size w wr ∧ Hid (∀ j, j < np + k → ¬ (namesG g)[j]? = some s)) (fun i _ => nw - (intOf i).toNat)
      case atStart => exact ⟨0, rfl, Nat.zero_le _, HR1.out, HB1.out, Lib.hid (fun j hj => HZ1.out j (by omega))⟩
      case round =>
        rename World => wr
        obtain ⟨k, rfl, hk, R0, hbE, hzero⟩ := hrel
        have hszE := hbE.size
        have k1 := R0.cell 1
        have k2 := R0.cell 2
        simp only [List.getElem?_toArray, List.getElem?_cons_zero, List.getElem?_cons_succ] at k1 k2
        have HRE := Lib.hid R0
        have HBE := Lib.hid hbE
        clear R0
        by_cases hlt : k < nw
        · have hltI : (k : Int) < (nw : Int) := by omega
          obtain ⟨b1, o1, x, ha2, hx, a1, c1, a2, c2, n0w, n1w, n2w, hT⟩ := HH.out.ws.at (i := k) (by rw [HNW.out]; exact hlt)
          have n0 := oldCell n0w hbE
          have n1 := oldCell n1w hbE
          have n2 := oldCell n2w hbE
          clear n0w n1w n2w
          rw [HWA.out] at ha2
          subst ha2
          have hnm : (namesG g)[np + k]? = some x.nm := by rw [← HNP.out]; exact namesG_w hx
          have HNM := Lib.hid hnm
          clear hx hnm hT hbE
          by_cases he : x.nm = s
          · have HF := Lib.hid (show FoundAt (namesG g) s ((np + k : Nat) : Int) 0 from .inl ⟨np + k, by rw [HNM.out, he], hzero.out, rfl, rfl⟩)
            rw [show ((np + k : Nat) : Int) = (np : Int) + (k : Int) by omega] at HF
            have heI : (x.nm.toList == s.toList) = true := by rw [nm_beq]; exact decide_eq_true he
            clear he
            go_wp2_with fail
            (try rw [Exit.noGoto_ret])
            go_ret2
            exact ⟨_, _, rfl, HF.out, HBE.out⟩
          · have heI : (x.nm.toList == s.toList) = false := by rw [nm_beq]; exact decide_eq_false he
            have HZ := Lib.hid (show ∀ j, j < np + k + 1 → ¬ (namesG g)[j]? = some s from fun j hj => by
              rcases Nat.lt_or_ge j (np + k) with h | h
              · exact hzero.out j h
              · obtain rfl : j = np + k := by omega
                rw [HNM.out]
                intro h
                exact he (Option.some.inj h))
            clear he
            go_wp2_with fail
            go_roundw
            case rel => exact ⟨k + 1, by go_num, by omega, HRE.out, HBE.out, HZ.out⟩
            case measure => simp [intOf]; omega
        · obtain rfl : nw = k := by omega
          have hltI : ¬ (nw : Int) < (nw : Int) := by omega
          have HF := Lib.hid (show FoundAt (namesG g) s 0 22 from .inr ⟨(fun j h => by
            rcases Nat.lt_or_ge j (np + nw) with h1 | h1
            · exact hzero.out j h1 h
            · rw [namesG_end (by rw [HNP.out, HNW.out]; exact h1)] at h
              cases h), rfl, rfl⟩)
          go_wp2_with fail
          (try rw [Exit.noGoto_ret])
          go_ret2
          exact ⟨_, _, rfl, HF.out, HBE.out⟩
set_option maxRecDepth 100000 in
set_option maxHeartbeats 8000000 in
theorem refs_any {g : GrD} {A : AdG} {w : World} (hp0 : g.ps.length ≤ 17592186044416) (hw0 : g.ws.length ≤ 17592186044416) (hq0 : g.b.ns.length ≤ 17592186044416) : Calls Tryz.prog 19 #[.agg (cellsG g A)] w fun e w' => e = .returned (.int .i64 (((g.ps.length + g.ws.length + g.b.ns.length : Nat) : Int))) ∧ Below w.heap.size w w' := by
  obtain ⟨gv, hgv⟩ : ∃ n, g.v = n := ⟨_, rfl⟩
  obtain ⟨np, hnp⟩ : ∃ n, g.ps.length = n := ⟨_, rfl⟩
  obtain ⟨nw, hnw⟩ : ∃ n, g.ws.length = n := ⟨_, rfl⟩
  obtain ⟨nn, hnn1⟩ : ∃ n, g.b.ns.length = n := ⟨_, rfl⟩
  obtain ⟨no, hno⟩ : ∃ n, g.b.os.length = n := ⟨_, rfl⟩
  obtain ⟨nv, hnv⟩ : ∃ n, g.vb.ns.length = n := ⟨_, rfl⟩
  obtain ⟨nu, hnu⟩ : ∃ n, g.vb.os.length = n := ⟨_, rfl⟩
  obtain ⟨hv, hhv⟩ : ∃ n, g.hv = n := ⟨_, rfl⟩
  have hcl : cellsG g A = #[.int .i64 gv, .slice A.pa np A.pc, .slice A.wa nw A.wc, .slice A.na nn A.nc, .slice A.oa no A.oc, .bool hv, .slice A.va nv A.vc, .slice A.ua nu A.uc] := by unfold cellsG; rw [hgv, hnp, hnw, hnn1, hno, hnv, hnu, hhv]
  rw [hnp, hnw, hnn1]
  obtain ⟨W, hW⟩ : ∃ W, w.alloc (.cells (cellsG g A) 29) = W := ⟨_, rfl⟩
  have R0 : Row W w.heap.size 29 (cellsG g A) := by rw [← hW]; exact Row.new _ _ _
  have hbW : Below w.heap.size w W := by rw [← hW]; exact (Below.refl _ _).alloc (Nat.le_refl _) _
  rw [hcl] at hW R0 ⊢
  have hp := hp0
  have hw := hw0
  have hq := hq0
  rw [hnp] at hp
  rw [hnw] at hw
  rw [hnn1] at hq
  have k1 := R0.cell 1
  have k2 := R0.cell 2
  have k3 := R0.cell 3
  simp only [List.getElem?_toArray, List.getElem?_cons_zero, List.getElem?_cons_succ] at k1 k2 k3
  clear hp0 hw0 hq0 hcl hgv hnp hnw hnn1 hno hnv hnu hhv R0
  go_enter Tryz.func19, Tryz.ntmps19
  (try rw [hW])
  go_wp2_with fail
  go_ret
  exact ⟨by simp only [Int.natCast_add]; rfl, hbW⟩
end
end Go.Proofs.YtjgiacghlkkjfaaGreatDoor
