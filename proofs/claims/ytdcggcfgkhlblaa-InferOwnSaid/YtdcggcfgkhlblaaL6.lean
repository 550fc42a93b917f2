/-
  Part 6 of 21: contracts and what they rest on (SCode5, OCode2, OCode3, OCode4).
-/
import Derived.Test.YtdcggcfgkhlblaaL1
import Derived.Test.YtdcggcfgkhlblaaL2
import Derived.Test.YtdcggcfgkhlblaaL3
import Derived.Test.YtdcggcfgkhlblaaL4
import Derived.WalkKit
import Derived.Test.YtdcggcfgkhlblaaRows
import Derived.OrdersHeld
import Derived.Deep.RegionHeld
import Derived.BigQuiet
import Derived.Deep.QuietTactic
import Derived.Lib.Hide
import Derived.Lib.Small
import Derived.Lib.Walk
import Derived.Lib.BitFns
import Derived.Maps.AppendAt
import Derived.RangeFuncNested
import Derived.RangeFuncBound
import Derived.RangeFuncCalls
import Derived.RangeFuncLeaves
import Derived.Shelf.Abstract
import Derived.OwnWalkIn
import Derived.TacticsInMore
import Derived.LoopNIn
import Derived.LoopIn
import Derived.RangeFuncBox
import Derived.Deep.RegionHeld3
import Derived.OrdersIn
import Derived.StillTailTactics
import Derived.RangeFuncFrom
import Derived.Laws.EntriesVeiled
import Derived.ProofKit
import Derived.OpenShut
import Derived.JoinedCond
import Derived.Carry
import Derived.Laws.AppendOwnNone
import Derived.Lib.ItoaNum
import Derived.Deep.RegionLaw
import Derived.WalkMore
import Derived.Lib.SmallJoins
import Derived.IntWalk
import Derived.Deep.DeepCutAuto
import Derived.Laws.OwnMore
import Derived.ArgAppend
import Derived.Deep.Slices
import Derived.Laws.CopyOwn
import Derived.Lib.SliceRun
import Derived.SizedLaws
namespace Go.Proofs.Ytdcggcfgkhlblaa
set_option maxRecDepth 100000
section
open Go.RowKit
set_option linter.unusedVariables false
set_option linter.unusedSimpArgs false
/-- the first k numbers of a list are different ones, below L; each one's place is told -/
def SeenP (p : List Int) (L k : Nat) (zs : List Int) : Prop := zs.length = L ∧ (p.take k).Nodup ∧ (∀ x, x ∈ p.take k → 0 ≤ x ∧ x < L) ∧ ∀ j, j < k → zs.getD (p.getD j 0).toNat 0 = (j : Int)
theorem SeenP.nil (p : List Int) (L : Nat) : SeenP p L 0 (List.replicate L 0) := ⟨by simp, by simp, fun x h => by simp at h, fun j hj => by omega⟩
theorem mem_takeS {p : List Int} {j k : Nat} (hj : j < k) (hl : j < p.length) : p.getD j 0 ∈ p.take k := by
  rw [getD_elem hl, List.mem_take_iff_getElem]
  exact ⟨j, by omega, rfl⟩
theorem SeenP.next {p : List Int} {L k m : Nat} {zs : List Int} (h : SeenP p L k zs) (hk : k < p.length) (hx : p[k]? = some (m : Int)) (hm : m < L) (hn : ¬ (m : Int) ∈ p.take k) : SeenP p L (k + 1) (zs.set m (k : Int)) := by
  obtain ⟨h1, h2, h3, h4⟩ := h
  have ht : p.take (k + 1) = p.take k ++ [(m : Int)] := by rw [List.take_add_one, hx]; rfl
  refine ⟨by rw [List.length_set]; exact h1, ?_, fun x hx2 => ?_, fun j hj => ?_⟩
  · rw [ht, List.nodup_append]
    refine ⟨h2, by simp, fun a ha b hb e => ?_⟩
    rw [List.mem_singleton] at hb
    subst hb
    subst e
    exact hn ha
  · rw [ht, List.mem_append, List.mem_singleton] at hx2
    rcases hx2 with g | g
    · exact h3 x g
    · omega
  · by_cases e : j = k
    · subst e
      have e2 : p.getD j 0 = (m : Int) := by rw [List.getD_eq_getElem?_getD, hx]; rfl
      rw [e2, List.getD_eq_getElem?_getD, show (m : Int).toNat = m by omega, List.getElem?_set_self (by omega)]
      rfl
    · have hmem := mem_takeS (p := p) (j := j) (k := k) (by omega) (by omega)
      have hr := h3 _ hmem
      have hne : m ≠ (p.getD j 0).toNat := fun e2 => hn (by rw [e2, show (((p.getD j 0).toNat : Nat) : Int) = p.getD j 0 by omega]; exact hmem)
      rw [List.getD_eq_getElem?_getD, List.getElem?_set_ne hne, ← List.getD_eq_getElem?_getD]
      exact h4 j (by omega)
theorem SeenP.full {p : List Int} {L : Nat} {zs : List Int} (h : SeenP p L L zs) (hL : p.length = L) : IsPerm p ∧ zs = invL p := by
  obtain ⟨h1, h2, h3, h4⟩ := h
  rw [take_all hL] at h2 h3
  have hp := perm_of_all (p := upS L) (q := p) h2 (fun x hx => mem_upS.2 (h3 x hx)) (by rw [upS_length, hL]; exact Nat.le_refl _)
  have ip : IsPerm p := ⟨h2, fun x => by rw [← hp.mem_iff, mem_upS, hL]⟩
  refine ⟨ip, ?_⟩
  apply List.ext_getElem
  · rw [h1, invL_length, hL]
  · intro i g1 g2
    rw [← getD_elem g1, ← getD_elem g2, invL_at p (by omega)]
    have hmem := (ip.mem (i : Int)).2 (by omega)
    have hlt := List.idxOf_lt_length_of_mem hmem
    have hget := List.getElem_idxOf hlt
    have h5 := h4 (p.idxOf (i : Int)) (by omega)
    rw [getD_elem hlt, hget, show ((i : Nat) : Int).toNat = i by omega] at h5
    exact h5
theorem permC_no {p : List Int} (h : ¬ IsPerm p) (r : Int) : permC p r = 11 := by
  unfold permC
  rw [if_neg]
  exact fun e => h (permB_is e).1
theorem permC_yes {p : List Int} (h : IsPerm p) : permC p p.length = 0 := by unfold permC; rw [if_pos (is_permB h)]
theorem invV_no {p : List Int} (h : ¬ IsPerm p) : invV p = [] := by
  unfold invV
  rw [if_neg]
  exact fun e => h (permB_is e).1
theorem invV_yes {p : List Int} (h : IsPerm p) : invV p = invL p := by unfold invV; rw [if_pos (is_permB h)]
theorem not_twice {p : List Int} {k : Nat} (hk : k < p.length) (h : p.getD k 0 ∈ p.take k) : ¬ IsPerm p := by
  intro ip
  have hn := ip.nodup
  rw [← List.take_append_drop k p, List.nodup_append] at hn
  refine hn.2.2 _ h (p.getD k 0) ?_ rfl
  rw [List.drop_eq_getElem_cons hk, getD_elem hk]
  exact List.mem_cons_self ..
set_option maxRecDepth 100000 in
set_option maxHeartbeats 4000000 in
theorem inverseS_any {u : Value} {p : List Int} {a : Option Addr} {ca : Nat} {w : World} (A : ArgS w u p a ca) (ha : a = none → ca = 0) (hx : p.length ≤ 1000) :
    Calls Try.prog 97 #[u] w fun e w' => ∃ r, e = .returned (.tuple #[r, .int .i64 (permC p p.length)]) ∧ ResS w.heap.size w' r (invV p) ∧ Below w.heap.size w w' := by
  have HA := Lib.hid A
  obtain rfl := A.is
  obtain ⟨c, hc⟩ : ∃ c, permC p p.length = c := ⟨_, rfl⟩
  obtain ⟨r, hr⟩ : ∃ r, invV p = r := ⟨_, rfl⟩
  have HC := Lib.hid hc
  have HR := Lib.hid hr
  rw [hc, hr]
  obtain ⟨L, hL⟩ : ∃ L, p.length = L := ⟨_, rfl⟩
  have HL := Lib.hid hL
  rw [hL] at hx ⊢
  have hmk1 := make_runM L (by omega)
  have hmk2 := make_runS L (by omega)
  clear A ha hc hr hL
  go_enter Try.func97, Try.ntmps97
  go_wp2
  have hb0 : Below w.heap.size w ((w.alloc (.cells (madeCells #[.bool false] L) 4)).alloc (.cells (madeCells #[.int .i64 0] L) 3)) := ((Below.refl _ w).alloc (Nat.le_refl _) _).alloc (by simp) _
  have hm0 : MrkS ((w.alloc (.cells (madeCells #[.bool false] L) 4)).alloc (.cells (madeCells #[.int .i64 0] L) 3)) w.heap.size (List.replicate L false) := (MrkS.made w L).alloc _
  have hp0 : PartS ((w.alloc (.cells (madeCells #[.bool false] L) 4)).alloc (.cells (madeCells #[.int .i64 0] L) 3)) (w.heap.size + 1) L (List.replicate L 0) := by
    have h := BlkS.made (w.alloc (.cells (madeCells #[.bool false] L) 4)) L
    simp only [World.size_alloc] at h
    exact ⟨_, h, by simp, by simp, by simp⟩
  have HB0 := Lib.hid hb0
  have HM0 := Lib.hid hm0
  have HP0 := Lib.hid hp0
  clear hb0 hm0 hp0 hmk1 hmk2
  go_loopw [6, 7, 16] (fun _ _ i wr => ∃ (k : Nat) (M : List Bool) (zs : List Int), i = .int .i64 (k : Int) ∧ k ≤ L ∧ MrkS wr w.heap.size M ∧ SeenM p L k M ∧ PartS wr (w.heap.size + 1) L zs ∧ SeenP p L k zs ∧ Below w.heap.size w wr) (fun _ _ i _ => L - (intOf i).toNat)
  case atStart => exact ⟨0, _, _, rfl, Nat.zero_le _, HM0.out, SeenM.nil p L, HP0.out, SeenP.nil p L, HB0.out⟩
  case round =>
    obtain ⟨k, M, zs, rfl, hk, hM, hS, hP, hQ, hb⟩ := hrel
    have hsz := hb.size
    have HMK := Lib.hid hM
    have HS := Lib.hid hS
    have HP := Lib.hid hP
    have HQ := Lib.hid hQ
    clear hS hQ
    by_cases hlt : k < L
    · obtain ⟨b1, o1, rfl, c1⟩ := (HA.out.later hb).at (i := k) (by rw [HL.out]; exact hlt)
      have hxx := getD_some (xs := p) (k := k) (by rw [HL.out]; exact hlt)
      obtain ⟨x, hxe⟩ : ∃ x, p.getD k 0 = x := ⟨_, rfl⟩
      rw [hxe] at c1 hxx
      have HX := Lib.hid hxx
      have HXE := Lib.hid hxe
      have hbw := below_any x (L : Int) wr
      have hltI : (k : Int) < (L : Int) := by omega
      clear hxx hxe
      by_cases hg : 0 ≤ x ∧ x < L
      · obtain ⟨g0, g1⟩ := hg
        rw [belowB_yes g0 g1] at hbw
        obtain ⟨j, rfl⟩ : ∃ j : Nat, x = (j : Int) := ⟨x.toNat, by omega⟩
        have hj : j < L := by omega
        have hf := hM.free j
        have hcj := hM.cell j (by rw [HS.out.1]; exact hj)
        rw [HS.out.2 j hj] at hcj
        by_cases hmem : (j : Int) ∈ p.take k
        · rw [decide_eq_true hmem] at hcj
          have hno : ¬ IsPerm p := not_twice (k := k) (by rw [HL.out]; exact hlt) (by rw [HXE.out]; exact hmem)
          obtain rfl : c = 11 := by rw [← HC.out]; exact permC_no hno _
          obtain rfl : r = [] := by rw [← HR.out]; exact invV_no hno
          clear hM hP hmem hno
          go_wp2_with (go_at_call 66; refine hbw.mono ?_; rintro e w1 ⟨rfl, rfl⟩)
          go_ret2
          exact ⟨_, rfl, ResS.nil _ _, hb⟩
        · rw [decide_eq_false hmem] at hcj
          have hP1 := hP.far (p := ⟨w.heap.size, j, none⟩) (by show w.heap.size + 1 ≠ w.heap.size; omega) (.bool true)
          have hf2 := hP1.free j
          have hc2 := hP1.cell j (by rw [HQ.out.1]; exact hj)
          have HP1 := Lib.hid hP1
          have HME := Lib.hid hmem
          have hkp : k < p.length := by rw [HL.out]; exact hlt
          have HKP := Lib.hid hkp
          clear hM hP hP1 hmem hkp
          go_wp2_with (go_at_call 66; refine hbw.mono ?_; rintro e w1 ⟨rfl, rfl⟩)
          go_roundw
          case rel =>
            refine ⟨k + 1, _, _, by go_num, by omega, ((HMK.out.set j true).far ?_ _), HS.out.mark HX.out hj, HP1.out.set j (by rw [HQ.out.1]; exact hj) (k : Int), HQ.out.next HKP.out HX.out hj HME.out, ?_⟩
            · show w.heap.size ≠ w.heap.size + 1
              omega
            · exact (hb.setCell (Nat.le_refl _) _).setCell (by show w.heap.size ≤ w.heap.size + 1; omega) _
          case measure => simp [intOf]; omega
      · rw [belowB_no (by omega)] at hbw
        have hno : ¬ IsPerm p := fun ip => by
          have h := (ip.mem x).1 (by rw [← HXE.out, getD_elem (by rw [HL.out]; exact hlt)]; exact List.getElem_mem _)
          rw [HL.out] at h
          exact hg h
        obtain rfl : c = 11 := by rw [← HC.out]; exact permC_no hno _
        obtain rfl : r = [] := by rw [← HR.out]; exact invV_no hno
        clear hM hP hno hg
        go_wp2_with (go_at_call 66; refine hbw.mono ?_; rintro e w1 ⟨rfl, rfl⟩)
        go_ret2
        exact ⟨_, rfl, ResS.nil _ _, hb⟩
    · obtain rfl : k = L := by omega
      obtain ⟨ip, hzs⟩ := HQ.out.full HL.out
      obtain rfl : c = 0 := by rw [← HC.out]; exact permC_yes ip
      have hzr : zs = r := by rw [← HR.out, invV_yes ip]; exact hzs
      have hltI : ¬ (k : Int) < (k : Int) := by omega
      have hwid : Wid zs := by
        rw [hzs]
        intro x hx2
        have := (ip.inv.mem x).1 hx2
        rw [invL_length, HL.out] at this
        omega
      have HW := Lib.hid hwid
      clear hM hP ip hzs hwid
      go_wp2
      go_ret2
      have hn := HP.out.num (base := w.heap.size) (by omega) (by unfold maxLen; omega)
      rw [HQ.out.1] at hn
      exact ⟨_, rfl, by rw [← hzr]; exact ⟨hn, HW.out⟩, hb⟩
set_option maxRecDepth 100000 in
set_option maxHeartbeats 2000000 in
theorem permS_any {u : Value} {p : List Int} {a : Option Addr} {ca : Nat} {w : World} (rank : Int) (A : ArgS w u p a ca) (ha : a = none → ca = 0) (hx : p.length ≤ 1000) (h0 : -9223372036854775808 ≤ rank) (h1 : rank ≤ 9223372036854775807) :
    Calls Try.prog 95 #[u, .int .i64 rank] w fun e w' => e = .returned (.int .i64 (permC p rank)) ∧ Below w.heap.size w w' := by
  have hv := inverseS_any A ha hx
  obtain rfl := A.is
  obtain ⟨c, hc⟩ : ∃ c, permC p rank = c := ⟨_, rfl⟩
  obtain ⟨d, hd⟩ : ∃ d, permC p p.length = d := ⟨_, rfl⟩
  obtain ⟨z, hz⟩ : ∃ z, invV p = z := ⟨_, rfl⟩
  obtain ⟨m, hm⟩ : ∃ m, max rank 0 = m := ⟨_, rfl⟩
  have h2 : (p.length : Int) ≠ m → c = 11 := fun h => by
    rw [← hc]
    unfold permC
    rw [if_neg]
    intro e
    unfold permB at e
    rw [Bool.and_eq_true, decide_eq_true_iff, decide_eq_true_iff] at e
    exact h (e.2.trans hm)
  have h3 : (p.length : Int) = m → c = d := fun h => by
    rw [← hc, ← hd]
    unfold permC permB
    rw [show max rank 0 = max (p.length : Int) 0 by omega]
  rw [hd, hz] at hv
  rw [hc]
  obtain ⟨L, hL⟩ : ∃ L, p.length = L := ⟨_, rfl⟩
  rw [hL] at hv h2 h3 ⊢
  clear A ha hx hc hd hz hL
  by_cases h : (L : Int) = m
  · obtain rfl := h3 h
    have hne : ((L : Int) != m) = false := by simpa using h
    clear h h2 h3
    go_enter Try.func95, Try.ntmps95
    go_wp2_with (go_at_call 97; refine hv.mono ?_; rintro e w1 ⟨r, rfl, R, hb⟩)
    all_goals (go_ret; exact ⟨rfl, hb⟩)
  · obtain rfl := h2 h
    have hne : ((L : Int) != m) = true := by simpa using h
    clear h h2 h3
    go_enter Try.func95, Try.ntmps95
    go_wp2
    all_goals (go_ret; exact ⟨rfl, Below.refl _ _⟩)
end
section
open Go.RowKit
set_option linter.unusedVariables false
set_option linter.unusedSimpArgs false
theorem below_drewN11 {B : Nat} {a w : World} (h : Below B a w) (n : Nat) : Below B a (w.drewN n) := ⟨h.os, h.tape, h.output, h.size, h.block⟩
set_option maxRecDepth 100000 in
set_option maxHeartbeats 4000000 in
theorem isNone_any {u : Value} {xs : List Int} {a : Option Addr} {ca : Nat} {w : World} (A : ArgS w u xs a ca) (hx : xs.length ≤ 17592186044416) : Calls Try.prog 80 #[u] w fun e w' => e = .returned (.bool (noB xs)) ∧ Below w.heap.size w w' := by
  obtain rfl := A.is
  obtain ⟨c, hc⟩ : ∃ c, noB xs = c := ⟨_, rfl⟩
  rw [hc]
  by_cases h0 : xs.length = 0
  · obtain rfl : c = true := by rw [← hc]; exact decide_eq_true h0
    have h0I : (xs.length : Int) = 0 := by omega
    clear hc
    go_enter Try.func80, Try.ntmps80
    go_wp2_with fail
    go_ret
    exact ⟨rfl, Below.refl _ _⟩
  · obtain rfl : c = false := by rw [← hc]; exact decide_eq_false h0
    have h0I : ((xs.length : Int) == 0) = false := by simp; exact fun h => h0 (by rw [h]; rfl)
    clear hc
    go_enter Try.func80, Try.ntmps80
    go_wp2_with fail
    go_ret
    exact ⟨rfl, Below.refl _ _⟩
set_option maxRecDepth 100000 in
set_option maxHeartbeats 4000000 in
theorem oneUpTo_any (m : Int) (w : World) : Calls Try.prog 81 #[.int .i64 m] w fun e w' => e = .returned (.func (.func 92) #[] #[.pointer (some ⟨w.heap.size, 0, none⟩)]) ∧ w' = w.alloc (.cells #[.int .i64 0, .int .i64 m] 62) := by
  go_enter Try.func81, Try.ntmps81
  go_wp2_with fail
  go_ret
  simp
set_option maxRecDepth 100000 in
set_option maxHeartbeats 4000000 in
theorem oneUpTo1_any {u : Value} {xs : List Int} {a : Option Addr} {ca : Nat} {w : World} (A : ArgS w u xs a ca) (hx : xs.length ≤ 17592186044416) {g : Nat} {m : Int} (R : Row w g 62 #[.int .i64 0, .int .i64 m]) : Calls Try.prog 92 #[u, .pointer (some ⟨g, 0, none⟩)] w fun e w' => e = .returned (.bool (oneB m xs)) ∧ Below w.heap.size w w' := by
  have HA := Lib.hid A
  obtain rfl := A.is
  obtain ⟨c, hc⟩ : ∃ c, oneB m xs = c := ⟨_, rfl⟩
  rw [hc]
  obtain ⟨L, hL⟩ : ∃ L, xs.length = L := ⟨_, rfl⟩
  rw [hL] at hx ⊢
  by_cases h0 : L = 1
  · subst h0
    obtain ⟨b, o, rfl, hcell⟩ := HA.out.at (i := 0) (by omega)
    obtain ⟨x, hxe⟩ : ∃ x, xs.getD 0 0 = x := ⟨_, rfl⟩
    rw [hxe] at hcell
    obtain rfl : hasB 0 m x = c := by rw [← hc, ← hxe]; unfold oneB hasB; rw [hL]; simp
    have l1 := World.block_lt_of_cell? _ _ hcell
    have MK := Lib.hid (show ∀ X, Below w.heap.size w X → X.cell? ⟨g, 0, none⟩ = some (.int .i64 0) ∧ X.cell? ⟨g, 1, none⟩ = some (.int .i64 m) ∧ X.cell? ⟨b, o, none⟩ = some (.int .i64 x) from fun X h => by
      obtain ⟨g0, g1, _⟩ := (R.later h).two
      exact ⟨g0, g1, (h.cell l1).trans hcell⟩)
    have B0 : Below w.heap.size w w.drew := (Below.refl _ _).drew
    clear hc hL hxe hcell l1 R
    go_enter Try.func92, Try.ntmps92
    go_wp2_with fail
    refine wp_region_held_drew (S := fun X => X.cell? ⟨g, 0, none⟩ = some (.int .i64 0) ∧ X.cell? ⟨g, 1, none⟩ = some (.int .i64 m) ∧ X.cell? ⟨b, o, none⟩ = some (.int .i64 x)) (by kernel_rfl) (MK.out _ B0) (fun hHeld => ?_)
    obtain ⟨y0, hdrh⟩ : ∃ Y, w.drew = Y := ⟨_, rfl⟩
    rw [hdrh] at B0 hHeld ⊢
    clear hdrh
    refine todo [0, 1, 2, 3, 4, 5, 6, 7] ?_
    iterate 8
     first
     | (refine todoH (v := ?_) rfl (by kernel_rfl) (fun _ _ _ h => h) (by assumption) (Or.inl ⟨by rfl, ?_⟩) ?_
        rotate_left
        · intro w hSw; (try dsimp only at hSw); go_simp; (try with_reducible rfl)
        try simp only [Act.put, List.getElem_toArray, List.getElem_cons_succ, List.getElem_cons_zero, List.setIfInBounds_toArray, List.set_cons_zero, List.set_cons_succ])
     | (refine todoH (v := undef) rfl (by kernel_rfl) (fun _ _ _ h => h) (by assumption) (Or.inr ⟨by rfl, rfl⟩) ?_
        try simp only [Act.put, List.getElem_toArray, List.getElem_cons_succ, List.getElem_cons_zero, List.setIfInBounds_toArray, List.set_cons_zero, List.set_cons_succ])
    refine todone ?_
    refine wpAnyH_ready (rs := [8]) (by kernel_rfl) (by simp) ?_
    refine AllReadyH.cons rfl (fun K hK => ?sh_8) AllReadyH.nil
    go_simp
    refine (has_any 0 m x _).mono ?_
    rintro e y1 ⟨rfl, hy⟩
    have B1 : Below w.heap.size w y1 := B0.trans (hy.mono B0.size)
    have Dh1 := hy
    clear hy
    go_simp
    refine hK.out _ _ (MK.out _ B1) (fun hHeld2 => ?mh_8)
    clear hK K hHeld
    have hHeld := hHeld2
    clear hHeld2
    try simp only [Act.put, List.getElem_toArray, List.getElem_cons_succ, List.getElem_cons_zero, List.setIfInBounds_toArray, List.set_cons_zero, List.set_cons_succ]
    refine todo [9, 10] ?_
    iterate 2
     first
     | (refine todoH (v := ?_) rfl (by kernel_rfl) (fun _ _ _ h => h) (by assumption) (Or.inl ⟨by rfl, ?_⟩) ?_
        rotate_left
        · intro w hSw; (try dsimp only at hSw); go_simp; (try with_reducible rfl)
        try simp only [Act.put, List.getElem_toArray, List.getElem_cons_succ, List.getElem_cons_zero, List.setIfInBounds_toArray, List.set_cons_zero, List.set_cons_succ])
     | (refine todoH (v := undef) rfl (by kernel_rfl) (fun _ _ _ h => h) (by assumption) (Or.inr ⟨by rfl, rfl⟩) ?_
        try simp only [Act.put, List.getElem_toArray, List.getElem_cons_succ, List.getElem_cons_zero, List.setIfInBounds_toArray, List.set_cons_zero, List.set_cons_succ])
    refine todone ?_
    refine wpAnyH_done (by kernel_rfl) ?_ _
    (try dsimp only [Straight])
    go_wp2_with fail
    go_ret
    exact ⟨rfl, B1⟩
  · obtain rfl : c = false := by rw [← hc]; unfold oneB; exact decide_eq_false (by rw [hL]; exact fun h => h0 h.1)
    have h0I : ((L : Int) == 1) = false := by simp; omega
    have B0 : Below w.heap.size w w.drew := (Below.refl _ _).drew
    clear hc hL R
    go_enter Try.func92, Try.ntmps92
    go_wp2_with fail
    refine wp_region_held_drew (S := fun _ => True) (by kernel_rfl) trivial (fun hHeld => ?_)
    refine todo [0, 1, 2, 3, 4, 5, 6, 7, 8, 9, 10] ?_
    iterate 11
     first
     | (refine todoH (v := ?_) rfl (by kernel_rfl) (fun _ _ _ h => h) (by assumption) (Or.inl ⟨by rfl, ?_⟩) ?_
        rotate_left
        · intro w hSw; (try dsimp only at hSw); go_simp; (try with_reducible rfl)
        try simp only [Act.put, List.getElem_toArray, List.getElem_cons_succ, List.getElem_cons_zero, List.setIfInBounds_toArray, List.set_cons_zero, List.set_cons_succ])
     | (refine todoH (v := undef) rfl (by kernel_rfl) (fun _ _ _ h => h) (by assumption) (Or.inr ⟨by rfl, rfl⟩) ?_
        try simp only [Act.put, List.getElem_toArray, List.getElem_cons_succ, List.getElem_cons_zero, List.setIfInBounds_toArray, List.set_cons_zero, List.set_cons_succ])
    refine todone ?_
    refine wpAnyH_done (by kernel_rfl) ?_ _
    (try dsimp only [Straight])
    go_wp2_with fail
    go_ret
    exact ⟨rfl, B0⟩
set_option maxRecDepth 100000 in
set_option maxHeartbeats 4000000 in
theorem always_any (m : Int) (w : World) : Calls Try.prog 82 #[.int .i64 m] w fun e w' => e = .returned (.func (.func 93) #[] #[.pointer (some ⟨w.heap.size, 0, none⟩)]) ∧ w' = w.alloc (.cells #[.int .i64 m] 3) := by
  go_enter Try.func82, Try.ntmps82
  go_wp2_with fail
  go_ret
  simp
set_option maxRecDepth 100000 in
set_option maxHeartbeats 4000000 in
theorem always1_any {g : Nat} {m r : Int} {w : World} (h0 : -9223372036854775808 ≤ m) (h1 : m ≤ 9223372036854775807) (R : Row w g 3 #[.int .i64 m]) : Calls Try.prog 93 #[.int .i64 r, .pointer (some ⟨g, 0, none⟩)] w fun e w' => ∃ v, e = .returned v ∧ ResS w.heap.size w' v [m] ∧ Below w.heap.size w w' := by
  have c0 := R.cell 0
  go_enter Try.func93, Try.ntmps93
  go_wp2_with fail
  go_ret
  refine ⟨_, rfl, ⟨⟨rfl, .inr ⟨w.heap.size, 1, #[.int .i64 m], rfl, Nat.le_refl _, heap_alloc_new w _, Nat.le_refl _, by unfold maxLen; omega, by simp, by simp⟩⟩, Wid.one ⟨h0, h1⟩⟩, (Below.refl _ _).alloc (Nat.le_refl _) _⟩
set_option maxRecDepth 100000 in
set_option maxHeartbeats 4000000 in
theorem coprime_any {p q : Int} (hp0 : -2147483647 ≤ p) (hp1 : p ≤ 2147483647) (hq0 : -2147483647 ≤ q) (hq1 : q ≤ 2147483647) (w : World) : Calls Try.prog 94 #[.int .i64 p, .int .i64 q] w fun e w' => e = .returned (.bool (copB p q)) ∧ Below w.heap.size w w' := by
  obtain ⟨c, hc⟩ : ∃ c, copB p q = c := ⟨_, rfl⟩
  rw [hc]
  have HC := Lib.hid hc
  clear hc
  go_enter Try.func94, Try.ntmps94
  go_wp2
  go_loopw [0, 1] (fun a b wr => ∃ P Q : Int, a = .int .i64 P ∧ b = .int .i64 Q ∧ -2147483647 ≤ P ∧ P ≤ 2147483647 ∧ -2147483647 ≤ Q ∧ Q ≤ 2147483647 ∧ Int.gcd P Q = Int.gcd p q ∧ Below w.heap.size w wr) (fun _ b _ => (intOf b).natAbs)
  case atStart => exact ⟨p, q, rfl, rfl, hp0, hp1, hq0, hq1, rfl, Below.refl _ _⟩
  case round =>
    obtain ⟨P, Q, rfl, rfl, a0, a1, b0, b1, hg, hb⟩ := hrel
    have HG := Lib.hid hg
    clear hg
    by_cases hQ : Q = 0
    · subst hQ
      have hgP : Int.gcd p q = P.natAbs := by rw [← HG.out]; simp
      by_cases h1 : P = 1
      · subst h1
        obtain rfl : c = true := by rw [← HC.out]; unfold copB; rw [hgP]; rfl
        clear hgP
        go_wp2_with fail
        go_ret
        exact ⟨rfl, hb⟩
      · have h1I : (P == 1) = false := by simp [h1]
        by_cases h2 : P = -1
        · subst h2
          obtain rfl : c = true := by rw [← HC.out]; unfold copB; rw [hgP]; rfl
          clear hgP
          go_wp2_with fail
          go_ret
          exact ⟨rfl, hb⟩
        · have h2I : (P == -1) = false := by simp [h2]
          obtain rfl : c = false := by rw [← HC.out]; unfold copB; rw [hgP]; exact decide_eq_false (by omega)
          clear hgP
          go_wp2_with fail
          go_ret
          exact ⟨rfl, hb⟩
    · have hQI : (Q != 0) = true := by simp [hQ]
      have hlt : (P.tmod Q).natAbs < Q.natAbs := by
        have h := Int.tmod_lt_of_pos (a := P) (b := (Q.natAbs : Int)) (by omega)
        rw [Int.natAbs_tmod]
        exact Nat.mod_lt _ (by omega)
      have hgc : Int.gcd Q (P.tmod Q) = Int.gcd p q := by
        rw [← HG.out, Int.gcd_comm P Q]
        unfold Int.gcd
        rw [Int.natAbs_tmod, Nat.gcd_comm Q.natAbs, ← Nat.gcd_rec, Nat.gcd_comm]
      have hw : IntKind.i64.wrap (P.tmod Q) = P.tmod Q := IntWalk.i64_in _ (by omega)
      have HGC := Lib.hid hgc
      have HLT := Lib.hid hlt
      clear hgc hlt
      go_wp2_with fail
      go_quiet (fail)
      go_wp2
      go_roundw
      case rel => exact ⟨Q, P.tmod Q, by first | rfl | (rw [hw]), rfl, b0, b1, by have := HLT.out; omega, by have := HLT.out; omega, HGC.out, below_drewN11 hb nq⟩
      case measure => simp [intOf]; have h := HLT.out; rw [Int.natAbs_tmod] at h; exact h
end
section
open Go.RowKit
set_option linter.unusedVariables false
set_option linter.unusedSimpArgs false
set_option maxRecDepth 100000 in
set_option maxHeartbeats 4000000 in
theorem axesL_any {u : Value} {l : List Int} {a : Option Addr} {ca : Nat} {w : World} (rank : Int) (A : ArgS w u l a ca) (ha : a = none → ca = 0) (hx : l.length ≤ 17592186044416) (h0 : -9223372036854775808 ≤ rank) (h1 : rank ≤ 9223372036854775807) :
    Calls Try.prog 42 #[u, .int .i64 rank] w fun e w' => e = .returned (.int .i64 (axesC l rank)) ∧ Below w.heap.size w w' := by
  refine Calls.mono (R := fun e w' => e = .returned (.int .i64 (axesC l rank)) ∧ w = w') ?_ (fun _ _ ⟨h1, h2⟩ => ⟨h1, h2 ▸ Below.refl _ _⟩)
  have HA := Lib.hid A
  obtain rfl := A.is
  obtain ⟨c, hc⟩ : ∃ c, axesC l rank = c := ⟨_, rfl⟩
  obtain ⟨L, hL⟩ : ∃ L, l.length = L := ⟨_, rfl⟩
  rw [hL] at hx
  rw [hc, hL]
  have HC := Lib.hid hc
  have HL := Lib.hid hL
  clear A ha hc hL
  go_enter Try.func42, Try.ntmps42
  go_wp2
  go_loop [5, 7, 10] (fun p _ i => ∃ (k : Nat), i = .int .i64 (k : Int) ∧ p = .int .i64 (lastS l k) ∧ k ≤ L ∧ axU l rank k) (fun _ _ i => L - (intOf i).toNat)
  case atStart => exact ⟨0, rfl, rfl, Nat.zero_le _, fun i hi => by omega⟩
  case round =>
    obtain ⟨k, rfl, rfl, hk, hax⟩ := hrel
    have HX := Lib.hid hax
    obtain ⟨p, hp⟩ : ∃ p, lastS l k = p := ⟨_, rfl⟩
    have HP := Lib.hid hp
    rw [hp]
    clear hax hp
    by_cases hlt : k < L
    · obtain ⟨b1, o1, rfl, c1⟩ := HA.out.at (i := k) (by rw [HL.out]; exact hlt)
      obtain ⟨x, hxe⟩ : ∃ x, l.getD k 0 = x := ⟨_, rfl⟩
      rw [hxe] at c1
      have HXE := Lib.hid hxe
      have hbw := below_any x rank w
      have hltI : (k : Int) < (L : Int) := by omega
      clear hxe
      by_cases hg : 0 ≤ x ∧ x < rank ∧ p < x
      · obtain ⟨g0, g1, g2⟩ := hg
        rw [belowB_yes g0 g1] at hbw
        have g3 : ¬ x ≤ p := by omega
        have hn : axU l rank (k + 1) := HX.out.next (by rw [HXE.out, HP.out]; exact g2) (by rw [HXE.out]; exact g0) (by rw [HXE.out]; exact g1)
        have HN := Lib.hid hn
        clear hn
        go_wp2_with (go_at_call 66; refine hbw.mono ?_; rintro e w1 ⟨rfl, rfl⟩)
        go_round
        case rel => exact ⟨k + 1, by go_num, congrArg (Value.int .i64) HXE.out.symm, by omega, HN.out⟩
        case measure => simp [intOf]; omega
      · have hno : axesC l rank = 11 := by
          unfold axesC
          rw [if_neg]
          intro h
          unfold axesB at h
          have h2 := of_decide_eq_true h
          have := axU.not (k := k) (by rw [HL.out]; exact hlt) h2
          rw [HXE.out, HP.out] at this
          exact hg ⟨this.1.1, this.1.2, this.2⟩
        obtain rfl : c = 11 := by rw [← HC.out]; exact hno
        clear hno
        by_cases g3 : x ≤ p
        · clear hg
          go_wp2_with (go_at_call 66; refine hbw.mono ?_; rintro e w1 ⟨rfl, rfl⟩)
          go_ret
          exact ⟨rfl, rfl⟩
        · rw [belowB_no (by omega)] at hbw
          clear hg
          go_wp2_with (go_at_call 66; refine hbw.mono ?_; rintro e w1 ⟨rfl, rfl⟩)
          go_ret
          exact ⟨rfl, rfl⟩
    · obtain rfl : k = L := by omega
      have hyes : axesC l rank = 0 := by
        unfold axesC
        rw [if_pos]
        unfold axesB
        refine decide_eq_true ?_
        rw [HL.out]
        exact HX.out
      obtain rfl : c = 0 := by rw [← HC.out]; exact hyes
      have hltI : ¬ (k : Int) < (k : Int) := by omega
      clear hyes
      go_wp2
      go_ret
      exact ⟨rfl, rfl⟩
set_option maxRecDepth 100000 in
set_option maxHeartbeats 4000000 in
theorem isFraction_any {u : Value} {xs : List Int} {a : Option Addr} {ca : Nat} {w : World} (A : ArgS w u xs a ca) (hx : xs.length ≤ 17592186044416) (hbd : ∀ x ∈ xs, -2147483647 ≤ x ∧ x ≤ 2147483647) : Calls Try.prog 83 #[u] w fun e w' => e = .returned (.bool (fracB xs)) ∧ Below w.heap.size w w' := by
  have HA := Lib.hid A
  obtain rfl := A.is
  obtain ⟨c, hc⟩ : ∃ c, fracB xs = c := ⟨_, rfl⟩
  rw [hc]
  have h2 := fun i (hi : i < xs.length) => hbd (xs.getD i 0) (by rw [List.getD_eq_getElem?_getD, List.getElem?_eq_getElem hi]; exact List.getElem_mem hi)
  obtain ⟨L, hL⟩ : ∃ L, xs.length = L := ⟨_, rfl⟩
  rw [hL] at hx h2 ⊢
  clear hbd
  by_cases h0 : L = 2
  · subst h0
    obtain ⟨b, o, rfl, hcell⟩ := HA.out.at (i := 0) (by omega)
    obtain ⟨b', o', he, hcell1⟩ := HA.out.at (i := 1) (by omega)
    simp only [Option.some.injEq, Addr.mk.injEq, and_true] at he
    obtain ⟨rfl, rfl⟩ := he
    obtain ⟨x0, x1⟩ := h2 0 (by omega)
    obtain ⟨z0, z1⟩ := h2 1 (by omega)
    obtain ⟨x, hxe⟩ : ∃ x, xs.getD 0 0 = x := ⟨_, rfl⟩
    obtain ⟨y, hye⟩ : ∃ y, xs.getD 1 0 = y := ⟨_, rfl⟩
    rw [hxe] at hcell x0 x1
    rw [hye] at hcell1 z0 z1
    rw [Nat.add_zero] at hcell
    have hcc : (decide (1 ≤ y) && copB x y) = c := by rw [← hc, ← hxe, ← hye]; unfold fracB; rw [hL]; simp
    have l1 := World.block_lt_of_cell? _ _ hcell
    have l2 := World.block_lt_of_cell? _ _ hcell1
    have MK := Lib.hid (show ∀ X, Below w.heap.size w X → X.cell? ⟨b, o, none⟩ = some (.int .i64 x) ∧ X.cell? ⟨b, o + 1, none⟩ = some (.int .i64 y) from fun X h => ⟨(h.cell l1).trans hcell, (h.cell l2).trans hcell1⟩)
    clear hc hL hxe hye hcell hcell1 h2
    by_cases hy1 : 1 ≤ y
    · obtain rfl : copB x y = c := by rw [← hcc, decide_eq_true hy1]; simp
      clear hcc
      have B0 : Below w.heap.size w w.drew := (Below.refl _ _).drew
      go_enter Try.func83, Try.ntmps83
      go_wp2_with fail
      refine wp_region_held_drew (S := fun X => X.cell? ⟨b, o, none⟩ = some (.int .i64 x) ∧ X.cell? ⟨b, o + 1, none⟩ = some (.int .i64 y)) (by kernel_rfl) (MK.out _ B0) (fun hHeld => ?_)
      obtain ⟨y0, hdrh⟩ : ∃ Y, w.drew = Y := ⟨_, rfl⟩
      rw [hdrh] at B0 hHeld ⊢
      clear hdrh
      refine todo [0, 1, 2, 3, 4, 5, 6, 7, 8, 9, 10, 11, 12, 13, 14, 15] ?_
      iterate 16
       first
       | (refine todoH (v := ?_) rfl (by kernel_rfl) (fun _ _ _ h => h) (by assumption) (Or.inl ⟨by rfl, ?_⟩) ?_
          rotate_left
          · intro w hSw; (try dsimp only at hSw); go_simp; (try with_reducible rfl)
          try simp only [Act.put, List.getElem_toArray, List.getElem_cons_succ, List.getElem_cons_zero, List.setIfInBounds_toArray, List.set_cons_zero, List.set_cons_succ])
       | (refine todoH (v := undef) rfl (by kernel_rfl) (fun _ _ _ h => h) (by assumption) (Or.inr ⟨by rfl, rfl⟩) ?_
          try simp only [Act.put, List.getElem_toArray, List.getElem_cons_succ, List.getElem_cons_zero, List.setIfInBounds_toArray, List.set_cons_zero, List.set_cons_succ])
      refine todone ?_
      refine wpAnyH_ready (rs := [16]) (by kernel_rfl) (by simp) ?_
      refine AllReadyH.cons rfl (fun K hK => ?sh_16) AllReadyH.nil
      go_simp
      refine (coprime_any x0 x1 z0 z1 _).mono ?_
      rintro e y1 ⟨rfl, hy⟩
      have B1 : Below w.heap.size w y1 := B0.trans (hy.mono B0.size)
      have Dh1 := hy
      clear hy
      go_simp
      refine hK.out _ _ (MK.out _ B1) (fun hHeld2 => ?mh_16)
      clear hK K hHeld
      have hHeld := hHeld2
      clear hHeld2
      try simp only [Act.put, List.getElem_toArray, List.getElem_cons_succ, List.getElem_cons_zero, List.setIfInBounds_toArray, List.set_cons_zero, List.set_cons_succ]
      refine todo [17, 18] ?_
      iterate 2
       first
       | (refine todoH (v := ?_) rfl (by kernel_rfl) (fun _ _ _ h => h) (by assumption) (Or.inl ⟨by rfl, ?_⟩) ?_
          rotate_left
          · intro w hSw; (try dsimp only at hSw); go_simp; (try with_reducible rfl)
          try simp only [Act.put, List.getElem_toArray, List.getElem_cons_succ, List.getElem_cons_zero, List.setIfInBounds_toArray, List.set_cons_zero, List.set_cons_succ])
       | (refine todoH (v := undef) rfl (by kernel_rfl) (fun _ _ _ h => h) (by assumption) (Or.inr ⟨by rfl, rfl⟩) ?_
          try simp only [Act.put, List.getElem_toArray, List.getElem_cons_succ, List.getElem_cons_zero, List.setIfInBounds_toArray, List.set_cons_zero, List.set_cons_succ])
      refine todone ?_
      refine wpAnyH_done (by kernel_rfl) ?_ _
      (try dsimp only [Straight])
      go_wp2_with fail
      go_ret
      exact ⟨rfl, B1⟩
    · obtain rfl : c = false := by rw [← hcc, decide_eq_false hy1]; simp
      have hyI : decide (y ≥ 1) = false := decide_eq_false (by omega)
      clear hcc
      have B0 : Below w.heap.size w w.drew := (Below.refl _ _).drew
      go_enter Try.func83, Try.ntmps83
      go_wp2_with fail
      refine wp_region_held_drew (S := fun X => X.cell? ⟨b, o, none⟩ = some (.int .i64 x) ∧ X.cell? ⟨b, o + 1, none⟩ = some (.int .i64 y)) (by kernel_rfl) (MK.out _ B0) (fun hHeld => ?_)
      refine todo [0, 1, 2, 3, 4, 5, 6, 7, 8, 9, 10, 11, 12, 13, 14, 15, 16, 17, 18] ?_
      iterate 19
       first
       | (refine todoH (v := ?_) rfl (by kernel_rfl) (fun _ _ _ h => h) (by assumption) (Or.inl ⟨by rfl, ?_⟩) ?_
          rotate_left
          · intro w hSw; (try dsimp only at hSw); go_simp; (try with_reducible rfl)
          try simp only [Act.put, List.getElem_toArray, List.getElem_cons_succ, List.getElem_cons_zero, List.setIfInBounds_toArray, List.set_cons_zero, List.set_cons_succ])
       | (refine todoH (v := undef) rfl (by kernel_rfl) (fun _ _ _ h => h) (by assumption) (Or.inr ⟨by rfl, rfl⟩) ?_
          try simp only [Act.put, List.getElem_toArray, List.getElem_cons_succ, List.getElem_cons_zero, List.setIfInBounds_toArray, List.set_cons_zero, List.set_cons_succ])
      refine todone ?_
      refine wpAnyH_done (by kernel_rfl) ?_ _
      (try dsimp only [Straight])
      go_wp2_with fail
      go_ret
      exact ⟨rfl, B0⟩
  · obtain rfl : c = false := by rw [← hc]; unfold fracB; rw [hL, decide_eq_false (fun h => h0 h.1)]; simp
    have h0I : ((L : Int) == 2) = false := by simp; omega
    clear hc hL h2
    have B0 : Below w.heap.size w w.drew := (Below.refl _ _).drew
    go_enter Try.func83, Try.ntmps83
    go_wp2_with fail
    refine wp_region_held_drew (S := fun _ => True) (by kernel_rfl) (trivial) (fun hHeld => ?_)
    refine todo [0, 1, 2, 3, 4, 5, 6, 7, 8, 9, 10, 11, 12, 13, 14, 15, 16, 17, 18] ?_
    iterate 19
     first
     | (refine todoH (v := ?_) rfl (by kernel_rfl) (fun _ _ _ h => h) (by assumption) (Or.inl ⟨by rfl, ?_⟩) ?_
        rotate_left
        · intro w hSw; (try dsimp only at hSw); go_simp; (try with_reducible rfl)
        try simp only [Act.put, List.getElem_toArray, List.getElem_cons_succ, List.getElem_cons_zero, List.setIfInBounds_toArray, List.set_cons_zero, List.set_cons_succ])
     | (refine todoH (v := undef) rfl (by kernel_rfl) (fun _ _ _ h => h) (by assumption) (Or.inr ⟨by rfl, rfl⟩) ?_
        try simp only [Act.put, List.getElem_toArray, List.getElem_cons_succ, List.getElem_cons_zero, List.setIfInBounds_toArray, List.set_cons_zero, List.set_cons_succ])
    refine todone ?_
    refine wpAnyH_done (by kernel_rfl) ?_ _
    (try dsimp only [Straight])
    go_wp2_with fail
    go_ret
    exact ⟨rfl, B0⟩
set_option maxRecDepth 100000 in
set_option maxHeartbeats 4000000 in
theorem isPerm_any {u : Value} {xs : List Int} {a : Option Addr} {ca : Nat} {w : World} (A : ArgS w u xs a ca) (na : a = none → ca = 0) (hx : xs.length ≤ 17592186044416) : Calls Try.prog 84 #[u] w fun e w' => e = .returned (.bool (perB xs)) ∧ Below w.heap.size w w' := by
  have HA := Lib.hid A
  obtain rfl := A.is
  obtain ⟨c, hc⟩ : ∃ c, perB xs = c := ⟨_, rfl⟩
  rw [hc]
  by_cases h4 : xs.length ≤ 4
  · have hp := permS_any (xs.length : Int) HA.out na (by omega) (by omega) (by omega)
    have hcc : permB xs xs.length = c := by rw [← hc]; unfold perB; rw [decide_eq_true h4]; rfl
    obtain ⟨d, hd⟩ : ∃ d, permC xs (xs.length : Int) = d := ⟨_, rfl⟩
    have hdc : (d == 0) = c := by
      rw [← hd, ← hcc]
      unfold permC
      split
      · rename_i h; rw [h]; rfl
      · rename_i h; rw [show permB xs xs.length = false by simpa using h]; rfl
    rw [hd] at hp
    have h4I : (xs.length : Int) ≤ 4 := by omega
    subst hdc
    clear hc hcc hd
    go_enter Try.func84, Try.ntmps84
    go_wp2_with fail
    refine hp.mono ?_
    rintro e y1 ⟨rfl, hy⟩
    go_wp2_with fail
    go_ret
    exact ⟨rfl, hy⟩
  · obtain rfl : c = false := by rw [← hc]; unfold perB; rw [decide_eq_false h4]; rfl
    have h4I : ¬ (xs.length : Int) ≤ 4 := by omega
    clear hc
    go_enter Try.func84, Try.ntmps84
    go_wp2_with fail
    go_ret
    exact ⟨rfl, Below.refl _ _⟩
set_option maxRecDepth 100000 in
set_option maxHeartbeats 4000000 in
theorem isShape_any {u : Value} {xs : List Int} {a : Option Addr} {ca : Nat} {w : World} (A : ArgS w u xs a ca) (hx : xs.length ≤ 17592186044416) : Calls Try.prog 86 #[u] w fun e w' => e = .returned (.bool (shB xs)) ∧ Below w.heap.size w w' := by
  have hp := mayS_any A hx
  obtain rfl := A.is
  obtain ⟨d, hd⟩ : ∃ d, mayC xs = d := ⟨_, rfl⟩
  have hdc : (d == 0) = shB xs := by rw [← hd]; unfold shB; rfl
  rw [hd] at hp
  rw [← hdc]
  clear hd hdc
  go_enter Try.func86, Try.ntmps86
  go_wp2_with fail
  refine hp.mono ?_
  rintro e y1 ⟨rfl, hy⟩
  go_wp2_with fail
  go_ret
  exact ⟨rfl, hy⟩
set_option maxRecDepth 100000 in
set_option maxHeartbeats 4000000 in
theorem areAxes_any {u : Value} {xs : List Int} {a : Option Addr} {ca : Nat} {w : World} (A : ArgS w u xs a ca) (na : a = none → ca = 0) (hx : xs.length ≤ 17592186044416) : Calls Try.prog 87 #[u] w fun e w' => e = .returned (.bool (axesB xs 4)) ∧ Below w.heap.size w w' := by
  have hp := axesL_any 4 A na hx (by decide) (by decide)
  obtain rfl := A.is
  obtain ⟨d, hd⟩ : ∃ d, axesC xs 4 = d := ⟨_, rfl⟩
  have hdc : (d == 0) = axesB xs 4 := by
    rw [← hd]
    unfold axesC
    split
    · rename_i h; rw [h]; rfl
    · rename_i h; rw [show axesB xs 4 = false by simpa using h]; rfl
  rw [hd] at hp
  rw [← hdc]
  clear hd hdc
  go_enter Try.func87, Try.ntmps87
  go_wp2_with fail
  refine hp.mono ?_
  rintro e y1 ⟨rfl, hy⟩
  go_wp2_with fail
  go_ret
  exact ⟨rfl, hy⟩
end
section
open Go.RowKit
set_option linter.unusedVariables false
set_option linter.unusedSimpArgs false
set_option maxRecDepth 100000 in
set_option maxHeartbeats 4000000 in
theorem slice1_any (a b : Int) (w : World) : Calls Try.prog 90 #[.int .i64 a, .int .i64 b] w fun e w' => e = .returned (.bool (slB a b)) ∧ w = w' := by
  obtain ⟨c, hc⟩ : ∃ c, slB a b = c := ⟨_, rfl⟩
  rw [hc]
  by_cases h1 : 0 ≤ a
  · by_cases h2 : a < b
    · obtain rfl : c = true := by rw [← hc]; exact decide_eq_true ⟨h1, h2⟩
      clear hc
      go_enter Try.func90, Try.ntmps90
      go_wp2_with fail
      go_ret
      exact ⟨rfl, rfl⟩
    · obtain rfl : c = false := by rw [← hc]; exact decide_eq_false (fun h => h2 h.2)
      clear hc
      go_enter Try.func90, Try.ntmps90
      go_wp2_with fail
      go_ret
      exact ⟨rfl, rfl⟩
  · obtain rfl : c = false := by rw [← hc]; exact decide_eq_false (fun h => h1 h.1)
    clear hc
    go_enter Try.func90, Try.ntmps90
    go_wp2_with fail
    go_ret
    exact ⟨rfl, rfl⟩
set_option maxRecDepth 100000 in
set_option maxHeartbeats 4000000 in
theorem pad1_any (a b : Int) (w : World) : Calls Try.prog 91 #[.int .i64 a, .int .i64 b] w fun e w' => e = .returned (.bool (paB a b)) ∧ w = w' := by
  obtain ⟨c, hc⟩ : ∃ c, paB a b = c := ⟨_, rfl⟩
  rw [hc]
  by_cases h1 : 0 ≤ a
  · by_cases h2 : 0 ≤ b
    · obtain rfl : c = true := by rw [← hc]; exact decide_eq_true ⟨h1, h2⟩
      clear hc
      go_enter Try.func91, Try.ntmps91
      go_wp2_with fail
      go_ret
      exact ⟨rfl, rfl⟩
    · obtain rfl : c = false := by rw [← hc]; exact decide_eq_false (fun h => h2 h.2)
      clear hc
      go_enter Try.func91, Try.ntmps91
      go_wp2_with fail
      go_ret
      exact ⟨rfl, rfl⟩
  · obtain rfl : c = false := by rw [← hc]; exact decide_eq_false (fun h => h1 h.1)
    clear hc
    go_enter Try.func91, Try.ntmps91
    go_wp2_with fail
    go_ret
    exact ⟨rfl, rfl⟩
set_option maxRecDepth 100000 in
set_option maxHeartbeats 4000000 in
theorem pairs_any (v : Value) (F : Nat) (hv : v = .func (.func F) #[] #[]) (w : World) : Calls Try.prog 89 #[v] w fun e w' => e = .returned (.func (.func 96) #[] #[.pointer (some ⟨w.heap.size, 0, none⟩)]) ∧ w' = w.alloc (.cells #[v] 86) := by
  subst hv
  go_enter Try.func89, Try.ntmps89
  go_wp2_with fail
  go_ret
  simp
set_option maxRecDepth 100000 in
set_option maxHeartbeats 4000000 in
theorem pairs1_any {u : Value} {xs : List Int} {a : Option Addr} {ca : Nat} {w : World} (A : ArgS w u xs a ca) (hx : xs.length ≤ 17592186044416) {g F : Nat} (f : Int → Int → Bool) (R : Row w g 86 #[.func (.func F) #[] #[]]) (heF : ∀ args w, (callFunc F args).run Try.prog w = .ok (.enter F args) w)
    (hdo : ∀ x y W, Calls Try.prog F #[.int .i64 x, .int .i64 y] W fun e w' => e = .returned (.bool (f x y)) ∧ Below W.heap.size W w') : Calls Try.prog 96 #[u, .pointer (some ⟨g, 0, none⟩)] w fun e w' => e = .returned (.bool (pairsB f xs)) ∧ Below w.heap.size w w' := by
  have HA := Lib.hid A
  have HDO := Lib.hid hdo
  have HR := Lib.hid R
  obtain rfl := A.is
  obtain ⟨c, hc⟩ : ∃ c, pairsB f xs = c := ⟨_, rfl⟩
  rw [hc]
  obtain ⟨L, hL⟩ : ∃ L, xs.length = L := ⟨_, rfl⟩
  have HL := Lib.hid hL
  have HC := Lib.hid hc
  rw [hL] at hx ⊢
  have hrem : (L : Int).tmod 2 = ((L % 2 : Nat) : Int) := by rw [Int.tmod_eq_emod_of_nonneg (by omega)]; omega
  obtain ⟨d, hd⟩ : ∃ d, L % 2 = d := ⟨_, rfl⟩
  rw [hd] at hrem
  clear A R hdo hc hL
  by_cases h1 : d = 0
  case neg =>
    obtain rfl : c = false := by rw [← HC.out]; unfold pairsB; rw [HL.out]; exact decide_eq_false (fun h => h1 (by omega))
    have h1I : ((d : Int) != 0) = true := by simp [h1]
    clear hd
    go_enter Try.func96, Try.ntmps96
    go_wp2_with fail
    go_ret
    exact ⟨rfl, Below.refl _ _⟩
  case pos =>
    subst h1
    by_cases h8 : L ≤ 8
    case neg =>
      obtain rfl : c = false := by rw [← HC.out]; unfold pairsB; rw [HL.out]; exact decide_eq_false (fun h => h8 h.2.1)
      have h8I : (L : Int) > 8 := by omega
      clear hd
      go_enter Try.func96, Try.ntmps96
      go_wp2_with fail
      go_ret
      exact ⟨rfl, Below.refl _ _⟩
    case pos =>
      have h8I : ¬ (L : Int) > 8 := by omega
      have HD := Lib.hid hd
      clear hd
      go_enter Try.func96, Try.ntmps96
      go_wp2_with fail
      clear hrem h8I
      go_loopw [4] (fun i wr => ∃ k : Nat, i = .int .i64 ((2 * k : Nat) : Int) ∧ 2 * k ≤ L ∧ (∀ j, j < k → f (xs.getD (2 * j) 0) (xs.getD (2 * j + 1) 0) = true) ∧ Below w.heap.size w wr) (fun i _ => L - (intOf i).toNat)
      case atStart => exact ⟨0, rfl, by omega, fun j hj => by omega, Below.refl _ _⟩
      case round =>
        obtain ⟨k, rfl, hk, hall, hbr⟩ := hrel
        have HALL := Lib.hid hall
        have HBR := Lib.hid hbr
        obtain ⟨p, hp⟩ : ∃ p, 2 * k = p := ⟨_, rfl⟩
        have HP := Lib.hid hp
        rw [hp] at hk ⊢
        clear hall hbr hp
        by_cases hlt : p < L
        · have hltI : (p : Int) < (L : Int) := by omega
          obtain ⟨s, hs⟩ : ∃ s, p + 1 = s := ⟨_, rfl⟩
          have hsL : s < L := by have h1 := HD.out; have h2 := HP.out; omega
          have hsI : (p : Int) + 1 = (s : Int) := by omega
          have hsLI : (s : Int) < (L : Int) := by omega
          have hp0 : (0 : Int) ≤ (p : Int) := by omega
          have hs0 : (0 : Int) ≤ (s : Int) := by omega
          obtain ⟨b, o, rfl, c0⟩ := (HA.out.later HBR.out).at (i := p) (by rw [HL.out]; omega)
          obtain ⟨b', o', he, c1⟩ := (HA.out.later HBR.out).at (i := s) (by rw [HL.out]; omega)
          simp only [Option.some.injEq, Addr.mk.injEq, and_true] at he
          obtain ⟨rfl, rfl⟩ := he
          obtain ⟨x, hxe⟩ : ∃ x, xs.getD p 0 = x := ⟨_, rfl⟩
          obtain ⟨y, hye⟩ : ∃ y, xs.getD s 0 = y := ⟨_, rfl⟩
          rw [hxe] at c0
          rw [hye] at c1
          have l0 := World.block_lt_of_cell? _ _ c0
          have l1 := World.block_lt_of_cell? _ _ c1
          have MK := Lib.hid (show ∀ X, Below wr.heap.size wr X → X.cell? ⟨g, 0, none⟩ = some (.func (.func F) #[] #[]) ∧ X.cell? ⟨b, o + p, none⟩ = some (.int .i64 x) ∧ X.cell? ⟨b, o + s, none⟩ = some (.int .i64 y) from fun X h => ⟨((HR.out.later HBR.out).later h).cell 0, (h.cell l0).trans c0, (h.cell l1).trans c1⟩)
          have HXE := Lib.hid hxe
          have HYE := Lib.hid hye
          have HS := Lib.hid hs
          obtain ⟨t, ht⟩ : ∃ t, f x y = t := ⟨_, rfl⟩
          have HT := Lib.hid ht
          have B0 : Below wr.heap.size wr wr.drew := (Below.refl _ _).drew
          have wp4 : p ≤ 4096 := by omega
          have ws : IntKind.i64.wrap (s : Int) = (s : Int) := IntWalk.i64_in _ (by omega)
          clear c0 c1 hxe hye l0 l1 hs ht
          go_wp2_with fail
          refine wp_region_held_drew (S := fun X => X.cell? ⟨g, 0, none⟩ = some (.func (.func F) #[] #[]) ∧ X.cell? ⟨b, o + p, none⟩ = some (.int .i64 x) ∧ X.cell? ⟨b, o + s, none⟩ = some (.int .i64 y)) (by kernel_rfl) (MK.out _ B0) (fun hHeld => ?_)
          obtain ⟨y0, hdrh⟩ : ∃ Y, wr.drew = Y := ⟨_, rfl⟩
          rw [hdrh] at B0 hHeld ⊢
          clear hdrh
          refine todo [0, 1, 2, 3, 4, 5, 6, 7, 8, 9] ?_
          iterate 10
           first
           | (refine todoH (v := ?_) rfl (by kernel_rfl) (fun _ _ _ h => h) (by assumption) (Or.inl ⟨by rfl, ?_⟩) ?_
              rotate_left
              · intro w hSw; (try dsimp only at hSw); go_simp; (try with_reducible rfl)
              try simp only [Act.put, List.getElem_toArray, List.getElem_cons_succ, List.getElem_cons_zero, List.setIfInBounds_toArray, List.set_cons_zero, List.set_cons_succ])
           | (refine todoH (v := undef) rfl (by kernel_rfl) (fun _ _ _ h => h) (by assumption) (Or.inr ⟨by rfl, rfl⟩) ?_
              try simp only [Act.put, List.getElem_toArray, List.getElem_cons_succ, List.getElem_cons_zero, List.setIfInBounds_toArray, List.set_cons_zero, List.set_cons_succ])
          refine todone ?_
          refine wpAnyH_ready (rs := [10]) (by kernel_rfl) (by simp) ?_
          refine AllReadyH.cons rfl (fun K hK => ?sh_10) AllReadyH.nil
          go_simp
          refine (HDO.out x y _).mono ?_
          rintro e y1 ⟨rfl, hy⟩
          have B1 : Below wr.heap.size wr y1 := B0.trans (hy.mono B0.size)
          have Dh1 := hy
          clear hy
          go_simp
          refine hK.out _ _ (MK.out _ B1) (fun hHeld2 => ?mh_10)
          clear hK K hHeld
          have hHeld := hHeld2
          clear hHeld2
          try simp only [Act.put, List.getElem_toArray, List.getElem_cons_succ, List.getElem_cons_zero, List.setIfInBounds_toArray, List.set_cons_zero, List.set_cons_succ]
          refine todo [11] ?_
          iterate 1
           first
           | (refine todoH (v := ?_) rfl (by kernel_rfl) (fun _ _ _ h => h) (by assumption) (Or.inl ⟨by rfl, ?_⟩) ?_
              rotate_left
              · intro w hSw; (try dsimp only at hSw); go_simp; (try with_reducible rfl)
              try simp only [Act.put, List.getElem_toArray, List.getElem_cons_succ, List.getElem_cons_zero, List.setIfInBounds_toArray, List.set_cons_zero, List.set_cons_succ])
           | (refine todoH (v := undef) rfl (by kernel_rfl) (fun _ _ _ h => h) (by assumption) (Or.inr ⟨by rfl, rfl⟩) ?_
              try simp only [Act.put, List.getElem_toArray, List.getElem_cons_succ, List.getElem_cons_zero, List.setIfInBounds_toArray, List.set_cons_zero, List.set_cons_succ])
          refine todone ?_
          refine wpAnyH_done (by kernel_rfl) ?_ _
          (try dsimp only [Straight])
          rw [HT.out]
          cases t with
          | false =>
            obtain rfl : c = false := by
              rw [← HC.out]
              unfold pairsB
              refine decide_eq_false (fun h => ?_)
              have h3 := h.2.2 k (by rw [HL.out]; have h2 := HP.out; omega) (by rw [HL.out]; have h2 := HP.out; have h4 := HS.out; omega)
              rw [HP.out, HS.out, HXE.out, HYE.out, HT.out] at h3
              cases h3
            go_wp2_with fail
            go_ret
            exact ⟨rfl, HBR.out.trans (B1.mono HBR.out.size)⟩
          | true =>
            have wp2 : IntKind.i64.wrap ((p : Int) + 2) = (p : Int) + 2 := IntWalk.i64_in _ (by omega)
            go_wp2_with fail
            go_roundw
            case rel =>
              refine ⟨k + 1, by have h2 := HP.out; first | (congr 1; omega) | (refine congrArg (Value.int .i64) ?_; omega), by have h2 := HP.out; have h3 := HS.out; omega, fun j hj => ?_, HBR.out.trans (B1.mono HBR.out.size)⟩
              by_cases hjk : j < k
              · exact HALL.out j hjk
              · obtain rfl : j = k := by omega
                rw [HP.out, HS.out, HXE.out, HYE.out, HT.out]
            case measure => simp [intOf]; omega
        · obtain rfl : p = L := by omega
          have hltI : ¬ (p : Int) < (p : Int) := by omega
          obtain rfl : c = true := by
            rw [← HC.out]
            unfold pairsB
            exact decide_eq_true ⟨by rw [HL.out]; exact HD.out, by rw [HL.out]; omega, fun j _ hj => HALL.out j (by rw [HL.out] at hj; have h2 := HP.out; omega)⟩
          go_wp2_with fail
          go_ret
          exact ⟨rfl, HBR.out⟩
theorem set_mid11 {A : List Int} {k n : Nat} {x : Int} (hA : A.length = k) (hk : k < n) : (A ++ List.replicate (n - k) 0).set k x = (A ++ [x]) ++ List.replicate (n - (k + 1)) 0 := by
  subst hA
  obtain ⟨m, rfl⟩ : ∃ m, n = A.length + 1 + m := ⟨n - (A.length + 1), by omega⟩
  rw [show A.length + 1 + m - A.length = m + 1 by omega, show A.length + 1 + m - (A.length + 1) = m by omega, List.replicate_succ]
  simp
set_option maxRecDepth 100000 in
set_option maxHeartbeats 4000000 in
theorem forward_any {n : Nat} (hn : n ≤ 4) (w : World) : Calls Try.prog 88 #[.int .i64 (n : Int)] w fun e w' => ∃ r, e = .returned r ∧ ResS w.heap.size w' r (fwdI (n : Int)) ∧ Below w.heap.size w w' := by
  obtain ⟨r, hr⟩ : ∃ r, (List.range n).map (fun k : Nat => (k : Int)) = r := ⟨_, rfl⟩
  have hr2 : fwdI (n : Int) = r := by rw [← hr]; unfold fwdI; rw [Int.toNat_natCast]
  rw [hr2]
  have hwr : Wid r := by
    rw [← hr]
    intro x hx
    obtain ⟨i, hi, rfl⟩ := List.mem_map.1 hx
    have := List.mem_range.1 hi
    (try dsimp only)
    omega
  have hrl : r.length = n := by rw [← hr]; simp
  have HR := Lib.hid hr
  have HWR := Lib.hid hwr
  have HRL := Lib.hid hrl
  have hmk := make_runS n (by omega)
  clear hr hr2 hwr hrl
  go_enter Try.func88, Try.ntmps88
  go_wp2_with fail
  have hbA : Below w.heap.size w (w.alloc (.cells (madeCells #[.int .i64 0] n) 3)) := (Below.refl _ w).alloc (Nat.le_refl _) _
  have hRA : PartS (w.alloc (.cells (madeCells #[.int .i64 0] n) 3)) w.heap.size n (List.replicate n 0) := by
    have h := BlkS.made w n
    exact ⟨_, h, by simp, by simp, by simp⟩
  have HBA := Lib.hid hbA
  have HRA := Lib.hid hRA
  clear hbA hRA hmk
  go_loopw [4, 9] (fun _ i wr => ∃ (k : Nat), i = .int .i64 (k : Int) ∧ k ≤ n ∧ PartS wr w.heap.size n ((List.range k).map (fun k : Nat => (k : Int)) ++ List.replicate (n - k) 0) ∧ Below w.heap.size w wr) (fun _ i _ => n - (intOf i).toNat)
  case atStart => exact ⟨0, rfl, Nat.zero_le _, HRA.out, HBA.out⟩
  case round =>
    obtain ⟨k, rfl, hkn, hP, hb⟩ := hrel
    have HP := Lib.hid hP
    by_cases hlt : k < n
    · have hltI : (k : Int) < (n : Int) := by omega
      have hf := hP.free k
      have hck := hP.cell k (by rw [List.length_append, List.length_map, List.length_range, List.length_replicate]; omega)
      have hst : (List.range (k + 1)).map (fun k : Nat => (k : Int)) = (List.range k).map (fun k : Nat => (k : Int)) ++ [(k : Int)] := by rw [List.range_succ, List.map_append]; rfl
      have HST := Lib.hid hst
      have hlk : ((List.range k).map (fun k : Nat => (k : Int))).length = k := by simp
      have HLK := Lib.hid hlk
      have h1 := HP.out.set k (by rw [List.length_append, hlk, List.length_replicate]; omega) ((k : Int))
      rw [set_mid11 hlk hlt, ← hst] at h1
      have H1 := Lib.hid h1
      clear hst hlk h1 hP
      go_wp2_with fail
      go_roundw
      case rel => exact ⟨k + 1, by go_num, by omega, H1.out, hb.setCell (Nat.le_refl _) _⟩
      case measure => simp [intOf]; omega
    · obtain rfl : k = n := by omega
      have hltI : ¬ (k : Int) < (k : Int) := by omega
      rw [Nat.sub_self, HR.out] at hP
      simp only [List.replicate_zero, List.append_nil] at hP
      have hN := hP.num (base := w.heap.size) (Nat.le_refl _) (by unfold maxLen; omega)
      rw [HRL.out] at hN
      have HN := Lib.hid hN
      clear hN hP
      go_wp2_with fail
      go_ret
      exact ⟨_, rfl, ⟨HN.out, HWR.out⟩, hb⟩
set_option maxRecDepth 100000 in
set_option maxHeartbeats 4000000 in
theorem backward_any {n : Nat} (hn : n ≤ 4) (w : World) : Calls Try.prog 85 #[.int .i64 (n : Int)] w fun e w' => ∃ r, e = .returned r ∧ ResS w.heap.size w' r (bwdI (n : Int)) ∧ Below w.heap.size w w' := by
  obtain ⟨r, hr⟩ : ∃ r, (List.range n).map (fun k : Nat => (n : Int) - 1 - (k : Int)) = r := ⟨_, rfl⟩
  have hr2 : bwdI (n : Int) = r := by rw [← hr]; unfold bwdI; rw [Int.toNat_natCast]
  rw [hr2]
  have hwr : Wid r := by
    rw [← hr]
    intro x hx
    obtain ⟨i, hi, rfl⟩ := List.mem_map.1 hx
    have := List.mem_range.1 hi
    (try dsimp only)
    omega
  have hrl : r.length = n := by rw [← hr]; simp
  have HR := Lib.hid hr
  have HWR := Lib.hid hwr
  have HRL := Lib.hid hrl
  have hmk := make_runS n (by omega)
  clear hr hr2 hwr hrl
  go_enter Try.func85, Try.ntmps85
  go_wp2_with fail
  have hbA : Below w.heap.size w (w.alloc (.cells (madeCells #[.int .i64 0] n) 3)) := (Below.refl _ w).alloc (Nat.le_refl _) _
  have hRA : PartS (w.alloc (.cells (madeCells #[.int .i64 0] n) 3)) w.heap.size n (List.replicate n 0) := by
    have h := BlkS.made w n
    exact ⟨_, h, by simp, by simp, by simp⟩
  have HBA := Lib.hid hbA
  have HRA := Lib.hid hRA
  clear hbA hRA hmk
  go_loopw [4, 9] (fun _ i wr => ∃ (k : Nat), i = .int .i64 (k : Int) ∧ k ≤ n ∧ PartS wr w.heap.size n ((List.range k).map (fun k : Nat => (n : Int) - 1 - (k : Int)) ++ List.replicate (n - k) 0) ∧ Below w.heap.size w wr) (fun _ i _ => n - (intOf i).toNat)
  case atStart => exact ⟨0, rfl, Nat.zero_le _, HRA.out, HBA.out⟩
  case round =>
    obtain ⟨k, rfl, hkn, hP, hb⟩ := hrel
    have HP := Lib.hid hP
    by_cases hlt : k < n
    · have hltI : (k : Int) < (n : Int) := by omega
      have hf := hP.free k
      have hck := hP.cell k (by rw [List.length_append, List.length_map, List.length_range, List.length_replicate]; omega)
      have hst : (List.range (k + 1)).map (fun k : Nat => (n : Int) - 1 - (k : Int)) = (List.range k).map (fun k : Nat => (n : Int) - 1 - (k : Int)) ++ [(n : Int) - 1 - (k : Int)] := by rw [List.range_succ, List.map_append]; rfl
      have HST := Lib.hid hst
      have hlk : ((List.range k).map (fun k : Nat => (n : Int) - 1 - (k : Int))).length = k := by simp
      have HLK := Lib.hid hlk
      have h1 := HP.out.set k (by rw [List.length_append, hlk, List.length_replicate]; omega) ((n : Int) - 1 - (k : Int))
      rw [set_mid11 hlk hlt, ← hst] at h1
      have H1 := Lib.hid h1
      clear hst hlk h1 hP
      go_wp2_with fail
      go_roundw
      case rel => exact ⟨k + 1, by go_num, by omega, H1.out, hb.setCell (Nat.le_refl _) _⟩
      case measure => simp [intOf]; omega
    · obtain rfl : k = n := by omega
      have hltI : ¬ (k : Int) < (k : Int) := by omega
      rw [Nat.sub_self, HR.out] at hP
      simp only [List.replicate_zero, List.append_nil] at hP
      have hN := hP.num (base := w.heap.size) (Nat.le_refl _) (by unfold maxLen; omega)
      rw [HRL.out] at hN
      have HN := Lib.hid hN
      clear hN hP
      go_wp2_with fail
      go_ret
      exact ⟨_, rfl, ⟨HN.out, HWR.out⟩, hb⟩
end
end Go.Proofs.Ytdcggcfgkhlblaa
