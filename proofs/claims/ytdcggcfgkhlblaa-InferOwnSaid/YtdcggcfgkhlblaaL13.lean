/-
  Part 13 of 21: contracts and what they rest on (ORef2).
-/
import Derived.Test.YtdcggcfgkhlblaaL1
import Derived.Test.YtdcggcfgkhlblaaL2
import Derived.Test.YtdcggcfgkhlblaaL3
import Derived.Test.YtdcggcfgkhlblaaL5
import Derived.Test.YtdcggcfgkhlblaaL6
import Derived.Test.YtdcggcfgkhlblaaL10
import Derived.WalkKit
import Derived.Test.YtdcggcfgkhlblaaRows
import Derived.OrdersHeld
import Derived.Deep.RegionHeld
import Derived.BigQuiet
import Derived.Deep.QuietTactic
import Derived.Lib.Hide
import Derived.Lib.Small
import Derived.Lib.Walk
import Derived.Lib.BitFns
import Derived.Maps.AppendAt
import Derived.RangeFuncNested
import Derived.RangeFuncBound
import Derived.RangeFuncCalls
import Derived.RangeFuncLeaves
import Derived.Shelf.Abstract
import Derived.OwnWalkIn
import Derived.TacticsInMore
import Derived.LoopNIn
import Derived.LoopIn
import Derived.RangeFuncBox
import Derived.Deep.RegionHeld3
import Derived.OrdersIn
import Derived.StillTailTactics
import Derived.RangeFuncFrom
import Derived.Laws.EntriesVeiled
import Derived.ProofKit
import Derived.OpenShut
import Derived.JoinedCond
import Derived.Carry
import Derived.Laws.AppendOwnNone
import Derived.Lib.ItoaNum
import Derived.Deep.RegionLaw
import Derived.WalkMore
import Derived.Lib.SmallJoins
import Derived.IntWalk
import Derived.Deep.DeepCutAuto
import Derived.Laws.OwnMore
import Derived.ArgAppend
import Derived.Deep.Slices
import Derived.Laws.CopyOwn
import Derived.Lib.SliceRun
import Derived.SizedLaws
import Derived.Great.BuildSlice
namespace Go.Proofs.Ytdcggcfgkhlblaa
set_option maxRecDepth 100000
section
open Go.RowKit
set_option linter.unusedVariables false
set_option linter.unusedSimpArgs false
theorem perm_all {p : List Int} (h : ∀ i, i < p.length → (0 ≤ p.getD i 0 ∧ p.getD i 0 < p.length) ∧ ∀ k, k < i → p.getD k 0 ≠ p.getD i 0) : permB p p.length = true := by
  have hn : p.Nodup := by
    unfold List.Nodup
    rw [List.pairwise_iff_getElem]
    intro i j hi hj hij
    have h2 := (h j hj).2 i hij
    rwa [getD_elem hi, getD_elem hj] at h2
  have hp := perm_of_all (p := upS p.length) (q := p) hn (fun x hx => by
    obtain ⟨i, hi, rfl⟩ := List.mem_iff_getElem.1 hx
    have h2 := (h i hi).1
    rw [getD_elem hi] at h2
    exact mem_upS.2 h2) (by rw [upS_length]; exact Nat.le_refl _)
  exact is_permB ⟨hn, fun x => by rw [← hp.mem_iff, mem_upS]⟩
theorem perB_range {p : List Int} {i : Nat} (hi : i < p.length) (h : ¬ (0 ≤ p.getD i 0 ∧ p.getD i 0 < p.length)) : perB p = false := by
  unfold perB
  cases hb : permB p p.length with
  | false => simp
  | true =>
    have ip := (permB_is hb).1
    exact absurd ((ip.mem _).1 (by rw [getD_elem hi]; exact List.getElem_mem hi)) h
theorem perB_twice {p : List Int} {i k : Nat} (hi : i < p.length) (hk : k < i) (h : p.getD k 0 = p.getD i 0) : perB p = false := by
  unfold perB
  cases hb : permB p p.length with
  | false => simp
  | true =>
    exact absurd (permB_is hb).1 (not_twice hi (by rw [← h]; exact mem_takeS hk (by omega)))
set_option maxRecDepth 100000 in
set_option maxHeartbeats 40000000 in
theorem attrsR_any (o : Int) {u : Value} {xs : List Int} {a : Option Addr} {ca : Nat} {w : World} (A : ArgS w u xs a ca) (hx : xs.length ≤ 17592186044416) : Calls Try.prog 33 #[.int .i64 o, u] w fun e w' => e = .returned (.bool (attB o xs)) ∧ Below w.heap.size w w' := by
  have HA := Lib.hid A
  obtain rfl := A.is
  obtain ⟨c, hc⟩ : ∃ c, attB o xs = c := ⟨_, rfl⟩
  rw [hc]
  have HC := Lib.hid hc
  obtain ⟨L, hL⟩ : ∃ L, xs.length = L := ⟨_, rfl⟩
  have HL := Lib.hid hL
  rw [hL] at hx ⊢
  clear A hc hL
  go_enter Try.func33, Try.ntmps33
  go_wp2_with fail
  go_loopw [5] (fun i wr => ∃ k : Nat, i = .int .i64 (k : Int) ∧ k ≤ L ∧ (∀ j, j < k → -2147483647 ≤ xs.getD j 0 ∧ xs.getD j 0 ≤ 2147483647) ∧ Below w.heap.size w wr) (fun i _ => L - (intOf i).toNat)
  case atStart => exact ⟨0, rfl, by omega, fun j hj => by omega, Below.refl _ _⟩
  case round =>
    obtain ⟨k, rfl, hk, hall, hb⟩ := hrel
    have HALL := Lib.hid hall
    clear hall
    by_cases hlt : k < L
    · have hltI : (k : Int) < (L : Int) := by omega
      obtain ⟨b1, o1, rfl, cx⟩ := (HA.out.later hb).at (i := k) (by rw [HL.out]; omega)
      obtain ⟨x, hxe⟩ : ∃ x, xs.getD k 0 = x := ⟨_, rfl⟩
      rw [hxe] at cx
      have HXE := Lib.hid hxe
      clear hxe
      by_cases hbd : -2147483647 ≤ x ∧ x ≤ 2147483647
      · have hb1 : ¬ x > 2147483647 := by omega
        have hb2 : ¬ x < -2147483647 := by omega
        have HBD := Lib.hid hbd
        clear hbd
        go_wp2_with fail
        go_roundw
        case rel => exact ⟨k + 1, by go_num, by omega, fun j hj => by
          by_cases e : j = k
          · subst e; rw [HXE.out]; exact HBD.out
          · exact HALL.out j (by omega), hb⟩
        case measure => simp [intOf]; omega
      · obtain rfl : c = false := by
          rw [← HC.out]
          unfold attB
          cases hbb : bndB xs with
          | false => rfl
          | true =>
            have h := List.all_eq_true.1 hbb x (by rw [← HXE.out, List.getD_eq_getElem?_getD, List.getElem?_eq_getElem (by rw [HL.out]; exact hlt)]; exact List.getElem_mem _)
            exact absurd (of_decide_eq_true h) hbd
        by_cases hb1 : x > 2147483647
        · clear hbd
          go_wp2_with fail
          go_ret
          exact ⟨rfl, hb⟩
        · have hb2 : x < -2147483647 := by omega
          clear hbd
          go_wp2_with fail
          go_ret
          exact ⟨rfl, hb⟩
    · obtain rfl : k = L := by omega
      have hltI : ¬ (k : Int) < (k : Int) := by omega
      have hbn : bndB xs = true := by
        unfold bndB
        rw [List.all_eq_true]
        intro x hxm
        obtain ⟨j, hj, he⟩ := List.mem_iff_getElem.1 hxm
        have h := HALL.out j (by rw [← HL.out]; exact hj)
        rw [List.getD_eq_getElem?_getD, List.getElem?_eq_getElem hj] at h
        rw [← he]
        exact decide_eq_true h
      have hc2 : fitO o xs = c := by rw [← HC.out]; unfold attB; rw [hbn]; rfl
      have HC0 := Lib.hid hc2
      clear hbn hc2 hlt
      by_cases hx6 : o = 6
      · subst hx6
        have HC2 := Lib.hid (show oneB 16 xs = c from HC0.out)
        obtain ⟨L, rfl⟩ : ∃ L, L = k := ⟨_, rfl⟩
        by_cases h1 : L = 1
        · subst h1
          obtain ⟨b1, o1, rfl, cx⟩ := (HA.out.later hb).at (i := 0) (by rw [HL.out]; omega)
          obtain ⟨x, hxe⟩ : ∃ x, xs.getD 0 0 = x := ⟨_, rfl⟩
          rw [hxe] at cx
          have HXE := Lib.hid hxe
          clear hxe
          rw [Nat.add_zero] at cx
          have hcc : decide (0 ≤ x ∧ x ≤ 16) = c := by
            rw [← HC2.out]
            unfold oneB
            rw [HL.out, HXE.out]
            simp
          by_cases h0 : 0 ≤ x
          · have h0I : x ≥ 0 := h0
            by_cases hm : x ≤ 16
            · obtain rfl : c = true := by rw [← hcc]; exact decide_eq_true ⟨h0, hm⟩
              clear hcc
              go_wp2_with fail
              go_ret
              exact ⟨rfl, hb⟩
            · obtain rfl : c = false := by rw [← hcc]; exact decide_eq_false (fun h => hm h.2)
              clear hcc
              go_wp2_with fail
              go_ret
              exact ⟨rfl, hb⟩
          · have h0I : ¬ x ≥ 0 := h0
            obtain rfl : c = false := by rw [← hcc]; exact decide_eq_false (fun h => h0 h.1)
            clear hcc
            go_wp2_with fail
            go_ret
            exact ⟨rfl, hb⟩
        · obtain rfl : c = false := by
            rw [← HC2.out]
            show oneB 16 xs = _
            unfold oneB
            rw [HL.out]
            exact decide_eq_false (fun h => h1 h.1)
          have h1I : ((L : Int) == 1) = false := by simp; omega
          go_wp2_with fail
          go_ret
          exact ⟨rfl, hb⟩
      · skip
        by_cases hx9 : o = 9
        · subst hx9
          have HC2 := Lib.hid (show fracB xs = c from HC0.out)
          obtain ⟨L, rfl⟩ : ∃ L, L = k := ⟨_, rfl⟩
          by_cases h2 : L = 2
          · subst h2
            obtain ⟨b1, o1, rfl, cx⟩ := (HA.out.later hb).at (i := 0) (by rw [HL.out]; omega)
            obtain ⟨x, hxe⟩ : ∃ x, xs.getD 0 0 = x := ⟨_, rfl⟩
            rw [hxe] at cx
            have HXE := Lib.hid hxe
            clear hxe
            obtain ⟨b2, o2, he, cy⟩ := (HA.out.later hb).at (i := 1) (by rw [HL.out]; omega)
            simp only [Option.some.injEq, Addr.mk.injEq, and_true] at he
            obtain ⟨rfl, rfl⟩ := he
            obtain ⟨y, hye⟩ : ∃ y, xs.getD 1 0 = y := ⟨_, rfl⟩
            rw [hye] at cy
            have HYE := Lib.hid hye
            clear hye
            rw [Nat.add_zero] at cx
            have bx := HALL.out 0 (by omega)
            have by_ := HALL.out 1 (by omega)
            rw [HXE.out] at bx
            rw [HYE.out] at by_
            obtain ⟨t, ht⟩ : ∃ t, copB x y = t := ⟨_, rfl⟩
            have HCP := Lib.hid ht
            have hcc : (decide (1 ≤ y) && t) = c := by
              rw [← HC2.out, ← ht]
              show _ = fracB xs
              unfold fracB
              rw [HL.out, HXE.out, HYE.out]
              simp
            have lx := World.block_lt_of_cell? _ _ cx
            have MK := Lib.hid (show ∀ X, Below wr.heap.size wr X → X.cell? ⟨b1, o1, none⟩ = some (.int .i64 x) ∧ X.cell? ⟨b1, o1 + 1, none⟩ = some (.int .i64 y) from fun X h => ⟨(h.cell lx).trans cx, (h.cell (World.block_lt_of_cell? _ _ cy)).trans cy⟩)
            have B0 : Below wr.heap.size wr wr.drew := (Below.refl _ _).drew
            clear ht
            by_cases hy1 : 1 ≤ y
            · have hy1I : y ≥ 1 := hy1
              obtain rfl : t = c := by rw [← hcc, decide_eq_true hy1]; rfl
              clear hcc cx cy
              go_wp2_with fail
              refine wp_region_held_drew (S := fun X => X.cell? ⟨b1, o1, none⟩ = some (.int .i64 x) ∧ X.cell? ⟨b1, o1 + 1, none⟩ = some (.int .i64 y)) (by kernel_rfl) (MK.out _ B0) (fun hHeld => ?_)
              obtain ⟨y0, hdrh⟩ : ∃ Y, wr.drew = Y := ⟨_, rfl⟩
              rw [hdrh] at B0 hHeld ⊢
              clear hdrh
              refine todo [0, 1, 2, 3, 4, 5, 6, 7, 8, 9, 10, 11, 12, 13, 14, 15] ?_
              iterate 16
               first
               | (refine todoH (v := ?_) rfl (by kernel_rfl) (fun _ _ _ h => h) (by assumption) (Or.inl ⟨by rfl, ?_⟩) ?_
                  rotate_left
                  · intro w hSw; (try dsimp only at hSw); go_simp; (try with_reducible rfl)
                  try simp only [Act.put, List.getElem_toArray, List.getElem_cons_succ, List.getElem_cons_zero, List.setIfInBounds_toArray, List.set_cons_zero, List.set_cons_succ])
               | (refine todoH (v := undef) rfl (by kernel_rfl) (fun _ _ _ h => h) (by assumption) (Or.inr ⟨by rfl, rfl⟩) ?_
                  try simp only [Act.put, List.getElem_toArray, List.getElem_cons_succ, List.getElem_cons_zero, List.setIfInBounds_toArray, List.set_cons_zero, List.set_cons_succ])
              refine todone ?_
              refine wpAnyH_ready (rs := [16]) (by kernel_rfl) (by simp) ?_
              refine AllReadyH.cons rfl (fun K hK => ?sh_16) AllReadyH.nil
              go_simp
              refine (divisor_any bx.1 bx.2 hy1 by_.2 _).mono ?_
              rintro e y1 ⟨rfl, hy⟩
              have B1 : Below wr.heap.size wr y1 := B0.trans (hy.mono B0.size)
              have Dh1 := hy
              clear hy
              rw [HCP.out]
              go_simp
              refine hK.out _ _ (MK.out _ B1) (fun hHeld2 => ?mh_16)
              clear hK K hHeld
              have hHeld := hHeld2
              clear hHeld2
              try simp only [Act.put, List.getElem_toArray, List.getElem_cons_succ, List.getElem_cons_zero, List.setIfInBounds_toArray, List.set_cons_zero, List.set_cons_succ]
              refine todo [17, 18, 19] ?_
              iterate 3
               first
               | (refine todoH (v := ?_) rfl (by kernel_rfl) (fun _ _ _ h => h) (by assumption) (Or.inl ⟨by rfl, ?_⟩) ?_
                  rotate_left
                  · intro w hSw; (try dsimp only at hSw); go_simp; (try with_reducible rfl)
                  try simp only [Act.put, List.getElem_toArray, List.getElem_cons_succ, List.getElem_cons_zero, List.setIfInBounds_toArray, List.set_cons_zero, List.set_cons_succ])
               | (refine todoH (v := undef) rfl (by kernel_rfl) (fun _ _ _ h => h) (by assumption) (Or.inr ⟨by rfl, rfl⟩) ?_
                  try simp only [Act.put, List.getElem_toArray, List.getElem_cons_succ, List.getElem_cons_zero, List.setIfInBounds_toArray, List.set_cons_zero, List.set_cons_succ])
              refine todone ?_
              refine wpAnyH_done (by kernel_rfl) ?_ _
              (try dsimp only [Straight])
              cases t with
              | true =>
                go_wp2_with fail
                go_ret
                exact ⟨rfl, hb.trans (B1.mono hb.size)⟩
              | false =>
                go_wp2_with fail
                go_ret
                exact ⟨rfl, hb.trans (B1.mono hb.size)⟩
            · have hy1I : decide (y ≥ 1) = false := decide_eq_false hy1
              obtain rfl : c = false := by rw [← hcc, decide_eq_false hy1]; rfl
              clear hcc
              go_wp2_with fail
              refine wp_region_held_drew (S := fun X => X.cell? ⟨b1, o1, none⟩ = some (.int .i64 x) ∧ X.cell? ⟨b1, o1 + 1, none⟩ = some (.int .i64 y)) (by kernel_rfl) (MK.out _ B0) (fun hHeld => ?_)
              refine todo [0, 1, 2, 3, 4, 5, 6, 7, 8, 9, 10, 11, 12, 13, 14, 15, 16, 17, 18, 19] ?_
              iterate 20
               first
               | (refine todoH (v := ?_) rfl (by kernel_rfl) (fun _ _ _ h => h) (by assumption) (Or.inl ⟨by rfl, ?_⟩) ?_
                  rotate_left
                  · intro w hSw; (try dsimp only at hSw); go_simp; (try with_reducible rfl)
                  try simp only [Act.put, List.getElem_toArray, List.getElem_cons_succ, List.getElem_cons_zero, List.setIfInBounds_toArray, List.set_cons_zero, List.set_cons_succ])
               | (refine todoH (v := undef) rfl (by kernel_rfl) (fun _ _ _ h => h) (by assumption) (Or.inr ⟨by rfl, rfl⟩) ?_
                  try simp only [Act.put, List.getElem_toArray, List.getElem_cons_succ, List.getElem_cons_zero, List.setIfInBounds_toArray, List.set_cons_zero, List.set_cons_succ])
              refine todone ?_
              refine wpAnyH_done (by kernel_rfl) ?_ _
              (try dsimp only [Straight])
              go_wp2_with fail
              go_ret
              exact ⟨rfl, hb.trans (B0.mono hb.size)⟩
          · obtain rfl : c = false := by
              rw [← HC2.out]
              show fracB xs = _
              unfold fracB
              rw [HL.out, decide_eq_false (fun h => h2 h.1)]
              rfl
            have h2I : ((L : Int) == 2) = false := by simp; omega
            go_wp2_with fail
            refine wp_region_held_drew (S := fun _ => True) (by kernel_rfl) (trivial) (fun hHeld => ?_)
            refine todo [0, 1, 2, 3, 4, 5, 6, 7, 8, 9, 10, 11, 12, 13, 14, 15, 16, 17, 18, 19] ?_
            iterate 20
             first
             | (refine todoH (v := ?_) rfl (by kernel_rfl) (fun _ _ _ h => h) (by assumption) (Or.inl ⟨by rfl, ?_⟩) ?_
                rotate_left
                · intro w hSw; (try dsimp only at hSw); go_simp; (try with_reducible rfl)
                try simp only [Act.put, List.getElem_toArray, List.getElem_cons_succ, List.getElem_cons_zero, List.setIfInBounds_toArray, List.set_cons_zero, List.set_cons_succ])
             | (refine todoH (v := undef) rfl (by kernel_rfl) (fun _ _ _ h => h) (by assumption) (Or.inr ⟨by rfl, rfl⟩) ?_
                try simp only [Act.put, List.getElem_toArray, List.getElem_cons_succ, List.getElem_cons_zero, List.setIfInBounds_toArray, List.set_cons_zero, List.set_cons_succ])
            refine todone ?_
            refine wpAnyH_done (by kernel_rfl) ?_ _
            (try dsimp only [Straight])
            go_wp2_with fail
            go_ret
            exact ⟨rfl, hb.drew⟩
        · skip
          by_cases hx11 : o = 11
          · subst hx11
            have HC2 := Lib.hid (show perB xs = c from HC0.out)
            obtain ⟨L, rfl⟩ : ∃ L, L = k := ⟨_, rfl⟩
            go_wp2_with fail
            go_loopw [6, 7] (fun i _ wi => ∃ k : Nat, i = .int .i64 (k : Int) ∧ k ≤ L ∧ (∀ i, i < k → (0 ≤ xs.getD i 0 ∧ xs.getD i 0 < L) ∧ ∀ m, m < i → xs.getD m 0 ≠ xs.getD i 0) ∧ Below w.heap.size w wi) (fun i _ _ => L - (intOf i).toNat)
            case atStart => exact ⟨0, rfl, by omega, fun i hi => by omega, hb⟩
            case round =>
              rename World => wi
              obtain ⟨k, rfl, hk, hax, hbi⟩ := hrel
              have HI := Lib.hid hax
              clear hax
              by_cases hlt : k < L
              · have hltI : (k : Int) < (L : Int) := by omega
                obtain ⟨b1, o1, rfl, cx⟩ := (HA.out.later hbi).at (i := k) (by rw [HL.out]; omega)
                obtain ⟨x, hxe⟩ : ∃ x, xs.getD k 0 = x := ⟨_, rfl⟩
                rw [hxe] at cx
                have HXE := Lib.hid hxe
                clear hxe
                by_cases hin : 0 ≤ x ∧ x < (L : Int)
                case neg =>
                  obtain rfl : c = false := by
                    rw [← HC2.out]
                    exact perB_range (i := k) (by rw [HL.out]; exact hlt) (by rw [HXE.out, HL.out]; exact hin)
                  by_cases hneg : x < 0
                  · clear hin
                    go_wp2_with fail
                    go_ret
                    exact ⟨rfl, hbi⟩
                  · have hge : x ≥ (L : Int) := by omega
                    clear hin
                    go_wp2_with fail
                    go_ret
                    exact ⟨rfl, hbi⟩
                case pos =>
                  have hneg : ¬ x < 0 := by omega
                  have hge : ¬ x ≥ (L : Int) := by omega
                  have HX2 := Lib.hid hin
                  clear hin
                  go_wp2_with fail
                  go_loopw [7] (fun i wj => ∃ m : Nat, i = .int .i64 (m : Int) ∧ m ≤ k ∧ (∀ j, j < m → xs.getD j 0 ≠ x) ∧ Below w.heap.size w wj) (fun i _ => k - (intOf i).toNat)
                  case atStart => exact ⟨0, rfl, by omega, fun i hi => by omega, hbi⟩
                  case round =>
                    rename World => wj
                    obtain ⟨m, rfl, hm, hne, hbj⟩ := hrel
                    have HJ := Lib.hid hne
                    clear hne
                    by_cases hmk : m < k
                    · have hmkI : (m : Int) < (k : Int) := by omega
                      have hmL : (m : Int) < (L : Int) := by omega
                      obtain ⟨b3, o3, he3, ck⟩ := (HA.out.later hbj).at (i := k) (by rw [HL.out]; exact hlt)
                      simp only [Option.some.injEq, Addr.mk.injEq, and_true] at he3
                      obtain ⟨rfl, rfl⟩ := he3
                      rw [HXE.out] at ck
                      obtain ⟨b2, o2, he, cy⟩ := (HA.out.later hbj).at (i := m) (by rw [HL.out]; omega)
                      simp only [Option.some.injEq, Addr.mk.injEq, and_true] at he
                      obtain ⟨rfl, rfl⟩ := he
                      obtain ⟨y, hye⟩ : ∃ y, xs.getD m 0 = y := ⟨_, rfl⟩
                      rw [hye] at cy
                      have HYE := Lib.hid hye
                      clear hye
                      by_cases hxy : y = x
                      · subst hxy
                        obtain rfl : c = false := by
                          rw [← HC2.out]
                          exact perB_twice (i := k) (k := m) (by rw [HL.out]; exact hlt) hmk (by rw [HYE.out, HXE.out])
                        go_wp2_with fail
                        refine wp_region_held_drew (S := fun X => X.cell? ⟨b1, o1 + m, none⟩ = some (.int .i64 y) ∧ X.cell? ⟨b1, o1 + k, none⟩ = some (.int .i64 y)) (by kernel_rfl) (⟨cy, ck⟩) (fun hHeld => ?_)
                        refine todo [0, 1, 2, 3, 4, 5, 6, 7, 8] ?_
                        iterate 9
                         first
                         | (refine todoH (v := ?_) rfl (by kernel_rfl) (fun _ _ _ h => h) (by assumption) (Or.inl ⟨by rfl, ?_⟩) ?_
                            rotate_left
                            · intro w hSw; (try dsimp only at hSw); go_simp; (try with_reducible rfl)
                            try simp only [Act.put, List.getElem_toArray, List.getElem_cons_succ, List.getElem_cons_zero, List.setIfInBounds_toArray, List.set_cons_zero, List.set_cons_succ])
                         | (refine todoH (v := undef) rfl (by kernel_rfl) (fun _ _ _ h => h) (by assumption) (Or.inr ⟨by rfl, rfl⟩) ?_
                            try simp only [Act.put, List.getElem_toArray, List.getElem_cons_succ, List.getElem_cons_zero, List.setIfInBounds_toArray, List.set_cons_zero, List.set_cons_succ])
                        refine todone ?_
                        refine wpAnyH_done (by kernel_rfl) ?_ _
                        (try dsimp only [Straight])
                        go_wp2_with fail
                        go_ret
                        exact ⟨rfl, hbj.drew⟩
                      · have hxyI : (y == x) = false := by simp [hxy]
                        have HXY := Lib.hid hxy
                        go_wp2_with fail
                        refine wp_region_held_drew (S := fun X => X.cell? ⟨b1, o1 + m, none⟩ = some (.int .i64 y) ∧ X.cell? ⟨b1, o1 + k, none⟩ = some (.int .i64 x)) (by kernel_rfl) (⟨cy, ck⟩) (fun hHeld => ?_)
                        refine todo [0, 1, 2, 3, 4, 5, 6, 7, 8] ?_
                        iterate 9
                         first
                         | (refine todoH (v := ?_) rfl (by kernel_rfl) (fun _ _ _ h => h) (by assumption) (Or.inl ⟨by rfl, ?_⟩) ?_
                            rotate_left
                            · intro w hSw; (try dsimp only at hSw); go_simp; (try with_reducible rfl)
                            try simp only [Act.put, List.getElem_toArray, List.getElem_cons_succ, List.getElem_cons_zero, List.setIfInBounds_toArray, List.set_cons_zero, List.set_cons_succ])
                         | (refine todoH (v := undef) rfl (by kernel_rfl) (fun _ _ _ h => h) (by assumption) (Or.inr ⟨by rfl, rfl⟩) ?_
                            try simp only [Act.put, List.getElem_toArray, List.getElem_cons_succ, List.getElem_cons_zero, List.setIfInBounds_toArray, List.set_cons_zero, List.set_cons_succ])
                        refine todone ?_
                        refine wpAnyH_done (by kernel_rfl) ?_ _
                        (try dsimp only [Straight])
                        go_wp2_with fail
                        go_roundw
                        case rel =>
                          refine ⟨m + 1, by go_num, by omega, fun j hj => ?_, hbj.drew⟩
                          by_cases hjm : j < m
                          · exact HJ.out j hjm
                          · obtain rfl : j = m := by omega
                            rw [HYE.out]
                            exact HXY.out
                        case measure => simp [intOf]; omega
                    · obtain rfl : m = k := by omega
                      have hmkI : ¬ (m : Int) < (m : Int) := by omega
                      go_wp2_with fail
                      go_roundw
                      case rel =>
                        refine ⟨m + 1, by go_num, by omega, fun i hi => ?_, hbj⟩
                        by_cases hik : i < m
                        · exact HI.out i hik
                        · obtain rfl : i = m := by omega
                          rw [HXE.out]
                          exact ⟨HX2.out, HJ.out⟩
                      case measure => simp [intOf]; omega
              · obtain rfl : k = L := by omega
                have hltI : ¬ (k : Int) < (k : Int) := by omega
                have hp := perm_all (p := xs) (by rw [HL.out]; exact HI.out)
                by_cases h4 : k ≤ 4
                · have h4I : (k : Int) ≤ 4 := by omega
                  obtain rfl : c = true := by
                    rw [← HC2.out]
                    show perB xs = _
                    unfold perB
                    rw [hp, HL.out, decide_eq_true h4]
                    rfl
                  clear hp
                  go_wp2_with fail
                  go_ret
                  exact ⟨rfl, hbi⟩
                · have h4I : ¬ (k : Int) ≤ 4 := by omega
                  obtain rfl : c = false := by
                    rw [← HC2.out]
                    show perB xs = _
                    unfold perB
                    rw [hp, HL.out, decide_eq_false h4]
                    rfl
                  clear hp
                  go_wp2_with fail
                  go_ret
                  exact ⟨rfl, hbi⟩
          · skip
            by_cases hx12 : o = 12
            · subst hx12
              have HC2 := Lib.hid (show shB xs = c from HC0.out)
              obtain ⟨L, rfl⟩ : ∃ L, L = k := ⟨_, rfl⟩
              have hm := mayR6_any (HA.out.later hb)
              rw [HL.out] at hm
              obtain ⟨d, hd⟩ : ∃ d, mayC xs = d := ⟨_, rfl⟩
              rw [hd] at hm
              have HMM := Lib.hid hm
              have HDD := Lib.hid hd
              clear hm hd
              by_cases h0 : d = 0
              · subst h0
                obtain rfl : c = true := by rw [← HC2.out]; exact decide_eq_true HDD.out
                go_wp2_with fail
                refine HMM.out.mono ?_
                rintro e y1 ⟨rfl, rfl⟩
                go_wp2_with fail
                go_ret
                exact ⟨rfl, hb⟩
              · obtain rfl : c = false := by rw [← HC2.out]; exact decide_eq_false (fun h => h0 (by rw [← HDD.out]; exact h))
                have h0I : (d == 0) = false := by simp [h0]
                go_wp2_with fail
                refine HMM.out.mono ?_
                rintro e y1 ⟨rfl, rfl⟩
                go_wp2_with fail
                go_ret
                exact ⟨rfl, hb⟩
            · skip
              by_cases hx13 : o = 13
              · subst hx13
                have HC2 := Lib.hid (show shB xs = c from HC0.out)
                obtain ⟨L, rfl⟩ : ∃ L, L = k := ⟨_, rfl⟩
                have hm := mayR6_any (HA.out.later hb)
                rw [HL.out] at hm
                obtain ⟨d, hd⟩ : ∃ d, mayC xs = d := ⟨_, rfl⟩
                rw [hd] at hm
                have HMM := Lib.hid hm
                have HDD := Lib.hid hd
                clear hm hd
                by_cases h0 : d = 0
                · subst h0
                  obtain rfl : c = true := by rw [← HC2.out]; exact decide_eq_true HDD.out
                  go_wp2_with fail
                  refine HMM.out.mono ?_
                  rintro e y1 ⟨rfl, rfl⟩
                  go_wp2_with fail
                  go_ret
                  exact ⟨rfl, hb⟩
                · obtain rfl : c = false := by rw [← HC2.out]; exact decide_eq_false (fun h => h0 (by rw [← HDD.out]; exact h))
                  have h0I : (d == 0) = false := by simp [h0]
                  go_wp2_with fail
                  refine HMM.out.mono ?_
                  rintro e y1 ⟨rfl, rfl⟩
                  go_wp2_with fail
                  go_ret
                  exact ⟨rfl, hb⟩
              · skip
                by_cases hx14 : o = 14
                · subst hx14
                  have HC2 := Lib.hid (show axesB xs 4 = c from HC0.out)
                  obtain ⟨L, rfl⟩ : ∃ L, L = k := ⟨_, rfl⟩
                  go_wp2_with fail
                  go_loopw [8] (fun i wi => ∃ k : Nat, i = .int .i64 (k : Int) ∧ k ≤ L ∧ (∀ i, i < k → (0 ≤ xs.getD i 0 ∧ xs.getD i 0 < 4) ∧ (0 < i → xs.getD (i - 1) 0 < xs.getD i 0)) ∧ Below w.heap.size w wi) (fun i _ => L - (intOf i).toNat)
                  case atStart => exact ⟨0, rfl, by omega, fun i hi => by omega, hb⟩
                  case round =>
                    rename World => wi
                    obtain ⟨k, rfl, hk, hax, hbi⟩ := hrel
                    have HI := Lib.hid hax
                    clear hax
                    by_cases hlt : k < L
                    · have hltI : (k : Int) < (L : Int) := by omega
                      obtain ⟨b1, o1, rfl, cx⟩ := (HA.out.later hbi).at (i := k) (by rw [HL.out]; omega)
                      obtain ⟨x, hxe⟩ : ∃ x, xs.getD k 0 = x := ⟨_, rfl⟩
                      rw [hxe] at cx
                      have HXE := Lib.hid hxe
                      clear hxe
                      by_cases hneg : x < 0
                      · obtain rfl : c = false := by
                          rw [← HC2.out]
                          show axesB xs 4 = _
                          unfold axesB
                          refine decide_eq_false (fun h => ?_)
                          have h3 := h k (by rw [HL.out]; exact hlt)
                          rw [HXE.out] at h3
                          omega
                        go_wp2_with fail
                        refine wp_region_held_drew (S := fun X => X.cell? ⟨b1, o1 + k, none⟩ = some (.int .i64 x)) (by kernel_rfl) (cx) (fun hHeld => ?_)
                        refine todo [0, 1, 2, 3, 4, 5, 6, 7, 8, 9, 10, 11, 12, 13, 14, 15, 16, 17, 18, 19, 20, 21, 22, 23, 24, 25, 26, 27] ?_
                        iterate 28
                         first
                         | (refine todoH (v := ?_) rfl (by kernel_rfl) (fun _ _ _ h => h) (by assumption) (Or.inl ⟨by rfl, ?_⟩) ?_
                            rotate_left
                            · intro w hSw; (try dsimp only at hSw); go_simp; (try with_reducible rfl)
                            try simp only [Act.put, List.getElem_toArray, List.getElem_cons_succ, List.getElem_cons_zero, List.setIfInBounds_toArray, List.set_cons_zero, List.set_cons_succ])
                         | (refine todoH (v := undef) rfl (by kernel_rfl) (fun _ _ _ h => h) (by assumption) (Or.inr ⟨by rfl, rfl⟩) ?_
                            try simp only [Act.put, List.getElem_toArray, List.getElem_cons_succ, List.getElem_cons_zero, List.setIfInBounds_toArray, List.set_cons_zero, List.set_cons_succ])
                        refine todone ?_
                        refine wpAnyH_done (by kernel_rfl) ?_ _
                        (try dsimp only [Straight])
                        go_wp2_with fail
                        go_ret
                        exact ⟨rfl, hbi.drew⟩
                      · have hnegI : decide (x < 0) = false := decide_eq_false hneg
                        by_cases h3 : x > 3
                        · obtain rfl : c = false := by
                            rw [← HC2.out]
                            show axesB xs 4 = _
                            unfold axesB
                            refine decide_eq_false (fun h => ?_)
                            have h3 := h k (by rw [HL.out]; exact hlt)
                            rw [HXE.out] at h3
                            omega
                          go_wp2_with fail
                          refine wp_region_held_drew (S := fun X => X.cell? ⟨b1, o1 + k, none⟩ = some (.int .i64 x)) (by kernel_rfl) (cx) (fun hHeld => ?_)
                          refine todo [0, 1, 2, 3, 4, 5, 6, 7, 8, 9, 10, 11, 12, 13, 14, 15, 16, 17, 18, 19, 20, 21, 22, 23, 24, 25, 26, 27] ?_
                          iterate 28
                           first
                           | (refine todoH (v := ?_) rfl (by kernel_rfl) (fun _ _ _ h => h) (by assumption) (Or.inl ⟨by rfl, ?_⟩) ?_
                              rotate_left
                              · intro w hSw; (try dsimp only at hSw); go_simp; (try with_reducible rfl)
                              try simp only [Act.put, List.getElem_toArray, List.getElem_cons_succ, List.getElem_cons_zero, List.setIfInBounds_toArray, List.set_cons_zero, List.set_cons_succ])
                           | (refine todoH (v := undef) rfl (by kernel_rfl) (fun _ _ _ h => h) (by assumption) (Or.inr ⟨by rfl, rfl⟩) ?_
                              try simp only [Act.put, List.getElem_toArray, List.getElem_cons_succ, List.getElem_cons_zero, List.setIfInBounds_toArray, List.set_cons_zero, List.set_cons_succ])
                          refine todone ?_
                          refine wpAnyH_done (by kernel_rfl) ?_ _
                          (try dsimp only [Straight])
                          go_wp2_with fail
                          go_ret
                          exact ⟨rfl, hbi.drew⟩
                        · have h3I : decide (x > 3) = false := decide_eq_false h3
                          by_cases hz : k = 0
                          · subst hz
                            rw [Nat.add_zero] at cx
                            have hg : (0 ≤ xs.getD 0 0 ∧ xs.getD 0 0 < 4) ∧ (0 < 0 → xs.getD (0 - 1) 0 < xs.getD 0 0) := by rw [HXE.out]; exact ⟨by omega, fun h => absurd h (by omega)⟩
                            have HG := Lib.hid hg
                            clear hg
                            go_wp2_with fail
                            refine wp_region_held_drew (S := fun X => X.cell? ⟨b1, o1, none⟩ = some (.int .i64 x)) (by kernel_rfl) (cx) (fun hHeld => ?_)
                            refine todo [0, 1, 2, 3, 4, 5, 6, 7, 8, 9, 10, 11, 12, 13, 14, 15, 16, 17, 18, 19, 20, 21, 22, 23, 24, 25, 26, 27] ?_
                            iterate 28
                             first
                             | (refine todoH (v := ?_) rfl (by kernel_rfl) (fun _ _ _ h => h) (by assumption) (Or.inl ⟨by rfl, ?_⟩) ?_
                                rotate_left
                                · intro w hSw; (try dsimp only at hSw); go_simp; (try with_reducible rfl)
                                try simp only [Act.put, List.getElem_toArray, List.getElem_cons_succ, List.getElem_cons_zero, List.setIfInBounds_toArray, List.set_cons_zero, List.set_cons_succ])
                             | (refine todoH (v := undef) rfl (by kernel_rfl) (fun _ _ _ h => h) (by assumption) (Or.inr ⟨by rfl, rfl⟩) ?_
                                try simp only [Act.put, List.getElem_toArray, List.getElem_cons_succ, List.getElem_cons_zero, List.setIfInBounds_toArray, List.set_cons_zero, List.set_cons_succ])
                            refine todone ?_
                            refine wpAnyH_done (by kernel_rfl) ?_ _
                            (try dsimp only [Straight])
                            go_wp2_with fail
                            go_roundw
                            case rel => exact ⟨0 + 1, by go_num, by omega, fun i hi => by
                              by_cases e : i = 0
                              · subst e; exact HG.out
                              · exact HI.out i (by omega), hbi.drew⟩
                            case measure => simp [intOf]; omega
                          · obtain ⟨j, hj⟩ : ∃ j, j + 1 = k := ⟨k - 1, by omega⟩
                            obtain ⟨b2, o2, he, cy⟩ := (HA.out.later hbi).at (i := j) (by rw [HL.out]; omega)
                            simp only [Option.some.injEq, Addr.mk.injEq, and_true] at he
                            obtain ⟨rfl, rfl⟩ := he
                            obtain ⟨y, hye⟩ : ∃ y, xs.getD j 0 = y := ⟨_, rfl⟩
                            rw [hye] at cy
                            have HYE := Lib.hid hye
                            clear hye
                            have HJ := Lib.hid hj
                            have hj0 : (k : Int) > 0 := by omega
                            have hkn : 0 < k := by omega
                            have hj00 : decide ((k : Int) > 0) = true := decide_eq_true hj0
                            have hj1 : (k : Int) - 1 = (j : Int) := by omega
                            have hjL : (j : Int) < (L : Int) := by omega
                            have hjz : (0 : Int) ≤ (j : Int) := by omega
                            have hjw : IntKind.i64.wrap (j : Int) = (j : Int) := IntWalk.i64_in _ (by omega)
                            have hkj : k - 1 = j := by omega
                            have HKJ := Lib.hid hkj
                            clear hj hkj
                            by_cases hle : x ≤ y
                            · obtain rfl : c = false := by
                                rw [← HC2.out]
                                show axesB xs 4 = _
                                unfold axesB
                                refine decide_eq_false (fun h => ?_)
                                have h3 := h k (by rw [HL.out]; exact hlt)
                                rw [HXE.out] at h3
                                have h5 := h3.2 hkn
                                rw [HKJ.out, HYE.out] at h5
                                omega
                              go_wp2_with fail
                              refine wp_region_held_drew (S := fun X => X.cell? ⟨b1, o1 + k, none⟩ = some (.int .i64 x) ∧ X.cell? ⟨b1, o1 + j, none⟩ = some (.int .i64 y)) (by kernel_rfl) (⟨cx, cy⟩) (fun hHeld => ?_)
                              refine todo [0, 1, 2, 3, 4, 5, 6, 7, 8, 9, 10, 11, 12, 13, 14, 15, 16, 17, 18, 19, 20, 21, 22, 23, 24, 25, 26, 27] ?_
                              iterate 28
                               first
                               | (refine todoH (v := ?_) rfl (by kernel_rfl) (fun _ _ _ h => h) (by assumption) (Or.inl ⟨by rfl, ?_⟩) ?_
                                  rotate_left
                                  · intro w hSw; (try dsimp only at hSw); go_simp; (try with_reducible rfl)
                                  try simp only [Act.put, List.getElem_toArray, List.getElem_cons_succ, List.getElem_cons_zero, List.setIfInBounds_toArray, List.set_cons_zero, List.set_cons_succ])
                               | (refine todoH (v := undef) rfl (by kernel_rfl) (fun _ _ _ h => h) (by assumption) (Or.inr ⟨by rfl, rfl⟩) ?_
                                  try simp only [Act.put, List.getElem_toArray, List.getElem_cons_succ, List.getElem_cons_zero, List.setIfInBounds_toArray, List.set_cons_zero, List.set_cons_succ])
                              refine todone ?_
                              refine wpAnyH_done (by kernel_rfl) ?_ _
                              (try dsimp only [Straight])
                              go_wp2_with fail
                              go_ret
                              exact ⟨rfl, hbi.drew⟩
                            · have hleI : decide (x ≤ y) = false := decide_eq_false hle
                              have hg : (0 ≤ xs.getD k 0 ∧ xs.getD k 0 < 4) ∧ (0 < k → xs.getD (k - 1) 0 < xs.getD k 0) := by rw [HXE.out, HKJ.out, HYE.out]; exact ⟨by omega, fun _ => by omega⟩
                              have HG := Lib.hid hg
                              clear hg
                              go_wp2_with fail
                              refine wp_region_held_drew (S := fun X => X.cell? ⟨b1, o1 + k, none⟩ = some (.int .i64 x) ∧ X.cell? ⟨b1, o1 + j, none⟩ = some (.int .i64 y)) (by kernel_rfl) (⟨cx, cy⟩) (fun hHeld => ?_)
                              refine todo [0, 1, 2, 3, 4, 5, 6, 7, 8, 9, 10, 11, 12, 13, 14, 15, 16, 17, 18, 19, 20, 21, 22, 23, 24, 25, 26, 27] ?_
                              iterate 28
                               first
                               | (refine todoH (v := ?_) rfl (by kernel_rfl) (fun _ _ _ h => h) (by assumption) (Or.inl ⟨by rfl, ?_⟩) ?_
                                  rotate_left
                                  · intro w hSw; (try dsimp only at hSw); go_simp; (try with_reducible rfl)
                                  try simp only [Act.put, List.getElem_toArray, List.getElem_cons_succ, List.getElem_cons_zero, List.setIfInBounds_toArray, List.set_cons_zero, List.set_cons_succ])
                               | (refine todoH (v := undef) rfl (by kernel_rfl) (fun _ _ _ h => h) (by assumption) (Or.inr ⟨by rfl, rfl⟩) ?_
                                  try simp only [Act.put, List.getElem_toArray, List.getElem_cons_succ, List.getElem_cons_zero, List.setIfInBounds_toArray, List.set_cons_zero, List.set_cons_succ])
                              refine todone ?_
                              refine wpAnyH_done (by kernel_rfl) ?_ _
                              (try dsimp only [Straight])
                              go_wp2_with fail
                              go_roundw
                              case rel => exact ⟨k + 1, by go_num, by omega, fun i hi => by
                                by_cases e : i = k
                                · subst e; exact HG.out
                                · exact HI.out i (by omega), hbi.drew⟩
                              case measure => simp [intOf]; omega
                    · obtain rfl : k = L := by omega
                      have hltI : ¬ (k : Int) < (k : Int) := by omega
                      obtain rfl : c = true := by
                        rw [← HC2.out]
                        show axesB xs 4 = _
                        unfold axesB
                        exact decide_eq_true (by rw [HL.out]; exact HI.out)
                      go_wp2_with fail
                      go_ret
                      exact ⟨rfl, hbi⟩
                · skip
                  by_cases hx20 : o = 20
                  · subst hx20
                    have HC2 := Lib.hid (show axesB xs 4 = c from HC0.out)
                    obtain ⟨L, rfl⟩ : ∃ L, L = k := ⟨_, rfl⟩
                    go_wp2_with fail
                    go_loopw [8] (fun i wi => ∃ k : Nat, i = .int .i64 (k : Int) ∧ k ≤ L ∧ (∀ i, i < k → (0 ≤ xs.getD i 0 ∧ xs.getD i 0 < 4) ∧ (0 < i → xs.getD (i - 1) 0 < xs.getD i 0)) ∧ Below w.heap.size w wi) (fun i _ => L - (intOf i).toNat)
                    case atStart => exact ⟨0, rfl, by omega, fun i hi => by omega, hb⟩
                    case round =>
                      rename World => wi
                      obtain ⟨k, rfl, hk, hax, hbi⟩ := hrel
                      have HI := Lib.hid hax
                      clear hax
                      by_cases hlt : k < L
                      · have hltI : (k : Int) < (L : Int) := by omega
                        obtain ⟨b1, o1, rfl, cx⟩ := (HA.out.later hbi).at (i := k) (by rw [HL.out]; omega)
                        obtain ⟨x, hxe⟩ : ∃ x, xs.getD k 0 = x := ⟨_, rfl⟩
                        rw [hxe] at cx
                        have HXE := Lib.hid hxe
                        clear hxe
                        by_cases hneg : x < 0
                        · obtain rfl : c = false := by
                            rw [← HC2.out]
                            show axesB xs 4 = _
                            unfold axesB
                            refine decide_eq_false (fun h => ?_)
                            have h3 := h k (by rw [HL.out]; exact hlt)
                            rw [HXE.out] at h3
                            omega
                          go_wp2_with fail
                          refine wp_region_held_drew (S := fun X => X.cell? ⟨b1, o1 + k, none⟩ = some (.int .i64 x)) (by kernel_rfl) (cx) (fun hHeld => ?_)
                          refine todo [0, 1, 2, 3, 4, 5, 6, 7, 8, 9, 10, 11, 12, 13, 14, 15, 16, 17, 18, 19, 20, 21, 22, 23, 24, 25, 26, 27] ?_
                          iterate 28
                           first
                           | (refine todoH (v := ?_) rfl (by kernel_rfl) (fun _ _ _ h => h) (by assumption) (Or.inl ⟨by rfl, ?_⟩) ?_
                              rotate_left
                              · intro w hSw; (try dsimp only at hSw); go_simp; (try with_reducible rfl)
                              try simp only [Act.put, List.getElem_toArray, List.getElem_cons_succ, List.getElem_cons_zero, List.setIfInBounds_toArray, List.set_cons_zero, List.set_cons_succ])
                           | (refine todoH (v := undef) rfl (by kernel_rfl) (fun _ _ _ h => h) (by assumption) (Or.inr ⟨by rfl, rfl⟩) ?_
                              try simp only [Act.put, List.getElem_toArray, List.getElem_cons_succ, List.getElem_cons_zero, List.setIfInBounds_toArray, List.set_cons_zero, List.set_cons_succ])
                          refine todone ?_
                          refine wpAnyH_done (by kernel_rfl) ?_ _
                          (try dsimp only [Straight])
                          go_wp2_with fail
                          go_ret
                          exact ⟨rfl, hbi.drew⟩
                        · have hnegI : decide (x < 0) = false := decide_eq_false hneg
                          by_cases h3 : x > 3
                          · obtain rfl : c = false := by
                              rw [← HC2.out]
                              show axesB xs 4 = _
                              unfold axesB
                              refine decide_eq_false (fun h => ?_)
                              have h3 := h k (by rw [HL.out]; exact hlt)
                              rw [HXE.out] at h3
                              omega
                            go_wp2_with fail
                            refine wp_region_held_drew (S := fun X => X.cell? ⟨b1, o1 + k, none⟩ = some (.int .i64 x)) (by kernel_rfl) (cx) (fun hHeld => ?_)
                            refine todo [0, 1, 2, 3, 4, 5, 6, 7, 8, 9, 10, 11, 12, 13, 14, 15, 16, 17, 18, 19, 20, 21, 22, 23, 24, 25, 26, 27] ?_
                            iterate 28
                             first
                             | (refine todoH (v := ?_) rfl (by kernel_rfl) (fun _ _ _ h => h) (by assumption) (Or.inl ⟨by rfl, ?_⟩) ?_
                                rotate_left
                                · intro w hSw; (try dsimp only at hSw); go_simp; (try with_reducible rfl)
                                try simp only [Act.put, List.getElem_toArray, List.getElem_cons_succ, List.getElem_cons_zero, List.setIfInBounds_toArray, List.set_cons_zero, List.set_cons_succ])
                             | (refine todoH (v := undef) rfl (by kernel_rfl) (fun _ _ _ h => h) (by assumption) (Or.inr ⟨by rfl, rfl⟩) ?_
                                try simp only [Act.put, List.getElem_toArray, List.getElem_cons_succ, List.getElem_cons_zero, List.setIfInBounds_toArray, List.set_cons_zero, List.set_cons_succ])
                            refine todone ?_
                            refine wpAnyH_done (by kernel_rfl) ?_ _
                            (try dsimp only [Straight])
                            go_wp2_with fail
                            go_ret
                            exact ⟨rfl, hbi.drew⟩
                          · have h3I : decide (x > 3) = false := decide_eq_false h3
                            by_cases hz : k = 0
                            · subst hz
                              rw [Nat.add_zero] at cx
                              have hg : (0 ≤ xs.getD 0 0 ∧ xs.getD 0 0 < 4) ∧ (0 < 0 → xs.getD (0 - 1) 0 < xs.getD 0 0) := by rw [HXE.out]; exact ⟨by omega, fun h => absurd h (by omega)⟩
                              have HG := Lib.hid hg
                              clear hg
                              go_wp2_with fail
                              refine wp_region_held_drew (S := fun X => X.cell? ⟨b1, o1, none⟩ = some (.int .i64 x)) (by kernel_rfl) (cx) (fun hHeld => ?_)
                              refine todo [0, 1, 2, 3, 4, 5, 6, 7, 8, 9, 10, 11, 12, 13, 14, 15, 16, 17, 18, 19, 20, 21, 22, 23, 24, 25, 26, 27] ?_
                              iterate 28
                               first
                               | (refine todoH (v := ?_) rfl (by kernel_rfl) (fun _ _ _ h => h) (by assumption) (Or.inl ⟨by rfl, ?_⟩) ?_
                                  rotate_left
                                  · intro w hSw; (try dsimp only at hSw); go_simp; (try with_reducible rfl)
                                  try simp only [Act.put, List.getElem_toArray, List.getElem_cons_succ, List.getElem_cons_zero, List.setIfInBounds_toArray, List.set_cons_zero, List.set_cons_succ])
                               | (refine todoH (v := undef) rfl (by kernel_rfl) (fun _ _ _ h => h) (by assumption) (Or.inr ⟨by rfl, rfl⟩) ?_
                                  try simp only [Act.put, List.getElem_toArray, List.getElem_cons_succ, List.getElem_cons_zero, List.setIfInBounds_toArray, List.set_cons_zero, List.set_cons_succ])
                              refine todone ?_
                              refine wpAnyH_done (by kernel_rfl) ?_ _
                              (try dsimp only [Straight])
                              go_wp2_with fail
                              go_roundw
                              case rel => exact ⟨0 + 1, by go_num, by omega, fun i hi => by
                                by_cases e : i = 0
                                · subst e; exact HG.out
                                · exact HI.out i (by omega), hbi.drew⟩
                              case measure => simp [intOf]; omega
                            · obtain ⟨j, hj⟩ : ∃ j, j + 1 = k := ⟨k - 1, by omega⟩
                              obtain ⟨b2, o2, he, cy⟩ := (HA.out.later hbi).at (i := j) (by rw [HL.out]; omega)
                              simp only [Option.some.injEq, Addr.mk.injEq, and_true] at he
                              obtain ⟨rfl, rfl⟩ := he
                              obtain ⟨y, hye⟩ : ∃ y, xs.getD j 0 = y := ⟨_, rfl⟩
                              rw [hye] at cy
                              have HYE := Lib.hid hye
                              clear hye
                              have HJ := Lib.hid hj
                              have hj0 : (k : Int) > 0 := by omega
                              have hkn : 0 < k := by omega
                              have hj00 : decide ((k : Int) > 0) = true := decide_eq_true hj0
                              have hj1 : (k : Int) - 1 = (j : Int) := by omega
                              have hjL : (j : Int) < (L : Int) := by omega
                              have hjz : (0 : Int) ≤ (j : Int) := by omega
                              have hjw : IntKind.i64.wrap (j : Int) = (j : Int) := IntWalk.i64_in _ (by omega)
                              have hkj : k - 1 = j := by omega
                              have HKJ := Lib.hid hkj
                              clear hj hkj
                              by_cases hle : x ≤ y
                              · obtain rfl : c = false := by
                                  rw [← HC2.out]
                                  show axesB xs 4 = _
                                  unfold axesB
                                  refine decide_eq_false (fun h => ?_)
                                  have h3 := h k (by rw [HL.out]; exact hlt)
                                  rw [HXE.out] at h3
                                  have h5 := h3.2 hkn
                                  rw [HKJ.out, HYE.out] at h5
                                  omega
                                go_wp2_with fail
                                refine wp_region_held_drew (S := fun X => X.cell? ⟨b1, o1 + k, none⟩ = some (.int .i64 x) ∧ X.cell? ⟨b1, o1 + j, none⟩ = some (.int .i64 y)) (by kernel_rfl) (⟨cx, cy⟩) (fun hHeld => ?_)
                                refine todo [0, 1, 2, 3, 4, 5, 6, 7, 8, 9, 10, 11, 12, 13, 14, 15, 16, 17, 18, 19, 20, 21, 22, 23, 24, 25, 26, 27] ?_
                                iterate 28
                                 first
                                 | (refine todoH (v := ?_) rfl (by kernel_rfl) (fun _ _ _ h => h) (by assumption) (Or.inl ⟨by rfl, ?_⟩) ?_
                                    rotate_left
                                    · intro w hSw; (try dsimp only at hSw); go_simp; (try with_reducible rfl)
                                    try simp only [Act.put, List.getElem_toArray, List.getElem_cons_succ, List.getElem_cons_zero, List.setIfInBounds_toArray, List.set_cons_zero, List.set_cons_succ])
                                 | (refine todoH (v := undef) rfl (by kernel_rfl) (fun _ _ _ h => h) (by assumption) (Or.inr ⟨by rfl, rfl⟩) ?_
                                    try simp only [Act.put, List.getElem_toArray, List.getElem_cons_succ, List.getElem_cons_zero, List.setIfInBounds_toArray, List.set_cons_zero, List.set_cons_succ])
                                refine todone ?_
                                refine wpAnyH_done (by kernel_rfl) ?_ _
                                (try dsimp only [Straight])
                                go_wp2_with fail
                                go_ret
                                exact ⟨rfl, hbi.drew⟩
                              · have hleI : decide (x ≤ y) = false := decide_eq_false hle
                                have hg : (0 ≤ xs.getD k 0 ∧ xs.getD k 0 < 4) ∧ (0 < k → xs.getD (k - 1) 0 < xs.getD k 0) := by rw [HXE.out, HKJ.out, HYE.out]; exact ⟨by omega, fun _ => by omega⟩
                                have HG := Lib.hid hg
                                clear hg
                                go_wp2_with fail
                                refine wp_region_held_drew (S := fun X => X.cell? ⟨b1, o1 + k, none⟩ = some (.int .i64 x) ∧ X.cell? ⟨b1, o1 + j, none⟩ = some (.int .i64 y)) (by kernel_rfl) (⟨cx, cy⟩) (fun hHeld => ?_)
                                refine todo [0, 1, 2, 3, 4, 5, 6, 7, 8, 9, 10, 11, 12, 13, 14, 15, 16, 17, 18, 19, 20, 21, 22, 23, 24, 25, 26, 27] ?_
                                iterate 28
                                 first
                                 | (refine todoH (v := ?_) rfl (by kernel_rfl) (fun _ _ _ h => h) (by assumption) (Or.inl ⟨by rfl, ?_⟩) ?_
                                    rotate_left
                                    · intro w hSw; (try dsimp only at hSw); go_simp; (try with_reducible rfl)
                                    try simp only [Act.put, List.getElem_toArray, List.getElem_cons_succ, List.getElem_cons_zero, List.setIfInBounds_toArray, List.set_cons_zero, List.set_cons_succ])
                                 | (refine todoH (v := undef) rfl (by kernel_rfl) (fun _ _ _ h => h) (by assumption) (Or.inr ⟨by rfl, rfl⟩) ?_
                                    try simp only [Act.put, List.getElem_toArray, List.getElem_cons_succ, List.getElem_cons_zero, List.setIfInBounds_toArray, List.set_cons_zero, List.set_cons_succ])
                                refine todone ?_
                                refine wpAnyH_done (by kernel_rfl) ?_ _
                                (try dsimp only [Straight])
                                go_wp2_with fail
                                go_roundw
                                case rel => exact ⟨k + 1, by go_num, by omega, fun i hi => by
                                  by_cases e : i = k
                                  · subst e; exact HG.out
                                  · exact HI.out i (by omega), hbi.drew⟩
                                case measure => simp [intOf]; omega
                      · obtain rfl : k = L := by omega
                        have hltI : ¬ (k : Int) < (k : Int) := by omega
                        obtain rfl : c = true := by
                          rw [← HC2.out]
                          show axesB xs 4 = _
                          unfold axesB
                          exact decide_eq_true (by rw [HL.out]; exact HI.out)
                        go_wp2_with fail
                        go_ret
                        exact ⟨rfl, hbi⟩
                  · skip
                    by_cases hx15 : o = 15
                    · subst hx15
                      have HC2 := Lib.hid (show pairsB slB xs = c from HC0.out)
                      obtain ⟨L, rfl⟩ : ∃ L, L = k := ⟨_, rfl⟩
                      have hrem : (L : Int).tmod 2 = ((L % 2 : Nat) : Int) := by rw [Int.tmod_eq_emod_of_nonneg (by omega)]; omega
                      obtain ⟨d, hd⟩ : ∃ d, L % 2 = d := ⟨_, rfl⟩
                      have hd2 : d < 2 := by omega
                      rw [hd] at hrem
                      by_cases h1 : d = 1
                      · subst h1
                        obtain rfl : c = false := by rw [← HC2.out]; show pairsB slB xs = _; unfold pairsB; rw [HL.out]; exact decide_eq_false (fun h => by omega)
                        clear hd
                        go_wp2_with fail
                        go_ret
                        exact ⟨rfl, hb⟩
                      · obtain rfl : d = 0 := by omega
                        have h1I : (((0 : Nat) : Int) == 1) = false := by decide
                        by_cases h8 : L ≤ 8
                        case neg =>
                          obtain rfl : c = false := by rw [← HC2.out]; show pairsB slB xs = _; unfold pairsB; rw [HL.out]; exact decide_eq_false (fun h => h8 h.2.1)
                          have h8I : (L : Int) > 8 := by omega
                          clear hd
                          go_wp2_with fail
                          go_ret
                          exact ⟨rfl, hb⟩
                        case pos =>
                          have h8I : ¬ (L : Int) > 8 := by omega
                          have HD := Lib.hid hd
                          clear hd
                          go_wp2_with fail
                          clear hrem h8I
                          go_loopw [9] (fun i wi => ∃ k : Nat, i = .int .i64 ((2 * k : Nat) : Int) ∧ 2 * k ≤ L ∧ (∀ j, j < k → slB (xs.getD (2 * j) 0) (xs.getD (2 * j + 1) 0) = true) ∧ Below w.heap.size w wi) (fun i _ => L - (intOf i).toNat)
                          case atStart => exact ⟨0, rfl, by omega, fun j hj => by omega, hb⟩
                          case round =>
                            rename World => wi
                            obtain ⟨k, rfl, hk, hall2, hbi⟩ := hrel
                            have HI := Lib.hid hall2
                            obtain ⟨p, hp⟩ : ∃ p, 2 * k = p := ⟨_, rfl⟩
                            have HP := Lib.hid hp
                            rw [hp] at hk ⊢
                            clear hall2 hp
                            by_cases hlt : p < L
                            · have hltI : (p : Int) < (L : Int) := by omega
                              obtain ⟨s, hs⟩ : ∃ s, p + 1 = s := ⟨_, rfl⟩
                              have hsL : s < L := by have h1 := HD.out; have h2 := HP.out; omega
                              have hsI : (p : Int) + 1 = (s : Int) := by omega
                              have hsLI : (s : Int) < (L : Int) := by omega
                              have hp0 : (0 : Int) ≤ (p : Int) := by omega
                              have hs0 : (0 : Int) ≤ (s : Int) := by omega
                              obtain ⟨b1, o1, rfl, cx⟩ := (HA.out.later hbi).at (i := p) (by rw [HL.out]; omega)
                              obtain ⟨x, hxe⟩ : ∃ x, xs.getD p 0 = x := ⟨_, rfl⟩
                              rw [hxe] at cx
                              have HXE := Lib.hid hxe
                              clear hxe
                              obtain ⟨b2, o2, he, cy⟩ := (HA.out.later hbi).at (i := s) (by rw [HL.out]; omega)
                              simp only [Option.some.injEq, Addr.mk.injEq, and_true] at he
                              obtain ⟨rfl, rfl⟩ := he
                              obtain ⟨y, hye⟩ : ∃ y, xs.getD s 0 = y := ⟨_, rfl⟩
                              rw [hye] at cy
                              have HYE := Lib.hid hye
                              clear hye
                              have HS := Lib.hid hs
                              have wp4 : p ≤ 4096 := by omega
                              have ws : IntKind.i64.wrap (s : Int) = (s : Int) := IntWalk.i64_in _ (by omega)
                              have wp2 : IntKind.i64.wrap ((p : Int) + 2) = (p : Int) + 2 := IntWalk.i64_in _ (by omega)
                              clear hs
                              by_cases hxn : x < 0
                              · obtain rfl : c = false := by
                                  rw [← HC2.out]
                                  show pairsB slB xs = _
                                  unfold pairsB
                                  refine decide_eq_false (fun h => ?_)
                                  have h3 := h.2.2 k (by rw [HL.out]; have h2 := HP.out; omega) (by rw [HL.out]; have h2 := HP.out; have h4 := HS.out; omega)
                                  rw [HP.out, HS.out, HXE.out, HYE.out] at h3
                                  have h5 := of_decide_eq_true h3
                                  omega
                                go_wp2_with fail
                                refine wp_region_held_drew (S := fun X => X.cell? ⟨b1, o1 + p, none⟩ = some (.int .i64 x) ∧ X.cell? ⟨b1, o1 + s, none⟩ = some (.int .i64 y)) (by kernel_rfl) (⟨cx, cy⟩) (fun hHeld => ?_)
                                refine todo [0, 1, 2, 3, 4, 5, 6, 7, 8, 9, 10, 11, 12, 13, 14, 15, 16, 17, 18, 19, 20, 21, 22, 23, 24, 25, 26, 27, 28] ?_
                                iterate 29
                                 first
                                 | (refine todoH (v := ?_) rfl (by kernel_rfl) (fun _ _ _ h => h) (by assumption) (Or.inl ⟨by rfl, ?_⟩) ?_
                                    rotate_left
                                    · intro w hSw; (try dsimp only at hSw); go_simp; (try with_reducible rfl)
                                    try simp only [Act.put, List.getElem_toArray, List.getElem_cons_succ, List.getElem_cons_zero, List.setIfInBounds_toArray, List.set_cons_zero, List.set_cons_succ])
                                 | (refine todoH (v := undef) rfl (by kernel_rfl) (fun _ _ _ h => h) (by assumption) (Or.inr ⟨by rfl, rfl⟩) ?_
                                    try simp only [Act.put, List.getElem_toArray, List.getElem_cons_succ, List.getElem_cons_zero, List.setIfInBounds_toArray, List.set_cons_zero, List.set_cons_succ])
                                refine todone ?_
                                refine wpAnyH_done (by kernel_rfl) ?_ _
                                (try dsimp only [Straight])
                                go_wp2_with fail
                                go_ret
                                exact ⟨rfl, hbi.drew⟩
                              · have hxnI : decide (x < 0) = false := decide_eq_false hxn
                                by_cases hyn : y < 0
                                · obtain rfl : c = false := by
                                    rw [← HC2.out]
                                    show pairsB slB xs = _
                                    unfold pairsB
                                    refine decide_eq_false (fun h => ?_)
                                    have h3 := h.2.2 k (by rw [HL.out]; have h2 := HP.out; omega) (by rw [HL.out]; have h2 := HP.out; have h4 := HS.out; omega)
                                    rw [HP.out, HS.out, HXE.out, HYE.out] at h3
                                    have h5 := of_decide_eq_true h3
                                    omega
                                  go_wp2_with fail
                                  refine wp_region_held_drew (S := fun X => X.cell? ⟨b1, o1 + p, none⟩ = some (.int .i64 x) ∧ X.cell? ⟨b1, o1 + s, none⟩ = some (.int .i64 y)) (by kernel_rfl) (⟨cx, cy⟩) (fun hHeld => ?_)
                                  refine todo [0, 1, 2, 3, 4, 5, 6, 7, 8, 9, 10, 11, 12, 13, 14, 15, 16, 17, 18, 19, 20, 21, 22, 23, 24, 25, 26, 27, 28] ?_
                                  iterate 29
                                   first
                                   | (refine todoH (v := ?_) rfl (by kernel_rfl) (fun _ _ _ h => h) (by assumption) (Or.inl ⟨by rfl, ?_⟩) ?_
                                      rotate_left
                                      · intro w hSw; (try dsimp only at hSw); go_simp; (try with_reducible rfl)
                                      try simp only [Act.put, List.getElem_toArray, List.getElem_cons_succ, List.getElem_cons_zero, List.setIfInBounds_toArray, List.set_cons_zero, List.set_cons_succ])
                                   | (refine todoH (v := undef) rfl (by kernel_rfl) (fun _ _ _ h => h) (by assumption) (Or.inr ⟨by rfl, rfl⟩) ?_
                                      try simp only [Act.put, List.getElem_toArray, List.getElem_cons_succ, List.getElem_cons_zero, List.setIfInBounds_toArray, List.set_cons_zero, List.set_cons_succ])
                                  refine todone ?_
                                  refine wpAnyH_done (by kernel_rfl) ?_ _
                                  (try dsimp only [Straight])
                                  go_wp2_with fail
                                  go_ret
                                  exact ⟨rfl, hbi.drew⟩
                                · have hynI : decide (y < 0) = false := decide_eq_false hyn
                                  by_cases hle : y ≤ x
                                  · obtain rfl : c = false := by
                                      rw [← HC2.out]
                                      show pairsB slB xs = _
                                      unfold pairsB
                                      refine decide_eq_false (fun h => ?_)
                                      have h3 := h.2.2 k (by rw [HL.out]; have h2 := HP.out; omega) (by rw [HL.out]; have h2 := HP.out; have h4 := HS.out; omega)
                                      rw [HP.out, HS.out, HXE.out, HYE.out] at h3
                                      have h5 := of_decide_eq_true h3
                                      omega
                                    go_wp2_with fail
                                    refine wp_region_held_drew (S := fun X => X.cell? ⟨b1, o1 + p, none⟩ = some (.int .i64 x) ∧ X.cell? ⟨b1, o1 + s, none⟩ = some (.int .i64 y)) (by kernel_rfl) (⟨cx, cy⟩) (fun hHeld => ?_)
                                    refine todo [0, 1, 2, 3, 4, 5, 6, 7, 8, 9, 10, 11, 12, 13, 14, 15, 16, 17, 18, 19, 20, 21, 22, 23, 24, 25, 26, 27, 28] ?_
                                    iterate 29
                                     first
                                     | (refine todoH (v := ?_) rfl (by kernel_rfl) (fun _ _ _ h => h) (by assumption) (Or.inl ⟨by rfl, ?_⟩) ?_
                                        rotate_left
                                        · intro w hSw; (try dsimp only at hSw); go_simp; (try with_reducible rfl)
                                        try simp only [Act.put, List.getElem_toArray, List.getElem_cons_succ, List.getElem_cons_zero, List.setIfInBounds_toArray, List.set_cons_zero, List.set_cons_succ])
                                     | (refine todoH (v := undef) rfl (by kernel_rfl) (fun _ _ _ h => h) (by assumption) (Or.inr ⟨by rfl, rfl⟩) ?_
                                        try simp only [Act.put, List.getElem_toArray, List.getElem_cons_succ, List.getElem_cons_zero, List.setIfInBounds_toArray, List.set_cons_zero, List.set_cons_succ])
                                    refine todone ?_
                                    refine wpAnyH_done (by kernel_rfl) ?_ _
                                    (try dsimp only [Straight])
                                    go_wp2_with fail
                                    go_ret
                                    exact ⟨rfl, hbi.drew⟩
                                  · have hleI : decide (y ≤ x) = false := decide_eq_false hle
                                    have hg : slB x y = true := decide_eq_true (by omega)
                                    have HG := Lib.hid hg
                                    clear hg
                                    go_wp2_with fail
                                    refine wp_region_held_drew (S := fun X => X.cell? ⟨b1, o1 + p, none⟩ = some (.int .i64 x) ∧ X.cell? ⟨b1, o1 + s, none⟩ = some (.int .i64 y)) (by kernel_rfl) (⟨cx, cy⟩) (fun hHeld => ?_)
                                    refine todo [0, 1, 2, 3, 4, 5, 6, 7, 8, 9, 10, 11, 12, 13, 14, 15, 16, 17, 18, 19, 20, 21, 22, 23, 24, 25, 26, 27, 28] ?_
                                    iterate 29
                                     first
                                     | (refine todoH (v := ?_) rfl (by kernel_rfl) (fun _ _ _ h => h) (by assumption) (Or.inl ⟨by rfl, ?_⟩) ?_
                                        rotate_left
                                        · intro w hSw; (try dsimp only at hSw); go_simp; (try with_reducible rfl)
                                        try simp only [Act.put, List.getElem_toArray, List.getElem_cons_succ, List.getElem_cons_zero, List.setIfInBounds_toArray, List.set_cons_zero, List.set_cons_succ])
                                     | (refine todoH (v := undef) rfl (by kernel_rfl) (fun _ _ _ h => h) (by assumption) (Or.inr ⟨by rfl, rfl⟩) ?_
                                        try simp only [Act.put, List.getElem_toArray, List.getElem_cons_succ, List.getElem_cons_zero, List.setIfInBounds_toArray, List.set_cons_zero, List.set_cons_succ])
                                    refine todone ?_
                                    refine wpAnyH_done (by kernel_rfl) ?_ _
                                    (try dsimp only [Straight])
                                    go_wp2_with fail
                                    go_roundw
                                    case rel =>
                                      refine ⟨k + 1, by have h2 := HP.out; first | (congr 1; omega) | (refine congrArg (Value.int .i64) ?_; omega), by have h2 := HP.out; have h3 := HS.out; omega, fun j hj => ?_, hbi.drew⟩
                                      by_cases hjk : j < k
                                      · exact HI.out j hjk
                                      · obtain rfl : j = k := by omega
                                        rw [HP.out, HS.out, HXE.out, HYE.out]
                                        exact HG.out
                                    case measure => simp [intOf]; omega
                            · obtain rfl : p = L := by omega
                              have hltI : ¬ (p : Int) < (p : Int) := by omega
                              obtain rfl : c = true := by
                                rw [← HC2.out]
                                show pairsB slB xs = _
                                unfold pairsB
                                exact decide_eq_true ⟨by rw [HL.out]; exact HD.out, by rw [HL.out]; omega, fun j _ hj => HI.out j (by rw [HL.out] at hj; have h2 := HP.out; omega)⟩
                              go_wp2_with fail
                              go_ret
                              exact ⟨rfl, hbi⟩
                    · skip
                      by_cases hx16 : o = 16
                      · subst hx16
                        have HC2 := Lib.hid (show pairsB paB xs = c from HC0.out)
                        obtain ⟨L, rfl⟩ : ∃ L, L = k := ⟨_, rfl⟩
                        have hrem : (L : Int).tmod 2 = ((L % 2 : Nat) : Int) := by rw [Int.tmod_eq_emod_of_nonneg (by omega)]; omega
                        obtain ⟨d, hd⟩ : ∃ d, L % 2 = d := ⟨_, rfl⟩
                        have hd2 : d < 2 := by omega
                        rw [hd] at hrem
                        by_cases h1 : d = 1
                        · subst h1
                          obtain rfl : c = false := by rw [← HC2.out]; show pairsB paB xs = _; unfold pairsB; rw [HL.out]; exact decide_eq_false (fun h => by omega)
                          clear hd
                          go_wp2_with fail
                          go_ret
                          exact ⟨rfl, hb⟩
                        · obtain rfl : d = 0 := by omega
                          have h1I : (((0 : Nat) : Int) == 1) = false := by decide
                          by_cases h8 : L ≤ 8
                          case neg =>
                            obtain rfl : c = false := by rw [← HC2.out]; show pairsB paB xs = _; unfold pairsB; rw [HL.out]; exact decide_eq_false (fun h => h8 h.2.1)
                            have h8I : (L : Int) > 8 := by omega
                            clear hd
                            go_wp2_with fail
                            go_ret
                            exact ⟨rfl, hb⟩
                          case pos =>
                            have h8I : ¬ (L : Int) > 8 := by omega
                            have HD := Lib.hid hd
                            clear hd
                            go_wp2_with fail
                            clear hrem h8I
                            go_loopw [9] (fun i wi => ∃ k : Nat, i = .int .i64 ((2 * k : Nat) : Int) ∧ 2 * k ≤ L ∧ (∀ j, j < k → paB (xs.getD (2 * j) 0) (xs.getD (2 * j + 1) 0) = true) ∧ Below w.heap.size w wi) (fun i _ => L - (intOf i).toNat)
                            case atStart => exact ⟨0, rfl, by omega, fun j hj => by omega, hb⟩
                            case round =>
                              rename World => wi
                              obtain ⟨k, rfl, hk, hall2, hbi⟩ := hrel
                              have HI := Lib.hid hall2
                              obtain ⟨p, hp⟩ : ∃ p, 2 * k = p := ⟨_, rfl⟩
                              have HP := Lib.hid hp
                              rw [hp] at hk ⊢
                              clear hall2 hp
                              by_cases hlt : p < L
                              · have hltI : (p : Int) < (L : Int) := by omega
                                obtain ⟨s, hs⟩ : ∃ s, p + 1 = s := ⟨_, rfl⟩
                                have hsL : s < L := by have h1 := HD.out; have h2 := HP.out; omega
                                have hsI : (p : Int) + 1 = (s : Int) := by omega
                                have hsLI : (s : Int) < (L : Int) := by omega
                                have hp0 : (0 : Int) ≤ (p : Int) := by omega
                                have hs0 : (0 : Int) ≤ (s : Int) := by omega
                                obtain ⟨b1, o1, rfl, cx⟩ := (HA.out.later hbi).at (i := p) (by rw [HL.out]; omega)
                                obtain ⟨x, hxe⟩ : ∃ x, xs.getD p 0 = x := ⟨_, rfl⟩
                                rw [hxe] at cx
                                have HXE := Lib.hid hxe
                                clear hxe
                                obtain ⟨b2, o2, he, cy⟩ := (HA.out.later hbi).at (i := s) (by rw [HL.out]; omega)
                                simp only [Option.some.injEq, Addr.mk.injEq, and_true] at he
                                obtain ⟨rfl, rfl⟩ := he
                                obtain ⟨y, hye⟩ : ∃ y, xs.getD s 0 = y := ⟨_, rfl⟩
                                rw [hye] at cy
                                have HYE := Lib.hid hye
                                clear hye
                                have HS := Lib.hid hs
                                have wp4 : p ≤ 4096 := by omega
                                have ws : IntKind.i64.wrap (s : Int) = (s : Int) := IntWalk.i64_in _ (by omega)
                                have wp2 : IntKind.i64.wrap ((p : Int) + 2) = (p : Int) + 2 := IntWalk.i64_in _ (by omega)
                                clear hs
                                by_cases hxn : x < 0
                                · obtain rfl : c = false := by
                                    rw [← HC2.out]
                                    show pairsB paB xs = _
                                    unfold pairsB
                                    refine decide_eq_false (fun h => ?_)
                                    have h3 := h.2.2 k (by rw [HL.out]; have h2 := HP.out; omega) (by rw [HL.out]; have h2 := HP.out; have h4 := HS.out; omega)
                                    rw [HP.out, HS.out, HXE.out, HYE.out] at h3
                                    have h5 := of_decide_eq_true h3
                                    omega
                                  go_wp2_with fail
                                  refine wp_region_held_drew (S := fun X => X.cell? ⟨b1, o1 + p, none⟩ = some (.int .i64 x) ∧ X.cell? ⟨b1, o1 + s, none⟩ = some (.int .i64 y)) (by kernel_rfl) (⟨cx, cy⟩) (fun hHeld => ?_)
                                  refine todo [0, 1, 2, 3, 4, 5, 6, 7, 8, 9, 10, 11, 12, 13, 14, 15, 16, 17, 18, 19, 20, 21, 22, 23, 24, 25, 26, 27, 28] ?_
                                  iterate 29
                                   first
                                   | (refine todoH (v := ?_) rfl (by kernel_rfl) (fun _ _ _ h => h) (by assumption) (Or.inl ⟨by rfl, ?_⟩) ?_
                                      rotate_left
                                      · intro w hSw; (try dsimp only at hSw); go_simp; (try with_reducible rfl)
                                      try simp only [Act.put, List.getElem_toArray, List.getElem_cons_succ, List.getElem_cons_zero, List.setIfInBounds_toArray, List.set_cons_zero, List.set_cons_succ])
                                   | (refine todoH (v := undef) rfl (by kernel_rfl) (fun _ _ _ h => h) (by assumption) (Or.inr ⟨by rfl, rfl⟩) ?_
                                      try simp only [Act.put, List.getElem_toArray, List.getElem_cons_succ, List.getElem_cons_zero, List.setIfInBounds_toArray, List.set_cons_zero, List.set_cons_succ])
                                  refine todone ?_
                                  refine wpAnyH_done (by kernel_rfl) ?_ _
                                  (try dsimp only [Straight])
                                  go_wp2_with fail
                                  go_ret
                                  exact ⟨rfl, hbi.drew⟩
                                · have hxnI : decide (x < 0) = false := decide_eq_false hxn
                                  by_cases hyn : y < 0
                                  · obtain rfl : c = false := by
                                      rw [← HC2.out]
                                      show pairsB paB xs = _
                                      unfold pairsB
                                      refine decide_eq_false (fun h => ?_)
                                      have h3 := h.2.2 k (by rw [HL.out]; have h2 := HP.out; omega) (by rw [HL.out]; have h2 := HP.out; have h4 := HS.out; omega)
                                      rw [HP.out, HS.out, HXE.out, HYE.out] at h3
                                      have h5 := of_decide_eq_true h3
                                      omega
                                    go_wp2_with fail
                                    refine wp_region_held_drew (S := fun X => X.cell? ⟨b1, o1 + p, none⟩ = some (.int .i64 x) ∧ X.cell? ⟨b1, o1 + s, none⟩ = some (.int .i64 y)) (by kernel_rfl) (⟨cx, cy⟩) (fun hHeld => ?_)
                                    refine todo [0, 1, 2, 3, 4, 5, 6, 7, 8, 9, 10, 11, 12, 13, 14, 15, 16, 17, 18, 19, 20, 21, 22, 23, 24, 25, 26, 27, 28] ?_
                                    iterate 29
                                     first
                                     | (refine todoH (v := ?_) rfl (by kernel_rfl) (fun _ _ _ h => h) (by assumption) (Or.inl ⟨by rfl, ?_⟩) ?_
                                        rotate_left
                                        · intro w hSw; (try dsimp only at hSw); go_simp; (try with_reducible rfl)
                                        try simp only [Act.put, List.getElem_toArray, List.getElem_cons_succ, List.getElem_cons_zero, List.setIfInBounds_toArray, List.set_cons_zero, List.set_cons_succ])
                                     | (refine todoH (v := undef) rfl (by kernel_rfl) (fun _ _ _ h => h) (by assumption) (Or.inr ⟨by rfl, rfl⟩) ?_
                                        try simp only [Act.put, List.getElem_toArray, List.getElem_cons_succ, List.getElem_cons_zero, List.setIfInBounds_toArray, List.set_cons_zero, List.set_cons_succ])
                                    refine todone ?_
                                    refine wpAnyH_done (by kernel_rfl) ?_ _
                                    (try dsimp only [Straight])
                                    go_wp2_with fail
                                    go_ret
                                    exact ⟨rfl, hbi.drew⟩
                                  · have hynI : decide (y < 0) = false := decide_eq_false hyn
                                    have hg : paB x y = true := decide_eq_true (by omega)
                                    have HG := Lib.hid hg
                                    clear hg
                                    go_wp2_with fail
                                    refine wp_region_held_drew (S := fun X => X.cell? ⟨b1, o1 + p, none⟩ = some (.int .i64 x) ∧ X.cell? ⟨b1, o1 + s, none⟩ = some (.int .i64 y)) (by kernel_rfl) (⟨cx, cy⟩) (fun hHeld => ?_)
                                    refine todo [0, 1, 2, 3, 4, 5, 6, 7, 8, 9, 10, 11, 12, 13, 14, 15, 16, 17, 18, 19, 20, 21, 22, 23, 24, 25, 26, 27, 28] ?_
                                    iterate 29
                                     first
                                     | (refine todoH (v := ?_) rfl (by kernel_rfl) (fun _ _ _ h => h) (by assumption) (Or.inl ⟨by rfl, ?_⟩) ?_
                                        rotate_left
                                        · intro w hSw; (try dsimp only at hSw); go_simp; (try with_reducible rfl)
                                        try simp only [Act.put, List.getElem_toArray, List.getElem_cons_succ, List.getElem_cons_zero, List.setIfInBounds_toArray, List.set_cons_zero, List.set_cons_succ])
                                     | (refine todoH (v := undef) rfl (by kernel_rfl) (fun _ _ _ h => h) (by assumption) (Or.inr ⟨by rfl, rfl⟩) ?_
                                        try simp only [Act.put, List.getElem_toArray, List.getElem_cons_succ, List.getElem_cons_zero, List.setIfInBounds_toArray, List.set_cons_zero, List.set_cons_succ])
                                    refine todone ?_
                                    refine wpAnyH_done (by kernel_rfl) ?_ _
                                    (try dsimp only [Straight])
                                    go_wp2_with fail
                                    go_roundw
                                    case rel =>
                                      refine ⟨k + 1, by have h2 := HP.out; first | (congr 1; omega) | (refine congrArg (Value.int .i64) ?_; omega), by have h2 := HP.out; have h3 := HS.out; omega, fun j hj => ?_, hbi.drew⟩
                                      by_cases hjk : j < k
                                      · exact HI.out j hjk
                                      · obtain rfl : j = k := by omega
                                        rw [HP.out, HS.out, HXE.out, HYE.out]
                                        exact HG.out
                                    case measure => simp [intOf]; omega
                              · obtain rfl : p = L := by omega
                                have hltI : ¬ (p : Int) < (p : Int) := by omega
                                obtain rfl : c = true := by
                                  rw [← HC2.out]
                                  show pairsB paB xs = _
                                  unfold pairsB
                                  exact decide_eq_true ⟨by rw [HL.out]; exact HD.out, by rw [HL.out]; omega, fun j _ hj => HI.out j (by rw [HL.out] at hj; have h2 := HP.out; omega)⟩
                                go_wp2_with fail
                                go_ret
                                exact ⟨rfl, hbi⟩
                      · skip
                        by_cases hx17 : o = 17
                        · subst hx17
                          have HC2 := Lib.hid (show oneB 3 xs = c from HC0.out)
                          obtain ⟨L, rfl⟩ : ∃ L, L = k := ⟨_, rfl⟩
                          by_cases h1 : L = 1
                          · subst h1
                            obtain ⟨b1, o1, rfl, cx⟩ := (HA.out.later hb).at (i := 0) (by rw [HL.out]; omega)
                            obtain ⟨x, hxe⟩ : ∃ x, xs.getD 0 0 = x := ⟨_, rfl⟩
                            rw [hxe] at cx
                            have HXE := Lib.hid hxe
                            clear hxe
                            rw [Nat.add_zero] at cx
                            have hcc : decide (0 ≤ x ∧ x ≤ 3) = c := by
                              rw [← HC2.out]
                              unfold oneB
                              rw [HL.out, HXE.out]
                              simp
                            by_cases h0 : 0 ≤ x
                            · have h0I : x ≥ 0 := h0
                              by_cases hm : x ≤ 3
                              · obtain rfl : c = true := by rw [← hcc]; exact decide_eq_true ⟨h0, hm⟩
                                clear hcc
                                go_wp2_with fail
                                go_ret
                                exact ⟨rfl, hb⟩
                              · obtain rfl : c = false := by rw [← hcc]; exact decide_eq_false (fun h => hm h.2)
                                clear hcc
                                go_wp2_with fail
                                go_ret
                                exact ⟨rfl, hb⟩
                            · have h0I : ¬ x ≥ 0 := h0
                              obtain rfl : c = false := by rw [← hcc]; exact decide_eq_false (fun h => h0 h.1)
                              clear hcc
                              go_wp2_with fail
                              go_ret
                              exact ⟨rfl, hb⟩
                          · obtain rfl : c = false := by
                              rw [← HC2.out]
                              show oneB 3 xs = _
                              unfold oneB
                              rw [HL.out]
                              exact decide_eq_false (fun h => h1 h.1)
                            have h1I : ((L : Int) == 1) = false := by simp; omega
                            go_wp2_with fail
                            go_ret
                            exact ⟨rfl, hb⟩
                        · skip
                          have hfo : fitO o xs = noB xs := by
                            unfold fitO
                            rw [if_neg hx6, if_neg hx9, if_neg hx11, if_neg (by omega), if_neg (by omega), if_neg hx15, if_neg hx16, if_neg hx17]
                          have HC2 := Lib.hid (show noB xs = c by rw [← hfo]; exact HC0.out)
                          clear hfo
                          obtain ⟨L, rfl⟩ : ∃ L, L = k := ⟨_, rfl⟩
                          by_cases h0 : L = 0
                          · subst h0
                            obtain rfl : c = true := by rw [← HC2.out]; exact decide_eq_true HL.out
                            go_wp2_with fail
                            go_ret
                            exact ⟨rfl, hb⟩
                          · have h0I : ((L : Int) == 0) = false := by simp; omega
                            obtain rfl : c = false := by rw [← HC2.out]; exact decide_eq_false (by rw [HL.out]; exact h0)
                            go_wp2_with fail
                            go_ret
                            exact ⟨rfl, hb⟩
end
end Go.Proofs.Ytdcggcfgkhlblaa
