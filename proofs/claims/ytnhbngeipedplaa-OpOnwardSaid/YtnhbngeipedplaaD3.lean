/-
  Part 3 of 11: contracts and what they rest on (SRef, OCode2, OCode3, OCode4).
-/
import Derived.Test.YtnhbngeipedplaaD1
import Derived.Test.YtnhbngeipedplaaD2
import Derived.WalkKit
import Derived.Test.YtnhbngeipedplaaRows
import Derived.OrdersHeld
import Derived.Deep.RegionHeld
import Derived.BigQuiet
import Derived.Deep.QuietTactic
import Derived.Lib.Hide
import Derived.Lib.Small
import Derived.Lib.Walk
import Derived.Lib.BitFns
import Derived.Maps.AppendAt
import Derived.RangeFuncNested
import Derived.RangeFuncBound
import Derived.RangeFuncCalls
import Derived.RangeFuncLeaves
import Derived.Shelf.Abstract
import Derived.OwnWalkIn
import Derived.TacticsInMore
import Derived.LoopNIn
import Derived.LoopIn
import Derived.RangeFuncBox
import Derived.Deep.RegionHeld3
import Derived.OrdersIn
import Derived.StillTailTactics
import Derived.RangeFuncFrom
import Derived.Laws.EntriesVeiled
import Derived.ProofKit
import Derived.OpenShut
import Derived.JoinedCond
import Derived.Carry
import Derived.Laws.AppendOwnNone
import Derived.Lib.ItoaNum
import Derived.Deep.RegionLaw
import Derived.WalkMore
import Derived.Lib.SmallJoins
import Derived.IntWalk
import Derived.Deep.DeepCutAuto
import Derived.Laws.OwnMore
import Derived.ArgAppend
import Derived.Deep.Slices
import Derived.Laws.CopyOwn
import Derived.Lib.SliceRun
import Derived.SizedLaws
namespace Go.Proofs.Ytnhbngeipedplaa
set_option maxRecDepth 100000
section
open Go.RowKit
set_option linter.unusedVariables false
set_option linter.unusedSimpArgs false
set_option maxRecDepth 100000 in
set_option maxHeartbeats 2000000 in
theorem mayR6_any {u : Value} {xs : List Int} {ad : Option Addr} {cap : Nat} {w : World} (A : ArgS w u xs ad cap) :
    Calls Try.prog 42 #[u] w fun e w' => e = .returned (.int .i64 (mayC xs)) ∧ w = w' := by
  have HA := Lib.hid A
  obtain rfl := A.is
  obtain ⟨L, hL⟩ : ∃ L, xs.length = L := ⟨_, rfl⟩
  have HL := Lib.hid hL
  obtain ⟨c, hc⟩ : ∃ c, mayC xs = c := ⟨_, rfl⟩
  have HC := Lib.hid hc
  rw [hL, hc]
  clear A hL hc
  by_cases h4 : 4 < L
  · obtain rfl : c = 14 := by rw [← HC.out]; exact mayC_rank (by rw [HL.out]; exact h4)
    have h4I : (4 : Int) < (L : Int) := by omega
    go_enter Try.func42, Try.ntmps42
    go_wp2
    go_ret
    exact ⟨rfl, rfl⟩
  · have h4I : ¬ (4 : Int) < (L : Int) := by omega
    go_enter Try.func42, Try.ntmps42
    go_wp2
    go_loop [3] (fun i => ∃ k : Nat, i = .int .i64 (k : Int) ∧ k ≤ L ∧ posS (xs.take k)) (fun i => L - (intOf i).toNat)
    case atStart => exact ⟨0, rfl, Nat.zero_le _, fun x h => by simp at h⟩
    case round =>
      obtain ⟨k, rfl, hkL, hp⟩ := hrel
      have HP := Lib.hid hp
      clear hp
      by_cases hlt : k < L
      · obtain ⟨b, off, rfl, hc⟩ := HA.out.at (i := k) (by rw [HL.out]; exact hlt)
        have hx : xs[k]? = some (xs.getD k 0) := by rw [List.getD_eq_getElem?_getD, List.getElem?_eq_getElem (by rw [HL.out]; exact hlt)]; rfl
        obtain ⟨x, hxe⟩ : ∃ x, xs.getD k 0 = x := ⟨_, rfl⟩
        rw [hxe] at hc hx
        have HX := Lib.hid hx
        have hltI : (k : Int) < (L : Int) := by omega
        clear hxe hx
        by_cases h1 : x < 1
        · obtain rfl : c = 13 := by
            rw [← HC.out]
            refine mayC_dim (by rw [HL.out]; omega) fun hp => ?_
            have := hp x (List.mem_of_getElem? HX.out)
            omega
          go_wp2
          go_ret
          exact ⟨rfl, rfl⟩
        · go_wp2
          go_round
          case rel =>
            refine ⟨k + 1, by go_num, by omega, fun y hy => ?_⟩
            rw [List.take_add_one, HX.out, Option.toList_some] at hy
            rcases List.mem_append.1 hy with h | h
            · exact HP.out y h
            · rw [List.mem_singleton.1 h]; omega
          case measure => simp [intOf]; omega
      · obtain rfl : k = L := by omega
        have hpos : posS xs := by
          have := HP.out
          rwa [List.take_of_length_le (by rw [HL.out]; exact Nat.le_refl _)] at this
        have hltI : ¬ (k : Int) < (k : Int) := by omega
        have HQ := Lib.hid hpos
        clear hpos
        go_wp2
        go_loop [4, 5] (fun n i => ∃ j : Nat, i = .int .i64 (j : Int) ∧ j ≤ k ∧ n = .int .i64 (prodS (xs.take j)) ∧ prodS (xs.take j) ≤ 1024) (fun _ i => k - (intOf i).toNat)
        case atStart => exact ⟨0, rfl, Nat.zero_le _, rfl, by simp [prodS]⟩
        case round =>
          obtain ⟨j, rfl, hjk, rfl, hn⟩ := hrel
          have hn1 := prodS_pos (HQ.out.take j)
          obtain ⟨n, hne⟩ : ∃ n, prodS (xs.take j) = n := ⟨_, rfl⟩
          rw [hne] at hn hn1 ⊢
          by_cases hjl : j < k
          · obtain ⟨b, off, rfl, hc⟩ := HA.out.at (i := j) (by rw [HL.out]; exact hjl)
            have hx1 := HQ.out.getD (i := j) (by rw [HL.out]; exact hjl)
            have hst := prodS_take (s := xs) (k := j) (by rw [HL.out]; exact hjl)
            have hle := getD_le_prod HQ.out (k := j) (by rw [HL.out]; exact hjl)
            have hle2 := prodS_take_le HQ.out (j + 1)
            obtain ⟨x, hxe⟩ : ∃ x, xs.getD j 0 = x := ⟨_, rfl⟩
            rw [hxe] at hc hx1 hst hle
            rw [hne] at hst
            rw [hst] at hle2
            have HST := Lib.hid hst
            have HLE := Lib.hid hle
            have HLE2 := Lib.hid hle2
            have hjI : (j : Int) < (k : Int) := by omega
            clear hxe hne hst hle hle2
            by_cases hbig : 1024 < x
            · obtain rfl : c = 14 := by
                rw [← HC.out]
                exact mayC_count (by rw [HL.out]; omega) HQ.out (by have := HLE.out; omega)
              go_wp2
              go_ret
              exact ⟨rfl, rfl⟩
            · have hm0 : 0 ≤ n * x := Int.mul_nonneg (by omega) (by omega)
              have hm1 : n * x ≤ 1024 * 1024 := Int.mul_le_mul (by omega) (by omega) (by omega) (by omega)
              have hw : IntKind.i64.wrap (n * x) = n * x := IntWalk.i64_in _ (by omega)
              obtain ⟨m, hm⟩ : ∃ m, n * x = m := ⟨_, rfl⟩
              rw [hm] at hm0 hm1 hw
              have HM := Lib.hid hm
              by_cases hbig2 : 1024 < m
              · obtain rfl : c = 14 := by
                  rw [← HC.out]
                  exact mayC_count (by rw [HL.out]; omega) HQ.out (by have := HLE2.out; have := HM.out; omega)
                go_wp2
                go_ret
                exact ⟨rfl, rfl⟩
              · go_wp2
                go_round
                case rel => exact ⟨j + 1, by go_num, by omega, by rw [HST.out, HM.out], by rw [HST.out, HM.out]; omega⟩
                case measure => simp [intOf]; omega
          · obtain rfl : j = k := by omega
            obtain rfl : c = 0 := by
              rw [← HC.out]
              refine mayC_ok ⟨by rw [HL.out]; omega, HQ.out, ?_⟩
              rw [List.take_of_length_le (by rw [HL.out]; exact Nat.le_refl _)] at hne
              rw [hne]
              exact hn
            have hjI : ¬ (j : Int) < (j : Int) := by omega
            clear hne
            go_wp2
            go_ret
            exact ⟨rfl, rfl⟩
end
section
open Go.RowKit
set_option linter.unusedVariables false
set_option linter.unusedSimpArgs false
theorem below_drewN11 {B : Nat} {a w : World} (h : Below B a w) (n : Nat) : Below B a (w.drewN n) := ⟨h.os, h.tape, h.output, h.size, h.block⟩
set_option maxRecDepth 100000 in
set_option maxHeartbeats 4000000 in
theorem isNone_any {u : Value} {xs : List Int} {a : Option Addr} {ca : Nat} {w : World} (A : ArgS w u xs a ca) (hx : xs.length ≤ 17592186044416) : Calls Try.prog 43 #[u] w fun e w' => e = .returned (.bool (noB xs)) ∧ Below w.heap.size w w' := by
  obtain rfl := A.is
  obtain ⟨c, hc⟩ : ∃ c, noB xs = c := ⟨_, rfl⟩
  rw [hc]
  by_cases h0 : xs.length = 0
  · obtain rfl : c = true := by rw [← hc]; exact decide_eq_true h0
    have h0I : (xs.length : Int) = 0 := by omega
    clear hc
    go_enter Try.func43, Try.ntmps43
    go_wp2_with fail
    go_ret
    exact ⟨rfl, Below.refl _ _⟩
  · obtain rfl : c = false := by rw [← hc]; exact decide_eq_false h0
    have h0I : ((xs.length : Int) == 0) = false := by simp; exact fun h => h0 (by rw [h]; rfl)
    clear hc
    go_enter Try.func43, Try.ntmps43
    go_wp2_with fail
    go_ret
    exact ⟨rfl, Below.refl _ _⟩
set_option maxRecDepth 100000 in
set_option maxHeartbeats 4000000 in
theorem oneUpTo_any (m : Int) (w : World) : Calls Try.prog 44 #[.int .i64 m] w fun e w' => e = .returned (.func (.func 57) #[] #[.pointer (some ⟨w.heap.size, 0, none⟩)]) ∧ w' = w.alloc (.cells #[.int .i64 0, .int .i64 m] 48) := by
  go_enter Try.func44, Try.ntmps44
  go_wp2_with fail
  go_ret
  simp
set_option maxRecDepth 100000 in
set_option maxHeartbeats 4000000 in
theorem oneUpTo1_any {u : Value} {xs : List Int} {a : Option Addr} {ca : Nat} {w : World} (A : ArgS w u xs a ca) (hx : xs.length ≤ 17592186044416) {g : Nat} {m : Int} (R : Row w g 48 #[.int .i64 0, .int .i64 m]) : Calls Try.prog 57 #[u, .pointer (some ⟨g, 0, none⟩)] w fun e w' => e = .returned (.bool (oneB m xs)) ∧ Below w.heap.size w w' := by
  have HA := Lib.hid A
  obtain rfl := A.is
  obtain ⟨c, hc⟩ : ∃ c, oneB m xs = c := ⟨_, rfl⟩
  rw [hc]
  obtain ⟨L, hL⟩ : ∃ L, xs.length = L := ⟨_, rfl⟩
  rw [hL] at hx ⊢
  by_cases h0 : L = 1
  · subst h0
    obtain ⟨b, o, rfl, hcell⟩ := HA.out.at (i := 0) (by omega)
    obtain ⟨x, hxe⟩ : ∃ x, xs.getD 0 0 = x := ⟨_, rfl⟩
    rw [hxe] at hcell
    obtain rfl : hasB 0 m x = c := by rw [← hc, ← hxe]; unfold oneB hasB; rw [hL]; simp
    have l1 := World.block_lt_of_cell? _ _ hcell
    have MK := Lib.hid (show ∀ X, Below w.heap.size w X → X.cell? ⟨g, 0, none⟩ = some (.int .i64 0) ∧ X.cell? ⟨g, 1, none⟩ = some (.int .i64 m) ∧ X.cell? ⟨b, o, none⟩ = some (.int .i64 x) from fun X h => by
      obtain ⟨g0, g1, _⟩ := (R.later h).two
      exact ⟨g0, g1, (h.cell l1).trans hcell⟩)
    have B0 : Below w.heap.size w w.drew := (Below.refl _ _).drew
    clear hc hL hxe hcell l1 R
    go_enter Try.func57, Try.ntmps57
    go_wp2_with fail
    refine wp_region_held_drew (S := fun X => X.cell? ⟨g, 0, none⟩ = some (.int .i64 0) ∧ X.cell? ⟨g, 1, none⟩ = some (.int .i64 m) ∧ X.cell? ⟨b, o, none⟩ = some (.int .i64 x)) (by kernel_rfl) (MK.out _ B0) (fun hHeld => ?_)
    obtain ⟨y0, hdrh⟩ : ∃ Y, w.drew = Y := ⟨_, rfl⟩
    rw [hdrh] at B0 hHeld ⊢
    clear hdrh
    refine todo [0, 1, 2, 3, 4, 5, 6, 7] ?_
    iterate 8
     first
     | (refine todoH (v := ?_) rfl (by kernel_rfl) (fun _ _ _ h => h) (by assumption) (Or.inl ⟨by rfl, ?_⟩) ?_
        rotate_left
        · intro w hSw; (try dsimp only at hSw); go_simp; (try with_reducible rfl)
        try simp only [Act.put, List.getElem_toArray, List.getElem_cons_succ, List.getElem_cons_zero, List.setIfInBounds_toArray, List.set_cons_zero, List.set_cons_succ])
     | (refine todoH (v := undef) rfl (by kernel_rfl) (fun _ _ _ h => h) (by assumption) (Or.inr ⟨by rfl, rfl⟩) ?_
        try simp only [Act.put, List.getElem_toArray, List.getElem_cons_succ, List.getElem_cons_zero, List.setIfInBounds_toArray, List.set_cons_zero, List.set_cons_succ])
    refine todone ?_
    refine wpAnyH_ready (rs := [8]) (by kernel_rfl) (by simp) ?_
    refine AllReadyH.cons rfl (fun K hK => ?sh_8) AllReadyH.nil
    go_simp
    refine (has_any 0 m x _).mono ?_
    rintro e y1 ⟨rfl, hy⟩
    have B1 : Below w.heap.size w y1 := B0.trans (hy.mono B0.size)
    have Dh1 := hy
    clear hy
    go_simp
    refine hK.out _ _ (MK.out _ B1) (fun hHeld2 => ?mh_8)
    clear hK K hHeld
    have hHeld := hHeld2
    clear hHeld2
    try simp only [Act.put, List.getElem_toArray, List.getElem_cons_succ, List.getElem_cons_zero, List.setIfInBounds_toArray, List.set_cons_zero, List.set_cons_succ]
    refine todo [9, 10] ?_
    iterate 2
     first
     | (refine todoH (v := ?_) rfl (by kernel_rfl) (fun _ _ _ h => h) (by assumption) (Or.inl ⟨by rfl, ?_⟩) ?_
        rotate_left
        · intro w hSw; (try dsimp only at hSw); go_simp; (try with_reducible rfl)
        try simp only [Act.put, List.getElem_toArray, List.getElem_cons_succ, List.getElem_cons_zero, List.setIfInBounds_toArray, List.set_cons_zero, List.set_cons_succ])
     | (refine todoH (v := undef) rfl (by kernel_rfl) (fun _ _ _ h => h) (by assumption) (Or.inr ⟨by rfl, rfl⟩) ?_
        try simp only [Act.put, List.getElem_toArray, List.getElem_cons_succ, List.getElem_cons_zero, List.setIfInBounds_toArray, List.set_cons_zero, List.set_cons_succ])
    refine todone ?_
    refine wpAnyH_done (by kernel_rfl) ?_ _
    (try dsimp only [Straight])
    go_wp2_with fail
    go_ret
    exact ⟨rfl, B1⟩
  · obtain rfl : c = false := by rw [← hc]; unfold oneB; exact decide_eq_false (by rw [hL]; exact fun h => h0 h.1)
    have h0I : ((L : Int) == 1) = false := by simp; omega
    have B0 : Below w.heap.size w w.drew := (Below.refl _ _).drew
    clear hc hL R
    go_enter Try.func57, Try.ntmps57
    go_wp2_with fail
    refine wp_region_held_drew (S := fun _ => True) (by kernel_rfl) trivial (fun hHeld => ?_)
    refine todo [0, 1, 2, 3, 4, 5, 6, 7, 8, 9, 10] ?_
    iterate 11
     first
     | (refine todoH (v := ?_) rfl (by kernel_rfl) (fun _ _ _ h => h) (by assumption) (Or.inl ⟨by rfl, ?_⟩) ?_
        rotate_left
        · intro w hSw; (try dsimp only at hSw); go_simp; (try with_reducible rfl)
        try simp only [Act.put, List.getElem_toArray, List.getElem_cons_succ, List.getElem_cons_zero, List.setIfInBounds_toArray, List.set_cons_zero, List.set_cons_succ])
     | (refine todoH (v := undef) rfl (by kernel_rfl) (fun _ _ _ h => h) (by assumption) (Or.inr ⟨by rfl, rfl⟩) ?_
        try simp only [Act.put, List.getElem_toArray, List.getElem_cons_succ, List.getElem_cons_zero, List.setIfInBounds_toArray, List.set_cons_zero, List.set_cons_succ])
    refine todone ?_
    refine wpAnyH_done (by kernel_rfl) ?_ _
    (try dsimp only [Straight])
    go_wp2_with fail
    go_ret
    exact ⟨rfl, B0⟩
set_option maxRecDepth 100000 in
set_option maxHeartbeats 4000000 in
theorem always_any (m : Int) (w : World) : Calls Try.prog 45 #[.int .i64 m] w fun e w' => e = .returned (.func (.func 58) #[] #[.pointer (some ⟨w.heap.size, 0, none⟩)]) ∧ w' = w.alloc (.cells #[.int .i64 m] 3) := by
  go_enter Try.func45, Try.ntmps45
  go_wp2_with fail
  go_ret
  simp
set_option maxRecDepth 100000 in
set_option maxHeartbeats 4000000 in
theorem always1_any {g : Nat} {m r : Int} {w : World} (h0 : -9223372036854775808 ≤ m) (h1 : m ≤ 9223372036854775807) (R : Row w g 3 #[.int .i64 m]) : Calls Try.prog 58 #[.int .i64 r, .pointer (some ⟨g, 0, none⟩)] w fun e w' => ∃ v, e = .returned v ∧ ResS w.heap.size w' v [m] ∧ Below w.heap.size w w' := by
  have c0 := R.cell 0
  go_enter Try.func58, Try.ntmps58
  go_wp2_with fail
  go_ret
  refine ⟨_, rfl, ⟨⟨rfl, .inr ⟨w.heap.size, 1, #[.int .i64 m], rfl, Nat.le_refl _, heap_alloc_new w _, Nat.le_refl _, by unfold maxLen; omega, by simp, by simp⟩⟩, Wid.one ⟨h0, h1⟩⟩, (Below.refl _ _).alloc (Nat.le_refl _) _⟩
set_option maxRecDepth 100000 in
set_option maxHeartbeats 4000000 in
theorem coprime_any {p q : Int} (hp0 : -2147483647 ≤ p) (hp1 : p ≤ 2147483647) (hq0 : -2147483647 ≤ q) (hq1 : q ≤ 2147483647) (w : World) : Calls Try.prog 59 #[.int .i64 p, .int .i64 q] w fun e w' => e = .returned (.bool (copB p q)) ∧ Below w.heap.size w w' := by
  obtain ⟨c, hc⟩ : ∃ c, copB p q = c := ⟨_, rfl⟩
  rw [hc]
  have HC := Lib.hid hc
  clear hc
  go_enter Try.func59, Try.ntmps59
  go_wp2
  go_loopw [0, 1] (fun a b wr => ∃ P Q : Int, a = .int .i64 P ∧ b = .int .i64 Q ∧ -2147483647 ≤ P ∧ P ≤ 2147483647 ∧ -2147483647 ≤ Q ∧ Q ≤ 2147483647 ∧ Int.gcd P Q = Int.gcd p q ∧ Below w.heap.size w wr) (fun _ b _ => (intOf b).natAbs)
  case atStart => exact ⟨p, q, rfl, rfl, hp0, hp1, hq0, hq1, rfl, Below.refl _ _⟩
  case round =>
    obtain ⟨P, Q, rfl, rfl, a0, a1, b0, b1, hg, hb⟩ := hrel
    have HG := Lib.hid hg
    clear hg
    by_cases hQ : Q = 0
    · subst hQ
      have hgP : Int.gcd p q = P.natAbs := by rw [← HG.out]; simp
      by_cases h1 : P = 1
      · subst h1
        obtain rfl : c = true := by rw [← HC.out]; unfold copB; rw [hgP]; rfl
        clear hgP
        go_wp2_with fail
        go_ret
        exact ⟨rfl, hb⟩
      · have h1I : (P == 1) = false := by simp [h1]
        by_cases h2 : P = -1
        · subst h2
          obtain rfl : c = true := by rw [← HC.out]; unfold copB; rw [hgP]; rfl
          clear hgP
          go_wp2_with fail
          go_ret
          exact ⟨rfl, hb⟩
        · have h2I : (P == -1) = false := by simp [h2]
          obtain rfl : c = false := by rw [← HC.out]; unfold copB; rw [hgP]; exact decide_eq_false (by omega)
          clear hgP
          go_wp2_with fail
          go_ret
          exact ⟨rfl, hb⟩
    · have hQI : (Q != 0) = true := by simp [hQ]
      have hlt : (P.tmod Q).natAbs < Q.natAbs := by
        have h := Int.tmod_lt_of_pos (a := P) (b := (Q.natAbs : Int)) (by omega)
        rw [Int.natAbs_tmod]
        exact Nat.mod_lt _ (by omega)
      have hgc : Int.gcd Q (P.tmod Q) = Int.gcd p q := by
        rw [← HG.out, Int.gcd_comm P Q]
        unfold Int.gcd
        rw [Int.natAbs_tmod, Nat.gcd_comm Q.natAbs, ← Nat.gcd_rec, Nat.gcd_comm]
      have hw : IntKind.i64.wrap (P.tmod Q) = P.tmod Q := IntWalk.i64_in _ (by omega)
      have HGC := Lib.hid hgc
      have HLT := Lib.hid hlt
      clear hgc hlt
      go_wp2_with fail
      go_quiet (fail)
      go_wp2
      go_roundw
      case rel => exact ⟨Q, P.tmod Q, by first | rfl | (rw [hw]), rfl, b0, b1, by have := HLT.out; omega, by have := HLT.out; omega, HGC.out, below_drewN11 hb nq⟩
      case measure => simp [intOf]; have h := HLT.out; rw [Int.natAbs_tmod] at h; exact h
end
section
open Go.RowKit
set_option linter.unusedVariables false
set_option linter.unusedSimpArgs false
set_option maxRecDepth 100000 in
set_option maxHeartbeats 4000000 in
theorem axesL_any {u : Value} {l : List Int} {a : Option Addr} {ca : Nat} {w : World} (rank : Int) (A : ArgS w u l a ca) (ha : a = none → ca = 0) (hx : l.length ≤ 17592186044416) (h0 : -9223372036854775808 ≤ rank) (h1 : rank ≤ 9223372036854775807) :
    Calls Try.prog 62 #[u, .int .i64 rank] w fun e w' => e = .returned (.int .i64 (axesC l rank)) ∧ Below w.heap.size w w' := by
  refine Calls.mono (R := fun e w' => e = .returned (.int .i64 (axesC l rank)) ∧ w = w') ?_ (fun _ _ ⟨h1, h2⟩ => ⟨h1, h2 ▸ Below.refl _ _⟩)
  have HA := Lib.hid A
  obtain rfl := A.is
  obtain ⟨c, hc⟩ : ∃ c, axesC l rank = c := ⟨_, rfl⟩
  obtain ⟨L, hL⟩ : ∃ L, l.length = L := ⟨_, rfl⟩
  rw [hL] at hx
  rw [hc, hL]
  have HC := Lib.hid hc
  have HL := Lib.hid hL
  clear A ha hc hL
  go_enter Try.func62, Try.ntmps62
  go_wp2
  go_loop [5, 7, 10] (fun p _ i => ∃ (k : Nat), i = .int .i64 (k : Int) ∧ p = .int .i64 (lastS l k) ∧ k ≤ L ∧ axU l rank k) (fun _ _ i => L - (intOf i).toNat)
  case atStart => exact ⟨0, rfl, rfl, Nat.zero_le _, fun i hi => by omega⟩
  case round =>
    obtain ⟨k, rfl, rfl, hk, hax⟩ := hrel
    have HX := Lib.hid hax
    obtain ⟨p, hp⟩ : ∃ p, lastS l k = p := ⟨_, rfl⟩
    have HP := Lib.hid hp
    rw [hp]
    clear hax hp
    by_cases hlt : k < L
    · obtain ⟨b1, o1, rfl, c1⟩ := HA.out.at (i := k) (by rw [HL.out]; exact hlt)
      obtain ⟨x, hxe⟩ : ∃ x, l.getD k 0 = x := ⟨_, rfl⟩
      rw [hxe] at c1
      have HXE := Lib.hid hxe
      have hbw := below_any x rank w
      have hltI : (k : Int) < (L : Int) := by omega
      clear hxe
      by_cases hg : 0 ≤ x ∧ x < rank ∧ p < x
      · obtain ⟨g0, g1, g2⟩ := hg
        rw [belowB_yes g0 g1] at hbw
        have g3 : ¬ x ≤ p := by omega
        have hn : axU l rank (k + 1) := HX.out.next (by rw [HXE.out, HP.out]; exact g2) (by rw [HXE.out]; exact g0) (by rw [HXE.out]; exact g1)
        have HN := Lib.hid hn
        clear hn
        go_wp2_with (go_at_call 67; refine hbw.mono ?_; rintro e w1 ⟨rfl, rfl⟩)
        go_round
        case rel => exact ⟨k + 1, by go_num, congrArg (Value.int .i64) HXE.out.symm, by omega, HN.out⟩
        case measure => simp [intOf]; omega
      · have hno : axesC l rank = 11 := by
          unfold axesC
          rw [if_neg]
          intro h
          unfold axesB at h
          have h2 := of_decide_eq_true h
          have := axU.not (k := k) (by rw [HL.out]; exact hlt) h2
          rw [HXE.out, HP.out] at this
          exact hg ⟨this.1.1, this.1.2, this.2⟩
        obtain rfl : c = 11 := by rw [← HC.out]; exact hno
        clear hno
        by_cases g3 : x ≤ p
        · clear hg
          go_wp2_with (go_at_call 67; refine hbw.mono ?_; rintro e w1 ⟨rfl, rfl⟩)
          go_ret
          exact ⟨rfl, rfl⟩
        · rw [belowB_no (by omega)] at hbw
          clear hg
          go_wp2_with (go_at_call 67; refine hbw.mono ?_; rintro e w1 ⟨rfl, rfl⟩)
          go_ret
          exact ⟨rfl, rfl⟩
    · obtain rfl : k = L := by omega
      have hyes : axesC l rank = 0 := by
        unfold axesC
        rw [if_pos]
        unfold axesB
        refine decide_eq_true ?_
        rw [HL.out]
        exact HX.out
      obtain rfl : c = 0 := by rw [← HC.out]; exact hyes
      have hltI : ¬ (k : Int) < (k : Int) := by omega
      clear hyes
      go_wp2
      go_ret
      exact ⟨rfl, rfl⟩
set_option maxRecDepth 100000 in
set_option maxHeartbeats 4000000 in
theorem isFraction_any {u : Value} {xs : List Int} {a : Option Addr} {ca : Nat} {w : World} (A : ArgS w u xs a ca) (hx : xs.length ≤ 17592186044416) (hbd : ∀ x ∈ xs, -2147483647 ≤ x ∧ x ≤ 2147483647) : Calls Try.prog 46 #[u] w fun e w' => e = .returned (.bool (fracB xs)) ∧ Below w.heap.size w w' := by
  have HA := Lib.hid A
  obtain rfl := A.is
  obtain ⟨c, hc⟩ : ∃ c, fracB xs = c := ⟨_, rfl⟩
  rw [hc]
  have h2 := fun i (hi : i < xs.length) => hbd (xs.getD i 0) (by rw [List.getD_eq_getElem?_getD, List.getElem?_eq_getElem hi]; exact List.getElem_mem hi)
  obtain ⟨L, hL⟩ : ∃ L, xs.length = L := ⟨_, rfl⟩
  rw [hL] at hx h2 ⊢
  clear hbd
  by_cases h0 : L = 2
  · subst h0
    obtain ⟨b, o, rfl, hcell⟩ := HA.out.at (i := 0) (by omega)
    obtain ⟨b', o', he, hcell1⟩ := HA.out.at (i := 1) (by omega)
    simp only [Option.some.injEq, Addr.mk.injEq, and_true] at he
    obtain ⟨rfl, rfl⟩ := he
    obtain ⟨x0, x1⟩ := h2 0 (by omega)
    obtain ⟨z0, z1⟩ := h2 1 (by omega)
    obtain ⟨x, hxe⟩ : ∃ x, xs.getD 0 0 = x := ⟨_, rfl⟩
    obtain ⟨y, hye⟩ : ∃ y, xs.getD 1 0 = y := ⟨_, rfl⟩
    rw [hxe] at hcell x0 x1
    rw [hye] at hcell1 z0 z1
    rw [Nat.add_zero] at hcell
    have hcc : (decide (1 ≤ y) && copB x y) = c := by rw [← hc, ← hxe, ← hye]; unfold fracB; rw [hL]; simp
    have l1 := World.block_lt_of_cell? _ _ hcell
    have l2 := World.block_lt_of_cell? _ _ hcell1
    have MK := Lib.hid (show ∀ X, Below w.heap.size w X → X.cell? ⟨b, o, none⟩ = some (.int .i64 x) ∧ X.cell? ⟨b, o + 1, none⟩ = some (.int .i64 y) from fun X h => ⟨(h.cell l1).trans hcell, (h.cell l2).trans hcell1⟩)
    clear hc hL hxe hye hcell hcell1 h2
    by_cases hy1 : 1 ≤ y
    · obtain rfl : copB x y = c := by rw [← hcc, decide_eq_true hy1]; simp
      clear hcc
      have B0 : Below w.heap.size w w.drew := (Below.refl _ _).drew
      go_enter Try.func46, Try.ntmps46
      go_wp2_with fail
      refine wp_region_held_drew (S := fun X => X.cell? ⟨b, o, none⟩ = some (.int .i64 x) ∧ X.cell? ⟨b, o + 1, none⟩ = some (.int .i64 y)) (by kernel_rfl) (MK.out _ B0) (fun hHeld => ?_)
      obtain ⟨y0, hdrh⟩ : ∃ Y, w.drew = Y := ⟨_, rfl⟩
      rw [hdrh] at B0 hHeld ⊢
      clear hdrh
      refine todo [0, 1, 2, 3, 4, 5, 6, 7, 8, 9, 10, 11, 12, 13, 14, 15] ?_
      iterate 16
       first
       | (refine todoH (v := ?_) rfl (by kernel_rfl) (fun _ _ _ h => h) (by assumption) (Or.inl ⟨by rfl, ?_⟩) ?_
          rotate_left
          · intro w hSw; (try dsimp only at hSw); go_simp; (try with_reducible rfl)
          try simp only [Act.put, List.getElem_toArray, List.getElem_cons_succ, List.getElem_cons_zero, List.setIfInBounds_toArray, List.set_cons_zero, List.set_cons_succ])
       | (refine todoH (v := undef) rfl (by kernel_rfl) (fun _ _ _ h => h) (by assumption) (Or.inr ⟨by rfl, rfl⟩) ?_
          try simp only [Act.put, List.getElem_toArray, List.getElem_cons_succ, List.getElem_cons_zero, List.setIfInBounds_toArray, List.set_cons_zero, List.set_cons_succ])
      refine todone ?_
      refine wpAnyH_ready (rs := [16]) (by kernel_rfl) (by simp) ?_
      refine AllReadyH.cons rfl (fun K hK => ?sh_16) AllReadyH.nil
      go_simp
      refine (coprime_any x0 x1 z0 z1 _).mono ?_
      rintro e y1 ⟨rfl, hy⟩
      have B1 : Below w.heap.size w y1 := B0.trans (hy.mono B0.size)
      have Dh1 := hy
      clear hy
      go_simp
      refine hK.out _ _ (MK.out _ B1) (fun hHeld2 => ?mh_16)
      clear hK K hHeld
      have hHeld := hHeld2
      clear hHeld2
      try simp only [Act.put, List.getElem_toArray, List.getElem_cons_succ, List.getElem_cons_zero, List.setIfInBounds_toArray, List.set_cons_zero, List.set_cons_succ]
      refine todo [17, 18] ?_
      iterate 2
       first
       | (refine todoH (v := ?_) rfl (by kernel_rfl) (fun _ _ _ h => h) (by assumption) (Or.inl ⟨by rfl, ?_⟩) ?_
          rotate_left
          · intro w hSw; (try dsimp only at hSw); go_simp; (try with_reducible rfl)
          try simp only [Act.put, List.getElem_toArray, List.getElem_cons_succ, List.getElem_cons_zero, List.setIfInBounds_toArray, List.set_cons_zero, List.set_cons_succ])
       | (refine todoH (v := undef) rfl (by kernel_rfl) (fun _ _ _ h => h) (by assumption) (Or.inr ⟨by rfl, rfl⟩) ?_
          try simp only [Act.put, List.getElem_toArray, List.getElem_cons_succ, List.getElem_cons_zero, List.setIfInBounds_toArray, List.set_cons_zero, List.set_cons_succ])
      refine todone ?_
      refine wpAnyH_done (by kernel_rfl) ?_ _
      (try dsimp only [Straight])
      go_wp2_with fail
      go_ret
      exact ⟨rfl, B1⟩
    · obtain rfl : c = false := by rw [← hcc, decide_eq_false hy1]; simp
      have hyI : decide (y ≥ 1) = false := decide_eq_false (by omega)
      clear hcc
      have B0 : Below w.heap.size w w.drew := (Below.refl _ _).drew
      go_enter Try.func46, Try.ntmps46
      go_wp2_with fail
      refine wp_region_held_drew (S := fun X => X.cell? ⟨b, o, none⟩ = some (.int .i64 x) ∧ X.cell? ⟨b, o + 1, none⟩ = some (.int .i64 y)) (by kernel_rfl) (MK.out _ B0) (fun hHeld => ?_)
      refine todo [0, 1, 2, 3, 4, 5, 6, 7, 8, 9, 10, 11, 12, 13, 14, 15, 16, 17, 18] ?_
      iterate 19
       first
       | (refine todoH (v := ?_) rfl (by kernel_rfl) (fun _ _ _ h => h) (by assumption) (Or.inl ⟨by rfl, ?_⟩) ?_
          rotate_left
          · intro w hSw; (try dsimp only at hSw); go_simp; (try with_reducible rfl)
          try simp only [Act.put, List.getElem_toArray, List.getElem_cons_succ, List.getElem_cons_zero, List.setIfInBounds_toArray, List.set_cons_zero, List.set_cons_succ])
       | (refine todoH (v := undef) rfl (by kernel_rfl) (fun _ _ _ h => h) (by assumption) (Or.inr ⟨by rfl, rfl⟩) ?_
          try simp only [Act.put, List.getElem_toArray, List.getElem_cons_succ, List.getElem_cons_zero, List.setIfInBounds_toArray, List.set_cons_zero, List.set_cons_succ])
      refine todone ?_
      refine wpAnyH_done (by kernel_rfl) ?_ _
      (try dsimp only [Straight])
      go_wp2_with fail
      go_ret
      exact ⟨rfl, B0⟩
  · obtain rfl : c = false := by rw [← hc]; unfold fracB; rw [hL, decide_eq_false (fun h => h0 h.1)]; simp
    have h0I : ((L : Int) == 2) = false := by simp; omega
    clear hc hL h2
    have B0 : Below w.heap.size w w.drew := (Below.refl _ _).drew
    go_enter Try.func46, Try.ntmps46
    go_wp2_with fail
    refine wp_region_held_drew (S := fun _ => True) (by kernel_rfl) (trivial) (fun hHeld => ?_)
    refine todo [0, 1, 2, 3, 4, 5, 6, 7, 8, 9, 10, 11, 12, 13, 14, 15, 16, 17, 18] ?_
    iterate 19
     first
     | (refine todoH (v := ?_) rfl (by kernel_rfl) (fun _ _ _ h => h) (by assumption) (Or.inl ⟨by rfl, ?_⟩) ?_
        rotate_left
        · intro w hSw; (try dsimp only at hSw); go_simp; (try with_reducible rfl)
        try simp only [Act.put, List.getElem_toArray, List.getElem_cons_succ, List.getElem_cons_zero, List.setIfInBounds_toArray, List.set_cons_zero, List.set_cons_succ])
     | (refine todoH (v := undef) rfl (by kernel_rfl) (fun _ _ _ h => h) (by assumption) (Or.inr ⟨by rfl, rfl⟩) ?_
        try simp only [Act.put, List.getElem_toArray, List.getElem_cons_succ, List.getElem_cons_zero, List.setIfInBounds_toArray, List.set_cons_zero, List.set_cons_succ])
    refine todone ?_
    refine wpAnyH_done (by kernel_rfl) ?_ _
    (try dsimp only [Straight])
    go_wp2_with fail
    go_ret
    exact ⟨rfl, B0⟩
set_option maxRecDepth 100000 in
set_option maxHeartbeats 4000000 in
theorem isPerm_any {u : Value} {xs : List Int} {a : Option Addr} {ca : Nat} {w : World} (A : ArgS w u xs a ca) (na : a = none → ca = 0) (hx : xs.length ≤ 17592186044416) : Calls Try.prog 47 #[u] w fun e w' => e = .returned (.bool (perB xs)) ∧ Below w.heap.size w w' := by
  have HA := Lib.hid A
  obtain rfl := A.is
  obtain ⟨c, hc⟩ : ∃ c, perB xs = c := ⟨_, rfl⟩
  rw [hc]
  by_cases h4 : xs.length ≤ 4
  · have hp := permS_any (xs.length : Int) HA.out na (by omega) (by omega) (by omega)
    have hcc : permB xs xs.length = c := by rw [← hc]; unfold perB; rw [decide_eq_true h4]; rfl
    obtain ⟨d, hd⟩ : ∃ d, permC xs (xs.length : Int) = d := ⟨_, rfl⟩
    have hdc : (d == 0) = c := by
      rw [← hd, ← hcc]
      unfold permC
      split
      · rename_i h; rw [h]; rfl
      · rename_i h; rw [show permB xs xs.length = false by simpa using h]; rfl
    rw [hd] at hp
    have h4I : (xs.length : Int) ≤ 4 := by omega
    subst hdc
    clear hc hcc hd
    go_enter Try.func47, Try.ntmps47
    go_wp2_with fail
    refine hp.mono ?_
    rintro e y1 ⟨rfl, hy⟩
    go_wp2_with fail
    go_ret
    exact ⟨rfl, hy⟩
  · obtain rfl : c = false := by rw [← hc]; unfold perB; rw [decide_eq_false h4]; rfl
    have h4I : ¬ (xs.length : Int) ≤ 4 := by omega
    clear hc
    go_enter Try.func47, Try.ntmps47
    go_wp2_with fail
    go_ret
    exact ⟨rfl, Below.refl _ _⟩
set_option maxRecDepth 100000 in
set_option maxHeartbeats 4000000 in
theorem isShape_any {u : Value} {xs : List Int} {a : Option Addr} {ca : Nat} {w : World} (A : ArgS w u xs a ca) (hx : xs.length ≤ 17592186044416) : Calls Try.prog 49 #[u] w fun e w' => e = .returned (.bool (shB xs)) ∧ Below w.heap.size w w' := by
  have hp := mayS_any A hx
  obtain rfl := A.is
  obtain ⟨d, hd⟩ : ∃ d, mayC xs = d := ⟨_, rfl⟩
  have hdc : (d == 0) = shB xs := by rw [← hd]; unfold shB; rfl
  rw [hd] at hp
  rw [← hdc]
  clear hd hdc
  go_enter Try.func49, Try.ntmps49
  go_wp2_with fail
  refine hp.mono ?_
  rintro e y1 ⟨rfl, hy⟩
  go_wp2_with fail
  go_ret
  exact ⟨rfl, hy⟩
set_option maxRecDepth 100000 in
set_option maxHeartbeats 4000000 in
theorem areAxes_any {u : Value} {xs : List Int} {a : Option Addr} {ca : Nat} {w : World} (A : ArgS w u xs a ca) (na : a = none → ca = 0) (hx : xs.length ≤ 17592186044416) : Calls Try.prog 50 #[u] w fun e w' => e = .returned (.bool (axesB xs 4)) ∧ Below w.heap.size w w' := by
  have hp := axesL_any 4 A na hx (by decide) (by decide)
  obtain rfl := A.is
  obtain ⟨d, hd⟩ : ∃ d, axesC xs 4 = d := ⟨_, rfl⟩
  have hdc : (d == 0) = axesB xs 4 := by
    rw [← hd]
    unfold axesC
    split
    · rename_i h; rw [h]; rfl
    · rename_i h; rw [show axesB xs 4 = false by simpa using h]; rfl
  rw [hd] at hp
  rw [← hdc]
  clear hd hdc
  go_enter Try.func50, Try.ntmps50
  go_wp2_with fail
  refine hp.mono ?_
  rintro e y1 ⟨rfl, hy⟩
  go_wp2_with fail
  go_ret
  exact ⟨rfl, hy⟩
end
section
open Go.RowKit
set_option linter.unusedVariables false
set_option linter.unusedSimpArgs false
set_option maxRecDepth 100000 in
set_option maxHeartbeats 4000000 in
theorem slice1_any (a b : Int) (w : World) : Calls Try.prog 53 #[.int .i64 a, .int .i64 b] w fun e w' => e = .returned (.bool (slB a b)) ∧ w = w' := by
  obtain ⟨c, hc⟩ : ∃ c, slB a b = c := ⟨_, rfl⟩
  rw [hc]
  by_cases h1 : 0 ≤ a
  · by_cases h2 : a < b
    · obtain rfl : c = true := by rw [← hc]; exact decide_eq_true ⟨h1, h2⟩
      clear hc
      go_enter Try.func53, Try.ntmps53
      go_wp2_with fail
      go_ret
      exact ⟨rfl, rfl⟩
    · obtain rfl : c = false := by rw [← hc]; exact decide_eq_false (fun h => h2 h.2)
      clear hc
      go_enter Try.func53, Try.ntmps53
      go_wp2_with fail
      go_ret
      exact ⟨rfl, rfl⟩
  · obtain rfl : c = false := by rw [← hc]; exact decide_eq_false (fun h => h1 h.1)
    clear hc
    go_enter Try.func53, Try.ntmps53
    go_wp2_with fail
    go_ret
    exact ⟨rfl, rfl⟩
set_option maxRecDepth 100000 in
set_option maxHeartbeats 4000000 in
theorem pad1_any (a b : Int) (w : World) : Calls Try.prog 54 #[.int .i64 a, .int .i64 b] w fun e w' => e = .returned (.bool (paB a b)) ∧ w = w' := by
  obtain ⟨c, hc⟩ : ∃ c, paB a b = c := ⟨_, rfl⟩
  rw [hc]
  by_cases h1 : 0 ≤ a
  · by_cases h2 : 0 ≤ b
    · obtain rfl : c = true := by rw [← hc]; exact decide_eq_true ⟨h1, h2⟩
      clear hc
      go_enter Try.func54, Try.ntmps54
      go_wp2_with fail
      go_ret
      exact ⟨rfl, rfl⟩
    · obtain rfl : c = false := by rw [← hc]; exact decide_eq_false (fun h => h2 h.2)
      clear hc
      go_enter Try.func54, Try.ntmps54
      go_wp2_with fail
      go_ret
      exact ⟨rfl, rfl⟩
  · obtain rfl : c = false := by rw [← hc]; exact decide_eq_false (fun h => h1 h.1)
    clear hc
    go_enter Try.func54, Try.ntmps54
    go_wp2_with fail
    go_ret
    exact ⟨rfl, rfl⟩
set_option maxRecDepth 100000 in
set_option maxHeartbeats 4000000 in
theorem pairs_any (v : Value) (F : Nat) (hv : v = .func (.func F) #[] #[]) (w : World) : Calls Try.prog 52 #[v] w fun e w' => e = .returned (.func (.func 63) #[] #[.pointer (some ⟨w.heap.size, 0, none⟩)]) ∧ w' = w.alloc (.cells #[v] 72) := by
  subst hv
  go_enter Try.func52, Try.ntmps52
  go_wp2_with fail
  go_ret
  simp
set_option maxRecDepth 100000 in
set_option maxHeartbeats 4000000 in
theorem pairs1_any {u : Value} {xs : List Int} {a : Option Addr} {ca : Nat} {w : World} (A : ArgS w u xs a ca) (hx : xs.length ≤ 17592186044416) {g F : Nat} (f : Int → Int → Bool) (R : Row w g 72 #[.func (.func F) #[] #[]]) (heF : ∀ args w, (callFunc F args).run Try.prog w = .ok (.enter F args) w)
    (hdo : ∀ x y W, Calls Try.prog F #[.int .i64 x, .int .i64 y] W fun e w' => e = .returned (.bool (f x y)) ∧ Below W.heap.size W w') : Calls Try.prog 63 #[u, .pointer (some ⟨g, 0, none⟩)] w fun e w' => e = .returned (.bool (pairsB f xs)) ∧ Below w.heap.size w w' := by
  have HA := Lib.hid A
  have HDO := Lib.hid hdo
  have HR := Lib.hid R
  obtain rfl := A.is
  obtain ⟨c, hc⟩ : ∃ c, pairsB f xs = c := ⟨_, rfl⟩
  rw [hc]
  obtain ⟨L, hL⟩ : ∃ L, xs.length = L := ⟨_, rfl⟩
  have HL := Lib.hid hL
  have HC := Lib.hid hc
  rw [hL] at hx ⊢
  have hrem : (L : Int).tmod 2 = ((L % 2 : Nat) : Int) := by rw [Int.tmod_eq_emod_of_nonneg (by omega)]; omega
  obtain ⟨d, hd⟩ : ∃ d, L % 2 = d := ⟨_, rfl⟩
  rw [hd] at hrem
  clear A R hdo hc hL
  by_cases h1 : d = 0
  case neg =>
    obtain rfl : c = false := by rw [← HC.out]; unfold pairsB; rw [HL.out]; exact decide_eq_false (fun h => h1 (by omega))
    have h1I : ((d : Int) != 0) = true := by simp [h1]
    clear hd
    go_enter Try.func63, Try.ntmps63
    go_wp2_with fail
    go_ret
    exact ⟨rfl, Below.refl _ _⟩
  case pos =>
    subst h1
    by_cases h8 : L ≤ 8
    case neg =>
      obtain rfl : c = false := by rw [← HC.out]; unfold pairsB; rw [HL.out]; exact decide_eq_false (fun h => h8 h.2.1)
      have h8I : (L : Int) > 8 := by omega
      clear hd
      go_enter Try.func63, Try.ntmps63
      go_wp2_with fail
      go_ret
      exact ⟨rfl, Below.refl _ _⟩
    case pos =>
      have h8I : ¬ (L : Int) > 8 := by omega
      have HD := Lib.hid hd
      clear hd
      go_enter Try.func63, Try.ntmps63
      go_wp2_with fail
      clear hrem h8I
      go_loopw [4] (fun i wr => ∃ k : Nat, i = .int .i64 ((2 * k : Nat) : Int) ∧ 2 * k ≤ L ∧ (∀ j, j < k → f (xs.getD (2 * j) 0) (xs.getD (2 * j + 1) 0) = true) ∧ Below w.heap.size w wr) (fun i _ => L - (intOf i).toNat)
      case atStart => exact ⟨0, rfl, by omega, fun j hj => by omega, Below.refl _ _⟩
      case round =>
        obtain ⟨k, rfl, hk, hall, hbr⟩ := hrel
        have HALL := Lib.hid hall
        have HBR := Lib.hid hbr
        obtain ⟨p, hp⟩ : ∃ p, 2 * k = p := ⟨_, rfl⟩
        have HP := Lib.hid hp
        rw [hp] at hk ⊢
        clear hall hbr hp
        by_cases hlt : p < L
        · have hltI : (p : Int) < (L : Int) := by omega
          obtain ⟨s, hs⟩ : ∃ s, p + 1 = s := ⟨_, rfl⟩
          have hsL : s < L := by have h1 := HD.out; have h2 := HP.out; omega
          have hsI : (p : Int) + 1 = (s : Int) := by omega
          have hsLI : (s : Int) < (L : Int) := by omega
          have hp0 : (0 : Int) ≤ (p : Int) := by omega
          have hs0 : (0 : Int) ≤ (s : Int) := by omega
          obtain ⟨b, o, rfl, c0⟩ := (HA.out.later HBR.out).at (i := p) (by rw [HL.out]; omega)
          obtain ⟨b', o', he, c1⟩ := (HA.out.later HBR.out).at (i := s) (by rw [HL.out]; omega)
          simp only [Option.some.injEq, Addr.mk.injEq, and_true] at he
          obtain ⟨rfl, rfl⟩ := he
          obtain ⟨x, hxe⟩ : ∃ x, xs.getD p 0 = x := ⟨_, rfl⟩
          obtain ⟨y, hye⟩ : ∃ y, xs.getD s 0 = y := ⟨_, rfl⟩
          rw [hxe] at c0
          rw [hye] at c1
          have l0 := World.block_lt_of_cell? _ _ c0
          have l1 := World.block_lt_of_cell? _ _ c1
          have MK := Lib.hid (show ∀ X, Below wr.heap.size wr X → X.cell? ⟨g, 0, none⟩ = some (.func (.func F) #[] #[]) ∧ X.cell? ⟨b, o + p, none⟩ = some (.int .i64 x) ∧ X.cell? ⟨b, o + s, none⟩ = some (.int .i64 y) from fun X h => ⟨((HR.out.later HBR.out).later h).cell 0, (h.cell l0).trans c0, (h.cell l1).trans c1⟩)
          have HXE := Lib.hid hxe
          have HYE := Lib.hid hye
          have HS := Lib.hid hs
          obtain ⟨t, ht⟩ : ∃ t, f x y = t := ⟨_, rfl⟩
          have HT := Lib.hid ht
          have B0 : Below wr.heap.size wr wr.drew := (Below.refl _ _).drew
          have wp4 : p ≤ 4096 := by omega
          have ws : IntKind.i64.wrap (s : Int) = (s : Int) := IntWalk.i64_in _ (by omega)
          clear c0 c1 hxe hye l0 l1 hs ht
          go_wp2_with fail
          refine wp_region_held_drew (S := fun X => X.cell? ⟨g, 0, none⟩ = some (.func (.func F) #[] #[]) ∧ X.cell? ⟨b, o + p, none⟩ = some (.int .i64 x) ∧ X.cell? ⟨b, o + s, none⟩ = some (.int .i64 y)) (by kernel_rfl) (MK.out _ B0) (fun hHeld => ?_)
          obtain ⟨y0, hdrh⟩ : ∃ Y, wr.drew = Y := ⟨_, rfl⟩
          rw [hdrh] at B0 hHeld ⊢
          clear hdrh
          refine todo [0, 1, 2, 3, 4, 5, 6, 7, 8, 9] ?_
          iterate 10
           first
           | (refine todoH (v := ?_) rfl (by kernel_rfl) (fun _ _ _ h => h) (by assumption) (Or.inl ⟨by rfl, ?_⟩) ?_
              rotate_left
              · intro w hSw; (try dsimp only at hSw); go_simp; (try with_reducible rfl)
              try simp only [Act.put, List.getElem_toArray, List.getElem_cons_succ, List.getElem_cons_zero, List.setIfInBounds_toArray, List.set_cons_zero, List.set_cons_succ])
           | (refine todoH (v := undef) rfl (by kernel_rfl) (fun _ _ _ h => h) (by assumption) (Or.inr ⟨by rfl, rfl⟩) ?_
              try simp only [Act.put, List.getElem_toArray, List.getElem_cons_succ, List.getElem_cons_zero, List.setIfInBounds_toArray, List.set_cons_zero, List.set_cons_succ])
          refine todone ?_
          refine wpAnyH_ready (rs := [10]) (by kernel_rfl) (by simp) ?_
          refine AllReadyH.cons rfl (fun K hK => ?sh_10) AllReadyH.nil
          go_simp
          refine (HDO.out x y _).mono ?_
          rintro e y1 ⟨rfl, hy⟩
          have B1 : Below wr.heap.size wr y1 := B0.trans (hy.mono B0.size)
          have Dh1 := hy
          clear hy
          go_simp
          refine hK.out _ _ (MK.out _ B1) (fun hHeld2 => ?mh_10)
          clear hK K hHeld
          have hHeld := hHeld2
          clear hHeld2
          try simp only [Act.put, List.getElem_toArray, List.getElem_cons_succ, List.getElem_cons_zero, List.setIfInBounds_toArray, List.set_cons_zero, List.set_cons_succ]
          refine todo [11] ?_
          iterate 1
           first
           | (refine todoH (v := ?_) rfl (by kernel_rfl) (fun _ _ _ h => h) (by assumption) (Or.inl ⟨by rfl, ?_⟩) ?_
              rotate_left
              · intro w hSw; (try dsimp only at hSw); go_simp; (try with_reducible rfl)
              try simp only [Act.put, List.getElem_toArray, List.getElem_cons_succ, List.getElem_cons_zero, List.setIfInBounds_toArray, List.set_cons_zero, List.set_cons_succ])
           | (refine todoH (v := undef) rfl (by kernel_rfl) (fun _ _ _ h => h) (by assumption) (Or.inr ⟨by rfl, rfl⟩) ?_
              try simp only [Act.put, List.getElem_toArray, List.getElem_cons_succ, List.getElem_cons_zero, List.setIfInBounds_toArray, List.set_cons_zero, List.set_cons_succ])
          refine todone ?_
          refine wpAnyH_done (by kernel_rfl) ?_ _
          (try dsimp only [Straight])
          rw [HT.out]
          cases t with
          | false =>
            obtain rfl : c = false := by
              rw [← HC.out]
              unfold pairsB
              refine decide_eq_false (fun h => ?_)
              have h3 := h.2.2 k (by rw [HL.out]; have h2 := HP.out; omega) (by rw [HL.out]; have h2 := HP.out; have h4 := HS.out; omega)
              rw [HP.out, HS.out, HXE.out, HYE.out, HT.out] at h3
              cases h3
            go_wp2_with fail
            go_ret
            exact ⟨rfl, HBR.out.trans (B1.mono HBR.out.size)⟩
          | true =>
            have wp2 : IntKind.i64.wrap ((p : Int) + 2) = (p : Int) + 2 := IntWalk.i64_in _ (by omega)
            go_wp2_with fail
            go_roundw
            case rel =>
              refine ⟨k + 1, by have h2 := HP.out; first | (congr 1; omega) | (refine congrArg (Value.int .i64) ?_; omega), by have h2 := HP.out; have h3 := HS.out; omega, fun j hj => ?_, HBR.out.trans (B1.mono HBR.out.size)⟩
              by_cases hjk : j < k
              · exact HALL.out j hjk
              · obtain rfl : j = k := by omega
                rw [HP.out, HS.out, HXE.out, HYE.out, HT.out]
            case measure => simp [intOf]; omega
        · obtain rfl : p = L := by omega
          have hltI : ¬ (p : Int) < (p : Int) := by omega
          obtain rfl : c = true := by
            rw [← HC.out]
            unfold pairsB
            exact decide_eq_true ⟨by rw [HL.out]; exact HD.out, by rw [HL.out]; omega, fun j _ hj => HALL.out j (by rw [HL.out] at hj; have h2 := HP.out; omega)⟩
          go_wp2_with fail
          go_ret
          exact ⟨rfl, HBR.out⟩
theorem set_mid11 {A : List Int} {k n : Nat} {x : Int} (hA : A.length = k) (hk : k < n) : (A ++ List.replicate (n - k) 0).set k x = (A ++ [x]) ++ List.replicate (n - (k + 1)) 0 := by
  subst hA
  obtain ⟨m, rfl⟩ : ∃ m, n = A.length + 1 + m := ⟨n - (A.length + 1), by omega⟩
  rw [show A.length + 1 + m - A.length = m + 1 by omega, show A.length + 1 + m - (A.length + 1) = m by omega, List.replicate_succ]
  simp
set_option maxRecDepth 100000 in
set_option maxHeartbeats 4000000 in
theorem forward_any {n : Nat} (hn : n ≤ 4) (w : World) : Calls Try.prog 51 #[.int .i64 (n : Int)] w fun e w' => ∃ r, e = .returned r ∧ ResS w.heap.size w' r (fwdI (n : Int)) ∧ Below w.heap.size w w' := by
  obtain ⟨r, hr⟩ : ∃ r, (List.range n).map (fun k : Nat => (k : Int)) = r := ⟨_, rfl⟩
  have hr2 : fwdI (n : Int) = r := by rw [← hr]; unfold fwdI; rw [Int.toNat_natCast]
  rw [hr2]
  have hwr : Wid r := by
    rw [← hr]
    intro x hx
    obtain ⟨i, hi, rfl⟩ := List.mem_map.1 hx
    have := List.mem_range.1 hi
    (try dsimp only)
    omega
  have hrl : r.length = n := by rw [← hr]; simp
  have HR := Lib.hid hr
  have HWR := Lib.hid hwr
  have HRL := Lib.hid hrl
  have hmk := make_runS n (by omega)
  clear hr hr2 hwr hrl
  go_enter Try.func51, Try.ntmps51
  go_wp2_with fail
  have hbA : Below w.heap.size w (w.alloc (.cells (madeCells #[.int .i64 0] n) 3)) := (Below.refl _ w).alloc (Nat.le_refl _) _
  have hRA : PartS (w.alloc (.cells (madeCells #[.int .i64 0] n) 3)) w.heap.size n (List.replicate n 0) := by
    have h := BlkS.made w n
    exact ⟨_, h, by simp, by simp, by simp⟩
  have HBA := Lib.hid hbA
  have HRA := Lib.hid hRA
  clear hbA hRA hmk
  go_loopw [4, 9] (fun _ i wr => ∃ (k : Nat), i = .int .i64 (k : Int) ∧ k ≤ n ∧ PartS wr w.heap.size n ((List.range k).map (fun k : Nat => (k : Int)) ++ List.replicate (n - k) 0) ∧ Below w.heap.size w wr) (fun _ i _ => n - (intOf i).toNat)
  case atStart => exact ⟨0, rfl, Nat.zero_le _, HRA.out, HBA.out⟩
  case round =>
    obtain ⟨k, rfl, hkn, hP, hb⟩ := hrel
    have HP := Lib.hid hP
    by_cases hlt : k < n
    · have hltI : (k : Int) < (n : Int) := by omega
      have hf := hP.free k
      have hck := hP.cell k (by rw [List.length_append, List.length_map, List.length_range, List.length_replicate]; omega)
      have hst : (List.range (k + 1)).map (fun k : Nat => (k : Int)) = (List.range k).map (fun k : Nat => (k : Int)) ++ [(k : Int)] := by rw [List.range_succ, List.map_append]; rfl
      have HST := Lib.hid hst
      have hlk : ((List.range k).map (fun k : Nat => (k : Int))).length = k := by simp
      have HLK := Lib.hid hlk
      have h1 := HP.out.set k (by rw [List.length_append, hlk, List.length_replicate]; omega) ((k : Int))
      rw [set_mid11 hlk hlt, ← hst] at h1
      have H1 := Lib.hid h1
      clear hst hlk h1 hP
      go_wp2_with fail
      go_roundw
      case rel => exact ⟨k + 1, by go_num, by omega, H1.out, hb.setCell (Nat.le_refl _) _⟩
      case measure => simp [intOf]; omega
    · obtain rfl : k = n := by omega
      have hltI : ¬ (k : Int) < (k : Int) := by omega
      rw [Nat.sub_self, HR.out] at hP
      simp only [List.replicate_zero, List.append_nil] at hP
      have hN := hP.num (base := w.heap.size) (Nat.le_refl _) (by unfold maxLen; omega)
      rw [HRL.out] at hN
      have HN := Lib.hid hN
      clear hN hP
      go_wp2_with fail
      go_ret
      exact ⟨_, rfl, ⟨HN.out, HWR.out⟩, hb⟩
set_option maxRecDepth 100000 in
set_option maxHeartbeats 4000000 in
theorem backward_any {n : Nat} (hn : n ≤ 4) (w : World) : Calls Try.prog 48 #[.int .i64 (n : Int)] w fun e w' => ∃ r, e = .returned r ∧ ResS w.heap.size w' r (bwdI (n : Int)) ∧ Below w.heap.size w w' := by
  obtain ⟨r, hr⟩ : ∃ r, (List.range n).map (fun k : Nat => (n : Int) - 1 - (k : Int)) = r := ⟨_, rfl⟩
  have hr2 : bwdI (n : Int) = r := by rw [← hr]; unfold bwdI; rw [Int.toNat_natCast]
  rw [hr2]
  have hwr : Wid r := by
    rw [← hr]
    intro x hx
    obtain ⟨i, hi, rfl⟩ := List.mem_map.1 hx
    have := List.mem_range.1 hi
    (try dsimp only)
    omega
  have hrl : r.length = n := by rw [← hr]; simp
  have HR := Lib.hid hr
  have HWR := Lib.hid hwr
  have HRL := Lib.hid hrl
  have hmk := make_runS n (by omega)
  clear hr hr2 hwr hrl
  go_enter Try.func48, Try.ntmps48
  go_wp2_with fail
  have hbA : Below w.heap.size w (w.alloc (.cells (madeCells #[.int .i64 0] n) 3)) := (Below.refl _ w).alloc (Nat.le_refl _) _
  have hRA : PartS (w.alloc (.cells (madeCells #[.int .i64 0] n) 3)) w.heap.size n (List.replicate n 0) := by
    have h := BlkS.made w n
    exact ⟨_, h, by simp, by simp, by simp⟩
  have HBA := Lib.hid hbA
  have HRA := Lib.hid hRA
  clear hbA hRA hmk
  go_loopw [4, 9] (fun _ i wr => ∃ (k : Nat), i = .int .i64 (k : Int) ∧ k ≤ n ∧ PartS wr w.heap.size n ((List.range k).map (fun k : Nat => (n : Int) - 1 - (k : Int)) ++ List.replicate (n - k) 0) ∧ Below w.heap.size w wr) (fun _ i _ => n - (intOf i).toNat)
  case atStart => exact ⟨0, rfl, Nat.zero_le _, HRA.out, HBA.out⟩
  case round =>
    obtain ⟨k, rfl, hkn, hP, hb⟩ := hrel
    have HP := Lib.hid hP
    by_cases hlt : k < n
    · have hltI : (k : Int) < (n : Int) := by omega
      have hf := hP.free k
      have hck := hP.cell k (by rw [List.length_append, List.length_map, List.length_range, List.length_replicate]; omega)
      have hst : (List.range (k + 1)).map (fun k : Nat => (n : Int) - 1 - (k : Int)) = (List.range k).map (fun k : Nat => (n : Int) - 1 - (k : Int)) ++ [(n : Int) - 1 - (k : Int)] := by rw [List.range_succ, List.map_append]; rfl
      have HST := Lib.hid hst
      have hlk : ((List.range k).map (fun k : Nat => (n : Int) - 1 - (k : Int))).length = k := by simp
      have HLK := Lib.hid hlk
      have h1 := HP.out.set k (by rw [List.length_append, hlk, List.length_replicate]; omega) ((n : Int) - 1 - (k : Int))
      rw [set_mid11 hlk hlt, ← hst] at h1
      have H1 := Lib.hid h1
      clear hst hlk h1 hP
      go_wp2_with fail
      go_roundw
      case rel => exact ⟨k + 1, by go_num, by omega, H1.out, hb.setCell (Nat.le_refl _) _⟩
      case measure => simp [intOf]; omega
    · obtain rfl : k = n := by omega
      have hltI : ¬ (k : Int) < (k : Int) := by omega
      rw [Nat.sub_self, HR.out] at hP
      simp only [List.replicate_zero, List.append_nil] at hP
      have hN := hP.num (base := w.heap.size) (Nat.le_refl _) (by unfold maxLen; omega)
      rw [HRL.out] at hN
      have HN := Lib.hid hN
      clear hN hP
      go_wp2_with fail
      go_ret
      exact ⟨_, rfl, ⟨HN.out, HWR.out⟩, hb⟩
end
end Go.Proofs.Ytnhbngeipedplaa
