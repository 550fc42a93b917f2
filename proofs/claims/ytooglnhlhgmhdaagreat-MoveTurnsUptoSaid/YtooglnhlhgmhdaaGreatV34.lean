/-
  Layer 9's law MoveBack: inside. (Made by wip/gen/gen_mbackb.py.)
-/
import Derived.Test.YtooglnhlhgmhdaaGreatV1
import Derived.Test.YtooglnhlhgmhdaaGreatV2
import Derived.Test.YtooglnhlhgmhdaaGreatV3
import Derived.Test.YtooglnhlhgmhdaaGreatV4
import Derived.Test.YtooglnhlhgmhdaaGreatV5
import Derived.Test.YtooglnhlhgmhdaaGreatV6
import Derived.Test.YtooglnhlhgmhdaaGreatV7
import Derived.Test.YtooglnhlhgmhdaaGreatV8
import Derived.Test.YtooglnhlhgmhdaaGreatV9
import Derived.Test.YtooglnhlhgmhdaaGreatV10
import Derived.Test.YtooglnhlhgmhdaaGreatV11
import Derived.Test.YtooglnhlhgmhdaaGreatV12
import Derived.Test.YtooglnhlhgmhdaaGreatV13
import Derived.Test.YtooglnhlhgmhdaaGreatV14
import Derived.Test.YtooglnhlhgmhdaaGreatV15
import Derived.Test.YtooglnhlhgmhdaaGreatV16
import Derived.Test.YtooglnhlhgmhdaaGreatV17
import Derived.Test.YtooglnhlhgmhdaaGreatV18
import Derived.Test.YtooglnhlhgmhdaaGreatV19
import Derived.Test.YtooglnhlhgmhdaaGreatV20
import Derived.Test.YtooglnhlhgmhdaaGreatV21
import Derived.Test.YtooglnhlhgmhdaaGreatV22
import Derived.Test.YtooglnhlhgmhdaaGreatV23
import Derived.Test.YtooglnhlhgmhdaaGreatV24
import Derived.Test.YtooglnhlhgmhdaaGreatV25
import Derived.Test.YtooglnhlhgmhdaaGreatV26
import Derived.Test.YtooglnhlhgmhdaaGreatV27
import Derived.Test.YtooglnhlhgmhdaaGreatV28
import Derived.Test.YtooglnhlhgmhdaaGreatV29
import Derived.Test.YtooglnhlhgmhdaaGreatV30
import Derived.Test.YtooglnhlhgmhdaaGreatV31
import Derived.Test.YtooglnhlhgmhdaaGreatV32
import Derived.Test.YtooglnhlhgmhdaaGreatV33
import Derived.WalkKit
import Derived.Test.YtooglnhlhgmhdaaGreatRows
import Derived.BigQuiet
import Derived.Deep.QuietTactic
import Derived.Lib.Hide
import Derived.Lib.Small
import Derived.Lib.Walk
import Derived.Lib.BitFns
import Derived.Maps.AppendAt
import Derived.RangeFuncNested
import Derived.RangeFuncBound
import Derived.RangeFuncCalls
import Derived.RangeFuncLeaves
import Derived.Shelf.Abstract
import Derived.OwnWalkIn
import Derived.TacticsInMore
import Derived.LoopNIn
import Derived.LoopIn
import Derived.RangeFuncBox
import Derived.Deep.RegionHeld3
import Derived.OrdersIn
import Derived.StillTailTactics
import Derived.RangeFuncFrom
import Derived.Laws.EntriesVeiled
import Derived.ProofKit
import Derived.OpenShut
import Derived.JoinedCond
import Derived.Carry
import Derived.Laws.AppendOwnNone
import Derived.Lib.ItoaNum
import Derived.Deep.RegionLaw
import Derived.WalkMore
import Derived.Lib.SmallJoins
import Derived.IntWalk
import Derived.Deep.DeepCutAuto
import Derived.Laws.OwnMore
import Derived.OrdersHeld
import Derived.Deep.RegionHeld
import Derived.ArgAppend
import Derived.Deep.Slices
import Derived.Laws.CopyOwn
import Derived.Lib.SliceRun
namespace Go.Proofs.YtooglnhlhgmhdaaGreat
set_option maxRecDepth 100000
section
open Go.RowKit
set_option linter.unusedVariables false
set_option linter.unusedSimpArgs false
/-- the first k pairs -/
def inK (s t : List Int) (k : Nat) : List Int := (List.range k).flatMap fun i : Nat => [fstP t i, fstP t i + s.getD i 0]
theorem inK_next (s t : List Int) (k : Nat) : inK s t (k + 1) = inK s t k ++ [fstP t k, fstP t k + s.getD k 0] := by
  unfold inK
  rw [List.range_succ, List.flatMap_append]
  simp
theorem inK_len (s t : List Int) (k : Nat) : (inK s t k).length = 2 * k := by
  induction k with
  | zero => rfl
  | succ k ih => rw [inK_next, List.length_append, ih]; simp; omega
set_option maxRecDepth 100000 in
set_option maxHeartbeats 4000000 in
theorem inside9_any {w : World} {s t : List Int} {a ad : Option Addr} {ca cd : Nat} (A : ArgS w (.slice a s.length ca) s a ca) (D : ArgS w (.slice ad t.length cd) t ad cd) (hl : t.length = 2 * s.length) (hs : s.length ≤ 4)
    (hr : ∀ i, i < s.length → 0 ≤ fstP t i ∧ fstP t i ≤ 1024 ∧ 1 ≤ s.getD i 0 ∧ s.getD i 0 ≤ 1024) :
    Calls Tryz.prog 36 #[.slice a s.length ca, .slice ad t.length cd] w fun e w' => ∃ r, e = .returned r ∧ ResS w.heap.size w' r (inL s t) ∧ Below w.heap.size w w' := by
  obtain ⟨i0, hi, hz0, hz1, hz2⟩ := info_parts infoS
  have HA := Lib.hid A
  have HD := Lib.hid D
  have HR := Lib.hid hr
  have HIL : Hid (inL s t = inK s t s.length) := Lib.hid rfl
  obtain ⟨N, hN⟩ : ∃ N, s.length = N := ⟨_, rfl⟩
  have HN := Lib.hid hN
  have HTL := Lib.hid hl
  have ht8 : t.length ≤ 8 := by omega
  obtain ⟨res, hres⟩ : ∃ l, inL s t = l := ⟨_, rfl⟩
  have HRES := Lib.hid hres
  rw [hres]
  rw [hN] at hs ⊢
  clear A D hr hN hl hres
  go_enter Tryz.func36, Tryz.ntmps36
  go_wp2_with fail
  go_loopw [5, 6] (fun v iv wr => ∃ (k : Nat), iv = .int .i64 (k : Int) ∧ k ≤ N ∧ NumS w.heap.size wr v (inK s t k) ∧ Below w.heap.size w wr) (fun _ iv _ => N - (intOf iv).toNat)
  case atStart => exact ⟨0, rfl, Nat.zero_le _, World.ownsRow_nil _ _ _ _, Below.refl _ _⟩
  case round =>
    obtain ⟨k, rfl, hk, hown, hb⟩ := hrel
    have hsz := hb.size
    by_cases hlt : k < N
    · have hks : k < s.length := by rw [HN.out]; exact hlt
      have hkt : 2 * k < t.length := by rw [HTL.out]; omega
      obtain ⟨bs, os, rfl, cs⟩ := HA.out.at (i := k) hks
      obtain ⟨bt, ot, rfl, ct⟩ := HD.out.at (i := 2 * k) hkt
      obtain ⟨r1, r2, r3, r4⟩ := HR.out k hks
      obtain ⟨d, hd⟩ : ∃ d, s.getD k 0 = d := ⟨_, rfl⟩
      obtain ⟨x, hx⟩ : ∃ x, fstP t k = x := ⟨_, rfl⟩
      have hx2 : t.getD (2 * k) 0 = x := hx
      rw [hd] at cs r3 r4
      rw [hx] at r1 r2
      rw [hx2] at ct
      have hnx := inK_next s t k
      have hkl := inK_len s t k
      rw [hd, hx] at hnx
      have HNX := Lib.hid hnx
      obtain ⟨zs, hzs⟩ : ∃ zs, inK s t k = zs := ⟨_, rfl⟩
      rw [hzs] at hown hkl
      have HZS := Lib.hid hzs
      have mkS : ∀ X, Below w.heap.size w X → X.cell? ⟨bt, ot + 2 * k, none⟩ = some (.int .i64 x) ∧ X.cell? ⟨bs, os + k, none⟩ = some (.int .i64 d) := fun X h => ⟨(h.cell (World.block_lt_of_cell? _ _ ct)).trans ct, (h.cell (World.block_lt_of_cell? _ _ cs)).trans cs⟩
      have hltI : (k : Int) < (N : Int) := by omega
      have v1 : IntKind.i64.wrap (2 * (k : Int)) = 2 * (k : Int) := wrap_i64 (by omega) (by omega)
      have j0 : (0 : Int) ≤ 2 * (k : Int) := by omega
      have j1 : 2 * (k : Int) < (t.length : Int) := by omega
      have n1 : (2 * (k : Int)).toNat = 2 * k := by omega
      have w1 : IntKind.i64.wrap (x + d) = x + d := wrap_i64 (by omega) (by omega)
      have hbd : Below w.heap.size w wr.drew := hb.drew
      obtain ⟨av, cv, rfl⟩ := ownT_slice hown
      have hownd : NumS w.heap.size ((wr.alloc (.cells #[.int .i64 x, .int .i64 (x + d)] 3)).drew) (.slice av zs.length cv) zs := (hown.later ((Below.refl _ _).alloc (Nat.le_refl _) _)).later (Below.refl _ _).drew
      have HKL := Lib.hid hkl
      have hz16 : zs.length ≤ 16 := by omega
      have hA : Below w.heap.size w (wr.drew.alloc (.cells #[.int .i64 x, .int .i64 (x + d)] 3)) := hbd.alloc hsz _
      clear hx hx2 hd hnx hzs hks hkt ct cs hkl
      go_wp2_with fail
      refine wp_region_held (S := fun X => X.cell? ⟨bt, ot + 2 * k, none⟩ = some (.int .i64 x) ∧ X.cell? ⟨bs, os + k, none⟩ = some (.int .i64 d)) (by kernel_rfl) ?_
      have hHeld := mkS _ hbd
      refine todo [0, 1, 2, 3, 4, 5, 6, 7, 8, 9, 10, 11, 12, 13, 14, 15] ?_
      iterate 16
       refine todoH (v := ?_) rfl (by kernel_rfl) (fun _ _ _ h => h) (by assumption) (Or.inl ⟨by rfl, ?_⟩) ?_
       rotate_left
       · intro w hSw; (try dsimp only at hSw); go_simp; (try with_reducible rfl)
       try simp only [Act.put, List.getElem_toArray, List.getElem_cons_succ, List.getElem_cons_zero, List.setIfInBounds_toArray, List.set_cons_zero, List.set_cons_succ]
      refine todone ?_
      refine wpAnyH_ready (rs := [16]) (by kernel_rfl) (by simp) ?_
      refine AllReadyH.cons rfl (fun K hK => ?sal) AllReadyH.nil
      go_simp
      refine hK.out _ _ ?kal (fun hHeld => ?mal)
      case kal =>
        try dsimp only
        exact mkS _ hA
      clear hK K
      try simp only [Act.put, List.getElem_toArray, List.getElem_cons_succ, List.getElem_cons_zero, List.setIfInBounds_toArray, List.set_cons_zero, List.set_cons_succ]
      refine wpAnyH_ready (rs := [17]) (by kernel_rfl) (by simp) ?_
      refine AllReadyH.cons rfl (fun K hK => ?sap) AllReadyH.nil
      refine step_append_ownT rfl _ _ 22 rfl w.heap.size 3 i0 (.int .i64 0) 1 8 Tryz.underlying22 hi hz0 hz1 hz2 rfl (by decide) _ zs.length (zs.map (Value.int .i64)) rfl hownd ⟨wr.drew.heap.size, 0, none⟩ 2 2 [.int .i64 x, .int .i64 (x + d)] rfl rfl (fun j u hj => ?cel) (by simp [Value.oneCell']) (by unfold maxLen; omega) (by omega) (by simp; omega) ?_
      case cel =>
        have R := Row.new wr.drew 3 #[.int .i64 x, .int .i64 (x + d)]
        match j, hj with
        | 0, hj => simp at hj; subst hj; exact R.cell 0
        | 1, hj => simp at hj; subst hj; exact R.cell 1
        | j + 2, hj => simp at hj
      intro v' w6 hown' hgrow _
      have hb6 : Below w.heap.size w w6 := hA.grown hgrow (by simp; omega) (fun k hk => (hownd.lt k hk).1)
      have hN6 : NumS w.heap.size w6 v' (zs ++ [x, x + d]) := by
        unfold NumS
        rw [List.length_append, List.map_append]
        exact hown'
      refine hK.out _ _ (mkS _ hb6) (fun hHeld2 => ?_)
      clear hK K hHeld
      have hHeld := hHeld2
      clear hHeld2
      try simp only [Act.put, List.getElem_toArray, List.getElem_cons_succ, List.getElem_cons_zero, List.setIfInBounds_toArray, List.set_cons_zero, List.set_cons_succ]
      refine wpAnyH_ready (rs := [18]) (by kernel_rfl) (by simp) ?_
      refine AllReadyH.cons rfl (fun K hK => ?sas) AllReadyH.nil
      go_simp
      refine hK.out _ _ ?kas (fun hHeld => ?mas)
      case kas =>
        try dsimp only
        exact mkS _ hb6
      clear hK K
      try simp only [Act.put, List.getElem_toArray, List.getElem_cons_succ, List.getElem_cons_zero, List.setIfInBounds_toArray, List.set_cons_zero, List.set_cons_succ]
      refine wpAnyH_done (by kernel_rfl) ?_ _
      go_wp2_with fail
      go_roundw
      case rel => exact ⟨k + 1, by go_num, by omega, by rw [HNX.out, HZS.out]; exact hN6, hb6⟩
      case measure => simp [intOf]; omega
    · obtain rfl : k = N := by omega
      have hltI : ¬ (k : Int) < (k : Int) := by omega
      have hR : ResS w.heap.size wr _ res := ⟨by rw [← HRES.out, HIL.out, HN.out]; exact hown, by
        rw [← HRES.out]
        intro y hy
        obtain ⟨i, hi', hm⟩ := List.mem_flatMap.1 hy
        have h := HR.out i (List.mem_range.1 hi')
        simp only [List.mem_cons, List.not_mem_nil, or_false] at hm
        rcases hm with rfl | rfl <;> omega⟩
      have HRR := Lib.hid hR
      clear hown hR
      go_wp2
      go_ret
      exact ⟨_, rfl, HRR.out, hb⟩
end
end Go.Proofs.YtooglnhlhgmhdaaGreat
