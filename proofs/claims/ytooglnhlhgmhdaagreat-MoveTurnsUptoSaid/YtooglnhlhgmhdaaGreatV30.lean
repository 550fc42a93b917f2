/-
  Package move as it landed: Transpose, Reshape, Broadcast, Pad. (Made by wip/gen/gen_mfuncs.py.)
-/
import Derived.Test.YtooglnhlhgmhdaaGreatV1
import Derived.Test.YtooglnhlhgmhdaaGreatV2
import Derived.Test.YtooglnhlhgmhdaaGreatV3
import Derived.Test.YtooglnhlhgmhdaaGreatV4
import Derived.Test.YtooglnhlhgmhdaaGreatV5
import Derived.Test.YtooglnhlhgmhdaaGreatV6
import Derived.Test.YtooglnhlhgmhdaaGreatV7
import Derived.Test.YtooglnhlhgmhdaaGreatV9
import Derived.Test.YtooglnhlhgmhdaaGreatV11
import Derived.Test.YtooglnhlhgmhdaaGreatV12
import Derived.Test.YtooglnhlhgmhdaaGreatV13
import Derived.Test.YtooglnhlhgmhdaaGreatV14
import Derived.Test.YtooglnhlhgmhdaaGreatV16
import Derived.Test.YtooglnhlhgmhdaaGreatV17
import Derived.Test.YtooglnhlhgmhdaaGreatV18
import Derived.Test.YtooglnhlhgmhdaaGreatV20
import Derived.Test.YtooglnhlhgmhdaaGreatV21
import Derived.Test.YtooglnhlhgmhdaaGreatV22
import Derived.Test.YtooglnhlhgmhdaaGreatV23
import Derived.Test.YtooglnhlhgmhdaaGreatV25
import Derived.Test.YtooglnhlhgmhdaaGreatV26
import Derived.Test.YtooglnhlhgmhdaaGreatV27
import Derived.WalkKit
import Derived.Test.YtooglnhlhgmhdaaGreatRows
import Derived.BigQuiet
import Derived.Deep.QuietTactic
import Derived.Lib.Hide
import Derived.Lib.Small
import Derived.Lib.Walk
import Derived.Lib.BitFns
import Derived.Maps.AppendAt
import Derived.RangeFuncNested
import Derived.RangeFuncBound
import Derived.RangeFuncCalls
import Derived.RangeFuncLeaves
import Derived.Shelf.Abstract
import Derived.OwnWalkIn
import Derived.TacticsInMore
import Derived.LoopNIn
import Derived.LoopIn
import Derived.RangeFuncBox
import Derived.Deep.RegionHeld3
import Derived.OrdersIn
import Derived.StillTailTactics
import Derived.RangeFuncFrom
import Derived.Laws.EntriesVeiled
import Derived.ProofKit
import Derived.OpenShut
import Derived.JoinedCond
import Derived.Carry
import Derived.Laws.AppendOwnNone
import Derived.Lib.ItoaNum
import Derived.Deep.RegionLaw
import Derived.WalkMore
import Derived.Lib.SmallJoins
import Derived.IntWalk
import Derived.Deep.DeepCutAuto
import Derived.Laws.OwnMore
import Derived.OrdersHeld
import Derived.Deep.RegionHeld
import Derived.ArgAppend
import Derived.Deep.Slices
import Derived.Laws.CopyOwn
import Derived.Lib.SliceRun
namespace Go.Proofs.YtooglnhlhgmhdaaGreat
set_option maxRecDepth 100000
section
open Go.RowKit Go.Shelf
attribute [local go_sem] Oper.semAt_some
set_option linter.unusedVariables false
set_option linter.unusedSimpArgs false
theorem FitQ.sub {X Y : Rat} {a b : Nat} (h : FitQ X a) (k : FitQ Y b) : FitQ (X - Y) (a + b + 1) := by
  have e : X - Y = X + -Y := by grind
  rw [e]
  refine h.add ⟨?_, ?_⟩
  · rw [Rat.neg_num, Int.natAbs_neg]; exact k.1
  · rw [Rat.neg_den]; exact k.2
set_option maxRecDepth 100000 in
set_option maxHeartbeats 16000000 in
theorem dotGood_any {n B0 : Nat} {w : World} {u v : Value} {s1 s2 : List Int} {q1 q2 : List Q3} {a1 b1 a2 b2 : Option Addr} {ca1 cb1 ca2 cb2 : Nat} (T1 : TensQ w u s1 q1 a1 ca1 b1 cb1) (T2 : TensQ w v s2 q2 a2 ca2 b2 cb2) (hs1 : s1.length ≤ 1048576) (hs2 : s2.length ≤ 1048576) (hq1 : q1.length ≤ 1048576) (hq2 : q2.length ≤ 1048576) (hl1 : lensQ q1 n) (hl2 : lensQ q2 n) (hn : n ≤ 4000000)
    (hm1 : mayT s1 q1 = 0) (hm2 : mayT s2 q2 = 0) (hs : s1 = s2) (hfit : ∀ k, k ≤ q1.length → FitQ (dotN (q1.map Q3.rat) (q2.map Q3.rat) k) B0) (hB0 : B0 ≤ 100000000) :
    Calls Tryz.prog 37 #[u, v] w fun e w' => ∃ r, e = .returned (.tuple #[r, .int .i64 0]) ∧ ResQ w.heap.size w' r (dotN (q1.map Q3.rat) (q2.map Q3.rat) q1.length) (B0 / 32 + 1) ∧ Below w.heap.size w w' := by
  obtain rfl := T1.is
  obtain rfl := T2.is
  obtain ⟨B, hB⟩ : ∃ B, w.heap.size = B := ⟨_, rfl⟩
  obtain ⟨W1, hW1⟩ : ∃ W1, w.alloc (.cells #[.slice a1 s1.length ca1, .slice b1 q1.length cb1] 26) = W1 := ⟨_, rfl⟩
  obtain ⟨W2, hW2⟩ : ∃ W2, W1.alloc (.cells #[.slice a2 s2.length ca2, .slice b2 q2.length cb2] 26) = W2 := ⟨_, rfl⟩
  obtain ⟨W3, hW3⟩ : ∃ W3, W2.alloc (.cells #[.bool false, .slice none 0 0, .slice none 0 0] 58) = W3 := ⟨_, rfl⟩
  obtain ⟨V, hV⟩ : ∃ V, W3.alloc (.cells #[.slice a1 s1.length ca1, .slice b1 q1.length cb1, .slice a2 s2.length ca2, .slice b2 q2.length cb2] 26) = V := ⟨_, rfl⟩
  have s1' : W1.heap.size = B + 1 := by rw [← hW1, ← hB]; simp
  have s2' : W2.heap.size = B + 1 + 1 := by rw [← hW2, World.size_alloc, s1']
  have s3' : W3.heap.size = B + 1 + 1 + 1 := by rw [← hW3, World.size_alloc, s2']
  have sV : V.heap.size = B + 1 + 1 + 1 + 1 := by rw [← hV, World.size_alloc, s3']
  have R0' : Row W3 B 26 #[.slice a1 s1.length ca1, .slice b1 q1.length cb1] := by rw [← hW3, ← hW2, ← hW1, ← hB]; exact ((Row.new _ _ _).alloc _).alloc _
  have R1' : Row W3 (B + 1) 26 #[.slice a2 s2.length ca2, .slice b2 q2.length cb2] := by rw [← hW3, ← hW2, ← s1']; exact (Row.new _ _ _).alloc _
  have R0 : Row V B 26 #[.slice a1 s1.length ca1, .slice b1 q1.length cb1] := by rw [← hV]; exact R0'.alloc _
  have R1 : Row V (B + 1) 26 #[.slice a2 s2.length ca2, .slice b2 q2.length cb2] := by rw [← hV]; exact R1'.alloc _
  have R2 : Row V (B + 1 + 1) 58 #[.bool false, .slice none 0 0, .slice none 0 0] := by rw [← hV, ← hW3, ← s2']; exact (Row.new _ _ _).alloc _
  have R3 : Row V (B + 1 + 1 + 1) 26 #[.slice a1 s1.length ca1, .slice b1 q1.length cb1, .slice a2 s2.length ca2, .slice b2 q2.length cb2] := by rw [← hV, ← s3']; exact Row.new _ _ _
  have hbV : Below B w V := by rw [← hV, ← hW3, ← hW2, ← hW1]; exact ((((Below.refl _ w).alloc (by omega) _).alloc (by simp; omega) _).alloc (by simp; omega) _).alloc (by simp; omega) _
  obtain ⟨x0, x1, _, _⟩ := R0'.two
  obtain ⟨x2, x3, _, _⟩ := R1'.two
  have HT1 := Lib.hid T1
  have HT2 := Lib.hid T2
  have HL1 := Lib.hid hl1
  have HL2 := Lib.hid hl2
  have may1 : ∀ X, Below V.heap.size V X → Calls Tryz.prog 40 #[.agg #[.slice a1 s1.length ca1, .slice b1 q1.length cb1]] X fun e w' => e = .returned (.int .i64 (mayT s1 q1)) ∧ Below X.heap.size X w' := fun X hb =>
    mayT7_any (HT1.out.later (by rw [hB]; exact hbV.trans (hb.mono (by omega)))) hs1 hq1 HL1.out hn
  have may2 : ∀ X, Below V.heap.size V X → Calls Tryz.prog 40 #[.agg #[.slice a2 s2.length ca2, .slice b2 q2.length cb2]] X fun e w' => e = .returned (.int .i64 (mayT s2 q2)) ∧ Below X.heap.size X w' := fun X hb =>
    mayT7_any (HT2.out.later (by rw [hB]; exact hbV.trans (hb.mono (by omega)))) hs2 hq2 HL2.out hn
  have same : ∀ X, Below V.heap.size V X → Calls Tryz.prog 73 #[.slice a1 s1.length ca1, .slice a2 s2.length ca2] X fun e w' => e = .returned (.bool (decide (s1 = s2))) ∧ Below X.heap.size X w' := fun X hb =>
    sameS_any (HT1.out.sh.later (by rw [hB]; exact hbV.trans (hb.mono (by omega)))) (HT2.out.sh.later (by rw [hB]; exact hbV.trans (hb.mono (by omega)))) HT1.out.nila HT2.out.nila (by omega) (by omega)
  obtain ⟨c1, hc1⟩ : ∃ c, mayT s1 q1 = c := ⟨_, rfl⟩
  obtain ⟨c2, hc2⟩ : ∃ c, mayT s2 q2 = c := ⟨_, rfl⟩
  obtain ⟨t, ht⟩ : ∃ t, decide (s1 = s2) = t := ⟨_, rfl⟩
  rw [hc1] at may1
  rw [hc2] at may2
  rw [ht] at same
  have htt : t = true := by rw [← ht]; exact decide_eq_true hs
  have h10 : c1 = 0 := by rw [← hc1]; exact hm1
  have h20 : c2 = 0 := by rw [← hc2]; exact hm2
  subst htt
  subst h10
  subst h20
  have hp1 := (mayT_zero hm1).2.1
  have hp2 := (mayT_zero hm2).2.1
  rw [← hs] at hp2
  have hlen2 : q2.length = q1.length := by omega
  obtain ⟨es, hlim1, hall1⟩ := HT1.out.el.limE
  obtain ⟨fs, hlim2, hall2⟩ := HT2.out.el.limE
  have hsh1 : ShE es := shE_of hall1 (fun v x h => h.form)
  have hsh2 : ShE fs := shE_of hall2 (fun v x h => h.form)
  have hel1 : es.length = q1.length := hall1.1
  have hel2 : fs.length = es.length := by rw [hall2.1, hlen2, hall1.1]
  have HA1 := Lib.hid hall1
  have HA2 := Lib.hid hall2
  have HLEN := Lib.hid hlen2
  have HEL1 := Lib.hid hel1
  have HEL2 := Lib.hid hel2
  have hcap1 := HT1.out.el.le
  have HFIT := Lib.hid hfit
  rw [hB] at hlim1 hlim2
  clear T1 T2 hl1 hl2 hc1 hc2 ht hall1 hall2 hfit R0' R1'
  clear hs hp1 hp2
  rw [hlen2, ← hel1] at R1 R3 hV hW2 x3 hq2
  rw [← hel1] at R0 hW1 x1 hq1 hcap1
  clear hlen2
  rw [HLEN.out, ← hel1] at may2
  rw [← hel1] at may1
  rw [HLEN.out, ← hel1]
  clear hel1 hel2
  have hmk := make_rowQ es.length (by omega)
  obtain ⟨n', hn'⟩ : ∃ n' : Nat, Hid (3 ≤ n') := ⟨3, Nat.le_refl 3⟩
  refine (callsIn_wide (n := n')).1 ?_
  refine callsIn_of_wp_marks Tryz.func37 rfl trivial ?_ rfl
  simp only [Tryz.ntmps37, List.size_toArray, List.length_cons, List.length_nil, Nat.reduceAdd, Nat.reduceSub, Array.replicate_succ, Array.replicate_zero, List.push_toArray, List.append_toArray, List.nil_append, List.cons_append]
  gi_wp2_with fail
  gi_loopw [7, 8, 16] (fun _ _ i wr => ∃ k : Nat, k ≤ 2 ∧ i = .int .i64 (k : Int) ∧ Below V.heap.size V wr) (fun _ _ i _ => 2 - (intOf i).toNat)
  case atStart => exact ⟨0, by omega, rfl, Below.refl _ _⟩
  case round =>
    obtain ⟨k, hk2, rfl, hb⟩ := hrel
    have hsz := hb.size
    have rows := R3.later hb
    have d0 := rows.cell 0
    have d1 := rows.cell 1
    have d2 := rows.cell 2
    have d3 := rows.cell 3
    simp at d0 d1 d2 d3
    have hk : k = 0 ∨ k = 1 ∨ k = 2 := by omega
    rcases hk with rfl | rfl | rfl
    · gi_wp2_with fail
      refine wideCall ((may1 _ (hb.alloc (by omega) _)).mono ?_)
      rintro e w5 ⟨rfl, b5⟩
      have hb5 : Below V.heap.size V w5 := (hb.alloc (by omega) _).trans (b5.mono (by simp; omega))
      gi_wp2
      go_roundw
      case rel => exact ⟨1, by omega, by go_num, hb5⟩
      case measure => simp [intOf]
    · gi_wp2_with fail
      refine wideCall ((may2 _ (hb.alloc (by omega) _)).mono ?_)
      rintro e w5 ⟨rfl, b5⟩
      have hb5 : Below V.heap.size V w5 := (hb.alloc (by omega) _).trans (b5.mono (by simp; omega))
      gi_wp2
      go_roundw
      case rel => exact ⟨2, by omega, by go_num, hb5⟩
      case measure => simp [intOf]
    · obtain ⟨p0, p1, _, _⟩ := (R0.later hb).two
      obtain ⟨p2, p3, _, _⟩ := (R1.later hb).two
      gi_wp2_with fail
      refine wideCall ((same wr hb).mono ?_)
      rintro e w5 ⟨rfl, b5⟩
      have hb5 : Below V.heap.size V w5 := hb.trans (b5.mono hsz)
      clear p0 p1 p2 p3 d0 d1 d2 d3 rows
      obtain ⟨p0, p1, _, _⟩ := (R0.later hb5).two
      obtain ⟨p2, p3, _, _⟩ := (R1.later hb5).two
      gi_wp2_with fail
      obtain ⟨G, hG⟩ : ∃ G, w5.heap.size = G := ⟨_, rfl⟩
      obtain ⟨U1, hU1⟩ : ∃ U1, w5.alloc (.cells (madeCells #[.bool false, .slice none 0 0, .slice none 0 0] (es.length * 3)) 58) = U1 := ⟨_, rfl⟩
      obtain ⟨U, hU⟩ : ∃ U, U1.alloc (.cells #[.slice (some ⟨G, 0, none⟩) 0 es.length] 100) = U := ⟨_, rfl⟩
      have sU1 : U1.heap.size = G + 1 := by rw [← hU1, World.size_alloc, hG]
      have sU : U.heap.size = G + 1 + 1 := by rw [← hU, World.size_alloc, sU1]
      have hGV : V.heap.size ≤ G := by have := hb5.size; omega
      have dP : Boxed U (G + 1) 100 (.slice (some ⟨G, 0, none⟩) 0 es.length) := by
        have h := Boxed.new U1 100 (.slice (some ⟨G, 0, none⟩) 0 es.length)
        rw [sU1, hU] at h; exact h
      have dO : OwnE G 58 U (.slice (some ⟨G, 0, none⟩) 0 es.length) [] := by
        have h : U1.ownsRow w5.heap.size 58 3 (.slice (some ⟨w5.heap.size, 0, none⟩) 0 es.length) 0 [] := by
          rw [← hU1]
          exact World.ownsRow_made w5 _ es.length (by omega) (by unfold maxLen; omega) (madeCells_len _ _)
        rw [← hU, ← hG]; exact h.alloc _
      have bVU : Below V.heap.size V U := by rw [← hU, ← hU1]; exact (hb5.alloc (by omega) _).alloc (by simp; omega) _
      simp only [hG, hU1, hU]
      clear hU hU1 hmk p0 p1 p2 p3 may1 may2 same
      have mkS : ∀ Y, Below U.heap.size U Y → Y.cell? ⟨B, 0, none⟩ = some (.slice a1 s1.length ca1) ∧ Y.cell? ⟨B, 1, none⟩ = some (.slice b1 es.length cb1) ∧ Y.cell? ⟨B + 1, 0, none⟩ = some (.slice a2 s2.length ca2) ∧ Y.cell? ⟨B + 1, 1, none⟩ = some (.slice b2 es.length cb2) := fun Y hb => by
        have hb' := bVU.trans (hb.mono bVU.size)
        obtain ⟨x0, x1, _⟩ := (R0.later hb').two
        obtain ⟨x2, x3, _⟩ := (R1.later hb').two
        exact ⟨x0, x1, x2, x3⟩
      have b0 : Below U.heap.size U U.drew := (Below.refl _ U).drew
      refine region_wide (fun Y => Y.cell? ⟨B, 0, none⟩ = some (.slice a1 s1.length ca1) ∧ Y.cell? ⟨B, 1, none⟩ = some (.slice b1 es.length cb1) ∧ Y.cell? ⟨B + 1, 0, none⟩ = some (.slice a2 s2.length ca2) ∧ Y.cell? ⟨B + 1, 1, none⟩ = some (.slice b2 es.length cb2)) (by kernel_rfl) (by kernel_rfl) (mkS _ b0) (fun hHeld => ?_)
      refine todo [0, 2] ?_
      iterate 2
       refine todoH (v := ?_) rfl (by kernel_rfl) (fun _ _ _ h => h) (by assumption) (Or.inl ⟨by rfl, ?_⟩) ?_
       rotate_left
       · intro w hSw; (try dsimp only at hSw); go_simp; (try with_reducible rfl)
       try simp only [Act.put, List.getElem_toArray, List.getElem_cons_succ, List.getElem_cons_zero, List.setIfInBounds_toArray, List.set_cons_zero, List.set_cons_succ]
      refine todone ?_
      refine wpAnyH_ready (rs := [1]) (by kernel_rfl) (by simp) ?_
      refine AllReadyH.cons rfl (fun K hK => ?sc1) AllReadyH.nil
      go_simp
      refine (elements_any _ _ _ _ _ _ _).mono ?_
      rintro e w6 ⟨rfl, b6⟩
      go_simp
      have b06 : Below U.heap.size U w6 := b0.trans b6
      have s6 := b06.size
      refine hK.out _ _ ?kc1 (fun hHeld => ?mc1)
      case kc1 =>
        try dsimp only
        exact mkS _ b06
      clear hK K
      try simp only [Act.put, List.setIfInBounds_toArray, List.set_cons_zero, List.set_cons_succ]
      refine wpAnyH_ready (rs := [3]) (by kernel_rfl) (by simp) ?_
      refine AllReadyH.cons rfl (fun K hK => ?sc3) AllReadyH.nil
      go_simp
      refine (elements_any _ _ _ _ _ _ _).mono ?_
      rintro e w7 ⟨rfl, b7⟩
      go_simp
      have b07 : Below U.heap.size U w7 := b06.trans (b7.mono s6)
      have s7 := b07.size
      refine hK.out _ _ ?kc3 (fun hHeld => ?mc3)
      case kc3 =>
        try dsimp only
        exact mkS _ b07
      clear hK K
      try simp only [Act.put, List.setIfInBounds_toArray, List.set_cons_zero, List.set_cons_succ]
      refine wpAnyH_ready (rs := [4]) (by kernel_rfl) (by simp) ?_
      refine AllReadyH.cons rfl (fun K hK => ?sc4) AllReadyH.nil
      go_simp
      refine (besideQ_any _ _ _ _ _ _ _).mono ?_
      rintro e w8 ⟨rfl, rfl⟩
      go_simp
      have b08 : Below U.heap.size U ((w7.alloc (.cells #[.slice b1 es.length cb1] 100)).alloc (.cells #[.slice b2 es.length cb2] 100)) := (b07.alloc (by omega) _).alloc (by simp; omega) _
      refine hK.out _ _ ?kc4 (fun hHeld => ?mc4)
      case kc4 =>
        try dsimp only
        exact mkS _ b08
      clear hK K
      try simp only [Act.put, List.setIfInBounds_toArray, List.set_cons_zero, List.set_cons_succ]
      refine wpAnyH_done (by kernel_rfl) ?_ _
      dsimp only [Straight]
      gi_wp2_with fail
      obtain ⟨I, hI⟩ : ∃ I, w7.heap.size = I := ⟨_, rfl⟩
      obtain ⟨Z1, hZ1⟩ : ∃ Z1, w7.alloc (.cells #[.slice b1 es.length cb1] 100) = Z1 := ⟨_, rfl⟩
      obtain ⟨Z, hZ⟩ : ∃ Z, Z1.alloc (.cells #[.slice b2 es.length cb2] 100) = Z := ⟨_, rfl⟩
      rw [hZ1, hZ] at b08
      have sZ1 : Z1.heap.size = I + 1 := by rw [← hZ1, World.size_alloc, hI]
      have sZ : Z.heap.size = I + 1 + 1 := by rw [← hZ, World.size_alloc, sZ1]
      have d5 : Boxed Z I 100 (.slice b1 es.length cb1) := by rw [← hZ, ← hZ1, ← hI]; exact (Boxed.new _ _ _).alloc _
      have d6 : Boxed Z (I + 1) 100 (.slice b2 fs.length cb2) := by
        have h := Boxed.new Z1 100 (.slice b2 es.length cb2)
        rw [sZ1, hZ] at h
        rw [HEL2.out]; exact h
      have kU := KeepC.below b08
      have bVZ : Below V.heap.size V Z := bVU.trans (b08.mono (by omega))
      have e2 := R2.later bVZ
      have hbZ : Below B w Z := hbV.trans (bVZ.mono (by omega))
      simp only [hI, hZ1, hZ]
      have h3 : 3 ≤ n' := hn'
      have hI3 : G + 1 + 1 ≤ I := by omega
      obtain ⟨i0, hi, hz0, hz1, hz2⟩ := info_parts infoQ7
      obtain ⟨m, hm⟩ : ∃ m, (B0 + B0 + 1) / 32 + 1 = m := ⟨_, rfl⟩
      have hmB : m ≤ 8000000 := by omega
      have HM := Lib.hid hm
      clear hZ hZ1 hm
      refine wpIn_rangeFunc_ownH (F := Fence.wide) (n := n') rfl (by omega) (gf := 99) (lb := #[.pointer (some ⟨I, 0, none⟩), .pointer (some ⟨I + 1, 0, none⟩)]) rfl trivial (enters_of Tryz.func99 (by kernel_rfl) rfl)
        (besideQ_stops (n' - 1) I B b1 b2 es fs cb1 cb2 (by omega) HEL2.out Z (by omega) (by omega) d5.cell d6.cell (hlim1.below hbZ) (hlim2.below hbZ) hsh1 hsh2) KpS.trans (KpS.b (by omega) (by omega)) (Below.refl _ _) (fun _ => rfl)
        (fun (pre : List (Fin es.length)) X => ∃ v gs, Boxed X (G + 1) 100 v ∧ Boxed X (I + 1) 100 (.slice b2 fs.length cb2) ∧ OwnE G 58 X v gs ∧
          AllE (fun u x => ResQ B X u x m) gs (pre.map (fun x => (q1[x.val]?.getD ⟨false, [], []⟩).rat * (q2[x.val]?.getD ⟨false, [], []⟩).rat)) ∧ Row X (B + 1 + 1) 58 #[.bool false, .slice none 0 0, .slice none 0 0] ∧ Below B w X ∧ I + 1 + 1 ≤ X.heap.size)
        (fun c pre X => False)
        (fun pre X Y row ⟨v, gs, h1, h2, h3, h4, h5, h7, h8⟩ hg hr => by
          have kk := KeepC.grown hg (fun r e => (hr r e).2)
          exact ⟨v, gs, Boxed.keepC h1 kk, Boxed.keepC h2 kk, h3.keepC kk, h4.imp (fun _ _ _ h => h.keepC kk), h5.keepC kk, h7.grown hg (by have := h7.size; omega) (fun k e => by have := (hr k e).1; omega), Nat.le_trans h8 hg.size⟩)
        (fun _ _ _ _ _ hs _ _ => hs)
        ⟨_, [], Boxed.keepC dP kU, d6, dO.keepC kU, AllE.nil _, e2, hbZ, by omega⟩
        (fun (x : Fin es.length) a' X => ∃ p1 p2 v0, I + 1 + 1 ≤ p1 ∧ I + 1 + 1 ≤ p2 ∧ (Boxed X (G + 1) 100 v0 ∧ v0.ownBlock ≠ some p1 ∧ v0.ownBlock ≠ some p2) ∧ Row X p1 58 #[(es[x.val]?.getD dfE).a, (es[x.val]?.getD dfE).b, (es[x.val]?.getD dfE).c] ∧ Row X p2 58 #[(fs[x.val]?.getD dfE).a, (fs[x.val]?.getD dfE).b, (fs[x.val]?.getD dfE).c] ∧
          a' = { tmps := #[.agg #[.slice a1 s1.length ca1, .slice b1 es.length cb1], .agg #[.slice a2 s2.length ca2, .slice b2 es.length cb2], .pointer (some ⟨B, 0, none⟩), .pointer (some ⟨B + 1, 0, none⟩), .pointer (some ⟨B + 1 + 1, 0, none⟩), u5, undef, u7, u8, .pointer (some ⟨G + 1, 0, none⟩), .pointer (some ⟨p1, 0, none⟩), .pointer (some ⟨p2, 0, none⟩),
          .agg #[.slice a1 s1.length ca1, .slice b1 es.length cb1], .agg #[.slice a2 s2.length ca2, .slice b2 es.length cb2], .slice (some ⟨B + 1 + 1 + 1, 0, none⟩) 2 2, .int .i64 2, .int .i64 2, .bool false, u18, u19, u20, u21, u22, u23, u24, u25, u26, .pointer (some ⟨B, 0, none⟩), .slice a1 s1.length ca1, .pointer (some ⟨B + 1, 0, none⟩), .slice a2 s2.length ca2, .bool true, .bool false, undef,
          .pointer (some ⟨B, 1, none⟩), .slice b1 es.length cb1, .int .i64 es.length, .slice (some ⟨G, 0, none⟩) 0 es.length, .agg #[.slice a1 s1.length ca1, .slice b1 es.length cb1], .slice b1 es.length cb1, .agg #[.slice a2 s2.length ca2, .slice b2 es.length cb2], .slice b2 es.length cb2,
          .func (.func 99) #[] #[.pointer (some ⟨I, 0, none⟩), .pointer (some ⟨I + 1, 0, none⟩)], .agg #[(es[x.val]?.getD dfE).a, (es[x.val]?.getD dfE).b, (es[x.val]?.getD dfE).c], .agg #[(fs[x.val]?.getD dfE).a, (fs[x.val]?.getD dfE).b, (fs[x.val]?.getD dfE).c], undef, undef, undef, undef, undef, undef, undef, undef], defers := [] })
        (fun x a' _ X Y row ⟨p1, p2, v0, g1, g2, ⟨h4, h5, h6⟩, h1, h2, h3⟩ hg hr => ⟨p1, p2, v0, g1, g2, ⟨Boxed.keepC h4 (KeepC.grown hg (fun r e => (hr r e).2)), h5, h6⟩, h1.keepC (KeepC.grown hg (fun r e => (hr r e).2)), h2.keepC (KeepC.grown hg (fun r e => (hr r e).2)), h3⟩)
        ?assign ?body ?done ?stop
      case assign =>
        rintro l pre ⟨k, hk⟩ X K ⟨v, gs, h1, h2, h3, h4, h5, h7, h8⟩ hK
        obtain ⟨z1, z2, z3, z4, z5, z6, z7, he⟩ := hsh1 k hk
        obtain ⟨y1, y2, y3, y4, y5, y6, y7, hf⟩ := hsh2 k (by rw [HEL2.out]; exact hk)
        have hs7 := h7.size
        have hbX1 : Below X.heap.size X (X.alloc (.cells #[.bool z1, .slice z2 z3 z4, .slice z5 z6 z7] 58)) := (Below.refl _ _).alloc (Nat.le_refl _) _
        have hbX : Below X.heap.size X ((X.alloc (.cells #[.bool z1, .slice z2 z3 z4, .slice z5 z6 z7] 58)).alloc (.cells #[.bool y1, .slice y2 y3 y4, .slice y5 y6 y7] 58)) := hbX1.alloc (by simp) _
        have kk := KeepC.below hbX
        have HK := Lib.hid hK
        simp only [ratsAt]
        rw [he, hf]
        simp only
        clear hK
        gi_wp2
        refine HK.out _ _ (keepsFrom_below hbX) ⟨hbX.mono (by omega), hbX.block (I + 1) (by omega)⟩ ⟨v, gs, Boxed.keepC h1 kk, Boxed.keepC h2 kk, h3.keepC kk, h4.imp (fun _ _ _ h => h.keepC kk), h5.keepC kk, h7.trans (hbX.mono (by omega)), by simp; omega⟩
          ⟨X.heap.size, X.heap.size + 1, v, h8, by omega, ⟨Boxed.keepC h1 kk, (fun e => by have := (h3.lt _ e).2; omega), (fun e => by have := (h3.lt _ e).2; omega)⟩, ?_, ?_, ?_⟩
        · simp only [he]; exact (Row.new _ _ _).alloc _
        · simp only [hf]
          have h := Row.new (X.alloc (.cells #[.bool z1, .slice z2 z3 z4, .slice z5 z6 z7] 58)) 58 #[.bool y1, .slice y2 y3 y4, .slice y5 y6 y7]
          simp only [World.size_alloc] at h
          exact h
        · simp only [he, hf]
      case body =>
        rintro l pre ⟨k, hk⟩ a' X hl hrec ⟨v, gs, h1, h2, h3, h4, h5, h7, h8⟩ ⟨p1, p2, v0, hp1, hp2, ⟨hv0, hvp1, hvp2⟩, hR, hR', rfl⟩ hlt
        have hkf : k < fs.length := by rw [HEL2.out]; exact hk
        obtain ⟨z1, z2, z3, z4, z5, z6, z7, he⟩ := hsh1 k hk
        obtain ⟨y1, y2, y3, y4, y5, y6, y7, hf⟩ := hsh2 k hkf
        simp only at hR hR' ⊢
        rw [he] at hR ⊢
        rw [hf] at hR' ⊢
        simp only at hR hR' ⊢
        have hkq : k < q1.length := by rw [← HEL1.out]; exact hk
        have hkq2 : k < q2.length := by rw [HLEN.out]; exact hkq
        have hqk : q1[k]? = some q1[k] := List.getElem?_eq_getElem hkq
        have hqk2 : q2[k]? = some q2[k] := List.getElem?_eq_getElem hkq2
        obtain ⟨p, hpe⟩ : ∃ q, q1[k] = q := ⟨_, rfl⟩
        obtain ⟨q, hqe⟩ : ∃ q, q2[k] = q := ⟨_, rfl⟩
        rw [hpe] at hqk
        rw [hqe] at hqk2
        have hek : es[k]? = some es[k] := List.getElem?_eq_getElem hk
        have hfk : fs[k]? = some fs[k] := List.getElem?_eq_getElem hkf
        have hraw := HA1.out.2 k _ _ hek hqk
        have hraw2 := HA2.out.2 k _ _ hfk hqk2
        have e2 : es[k] = ⟨.bool z1, .slice z2 z3 z4, .slice z5 z6 z7⟩ := by rw [hek] at he; exact he
        have f2 : fs[k] = ⟨.bool y1, .slice y2 y3 y4, .slice y5 y6 y7⟩ := by rw [hfk] at hf; exact hf
        rw [e2] at hraw
        rw [f2] at hraw2
        have hlq := HL1.out p (List.mem_of_getElem? hqk)
        have hlq2 := HL2.out q (List.mem_of_getElem? hqk2)
        have hgd : q1[k]?.getD ⟨false, [], []⟩ = p := by rw [hqk]; rfl
        have hgd2 : q2[k]?.getD ⟨false, [], []⟩ = q := by rw [hqk2]; rfl
        obtain ⟨g0, g1, g2, _, _, _⟩ := hR.three
        obtain ⟨j0, j1, j2, _, _, _⟩ := hR'.three
        have hs7 := h7.size
        have hrX := hraw.later (hB.symm ▸ h7 : Below w.heap.size w X)
        have hrX2 := hraw2.later (hB.symm ▸ h7 : Below w.heap.size w X)
        have hfitpq : FitQ (p.rat * q.rat) (B0 + B0 + 1) := by
          have e : p.rat * q.rat = dotN (q1.map Q3.rat) (q2.map Q3.rat) (k + 1) - dotN (q1.map Q3.rat) (q2.map Q3.rat) k := by
            simp only [dotN, List.getD_eq_getElem?_getD, List.getElem?_map, hqk, hqk2, Option.map_some, Option.getD_some]
            grind
          rw [e]
          exact (HFIT.out _ (by omega)).sub (HFIT.out _ (by omega))
        obtain ⟨r, hrv, hrb, hrne, hrc, hro⟩ := ownV_hits h3 (by omega)
        have nP := hrne _ _ _ h1 (by decide)
        have nI := hrne _ _ _ h2 (by decide)
        have ev : v0 = v := by
          have := (show X.heap[G + 1]? = _ from hv0).symm.trans h1
          simpa using this
        have nR : p1 ≠ r ∧ p2 ≠ r := by
          rcases hro with e | e
          · rw [ev, e] at hvp1 hvp2
            exact ⟨fun e2 => hvp1 (by rw [e2]), fun e2 => hvp2 (by rw [e2])⟩
          · have := hR.lt
            have := hR'.lt
            omega
        clear hvp1 hvp2 hv0 ev
        have c1 := Boxed.cell h1
        have mkS2 : ∀ Y, Kept r X Y → Y.cell? ⟨G + 1, 0, none⟩ = some v ∧ Y.cell? ⟨p1, 0, none⟩ = some (.bool z1) ∧ Y.cell? ⟨p1, 1, none⟩ = some (.slice z2 z3 z4) ∧ Y.cell? ⟨p1, 2, none⟩ = some (.slice z5 z6 z7) ∧ Y.cell? ⟨p2, 0, none⟩ = some (.bool y1) ∧ Y.cell? ⟨p2, 1, none⟩ = some (.slice y2 y3 y4) ∧ Y.cell? ⟨p2, 2, none⟩ = some (.slice y5 y6 y7) ∧ Kept r X Y := fun Y h =>
          ⟨h.cell c1 nP, h.cell g0 nR.1, h.cell g1 nR.1, h.cell g2 nR.1, h.cell j0 nR.2, h.cell j1 nR.2, h.cell j2 nR.2, h⟩
        have hle : gs.length ≤ es.length := by rw [h4.1, List.length_map]; exact Nat.le_of_lt hlt
        refine wpIn_block ?_
        refine region_roundL (fun Y => Y.cell? ⟨G + 1, 0, none⟩ = some v ∧ Y.cell? ⟨p1, 0, none⟩ = some (.bool z1) ∧ Y.cell? ⟨p1, 1, none⟩ = some (.slice z2 z3 z4) ∧ Y.cell? ⟨p1, 2, none⟩ = some (.slice z5 z6 z7) ∧ Y.cell? ⟨p2, 0, none⟩ = some (.bool y1) ∧ Y.cell? ⟨p2, 1, none⟩ = some (.slice y2 y3 y4) ∧ Y.cell? ⟨p2, 2, none⟩ = some (.slice y5 y6 y7) ∧ Kept r X Y) 6
          (by kernel_rfl) (by kernel_rfl) (by rintro ⟨a', w', h⟩; exact h) (mkS2 _ ((Kept.refl r X).drew)) (fun hHeld => ?_)
        refine todo [0, 1, 2] ?_
        iterate 3
         refine todoL (v := ?_) rfl (by kernel_rfl) (fun _ _ _ h => h) (by assumption) (Or.inl ⟨by rfl, ?_⟩) ?_
         rotate_left
         · intro w hSw; (try dsimp only at hSw); go_simp; (try with_reducible rfl)
         try simp only [Act.put, List.getElem_toArray, List.getElem_cons_succ, List.getElem_cons_zero, List.setIfInBounds_toArray, List.set_cons_zero, List.set_cons_succ]
        refine todone ?_
        have bx0 : Below X.heap.size X X.drew := (Below.refl _ X).drew
        refine wpAnyL_one (i := 3) (by kernel_rfl) rfl (fun K hK => ?sb3)
        go_simp
        refine (mulQ_any ((hrX.later bx0).arg hlq.1 hlq.2) ((hrX2.later bx0).arg hlq2.1 hlq2.2) (by omega)).mono ?_
        rintro e w9 ⟨rv, rfl, qv, b9⟩
        obtain ⟨m5, f1, l1, j1', f2', l2, j2', rfl⟩ := qv.shape
        have Q5 := Lib.hid (qv.refit hfitpq)
        clear qv
        go_simp
        have hk5 : Kept r X w9 := ((Kept.refl r X).drew).below b9
        refine hK.out _ _ (fun _ => mkS2 _ hk5) (fun hHeld2 => ?mb3)
        clear hK K hHeld
        have hHeld := hHeld2 (by decide)
        clear hHeld2
        try simp only [Act.put, List.setIfInBounds_toArray, List.set_cons_zero, List.set_cons_succ]
        refine wpAnyL_one (i := 4) (by kernel_rfl) rfl (fun K hK => ?sb4)
        go_simp
        refine hK.out _ _ (fun _ => mkS2 _ (hk5.alloc _)) (fun hHeld2 => ?mb4)
        clear hK K hHeld
        have hHeld := hHeld2 (by decide)
        clear hHeld2
        try simp only [Act.put, List.setIfInBounds_toArray, List.set_cons_zero, List.set_cons_succ]
        refine wpAnyL_one (i := 5) (by kernel_rfl) rfl (fun K hK => ?sb5)
        have hb5w : Below X.heap.size X w9 := bx0.trans b9
        have hB5 : Below B w w9 := h7.trans (hb5w.mono (by omega))
        have kk5 : KeepC X w9 := KeepC.below hb5w
        have hown5 : OwnE G 58 w9 v gs := h3.keepC kk5
        have hall5 := h4.imp (Q := fun u x => ResQ B w9 u x m) fun u x _ h => h.keepC kk5
        have hsz5 := hb5w.size
        refine step_append_ownT rfl _ _ 100 rfl G 58 i0 _ 3 56 Tryz.underlying100 hi hz0 hz1 hz2 rfl (by decide) _ gs.length (flat3 gs) rfl (hown5.later ((Below.refl _ _).alloc (Nat.le_refl _) _)) ⟨w9.heap.size, 0, none⟩ 1 1 [.bool m5, .slice f1 l1 j1', .slice f2' l2 j2'] rfl rfl (cell_three_new _ _ _ _ _) (by simp [Value.oneCell']) (by unfold maxLen; omega) (by omega) (by simp; omega) ?_
        intro v' w10 hown' hgrow _
        obtain ⟨av, cv, rfl⟩ := ownT_slice hown'
        have hk6 : Kept r X w10 := (hk5.alloc _).grown hgrow hrv
        refine hK.out _ _ (fun _ => mkS2 _ hk6) (fun hHeld2 => ?mb5)
        clear hK K hHeld
        have hHeld := hHeld2 (by decide)
        clear hHeld2
        try simp only [Act.put, List.setIfInBounds_toArray, List.set_cons_zero, List.set_cons_succ]
        have R26 : Row w10 (G + 1) 100 #[v] := Row.kept h1 hk6 nP
        have f21 := R26.free 0
        have d21 := R26.cell 0
        refine wpAnyL_one (i := 6) (by kernel_rfl) rfl (fun K hK => ?sb6)
        go_simp
        refine hK.out _ _ (fun h => absurd rfl h) (fun _ => ?mb6)
        clear hK K
        try simp only [Act.put, List.setIfInBounds_toArray, List.set_cons_zero, List.set_cons_succ]
        refine wpAnyL_done (by kernel_rfl) ?_ _
        have hx5 : ResQ B w9 (E3.agg ⟨.bool m5, .slice f1 l1 j1', .slice f2' l2 j2'⟩) (p.rat * q.rat) m := by
          rw [← HM.out]
          exact Q5.out.mono (by show B ≤ X.heap.size; omega)
        have hB5G : Below G X w9 := hb5w.mono (by omega)
        obtain ⟨hrow6, hb6⟩ := pushE (P := fun W u x => ResQ B W u x m) (e := ⟨.bool m5, .slice f1 l1 j1', .slice f2' l2 j2'⟩) (base := G) (w := X) (by exact hB5G) (by omega) hown5 hall5 hx5 (fun u y h => h.apart hown5 hgrow (by decide)) hown' hgrow
        have hk6s := hk6.size
        have b6X : Below G X w10 := keptBelow hk6 hrb (by omega)
        obtain ⟨gs', ho', ha'⟩ := RowO.far (w' := w10.setCell ⟨G + 1, 0, none⟩ (.slice av (gs.length + 1) cv)) hrow6 R26 (by decide) (kept1 _) (fun u y h => h.far R26 (by decide) (kept1 _))
        have h5' : Row w10 (B + 1 + 1) 58 #[.bool false, .slice none 0 0, .slice none 0 0] := Row.kept h5 hk6 (by omega)
        have h2' : Boxed w10 (I + 1) 100 (.slice b2 fs.length cb2) := Row.kept h2 hk6 nI
        refine ⟨keepsFrom_set (keepsFrom_kept hk6 hrc) _ _, ⟨(b6X.mono (by omega)).setCell (by show B ≤ G + 1; omega) _, ?_⟩, ?_⟩
        · rw [Below.heap_setCell _ _ _ _ (by show I + 1 ≠ G + 1; omega)]
          exact hk6.block _ (by omega) nI
        · refine ⟨_, gs', Boxed.set _ R26, ?_, ho', ?_, ?_, (h7.trans (b6X.mono (by omega))).setCell (by show B ≤ G + 1; omega) _, by rw [setSize]; omega⟩
          · exact Row.far (p := ⟨G + 1, 0, none⟩) h2' (by show I + 1 ≠ G + 1; omega) _
          · rw [List.map_append, List.map_cons, List.map_nil]
            simp only [hgd, hgd2]
            exact ha'
          · exact Row.far (p := ⟨G + 1, 0, none⟩) h5' (by show B + 1 + 1 ≠ G + 1; omega) _
      case done =>
        rintro D ys X hD hup ⟨v, gs, h1, h2, h3, h4, h5, h7, h8⟩ hK
        have hsteps : ys.map (fun x : Fin es.length => (q1[x.val]?.getD ⟨false, [], []⟩).rat * (q2[x.val]?.getD ⟨false, [], []⟩).rat) = stepsD (dotN (q1.map Q3.rat) (q2.map Q3.rat)) 0 es.length := by
          have e1 : ys.map (fun x : Fin es.length => (q1[x.val]?.getD ⟨false, [], []⟩).rat * (q2[x.val]?.getD ⟨false, [], []⟩).rat) = (ys.map Fin.val).map (fun k => (q1[k]?.getD ⟨false, [], []⟩).rat * (q2[k]?.getD ⟨false, [], []⟩).rat) := by rw [List.map_map]; rfl
          rw [e1, show ys.map Fin.val = List.range es.length from hup]
          unfold stepsD
          apply List.map_congr_left
          intro k hk
          have hk1 : k < q1.length := by rw [← HEL1.out]; exact List.mem_range.1 hk
          have hk2 : k < q2.length := by rw [HLEN.out]; exact hk1
          simp only [Nat.zero_add, dotN, List.getD_eq_getElem?_getD, List.getElem?_map, List.getElem?_eq_getElem hk1, List.getElem?_eq_getElem hk2, Option.map_some, Option.getD_some]
          grind
        rw [hsteps] at h4
        have hrow : RowO G 58 (fun W u x => ResQ B W u x m) X v (stepsD (dotN (q1.map Q3.rat) (q2.map Q3.rat)) 0 es.length) := ⟨gs, h3, h4⟩
        obtain ⟨ad, cap, hA, _, _⟩ := hrow.arg
        have hv := hA.is
        rw [stepsD_len] at hv
        subst hv
        have c1 := Boxed.cell h1
        have hs7 := h7.size
        have hpos : 1 ≤ es.length := by
          have h1 := (mayT_zero hm1).1
          have h2 := (mayT_zero hm1).2.1
          have := prodS_pos h1.pos
          rw [HEL1.out]
          omega
        have hjoin := joinedQ_any (base := B) (m := m) (B2 := B0 + B0 + 1) (N := es.length) (dotN (q1.map Q3.rat) (q2.map Q3.rat)) (fun i j h1 h2 => (HFIT.out _ (by rw [← HEL1.out]; omega)).sub (HFIT.out _ (by rw [← HEL1.out]; omega))) HM.out.symm hmB (by omega) es.length 0 hpos (by omega) X ad cap hA (by omega)
        have hp0 : dotN (q1.map Q3.rat) (q2.map Q3.rat) (0 + es.length) - dotN (q1.map Q3.rat) (q2.map Q3.rat) 0 = dotN (q1.map Q3.rat) (q2.map Q3.rat) es.length := by
          rw [Nat.zero_add]
          simp only [dotN]
          grind
        rw [hp0] at hjoin
        have hDlt := lt_of_block hK
        gi_wp2_with fail
        refine wideCall (hjoin.mono ?_)
        rintro e w9 ⟨r9, rfl, Q9, b9⟩
        obtain ⟨m5, f1, l1, j1', f2', l2, j2', rfl⟩ := Q9.shape
        have hf0 : FitQ (dotN (q1.map Q3.rat) (q2.map Q3.rat) es.length) B0 := HFIT.out _ (by rw [HEL1.out]; exact Nat.le_refl _)
        have Q10 := Lib.hid (Q9.refit hf0)
        clear Q9
        have R9 := h5.later b9
        obtain ⟨u0, u1, u2, g0, g1, g2⟩ := R9.three
        have R10 := R9.set3 (.bool m5) (.slice f1 l1 j1') (.slice f2' l2 j2')
        have hK9 : w9.heap[D]? = some (.deferred (some [])) := (b9.block D hDlt).trans hK
        have hK10 : (((w9.setCell ⟨B + 1 + 1, 0, none⟩ (.bool m5)).setCell ⟨B + 1 + 1, 1, none⟩ (.slice f1 l1 j1')).setCell ⟨B + 1 + 1, 2, none⟩ (.slice f2' l2 j2')).heap[D]? = some (.deferred (some [])) := (kept3 _ _ _ D (by omega)).trans hK9
        have HR9 := Lib.hid R9
        have HR10 := Lib.hid R10
        clear R9 R10
        gi_wp2
        refine ⟨by simp, .inl ⟨_, _, rfl, run_takeDeferred hK10, ?_⟩⟩
        have kk := KeepC.grown (grownBy_putObj' (((w9.setCell ⟨B + 1 + 1, 0, none⟩ (.bool m5)).setCell ⟨B + 1 + 1, 1, none⟩ (.slice f1 l1 j1')).setCell ⟨B + 1 + 1, 2, none⟩ (.slice f2' l2 j2')) D (.deferred none)) (fun r e => by cases e; exact ⟨_, hK10, rfl⟩)
        obtain ⟨v0, v1, v2, _⟩ := (HR10.out.keepC kk).three
        refine ⟨.tuple #[.agg #[.bool m5, .slice f1 l1 j1', .slice f2' l2 j2'], .int .i64 0], by simp [results, Tryz.f37, go_sem, v0, v1, v2], _, rfl, ?_, ?_⟩
        · rw [hB]
          exact (Q10.out.far HR9.out (by decide) (kept3 _ _ _)).keepC kk
        · rw [hB]
          exact (below_set3 (g := B + 1 + 1) (h7.trans (b9.mono (by omega))) (by omega) _ _ _).trans (belowK_b (n₀ := B) (w := w) (by omega) _ D _ _ (by omega) hK10 rfl rfl)
      case stop =>
        rintro D c pre X _ _ h _
        exact h.elim
end
section
open Go.RowKit
set_option linter.unusedVariables false
set_option linter.unusedSimpArgs false
set_option maxRecDepth 100000 in
set_option maxHeartbeats 8000000 in
theorem transpose_any {n : Nat} {w : World} {v : Value} {s t : List Int} {qs : List Q3} {a b ad : Option Addr} {ca cb cd : Nat} (T : TensQ w v s qs a ca b cb) (D : ArgS w (.slice ad t.length cd) t ad cd) (nd : ad = none → cd = 0) (hs : s.length ≤ 1048576) (ht : t.length ≤ 8000000) (hq : qs.length ≤ 1048576) (hl : lensQ qs n) (hn : n ≤ 3000000) :
    Calls Tryz.prog 13 #[v, .slice ad t.length cd] w fun e w' => One w.heap.size w' e (orL [mayT s qs, permC t s.length]) (trS s t) (fillV (trS s t) (fun xs => elV s (qs.map Q3.rat) (trI t xs))) (n + 2) ∧ Below w.heap.size w w' := by
  have HT := Lib.hid T
  have HD := Lib.hid D
  have HND := Lib.hid nd
  have HL := Lib.hid hl
  obtain rfl := T.is
  obtain ⟨W, hW⟩ : ∃ W, (((w.alloc (.cells #[.slice a s.length ca, .slice b qs.length cb] 26)).alloc (.cells #[.slice ad t.length cd] 22)).alloc (.cells #[.slice none 0 0, .slice none 0 0] 26)) = W := ⟨_, rfl⟩
  have R0 : Row W (w.heap.size) 26 #[.slice a s.length ca, .slice b qs.length cb] := by rw [← hW]; have h := Row.new w 26 #[.slice a s.length ca, .slice b qs.length cb]; (try simp only [World.size_alloc] at h); exact ((h.alloc _).alloc _)
  have R1 : Row W (w.heap.size + 1) 22 #[.slice ad t.length cd] := by rw [← hW]; have h := Row.new (w.alloc (.cells #[.slice a s.length ca, .slice b qs.length cb] 26)) 22 #[.slice ad t.length cd]; (try simp only [World.size_alloc] at h); exact (h.alloc _)
  have R2 : Row W (w.heap.size + 1 + 1) 26 #[.slice none 0 0, .slice none 0 0] := by rw [← hW]; have h := Row.new ((w.alloc (.cells #[.slice a s.length ca, .slice b qs.length cb] 26)).alloc (.cells #[.slice ad t.length cd] 22)) 26 #[.slice none 0 0, .slice none 0 0]; (try simp only [World.size_alloc] at h); exact h
  have hBW : Below w.heap.size w W := by rw [← hW]; exact ((((Below.refl _ _).alloc (by (try simp) <;> omega) _).alloc (by (try simp) <;> omega) _).alloc (by (try simp) <;> omega) _)
  have hsW : W.heap.size = w.heap.size + 1 + 1 + 1 := by rw [← hW]; simp
  have hm := fun (X : World) (hX : Below W.heap.size W X) => mayT7_any (HT.out.later (hBW.trans (hX.mono (by omega)))) (by omega) (by omega) HL.out (by omega)
  obtain ⟨m, hmm⟩ : ∃ m, mayT s qs = m := ⟨_, rfl⟩
  have hp := fun (X : World) (hX : Below W.heap.size W X) => perm9_any (s.length : Int) (HD.out.later (hBW.trans (hX.mono (by omega)))) HND.out (by omega) (by omega) (by omega)
  obtain ⟨p, hpe⟩ : ∃ c, permC t s.length = c := ⟨_, rfl⟩
  have Hp := Lib.hid hpe
  rw [hpe] at hp
  rw [hmm] at hm
  have mkS : ∀ X, Below W.heap.size W X → X.cell? ⟨w.heap.size, 0, none⟩ = some (.slice a s.length ca) ∧ X.cell? ⟨w.heap.size, 1, none⟩ = some (.slice b qs.length cb) ∧ X.cell? ⟨w.heap.size + 1, 0, none⟩ = some (.slice ad t.length cd) := fun X h => by
    obtain ⟨x0, x1, _⟩ := (R0.later h).two
    exact ⟨x0, x1, (R1.later h).cell 0⟩
  have B0 : Below W.heap.size W W.drew := (Below.refl _ W).drew
  obtain ⟨LR, hLR⟩ : ∃ L, (fillV (trS s t) (fun xs => elV s (qs.map Q3.rat) (trI t xs))) = L := ⟨_, rfl⟩
  have HMM := Lib.hid hmm
  have HLR := Lib.hid hLR
  rw [hmm, hpe, hLR]
  obtain ⟨c, hc⟩ : ∃ c, orL [m, p] = c := ⟨_, rfl⟩
  have HC := Lib.hid hc
  rw [hc]
  clear T D nd hmm hpe hLR hc hl
  go_enter Tryz.func13, Tryz.ntmps13
  go_wp2_with fail
  (try rw [hW])
  clear hW
  refine wp_region_held (S := fun X => X.cell? ⟨w.heap.size, 0, none⟩ = some (.slice a s.length ca) ∧ X.cell? ⟨w.heap.size, 1, none⟩ = some (.slice b qs.length cb) ∧ X.cell? ⟨w.heap.size + 1, 0, none⟩ = some (.slice ad t.length cd)) (by kernel_rfl) ?_
  have hHeld := mkS _ B0
  refine wpAnyH_take (i := 0) (v := ?vq0a0) rfl (by kernel_rfl) (by kernel_rfl) (by kernel_rfl) (fun _ _ _ h => h) (Or.inl ⟨by rfl, ?hq0a0⟩) (by assumption) ?rq0a0
  case hq0a0 =>
    intro w hSw
    try dsimp only at hSw
    go_simp
    try with_reducible rfl
  try simp only [Act.put, List.setIfInBounds_toArray, List.set_cons_zero, List.set_cons_succ]
  refine wpAnyH_take (i := 2) (v := ?vq0a2) rfl (by kernel_rfl) (by kernel_rfl) (by kernel_rfl) (fun _ _ _ h => h) (Or.inl ⟨by rfl, ?hq0a2⟩) (by assumption) ?rq0a2
  case hq0a2 =>
    intro w hSw
    try dsimp only at hSw
    go_simp
    try with_reducible rfl
  try simp only [Act.put, List.setIfInBounds_toArray, List.set_cons_zero, List.set_cons_succ]
  refine wpAnyH_take (i := 3) (v := ?vq0a3) rfl (by kernel_rfl) (by kernel_rfl) (by kernel_rfl) (fun _ _ _ h => h) (Or.inl ⟨by rfl, ?hq0a3⟩) (by assumption) ?rq0a3
  case hq0a3 =>
    intro w hSw
    try dsimp only at hSw
    go_simp
    try with_reducible rfl
  try simp only [Act.put, List.setIfInBounds_toArray, List.set_cons_zero, List.set_cons_succ]
  refine wpAnyH_take (i := 4) (v := ?vq0a4) rfl (by kernel_rfl) (by kernel_rfl) (by kernel_rfl) (fun _ _ _ h => h) (Or.inl ⟨by rfl, ?hq0a4⟩) (by assumption) ?rq0a4
  case hq0a4 =>
    intro w hSw
    try dsimp only at hSw
    go_simp
    try with_reducible rfl
  try simp only [Act.put, List.setIfInBounds_toArray, List.set_cons_zero, List.set_cons_succ]
  refine wpAnyH_take (i := 5) (v := ?vq0a5) rfl (by kernel_rfl) (by kernel_rfl) (by kernel_rfl) (fun _ _ _ h => h) (Or.inl ⟨by rfl, ?hq0a5⟩) (by assumption) ?rq0a5
  case hq0a5 =>
    intro w hSw
    try dsimp only at hSw
    go_simp
    try with_reducible rfl
  try simp only [Act.put, List.setIfInBounds_toArray, List.set_cons_zero, List.set_cons_succ]
  refine wpAnyH_ready (rs := [1]) (by kernel_rfl) (by simp) ?_
  refine AllReadyH.cons rfl (fun K hK => ?sq1c1) AllReadyH.nil
  go_simp
  refine (hm _ B0).mono ?_
  rintro e y1 ⟨rfl, hy⟩
  have B1 : Below W.heap.size W y1 := B0.trans (hy.mono B0.size)
  have D1 := hy
  clear hy
  go_simp
  refine hK.out _ _ ?kq1c1 (fun hHeld => ?mq1c1)
  case kq1c1 =>
    try dsimp only
    exact mkS _ B1
  clear hK K
  try simp only [Act.put, List.setIfInBounds_toArray, List.set_cons_zero, List.set_cons_succ]
  refine wpAnyH_ready (rs := [6]) (by kernel_rfl) (by simp) ?_
  refine AllReadyH.cons rfl (fun K hK => ?scp) AllReadyH.nil
  go_simp
  refine (hp _ B1).mono ?_
  rintro e y2 ⟨rfl, hy⟩
  have B2 : Below W.heap.size W y2 := B1.trans (hy.mono B1.size)
  clear hy
  go_simp
  refine hK.out _ _ ?kcp (fun hHeld => ?mcp)
  case kcp =>
    try dsimp only
    exact mkS _ B2
  clear hK K
  try simp only [Act.put, List.setIfInBounds_toArray, List.set_cons_zero, List.set_cons_succ]
  have z2 := B2.size
  have A2 : Below W.heap.size W (y2.alloc (.cells #[.int .i64 m, .int .i64 p] 27)) := B2.alloc (by omega) _
  refine wpAnyH_ready (rs := [7]) (by kernel_rfl) (by simp) ?_
  refine AllReadyH.cons rfl (fun K hK => ?sal2) AllReadyH.nil
  go_simp
  refine hK.out _ _ ?kal2 (fun hHeld => ?mal2)
  case kal2 =>
    try dsimp only
    exact mkS _ A2
  clear hK K
  try simp only [Act.put, List.setIfInBounds_toArray, List.set_cons_zero, List.set_cons_succ]
  refine wpAnyH_ready (rs := [8]) (by kernel_rfl) (by simp) ?_
  refine AllReadyH.cons rfl (fun K hK => ?sor2) AllReadyH.nil
  go_simp
  refine (or_any (xs := [m, p]) (b := y2.heap.size) (fun k hk => by
    have R := Row.new y2 27 #[.int .i64 m, .int .i64 p]
    simp only [List.length_cons, List.length_nil] at hk
    by_cases h0 : k = 0
    · subst h0; exact R.cell 0
    by_cases h1 : k = 1
    · subst h1; exact R.cell 1
    · omega) (by simp)).mono ?_
  rintro e y3 ⟨rfl, rfl⟩
  have B3 := A2
  go_simp
  refine hK.out _ _ ?kor2 (fun hHeld => ?mor2)
  case kor2 =>
    try dsimp only
    exact mkS _ A2
  clear hK K
  try simp only [Act.put, List.setIfInBounds_toArray, List.set_cons_zero, List.set_cons_succ]
  rw [HC.out]
  refine wpAnyH_ready (rs := [9]) (by kernel_rfl) (by simp) ?_
  refine AllReadyH.cons rfl (fun K hK => ?sas) AllReadyH.nil
  go_simp
  refine hK.out _ _ ?kas (fun hHeld => ?mas)
  case kas =>
    try dsimp only
    exact mkS _ A2
  clear hK K
  try simp only [Act.put, List.setIfInBounds_toArray, List.set_cons_zero, List.set_cons_succ]
  refine wpAnyH_done (by kernel_rfl) ?_ _
  (try dsimp only [Straight])
  obtain ⟨y, hy2⟩ : ∃ z, y2.alloc (.cells #[.int .i64 m, .int .i64 p] 27) = z := ⟨_, rfl⟩
  rw [hy2] at A2 ⊢
  have AY := A2
  have X0 := R0.later AY
  have P1 := R2.later AY
  have X1 := R1.later AY
  obtain ⟨x0, x1, _⟩ := X0.two
  have x2 := X1.cell 0
  have s2 := AY.size
  have hB2 : Below w.heap.size w y := hBW.trans (AY.mono (by omega))
  have hmf : ∀ (fn : Fn) (first cap : Array Value) (w : World), (Instr.makeFunc fn first cap).run Tryz.prog w = .ok (.func fn first cap) w := fun _ _ _ _ => rfl
  clear hy2
  by_cases h0 : c = 0
  · subst h0
    obtain ⟨hm0, hc0⟩ := or0 HC.out
    have hp0 := or1 hc0
    rw [← Hp.out] at hp0
    rw [← HMM.out] at hm0
    have okS := mayC_zero.1 (mayT_rank hm0)
    have TY := HT.out.later hB2
    have DY := HD.out.later hB2
    clear mkS
    have hrk := okS.rank
    obtain ⟨hpm, htl⟩ : IsPerm t ∧ t.length = s.length := by
      unfold permC at hp0
      split at hp0
      · rename_i h
        have h2 := permB_is h
        exact ⟨h2.1, by omega⟩
      · cases hp0
    obtain ⟨okP, hpr⟩ := trS_ok hpm htl okS
    have hpl : (trS s t).length = t.length := trS_len s t
    clear hp0
    obtain ⟨M, hM⟩ : ∃ M, t.length = M := ⟨_, rfl⟩
    have HM := Lib.hid hM
    have hM4 : M ≤ 4 := by omega
    have hmk := make_runSh M (by omega)
    obtain ⟨V, hV⟩ : ∃ V, y.alloc (.cells (madeCells #[.int .i64 0] M) 3) = V := ⟨_, rfl⟩
    have rP : PartS V y.heap.size M (List.replicate M 0) := by rw [← hV]; exact ⟨_, BlkS.made y M, by simp, by simp, by simp⟩
    have bV : Below y.heap.size y V := by rw [← hV]; exact (Below.refl _ _).alloc (Nat.le_refl _) _
    have sV : V.heap.size = y.heap.size + 1 := by rw [← hV]; simp
    have X0' := X0.later bV
    have X1' := X1.later bV
    obtain ⟨v0, v1, _, _⟩ := X0'.two
    have v2 := X1'.cell 0
    rw [hM] at x2 v2
    simp only [List.getElem?_toArray, List.getElem?_cons_zero] at x2 v2
    have HX0 := Lib.hid X0
    have HX1 := Lib.hid X1
    have HTY := Lib.hid TY
    have HDY := Lib.hid DY
    have HP1 := Lib.hid P1
    have HPP := Lib.hid hpm
    have HrP := Lib.hid rP
    have HbV := Lib.hid bV
    clear X0 X1 X0' X1' TY DY P1 hpm rP hM
    go_wp2_with fail
    (try rw [hV])
    clear hV hmk
    go_loopw [8, 9, 28] (fun _ _ i wr => ∃ (k : Nat) (zs : List Int), i = .int .i64 (k : Int) ∧ k ≤ M ∧ PartS wr y.heap.size M zs ∧ zs.length = M ∧ (∀ j, j < k → zs.getD j 0 = (trS s t).getD j 0) ∧ Below y.heap.size y wr) (fun _ _ i _ => M - (intOf i).toNat)
    case atStart => exact ⟨0, _, rfl, Nat.zero_le _, HrP.out, by simp, (fun j hj => by omega), HbV.out⟩
    case round =>
      obtain ⟨k, zs, rfl, hk, hP, hzl, hz, hb⟩ := hrel
      have hP0 := Lib.hid hP
      have HZ := Lib.hid hz
      have hX0 := HX0.out.later hb
      obtain ⟨q0, q1, _, _⟩ := hX0.two
      by_cases hlt : k < M
      · obtain ⟨b1, o1, rfl, c1⟩ := (HDY.out.later hb).at (i := k) (by rw [HM.out]; exact hlt)
        have hlow := HPP.out.low (i := k) (by rw [HM.out]; exact hlt)
        obtain ⟨j, hj⟩ : ∃ j : Nat, t.getD k 0 = (j : Int) := ⟨(t.getD k 0).toNat, by omega⟩
        have hjl : j < s.length := by rw [hj, HM.out] at hlow; have := HM.out; omega
        obtain ⟨b2, o2, rfl, c2⟩ := (HTY.out.later hb).sh.at (i := j) hjl
        have htr : (trS s t).getD k 0 = s.getD j 0 := by rw [trS_at s t (by rw [HM.out]; exact hlt), hj]; rfl
        have HTR := Lib.hid htr
        rw [hj] at c1
        have hf := hP.free k
        have hcj := hP.cell k (by rw [hzl]; exact hlt)
        have hltI : (k : Int) < (M : Int) := by omega
        have hjI : (j : Int) < (s.length : Int) := by omega
        clear hP hz hX0 hlow hj htr
        go_wp2
        go_roundw
        case rel =>
          refine ⟨k + 1, zs.set k (s.getD j 0), by go_num, by omega, ?_, by rw [List.length_set]; exact hzl, fun i hi => ?_, hb.setCell (by show y.heap.size ≤ y.heap.size; exact Nat.le_refl _) _⟩
          · have := hP0.out.set k (by rw [hzl]; exact hlt) (s.getD j 0)
            simpa [List.getD_eq_getElem?_getD, hjl] using this
          · by_cases e : i = k
            · subst e
              rw [getD_set_self _ _ _ (by rw [hzl]; exact hlt), HTR.out]
            · rw [getD_set_ne _ _ (by omega)]
              exact HZ.out i (by omega)
        case measure => simp [intOf]; omega
      · obtain rfl : k = M := by omega
        have hltI : ¬ (k : Int) < (k : Int) := by omega
        have hzt : zs = trS s t := list_eq_getD (by rw [hzl, trS_len, HM.out]) fun i hi => HZ.out i (by omega)
        have A3 := (show ResS y.heap.size wr (.slice (some ⟨y.heap.size, 0, none⟩) zs.length k) zs from ⟨hP0.out.num (Nat.le_refl _) (by unfold maxLen; omega), by rw [hzt]; exact okS_wid okP⟩).at_
        rw [hzt] at A3
        have hl3 : (trS s t).length = k := by rw [trS_len, HM.out]
        have hB3 : Below w.heap.size w wr := hB2.trans (hb.mono (by omega))
        have s3' := hb.size
        have hbu := built_any (N := n + 2) (F := 43) (cap := #[.pointer (some ⟨w.heap.size + 1, 0, none⟩), .pointer (some ⟨w.heap.size, 0, none⟩)]) (f := fun xs => elV s (qs.map Q3.rat) (trI t xs)) A3.2.1 A3.2.2 okP (enters_of Tryz.func43 (by kernel_rfl) rfl)
          (fun B X x xs hin hB hBX hX hx => by
            obtain ⟨ax, cx, AX, nx⟩ := hx.arg2
            have hlx := inS_length hin
            exact (transpose1_any ((HTY.out.later hb).later hX) hm0 HL.out (by omega) ((HDY.out.later hb).later hX) (((HX1.out.later hb).later hX).cell 0) HPP.out htl ((HX0.out.later hb).later hX) AX (by omega)).mono fun e w' ⟨r, g1, g2, g3⟩ => ⟨r, g1, g2.mono hBX, g3.mono hBX⟩)
        rw [HLR.out, hl3] at hbu
        have P1' := HP1.out.later hb
        have HBU := Lib.hid hbu
        clear hbu A3 hP hz
        go_wp2_with fail
        refine HBU.out.mono ?_
        rintro e w2 ⟨r, rfl, hT, hb2⟩
        obtain ⟨a', b', ca', cb', rfl, RS, RO⟩ := hT
        have P2 := P1'.later hb2
        have s3 := hb2.size
        obtain ⟨u0, u1, g0, g1⟩ := P2.two
        have HR := Lib.hid RS
        have HO := Lib.hid RO
        clear RS RO
        obtain ⟨l, hl⟩ : ∃ l, LR.length = l := ⟨_, rfl⟩
        obtain ⟨ls, hls⟩ : ∃ ls, (trS s t).length = ls := ⟨_, rfl⟩
        have HL2 := Lib.hid hl
        have HL3 := Lib.hid hls
        rw [hl, hls]
        clear hl hls
        go_wp2_with fail
        have P3 := P2.set2 (.slice a' ls ca') (.slice b' l cb')
        obtain ⟨z0, z1, _, _⟩ := P3.two
        refine bodyPost_ret (v := .tuple #[.agg #[.slice a' ls ca', .slice b' l cb'], .int .i64 0]) (by simp [results, Tryz.results13, go_sem, z0, z1]) rfl ⟨.inl ⟨rfl, _, rfl, ?_⟩, below_set2 (hB3.trans (hb2.mono (by omega))) (by omega) _ _⟩
        have hR : ResT w.heap.size w2 (.agg #[.slice a' ls ca', .slice b' l cb']) (trS s t) LR (n + 2) := ResT.mono ⟨a', b', ca', cb', by rw [HL2.out, HL3.out], HR.out, HO.out⟩ (by omega)
        exact hR.far P2 (by decide) (by decide) (by decide) (kept2 _ _)
  · have hne : (c != 0) = true := by simp [h0]
    have H0 := Lib.hid h0
    obtain ⟨u0, u1, g0, g1⟩ := P1.two
    clear h0 mkS
    go_wp2_with fail
    have P3 := P1.set2 (.slice none 0 0) (.slice none 0 0)
    obtain ⟨z0, z1, _, _⟩ := P3.two
    refine bodyPost_ret (v := .tuple #[noTensor, .int .i64 c]) (by simp [results, Tryz.results13, go_sem, z0, z1, noTensor]) rfl ⟨.inr ⟨H0.out, rfl⟩, below_set2 hB2 (by omega) _ _⟩
end
end Go.Proofs.YtooglnhlhgmhdaaGreat
