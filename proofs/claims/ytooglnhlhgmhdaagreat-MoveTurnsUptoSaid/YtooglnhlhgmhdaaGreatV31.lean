/-
  Part 31 of 34: contracts and what they rest on (TCode10).
-/
import Derived.Test.YtooglnhlhgmhdaaGreatV1
import Derived.Test.YtooglnhlhgmhdaaGreatV2
import Derived.Test.YtooglnhlhgmhdaaGreatV4
import Derived.Test.YtooglnhlhgmhdaaGreatV5
import Derived.Test.YtooglnhlhgmhdaaGreatV7
import Derived.Test.YtooglnhlhgmhdaaGreatV9
import Derived.Test.YtooglnhlhgmhdaaGreatV13
import Derived.Test.YtooglnhlhgmhdaaGreatV16
import Derived.Test.YtooglnhlhgmhdaaGreatV18
import Derived.Test.YtooglnhlhgmhdaaGreatV20
import Derived.Test.YtooglnhlhgmhdaaGreatV22
import Derived.Test.YtooglnhlhgmhdaaGreatV27
import Derived.WalkKit
import Derived.Test.YtooglnhlhgmhdaaGreatRows
import Derived.BigQuiet
import Derived.Deep.QuietTactic
import Derived.Lib.Hide
import Derived.Lib.Small
import Derived.Lib.Walk
import Derived.Lib.BitFns
import Derived.Maps.AppendAt
import Derived.RangeFuncNested
import Derived.RangeFuncBound
import Derived.RangeFuncCalls
import Derived.RangeFuncLeaves
import Derived.Shelf.Abstract
import Derived.OwnWalkIn
import Derived.TacticsInMore
import Derived.LoopNIn
import Derived.LoopIn
import Derived.RangeFuncBox
import Derived.Deep.RegionHeld3
import Derived.OrdersIn
import Derived.StillTailTactics
import Derived.RangeFuncFrom
import Derived.Laws.EntriesVeiled
import Derived.ProofKit
import Derived.OpenShut
import Derived.JoinedCond
import Derived.Carry
import Derived.Laws.AppendOwnNone
import Derived.Lib.ItoaNum
import Derived.Deep.RegionLaw
import Derived.WalkMore
import Derived.Lib.SmallJoins
import Derived.IntWalk
import Derived.Deep.DeepCutAuto
import Derived.Laws.OwnMore
import Derived.OrdersHeld
import Derived.Deep.RegionHeld
import Derived.ArgAppend
import Derived.Deep.Slices
import Derived.Laws.CopyOwn
namespace Go.Proofs.YtooglnhlhgmhdaaGreat
set_option maxRecDepth 100000
section
open Go.RowKit Go.Shelf
attribute [local go_sem] Oper.semAt_some
set_option linter.unusedVariables false
set_option linter.unusedSimpArgs false
set_option maxRecDepth 100000 in
set_option maxHeartbeats 16000000 in
theorem dotBad_any {n B0 : Nat} {w : World} {u v : Value} {s1 s2 : List Int} {q1 q2 : List Q3} {a1 b1 a2 b2 : Option Addr} {ca1 cb1 ca2 cb2 : Nat} (T1 : TensQ w u s1 q1 a1 ca1 b1 cb1) (T2 : TensQ w v s2 q2 a2 ca2 b2 cb2) (hs1 : s1.length ≤ 1048576) (hs2 : s2.length ≤ 1048576) (hq1 : q1.length ≤ 1048576) (hq2 : q2.length ≤ 1048576) (hl1 : lensQ q1 n) (hl2 : lensQ q2 n) (hn : n ≤ 4000000)
    (hbad : dotC s1 s2 q1 q2 ≠ 0) :
    Calls Tryz.prog 37 #[u, v] w fun e w' => ∃ r, e = .returned (.tuple #[r, .int .i64 (dotC s1 s2 q1 q2)]) ∧ r = noRat ∧ Below w.heap.size w w' := by
  obtain rfl := T1.is
  obtain rfl := T2.is
  obtain ⟨B, hB⟩ : ∃ B, w.heap.size = B := ⟨_, rfl⟩
  obtain ⟨W1, hW1⟩ : ∃ W1, w.alloc (.cells #[.slice a1 s1.length ca1, .slice b1 q1.length cb1] 26) = W1 := ⟨_, rfl⟩
  obtain ⟨W2, hW2⟩ : ∃ W2, W1.alloc (.cells #[.slice a2 s2.length ca2, .slice b2 q2.length cb2] 26) = W2 := ⟨_, rfl⟩
  obtain ⟨W3, hW3⟩ : ∃ W3, W2.alloc (.cells #[.bool false, .slice none 0 0, .slice none 0 0] 58) = W3 := ⟨_, rfl⟩
  obtain ⟨V, hV⟩ : ∃ V, W3.alloc (.cells #[.slice a1 s1.length ca1, .slice b1 q1.length cb1, .slice a2 s2.length ca2, .slice b2 q2.length cb2] 26) = V := ⟨_, rfl⟩
  have s1' : W1.heap.size = B + 1 := by rw [← hW1, ← hB]; simp
  have s2' : W2.heap.size = B + 1 + 1 := by rw [← hW2, World.size_alloc, s1']
  have s3' : W3.heap.size = B + 1 + 1 + 1 := by rw [← hW3, World.size_alloc, s2']
  have sV : V.heap.size = B + 1 + 1 + 1 + 1 := by rw [← hV, World.size_alloc, s3']
  have R0' : Row W3 B 26 #[.slice a1 s1.length ca1, .slice b1 q1.length cb1] := by rw [← hW3, ← hW2, ← hW1, ← hB]; exact ((Row.new _ _ _).alloc _).alloc _
  have R1' : Row W3 (B + 1) 26 #[.slice a2 s2.length ca2, .slice b2 q2.length cb2] := by rw [← hW3, ← hW2, ← s1']; exact (Row.new _ _ _).alloc _
  have R0 : Row V B 26 #[.slice a1 s1.length ca1, .slice b1 q1.length cb1] := by rw [← hV]; exact R0'.alloc _
  have R1 : Row V (B + 1) 26 #[.slice a2 s2.length ca2, .slice b2 q2.length cb2] := by rw [← hV]; exact R1'.alloc _
  have R2 : Row V (B + 1 + 1) 58 #[.bool false, .slice none 0 0, .slice none 0 0] := by rw [← hV, ← hW3, ← s2']; exact (Row.new _ _ _).alloc _
  have R3 : Row V (B + 1 + 1 + 1) 26 #[.slice a1 s1.length ca1, .slice b1 q1.length cb1, .slice a2 s2.length ca2, .slice b2 q2.length cb2] := by rw [← hV, ← s3']; exact Row.new _ _ _
  have hbV : Below B w V := by rw [← hV, ← hW3, ← hW2, ← hW1]; exact ((((Below.refl _ w).alloc (by omega) _).alloc (by simp; omega) _).alloc (by simp; omega) _).alloc (by simp; omega) _
  obtain ⟨x0, x1, _, _⟩ := R0'.two
  obtain ⟨x2, x3, _, _⟩ := R1'.two
  have HT1 := Lib.hid T1
  have HT2 := Lib.hid T2
  have HL1 := Lib.hid hl1
  have HL2 := Lib.hid hl2
  have may1 : ∀ X, Below V.heap.size V X → Calls Tryz.prog 40 #[.agg #[.slice a1 s1.length ca1, .slice b1 q1.length cb1]] X fun e w' => e = .returned (.int .i64 (mayT s1 q1)) ∧ Below X.heap.size X w' := fun X hb =>
    mayT7_any (HT1.out.later (by rw [hB]; exact hbV.trans (hb.mono (by omega)))) hs1 hq1 HL1.out hn
  have may2 : ∀ X, Below V.heap.size V X → Calls Tryz.prog 40 #[.agg #[.slice a2 s2.length ca2, .slice b2 q2.length cb2]] X fun e w' => e = .returned (.int .i64 (mayT s2 q2)) ∧ Below X.heap.size X w' := fun X hb =>
    mayT7_any (HT2.out.later (by rw [hB]; exact hbV.trans (hb.mono (by omega)))) hs2 hq2 HL2.out hn
  have same : ∀ X, Below V.heap.size V X → Calls Tryz.prog 73 #[.slice a1 s1.length ca1, .slice a2 s2.length ca2] X fun e w' => e = .returned (.bool (decide (s1 = s2))) ∧ Below X.heap.size X w' := fun X hb =>
    sameS_any (HT1.out.sh.later (by rw [hB]; exact hbV.trans (hb.mono (by omega)))) (HT2.out.sh.later (by rw [hB]; exact hbV.trans (hb.mono (by omega)))) HT1.out.nila HT2.out.nila (by omega) (by omega)
  obtain ⟨c1, hc1⟩ : ∃ c, mayT s1 q1 = c := ⟨_, rfl⟩
  obtain ⟨c2, hc2⟩ : ∃ c, mayT s2 q2 = c := ⟨_, rfl⟩
  obtain ⟨t, ht⟩ : ∃ t, decide (s1 = s2) = t := ⟨_, rfl⟩
  rw [hc1] at may1
  rw [hc2] at may2
  rw [ht] at same
  have hdc : dotC s1 s2 q1 q2 = if c1 ≠ 0 then c1 else if c2 ≠ 0 then c2 else if s1 ≠ s2 then 13 else 0 := by unfold dotC; rw [hc1, hc2]
  obtain ⟨d, hd⟩ : ∃ d, dotC s1 s2 q1 q2 = d := ⟨_, rfl⟩
  rw [hd] at hdc hbad ⊢
  have HD := Lib.hid hdc
  have HT := Lib.hid ht
  have n1 : c1 ≠ 0 → d = c1 := fun h => by rw [HD.out, if_pos h]
  have n2 : c1 = 0 → c2 ≠ 0 → d = c2 := fun h h2 => by rw [HD.out, if_neg (by simp [h]), if_pos h2]
  have n3 : c1 = 0 → c2 = 0 → d = 13 ∧ t = false := fun h h2 => by
    have hdd := HD.out
    rw [if_neg (by simp [h]), if_neg (by simp [h2])] at hdd
    by_cases e : s1 = s2
    · rw [if_neg (by simp [e])] at hdd
      exact absurd hdd hbad
    · rw [if_pos e] at hdd
      exact ⟨hdd, by rw [← HT.out]; exact decide_eq_false e⟩
  clear hdc hd ht T1 T2 hl1 hl2 hc1 hc2
  go_enter Tryz.func37, Tryz.ntmps37
  go_wp2
  go_loopw [7, 8, 16] (fun _ _ i wr => ∃ k : Nat, k ≤ 2 ∧ i = .int .i64 (k : Int) ∧ (1 ≤ k → c1 = 0) ∧ (2 ≤ k → c2 = 0) ∧ Below V.heap.size V wr) (fun _ _ i _ => 2 - (intOf i).toNat)
  case atStart => exact ⟨0, by omega, rfl, fun h => by omega, fun h => by omega, Below.refl _ _⟩
  case round =>
    obtain ⟨k, hk2, rfl, hk1, hkk, hb⟩ := hrel
    have hsz := hb.size
    have rows := R3.later hb
    have d0 := rows.cell 0
    have d1 := rows.cell 1
    have d2 := rows.cell 2
    have d3 := rows.cell 3
    simp at d0 d1 d2 d3
    have Q2 := R2.later hb
    obtain ⟨z0, z1, z2, z3, z4, z5⟩ := Q2.three
    obtain ⟨v0, v1, v2, _⟩ := (Q2.set3 (.bool false) (.slice none 0 0) (.slice none 0 0)).three
    obtain ⟨p0, p1, _, _⟩ := (R0.later hb).two
    obtain ⟨p2, p3, _, _⟩ := (R1.later hb).two
    have hk : k = 0 ∨ k = 1 ∨ k = 2 := by omega
    rcases hk with rfl | rfl | rfl
    · have hi0 : ((0 : Nat) : Int) < 2 := by omega
      go_wp2_with fail
      refine (may1 _ (hb.alloc (by omega) _)).mono ?_
      rintro e w5 ⟨rfl, b5⟩
      have hb5 : Below V.heap.size V w5 := (hb.alloc (by omega) _).trans (b5.mono (by simp; omega))
      by_cases hc : c1 = 0
      · subst hc
        go_wp2
        go_roundw
        case rel => exact ⟨1, by omega, by go_num, (by intros; first | rfl | trivial), fun h => by omega, hb5⟩
        case measure => simp [intOf]
      · have hcn : (c1 != 0) = true := by simp [hc]
        have Q5 := R2.later hb5
        obtain ⟨z0, z1, z2, z3, z4, z5⟩ := Q5.three
        obtain ⟨v0, v1, v2, _⟩ := (Q5.set3 (.bool false) (.slice none 0 0) (.slice none 0 0)).three
        go_wp2
        refine bodyPost_ret (v := .tuple #[noRat, .int .i64 c1]) (by simp [results, Tryz.results37, go_sem, v0, v1, v2, noRat]) rfl ⟨noRat, by rw [n1 hc], rfl, ?_⟩
        rw [hB]; exact below_set3 (g := B + 1 + 1) (hbV.trans (hb5.mono (by omega))) (by omega) _ _ _
    · have hc10 := hk1 (Nat.le_refl _)
      go_wp2_with fail
      refine (may2 _ (hb.alloc (by omega) _)).mono ?_
      rintro e w5 ⟨rfl, b5⟩
      have hb5 : Below V.heap.size V w5 := (hb.alloc (by omega) _).trans (b5.mono (by simp; omega))
      by_cases hc : c2 = 0
      · subst hc
        go_wp2
        go_roundw
        case rel => exact ⟨2, by omega, by go_num, fun _ => hc10, (by intros; first | rfl | trivial), hb5⟩
        case measure => simp [intOf]
      · have hcn : (c2 != 0) = true := by simp [hc]
        have Q5 := R2.later hb5
        obtain ⟨z0, z1, z2, z3, z4, z5⟩ := Q5.three
        obtain ⟨v0, v1, v2, _⟩ := (Q5.set3 (.bool false) (.slice none 0 0) (.slice none 0 0)).three
        go_wp2
        refine bodyPost_ret (v := .tuple #[noRat, .int .i64 c2]) (by simp [results, Tryz.results37, go_sem, v0, v1, v2, noRat]) rfl ⟨noRat, by rw [n2 hc10 hc], rfl, ?_⟩
        rw [hB]; exact below_set3 (g := B + 1 + 1) (hbV.trans (hb5.mono (by omega))) (by omega) _ _ _
    · obtain ⟨hd13, htf⟩ := n3 (hk1 (by omega)) (hkk (Nat.le_refl _))
      have hsm := same wr hb
      rw [htf] at hsm
      clear same
      go_wp2_with fail
      refine hsm.mono ?_
      rintro e w5 ⟨rfl, b5⟩
      have hb5 : Below V.heap.size V w5 := hb.trans (b5.mono hsz)
      have Q5 := R2.later hb5
      obtain ⟨z0, z1, z2, z3, z4, z5⟩ := Q5.three
      obtain ⟨v0, v1, v2, _⟩ := (Q5.set3 (.bool false) (.slice none 0 0) (.slice none 0 0)).three
      go_wp2
      refine bodyPost_ret (v := .tuple #[noRat, .int .i64 13]) (by simp [results, Tryz.results37, go_sem, v0, v1, v2, noRat]) rfl ⟨noRat, by rw [hd13], rfl, ?_⟩
      rw [hB]; exact below_set3 (g := B + 1 + 1) (hbV.trans (hb5.mono (by omega))) (by omega) _ _ _
end
end Go.Proofs.YtooglnhlhgmhdaaGreat
