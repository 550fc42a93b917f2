/-
  Part 25 of 28: contracts and what they rest on (MFuncT).
-/
import Derived.Test.YtooglnhlhgmhdaaGreatZ1
import Derived.Test.YtooglnhlhgmhdaaGreatZ2
import Derived.Test.YtooglnhlhgmhdaaGreatZ3
import Derived.Test.YtooglnhlhgmhdaaGreatZ5
import Derived.Test.YtooglnhlhgmhdaaGreatZ7
import Derived.Test.YtooglnhlhgmhdaaGreatZ9
import Derived.Test.YtooglnhlhgmhdaaGreatZ11
import Derived.Test.YtooglnhlhgmhdaaGreatZ12
import Derived.Test.YtooglnhlhgmhdaaGreatZ13
import Derived.Test.YtooglnhlhgmhdaaGreatZ14
import Derived.Test.YtooglnhlhgmhdaaGreatZ15
import Derived.Test.YtooglnhlhgmhdaaGreatZ16
import Derived.Test.YtooglnhlhgmhdaaGreatZ17
import Derived.Test.YtooglnhlhgmhdaaGreatZ18
import Derived.Test.YtooglnhlhgmhdaaGreatZ19
import Derived.Test.YtooglnhlhgmhdaaGreatZ21
import Derived.Test.YtooglnhlhgmhdaaGreatZ22
import Derived.WalkKit
import Derived.Test.YtooglnhlhgmhdaaGreatRows
import Derived.BigQuiet
import Derived.Deep.QuietTactic
import Derived.Lib.Hide
import Derived.Lib.Small
import Derived.Lib.Walk
import Derived.Lib.BitFns
import Derived.Maps.AppendAt
import Derived.RangeFuncNested
import Derived.RangeFuncBound
import Derived.RangeFuncCalls
import Derived.RangeFuncLeaves
import Derived.Shelf.Abstract
import Derived.OwnWalkIn
import Derived.TacticsInMore
import Derived.LoopNIn
import Derived.LoopIn
import Derived.RangeFuncBox
import Derived.Deep.RegionHeld3
import Derived.OrdersIn
import Derived.StillTailTactics
import Derived.RangeFuncFrom
import Derived.Laws.EntriesVeiled
import Derived.ProofKit
import Derived.OpenShut
import Derived.JoinedCond
import Derived.Carry
import Derived.Laws.AppendOwnNone
import Derived.Lib.ItoaNum
import Derived.Deep.RegionLaw
import Derived.WalkMore
import Derived.Lib.SmallJoins
import Derived.IntWalk
import Derived.Deep.DeepCutAuto
import Derived.Laws.OwnMore
import Derived.OrdersHeld
import Derived.Deep.RegionHeld
import Derived.ArgAppend
import Derived.Deep.Slices
import Derived.Laws.CopyOwn
import Derived.Lib.SliceRun
namespace Go.Proofs.YtooglnhlhgmhdaaGreat
set_option maxRecDepth 100000
section
open Go.RowKit
set_option linter.unusedVariables false
set_option linter.unusedSimpArgs false
set_option maxRecDepth 100000 in
set_option maxHeartbeats 8000000 in
theorem transpose_any {n : Nat} {w : World} {v : Value} {s t : List Int} {qs : List Q3} {a b ad : Option Addr} {ca cb cd : Nat} (T : TensQ w v s qs a ca b cb) (D : ArgS w (.slice ad t.length cd) t ad cd) (nd : ad = none → cd = 0) (hs : s.length ≤ 1048576) (ht : t.length ≤ 8000000) (hq : qs.length ≤ 1048576) (hl : lensQ qs n) (hn : n ≤ 3000000) :
    Calls Tryz.prog 13 #[v, .slice ad t.length cd] w fun e w' => One w.heap.size w' e (orL [mayT s qs, permC t s.length]) (trS s t) (fillV (trS s t) (fun xs => elV s (qs.map Q3.rat) (trI t xs))) (n + 2) ∧ Below w.heap.size w w' := by
  have HT := Lib.hid T
  have HD := Lib.hid D
  have HND := Lib.hid nd
  have HL := Lib.hid hl
  obtain rfl := T.is
  obtain ⟨W, hW⟩ : ∃ W, (((w.alloc (.cells #[.slice a s.length ca, .slice b qs.length cb] 26)).alloc (.cells #[.slice ad t.length cd] 22)).alloc (.cells #[.slice none 0 0, .slice none 0 0] 26)) = W := ⟨_, rfl⟩
  have R0 : Row W (w.heap.size) 26 #[.slice a s.length ca, .slice b qs.length cb] := by rw [← hW]; have h := Row.new w 26 #[.slice a s.length ca, .slice b qs.length cb]; (try simp only [World.size_alloc] at h); exact ((h.alloc _).alloc _)
  have R1 : Row W (w.heap.size + 1) 22 #[.slice ad t.length cd] := by rw [← hW]; have h := Row.new (w.alloc (.cells #[.slice a s.length ca, .slice b qs.length cb] 26)) 22 #[.slice ad t.length cd]; (try simp only [World.size_alloc] at h); exact (h.alloc _)
  have R2 : Row W (w.heap.size + 1 + 1) 26 #[.slice none 0 0, .slice none 0 0] := by rw [← hW]; have h := Row.new ((w.alloc (.cells #[.slice a s.length ca, .slice b qs.length cb] 26)).alloc (.cells #[.slice ad t.length cd] 22)) 26 #[.slice none 0 0, .slice none 0 0]; (try simp only [World.size_alloc] at h); exact h
  have hBW : Below w.heap.size w W := by rw [← hW]; exact ((((Below.refl _ _).alloc (by (try simp) <;> omega) _).alloc (by (try simp) <;> omega) _).alloc (by (try simp) <;> omega) _)
  have hsW : W.heap.size = w.heap.size + 1 + 1 + 1 := by rw [← hW]; simp
  have hm := fun (X : World) (hX : Below W.heap.size W X) => mayT7_any (HT.out.later (hBW.trans (hX.mono (by omega)))) (by omega) (by omega) HL.out (by omega)
  obtain ⟨m, hmm⟩ : ∃ m, mayT s qs = m := ⟨_, rfl⟩
  have hp := fun (X : World) (hX : Below W.heap.size W X) => perm9_any (s.length : Int) (HD.out.later (hBW.trans (hX.mono (by omega)))) HND.out (by omega) (by omega) (by omega)
  obtain ⟨p, hpe⟩ : ∃ c, permC t s.length = c := ⟨_, rfl⟩
  have Hp := Lib.hid hpe
  rw [hpe] at hp
  rw [hmm] at hm
  have mkS : ∀ X, Below W.heap.size W X → X.cell? ⟨w.heap.size, 0, none⟩ = some (.slice a s.length ca) ∧ X.cell? ⟨w.heap.size, 1, none⟩ = some (.slice b qs.length cb) ∧ X.cell? ⟨w.heap.size + 1, 0, none⟩ = some (.slice ad t.length cd) := fun X h => by
    obtain ⟨x0, x1, _⟩ := (R0.later h).two
    exact ⟨x0, x1, (R1.later h).cell 0⟩
  have B0 : Below W.heap.size W W.drew := (Below.refl _ W).drew
  obtain ⟨LR, hLR⟩ : ∃ L, (fillV (trS s t) (fun xs => elV s (qs.map Q3.rat) (trI t xs))) = L := ⟨_, rfl⟩
  have HMM := Lib.hid hmm
  have HLR := Lib.hid hLR
  rw [hmm, hpe, hLR]
  obtain ⟨c, hc⟩ : ∃ c, orL [m, p] = c := ⟨_, rfl⟩
  have HC := Lib.hid hc
  rw [hc]
  clear T D nd hmm hpe hLR hc hl
  go_enter Tryz.func13, Tryz.ntmps13
  go_wp2_with fail
  (try rw [hW])
  clear hW
  refine wp_region_held (S := fun X => X.cell? ⟨w.heap.size, 0, none⟩ = some (.slice a s.length ca) ∧ X.cell? ⟨w.heap.size, 1, none⟩ = some (.slice b qs.length cb) ∧ X.cell? ⟨w.heap.size + 1, 0, none⟩ = some (.slice ad t.length cd)) (by kernel_rfl) ?_
  have hHeld := mkS _ B0
  refine wpAnyH_take (i := 0) (v := ?vq0a0) rfl (by kernel_rfl) (by kernel_rfl) (by kernel_rfl) (fun _ _ _ h => h) (Or.inl ⟨by rfl, ?hq0a0⟩) (by assumption) ?rq0a0
  case hq0a0 =>
    intro w hSw
    try dsimp only at hSw
    go_simp
    try with_reducible rfl
  try simp only [Act.put, List.setIfInBounds_toArray, List.set_cons_zero, List.set_cons_succ]
  refine wpAnyH_take (i := 2) (v := ?vq0a2) rfl (by kernel_rfl) (by kernel_rfl) (by kernel_rfl) (fun _ _ _ h => h) (Or.inl ⟨by rfl, ?hq0a2⟩) (by assumption) ?rq0a2
  case hq0a2 =>
    intro w hSw
    try dsimp only at hSw
    go_simp
    try with_reducible rfl
  try simp only [Act.put, List.setIfInBounds_toArray, List.set_cons_zero, List.set_cons_succ]
  refine wpAnyH_take (i := 3) (v := ?vq0a3) rfl (by kernel_rfl) (by kernel_rfl) (by kernel_rfl) (fun _ _ _ h => h) (Or.inl ⟨by rfl, ?hq0a3⟩) (by assumption) ?rq0a3
  case hq0a3 =>
    intro w hSw
    try dsimp only at hSw
    go_simp
    try with_reducible rfl
  try simp only [Act.put, List.setIfInBounds_toArray, List.set_cons_zero, List.set_cons_succ]
  refine wpAnyH_take (i := 4) (v := ?vq0a4) rfl (by kernel_rfl) (by kernel_rfl) (by kernel_rfl) (fun _ _ _ h => h) (Or.inl ⟨by rfl, ?hq0a4⟩) (by assumption) ?rq0a4
  case hq0a4 =>
    intro w hSw
    try dsimp only at hSw
    go_simp
    try with_reducible rfl
  try simp only [Act.put, List.setIfInBounds_toArray, List.set_cons_zero, List.set_cons_succ]
  refine wpAnyH_take (i := 5) (v := ?vq0a5) rfl (by kernel_rfl) (by kernel_rfl) (by kernel_rfl) (fun _ _ _ h => h) (Or.inl ⟨by rfl, ?hq0a5⟩) (by assumption) ?rq0a5
  case hq0a5 =>
    intro w hSw
    try dsimp only at hSw
    go_simp
    try with_reducible rfl
  try simp only [Act.put, List.setIfInBounds_toArray, List.set_cons_zero, List.set_cons_succ]
  refine wpAnyH_ready (rs := [1]) (by kernel_rfl) (by simp) ?_
  refine AllReadyH.cons rfl (fun K hK => ?sq1c1) AllReadyH.nil
  go_simp
  refine (hm _ B0).mono ?_
  rintro e y1 ⟨rfl, hy⟩
  have B1 : Below W.heap.size W y1 := B0.trans (hy.mono B0.size)
  have D1 := hy
  clear hy
  go_simp
  refine hK.out _ _ ?kq1c1 (fun hHeld => ?mq1c1)
  case kq1c1 =>
    try dsimp only
    exact mkS _ B1
  clear hK K
  try simp only [Act.put, List.setIfInBounds_toArray, List.set_cons_zero, List.set_cons_succ]
  refine wpAnyH_ready (rs := [6]) (by kernel_rfl) (by simp) ?_
  refine AllReadyH.cons rfl (fun K hK => ?scp) AllReadyH.nil
  go_simp
  refine (hp _ B1).mono ?_
  rintro e y2 ⟨rfl, hy⟩
  have B2 : Below W.heap.size W y2 := B1.trans (hy.mono B1.size)
  clear hy
  go_simp
  refine hK.out _ _ ?kcp (fun hHeld => ?mcp)
  case kcp =>
    try dsimp only
    exact mkS _ B2
  clear hK K
  try simp only [Act.put, List.setIfInBounds_toArray, List.set_cons_zero, List.set_cons_succ]
  have z2 := B2.size
  have A2 : Below W.heap.size W (y2.alloc (.cells #[.int .i64 m, .int .i64 p] 27)) := B2.alloc (by omega) _
  refine wpAnyH_ready (rs := [7]) (by kernel_rfl) (by simp) ?_
  refine AllReadyH.cons rfl (fun K hK => ?sal2) AllReadyH.nil
  go_simp
  refine hK.out _ _ ?kal2 (fun hHeld => ?mal2)
  case kal2 =>
    try dsimp only
    exact mkS _ A2
  clear hK K
  try simp only [Act.put, List.setIfInBounds_toArray, List.set_cons_zero, List.set_cons_succ]
  refine wpAnyH_ready (rs := [8]) (by kernel_rfl) (by simp) ?_
  refine AllReadyH.cons rfl (fun K hK => ?sor2) AllReadyH.nil
  go_simp
  refine (or_any (xs := [m, p]) (b := y2.heap.size) (fun k hk => by
    have R := Row.new y2 27 #[.int .i64 m, .int .i64 p]
    simp only [List.length_cons, List.length_nil] at hk
    by_cases h0 : k = 0
    · subst h0; exact R.cell 0
    by_cases h1 : k = 1
    · subst h1; exact R.cell 1
    · omega) (by simp)).mono ?_
  rintro e y3 ⟨rfl, rfl⟩
  have B3 := A2
  go_simp
  refine hK.out _ _ ?kor2 (fun hHeld => ?mor2)
  case kor2 =>
    try dsimp only
    exact mkS _ A2
  clear hK K
  try simp only [Act.put, List.setIfInBounds_toArray, List.set_cons_zero, List.set_cons_succ]
  rw [HC.out]
  refine wpAnyH_ready (rs := [9]) (by kernel_rfl) (by simp) ?_
  refine AllReadyH.cons rfl (fun K hK => ?sas) AllReadyH.nil
  go_simp
  refine hK.out _ _ ?kas (fun hHeld => ?mas)
  case kas =>
    try dsimp only
    exact mkS _ A2
  clear hK K
  try simp only [Act.put, List.setIfInBounds_toArray, List.set_cons_zero, List.set_cons_succ]
  refine wpAnyH_done (by kernel_rfl) ?_ _
  (try dsimp only [Straight])
  obtain ⟨y, hy2⟩ : ∃ z, y2.alloc (.cells #[.int .i64 m, .int .i64 p] 27) = z := ⟨_, rfl⟩
  rw [hy2] at A2 ⊢
  have AY := A2
  have X0 := R0.later AY
  have P1 := R2.later AY
  have X1 := R1.later AY
  obtain ⟨x0, x1, _⟩ := X0.two
  have x2 := X1.cell 0
  have s2 := AY.size
  have hB2 : Below w.heap.size w y := hBW.trans (AY.mono (by omega))
  have hmf : ∀ (fn : Fn) (first cap : Array Value) (w : World), (Instr.makeFunc fn first cap).run Tryz.prog w = .ok (.func fn first cap) w := fun _ _ _ _ => rfl
  clear hy2
  by_cases h0 : c = 0
  · subst h0
    obtain ⟨hm0, hc0⟩ := or0 HC.out
    have hp0 := or1 hc0
    rw [← Hp.out] at hp0
    rw [← HMM.out] at hm0
    have okS := mayC_zero.1 (mayT_rank hm0)
    have TY := HT.out.later hB2
    have DY := HD.out.later hB2
    clear mkS
    have hrk := okS.rank
    obtain ⟨hpm, htl⟩ : IsPerm t ∧ t.length = s.length := by
      unfold permC at hp0
      split at hp0
      · rename_i h
        have h2 := permB_is h
        exact ⟨h2.1, by omega⟩
      · cases hp0
    obtain ⟨okP, hpr⟩ := trS_ok hpm htl okS
    have hpl : (trS s t).length = t.length := trS_len s t
    clear hp0
    obtain ⟨M, hM⟩ : ∃ M, t.length = M := ⟨_, rfl⟩
    have HM := Lib.hid hM
    have hM4 : M ≤ 4 := by omega
    have hmk := make_runSh M (by omega)
    obtain ⟨V, hV⟩ : ∃ V, y.alloc (.cells (madeCells #[.int .i64 0] M) 3) = V := ⟨_, rfl⟩
    have rP : PartS V y.heap.size M (List.replicate M 0) := by rw [← hV]; exact ⟨_, BlkS.made y M, by simp, by simp, by simp⟩
    have bV : Below y.heap.size y V := by rw [← hV]; exact (Below.refl _ _).alloc (Nat.le_refl _) _
    have sV : V.heap.size = y.heap.size + 1 := by rw [← hV]; simp
    have X0' := X0.later bV
    have X1' := X1.later bV
    obtain ⟨v0, v1, _, _⟩ := X0'.two
    have v2 := X1'.cell 0
    rw [hM] at x2 v2
    simp only [List.getElem?_toArray, List.getElem?_cons_zero] at x2 v2
    have HX0 := Lib.hid X0
    have HX1 := Lib.hid X1
    have HTY := Lib.hid TY
    have HDY := Lib.hid DY
    have HP1 := Lib.hid P1
    have HPP := Lib.hid hpm
    have HrP := Lib.hid rP
    have HbV := Lib.hid bV
    clear X0 X1 X0' X1' TY DY P1 hpm rP hM
    go_wp2_with fail
    (try rw [hV])
    clear hV hmk
    go_loopw [8, 9, 28] (fun _ _ i wr => ∃ (k : Nat) (zs : List Int), i = .int .i64 (k : Int) ∧ k ≤ M ∧ PartS wr y.heap.size M zs ∧ zs.length = M ∧ (∀ j, j < k → zs.getD j 0 = (trS s t).getD j 0) ∧ Below y.heap.size y wr) (fun _ _ i _ => M - (intOf i).toNat)
    case atStart => exact ⟨0, _, rfl, Nat.zero_le _, HrP.out, by simp, (fun j hj => by omega), HbV.out⟩
    case round =>
      obtain ⟨k, zs, rfl, hk, hP, hzl, hz, hb⟩ := hrel
      have hP0 := Lib.hid hP
      have HZ := Lib.hid hz
      have hX0 := HX0.out.later hb
      obtain ⟨q0, q1, _, _⟩ := hX0.two
      by_cases hlt : k < M
      · obtain ⟨b1, o1, rfl, c1⟩ := (HDY.out.later hb).at (i := k) (by rw [HM.out]; exact hlt)
        have hlow := HPP.out.low (i := k) (by rw [HM.out]; exact hlt)
        obtain ⟨j, hj⟩ : ∃ j : Nat, t.getD k 0 = (j : Int) := ⟨(t.getD k 0).toNat, by omega⟩
        have hjl : j < s.length := by rw [hj, HM.out] at hlow; have := HM.out; omega
        obtain ⟨b2, o2, rfl, c2⟩ := (HTY.out.later hb).sh.at (i := j) hjl
        have htr : (trS s t).getD k 0 = s.getD j 0 := by rw [trS_at s t (by rw [HM.out]; exact hlt), hj]; rfl
        have HTR := Lib.hid htr
        rw [hj] at c1
        have hf := hP.free k
        have hcj := hP.cell k (by rw [hzl]; exact hlt)
        have hltI : (k : Int) < (M : Int) := by omega
        have hjI : (j : Int) < (s.length : Int) := by omega
        clear hP hz hX0 hlow hj htr
        go_wp2
        go_roundw
        case rel =>
          refine ⟨k + 1, zs.set k (s.getD j 0), by go_num, by omega, ?_, by rw [List.length_set]; exact hzl, fun i hi => ?_, hb.setCell (by show y.heap.size ≤ y.heap.size; exact Nat.le_refl _) _⟩
          · have := hP0.out.set k (by rw [hzl]; exact hlt) (s.getD j 0)
            simpa [List.getD_eq_getElem?_getD, hjl] using this
          · by_cases e : i = k
            · subst e
              rw [getD_set_self _ _ _ (by rw [hzl]; exact hlt), HTR.out]
            · rw [getD_set_ne _ _ (by omega)]
              exact HZ.out i (by omega)
        case measure => simp [intOf]; omega
      · obtain rfl : k = M := by omega
        have hltI : ¬ (k : Int) < (k : Int) := by omega
        have hzt : zs = trS s t := list_eq_getD (by rw [hzl, trS_len, HM.out]) fun i hi => HZ.out i (by omega)
        have A3 := (show ResS y.heap.size wr (.slice (some ⟨y.heap.size, 0, none⟩) zs.length k) zs from ⟨hP0.out.num (Nat.le_refl _) (by unfold maxLen; omega), by rw [hzt]; exact okS_wid okP⟩).at_
        rw [hzt] at A3
        have hl3 : (trS s t).length = k := by rw [trS_len, HM.out]
        have hB3 : Below w.heap.size w wr := hB2.trans (hb.mono (by omega))
        have s3' := hb.size
        have hbu := built_any (N := n + 2) (F := 43) (cap := #[.pointer (some ⟨w.heap.size + 1, 0, none⟩), .pointer (some ⟨w.heap.size, 0, none⟩)]) (f := fun xs => elV s (qs.map Q3.rat) (trI t xs)) A3.2.1 A3.2.2 okP (enters_of Tryz.func43 (by kernel_rfl) rfl)
          (fun B X x xs hin hB hBX hX hx => by
            obtain ⟨ax, cx, AX, nx⟩ := hx.arg2
            have hlx := inS_length hin
            exact (transpose1_any ((HTY.out.later hb).later hX) hm0 HL.out (by omega) ((HDY.out.later hb).later hX) (((HX1.out.later hb).later hX).cell 0) HPP.out htl ((HX0.out.later hb).later hX) AX (by omega)).mono fun e w' ⟨r, g1, g2, g3⟩ => ⟨r, g1, g2.mono hBX, g3.mono hBX⟩)
        rw [HLR.out, hl3] at hbu
        have P1' := HP1.out.later hb
        have HBU := Lib.hid hbu
        clear hbu A3 hP hz
        go_wp2_with fail
        refine HBU.out.mono ?_
        rintro e w2 ⟨r, rfl, hT, hb2⟩
        obtain ⟨a', b', ca', cb', rfl, RS, RO⟩ := hT
        have P2 := P1'.later hb2
        have s3 := hb2.size
        obtain ⟨u0, u1, g0, g1⟩ := P2.two
        have HR := Lib.hid RS
        have HO := Lib.hid RO
        clear RS RO
        obtain ⟨l, hl⟩ : ∃ l, LR.length = l := ⟨_, rfl⟩
        obtain ⟨ls, hls⟩ : ∃ ls, (trS s t).length = ls := ⟨_, rfl⟩
        have HL2 := Lib.hid hl
        have HL3 := Lib.hid hls
        rw [hl, hls]
        clear hl hls
        go_wp2_with fail
        have P3 := P2.set2 (.slice a' ls ca') (.slice b' l cb')
        obtain ⟨z0, z1, _, _⟩ := P3.two
        refine bodyPost_ret (v := .tuple #[.agg #[.slice a' ls ca', .slice b' l cb'], .int .i64 0]) (by simp [results, Tryz.results13, go_sem, z0, z1]) rfl ⟨.inl ⟨rfl, _, rfl, ?_⟩, below_set2 (hB3.trans (hb2.mono (by omega))) (by omega) _ _⟩
        have hR : ResT w.heap.size w2 (.agg #[.slice a' ls ca', .slice b' l cb']) (trS s t) LR (n + 2) := ResT.mono ⟨a', b', ca', cb', by rw [HL2.out, HL3.out], HR.out, HO.out⟩ (by omega)
        exact hR.far P2 (by decide) (by decide) (by decide) (kept2 _ _)
  · have hne : (c != 0) = true := by simp [h0]
    have H0 := Lib.hid h0
    obtain ⟨u0, u1, g0, g1⟩ := P1.two
    clear h0 mkS
    go_wp2_with fail
    have P3 := P1.set2 (.slice none 0 0) (.slice none 0 0)
    obtain ⟨z0, z1, _, _⟩ := P3.two
    refine bodyPost_ret (v := .tuple #[noTensor, .int .i64 c]) (by simp [results, Tryz.results13, go_sem, z0, z1, noTensor]) rfl ⟨.inr ⟨H0.out, rfl⟩, below_set2 hB2 (by omega) _ _⟩
end
end Go.Proofs.YtooglnhlhgmhdaaGreat
