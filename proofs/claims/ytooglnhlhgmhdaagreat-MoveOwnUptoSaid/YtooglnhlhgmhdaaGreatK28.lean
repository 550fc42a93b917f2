/-
  Layer 9: fluxionref07.Same with longer numbers. (Made by wip/gen/gen_msame.py out of XTCmp.)
-/
import Derived.Test.YtooglnhlhgmhdaaGreatK1
import Derived.Test.YtooglnhlhgmhdaaGreatK2
import Derived.Test.YtooglnhlhgmhdaaGreatK3
import Derived.Test.YtooglnhlhgmhdaaGreatK5
import Derived.Test.YtooglnhlhgmhdaaGreatK7
import Derived.Test.YtooglnhlhgmhdaaGreatK9
import Derived.Test.YtooglnhlhgmhdaaGreatK11
import Derived.Test.YtooglnhlhgmhdaaGreatK12
import Derived.Test.YtooglnhlhgmhdaaGreatK13
import Derived.Test.YtooglnhlhgmhdaaGreatK14
import Derived.Test.YtooglnhlhgmhdaaGreatK15
import Derived.Test.YtooglnhlhgmhdaaGreatK16
import Derived.Test.YtooglnhlhgmhdaaGreatK17
import Derived.Test.YtooglnhlhgmhdaaGreatK18
import Derived.Test.YtooglnhlhgmhdaaGreatK19
import Derived.Test.YtooglnhlhgmhdaaGreatK20
import Derived.Test.YtooglnhlhgmhdaaGreatK21
import Derived.Test.YtooglnhlhgmhdaaGreatK23
import Derived.Test.YtooglnhlhgmhdaaGreatK24
import Derived.WalkKit
import Derived.Test.YtooglnhlhgmhdaaGreatRows
import Derived.BigQuiet
import Derived.Deep.QuietTactic
import Derived.Lib.Hide
import Derived.Lib.Small
import Derived.Lib.Walk
import Derived.Lib.BitFns
import Derived.Maps.AppendAt
import Derived.RangeFuncNested
import Derived.RangeFuncBound
import Derived.RangeFuncCalls
import Derived.RangeFuncLeaves
import Derived.Shelf.Abstract
import Derived.OwnWalkIn
import Derived.TacticsInMore
import Derived.LoopNIn
import Derived.LoopIn
import Derived.RangeFuncBox
import Derived.Deep.RegionHeld3
import Derived.OrdersIn
import Derived.StillTailTactics
import Derived.RangeFuncFrom
import Derived.Laws.EntriesVeiled
import Derived.ProofKit
import Derived.OpenShut
import Derived.JoinedCond
import Derived.Carry
import Derived.Laws.AppendOwnNone
import Derived.Lib.ItoaNum
import Derived.Deep.RegionLaw
import Derived.WalkMore
import Derived.Lib.SmallJoins
import Derived.IntWalk
import Derived.Deep.DeepCutAuto
import Derived.Laws.OwnMore
import Derived.OrdersHeld
import Derived.Deep.RegionHeld
import Derived.ArgAppend
import Derived.Deep.Slices
import Derived.Laws.CopyOwn
import Derived.Lib.SliceRun
namespace Go.Proofs.YtooglnhlhgmhdaaGreat
set_option maxRecDepth 100000
section
open Go.RowKit
set_option linter.unusedVariables false
set_option linter.unusedSimpArgs false
theorem or0 {x : Int} {l : List Int} (h : orL (x :: l) = 0) : x = 0 ∧ orL l = 0 := by
  unfold orL at h
  split at h
  · rename_i h1; exact ⟨h1, h⟩
  · rename_i h1; exact absurd h h1
theorem or1 {x : Int} (h : orL [x] = 0) : x = 0 := (or0 h).1
theorem make_runSh (n : Nat) (hc : n ≤ 17592186044416) (w : World) :
    (Instr.makeSlice 23 (.int .i64 (n : Int)) (.int .i64 (n : Int))).run Tryz.prog w = .ok (.slice (some ⟨w.heap.size, 0, none⟩) n n) (w.alloc (.cells (madeCells #[.int .i64 0] n) 3)) := by
  obtain ⟨i0, hi, hz0, hz1, hz2⟩ := info_parts infoS
  have h := run_make (P := Tryz.prog) w 23 3 i0 (.int .i64 0) Tryz.underlying23 hi hz0 .i64 .i64 n n (by omega) (by omega) (by rw [hz2]; omega) (by omega)
  simpa [hz1, Value.cells] using h
theorem okS_wid {s : List Int} (ok : OkS s) : Wid s := fun x hx => by
  obtain ⟨i, hi, rfl⟩ := List.mem_iff_getElem.1 hx
  have e1 := ok.pos.getD hi
  have e2 := getD_le_prod ok.pos hi
  have e3 := ok.few
  rw [getD_elem hi] at e1 e2
  omega
def cntC (s : List Int) (qs : List Q3) : Int := if countS s ≠ (qs.length : Int) then 13 else 0
set_option maxRecDepth 100000 in
theorem mayCount_any {w : World} {v u : Value} {s t : List Int} {qs : List Q3} {a b ad : Option Addr} {ca cb cd : Nat} (T : TensQ w v s qs a ca b cb) (D : ArgS w u t ad cd) :
    Calls Tryz.prog 53 #[v, u] w fun e w' => e = .returned (.int .i64 (cntC t qs)) ∧ Below w.heap.size w w' := by
  obtain rfl := T.is
  obtain ⟨W, hW⟩ : ∃ W, w.alloc (.cells #[.slice a s.length ca, .slice b qs.length cb] 26) = W := ⟨_, rfl⟩
  have R0 : Row W w.heap.size 26 #[.slice a s.length ca, .slice b qs.length cb] := by rw [← hW]; exact Row.new _ _ _
  have hBW : Below w.heap.size w W := by rw [← hW]; exact (Below.refl _ _).alloc (Nat.le_refl _) _
  obtain ⟨c, hc⟩ : ∃ c, countS t = c := ⟨_, rfl⟩
  have hcn := fun (X : World) (h : Below W.heap.size W X) => countS_eq ((D.later hBW).later h)
  rw [hc] at hcn
  obtain ⟨L, hL⟩ : ∃ L, qs.length = L := ⟨_, rfl⟩
  have hd : cntC t qs = if c ≠ (L : Int) then 13 else 0 := by unfold cntC; rw [hc, hL]
  obtain ⟨d, hdd⟩ : ∃ d, cntC t qs = d := ⟨_, rfl⟩
  rw [hdd] at hd
  have HDD := Lib.hid hd
  rw [hdd]
  rw [hL] at R0 hW ⊢
  have mkS : ∀ X, Below W.heap.size W X → X.cell? ⟨w.heap.size, 1, none⟩ = some (.slice b L cb) := fun X h => ((R0.later h).two).2.1
  have B0 : Below W.heap.size W W.drew := (Below.refl _ W).drew
  clear T D hc hd hL hdd
  go_enter Tryz.func53, Tryz.ntmps53
  go_wp2_with fail
  (try rw [hW])
  clear hW
  refine wp_region_held (S := fun X => X.cell? ⟨w.heap.size, 1, none⟩ = some (.slice b L cb)) (by kernel_rfl) ?_
  have hHeld := mkS _ B0
  refine wpAnyH_take (i := 0) (v := ?vq0a0) rfl (by kernel_rfl) (by kernel_rfl) (by kernel_rfl) (fun _ _ _ h => h) (Or.inl ⟨by rfl, ?hq0a0⟩) (by assumption) ?rq0a0
  case hq0a0 =>
    intro w hSw
    try dsimp only at hSw
    go_simp
    try with_reducible rfl
  try simp only [Act.put, List.setIfInBounds_toArray, List.set_cons_zero, List.set_cons_succ]
  refine wpAnyH_take (i := 2) (v := ?vq0a2) rfl (by kernel_rfl) (by kernel_rfl) (by kernel_rfl) (fun _ _ _ h => h) (Or.inl ⟨by rfl, ?hq0a2⟩) (by assumption) ?rq0a2
  case hq0a2 =>
    intro w hSw
    try dsimp only at hSw
    go_simp
    try with_reducible rfl
  try simp only [Act.put, List.setIfInBounds_toArray, List.set_cons_zero, List.set_cons_succ]
  refine wpAnyH_take (i := 3) (v := ?vq0a3) rfl (by kernel_rfl) (by kernel_rfl) (by kernel_rfl) (fun _ _ _ h => h) (Or.inl ⟨by rfl, ?hq0a3⟩) (by assumption) ?rq0a3
  case hq0a3 =>
    intro w hSw
    try dsimp only at hSw
    go_simp
    try with_reducible rfl
  try simp only [Act.put, List.setIfInBounds_toArray, List.set_cons_zero, List.set_cons_succ]
  refine wpAnyH_take (i := 4) (v := ?vq0a4) rfl (by kernel_rfl) (by kernel_rfl) (by kernel_rfl) (fun _ _ _ h => h) (Or.inl ⟨by rfl, ?hq0a4⟩) (by assumption) ?rq0a4
  case hq0a4 =>
    intro w hSw
    try dsimp only at hSw
    go_simp
    try with_reducible rfl
  try simp only [Act.put, List.setIfInBounds_toArray, List.set_cons_zero, List.set_cons_succ]
  refine wpAnyH_ready (rs := [1]) (by kernel_rfl) (by simp) ?_
  refine AllReadyH.cons rfl (fun K hK => ?scn) AllReadyH.nil
  go_simp
  refine (hcn _ B0).mono ?_
  rintro e y1 ⟨rfl, rfl⟩
  go_simp
  refine hK.out _ _ ?kcn (fun hHeld => ?mcn)
  case kcn =>
    try dsimp only
    exact mkS _ B0
  clear hK K
  try simp only [Act.put, List.setIfInBounds_toArray, List.set_cons_zero, List.set_cons_succ]
  refine wpAnyH_take (i := 5) (v := ?vf) rfl (by kernel_rfl) (by kernel_rfl) (by kernel_rfl) (fun _ _ _ h => h) (Or.inl ⟨by rfl, ?hf⟩) (by assumption) ?rf
  case hf =>
    intro w hSw
    try dsimp only at hSw
    go_simp
    try with_reducible rfl
  try simp only [Act.put, List.getElem_toArray, List.getElem_cons_succ, List.getElem_cons_zero, List.setIfInBounds_toArray, List.set_cons_zero, List.set_cons_succ]
  refine wpAnyH_done (by kernel_rfl) ?_ _
  have hw : Below w.heap.size w W.drew := hBW.drew
  by_cases h : c = (L : Int)
  · have hn : (c != (L : Int)) = false := by simp [h]
    obtain rfl : d = 0 := by rw [HDD.out, if_neg (by simp [h])]
    clear h
    go_wp2
    go_ret
    exact ⟨rfl, hw⟩
  · have hn : (c != (L : Int)) = true := by simp [h]
    obtain rfl : d = 13 := by rw [HDD.out, if_pos h]
    clear h
    go_wp2
    go_ret
    exact ⟨rfl, hw⟩
set_option maxRecDepth 100000 in
set_option maxHeartbeats 8000000 in
theorem reshape_any {n : Nat} {w : World} {v : Value} {s t : List Int} {qs : List Q3} {a b ad : Option Addr} {ca cb cd : Nat} (T : TensQ w v s qs a ca b cb) (D : ArgS w (.slice ad t.length cd) t ad cd) (nd : ad = none → cd = 0) (hs : s.length ≤ 1048576) (ht : t.length ≤ 8000000) (hq : qs.length ≤ 1048576) (hl : lensQ qs n) (hn : n ≤ 3000000) :
    Calls Tryz.prog 20 #[v, .slice ad t.length cd] w fun e w' => One w.heap.size w' e (orL [mayT s qs, mayC t, cntC t qs]) (t) (qs.map Q3.rat) (n + 2) ∧ Below w.heap.size w w' := by
  have HT := Lib.hid T
  have HD := Lib.hid D
  have HND := Lib.hid nd
  have HL := Lib.hid hl
  obtain rfl := T.is
  obtain ⟨W, hW⟩ : ∃ W, ((w.alloc (.cells #[.slice a s.length ca, .slice b qs.length cb] 26)).alloc (.cells #[.slice none 0 0, .slice none 0 0] 26)) = W := ⟨_, rfl⟩
  have R0 : Row W (w.heap.size) 26 #[.slice a s.length ca, .slice b qs.length cb] := by rw [← hW]; have h := Row.new w 26 #[.slice a s.length ca, .slice b qs.length cb]; (try simp only [World.size_alloc] at h); exact (h.alloc _)
  have R1 : Row W (w.heap.size + 1) 26 #[.slice none 0 0, .slice none 0 0] := by rw [← hW]; have h := Row.new (w.alloc (.cells #[.slice a s.length ca, .slice b qs.length cb] 26)) 26 #[.slice none 0 0, .slice none 0 0]; (try simp only [World.size_alloc] at h); exact h
  have hBW : Below w.heap.size w W := by rw [← hW]; exact (((Below.refl _ _).alloc (by (try simp) <;> omega) _).alloc (by (try simp) <;> omega) _)
  have hsW : W.heap.size = w.heap.size + 1 + 1 := by rw [← hW]; simp
  have hm := fun (X : World) (hX : Below W.heap.size W X) => mayT7_any (HT.out.later (hBW.trans (hX.mono (by omega)))) (by omega) (by omega) HL.out (by omega)
  obtain ⟨m, hmm⟩ : ∃ m, mayT s qs = m := ⟨_, rfl⟩
  have hp := fun (X : World) (hX : Below W.heap.size W X) => mayS_any (HD.out.later (hBW.trans (hX.mono (by omega)))) (by omega)
  obtain ⟨p, hpe⟩ : ∃ c, mayC t = c := ⟨_, rfl⟩
  have Hp := Lib.hid hpe
  rw [hpe] at hp
  have hq := fun (X : World) (hX : Below W.heap.size W X) => mayCount_any (HT.out.later (hBW.trans (hX.mono (by omega)))) (HD.out.later (hBW.trans (hX.mono (by omega))))
  obtain ⟨q, hqe⟩ : ∃ c, cntC t qs = c := ⟨_, rfl⟩
  have Hq := Lib.hid hqe
  rw [hqe] at hq
  rw [hmm] at hm
  have mkS : ∀ X, Below W.heap.size W X → X.cell? ⟨w.heap.size, 0, none⟩ = some (.slice a s.length ca) ∧ X.cell? ⟨w.heap.size, 1, none⟩ = some (.slice b qs.length cb) := fun X h => by
    obtain ⟨x0, x1, _⟩ := (R0.later h).two
    exact ⟨x0, x1⟩
  have B0 : Below W.heap.size W W.drew := (Below.refl _ W).drew
  obtain ⟨LR, hLR⟩ : ∃ L, (qs.map Q3.rat) = L := ⟨_, rfl⟩
  have HMM := Lib.hid hmm
  have HLR := Lib.hid hLR
  rw [hmm, hpe, hqe, hLR]
  obtain ⟨c, hc⟩ : ∃ c, orL [m, p, q] = c := ⟨_, rfl⟩
  have HC := Lib.hid hc
  rw [hc]
  clear T D nd hmm hpe hqe hLR hc hl
  go_enter Tryz.func20, Tryz.ntmps20
  go_wp2_with fail
  (try rw [hW])
  clear hW
  refine wp_region_held (S := fun X => X.cell? ⟨w.heap.size, 0, none⟩ = some (.slice a s.length ca) ∧ X.cell? ⟨w.heap.size, 1, none⟩ = some (.slice b qs.length cb)) (by kernel_rfl) ?_
  have hHeld := mkS _ B0
  refine wpAnyH_take (i := 0) (v := ?vq0a0) rfl (by kernel_rfl) (by kernel_rfl) (by kernel_rfl) (fun _ _ _ h => h) (Or.inl ⟨by rfl, ?hq0a0⟩) (by assumption) ?rq0a0
  case hq0a0 =>
    intro w hSw
    try dsimp only at hSw
    go_simp
    try with_reducible rfl
  try simp only [Act.put, List.setIfInBounds_toArray, List.set_cons_zero, List.set_cons_succ]
  refine wpAnyH_take (i := 2) (v := ?vq0a2) rfl (by kernel_rfl) (by kernel_rfl) (by kernel_rfl) (fun _ _ _ h => h) (Or.inl ⟨by rfl, ?hq0a2⟩) (by assumption) ?rq0a2
  case hq0a2 =>
    intro w hSw
    try dsimp only at hSw
    go_simp
    try with_reducible rfl
  try simp only [Act.put, List.setIfInBounds_toArray, List.set_cons_zero, List.set_cons_succ]
  refine wpAnyH_take (i := 4) (v := ?vq0a4) rfl (by kernel_rfl) (by kernel_rfl) (by kernel_rfl) (fun _ _ _ h => h) (Or.inl ⟨by rfl, ?hq0a4⟩) (by assumption) ?rq0a4
  case hq0a4 =>
    intro w hSw
    try dsimp only at hSw
    go_simp
    try with_reducible rfl
  try simp only [Act.put, List.setIfInBounds_toArray, List.set_cons_zero, List.set_cons_succ]
  refine wpAnyH_take (i := 5) (v := ?vq0a5) rfl (by kernel_rfl) (by kernel_rfl) (by kernel_rfl) (fun _ _ _ h => h) (Or.inl ⟨by rfl, ?hq0a5⟩) (by assumption) ?rq0a5
  case hq0a5 =>
    intro w hSw
    try dsimp only at hSw
    go_simp
    try with_reducible rfl
  try simp only [Act.put, List.setIfInBounds_toArray, List.set_cons_zero, List.set_cons_succ]
  refine wpAnyH_ready (rs := [1]) (by kernel_rfl) (by simp) ?_
  refine AllReadyH.cons rfl (fun K hK => ?sq1c1) AllReadyH.nil
  go_simp
  refine (hm _ B0).mono ?_
  rintro e y1 ⟨rfl, hy⟩
  have B1 : Below W.heap.size W y1 := B0.trans (hy.mono B0.size)
  have D1 := hy
  clear hy
  go_simp
  refine hK.out _ _ ?kq1c1 (fun hHeld => ?mq1c1)
  case kq1c1 =>
    try dsimp only
    exact mkS _ B1
  clear hK K
  try simp only [Act.put, List.setIfInBounds_toArray, List.set_cons_zero, List.set_cons_succ]
  refine wpAnyH_ready (rs := [3]) (by kernel_rfl) (by simp) ?_
  refine AllReadyH.cons rfl (fun K hK => ?scp) AllReadyH.nil
  go_simp
  refine (hp _ B1).mono ?_
  rintro e y2 ⟨rfl, hy⟩
  have B2 : Below W.heap.size W y2 := B1.trans (hy.mono B1.size)
  clear hy
  go_simp
  refine hK.out _ _ ?kcp (fun hHeld => ?mcp)
  case kcp =>
    try dsimp only
    exact mkS _ B2
  clear hK K
  try simp only [Act.put, List.setIfInBounds_toArray, List.set_cons_zero, List.set_cons_succ]
  refine wpAnyH_ready (rs := [6]) (by kernel_rfl) (by simp) ?_
  refine AllReadyH.cons rfl (fun K hK => ?scq) AllReadyH.nil
  go_simp
  refine (hq _ B2).mono ?_
  rintro e y3 ⟨rfl, hy⟩
  have B3 : Below W.heap.size W y3 := B2.trans (hy.mono B2.size)
  clear hy
  go_simp
  refine hK.out _ _ ?kcq (fun hHeld => ?mcq)
  case kcq =>
    try dsimp only
    exact mkS _ B3
  clear hK K
  try simp only [Act.put, List.setIfInBounds_toArray, List.set_cons_zero, List.set_cons_succ]
  have z3 := B3.size
  have A3 : Below W.heap.size W (y3.alloc (.cells #[.int .i64 m, .int .i64 p, .int .i64 q] 27)) := B3.alloc (by omega) _
  refine wpAnyH_ready (rs := [7]) (by kernel_rfl) (by simp) ?_
  refine AllReadyH.cons rfl (fun K hK => ?sal3) AllReadyH.nil
  go_simp
  refine hK.out _ _ ?kal3 (fun hHeld => ?mal3)
  case kal3 =>
    try dsimp only
    exact mkS _ A3
  clear hK K
  try simp only [Act.put, List.setIfInBounds_toArray, List.set_cons_zero, List.set_cons_succ]
  refine wpAnyH_ready (rs := [8]) (by kernel_rfl) (by simp) ?_
  refine AllReadyH.cons rfl (fun K hK => ?sor3) AllReadyH.nil
  go_simp
  refine (or_any (xs := [m, p, q]) (b := y3.heap.size) (fun k hk => by
    have R := Row.new y3 27 #[.int .i64 m, .int .i64 p, .int .i64 q]
    simp only [List.length_cons, List.length_nil] at hk
    by_cases h0 : k = 0
    · subst h0; exact R.cell 0
    by_cases h1 : k = 1
    · subst h1; exact R.cell 1
    by_cases h2 : k = 2
    · subst h2; exact R.cell 2
    · omega) (by simp)).mono ?_
  rintro e y4 ⟨rfl, rfl⟩
  have B4 := A3
  go_simp
  refine hK.out _ _ ?kor3 (fun hHeld => ?mor3)
  case kor3 =>
    try dsimp only
    exact mkS _ A3
  clear hK K
  try simp only [Act.put, List.setIfInBounds_toArray, List.set_cons_zero, List.set_cons_succ]
  rw [HC.out]
  refine wpAnyH_ready (rs := [9]) (by kernel_rfl) (by simp) ?_
  refine AllReadyH.cons rfl (fun K hK => ?sas) AllReadyH.nil
  go_simp
  refine hK.out _ _ ?kas (fun hHeld => ?mas)
  case kas =>
    try dsimp only
    exact mkS _ A3
  clear hK K
  try simp only [Act.put, List.setIfInBounds_toArray, List.set_cons_zero, List.set_cons_succ]
  refine wpAnyH_done (by kernel_rfl) ?_ _
  (try dsimp only [Straight])
  obtain ⟨y, hy2⟩ : ∃ z, y3.alloc (.cells #[.int .i64 m, .int .i64 p, .int .i64 q] 27) = z := ⟨_, rfl⟩
  rw [hy2] at A3 ⊢
  have AY := A3
  have X0 := R0.later AY
  have P1 := R1.later AY
  skip
  obtain ⟨x0, x1, _⟩ := X0.two
  skip
  have s2 := AY.size
  have hB2 : Below w.heap.size w y := hBW.trans (AY.mono (by omega))
  have hmf : ∀ (fn : Fn) (first cap : Array Value) (w : World), (Instr.makeFunc fn first cap).run Tryz.prog w = .ok (.func fn first cap) w := fun _ _ _ _ => rfl
  clear hy2
  by_cases h0 : c = 0
  · subst h0
    obtain ⟨hm0, hc0⟩ := or0 HC.out
    have hp0 := (or0 hc0).1
    have hc0 := (or0 hc0).2
    rw [← Hp.out] at hp0
    have hq0 := or1 hc0
    rw [← Hq.out] at hq0
    rw [← HMM.out] at hm0
    have okS := mayC_zero.1 (mayT_rank hm0)
    have TY := HT.out.later hB2
    have DY := HD.out.later hB2
    clear mkS
    have okT := mayC_zero.1 hp0
    have hcnt : countS t = (qs.length : Int) := by
      unfold cntC at hq0
      split at hq0
      · cases hq0
      · rename_i h; exact Classical.not_not.1 h
    obtain ⟨W3, hW3⟩ : ∃ W3, y.alloc (.cells #[.slice ad t.length cd, .slice b qs.length cb] 26) = W3 := ⟨_, rfl⟩
    have RG : Row W3 y.heap.size 26 #[.slice ad t.length cd, .slice b qs.length cb] := by rw [← hW3]; exact Row.new _ _ _
    have b3 : Below y.heap.size y W3 := by rw [← hW3]; exact (Below.refl _ _).alloc (Nat.le_refl _) _
    have hB3 : Below w.heap.size w W3 := hB2.trans (b3.mono (by omega))
    have s3' := b3.size
    have TX : TensQ W3 (.agg #[.slice ad t.length cd, .slice b qs.length cb]) t qs ad cd b cb := ⟨rfl, DY.later b3, HND.out, (TY.later b3).el, TY.nilb⟩
    have hmt : mayT t qs = 0 := mayT_ok hp0 hcnt.symm (mayT_valid hm0).2
    have hbu := built_any (N := n + 2) (F := 54) (cap := #[.pointer (some ⟨y.heap.size, 0, none⟩)]) (f := fun xs => elV t (qs.map Q3.rat) xs) (DY.later b3) HND.out okT (enters_of Tryz.func54 (by kernel_rfl) rfl)
      (fun B X x xs hin hB hBX hX hx => by
        obtain ⟨ax, cx, AX, nx⟩ := hx.arg2
        exact (reshape1_any (TX.later hX) hmt HL.out (by omega) (RG.later hX) AX nx (by rw [inS_length hin]; have := okT.rank; omega)).mono fun e w' ⟨r, g1, g2, g3⟩ => ⟨r, g1, g2.mono hBX, g3.mono hBX⟩)
    rw [show fillV t (fun xs => elV t (qs.map Q3.rat) xs) = qs.map Q3.rat from fillV_self okT.pos (by rw [List.length_map]; have := okT.count; omega), HLR.out] at hbu
    have P1' := P1.later b3
    have HBU := Lib.hid hbu
    clear hbu hcnt hmt
    go_wp2_with fail
    (try rw [hW3])
    refine HBU.out.mono ?_
    rintro e w2 ⟨r, rfl, hT, hb2⟩
    obtain ⟨a', b', ca', cb', rfl, RS, RO⟩ := hT
    have P2 := P1'.later hb2
    have s3 := hb2.size
    obtain ⟨u0, u1, g0, g1⟩ := P2.two
    have HR := Lib.hid RS
    have HO := Lib.hid RO
    clear RS RO
    obtain ⟨l, hl⟩ : ∃ l, LR.length = l := ⟨_, rfl⟩
    obtain ⟨ls, hls⟩ : ∃ ls, (t).length = ls := ⟨_, rfl⟩
    have HL2 := Lib.hid hl
    have HL3 := Lib.hid hls
    rw [hl, hls]
    clear hl hls
    go_wp2_with fail
    have P3 := P2.set2 (.slice a' ls ca') (.slice b' l cb')
    obtain ⟨z0, z1, _, _⟩ := P3.two
    refine bodyPost_ret (v := .tuple #[.agg #[.slice a' ls ca', .slice b' l cb'], .int .i64 0]) (by simp [results, Tryz.results20, go_sem, z0, z1]) rfl ⟨.inl ⟨rfl, _, rfl, ?_⟩, below_set2 (hB3.trans (hb2.mono (by omega))) (by omega) _ _⟩
    have hR : ResT w.heap.size w2 (.agg #[.slice a' ls ca', .slice b' l cb']) (t) LR (n + 2) := ResT.mono ⟨a', b', ca', cb', by rw [HL2.out, HL3.out], HR.out, HO.out⟩ (by omega)
    exact hR.far P2 (by decide) (by decide) (by decide) (kept2 _ _)
  · have hne : (c != 0) = true := by simp [h0]
    have H0 := Lib.hid h0
    obtain ⟨u0, u1, g0, g1⟩ := P1.two
    clear h0 mkS
    go_wp2_with fail
    have P3 := P1.set2 (.slice none 0 0) (.slice none 0 0)
    obtain ⟨z0, z1, _, _⟩ := P3.two
    refine bodyPost_ret (v := .tuple #[noTensor, .int .i64 c]) (by simp [results, Tryz.results20, go_sem, z0, z1, noTensor]) rfl ⟨.inr ⟨H0.out, rfl⟩, below_set2 hB2 (by omega) _ _⟩
set_option maxRecDepth 100000 in
set_option maxHeartbeats 8000000 in
theorem broadcast_any {n : Nat} {w : World} {v : Value} {s t : List Int} {qs : List Q3} {a b ad : Option Addr} {ca cb cd : Nat} (T : TensQ w v s qs a ca b cb) (D : ArgS w (.slice ad t.length cd) t ad cd) (nd : ad = none → cd = 0) (hs : s.length ≤ 1048576) (ht : t.length ≤ 8000000) (hq : qs.length ≤ 1048576) (hl : lensQ qs n) (hn : n ≤ 3000000) :
    Calls Tryz.prog 22 #[v, .slice ad t.length cd] w fun e w' => One w.heap.size w' e (orL [mayT s qs, fitC s t]) (t) (fillV t (fun xs => elV s (qs.map Q3.rat) (bcI s (t.length - s.length) xs))) (n + 2) ∧ Below w.heap.size w w' := by
  have HT := Lib.hid T
  have HD := Lib.hid D
  have HND := Lib.hid nd
  have HL := Lib.hid hl
  obtain rfl := T.is
  obtain ⟨W, hW⟩ : ∃ W, ((w.alloc (.cells #[.slice a s.length ca, .slice b qs.length cb] 26)).alloc (.cells #[.slice none 0 0, .slice none 0 0] 26)) = W := ⟨_, rfl⟩
  have R0 : Row W (w.heap.size) 26 #[.slice a s.length ca, .slice b qs.length cb] := by rw [← hW]; have h := Row.new w 26 #[.slice a s.length ca, .slice b qs.length cb]; (try simp only [World.size_alloc] at h); exact (h.alloc _)
  have R1 : Row W (w.heap.size + 1) 26 #[.slice none 0 0, .slice none 0 0] := by rw [← hW]; have h := Row.new (w.alloc (.cells #[.slice a s.length ca, .slice b qs.length cb] 26)) 26 #[.slice none 0 0, .slice none 0 0]; (try simp only [World.size_alloc] at h); exact h
  have hBW : Below w.heap.size w W := by rw [← hW]; exact (((Below.refl _ _).alloc (by (try simp) <;> omega) _).alloc (by (try simp) <;> omega) _)
  have hsW : W.heap.size = w.heap.size + 1 + 1 := by rw [← hW]; simp
  have hm := fun (X : World) (hX : Below W.heap.size W X) => mayT7_any (HT.out.later (hBW.trans (hX.mono (by omega)))) (by omega) (by omega) HL.out (by omega)
  obtain ⟨m, hmm⟩ : ∃ m, mayT s qs = m := ⟨_, rfl⟩
  have hp := fun (X : World) (hX : Below W.heap.size W X) => fitsS_any (HT.out.later (hBW.trans (hX.mono (by omega)))).sh (HD.out.later (hBW.trans (hX.mono (by omega)))) HT.out.nila HND.out (by omega) (by omega)
  obtain ⟨p, hpe⟩ : ∃ c, fitC s t = c := ⟨_, rfl⟩
  have Hp := Lib.hid hpe
  rw [hpe] at hp
  rw [hmm] at hm
  have mkS : ∀ X, Below W.heap.size W X → X.cell? ⟨w.heap.size, 0, none⟩ = some (.slice a s.length ca) ∧ X.cell? ⟨w.heap.size, 1, none⟩ = some (.slice b qs.length cb) := fun X h => by
    obtain ⟨x0, x1, _⟩ := (R0.later h).two
    exact ⟨x0, x1⟩
  have B0 : Below W.heap.size W W.drew := (Below.refl _ W).drew
  obtain ⟨LR, hLR⟩ : ∃ L, (fillV t (fun xs => elV s (qs.map Q3.rat) (bcI s (t.length - s.length) xs))) = L := ⟨_, rfl⟩
  have HMM := Lib.hid hmm
  have HLR := Lib.hid hLR
  rw [hmm, hpe, hLR]
  obtain ⟨c, hc⟩ : ∃ c, orL [m, p] = c := ⟨_, rfl⟩
  have HC := Lib.hid hc
  rw [hc]
  clear T D nd hmm hpe hLR hc hl
  go_enter Tryz.func22, Tryz.ntmps22
  go_wp2_with fail
  (try rw [hW])
  clear hW
  refine wp_region_held (S := fun X => X.cell? ⟨w.heap.size, 0, none⟩ = some (.slice a s.length ca) ∧ X.cell? ⟨w.heap.size, 1, none⟩ = some (.slice b qs.length cb)) (by kernel_rfl) ?_
  have hHeld := mkS _ B0
  refine wpAnyH_take (i := 0) (v := ?vq0a0) rfl (by kernel_rfl) (by kernel_rfl) (by kernel_rfl) (fun _ _ _ h => h) (Or.inl ⟨by rfl, ?hq0a0⟩) (by assumption) ?rq0a0
  case hq0a0 =>
    intro w hSw
    try dsimp only at hSw
    go_simp
    try with_reducible rfl
  try simp only [Act.put, List.setIfInBounds_toArray, List.set_cons_zero, List.set_cons_succ]
  refine wpAnyH_take (i := 2) (v := ?vq0a2) rfl (by kernel_rfl) (by kernel_rfl) (by kernel_rfl) (fun _ _ _ h => h) (Or.inl ⟨by rfl, ?hq0a2⟩) (by assumption) ?rq0a2
  case hq0a2 =>
    intro w hSw
    try dsimp only at hSw
    go_simp
    try with_reducible rfl
  try simp only [Act.put, List.setIfInBounds_toArray, List.set_cons_zero, List.set_cons_succ]
  refine wpAnyH_take (i := 3) (v := ?vq0a3) rfl (by kernel_rfl) (by kernel_rfl) (by kernel_rfl) (fun _ _ _ h => h) (Or.inl ⟨by rfl, ?hq0a3⟩) (by assumption) ?rq0a3
  case hq0a3 =>
    intro w hSw
    try dsimp only at hSw
    go_simp
    try with_reducible rfl
  try simp only [Act.put, List.setIfInBounds_toArray, List.set_cons_zero, List.set_cons_succ]
  refine wpAnyH_take (i := 4) (v := ?vq0a4) rfl (by kernel_rfl) (by kernel_rfl) (by kernel_rfl) (fun _ _ _ h => h) (Or.inl ⟨by rfl, ?hq0a4⟩) (by assumption) ?rq0a4
  case hq0a4 =>
    intro w hSw
    try dsimp only at hSw
    go_simp
    try with_reducible rfl
  try simp only [Act.put, List.setIfInBounds_toArray, List.set_cons_zero, List.set_cons_succ]
  refine wpAnyH_ready (rs := [1]) (by kernel_rfl) (by simp) ?_
  refine AllReadyH.cons rfl (fun K hK => ?sq1c1) AllReadyH.nil
  go_simp
  refine (hm _ B0).mono ?_
  rintro e y1 ⟨rfl, hy⟩
  have B1 : Below W.heap.size W y1 := B0.trans (hy.mono B0.size)
  have D1 := hy
  clear hy
  go_simp
  refine hK.out _ _ ?kq1c1 (fun hHeld => ?mq1c1)
  case kq1c1 =>
    try dsimp only
    exact mkS _ B1
  clear hK K
  try simp only [Act.put, List.setIfInBounds_toArray, List.set_cons_zero, List.set_cons_succ]
  refine wpAnyH_ready (rs := [5]) (by kernel_rfl) (by simp) ?_
  refine AllReadyH.cons rfl (fun K hK => ?scp) AllReadyH.nil
  go_simp
  refine (hp _ B1).mono ?_
  rintro e y2 ⟨rfl, hy⟩
  have B2 : Below W.heap.size W y2 := B1.trans (hy.mono B1.size)
  clear hy
  go_simp
  refine hK.out _ _ ?kcp (fun hHeld => ?mcp)
  case kcp =>
    try dsimp only
    exact mkS _ B2
  clear hK K
  try simp only [Act.put, List.setIfInBounds_toArray, List.set_cons_zero, List.set_cons_succ]
  have z2 := B2.size
  have A2 : Below W.heap.size W (y2.alloc (.cells #[.int .i64 m, .int .i64 p] 27)) := B2.alloc (by omega) _
  refine wpAnyH_ready (rs := [6]) (by kernel_rfl) (by simp) ?_
  refine AllReadyH.cons rfl (fun K hK => ?sal2) AllReadyH.nil
  go_simp
  refine hK.out _ _ ?kal2 (fun hHeld => ?mal2)
  case kal2 =>
    try dsimp only
    exact mkS _ A2
  clear hK K
  try simp only [Act.put, List.setIfInBounds_toArray, List.set_cons_zero, List.set_cons_succ]
  refine wpAnyH_ready (rs := [7]) (by kernel_rfl) (by simp) ?_
  refine AllReadyH.cons rfl (fun K hK => ?sor2) AllReadyH.nil
  go_simp
  refine (or_any (xs := [m, p]) (b := y2.heap.size) (fun k hk => by
    have R := Row.new y2 27 #[.int .i64 m, .int .i64 p]
    simp only [List.length_cons, List.length_nil] at hk
    by_cases h0 : k = 0
    · subst h0; exact R.cell 0
    by_cases h1 : k = 1
    · subst h1; exact R.cell 1
    · omega) (by simp)).mono ?_
  rintro e y3 ⟨rfl, rfl⟩
  have B3 := A2
  go_simp
  refine hK.out _ _ ?kor2 (fun hHeld => ?mor2)
  case kor2 =>
    try dsimp only
    exact mkS _ A2
  clear hK K
  try simp only [Act.put, List.setIfInBounds_toArray, List.set_cons_zero, List.set_cons_succ]
  rw [HC.out]
  refine wpAnyH_ready (rs := [8]) (by kernel_rfl) (by simp) ?_
  refine AllReadyH.cons rfl (fun K hK => ?sas) AllReadyH.nil
  go_simp
  refine hK.out _ _ ?kas (fun hHeld => ?mas)
  case kas =>
    try dsimp only
    exact mkS _ A2
  clear hK K
  try simp only [Act.put, List.setIfInBounds_toArray, List.set_cons_zero, List.set_cons_succ]
  refine wpAnyH_done (by kernel_rfl) ?_ _
  (try dsimp only [Straight])
  obtain ⟨y, hy2⟩ : ∃ z, y2.alloc (.cells #[.int .i64 m, .int .i64 p] 27) = z := ⟨_, rfl⟩
  rw [hy2] at A2 ⊢
  have AY := A2
  have X0 := R0.later AY
  have P1 := R1.later AY
  skip
  obtain ⟨x0, x1, _⟩ := X0.two
  skip
  have s2 := AY.size
  have hB2 : Below w.heap.size w y := hBW.trans (AY.mono (by omega))
  have hmf : ∀ (fn : Fn) (first cap : Array Value) (w : World), (Instr.makeFunc fn first cap).run Tryz.prog w = .ok (.func fn first cap) w := fun _ _ _ _ => rfl
  clear hy2
  by_cases h0 : c = 0
  · subst h0
    obtain ⟨hm0, hc0⟩ := or0 HC.out
    have hp0 := or1 hc0
    rw [← Hp.out] at hp0
    rw [← HMM.out] at hm0
    have okS := mayC_zero.1 (mayT_rank hm0)
    have TY := HT.out.later hB2
    have DY := HD.out.later hB2
    clear mkS
    have hfl := fit_len hp0
    obtain ⟨_, okT, _⟩ := fitC_is hp0
    obtain ⟨k, hk⟩ : ∃ k, t.length - s.length = k := ⟨_, rfl⟩
    have hkI : IntKind.i64.wrap ((t.length : Int) - (s.length : Int)) = (k : Int) := by rw [wrap_i64 (by omega) (by omega)]; omega
    obtain ⟨W3, hW3⟩ : ∃ W3, y.alloc (.cells #[.int .i64 (k : Int)] 3) = W3 := ⟨_, rfl⟩
    have RG : Row W3 y.heap.size 3 #[.int .i64 (k : Int)] := by rw [← hW3]; exact Row.new _ _ _
    have b3 : Below y.heap.size y W3 := by rw [← hW3]; exact (Below.refl _ _).alloc (Nat.le_refl _) _
    have hB3 : Below w.heap.size w W3 := hB2.trans (b3.mono (by omega))
    have s3' := b3.size
    have hbu := built_any (N := n + 2) (F := 58) (cap := #[.pointer (some ⟨y.heap.size, 0, none⟩), .pointer (some ⟨w.heap.size, 0, none⟩)]) (f := fun xs => elV s (qs.map Q3.rat) (bcI s k xs)) (DY.later b3) HND.out okT (enters_of Tryz.func58 (by kernel_rfl) rfl)
      (fun B X x xs hin hB hBX hX hx => by
        obtain ⟨ax, cx, rfl, IX, hcx, nx, hwx⟩ := hx.idx
        have hlx := inS_length hin
        exact broadcast1_any (TY.later b3) hm0 HL.out (by omega) hB hBX hX IX hcx nx (X0.later b3) (RG.cell 0) (by omega) (by have := okT.rank; omega) (fun i => by
          by_cases hi : i < t.length
          · have h1 := inS_at hin hi
            have h2 := getD_le_prod okT.pos hi
            have h3 := okT.few
            omega
          · rw [List.getD_eq_getElem?_getD, List.getElem?_eq_none (by omega)]
            simp))
    rw [← hk] at hbu
    rw [HLR.out] at hbu
    have P1' := P1.later b3
    have HBU := Lib.hid hbu
    clear hbu hk
    go_wp2_with fail
    (try rw [hW3])
    refine HBU.out.mono ?_
    rintro e w2 ⟨r, rfl, hT, hb2⟩
    obtain ⟨a', b', ca', cb', rfl, RS, RO⟩ := hT
    have P2 := P1'.later hb2
    have s3 := hb2.size
    obtain ⟨u0, u1, g0, g1⟩ := P2.two
    have HR := Lib.hid RS
    have HO := Lib.hid RO
    clear RS RO
    obtain ⟨l, hl⟩ : ∃ l, LR.length = l := ⟨_, rfl⟩
    obtain ⟨ls, hls⟩ : ∃ ls, (t).length = ls := ⟨_, rfl⟩
    have HL2 := Lib.hid hl
    have HL3 := Lib.hid hls
    rw [hl, hls]
    clear hl hls
    go_wp2_with fail
    have P3 := P2.set2 (.slice a' ls ca') (.slice b' l cb')
    obtain ⟨z0, z1, _, _⟩ := P3.two
    refine bodyPost_ret (v := .tuple #[.agg #[.slice a' ls ca', .slice b' l cb'], .int .i64 0]) (by simp [results, Tryz.results22, go_sem, z0, z1]) rfl ⟨.inl ⟨rfl, _, rfl, ?_⟩, below_set2 (hB3.trans (hb2.mono (by omega))) (by omega) _ _⟩
    have hR : ResT w.heap.size w2 (.agg #[.slice a' ls ca', .slice b' l cb']) (t) LR (n + 2) := ResT.mono ⟨a', b', ca', cb', by rw [HL2.out, HL3.out], HR.out, HO.out⟩ (by omega)
    exact hR.far P2 (by decide) (by decide) (by decide) (kept2 _ _)
  · have hne : (c != 0) = true := by simp [h0]
    have H0 := Lib.hid h0
    obtain ⟨u0, u1, g0, g1⟩ := P1.two
    clear h0 mkS
    go_wp2_with fail
    have P3 := P1.set2 (.slice none 0 0) (.slice none 0 0)
    obtain ⟨z0, z1, _, _⟩ := P3.two
    refine bodyPost_ret (v := .tuple #[noTensor, .int .i64 c]) (by simp [results, Tryz.results22, go_sem, z0, z1, noTensor]) rfl ⟨.inr ⟨H0.out, rfl⟩, below_set2 hB2 (by omega) _ _⟩
end
section
open Go.RowKit
set_option linter.unusedVariables false
set_option linter.unusedSimpArgs false
set_option maxRecDepth 100000 in
set_option maxHeartbeats 8000000 in
theorem transpose_any {n : Nat} {w : World} {v : Value} {s t : List Int} {qs : List Q3} {a b ad : Option Addr} {ca cb cd : Nat} (T : TensQ w v s qs a ca b cb) (D : ArgS w (.slice ad t.length cd) t ad cd) (nd : ad = none → cd = 0) (hs : s.length ≤ 1048576) (ht : t.length ≤ 8000000) (hq : qs.length ≤ 1048576) (hl : lensQ qs n) (hn : n ≤ 3000000) :
    Calls Tryz.prog 13 #[v, .slice ad t.length cd] w fun e w' => One w.heap.size w' e (orL [mayT s qs, permC t s.length]) (trS s t) (fillV (trS s t) (fun xs => elV s (qs.map Q3.rat) (trI t xs))) (n + 2) ∧ Below w.heap.size w w' := by
  have HT := Lib.hid T
  have HD := Lib.hid D
  have HND := Lib.hid nd
  have HL := Lib.hid hl
  obtain rfl := T.is
  obtain ⟨W, hW⟩ : ∃ W, (((w.alloc (.cells #[.slice a s.length ca, .slice b qs.length cb] 26)).alloc (.cells #[.slice ad t.length cd] 22)).alloc (.cells #[.slice none 0 0, .slice none 0 0] 26)) = W := ⟨_, rfl⟩
  have R0 : Row W (w.heap.size) 26 #[.slice a s.length ca, .slice b qs.length cb] := by rw [← hW]; have h := Row.new w 26 #[.slice a s.length ca, .slice b qs.length cb]; (try simp only [World.size_alloc] at h); exact ((h.alloc _).alloc _)
  have R1 : Row W (w.heap.size + 1) 22 #[.slice ad t.length cd] := by rw [← hW]; have h := Row.new (w.alloc (.cells #[.slice a s.length ca, .slice b qs.length cb] 26)) 22 #[.slice ad t.length cd]; (try simp only [World.size_alloc] at h); exact (h.alloc _)
  have R2 : Row W (w.heap.size + 1 + 1) 26 #[.slice none 0 0, .slice none 0 0] := by rw [← hW]; have h := Row.new ((w.alloc (.cells #[.slice a s.length ca, .slice b qs.length cb] 26)).alloc (.cells #[.slice ad t.length cd] 22)) 26 #[.slice none 0 0, .slice none 0 0]; (try simp only [World.size_alloc] at h); exact h
  have hBW : Below w.heap.size w W := by rw [← hW]; exact ((((Below.refl _ _).alloc (by (try simp) <;> omega) _).alloc (by (try simp) <;> omega) _).alloc (by (try simp) <;> omega) _)
  have hsW : W.heap.size = w.heap.size + 1 + 1 + 1 := by rw [← hW]; simp
  have hm := fun (X : World) (hX : Below W.heap.size W X) => mayT7_any (HT.out.later (hBW.trans (hX.mono (by omega)))) (by omega) (by omega) HL.out (by omega)
  obtain ⟨m, hmm⟩ : ∃ m, mayT s qs = m := ⟨_, rfl⟩
  have hp := fun (X : World) (hX : Below W.heap.size W X) => perm9_any (s.length : Int) (HD.out.later (hBW.trans (hX.mono (by omega)))) HND.out (by omega) (by omega) (by omega)
  obtain ⟨p, hpe⟩ : ∃ c, permC t s.length = c := ⟨_, rfl⟩
  have Hp := Lib.hid hpe
  rw [hpe] at hp
  rw [hmm] at hm
  have mkS : ∀ X, Below W.heap.size W X → X.cell? ⟨w.heap.size, 0, none⟩ = some (.slice a s.length ca) ∧ X.cell? ⟨w.heap.size, 1, none⟩ = some (.slice b qs.length cb) ∧ X.cell? ⟨w.heap.size + 1, 0, none⟩ = some (.slice ad t.length cd) := fun X h => by
    obtain ⟨x0, x1, _⟩ := (R0.later h).two
    exact ⟨x0, x1, (R1.later h).cell 0⟩
  have B0 : Below W.heap.size W W.drew := (Below.refl _ W).drew
  obtain ⟨LR, hLR⟩ : ∃ L, (fillV (trS s t) (fun xs => elV s (qs.map Q3.rat) (trI t xs))) = L := ⟨_, rfl⟩
  have HMM := Lib.hid hmm
  have HLR := Lib.hid hLR
  rw [hmm, hpe, hLR]
  obtain ⟨c, hc⟩ : ∃ c, orL [m, p] = c := ⟨_, rfl⟩
  have HC := Lib.hid hc
  rw [hc]
  clear T D nd hmm hpe hLR hc hl
  go_enter Tryz.func13, Tryz.ntmps13
  go_wp2_with fail
  (try rw [hW])
  clear hW
  refine wp_region_held (S := fun X => X.cell? ⟨w.heap.size, 0, none⟩ = some (.slice a s.length ca) ∧ X.cell? ⟨w.heap.size, 1, none⟩ = some (.slice b qs.length cb) ∧ X.cell? ⟨w.heap.size + 1, 0, none⟩ = some (.slice ad t.length cd)) (by kernel_rfl) ?_
  have hHeld := mkS _ B0
  refine wpAnyH_take (i := 0) (v := ?vq0a0) rfl (by kernel_rfl) (by kernel_rfl) (by kernel_rfl) (fun _ _ _ h => h) (Or.inl ⟨by rfl, ?hq0a0⟩) (by assumption) ?rq0a0
  case hq0a0 =>
    intro w hSw
    try dsimp only at hSw
    go_simp
    try with_reducible rfl
  try simp only [Act.put, List.setIfInBounds_toArray, List.set_cons_zero, List.set_cons_succ]
  refine wpAnyH_take (i := 2) (v := ?vq0a2) rfl (by kernel_rfl) (by kernel_rfl) (by kernel_rfl) (fun _ _ _ h => h) (Or.inl ⟨by rfl, ?hq0a2⟩) (by assumption) ?rq0a2
  case hq0a2 =>
    intro w hSw
    try dsimp only at hSw
    go_simp
    try with_reducible rfl
  try simp only [Act.put, List.setIfInBounds_toArray, List.set_cons_zero, List.set_cons_succ]
  refine wpAnyH_take (i := 3) (v := ?vq0a3) rfl (by kernel_rfl) (by kernel_rfl) (by kernel_rfl) (fun _ _ _ h => h) (Or.inl ⟨by rfl, ?hq0a3⟩) (by assumption) ?rq0a3
  case hq0a3 =>
    intro w hSw
    try dsimp only at hSw
    go_simp
    try with_reducible rfl
  try simp only [Act.put, List.setIfInBounds_toArray, List.set_cons_zero, List.set_cons_succ]
  refine wpAnyH_take (i := 4) (v := ?vq0a4) rfl (by kernel_rfl) (by kernel_rfl) (by kernel_rfl) (fun _ _ _ h => h) (Or.inl ⟨by rfl, ?hq0a4⟩) (by assumption) ?rq0a4
  case hq0a4 =>
    intro w hSw
    try dsimp only at hSw
    go_simp
    try with_reducible rfl
  try simp only [Act.put, List.setIfInBounds_toArray, List.set_cons_zero, List.set_cons_succ]
  refine wpAnyH_take (i := 5) (v := ?vq0a5) rfl (by kernel_rfl) (by kernel_rfl) (by kernel_rfl) (fun _ _ _ h => h) (Or.inl ⟨by rfl, ?hq0a5⟩) (by assumption) ?rq0a5
  case hq0a5 =>
    intro w hSw
    try dsimp only at hSw
    go_simp
    try with_reducible rfl
  try simp only [Act.put, List.setIfInBounds_toArray, List.set_cons_zero, List.set_cons_succ]
  refine wpAnyH_ready (rs := [1]) (by kernel_rfl) (by simp) ?_
  refine AllReadyH.cons rfl (fun K hK => ?sq1c1) AllReadyH.nil
  go_simp
  refine (hm _ B0).mono ?_
  rintro e y1 ⟨rfl, hy⟩
  have B1 : Below W.heap.size W y1 := B0.trans (hy.mono B0.size)
  have D1 := hy
  clear hy
  go_simp
  refine hK.out _ _ ?kq1c1 (fun hHeld => ?mq1c1)
  case kq1c1 =>
    try dsimp only
    exact mkS _ B1
  clear hK K
  try simp only [Act.put, List.setIfInBounds_toArray, List.set_cons_zero, List.set_cons_succ]
  refine wpAnyH_ready (rs := [6]) (by kernel_rfl) (by simp) ?_
  refine AllReadyH.cons rfl (fun K hK => ?scp) AllReadyH.nil
  go_simp
  refine (hp _ B1).mono ?_
  rintro e y2 ⟨rfl, hy⟩
  have B2 : Below W.heap.size W y2 := B1.trans (hy.mono B1.size)
  clear hy
  go_simp
  refine hK.out _ _ ?kcp (fun hHeld => ?mcp)
  case kcp =>
    try dsimp only
    exact mkS _ B2
  clear hK K
  try simp only [Act.put, List.setIfInBounds_toArray, List.set_cons_zero, List.set_cons_succ]
  have z2 := B2.size
  have A2 : Below W.heap.size W (y2.alloc (.cells #[.int .i64 m, .int .i64 p] 27)) := B2.alloc (by omega) _
  refine wpAnyH_ready (rs := [7]) (by kernel_rfl) (by simp) ?_
  refine AllReadyH.cons rfl (fun K hK => ?sal2) AllReadyH.nil
  go_simp
  refine hK.out _ _ ?kal2 (fun hHeld => ?mal2)
  case kal2 =>
    try dsimp only
    exact mkS _ A2
  clear hK K
  try simp only [Act.put, List.setIfInBounds_toArray, List.set_cons_zero, List.set_cons_succ]
  refine wpAnyH_ready (rs := [8]) (by kernel_rfl) (by simp) ?_
  refine AllReadyH.cons rfl (fun K hK => ?sor2) AllReadyH.nil
  go_simp
  refine (or_any (xs := [m, p]) (b := y2.heap.size) (fun k hk => by
    have R := Row.new y2 27 #[.int .i64 m, .int .i64 p]
    simp only [List.length_cons, List.length_nil] at hk
    by_cases h0 : k = 0
    · subst h0; exact R.cell 0
    by_cases h1 : k = 1
    · subst h1; exact R.cell 1
    · omega) (by simp)).mono ?_
  rintro e y3 ⟨rfl, rfl⟩
  have B3 := A2
  go_simp
  refine hK.out _ _ ?kor2 (fun hHeld => ?mor2)
  case kor2 =>
    try dsimp only
    exact mkS _ A2
  clear hK K
  try simp only [Act.put, List.setIfInBounds_toArray, List.set_cons_zero, List.set_cons_succ]
  rw [HC.out]
  refine wpAnyH_ready (rs := [9]) (by kernel_rfl) (by simp) ?_
  refine AllReadyH.cons rfl (fun K hK => ?sas) AllReadyH.nil
  go_simp
  refine hK.out _ _ ?kas (fun hHeld => ?mas)
  case kas =>
    try dsimp only
    exact mkS _ A2
  clear hK K
  try simp only [Act.put, List.setIfInBounds_toArray, List.set_cons_zero, List.set_cons_succ]
  refine wpAnyH_done (by kernel_rfl) ?_ _
  (try dsimp only [Straight])
  obtain ⟨y, hy2⟩ : ∃ z, y2.alloc (.cells #[.int .i64 m, .int .i64 p] 27) = z := ⟨_, rfl⟩
  rw [hy2] at A2 ⊢
  have AY := A2
  have X0 := R0.later AY
  have P1 := R2.later AY
  have X1 := R1.later AY
  obtain ⟨x0, x1, _⟩ := X0.two
  have x2 := X1.cell 0
  have s2 := AY.size
  have hB2 : Below w.heap.size w y := hBW.trans (AY.mono (by omega))
  have hmf : ∀ (fn : Fn) (first cap : Array Value) (w : World), (Instr.makeFunc fn first cap).run Tryz.prog w = .ok (.func fn first cap) w := fun _ _ _ _ => rfl
  clear hy2
  by_cases h0 : c = 0
  · subst h0
    obtain ⟨hm0, hc0⟩ := or0 HC.out
    have hp0 := or1 hc0
    rw [← Hp.out] at hp0
    rw [← HMM.out] at hm0
    have okS := mayC_zero.1 (mayT_rank hm0)
    have TY := HT.out.later hB2
    have DY := HD.out.later hB2
    clear mkS
    have hrk := okS.rank
    obtain ⟨hpm, htl⟩ : IsPerm t ∧ t.length = s.length := by
      unfold permC at hp0
      split at hp0
      · rename_i h
        have h2 := permB_is h
        exact ⟨h2.1, by omega⟩
      · cases hp0
    obtain ⟨okP, hpr⟩ := trS_ok hpm htl okS
    have hpl : (trS s t).length = t.length := trS_len s t
    clear hp0
    obtain ⟨M, hM⟩ : ∃ M, t.length = M := ⟨_, rfl⟩
    have HM := Lib.hid hM
    have hM4 : M ≤ 4 := by omega
    have hmk := make_runSh M (by omega)
    obtain ⟨V, hV⟩ : ∃ V, y.alloc (.cells (madeCells #[.int .i64 0] M) 3) = V := ⟨_, rfl⟩
    have rP : PartS V y.heap.size M (List.replicate M 0) := by rw [← hV]; exact ⟨_, BlkS.made y M, by simp, by simp, by simp⟩
    have bV : Below y.heap.size y V := by rw [← hV]; exact (Below.refl _ _).alloc (Nat.le_refl _) _
    have sV : V.heap.size = y.heap.size + 1 := by rw [← hV]; simp
    have X0' := X0.later bV
    have X1' := X1.later bV
    obtain ⟨v0, v1, _, _⟩ := X0'.two
    have v2 := X1'.cell 0
    rw [hM] at x2 v2
    simp only [List.getElem?_toArray, List.getElem?_cons_zero] at x2 v2
    have HX0 := Lib.hid X0
    have HX1 := Lib.hid X1
    have HTY := Lib.hid TY
    have HDY := Lib.hid DY
    have HP1 := Lib.hid P1
    have HPP := Lib.hid hpm
    have HrP := Lib.hid rP
    have HbV := Lib.hid bV
    clear X0 X1 X0' X1' TY DY P1 hpm rP hM
    go_wp2_with fail
    (try rw [hV])
    clear hV hmk
    go_loopw [8, 9, 28] (fun _ _ i wr => ∃ (k : Nat) (zs : List Int), i = .int .i64 (k : Int) ∧ k ≤ M ∧ PartS wr y.heap.size M zs ∧ zs.length = M ∧ (∀ j, j < k → zs.getD j 0 = (trS s t).getD j 0) ∧ Below y.heap.size y wr) (fun _ _ i _ => M - (intOf i).toNat)
    case atStart => exact ⟨0, _, rfl, Nat.zero_le _, HrP.out, by simp, (fun j hj => by omega), HbV.out⟩
    case round =>
      obtain ⟨k, zs, rfl, hk, hP, hzl, hz, hb⟩ := hrel
      have hP0 := Lib.hid hP
      have HZ := Lib.hid hz
      have hX0 := HX0.out.later hb
      obtain ⟨q0, q1, _, _⟩ := hX0.two
      by_cases hlt : k < M
      · obtain ⟨b1, o1, rfl, c1⟩ := (HDY.out.later hb).at (i := k) (by rw [HM.out]; exact hlt)
        have hlow := HPP.out.low (i := k) (by rw [HM.out]; exact hlt)
        obtain ⟨j, hj⟩ : ∃ j : Nat, t.getD k 0 = (j : Int) := ⟨(t.getD k 0).toNat, by omega⟩
        have hjl : j < s.length := by rw [hj, HM.out] at hlow; have := HM.out; omega
        obtain ⟨b2, o2, rfl, c2⟩ := (HTY.out.later hb).sh.at (i := j) hjl
        have htr : (trS s t).getD k 0 = s.getD j 0 := by rw [trS_at s t (by rw [HM.out]; exact hlt), hj]; rfl
        have HTR := Lib.hid htr
        rw [hj] at c1
        have hf := hP.free k
        have hcj := hP.cell k (by rw [hzl]; exact hlt)
        have hltI : (k : Int) < (M : Int) := by omega
        have hjI : (j : Int) < (s.length : Int) := by omega
        clear hP hz hX0 hlow hj htr
        go_wp2
        go_roundw
        case rel =>
          refine ⟨k + 1, zs.set k (s.getD j 0), by go_num, by omega, ?_, by rw [List.length_set]; exact hzl, fun i hi => ?_, hb.setCell (by show y.heap.size ≤ y.heap.size; exact Nat.le_refl _) _⟩
          · have := hP0.out.set k (by rw [hzl]; exact hlt) (s.getD j 0)
            simpa [List.getD_eq_getElem?_getD, hjl] using this
          · by_cases e : i = k
            · subst e
              rw [getD_set_self _ _ _ (by rw [hzl]; exact hlt), HTR.out]
            · rw [getD_set_ne _ _ (by omega)]
              exact HZ.out i (by omega)
        case measure => simp [intOf]; omega
      · obtain rfl : k = M := by omega
        have hltI : ¬ (k : Int) < (k : Int) := by omega
        have hzt : zs = trS s t := list_eq_getD (by rw [hzl, trS_len, HM.out]) fun i hi => HZ.out i (by omega)
        have A3 := (show ResS y.heap.size wr (.slice (some ⟨y.heap.size, 0, none⟩) zs.length k) zs from ⟨hP0.out.num (Nat.le_refl _) (by unfold maxLen; omega), by rw [hzt]; exact okS_wid okP⟩).at_
        rw [hzt] at A3
        have hl3 : (trS s t).length = k := by rw [trS_len, HM.out]
        have hB3 : Below w.heap.size w wr := hB2.trans (hb.mono (by omega))
        have s3' := hb.size
        have hbu := built_any (N := n + 2) (F := 43) (cap := #[.pointer (some ⟨w.heap.size + 1, 0, none⟩), .pointer (some ⟨w.heap.size, 0, none⟩)]) (f := fun xs => elV s (qs.map Q3.rat) (trI t xs)) A3.2.1 A3.2.2 okP (enters_of Tryz.func43 (by kernel_rfl) rfl)
          (fun B X x xs hin hB hBX hX hx => by
            obtain ⟨ax, cx, AX, nx⟩ := hx.arg2
            have hlx := inS_length hin
            exact (transpose1_any ((HTY.out.later hb).later hX) hm0 HL.out (by omega) ((HDY.out.later hb).later hX) (((HX1.out.later hb).later hX).cell 0) HPP.out htl ((HX0.out.later hb).later hX) AX (by omega)).mono fun e w' ⟨r, g1, g2, g3⟩ => ⟨r, g1, g2.mono hBX, g3.mono hBX⟩)
        rw [HLR.out, hl3] at hbu
        have P1' := HP1.out.later hb
        have HBU := Lib.hid hbu
        clear hbu A3 hP hz
        go_wp2_with fail
        refine HBU.out.mono ?_
        rintro e w2 ⟨r, rfl, hT, hb2⟩
        obtain ⟨a', b', ca', cb', rfl, RS, RO⟩ := hT
        have P2 := P1'.later hb2
        have s3 := hb2.size
        obtain ⟨u0, u1, g0, g1⟩ := P2.two
        have HR := Lib.hid RS
        have HO := Lib.hid RO
        clear RS RO
        obtain ⟨l, hl⟩ : ∃ l, LR.length = l := ⟨_, rfl⟩
        obtain ⟨ls, hls⟩ : ∃ ls, (trS s t).length = ls := ⟨_, rfl⟩
        have HL2 := Lib.hid hl
        have HL3 := Lib.hid hls
        rw [hl, hls]
        clear hl hls
        go_wp2_with fail
        have P3 := P2.set2 (.slice a' ls ca') (.slice b' l cb')
        obtain ⟨z0, z1, _, _⟩ := P3.two
        refine bodyPost_ret (v := .tuple #[.agg #[.slice a' ls ca', .slice b' l cb'], .int .i64 0]) (by simp [results, Tryz.results13, go_sem, z0, z1]) rfl ⟨.inl ⟨rfl, _, rfl, ?_⟩, below_set2 (hB3.trans (hb2.mono (by omega))) (by omega) _ _⟩
        have hR : ResT w.heap.size w2 (.agg #[.slice a' ls ca', .slice b' l cb']) (trS s t) LR (n + 2) := ResT.mono ⟨a', b', ca', cb', by rw [HL2.out, HL3.out], HR.out, HO.out⟩ (by omega)
        exact hR.far P2 (by decide) (by decide) (by decide) (kept2 _ _)
  · have hne : (c != 0) = true := by simp [h0]
    have H0 := Lib.hid h0
    obtain ⟨u0, u1, g0, g1⟩ := P1.two
    clear h0 mkS
    go_wp2_with fail
    have P3 := P1.set2 (.slice none 0 0) (.slice none 0 0)
    obtain ⟨z0, z1, _, _⟩ := P3.two
    refine bodyPost_ret (v := .tuple #[noTensor, .int .i64 c]) (by simp [results, Tryz.results13, go_sem, z0, z1, noTensor]) rfl ⟨.inr ⟨H0.out, rfl⟩, below_set2 hB2 (by omega) _ _⟩
end
section
open Go.RowKit
set_option linter.unusedVariables false
set_option linter.unusedSimpArgs false
theorem sameRaw9_any {n : Nat} {w : World} {u v : Value} {p q : Q3} (hu : RawQ w u p) (hv : RawQ w v q) (hp : p.num.length ≤ n ∧ p.den.length ≤ n) (hq : q.num.length ≤ n ∧ q.den.length ≤ n) (hn : n ≤ 4000000) :
    Calls Tryz.prog 38 #[u, v] w fun e w' => e = .returned (.bool (decide (p.rat = q.rat))) ∧ Below w.heap.size w w' := by
  have a1 := hu.arg hp.1 hp.2
  have a2 := hv.arg hq.1 hq.2
  obtain ⟨ad, bd, ca, cb, rfl, _⟩ := hu
  obtain ⟨ad', bd', ca', cb', rfl, _⟩ := hv
  exact sameR_any a1 a2 (by omega)
set_option maxRecDepth 100000 in
set_option maxHeartbeats 8000000 in
theorem sameT9_any {n : Nat} {w : World} {u v : Value} {s1 s2 : List Int} {L1 : List Q3} {L2 : List Q3} {a1 b1 a2 b2 : Option Addr} {ca1 cb1 ca2 cb2 : Nat} (T1 : TensQ w u s1 L1 a1 ca1 b1 cb1) (T2 : TensQ w v s2 L2 a2 ca2 b2 cb2) (hs : s1.length ≤ 140737488355328) (hq1 : L1.length ≤ 1000000000) (hq2 : L2.length ≤ 1000000000) (hn : n ≤ 4000000) (hl1 : ∀ q ∈ L1, q.num.length ≤ n ∧ q.den.length ≤ n) (hl2 : ∀ q ∈ L2, q.num.length ≤ n ∧ q.den.length ≤ n) :
    Calls Tryz.prog 34 #[u, v] w fun e w' => e = .returned (.bool (allBC (fun (p q : Q3) => decide (p.rat = q.rat)) s1 s2 L1 L2)) ∧ Below w.heap.size w w' := by
  have HT1 := Lib.hid T1
  have HT2 := Lib.hid T2
  obtain rfl := T1.is
  obtain rfl := T2.is
  obtain ⟨W, hW⟩ : ∃ W, ((w.alloc (.cells #[.slice a1 s1.length ca1, .slice b1 L1.length cb1] 26)).alloc (.cells #[.slice a2 s2.length ca2, .slice b2 L2.length cb2] 26)) = W := ⟨_, rfl⟩
  have R0 : Row W w.heap.size 26 #[.slice a1 s1.length ca1, .slice b1 L1.length cb1] := by rw [← hW]; exact (Row.new _ _ _).alloc _
  have R1 : Row W (w.heap.size + 1) 26 #[.slice a2 s2.length ca2, .slice b2 L2.length cb2] := by rw [← hW]; have h := (Row.new (w.alloc (.cells #[.slice a1 s1.length ca1, .slice b1 L1.length cb1] 26)) 26 #[.slice a2 s2.length ca2, .slice b2 L2.length cb2]); simp only [World.size_alloc] at h; exact h
  have hBW : Below w.heap.size w W := by rw [← hW]; exact ((Below.refl _ _).alloc (by simp) _).alloc (by simp) _
  obtain ⟨c, hc⟩ : ∃ c, allBC (fun (p q : Q3) => decide (p.rat = q.rat)) s1 s2 L1 L2 = c := ⟨_, rfl⟩
  have HC := Lib.hid hc
  rw [hc]
  have q1 := sameSh_any (HT1.out.sh.later hBW) (HT2.out.sh.later hBW) hs
  obtain ⟨p0, p1, _, _⟩ := R0.two
  obtain ⟨o0, o1, _, _⟩ := R1.two
  clear T1 T2 hc
  by_cases hsh : s1 = s2
  · rw [decide_eq_true hsh] at q1
    have HSH := Lib.hid hsh
    clear hsh
    by_cases hlen : L1.length = L2.length
    · have hne : ((L1.length : Int) != (L2.length : Int)) = false := by simp; omega
      have HLN := Lib.hid hlen
      clear hlen
      go_enter Tryz.func34, Tryz.ntmps34
      go_wp2_with (go_at_call 35; refine q1.mono ?_; rintro e w1 ⟨rfl, hb1⟩; have R0' := R0.later hb1; have R1' := R1.later hb1; obtain ⟨c00, c01, _, _⟩ := R0'.two; obtain ⟨c10, c11, _, _⟩ := R1'.two)
      have hBW1 : Below w.heap.size w w1 := hBW.trans (hb1.mono hBW.size)
      clear hne q1 hW c00 c01 c10 c11
      go_loopw [5] (fun i wr => ∃ k : Nat, i = .int .i64 (k : Int) ∧ k ≤ L1.length ∧ (∀ i x y, i < k → L1[i]? = some x → L2[i]? = some y → decide (x.rat = y.rat) = true) ∧ Below w1.heap.size w1 wr) (fun i _ => L1.length - (intOf i).toNat)
      case atStart => exact ⟨0, rfl, Nat.zero_le _, fun i x y h => by omega, Below.refl _ _⟩
      case round =>
        obtain ⟨k, rfl, hk, hall, hb⟩ := hrel
        have r0 := R0'.later hb
        have r1 := R1'.later hb
        obtain ⟨c00, c01, _, _⟩ := r0.two
        obtain ⟨c10, c11, _, _⟩ := r1.two
        have HALL := Lib.hid hall
        clear hall
        by_cases hlt : k < L1.length
        · have hlt2 : k < L2.length := by have := HLN.out; omega
          have hbw := hBW1.trans (hb.mono hBW1.size)
          obtain ⟨bb, o, x0, x1, x2, q, hbo, hqk, e0, e1, e2, hraw⟩ := (HT1.out.el.later hbw (fun v x _ k => k.later hbw)).at hlt
          obtain ⟨bd, od, y0, y1, y2, t, hbd, htk, d0, d1, d2, hrat⟩ := (HT2.out.el.later hbw (fun v x _ k => k.later hbw)).at hlt2
          have hm1 := List.mem_of_getElem? hqk
          have hm2 := List.mem_of_getElem? htk
          subst hbo
          subst hbd
          have hcall := fun X (hX : Below wr.heap.size wr X) => sameRaw9_any (hraw.later hX) (hrat.later hX) (hl1 q hm1) (hl2 t hm2) hn
          have hltI : (k : Int) < (L1.length : Int) := by omega
          have hltI2 : (k : Int) < (L2.length : Int) := by omega
          have HQK := Lib.hid hqk
          have HTK := Lib.hid htk
          have mkS : ∀ X, Below wr.heap.size wr X → X.cell? ⟨w.heap.size, 1, none⟩ = some (.slice (some ⟨bb, o, none⟩) L1.length cb1) ∧ X.cell? ⟨w.heap.size + 1, 1, none⟩ = some (.slice (some ⟨bd, od, none⟩) L2.length cb2) ∧ X.cell? ⟨bb, o + k * 3, none⟩ = some x0 ∧ X.cell? ⟨bb, o + k * 3 + 1, none⟩ = some x1 ∧ X.cell? ⟨bb, o + k * 3 + 2, none⟩ = some x2 ∧
            X.cell? ⟨bd, od + k * 3, none⟩ = some y0 ∧ X.cell? ⟨bd, od + k * 3 + 1, none⟩ = some y1 ∧ X.cell? ⟨bd, od + k * 3 + 2, none⟩ = some y2 ∧ Below wr.heap.size wr X := fun X h =>
            ⟨(r0.later h).cell 1, (r1.later h).cell 1, (h.cell (World.block_lt_of_cell? wr _ e0)).trans e0, (h.cell (World.block_lt_of_cell? wr _ e1)).trans e1, (h.cell (World.block_lt_of_cell? wr _ e2)).trans e2, (h.cell (World.block_lt_of_cell? wr _ d0)).trans d0, (h.cell (World.block_lt_of_cell? wr _ d1)).trans d1, (h.cell (World.block_lt_of_cell? wr _ d2)).trans d2, h⟩
          clear hqk htk hraw hrat
          obtain ⟨bo, hbo⟩ : ∃ bo, decide (q.rat = t.rat) = bo := ⟨_, rfl⟩
          rw [hbo] at hcall
          have HBO := Lib.hid hbo
          clear hbo
          cases bo with
          | true =>
            go_wp2_with fail
            go_region_held3 (fun X => X.cell? ⟨w.heap.size, 1, none⟩ = some (.slice (some ⟨bb, o, none⟩) L1.length cb1) ∧ X.cell? ⟨w.heap.size + 1, 1, none⟩ = some (.slice (some ⟨bd, od, none⟩) L2.length cb2) ∧ X.cell? ⟨bb, o + k * 3, none⟩ = some x0 ∧ X.cell? ⟨bb, o + k * 3 + 1, none⟩ = some x1 ∧ X.cell? ⟨bb, o + k * 3 + 2, none⟩ = some x2 ∧
                X.cell? ⟨bd, od + k * 3, none⟩ = some y0 ∧ X.cell? ⟨bd, od + k * 3 + 1, none⟩ = some y1 ∧ X.cell? ⟨bd, od + k * 3 + 2, none⟩ = some y2 ∧ Below wr.heap.size wr X)
              (((refine mkS _ ?_; (repeat' (first | exact Below.refl _ _ | refine Below.drew ?_ | assumption)))))
              ((go_at_call 38; (with_reducible refine (hcall _ (show Below wr.heap.size wr _ by (repeat' (first | exact Below.refl _ _ | refine Below.drew ?_)))).mono ?_); rintro e w2 ⟨rfl, hb2⟩; have hb2 : Below wr.heap.size wr w2 := ((Below.refl _ _).drew).trans hb2))
            go_wp2
            go_roundw
            case rel =>
              refine ⟨k + 1, by go_num, by omega, fun i x y hi h1 h2 => ?_, hb.trans (hb2.mono hb.size)⟩
              by_cases hik : i = k
              · subst hik
                rw [HQK.out] at h1
                rw [HTK.out] at h2
                cases h1
                cases h2
                exact HBO.out
              · exact HALL.out i x y (by omega) h1 h2
            case measure => simp [intOf]; omega
          | false =>
            obtain rfl : c = false := by rw [← HC.out]; exact allBC_no fun ⟨_, _, h⟩ => by have := h k q t HQK.out HTK.out; rw [show decide (q.rat = t.rat) = false from HBO.out] at this; cases this
            go_wp2_with fail
            go_region_held3 (fun X => X.cell? ⟨w.heap.size, 1, none⟩ = some (.slice (some ⟨bb, o, none⟩) L1.length cb1) ∧ X.cell? ⟨w.heap.size + 1, 1, none⟩ = some (.slice (some ⟨bd, od, none⟩) L2.length cb2) ∧ X.cell? ⟨bb, o + k * 3, none⟩ = some x0 ∧ X.cell? ⟨bb, o + k * 3 + 1, none⟩ = some x1 ∧ X.cell? ⟨bb, o + k * 3 + 2, none⟩ = some x2 ∧
                X.cell? ⟨bd, od + k * 3, none⟩ = some y0 ∧ X.cell? ⟨bd, od + k * 3 + 1, none⟩ = some y1 ∧ X.cell? ⟨bd, od + k * 3 + 2, none⟩ = some y2 ∧ Below wr.heap.size wr X)
              (((refine mkS _ ?_; (repeat' (first | exact Below.refl _ _ | refine Below.drew ?_ | assumption)))))
              ((go_at_call 38; (with_reducible refine (hcall _ (show Below wr.heap.size wr _ by (repeat' (first | exact Below.refl _ _ | refine Below.drew ?_)))).mono ?_); rintro e w2 ⟨rfl, hb2⟩; have hb2 : Below wr.heap.size wr w2 := ((Below.refl _ _).drew).trans hb2))
            go_wp2
            go_ret
            exact ⟨rfl, hBW1.trans ((hb.trans (hb2.mono hb.size)).mono hBW1.size)⟩
        · obtain rfl : k = L1.length := by omega
          have hltI : ¬ (L1.length : Int) < (L1.length : Int) := by omega
          obtain rfl : c = true := by rw [← HC.out]; exact allBC_yes HSH.out HLN.out fun i x y h1 h2 => HALL.out i x y (by
            rcases Nat.lt_or_ge i L1.length with g | g
            · exact g
            · rw [List.getElem?_eq_none g] at h1; cases h1) h1 h2
          go_wp2
          go_ret
          exact ⟨rfl, hBW1.trans (hb.mono hBW1.size)⟩
    · have hne : ((L1.length : Int) != (L2.length : Int)) = true := by simp; omega
      obtain rfl : c = false := by rw [← HC.out]; exact allBC_no fun h => hlen h.2.1
      clear hlen
      go_enter Tryz.func34, Tryz.ntmps34
      go_wp2_with (go_at_call 35; refine q1.mono ?_; rintro e w1 ⟨rfl, hb1⟩; have R0' := R0.later hb1; have R1' := R1.later hb1; obtain ⟨c00, c01, _, _⟩ := R0'.two; obtain ⟨c10, c11, _, _⟩ := R1'.two)
      go_ret
      exact ⟨rfl, hBW.trans (hb1.mono hBW.size)⟩
  · rw [decide_eq_false hsh] at q1
    obtain rfl : c = false := by rw [← HC.out]; exact allBC_no fun h => hsh h.1
    clear hsh
    go_enter Tryz.func34, Tryz.ntmps34
    go_wp2_with (go_at_call 35; refine q1.mono ?_; rintro e w1 ⟨rfl, hb1⟩; have R0' := R0.later hb1; have R1' := R1.later hb1; obtain ⟨c00, c01, _, _⟩ := R0'.two; obtain ⟨c10, c11, _, _⟩ := R1'.two)
    go_ret
    exact ⟨rfl, hBW.trans (hb1.mono hBW.size)⟩
/-- what was answered and what came in: the same tensor -/
theorem sameX9 {b1 n m : Nat} {w : World} {u v : Value} {s : List Int} {L : List Rat} {qs : List Q3} {a b : Option Addr} {ca cb : Nat} (h1 : ResT b1 w u s L n) (T : TensQ w v s qs a ca b cb) (hL : qs.map Q3.rat = L) (hq : lensQ qs m) (hs : s.length ≤ 1000000) (hl : L.length ≤ 1000000) (hn : n ≤ 4000000) (hm : m ≤ 4000000) :
    Calls Tryz.prog 34 #[u, v] w fun e w' => e = .returned (.bool true) ∧ Below w.heap.size w w' := by
  obtain ⟨q1, a1, c1, ca1, cc1, T1, e1, l1, k1⟩ := h1.tens
  have g1 : q1.length = L.length := by rw [← e1]; simp
  have g2 : qs.length = L.length := by rw [← hL]; simp
  have h := sameT9_any (n := max n m) T1 T (by omega) (by omega) (by omega) (by omega) (fun q hq => ⟨Nat.le_trans (l1 q hq).1 (by omega), Nat.le_trans (l1 q hq).2 (by omega)⟩) (fun q hq' => ⟨Nat.le_trans (hq q hq').1 (by omega), Nat.le_trans (hq q hq').2 (by omega)⟩)
  rw [allBC_yes rfl (by omega) (fun i x y hx hy => by
    have f1 : (q1.map Q3.rat)[i]? = some x.rat := by rw [List.getElem?_map, hx]; rfl
    have f2 : (qs.map Q3.rat)[i]? = some y.rat := by rw [List.getElem?_map, hy]; rfl
    rw [e1] at f1
    rw [hL, f1] at f2
    exact decide_eq_true (Option.some.inj f2))] at h
  exact h
end
end Go.Proofs.YtooglnhlhgmhdaaGreat
