/-
  Part 24 of 28: contracts and what they rest on (MCode3, MFuncP, MSlice).
-/
import Derived.Test.YtooglnhlhgmhdaaGreatZ1
import Derived.Test.YtooglnhlhgmhdaaGreatZ2
import Derived.Test.YtooglnhlhgmhdaaGreatZ3
import Derived.Test.YtooglnhlhgmhdaaGreatZ5
import Derived.Test.YtooglnhlhgmhdaaGreatZ7
import Derived.Test.YtooglnhlhgmhdaaGreatZ9
import Derived.Test.YtooglnhlhgmhdaaGreatZ11
import Derived.Test.YtooglnhlhgmhdaaGreatZ12
import Derived.Test.YtooglnhlhgmhdaaGreatZ13
import Derived.Test.YtooglnhlhgmhdaaGreatZ14
import Derived.Test.YtooglnhlhgmhdaaGreatZ15
import Derived.Test.YtooglnhlhgmhdaaGreatZ16
import Derived.Test.YtooglnhlhgmhdaaGreatZ18
import Derived.Test.YtooglnhlhgmhdaaGreatZ19
import Derived.Test.YtooglnhlhgmhdaaGreatZ21
import Derived.Test.YtooglnhlhgmhdaaGreatZ22
import Derived.WalkKit
import Derived.Test.YtooglnhlhgmhdaaGreatRows
import Derived.BigQuiet
import Derived.Deep.QuietTactic
import Derived.Lib.Hide
import Derived.Lib.Small
import Derived.Lib.Walk
import Derived.Lib.BitFns
import Derived.Maps.AppendAt
import Derived.RangeFuncNested
import Derived.RangeFuncBound
import Derived.RangeFuncCalls
import Derived.RangeFuncLeaves
import Derived.Shelf.Abstract
import Derived.OwnWalkIn
import Derived.TacticsInMore
import Derived.LoopNIn
import Derived.LoopIn
import Derived.RangeFuncBox
import Derived.Deep.RegionHeld3
import Derived.OrdersIn
import Derived.StillTailTactics
import Derived.RangeFuncFrom
import Derived.Laws.EntriesVeiled
import Derived.ProofKit
import Derived.OpenShut
import Derived.JoinedCond
import Derived.Carry
import Derived.Laws.AppendOwnNone
import Derived.Lib.ItoaNum
import Derived.Deep.RegionLaw
import Derived.WalkMore
import Derived.Lib.SmallJoins
import Derived.IntWalk
import Derived.Deep.DeepCutAuto
import Derived.Laws.OwnMore
import Derived.OrdersHeld
import Derived.Deep.RegionHeld
import Derived.ArgAppend
import Derived.Deep.Slices
import Derived.Laws.CopyOwn
import Derived.Lib.SliceRun
namespace Go.Proofs.YtooglnhlhgmhdaaGreat
set_option maxRecDepth 100000
section
open Go.RowKit Go.Shelf
attribute [local go_sem] Oper.semAt_some
set_option linter.unusedVariables false
set_option linter.unusedSimpArgs false
/-- the shape that padded makes, whatever shape it is given -/
def padF (pads : List Int) (i : Nat) (z : Int) : Int := IntKind.i64.wrap (z + IntKind.i64.wrap (min (fstP pads i) 1024 + min (sndP pads i) 1024))
def pdW (s pads : List Int) : List Int := (List.range s.length).map fun i : Nat => padF pads i (s.getD i 0)
set_option maxRecDepth 100000 in
set_option maxHeartbeats 4000000 in
theorem padded_any {w : World} {s pads : List Int} {a ap : Option Addr} {ca cp : Nat} (A : ArgS w (.slice a s.length ca) s a ca) (na : a = none → ca = 0) (P : ArgS w (.slice ap pads.length cp) pads ap cp) (hcl : pads.length = 2 * s.length) (hs : s.length ≤ 8000000000000) :
    Calls Tryz.prog 64 #[.slice a s.length ca, .slice ap pads.length cp] w fun e w' => ∃ r, e = .returned r ∧ ResS w.heap.size w' r (pdW s pads) ∧ Below w.heap.size w w' := by
  obtain ⟨B, hB⟩ : ∃ B, w.heap.size = B := ⟨_, rfl⟩
  obtain ⟨m, hm⟩ : ∃ m, s.length = m := ⟨_, rfl⟩
  have hcln := cloneS_any A na (by omega)
  have HCL : Hid (pads.length = 2 * m) := Lib.hid (by rw [← hm]; exact hcl)
  have HCB : Hid (pads ≠ [] → ∀ x, ap = some x → x.block < w.heap.size) := Lib.hid (fun h1 x h2 => P.lim.lt h1 x h2)
  have hlim : LimS w ap pads := P.lim
  have HM := Lib.hid hm
  have hpd : pdW s pads = (List.range m).map fun i : Nat => padF pads i (s.getD i 0) := by unfold pdW; rw [hm]
  have HPD := Lib.hid hpd
  have hc8 : pads.length ≤ 17592186044416 := by omega
  rw [hm] at hcln hs ⊢
  rw [hB] at hcln ⊢
  rw [hpd]
  clear A P hcl na hm hpd
  obtain ⟨n', hn'⟩ : ∃ n' : Nat, Hid (3 ≤ n') := ⟨3, Nat.le_refl 3⟩
  refine (callsIn_wide (n := n')).1 ?_
  refine callsIn_of_wp_marks Tryz.func64 rfl trivial ?_ rfl
  simp only [Tryz.ntmps64, List.size_toArray, List.length_cons, List.length_nil, Nat.reduceAdd, Nat.reduceSub, Array.replicate_succ, Array.replicate_zero, List.push_toArray, List.append_toArray, List.nil_append, List.cons_append]
  gi_wp2_with fail
  refine wideCallS (hcln.mono ?_)
  rintro e w1 ⟨r, rfl, R, hb1⟩
  have s1 := hb1.size
  obtain ⟨ad, cap, rfl, I1, hcap, nd, hwid⟩ := R.idx
  obtain ⟨G, hG⟩ : ∃ G, w1.heap.size = G := ⟨_, rfl⟩
  rw [HM.out] at hcap
  obtain ⟨W, hW⟩ : ∃ W, w1.alloc (.cells #[.slice ad m cap] 23) = W := ⟨_, rfl⟩
  have R0 : Row W G 23 #[.slice ad m cap] := by rw [← hW, ← hG]; exact Row.new _ _ _
  have b2 : Below w1.heap.size w1 W := by rw [← hW]; exact (Below.refl _ _).alloc (Nat.le_refl _) _
  have hsW : W.heap.size = G + 1 := by rw [← hW, ← hG]; simp
  have HI := Lib.hid I1
  have hbW : Below B w W := hb1.trans (b2.mono (by omega))
  rw [HM.out]
  gi_wp2_with fail
  (try rw [hW])
  (try rw [hG])
  refine wideCallS ((pairs_any _ _ _ _).mono ?_)
  rintro e w' ⟨rfl, rfl⟩
  gi_wp2_with fail
  obtain ⟨V, hV⟩ : ∃ V, W.alloc (.cells #[.slice ap pads.length cp] 22) = V := ⟨_, rfl⟩
  have sV : V.heap.size = G + 1 + 1 := by rw [← hV, World.size_alloc, hsW]
  have b4 : Below W.heap.size W V := by rw [← hV]; exact (Below.refl _ _).alloc (Nat.le_refl _) _
  have d4 : Boxed V (G + 1) 22 (.slice ap pads.length cp) := by rw [← hV, ← hsW]; exact Boxed.new _ _ _
  have q0 := R0.later b4
  have q2 := (I1.later b2).later b4
  have hbV : Below B w V := hbW.trans (b4.mono (by omega))
  have hlimV : LimS V ap pads := hlim.later (hB ▸ hbV)
  (try rw [hsW])
  (try rw [hV])
  have h3 : 3 ≤ n' := hn'
  clear hV hW R0 I1 hlim R b2 hcln
  refine wpIn_rangeFunc_ownH (F := Fence.wide) (n := n') rfl (by omega) (gf := 95) (lb := #[.pointer (some ⟨G + 1, 0, none⟩)]) rfl trivial (enters_of Tryz.func95 (by kernel_rfl) rfl)
    (pairs_stops (n' - 1) (G + 1) (w.heap.size) m ap pads cp (by omega) HCL.out HCB.out V (by omega) d4.cell hlimV) KpS.trans (KpS.b (by omega) (by omega)) (Below.refl _ _) (fun _ => rfl)
    (fun (pre : List (Fin m)) X => IdxP B X ad cap (stpOf (padF pads) s (pre.map Fin.val)) ∧ Row X G 23 #[.slice ad m cap] ∧ Below B w X ∧ G + 1 + 1 ≤ X.heap.size)
    (fun c pre X => False)
    (fun pre X Y row ⟨e1, e2, e4, e5⟩ hg hr => have kk := KeepC.grown hg (fun r e => (hr r e).2); ⟨e1.keepC kk, e2.keepC kk, e4.grown hg (by have := e4.size; omega) (fun k e => by have := (hr k e).1; omega), Nat.le_trans e5 hg.size⟩)
    (fun _ _ _ _ _ hs _ _ => hs)
    ⟨q2, q0, hbV, by omega⟩
    (fun (x : Fin m) a' X => ∃ p, G + 1 + 1 ≤ p ∧ Row X p 89 #[.int .i64 (pads[2 * x.val]?.getD 0), .int .i64 (pads[2 * x.val + 1]?.getD 0)] ∧
      a' = { tmps := #[.slice a m ca, .slice ap pads.length cp, undef, undef, .slice none 0 0, .pointer (some ⟨G, 0, none⟩), .int .i64 (x.val : Int), .pointer (some ⟨p, 0, none⟩), .slice a m ca, .slice ad m cap, .slice ap pads.length cp, .func (.func 95) #[] #[.pointer (some ⟨G + 1, 0, none⟩)], .int .i64 (x.val : Int), .agg #[.int .i64 (pads[2 * x.val]?.getD 0), .int .i64 (pads[2 * x.val + 1]?.getD 0)], undef, undef, undef, undef, undef, undef, undef, undef, undef, undef, undef, undef, undef, undef], defers := [] })
    (fun x a' _ X Y row ⟨p, h1, h2, h3⟩ hg hr => ⟨p, h1, h2.keepC (KeepC.grown hg (fun r e => (hr r e).2)), h3⟩)
    ?assign ?body ?done ?stop
  case assign =>
    rintro l pre ⟨k, hk⟩ X K ⟨e1, e2, e4, hsI⟩ hK
    obtain ⟨z0, hz0⟩ : ∃ z0, pads[2 * k]?.getD 0 = z0 := ⟨_, rfl⟩
    obtain ⟨z1, hz1⟩ : ∃ z1, pads[2 * k + 1]?.getD 0 = z1 := ⟨_, rfl⟩
    have hbX : Below X.heap.size X (X.alloc (.cells #[.int .i64 z0, .int .i64 z1] 89)) := (Below.refl _ _).alloc (Nat.le_refl _) _
    have kk := KeepC.below hbX
    have HK := Lib.hid hK
    have HZ0 := Lib.hid hz0
    have HZ1 := Lib.hid hz1
    simp only [pairV]
    rw [hz0, hz1]
    clear hK hz0 hz1
    gi_wp2
    refine HK.out _ _ ⟨by simp, fun q o _ ho _ => (Below.heap_alloc _ _ _ (lt_of_block ho)).trans ho⟩ ⟨hbX.mono (by omega), Below.heap_alloc _ _ _ (by omega)⟩ ⟨e1.keepC kk, e2.keepC kk, e4.trans (hbX.mono (by have := e4.size; omega)), by simp; omega⟩ ⟨X.heap.size, hsI, ?_, ?_⟩
    · simp only [HZ0.out, HZ1.out]; exact Row.new _ _ _
    · simp only [HZ0.out, HZ1.out]
  case body =>
    rintro l pre ⟨k, hk⟩ a' X hl hrec ⟨e1, e2, e4, hsI⟩ ⟨p, hp, hR, rfl⟩ hlt
    simp only at hR ⊢
    have hln := stpOf_len (padF pads) s (pre.map Fin.val)
    obtain ⟨zs, hzs⟩ : ∃ zs, stpOf (padF pads) s (pre.map Fin.val) = zs := ⟨_, rfl⟩
    rw [hzs] at e1 hln
    have hnx : stpOf (padF pads) s (pre.map Fin.val ++ [k]) = zs.set k (IntKind.i64.wrap (zs.getD k 0 + IntKind.i64.wrap (min (fstP pads k) 1024 + min (sndP pads k) 1024))) := by rw [stpOf_snoc, hzs]; rfl
    obtain ⟨z0, hz0⟩ : ∃ z0, pads[2 * k]?.getD 0 = z0 := ⟨_, rfl⟩
    obtain ⟨z1, hz1⟩ : ∃ z1, pads[2 * k + 1]?.getD 0 = z1 := ⟨_, rfl⟩
    have hf0 : fstP pads k = z0 := hz0
    have hf1 : sndP pads k = z1 := hz1
    rw [hf0, hf1] at hnx
    rw [hz0, hz1] at hR
    rw [hz0, hz1]
    obtain ⟨g, rfl, hgB, hmx, hP⟩ := e1.at (i := k) (by rw [hln, HM.out]; exact hk)
    have hgl := hP.lt
    have hc := hP.cell k (by rw [hln, HM.out]; exact hk)
    obtain ⟨z, hz⟩ : ∃ z, zs.getD k 0 = z := ⟨_, rfl⟩
    rw [hz] at hc hnx
    obtain ⟨y, hy⟩ : ∃ y, IntKind.i64.wrap (z + IntKind.i64.wrap (min z0 1024 + min z1 1024)) = y := ⟨_, rfl⟩
    rw [hy] at hnx
    have HNX := Lib.hid hnx
    have HZS := Lib.hid hzs
    have ci := e2.cell 0
    have cp0 := hR.cell 0
    have cp1 := hR.cell 1
    have hkI : (k : Int) < (m : Int) := by omega
    have hgG : g < G := by have := HI.out.lt; omega
    have hS0 : X.drew.cell? ⟨G, 0, none⟩ = some (.slice (some ⟨g, 0, none⟩) m cap) ∧ X.drew.cell? ⟨g, k, none⟩ = some (.int .i64 z) ∧ X.drew.cell? ⟨p, 0, none⟩ = some (.int .i64 z0) ∧ X.drew.cell? ⟨p, 1, none⟩ = some (.int .i64 z1) := ⟨ci, hc, cp0, cp1⟩
    have b0 : Below X.heap.size X X.drew := (Below.refl _ X).drew
    have hf := hP.free k
    have HP := Lib.hid hP
    clear hnx hzs hz0 hz1 hf0 hf1 ci cp0 cp1 hc e1 hP hz
    refine wpIn_block ?_
    refine region_roundL (fun Y => Y.cell? ⟨G, 0, none⟩ = some (.slice (some ⟨g, 0, none⟩) m cap) ∧ Y.cell? ⟨g, k, none⟩ = some (.int .i64 z) ∧ Y.cell? ⟨p, 0, none⟩ = some (.int .i64 z0) ∧ Y.cell? ⟨p, 1, none⟩ = some (.int .i64 z1)) 13
      (by kernel_rfl) (by kernel_rfl) (by rintro ⟨a', w', h⟩; exact h) hS0 (fun hHeld => ?_)
    refine todo [0, 1, 2, 3, 4, 5, 6, 7, 8, 9, 10, 11, 12] ?_
    iterate 13
     refine todoL (v := ?_) rfl (by kernel_rfl) (fun _ _ _ h => h) (by assumption) (Or.inl ⟨by rfl, ?_⟩) ?_
     rotate_left
     · intro w hSw; (try dsimp only at hSw); go_simp; (try with_reducible rfl)
     try simp only [Act.put, List.getElem_toArray, List.getElem_cons_succ, List.getElem_cons_zero, List.setIfInBounds_toArray, List.set_cons_zero, List.set_cons_succ]
    refine todone ?_
    have hfd : X.drew.frozen? ⟨g, k, none⟩ = false := hf
    refine wpAnyL_one (i := 13) (by kernel_rfl) rfl (fun K hK => ?sb13)
    go_simp
    (try rw [hy])
    refine hK.out _ _ (fun h => absurd rfl h) (fun _ => ?mb13)
    clear hK K
    try simp only [Act.put, List.setIfInBounds_toArray, List.set_cons_zero, List.set_cons_succ]
    refine wpAnyL_done (by kernel_rfl) ?_ _
    refine ⟨keepsFrom_set (keepsFrom_below b0) _ _, ⟨setBelow (b0.mono (by omega)) (by omega) _ _, Below.heap_setCell _ _ _ _ (by show G + 1 ≠ g; omega)⟩, ?_, e2.far (by show G ≠ g; omega) _, setBelow (e4.trans (b0.mono (by omega))) hgB _ _, Nat.le_trans hsI (setBelow (B := 0) (b0.mono (Nat.zero_le _)) (Nat.zero_le g) k (.int .i64 y)).size⟩
    rw [List.map_append, List.map_cons, List.map_nil, HNX.out]
    exact .inr ⟨g, rfl, hgB, hmx, PartS.set (show PartS X.drew g cap zs from HP.out) k (by rw [hln, HM.out]; exact hk) y⟩
  case done =>
    rintro D ks X hD hup ⟨e1, e2, e4, hsI⟩ hK
    rw [show ks.map Fin.val = List.range m from hup, stpOf_all _ HM.out] at e1
    have hw : Wid ((List.range m).map fun i : Nat => padF pads i (s.getD i 0)) := Wid.map_range fun i _ => wrap_range _
    have AZ := e1.res hw
    rw [List.length_map, List.length_range] at AZ
    have ci := e2.cell 0
    gi_wp2
    refine ⟨by simp, .inl ⟨_, _, rfl, run_takeDeferred hK, ?_⟩⟩
    have kk := KeepC.grown (grownBy_putObj' X D (.deferred none)) (fun r e => by cases e; exact ⟨_, hK, rfl⟩)
    refine ⟨_, results_tmp rfl _ _ _, _, rfl, ?_, e4.trans (belowK_b (n₀ := B) (w := w) (by omega) X D _ _ (by omega) hK rfl rfl)⟩
    exact (show ResS B _ (.slice ad m cap) _ from AZ.keepC kk)
  case stop =>
    rintro D c pre X _ _ h _
    exact h.elim
/-- what mayPads answers, whatever shape it is given -/
def pdCW (s pads : List Int) : Int :=
  if pads.length ≠ 2 * s.length then 11 else if ∃ i, i < s.length ∧ badPad pads i then 11 else mayC (pdW s pads)
theorem pdCW_bad {s pads : List Int} {i : Nat} (hi : i < s.length) (h : badPad pads i) : pdCW s pads = 11 := by
  unfold pdCW
  split
  · rfl
  · rw [if_pos ⟨i, hi, h⟩]
theorem pdCW_good {s pads : List Int} (hl : pads.length = 2 * s.length) (hg : ∀ i, i < s.length → ¬ badPad pads i) : pdCW s pads = mayC (pdW s pads) := by
  unfold pdCW
  rw [if_neg (by omega), if_neg (fun ⟨j, hj, hb⟩ => hg j hj hb)]
set_option maxRecDepth 100000 in
set_option maxHeartbeats 4000000 in
theorem mayPads_any {w : World} {s pads : List Int} {a ap : Option Addr} {ca cp : Nat} (A : ArgS w (.slice a s.length ca) s a ca) (na : a = none → ca = 0) (P : ArgS w (.slice ap pads.length cp) pads ap cp) (hs : s.length ≤ 8000000000000) (hps : pads.length ≤ 8000000000000) :
    Calls Tryz.prog 63 #[.slice a s.length ca, .slice ap pads.length cp] w fun e w' => e = .returned (.int .i64 (pdCW s pads)) ∧ Below w.heap.size w w' := by
  obtain ⟨G, hG⟩ : ∃ G, w.heap.size = G := ⟨_, rfl⟩
  obtain ⟨m, hm⟩ : ∃ m, s.length = m := ⟨_, rfl⟩
  obtain ⟨W, hW⟩ : ∃ W, w.alloc (.cells #[.int .i64 0] 27) = W := ⟨_, rfl⟩
  have R0 : Row W G 27 #[.int .i64 0] := by rw [← hW, ← hG]; exact Row.new _ _ _
  have hBW : Below w.heap.size w W := by rw [← hW]; exact (Below.refl _ _).alloc (Nat.le_refl _) _
  have hsW : W.heap.size = G + 1 := by rw [← hW, ← hG]; simp
  have HA := Lib.hid A
  have HNA := Lib.hid na
  have HP := Lib.hid P
  have HM := Lib.hid hm
  obtain ⟨c, hc⟩ : ∃ c, pdCW s pads = c := ⟨_, rfl⟩
  have HC := Lib.hid hc
  have f0 := R0.free 0
  have d0 := R0.cell 0
  rw [hc, hG]
  by_cases hcl : pads.length = 2 * m
  · have HCL := Lib.hid hcl
    have HCB : Hid (pads ≠ [] → ∀ x, ap = some x → x.block < G) := Lib.hid (fun h1 x h2 => hG ▸ P.lim.lt h1 x h2)
    have hlim : LimS W ap pads := P.lim.later hBW
    have hlenI : ((pads.length : Int) != 2 * (m : Int)) = false := by simp; omega
    have hwm : IntKind.i64.wrap (2 * (m : Int)) = 2 * (m : Int) := wrap_i64 (by omega) (by omega)
    rw [hm] at hs ⊢
    clear A na P hm hc hcl
    obtain ⟨n', hn'⟩ : ∃ n' : Nat, Hid (3 ≤ n') := ⟨3, Nat.le_refl 3⟩
    refine (callsIn_wide (n := n')).1 ?_
    refine callsIn_of_wp_marks Tryz.func63 rfl trivial ?_ rfl
    simp only [Tryz.ntmps63, List.size_toArray, List.length_cons, List.length_nil, Nat.reduceAdd, Nat.reduceSub, Array.replicate_succ, Array.replicate_zero, List.push_toArray, List.append_toArray, List.nil_append, List.cons_append]
    gi_wp2_with fail
    (try rw [hW])
    refine wideCallS ((pairs_any _ _ _ _).mono ?_)
    rintro e w' ⟨rfl, rfl⟩
    gi_wp2_with fail
    obtain ⟨V, hV⟩ : ∃ V, W.alloc (.cells #[.slice ap pads.length cp] 22) = V := ⟨_, rfl⟩
    have sV : V.heap.size = G + 1 + 1 := by rw [← hV, World.size_alloc, hsW]
    have b4 : Below W.heap.size W V := by rw [← hV]; exact (Below.refl _ _).alloc (Nat.le_refl _) _
    have d4 : Boxed V (G + 1) 22 (.slice ap pads.length cp) := by rw [← hV, ← hsW]; exact Boxed.new _ _ _
    have q0 := R0.later b4
    have hbV : Below G w V := by rw [← hG]; exact hBW.trans (b4.mono (by omega))
    have hlimV : LimS V ap pads := hlim.later b4
    (try rw [hsW])
    (try rw [hV])
    have h3 : 3 ≤ n' := hn'
    clear hV hW R0 hlim f0 d0
    refine wpIn_rangeFunc_ownH (F := Fence.wide) (n := n') rfl (by omega) (gf := 95) (lb := #[.pointer (some ⟨G + 1, 0, none⟩)]) rfl trivial (enters_of Tryz.func95 (by kernel_rfl) rfl)
      (pairs_stops (n' - 1) (G + 1) (G) m ap pads cp (by omega) HCL.out HCB.out V (by omega) d4.cell hlimV) KpS.trans (KpS.b (by omega) (by omega)) (Below.refl _ _) (fun _ => rfl)
      (fun (pre : List (Fin m)) X => Row X G 27 #[.int .i64 0] ∧ (∀ x ∈ pre, ¬ badPad pads x.val) ∧ Below G w X ∧ G + 1 + 1 ≤ X.heap.size)
      (fun c pre X => c = .ret ∧ Row X G 27 #[.int .i64 11] ∧ (∃ x ∈ pre, badPad pads x.val) ∧ Below G w X)
      (fun pre X Y row ⟨e1, e2, e4, e5⟩ hg hr => have kk := KeepC.grown hg (fun r e => (hr r e).2); ⟨e1.keepC kk, e2, e4.grown hg (by have := e4.size; omega) (fun k e => by have := (hr k e).1; omega), Nat.le_trans e5 hg.size⟩)
      (fun c pre X Y row ⟨e0, e1, e2, e4⟩ hg hr => have kk := KeepC.grown hg (fun r e => (hr r e).2); ⟨e0, e1.keepC kk, e2, e4.grown hg (by have := e4.size; omega) (fun k e => by have := (hr k e).1; omega)⟩)
      ⟨q0, (fun x h => absurd h List.not_mem_nil), hbV, by omega⟩
      (fun (x : Fin m) a' X => ∃ p, G + 1 + 1 ≤ p ∧ Row X p 89 #[.int .i64 (pads[2 * x.val]?.getD 0), .int .i64 (pads[2 * x.val + 1]?.getD 0)] ∧
        a' = { tmps := #[.slice a m ca, .slice ap pads.length cp, undef, undef, .pointer (some ⟨G, 0, none⟩), undef, .pointer (some ⟨p, 0, none⟩), .slice ap pads.length cp, .int .i64 (pads.length : Int), .slice a m ca, .int .i64 (m : Int), .int .i64 (2 * (m : Int)), .bool false, .slice ap pads.length cp, .func (.func 95) #[] #[.pointer (some ⟨G + 1, 0, none⟩)], .int .i64 (x.val : Int), .agg #[.int .i64 (pads[2 * x.val]?.getD 0), .int .i64 (pads[2 * x.val + 1]?.getD 0)], undef, undef, undef, undef, undef, undef, undef, undef, undef, undef, undef, undef], defers := [] })
      (fun x a' _ X Y row ⟨p, h1, h2, h3⟩ hg hr => ⟨p, h1, h2.keepC (KeepC.grown hg (fun r e => (hr r e).2)), h3⟩)
      ?assign ?body ?done ?stop
    case assign =>
      rintro l pre ⟨k, hk⟩ X K ⟨e1, e2, e4, hsI⟩ hK
      obtain ⟨z0, hz0⟩ : ∃ z0, pads[2 * k]?.getD 0 = z0 := ⟨_, rfl⟩
      obtain ⟨z1, hz1⟩ : ∃ z1, pads[2 * k + 1]?.getD 0 = z1 := ⟨_, rfl⟩
      have hbX : Below X.heap.size X (X.alloc (.cells #[.int .i64 z0, .int .i64 z1] 89)) := (Below.refl _ _).alloc (Nat.le_refl _) _
      have kk := KeepC.below hbX
      have HK := Lib.hid hK
      have HZ0 := Lib.hid hz0
      have HZ1 := Lib.hid hz1
      simp only [pairV]
      rw [hz0, hz1]
      clear hK hz0 hz1
      gi_wp2
      refine HK.out _ _ ⟨by simp, fun q o _ ho _ => (Below.heap_alloc _ _ _ (lt_of_block ho)).trans ho⟩ ⟨hbX.mono (by omega), Below.heap_alloc _ _ _ (by omega)⟩ ⟨e1.keepC kk, e2, e4.trans (hbX.mono (by have := e4.size; omega)), by simp; omega⟩ ⟨X.heap.size, hsI, ?_, ?_⟩
      · simp only [HZ0.out, HZ1.out]; exact Row.new _ _ _
      · simp only [HZ0.out, HZ1.out]
    case body =>
      rintro l pre ⟨k, hk⟩ a' X hl hrec ⟨e1, e2, e4, hsI⟩ ⟨p, hp, hR, rfl⟩ hlt
      simp only at hR ⊢
      obtain ⟨z0, hz0⟩ : ∃ z0, pads[2 * k]?.getD 0 = z0 := ⟨_, rfl⟩
      obtain ⟨z1, hz1⟩ : ∃ z1, pads[2 * k + 1]?.getD 0 = z1 := ⟨_, rfl⟩
      have hf0 : fstP pads k = z0 := hz0
      have hf1 : sndP pads k = z1 := hz1
      have hbd : badPad pads k ↔ (z0 < 0 ∨ z1 < 0) := by unfold badPad; rw [hf0, hf1]
      rw [hz0, hz1] at hR
      rw [hz0, hz1]
      have cp0 := hR.cell 0
      have cp1 := hR.cell 1
      have fe := e1.free 0
      have ce := e1.cell 0
      have HBD := Lib.hid hbd
      have E1 := Lib.hid e1
      have E2 := Lib.hid e2
      clear hbd hz0 hz1 hf0 hf1 hR e1 e2
      by_cases hbad : z0 < 0 ∨ z1 < 0
      · have R9 : Row (X.setCell ⟨G, 0, none⟩ (.int .i64 11)) G 27 #[.int .i64 11] := E1.out.set 0 _
        have fin : KeepsFrom (G + 1 + 1) X (X.setCell ⟨G, 0, none⟩ (.int .i64 11)) ∧ Code.ret = Code.ret ∧ Row (X.setCell ⟨G, 0, none⟩ (.int .i64 11)) G 27 #[.int .i64 11] ∧ (∃ x ∈ pre ++ [(⟨k, hk⟩ : Fin m)], badPad pads x.val) ∧ Below G w (X.setCell ⟨G, 0, none⟩ (.int .i64 11)) :=
          ⟨keepsFrom_set (keepsFrom_below (Below.refl _ _)) _ _, rfl, R9, ⟨_, List.mem_append_right _ (List.mem_singleton.2 rfl), HBD.out.2 hbad⟩, setBelow e4 (by omega) _ _⟩
        have FIN := Lib.hid fin
        by_cases h0 : z0 < 0
        · clear hbad R9 fin
          gi_wp2
          exact ⟨FIN.out.1, rfl, FIN.out.2.2⟩
        · have h1 : z1 < 0 := hbad.resolve_left h0
          clear hbad R9 fin
          gi_wp2
          exact ⟨FIN.out.1, rfl, FIN.out.2.2⟩
      · have h0 : ¬ z0 < 0 := fun h => hbad (.inl h)
        have h1 : ¬ z1 < 0 := fun h => hbad (.inr h)
        have HBAD := Lib.hid hbad
        clear hbad
        gi_wp2
        refine ⟨keepsFrom_below (Below.refl _ _), ⟨Below.refl _ _, rfl⟩, E1.out, fun x hx => ?_, e4, hsI⟩
        rcases List.mem_append.1 hx with hx | hx
        · exact E2.out x hx
        · rw [List.mem_singleton.1 hx]
          exact fun h => HBAD.out (HBD.out.1 h)
    case done =>
      rintro D ks X hD hup ⟨e1, e2, e4, hsI⟩ hK
      have hgood : ∀ i, i < s.length → ¬ badPad pads i := fun i hi => by
        rw [HM.out] at hi
        have h5 : i ∈ ks.map Fin.val := by rw [show ks.map Fin.val = List.range m from hup]; exact List.mem_range.2 hi
        obtain ⟨z, hz, hv⟩ := List.mem_map.1 h5
        rw [← hv]
        exact e2 z hz
      have hcc := pdCW_good (by rw [HM.out]; exact HCL.out) hgood
      rw [HC.out] at hcc
      have hpd := padded_any (HA.out.later (hG.symm ▸ e4)) HNA.out (HP.out.later (hG.symm ▸ e4)) (by rw [HM.out]; exact HCL.out) (by rw [HM.out]; exact hs)
      rw [HM.out] at hpd
      have HE1 := Lib.hid e1
      have hsX := e4.size
      have hDlt := lt_of_block hK
      have HCC := Lib.hid hcc
      clear e1 e2 hcc hgood
      gi_wp2_with fail
      refine wideCallS (hpd.mono ?_)
      rintro e w7 ⟨r, rfl, RS, b7⟩
      obtain ⟨ar, cr, AR⟩ := RS.arg
      have hmay := mayS_eq AR
      obtain rfl := AR.is
      rw [← HCC.out] at hmay
      gi_wp2_with fail
      refine wideCallS (hmay.mono ?_)
      rintro e w8 ⟨rfl, rfl⟩
      have P2 := HE1.out.later b7
      have f9 := P2.free 0
      have c9 := P2.cell 0
      have hK9 : w7.heap[D]? = some (.deferred (some [])) := (b7.block D hDlt).trans hK
      have P2' := Lib.hid P2
      clear P2
      gi_wp2
      have hK' := (KeepsOthers.setCell w7 ⟨G, 0, none⟩ (.int .i64 c)).same D _ hK9 rfl
      refine ⟨by simp, .inl ⟨_, _, rfl, run_takeDeferred hK', ?_⟩⟩
      have hc5 := cell_kept ((P2'.out.set 0 (.int .i64 c)).cell 0) (grownBy_putObj' _ D (.deferred none)) (fun r e => by cases e; exact ⟨_, hK', rfl⟩)
      simp at hc5
      refine ⟨.int .i64 c, by simp [results, Tryz.f63, go_sem, hc5], rfl, ?_⟩
      exact (setBelow (e4.trans (b7.mono (by omega))) (by omega) _ _).trans (belowK_b (n₀ := G) (w := w) (by omega) _ D _ _ (by omega) hK' rfl rfl)
    case stop =>
      rintro D c2 pre X hD ⟨k, hk, hup⟩ ⟨rfl, h1, ⟨x, hx, hbad⟩, h3⟩ hK
      have hcc : c = 11 := by rw [← HC.out]; exact pdCW_bad (by rw [HM.out]; exact x.isLt) hbad
      subst hcc
      gi_wp2
      refine ⟨by simp, .inl ⟨_, _, rfl, run_takeDeferred hK, ?_⟩⟩
      have hc5 := cell_kept (h1.cell 0) (grownBy_putObj' _ D (.deferred none)) (fun r e => by cases e; exact ⟨_, hK, rfl⟩)
      simp at hc5
      refine ⟨.int .i64 11, by simp [results, Tryz.f63, go_sem, hc5], rfl, ?_⟩
      exact h3.trans (belowK_b (n₀ := G) (w := w) (by omega) _ D _ _ (by omega) hK rfl rfl)
  · have hcc : c = 11 := by rw [← HC.out]; unfold pdCW; rw [if_pos (by rw [hm]; exact hcl)]
    have hlenI : ((pads.length : Int) != 2 * (m : Int)) = true := by simp; omega
    have hwm : IntKind.i64.wrap (2 * (m : Int)) = 2 * (m : Int) := wrap_i64 (by omega) (by omega)
    subst hcc
    rw [hm]
    clear A na P hm hc hcl
    have hb9 : Below G w (W.setCell ⟨G, 0, none⟩ (.int .i64 11)) := setBelow (by rw [← hG]; exact hBW) (Nat.le_refl _) _ _
    have R9 : Row (W.setCell ⟨G, 0, none⟩ (.int .i64 11)) G 27 #[.int .i64 11] := R0.set 0 _
    have c9 := R9.cell 0
    simp at c9
    obtain ⟨n', hn'⟩ : ∃ n' : Nat, Hid (3 ≤ n') := ⟨3, Nat.le_refl 3⟩
    refine (callsIn_wide (n := n')).1 ?_
    refine callsIn_of_wp_marks Tryz.func63 rfl trivial ?_ rfl
    simp only [Tryz.ntmps63, List.size_toArray, List.length_cons, List.length_nil, Nat.reduceAdd, Nat.reduceSub, Array.replicate_succ, Array.replicate_zero, List.push_toArray, List.append_toArray, List.nil_append, List.cons_append]
    gi_wp2_with fail
    exact ⟨.int .i64 11, by simp [results, Tryz.f63, go_sem, c9], rfl, hb9⟩
end
section
open Go.RowKit
set_option linter.unusedVariables false
set_option linter.unusedSimpArgs false
set_option maxRecDepth 100000 in
set_option maxHeartbeats 8000000 in
theorem pad_any {n : Nat} {w : World} {v : Value} {s t : List Int} {qs : List Q3} {a b ad : Option Addr} {ca cb cd : Nat} (T : TensQ w v s qs a ca b cb) (D : ArgS w (.slice ad t.length cd) t ad cd) (nd : ad = none → cd = 0) (hs : s.length ≤ 1048576) (ht : t.length ≤ 8000000) (hq : qs.length ≤ 1048576) (hl : lensQ qs n) (hn : n ≤ 3000000) :
    Calls Tryz.prog 26 #[v, .slice ad t.length cd] w fun e w' => One w.heap.size w' e (orL [mayT s qs, pdCW s t]) (pdW s t) (fillV (pdW s t) (fun xs => elV s (qs.map Q3.rat) ((List.range s.length).map fun i : Nat => IntKind.i64.wrap (xs.getD i 0 - fstP t i)))) (n + 2) ∧ Below w.heap.size w w' := by
  have HT := Lib.hid T
  have HD := Lib.hid D
  have HND := Lib.hid nd
  have HL := Lib.hid hl
  obtain rfl := T.is
  obtain ⟨W, hW⟩ : ∃ W, (((w.alloc (.cells #[.slice a s.length ca, .slice b qs.length cb] 26)).alloc (.cells #[.slice ad t.length cd] 22)).alloc (.cells #[.slice none 0 0, .slice none 0 0] 26)) = W := ⟨_, rfl⟩
  have R0 : Row W (w.heap.size) 26 #[.slice a s.length ca, .slice b qs.length cb] := by rw [← hW]; have h := Row.new w 26 #[.slice a s.length ca, .slice b qs.length cb]; (try simp only [World.size_alloc] at h); exact ((h.alloc _).alloc _)
  have R1 : Row W (w.heap.size + 1) 22 #[.slice ad t.length cd] := by rw [← hW]; have h := Row.new (w.alloc (.cells #[.slice a s.length ca, .slice b qs.length cb] 26)) 22 #[.slice ad t.length cd]; (try simp only [World.size_alloc] at h); exact (h.alloc _)
  have R2 : Row W (w.heap.size + 1 + 1) 26 #[.slice none 0 0, .slice none 0 0] := by rw [← hW]; have h := Row.new ((w.alloc (.cells #[.slice a s.length ca, .slice b qs.length cb] 26)).alloc (.cells #[.slice ad t.length cd] 22)) 26 #[.slice none 0 0, .slice none 0 0]; (try simp only [World.size_alloc] at h); exact h
  have hBW : Below w.heap.size w W := by rw [← hW]; exact ((((Below.refl _ _).alloc (by (try simp) <;> omega) _).alloc (by (try simp) <;> omega) _).alloc (by (try simp) <;> omega) _)
  have hsW : W.heap.size = w.heap.size + 1 + 1 + 1 := by rw [← hW]; simp
  have hm := fun (X : World) (hX : Below W.heap.size W X) => mayT7_any (HT.out.later (hBW.trans (hX.mono (by omega)))) (by omega) (by omega) HL.out (by omega)
  obtain ⟨m, hmm⟩ : ∃ m, mayT s qs = m := ⟨_, rfl⟩
  have hp := fun (X : World) (hX : Below W.heap.size W X) => mayPads_any (HT.out.later (hBW.trans (hX.mono (by omega)))).sh HT.out.nila (HD.out.later (hBW.trans (hX.mono (by omega)))) (by omega) (by omega)
  obtain ⟨p, hpe⟩ : ∃ c, pdCW s t = c := ⟨_, rfl⟩
  have Hp := Lib.hid hpe
  rw [hpe] at hp
  rw [hmm] at hm
  have mkS : ∀ X, Below W.heap.size W X → X.cell? ⟨w.heap.size, 0, none⟩ = some (.slice a s.length ca) ∧ X.cell? ⟨w.heap.size, 1, none⟩ = some (.slice b qs.length cb) ∧ X.cell? ⟨w.heap.size + 1, 0, none⟩ = some (.slice ad t.length cd) := fun X h => by
    obtain ⟨x0, x1, _⟩ := (R0.later h).two
    exact ⟨x0, x1, (R1.later h).cell 0⟩
  have B0 : Below W.heap.size W W.drew := (Below.refl _ W).drew
  obtain ⟨LR, hLR⟩ : ∃ L, (fillV (pdW s t) (fun xs => elV s (qs.map Q3.rat) ((List.range s.length).map fun i : Nat => IntKind.i64.wrap (xs.getD i 0 - fstP t i)))) = L := ⟨_, rfl⟩
  have HMM := Lib.hid hmm
  have HLR := Lib.hid hLR
  rw [hmm, hpe, hLR]
  obtain ⟨c, hc⟩ : ∃ c, orL [m, p] = c := ⟨_, rfl⟩
  have HC := Lib.hid hc
  rw [hc]
  clear T D nd hmm hpe hLR hc hl
  go_enter Tryz.func26, Tryz.ntmps26
  go_wp2_with fail
  (try rw [hW])
  clear hW
  refine wp_region_held (S := fun X => X.cell? ⟨w.heap.size, 0, none⟩ = some (.slice a s.length ca) ∧ X.cell? ⟨w.heap.size, 1, none⟩ = some (.slice b qs.length cb) ∧ X.cell? ⟨w.heap.size + 1, 0, none⟩ = some (.slice ad t.length cd)) (by kernel_rfl) ?_
  have hHeld := mkS _ B0
  refine wpAnyH_take (i := 0) (v := ?vq0a0) rfl (by kernel_rfl) (by kernel_rfl) (by kernel_rfl) (fun _ _ _ h => h) (Or.inl ⟨by rfl, ?hq0a0⟩) (by assumption) ?rq0a0
  case hq0a0 =>
    intro w hSw
    try dsimp only at hSw
    go_simp
    try with_reducible rfl
  try simp only [Act.put, List.setIfInBounds_toArray, List.set_cons_zero, List.set_cons_succ]
  refine wpAnyH_take (i := 2) (v := ?vq0a2) rfl (by kernel_rfl) (by kernel_rfl) (by kernel_rfl) (fun _ _ _ h => h) (Or.inl ⟨by rfl, ?hq0a2⟩) (by assumption) ?rq0a2
  case hq0a2 =>
    intro w hSw
    try dsimp only at hSw
    go_simp
    try with_reducible rfl
  try simp only [Act.put, List.setIfInBounds_toArray, List.set_cons_zero, List.set_cons_succ]
  refine wpAnyH_take (i := 3) (v := ?vq0a3) rfl (by kernel_rfl) (by kernel_rfl) (by kernel_rfl) (fun _ _ _ h => h) (Or.inl ⟨by rfl, ?hq0a3⟩) (by assumption) ?rq0a3
  case hq0a3 =>
    intro w hSw
    try dsimp only at hSw
    go_simp
    try with_reducible rfl
  try simp only [Act.put, List.setIfInBounds_toArray, List.set_cons_zero, List.set_cons_succ]
  refine wpAnyH_take (i := 4) (v := ?vq0a4) rfl (by kernel_rfl) (by kernel_rfl) (by kernel_rfl) (fun _ _ _ h => h) (Or.inl ⟨by rfl, ?hq0a4⟩) (by assumption) ?rq0a4
  case hq0a4 =>
    intro w hSw
    try dsimp only at hSw
    go_simp
    try with_reducible rfl
  try simp only [Act.put, List.setIfInBounds_toArray, List.set_cons_zero, List.set_cons_succ]
  refine wpAnyH_ready (rs := [1]) (by kernel_rfl) (by simp) ?_
  refine AllReadyH.cons rfl (fun K hK => ?sq1c1) AllReadyH.nil
  go_simp
  refine (hm _ B0).mono ?_
  rintro e y1 ⟨rfl, hy⟩
  have B1 : Below W.heap.size W y1 := B0.trans (hy.mono B0.size)
  have D1 := hy
  clear hy
  go_simp
  refine hK.out _ _ ?kq1c1 (fun hHeld => ?mq1c1)
  case kq1c1 =>
    try dsimp only
    exact mkS _ B1
  clear hK K
  try simp only [Act.put, List.setIfInBounds_toArray, List.set_cons_zero, List.set_cons_succ]
  refine wpAnyH_ready (rs := [5]) (by kernel_rfl) (by simp) ?_
  refine AllReadyH.cons rfl (fun K hK => ?scp) AllReadyH.nil
  go_simp
  refine (hp _ B1).mono ?_
  rintro e y2 ⟨rfl, hy⟩
  have B2 : Below W.heap.size W y2 := B1.trans (hy.mono B1.size)
  clear hy
  go_simp
  refine hK.out _ _ ?kcp (fun hHeld => ?mcp)
  case kcp =>
    try dsimp only
    exact mkS _ B2
  clear hK K
  try simp only [Act.put, List.setIfInBounds_toArray, List.set_cons_zero, List.set_cons_succ]
  have z2 := B2.size
  have A2 : Below W.heap.size W (y2.alloc (.cells #[.int .i64 m, .int .i64 p] 27)) := B2.alloc (by omega) _
  refine wpAnyH_ready (rs := [6]) (by kernel_rfl) (by simp) ?_
  refine AllReadyH.cons rfl (fun K hK => ?sal2) AllReadyH.nil
  go_simp
  refine hK.out _ _ ?kal2 (fun hHeld => ?mal2)
  case kal2 =>
    try dsimp only
    exact mkS _ A2
  clear hK K
  try simp only [Act.put, List.setIfInBounds_toArray, List.set_cons_zero, List.set_cons_succ]
  refine wpAnyH_ready (rs := [7]) (by kernel_rfl) (by simp) ?_
  refine AllReadyH.cons rfl (fun K hK => ?sor2) AllReadyH.nil
  go_simp
  refine (or_any (xs := [m, p]) (b := y2.heap.size) (fun k hk => by
    have R := Row.new y2 27 #[.int .i64 m, .int .i64 p]
    simp only [List.length_cons, List.length_nil] at hk
    by_cases h0 : k = 0
    · subst h0; exact R.cell 0
    by_cases h1 : k = 1
    · subst h1; exact R.cell 1
    · omega) (by simp)).mono ?_
  rintro e y3 ⟨rfl, rfl⟩
  have B3 := A2
  go_simp
  refine hK.out _ _ ?kor2 (fun hHeld => ?mor2)
  case kor2 =>
    try dsimp only
    exact mkS _ A2
  clear hK K
  try simp only [Act.put, List.setIfInBounds_toArray, List.set_cons_zero, List.set_cons_succ]
  rw [HC.out]
  refine wpAnyH_ready (rs := [8]) (by kernel_rfl) (by simp) ?_
  refine AllReadyH.cons rfl (fun K hK => ?sas) AllReadyH.nil
  go_simp
  refine hK.out _ _ ?kas (fun hHeld => ?mas)
  case kas =>
    try dsimp only
    exact mkS _ A2
  clear hK K
  try simp only [Act.put, List.setIfInBounds_toArray, List.set_cons_zero, List.set_cons_succ]
  refine wpAnyH_done (by kernel_rfl) ?_ _
  (try dsimp only [Straight])
  obtain ⟨y, hy2⟩ : ∃ z, y2.alloc (.cells #[.int .i64 m, .int .i64 p] 27) = z := ⟨_, rfl⟩
  rw [hy2] at A2 ⊢
  have AY := A2
  have X0 := R0.later AY
  have P1 := R2.later AY
  have X1 := R1.later AY
  obtain ⟨x0, x1, _⟩ := X0.two
  have x2 := X1.cell 0
  have s2 := AY.size
  have hB2 : Below w.heap.size w y := hBW.trans (AY.mono (by omega))
  have hmf : ∀ (fn : Fn) (first cap : Array Value) (w : World), (Instr.makeFunc fn first cap).run Tryz.prog w = .ok (.func fn first cap) w := fun _ _ _ _ => rfl
  clear hy2
  by_cases h0 : c = 0
  · subst h0
    obtain ⟨hm0, hc0⟩ := or0 HC.out
    have hp0 := or1 hc0
    rw [← Hp.out] at hp0
    rw [← HMM.out] at hm0
    have okS := mayC_zero.1 (mayT_rank hm0)
    have TY := HT.out.later hB2
    have DY := HD.out.later hB2
    clear mkS
    have hrk := okS.rank
    obtain ⟨htl, okP⟩ : t.length = 2 * s.length ∧ OkS (pdW s t) := by
      unfold pdCW at hp0
      split at hp0
      · cases hp0
      · split at hp0
        · cases hp0
        · rename_i h1 _
          exact ⟨by omega, mayC_zero.1 hp0⟩
    have hpl : (pdW s t).length = s.length := by simp [pdW]
    have hpa := padded_any TY.sh TY.nila DY htl (by omega)
    have HTL := Lib.hid htl
    have HPL := Lib.hid hpl
    clear hp0 htl hpl
    go_wp2_with fail
    refine hpa.mono ?_
    rintro e W3 ⟨r3, rfl, RS3, b3⟩
    obtain ⟨a3, c3, A3, n3⟩ := RS3.arg2
    obtain rfl := A3.is
    have hB3 : Below w.heap.size w W3 := hB2.trans (b3.mono (by omega))
    have s3' := b3.size
    have hbu := built_any (N := n + 2) (F := 65) (cap := #[.pointer (some ⟨w.heap.size + 1, 0, none⟩), .pointer (some ⟨w.heap.size, 0, none⟩)]) (f := fun xs => elV s (qs.map Q3.rat) ((List.range s.length).map fun i : Nat => IntKind.i64.wrap (xs.getD i 0 - fstP t i))) A3 n3 okP (enters_of Tryz.func65 (by kernel_rfl) rfl)
      (fun B X x xs hin hB hBX hX hx => by
        obtain ⟨ax, cx, rfl, IX, hcx, nx, hwx⟩ := hx.idx
        have hlx := inS_length hin
        exact pad1_any (TY.later b3) hm0 HL.out (by omega) hB hBX hX IX hcx nx (X0.later b3) (DY.later b3) ((X1.later b3).cell 0) HTL.out (by have := HPL.out; omega) (by omega))
    rw [HLR.out] at hbu
    have P1' := P1.later b3
    have HBU := Lib.hid hbu
    clear hbu hpa
    go_wp2_with fail
    refine HBU.out.mono ?_
    rintro e w2 ⟨r, rfl, hT, hb2⟩
    obtain ⟨a', b', ca', cb', rfl, RS, RO⟩ := hT
    have P2 := P1'.later hb2
    have s3 := hb2.size
    obtain ⟨u0, u1, g0, g1⟩ := P2.two
    have HR := Lib.hid RS
    have HO := Lib.hid RO
    clear RS RO
    obtain ⟨l, hl⟩ : ∃ l, LR.length = l := ⟨_, rfl⟩
    obtain ⟨ls, hls⟩ : ∃ ls, (pdW s t).length = ls := ⟨_, rfl⟩
    have HL2 := Lib.hid hl
    have HL3 := Lib.hid hls
    rw [hl, hls]
    clear hl hls
    go_wp2_with fail
    have P3 := P2.set2 (.slice a' ls ca') (.slice b' l cb')
    obtain ⟨z0, z1, _, _⟩ := P3.two
    refine bodyPost_ret (v := .tuple #[.agg #[.slice a' ls ca', .slice b' l cb'], .int .i64 0]) (by simp [results, Tryz.results26, go_sem, z0, z1]) rfl ⟨.inl ⟨rfl, _, rfl, ?_⟩, below_set2 (hB3.trans (hb2.mono (by omega))) (by omega) _ _⟩
    have hR : ResT w.heap.size w2 (.agg #[.slice a' ls ca', .slice b' l cb']) (pdW s t) LR (n + 2) := ResT.mono ⟨a', b', ca', cb', by rw [HL2.out, HL3.out], HR.out, HO.out⟩ (by omega)
    exact hR.far P2 (by decide) (by decide) (by decide) (kept2 _ _)
  · have hne : (c != 0) = true := by simp [h0]
    have H0 := Lib.hid h0
    obtain ⟨u0, u1, g0, g1⟩ := P1.two
    clear h0 mkS
    go_wp2_with fail
    have P3 := P1.set2 (.slice none 0 0) (.slice none 0 0)
    obtain ⟨z0, z1, _, _⟩ := P3.two
    refine bodyPost_ret (v := .tuple #[noTensor, .int .i64 c]) (by simp [results, Tryz.results26, go_sem, z0, z1, noTensor]) rfl ⟨.inr ⟨H0.out, rfl⟩, below_set2 hB2 (by omega) _ _⟩
end
section
open Go.RowKit Go.Shelf
attribute [local go_sem] Oper.semAt_some
set_option linter.unusedVariables false
set_option linter.unusedSimpArgs false
theorem ResT.keepC {base m : Nat} {w w' : World} {v : Value} {s : List Int} {L : List Rat} (h : ResT base w v s L m) (k : KeepC w w') : ResT base w' v s L m := by
  obtain ⟨a, b, ca, cb, e, RS, es, hown, hall⟩ := h
  exact ⟨a, b, ca, cb, e, RS.keepC k, es, hown.keepC k, hall.imp fun v x _ h => h.keepC k⟩
set_option maxRecDepth 100000 in
set_option maxHeartbeats 4000000 in
theorem slice_any {n : Nat} {w : World} {v : Value} {s t : List Int} {qs : List Q3} {a b ad : Option Addr} {ca cb cd : Nat} (T : TensQ w v s qs a ca b cb) (D : ArgS w (.slice ad t.length cd) t ad cd) (nd : ad = none → cd = 0) (hs : s.length ≤ 1048576) (ht : t.length ≤ 8000000) (hq : qs.length ≤ 1048576) (hl : lensQ qs n) (hn : n ≤ 3000000) :
    Calls Tryz.prog 24 #[v, .slice ad t.length cd] w fun e w' => One w.heap.size w' e (orL [mayT s qs, slC s t]) (slS s t) (fillV (slS s t) (fun xs => elV s (qs.map Q3.rat) ((List.range s.length).map fun i : Nat => IntKind.i64.wrap (xs.getD i 0 + fstP t i)))) (n + 2) ∧ Below w.heap.size w w' := by
  have HT := Lib.hid T
  have HD := Lib.hid D
  have HND := Lib.hid nd
  have HL := Lib.hid hl
  obtain rfl := T.is
  obtain ⟨W, hW⟩ : ∃ W, (((w.alloc (.cells #[.slice a s.length ca, .slice b qs.length cb] 26)).alloc (.cells #[.slice ad t.length cd] 22)).alloc (.cells #[.slice none 0 0, .slice none 0 0] 26)) = W := ⟨_, rfl⟩
  have R0 : Row W (w.heap.size) 26 #[.slice a s.length ca, .slice b qs.length cb] := by rw [← hW]; have h := Row.new w 26 #[.slice a s.length ca, .slice b qs.length cb]; (try simp only [World.size_alloc] at h); exact ((h.alloc _).alloc _)
  have R1 : Row W (w.heap.size + 1) 22 #[.slice ad t.length cd] := by rw [← hW]; have h := Row.new (w.alloc (.cells #[.slice a s.length ca, .slice b qs.length cb] 26)) 22 #[.slice ad t.length cd]; (try simp only [World.size_alloc] at h); exact (h.alloc _)
  have R2 : Row W (w.heap.size + 1 + 1) 26 #[.slice none 0 0, .slice none 0 0] := by rw [← hW]; have h := Row.new ((w.alloc (.cells #[.slice a s.length ca, .slice b qs.length cb] 26)).alloc (.cells #[.slice ad t.length cd] 22)) 26 #[.slice none 0 0, .slice none 0 0]; (try simp only [World.size_alloc] at h); exact h
  have hBW : Below w.heap.size w W := by rw [← hW]; exact ((((Below.refl _ _).alloc (by (try simp) <;> omega) _).alloc (by (try simp) <;> omega) _).alloc (by (try simp) <;> omega) _)
  have hsW : W.heap.size = w.heap.size + 1 + 1 + 1 := by rw [← hW]; simp
  have hm := fun (X : World) (hX : Below W.heap.size W X) => mayT7_any (HT.out.later (hBW.trans (hX.mono (by omega)))) (by omega) (by omega) HL.out (by omega)
  obtain ⟨m, hmm⟩ : ∃ m, mayT s qs = m := ⟨_, rfl⟩
  have hp := fun (X : World) (hX : Below W.heap.size W X) => mayCuts_any (HT.out.later (hBW.trans (hX.mono (by omega)))).sh (HD.out.later (hBW.trans (hX.mono (by omega)))) (by omega) (by omega)
  obtain ⟨pc, hpe⟩ : ∃ c, slC s t = c := ⟨_, rfl⟩
  have Hp := Lib.hid hpe
  rw [hpe] at hp
  rw [hmm] at hm
  have mkS : ∀ X, Below W.heap.size W X → X.cell? ⟨w.heap.size, 0, none⟩ = some (.slice a s.length ca) ∧ X.cell? ⟨w.heap.size, 1, none⟩ = some (.slice b qs.length cb) ∧ X.cell? ⟨w.heap.size + 1, 0, none⟩ = some (.slice ad t.length cd) := fun X h => by
    obtain ⟨x0, x1, _⟩ := (R0.later h).two
    exact ⟨x0, x1, (R1.later h).cell 0⟩
  have B0 : Below W.heap.size W W.drew := (Below.refl _ W).drew
  obtain ⟨LR, hLR⟩ : ∃ L, (fillV (slS s t) (fun xs => elV s (qs.map Q3.rat) ((List.range s.length).map fun i : Nat => IntKind.i64.wrap (xs.getD i 0 + fstP t i)))) = L := ⟨_, rfl⟩
  have HMM := Lib.hid hmm
  have HLR := Lib.hid hLR
  rw [hmm, hpe, hLR]
  obtain ⟨c, hc⟩ : ∃ c, orL [m, pc] = c := ⟨_, rfl⟩
  have HC := Lib.hid hc
  rw [hc]
  clear T D nd hmm hpe hLR hc hl
  obtain ⟨n', hn'⟩ : ∃ n' : Nat, Hid (3 ≤ n') := ⟨3, Nat.le_refl 3⟩
  refine (callsIn_wide (n := n')).1 ?_
  refine callsIn_of_wp_marks Tryz.func24 rfl trivial ?_ rfl
  simp only [Tryz.ntmps24, List.size_toArray, List.length_cons, List.length_nil, Nat.reduceAdd, Nat.reduceSub, Array.replicate_succ, Array.replicate_zero, List.push_toArray, List.append_toArray, List.nil_append, List.cons_append]
  gi_wp2_with fail
  (try rw [hW])
  clear hW
  refine wpIn_mono (Q := fun e a' y => ∃ u, e = .normal ∧ a' = { tmps := #[.agg #[.slice a s.length ca, .slice b qs.length cb], .slice ad t.length cd, .pointer (some ⟨w.heap.size, 0, none⟩), .pointer (some ⟨w.heap.size + 1, 0, none⟩), .pointer (some ⟨w.heap.size + 1 + 1, 0, none⟩), .int .i64 0,
      .int .i64 c, undef, undef, undef, .agg #[.slice a s.length ca, .slice b qs.length cb], .int .i64 m, .pointer (some ⟨w.heap.size, 0, none⟩), .slice a s.length ca, .slice ad t.length cd, .int .i64 pc, u, .int .i64 c, undef, undef, undef, undef, undef, undef, undef, undef, undef, undef, undef, undef, undef, undef, undef, undef, undef, undef, undef, undef, undef, undef], defers := [] } ∧ Below W.heap.size W y) ?reg ?cont
  case reg =>
   refine wpIn_region_L (fun X => X.cell? ⟨w.heap.size, 0, none⟩ = some (.slice a s.length ca) ∧ X.cell? ⟨w.heap.size, 1, none⟩ = some (.slice b qs.length cb) ∧ X.cell? ⟨w.heap.size + 1, 0, none⟩ = some (.slice ad t.length cd)) [] (by kernel_rfl) (mkS _ B0) (fun hHeld => ?_)
   refine wpAnyInL_take (i := 0) (v := ?va0) [1, 5, 6, 7, 8] rfl rfl (by kernel_rfl) (by kernel_rfl) (by kernel_rfl) (by kernel_rfl) (by kernel_rfl) (by kernel_rfl) (fun _ _ _ h => by obtain ⟨_, h, _⟩ := h; cases h) (Or.inl ⟨by rfl, ?ha0⟩) (fun _ => rfl) (by assumption) ?ra0
   case ha0 =>
     intro w hSw
     try dsimp only at hSw
     go_simp
     try with_reducible rfl
   try simp only [Act.put, List.setIfInBounds_toArray, List.set_cons_zero, List.set_cons_succ]
   refine wpAnyInL_take (i := 2) (v := ?va2) [3, 5, 6, 7, 8] rfl rfl (by kernel_rfl) (by kernel_rfl) (by kernel_rfl) (by kernel_rfl) (by kernel_rfl) (by kernel_rfl) (fun _ _ _ h => by obtain ⟨_, h, _⟩ := h; cases h) (Or.inl ⟨by rfl, ?ha2⟩) (fun _ => rfl) (by assumption) ?ra2
   case ha2 =>
     intro w hSw
     try dsimp only at hSw
     go_simp
     try with_reducible rfl
   try simp only [Act.put, List.setIfInBounds_toArray, List.set_cons_zero, List.set_cons_succ]
   refine wpAnyInL_take (i := 3) (v := ?va3) [5, 6, 7, 8] rfl rfl (by kernel_rfl) (by kernel_rfl) (by kernel_rfl) (by kernel_rfl) (by kernel_rfl) (by kernel_rfl) (fun _ _ _ h => by obtain ⟨_, h, _⟩ := h; cases h) (Or.inl ⟨by rfl, ?ha3⟩) (fun _ => rfl) (by assumption) ?ra3
   case ha3 =>
     intro w hSw
     try dsimp only at hSw
     go_simp
     try with_reducible rfl
   try simp only [Act.put, List.setIfInBounds_toArray, List.set_cons_zero, List.set_cons_succ]
   refine wpAnyInL_take (i := 4) (v := ?va4) [5, 6, 7, 8] rfl rfl (by kernel_rfl) (by kernel_rfl) (by kernel_rfl) (by kernel_rfl) (by kernel_rfl) (by kernel_rfl) (fun _ _ _ h => by obtain ⟨_, h, _⟩ := h; cases h) (Or.inl ⟨by rfl, ?ha4⟩) (fun _ => rfl) (by assumption) ?ra4
   case ha4 =>
     intro w hSw
     try dsimp only at hSw
     go_simp
     try with_reducible rfl
   try simp only [Act.put, List.setIfInBounds_toArray, List.set_cons_zero, List.set_cons_succ]
   refine wpAnyInL_one (i := 1) (by kernel_rfl) rfl (fun K hK => ?o1)
   go_simp
   refine wideCallS ((hm _ B0).mono ?_)
   rintro e y1 ⟨rfl, hy⟩
   have B1 : Below W.heap.size W y1 := B0.trans (hy.mono B0.size)
   clear hy
   go_simp
   refine hK.out _ _ (fun _ => mkS _ B1) (fun hHeld2 => ?p1)
   clear hK K hHeld
   have hHeld := hHeld2 (by decide)
   clear hHeld2
   try simp only [Act.put, List.setIfInBounds_toArray, List.set_cons_zero, List.set_cons_succ]
   refine wpAnyInL_one (i := 5) (by kernel_rfl) rfl (fun K hK => ?o5)
   go_simp
   refine wideCallS ((hp _ B1).mono ?_)
   rintro e y2 ⟨rfl, hy⟩
   have B2 : Below W.heap.size W y2 := B1.trans (hy.mono B1.size)
   clear hy
   go_simp
   refine hK.out _ _ (fun _ => mkS _ B2) (fun hHeld2 => ?p5)
   clear hK K hHeld
   have hHeld := hHeld2 (by decide)
   clear hHeld2
   try simp only [Act.put, List.setIfInBounds_toArray, List.set_cons_zero, List.set_cons_succ]
   have z2 := B2.size
   have A2 : Below W.heap.size W (y2.alloc (.cells #[.int .i64 m, .int .i64 pc] 27)) := B2.alloc (by omega) _
   refine wpAnyInL_one (i := 6) (by kernel_rfl) rfl (fun K hK => ?o6)
   go_simp
   refine hK.out _ _ (fun _ => mkS _ A2) (fun hHeld2 => ?p6)
   clear hK K hHeld
   have hHeld := hHeld2 (by decide)
   clear hHeld2
   try simp only [Act.put, List.setIfInBounds_toArray, List.set_cons_zero, List.set_cons_succ]
   refine wpAnyInL_one (i := 7) (by kernel_rfl) rfl (fun K hK => ?o7)
   go_simp
   refine wideCallS ((or_any (xs := [m, pc]) (b := y2.heap.size) (fun k hk => by
    have R := Row.new y2 27 #[.int .i64 m, .int .i64 pc]
    simp only [List.length_cons, List.length_nil] at hk
    by_cases h0 : k = 0
    · subst h0; exact R.cell 0
    by_cases h1 : k = 1
    · subst h1; exact R.cell 1
    · omega) (by simp)).mono ?_)
   rintro e y3 ⟨rfl, rfl⟩
   go_simp
   refine hK.out _ _ (fun _ => mkS _ A2) (fun hHeld2 => ?p7)
   clear hK K hHeld
   have hHeld := hHeld2 (by decide)
   clear hHeld2
   try simp only [Act.put, List.setIfInBounds_toArray, List.set_cons_zero, List.set_cons_succ]
   rw [HC.out]
   refine wpAnyInL_one (i := 8) (by kernel_rfl) rfl (fun K hK => ?o8)
   go_simp
   refine hK.out _ _ (fun _ => mkS _ A2) (fun hHeld2 => ?p8)
   clear hK K hHeld
   have hHeld := hHeld2 (by decide)
   clear hHeld2
   try simp only [Act.put, List.setIfInBounds_toArray, List.set_cons_zero, List.set_cons_succ]
   refine wpAnyInL_done (by kernel_rfl) ?_ _
   exact ⟨_, rfl, rfl, A2⟩
  rintro e a' y ⟨u, rfl, rfl, AY⟩
  have X0 := R0.later AY
  have P1 := R2.later AY
  have X1 := R1.later AY
  obtain ⟨x0, x1, _⟩ := X0.two
  have x2 := X1.cell 0
  have s2 := AY.size
  have hB2 : Below w.heap.size w y := hBW.trans (AY.mono (by omega))
  have hmf : ∀ (fn : Fn) (first cap : Array Value) (w : World), (Instr.makeFunc fn first cap).run Tryz.prog w = .ok (.func fn first cap) w := fun _ _ _ _ => rfl
  by_cases h0 : c = 0
  · subst h0
    obtain ⟨hm0, hc0⟩ := or0 HC.out
    have hp0 := or1 hc0
    rw [← Hp.out] at hp0
    rw [← HMM.out] at hm0
    have okS := mayC_zero.1 (mayT_rank hm0)
    have hrk := okS.rank
    obtain ⟨htl, hin⟩ := slC_is hp0
    have okP := slS_ok hp0 okS
    have TY := HT.out.later hB2
    have DY := HD.out.later hB2
    have hcl := cloneS_any TY.sh TY.nila (by omega)
    clear mkS
    gi_wp2_with fail
    refine wideCallS (hcl.mono ?_)
    rintro e W3 ⟨r3, rfl, RS3, b3⟩
    obtain ⟨a3, c3, rfl, I3, hc3, n3, w3⟩ := RS3.idx
    have s3 := b3.size
    obtain ⟨M, hM⟩ : ∃ M, s.length = M := ⟨_, rfl⟩
    obtain ⟨By, hBy⟩ : ∃ B, y.heap.size = B := ⟨_, rfl⟩
    obtain ⟨G, hG⟩ : ∃ G, W3.heap.size = G := ⟨_, rfl⟩
    rw [hBy] at I3
    rw [hM] at hc3
    obtain ⟨U, hU⟩ : ∃ U, W3.alloc (.cells #[.slice a3 M c3] 23) = U := ⟨_, rfl⟩
    have R7 : Row U G 23 #[.slice a3 M c3] := by rw [← hU, ← hG]; exact Row.new _ _ _
    have bU : Below W3.heap.size W3 U := by rw [← hU]; exact (Below.refl _ _).alloc (Nat.le_refl _) _
    have sU : U.heap.size = G + 1 := by rw [← hU, ← hG]; simp
    have HM := Lib.hid hM
    have HTL : Hid (t.length = 2 * M) := Lib.hid (by rw [← hM]; exact htl)
    have HCL := HTL
    have hyU : Below y.heap.size y U := b3.trans (bU.mono s3)
    have DU := DY.later hyU
    have HX0 := Lib.hid X0
    have HX1 := Lib.hid X1
    have HTY := Lib.hid TY
    have HDY := Lib.hid DY
    have HP1 := Lib.hid P1
    have HOKP := Lib.hid okP
    have HIN := Lib.hid hin
    have hM4 : M ≤ 4 := by omega
    have ht8 : t.length ≤ 8 := by omega
    have HCB : Hid (t ≠ [] → ∀ x, ad = some x → x.block < By) := Lib.hid (fun h1 x h2 => by have := HD.out.lim.lt h1 x h2; omega)
    have x2' := (HX1.out.later hyU).cell 0
    rw [hM]
    have HI := Lib.hid I3
    clear hM htl X0 X1 TY P1 okP hin hcl x0 x1 x2 hp0 RS3
    gi_wp2_with fail
    (try rw [hU])
    (try rw [hG])
    refine wideCallS ((pairs_any _ _ _ _).mono ?_)
    rintro e w' ⟨rfl, rfl⟩
    gi_wp2_with fail
    obtain ⟨V, hV⟩ : ∃ V, U.alloc (.cells #[.slice ad t.length cd] 22) = V := ⟨_, rfl⟩
    have sV : V.heap.size = G + 1 + 1 := by rw [← hV, World.size_alloc, sU]
    have b4 : Below U.heap.size U V := by rw [← hV]; exact (Below.refl _ _).alloc (Nat.le_refl _) _
    have d4 : Boxed V (G + 1) 22 (.slice ad t.length cd) := by rw [← hV, ← sU]; exact Boxed.new _ _ _
    have q0 := R7.later b4
    have q2 := (I3.later bU).later b4
    have hbV : Below By y V := by rw [← hBy]; exact hyU.trans (b4.mono (by omega))
    have hlimV : LimS V ad t := DU.lim.later b4
    (try rw [sU])
    (try rw [hV])
    have h3 : 3 ≤ n' := hn'
    clear hV hU R7 I3 DU DY x2'
    refine wpIn_rangeFunc_ownH (F := Fence.wide) (n := n') rfl (by omega) (gf := 95) (lb := #[.pointer (some ⟨G + 1, 0, none⟩)]) rfl trivial (enters_of Tryz.func95 (by kernel_rfl) rfl)
      (pairs_stops (n' - 1) (G + 1) (By) M ad t cd (by omega) HCL.out HCB.out V (by omega) d4.cell hlimV) KpS.trans (KpS.b (by omega) (by omega)) (Below.refl _ _) (fun _ => rfl)
      (fun (pre : List (Fin M)) X => IdxP By X a3 c3 (stpOf (fun i z => IntKind.i64.wrap (sndP t i - fstP t i)) s (pre.map Fin.val)) ∧ Row X G 23 #[.slice a3 M c3] ∧ Below By y X ∧ G + 1 + 1 ≤ X.heap.size)
      (fun c pre X => False)
      (fun pre X Y row ⟨e1, e2, e4, e5⟩ hg hr => have kk := KeepC.grown hg (fun r e => (hr r e).2); ⟨e1.keepC kk, e2.keepC kk, e4.grown hg (by have := e4.size; omega) (fun k e => by have := (hr k e).1; omega), Nat.le_trans e5 hg.size⟩)
      (fun _ _ _ _ _ hs _ _ => hs)
      ⟨q2, q0, hbV, by omega⟩
      (fun (x : Fin M) a' X => ∃ p, G + 1 + 1 ≤ p ∧ Row X p 89 #[.int .i64 (t[2 * x.val]?.getD 0), .int .i64 (t[2 * x.val + 1]?.getD 0)] ∧
        a' = { tmps := #[.agg #[.slice a M ca, .slice b qs.length cb], .slice ad t.length cd, .pointer (some ⟨w.heap.size, 0, none⟩), .pointer (some ⟨w.heap.size + 1, 0, none⟩), .pointer (some ⟨w.heap.size + 1 + 1, 0, none⟩), .int .i64 0, .int .i64 0, .pointer (some ⟨G, 0, none⟩), .int .i64 (x.val : Int), .pointer (some ⟨p, 0, none⟩), .agg #[.slice a M ca, .slice b qs.length cb], .int .i64 m, .pointer (some ⟨w.heap.size, 0, none⟩), .slice a M ca, .slice ad t.length cd, .int .i64 pc, u, .int .i64 0, .int .i64 0, .bool false, undef, undef, .pointer (some ⟨w.heap.size, 0, none⟩), .slice a M ca, .slice a3 M c3, .slice ad t.length cd, .func (.func 95) #[] #[.pointer (some ⟨G + 1, 0, none⟩)], .int .i64 (x.val : Int), .agg #[.int .i64 (t[2 * x.val]?.getD 0), .int .i64 (t[2 * x.val + 1]?.getD 0)], undef, undef, undef, undef, undef, undef, undef, undef, undef, undef, undef], defers := [] })
      (fun x a' _ X Y row ⟨p, h1, h2, h3⟩ hg hr => ⟨p, h1, h2.keepC (KeepC.grown hg (fun r e => (hr r e).2)), h3⟩)
      ?assign ?body ?done ?stop
    case assign =>
      rintro l pre ⟨k, hk⟩ X K ⟨e1, e2, e4, hsI⟩ hK
      obtain ⟨z0, hz0⟩ : ∃ z0, t[2 * k]?.getD 0 = z0 := ⟨_, rfl⟩
      obtain ⟨z1, hz1⟩ : ∃ z1, t[2 * k + 1]?.getD 0 = z1 := ⟨_, rfl⟩
      have hbX : Below X.heap.size X (X.alloc (.cells #[.int .i64 z0, .int .i64 z1] 89)) := (Below.refl _ _).alloc (Nat.le_refl _) _
      have kk := KeepC.below hbX
      have HK := Lib.hid hK
      have HZ0 := Lib.hid hz0
      have HZ1 := Lib.hid hz1
      simp only [pairV]
      rw [hz0, hz1]
      clear hK hz0 hz1
      gi_wp2
      refine HK.out _ _ ⟨by simp, fun q o _ ho _ => (Below.heap_alloc _ _ _ (lt_of_block ho)).trans ho⟩ ⟨hbX.mono (by omega), Below.heap_alloc _ _ _ (by omega)⟩ ⟨e1.keepC kk, e2.keepC kk, e4.trans (hbX.mono (by have := e4.size; omega)), by simp; omega⟩ ⟨X.heap.size, hsI, ?_, ?_⟩
      · simp only [HZ0.out, HZ1.out]; exact Row.new _ _ _
      · simp only [HZ0.out, HZ1.out]
    case body =>
      rintro l pre ⟨k, hk⟩ a' X hl hrec ⟨e1, e2, e4, hsI⟩ ⟨pp, hp, hR, rfl⟩ hlt
      simp only at hR ⊢
      have hln := stpOf_len (fun i z => IntKind.i64.wrap (sndP t i - fstP t i)) s (pre.map Fin.val)
      obtain ⟨zs, hzs⟩ : ∃ zs, stpOf (fun i z => IntKind.i64.wrap (sndP t i - fstP t i)) s (pre.map Fin.val) = zs := ⟨_, rfl⟩
      rw [hzs] at e1 hln
      have hnx : stpOf (fun i z => IntKind.i64.wrap (sndP t i - fstP t i)) s (pre.map Fin.val ++ [k]) = zs.set k (IntKind.i64.wrap (sndP t k - fstP t k)) := by rw [stpOf_snoc, hzs]; rfl
      obtain ⟨z0, hz0⟩ : ∃ z0, t[2 * k]?.getD 0 = z0 := ⟨_, rfl⟩
      obtain ⟨z1, hz1⟩ : ∃ z1, t[2 * k + 1]?.getD 0 = z1 := ⟨_, rfl⟩
      have hf0 : fstP t k = z0 := hz0
      have hf1 : sndP t k = z1 := hz1
      rw [hf0, hf1] at hnx
      rw [hz0, hz1] at hR
      rw [hz0, hz1]
      obtain ⟨g, rfl, hgB, hmx, hP⟩ := e1.at (i := k) (by rw [hln, HM.out]; exact hk)
      have hgl := hP.lt
      have hc := hP.cell k (by rw [hln, HM.out]; exact hk)
      have hf := hP.free k
      obtain ⟨yv, hy⟩ : ∃ y, IntKind.i64.wrap (z1 - z0) = y := ⟨_, rfl⟩
      rw [hy] at hnx
      have HNX := Lib.hid hnx
      have ci := e2.cell 0
      have cp0 := hR.cell 0
      have cp1 := hR.cell 1
      have hkI : (k : Int) < (M : Int) := by omega
      have hgG : g < G := by have := HI.out.lt; omega
      have HP := Lib.hid hP
      have E2 := Lib.hid e2
      clear hnx hzs hz0 hz1 hf0 hf1 e1 hP e2
      gi_wp2
      refine ⟨keepsFrom_set (keepsFrom_below (Below.refl _ _)) _ _, ⟨setBelow (Below.refl _ _) hgB _ _, Below.heap_setCell _ _ _ _ (by show G + 1 ≠ g; omega)⟩, ?_, E2.out.far (by show G ≠ g; omega) _, setBelow e4 hgB _ _, Nat.le_trans hsI (setBelow (B := 0) (Below.refl _ X) (Nat.zero_le g) k (.int .i64 yv)).size⟩
      rw [List.map_append, List.map_cons, List.map_nil, HNX.out]
      exact .inr ⟨g, rfl, hgB, hmx, PartS.set HP.out k (by rw [hln, HM.out]; exact hk) yv⟩
    case done =>
      rintro D ks X hD hup ⟨e1, e2, e4, hsI⟩ hK
      rw [show ks.map Fin.val = List.range M from hup, stpOf_all _ HM.out] at e1
      have hzs : ((List.range M).map fun i : Nat => IntKind.i64.wrap (sndP t i - fstP t i)) = slS s t := by
        unfold slS
        rw [HM.out]
        refine List.map_congr_left fun i hi => ?_
        have h1 := HIN.out i (by rw [HM.out]; exact List.mem_range.1 hi)
        have h2 := getD_le_prod okS.pos (k := i) (by rw [HM.out]; exact List.mem_range.1 hi)
        have h4 := okS.few
        exact wrap_i64 (by omega) (by omega)
      rw [hzs] at e1
      have hsl : (slS s t).length = M := by rw [slS_len, HM.out]
      have AZ := e1.res (okS_wid HOKP.out)
      obtain ⟨az, cz, A3, nz⟩ := AZ.arg2
      rw [hsl] at A3
      have e4' : Below y.heap.size y X := by rw [hBy]; exact e4
      have hbu := built_any (N := n + 2) (F := 62) (cap := #[.pointer (some ⟨w.heap.size + 1, 0, none⟩), .pointer (some ⟨w.heap.size, 0, none⟩)]) (f := fun xs => elV s (qs.map Q3.rat) ((List.range s.length).map fun i : Nat => IntKind.i64.wrap (xs.getD i 0 + fstP t i))) A3 nz HOKP.out (enters_of Tryz.func62 (by kernel_rfl) rfl)
        (fun B Y x xs hin hB hBX hX hx => by
          obtain ⟨ax, cx, rfl, IX, hcx, nx, hwx⟩ := hx.idx
          have hlx := inS_length hin
          exact slice1_any (m := s.length) (HTY.out.later e4') hm0 HL.out (by omega) hB hBX hX IX hcx nx (HX0.out.later e4') (HDY.out.later e4') ((HX1.out.later e4').cell 0) (by rw [HM.out]; exact HTL.out) (by rw [hlx, hsl, HM.out]) (by rw [HM.out]; exact hM4))
      rw [HLR.out] at hbu
      have P1' := HP1.out.later e4'
      have HBU := Lib.hid hbu
      have ci := e2.cell 0
      have hDlt := lt_of_block hK
      have hsX := e4'.size
      clear hbu A3 AZ hzs e1
      gi_wp2_with fail
      refine wideCallS (HBU.out.mono ?_)
      rintro e w7 ⟨r, rfl, hT, b7⟩
      obtain ⟨a', b', ca', cb', rfl, RS, RO⟩ := hT
      have P2 := P1'.later b7
      have s7 := b7.size
      obtain ⟨u0, u1, g0, g1⟩ := P2.two
      have HR := Lib.hid RS
      have HO := Lib.hid RO
      clear RS RO
      obtain ⟨l, hl⟩ : ∃ l, LR.length = l := ⟨_, rfl⟩
      have HL2 := Lib.hid hl
      rw [hl, hsl]
      clear hl
      have hK9 : w7.heap[D]? = some (.deferred (some [])) := (b7.block D hDlt).trans hK
      have hK10 : ((w7.setCell ⟨w.heap.size + 1 + 1, 0, none⟩ (.slice a' M ca')).setCell ⟨w.heap.size + 1 + 1, 1, none⟩ (.slice b' l cb')).heap[D]? = some (.deferred (some [])) := (kept2 _ _ D (by omega)).trans hK9
      have HR9 := Lib.hid P2
      have HR10 := Lib.hid (P2.set2 (.slice a' M ca') (.slice b' l cb'))
      clear P2
      gi_wp2
      refine ⟨by simp, .inl ⟨_, _, rfl, run_takeDeferred hK10, ?_⟩⟩
      have kk := KeepC.grown (grownBy_putObj' ((w7.setCell ⟨w.heap.size + 1 + 1, 0, none⟩ (.slice a' M ca')).setCell ⟨w.heap.size + 1 + 1, 1, none⟩ (.slice b' l cb')) D (.deferred none)) (fun r e => by cases e; exact ⟨_, hK10, rfl⟩)
      obtain ⟨v0, v1, _⟩ := (HR10.out.keepC kk).two
      refine ⟨.tuple #[.agg #[.slice a' M ca', .slice b' l cb'], .int .i64 0], by simp [results, Tryz.f24, go_sem, v0, v1], .inl ⟨rfl, _, rfl, ?_⟩, ?_⟩
      · have hR : ResT w.heap.size w7 (.agg #[.slice a' M ca', .slice b' l cb']) (slS s t) LR (n + 2) := ResT.mono ⟨a', b', ca', cb', by rw [HL2.out, hsl], HR.out, HO.out⟩ (by omega)
        exact (hR.far HR9.out (by decide) (by decide) (by decide) (kept2 _ _)).keepC kk
      · exact (below_set2 (g := w.heap.size + 1 + 1) (hB2.trans ((e4'.trans (b7.mono (by omega))).mono (by omega))) (by omega) _ _).trans (belowK_b (n₀ := w.heap.size) (w := w) (by omega) _ D _ _ (by omega) hK10 rfl rfl)
    case stop =>
      rintro D c pre X _ _ h _
      exact h.elim
  · have hne : (c != 0) = true := by simp [h0]
    have H0 := Lib.hid h0
    obtain ⟨u0, u1, g0, g1⟩ := P1.two
    have P3 := P1.set2 (.slice none 0 0) (.slice none 0 0)
    obtain ⟨z0, z1, _, _⟩ := P3.two
    clear h0 mkS
    gi_wp2_with fail
    exact ⟨.tuple #[noTensor, .int .i64 c], by simp [results, Tryz.f24, go_sem, z0, z1, noTensor], .inr ⟨H0.out, rfl⟩, below_set2 hB2 (by omega) _ _⟩
end
end Go.Proofs.YtooglnhlhgmhdaaGreat
