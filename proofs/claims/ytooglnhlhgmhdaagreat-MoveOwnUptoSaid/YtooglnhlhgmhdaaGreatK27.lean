/-
  Package move as it landed: padded, mayPads, mayCuts, mayCount. (Made by wip/gen/gen_mcode3.py.)
-/
import Derived.Test.YtooglnhlhgmhdaaGreatK1
import Derived.Test.YtooglnhlhgmhdaaGreatK2
import Derived.Test.YtooglnhlhgmhdaaGreatK3
import Derived.Test.YtooglnhlhgmhdaaGreatK5
import Derived.Test.YtooglnhlhgmhdaaGreatK7
import Derived.Test.YtooglnhlhgmhdaaGreatK11
import Derived.Test.YtooglnhlhgmhdaaGreatK12
import Derived.Test.YtooglnhlhgmhdaaGreatK13
import Derived.Test.YtooglnhlhgmhdaaGreatK15
import Derived.Test.YtooglnhlhgmhdaaGreatK16
import Derived.Test.YtooglnhlhgmhdaaGreatK17
import Derived.Test.YtooglnhlhgmhdaaGreatK19
import Derived.Test.YtooglnhlhgmhdaaGreatK20
import Derived.Test.YtooglnhlhgmhdaaGreatK23
import Derived.WalkKit
import Derived.Test.YtooglnhlhgmhdaaGreatRows
import Derived.BigQuiet
import Derived.Deep.QuietTactic
import Derived.Lib.Hide
import Derived.Lib.Small
import Derived.Lib.Walk
import Derived.Lib.BitFns
import Derived.Maps.AppendAt
import Derived.RangeFuncNested
import Derived.RangeFuncBound
import Derived.RangeFuncCalls
import Derived.RangeFuncLeaves
import Derived.Shelf.Abstract
import Derived.OwnWalkIn
import Derived.TacticsInMore
import Derived.LoopNIn
import Derived.LoopIn
import Derived.RangeFuncBox
import Derived.Deep.RegionHeld3
import Derived.OrdersIn
import Derived.StillTailTactics
import Derived.RangeFuncFrom
import Derived.Laws.EntriesVeiled
import Derived.ProofKit
import Derived.OpenShut
import Derived.JoinedCond
import Derived.Carry
import Derived.Laws.AppendOwnNone
import Derived.Lib.ItoaNum
import Derived.Deep.RegionLaw
import Derived.WalkMore
import Derived.Lib.SmallJoins
import Derived.IntWalk
import Derived.Deep.DeepCutAuto
import Derived.Laws.OwnMore
import Derived.OrdersHeld
import Derived.Deep.RegionHeld
import Derived.ArgAppend
import Derived.Deep.Slices
import Derived.Laws.CopyOwn
import Derived.Lib.SliceRun
namespace Go.Proofs.YtooglnhlhgmhdaaGreat
set_option maxRecDepth 100000
section
open Go.RowKit Go.Shelf
attribute [local go_sem] Oper.semAt_some
set_option linter.unusedVariables false
set_option linter.unusedSimpArgs false
set_option maxRecDepth 100000 in
set_option maxHeartbeats 4000000 in
theorem slice1_any {n : Nat} {w0 w : World} {vx : Value} {s xs : List Int} {qs : List Q3} {a b ad : Option Addr} {ca cb cap B : Nat} {gc gx m : Nat} {cuts : List Int} {ac : Option Addr} {cc : Nat} (T : TensQ w0 vx s qs a ca b cb) (h0 : mayT s qs = 0) (hl : lensQ qs n) (hn : n ≤ 100000000) (h0B : w0.heap.size ≤ B) (hBw : B ≤ w.heap.size) (h0w : Below w0.heap.size w0 w) (I : IdxP B w ad cap xs) (hcap : xs.length ≤ cap) (nd : ad = none → cap = 0) (hgx : Row w0 gx 26 #[.slice a s.length ca, .slice b qs.length cb]) (C : ArgS w0 (.slice ac cuts.length cc) cuts ac cc) (hgc : w0.cell? ⟨gc, 0, none⟩ = some (.slice ac cuts.length cc)) (hcl : cuts.length = 2 * m) (hxm : xs.length = m) (hm4 : m ≤ 4) :
    Calls Tryz.prog 62 #[.slice ad xs.length cap, .pointer (some ⟨gc, 0, none⟩), .pointer (some ⟨gx, 0, none⟩)] w fun e w' => ∃ r, e = .returned r ∧ ResQ B w' r (elV s (qs.map Q3.rat) ((List.range m).map fun i : Nat => IntKind.i64.wrap ((xs.getD i 0) + fstP cuts i))) (n + 2) ∧ Below B w w' := by
  have HT := Lib.hid T
  obtain rfl := T.is
  obtain ⟨G, hG⟩ : ∃ G, w.heap.size = G := ⟨_, rfl⟩
  obtain ⟨W, hW⟩ : ∃ W, (w.alloc (.cells #[.slice ad xs.length cap] 22)).alloc (.cells #[.bool false, .slice none 0 0, .slice none 0 0] 58) = W := ⟨_, rfl⟩
  have R0 : Row W G 22 #[.slice ad xs.length cap] := by rw [← hW, ← hG]; exact (Row.new _ _ _).alloc _
  have R1 : Row W (G + 1) 58 #[.bool false, .slice none 0 0, .slice none 0 0] := by rw [← hW, ← hG]; have h := Row.new (w.alloc (.cells #[.slice ad xs.length cap] 22)) 58 #[.bool false, .slice none 0 0, .slice none 0 0]; simp only [World.size_alloc] at h; exact h
  have hBW0 : Below w.heap.size w W := by rw [← hW]; exact ((Below.refl _ _).alloc (Nat.le_refl _) _).alloc (by simp) _
  have hBW : Below B w W := hBW0.mono hBw
  have hsW : W.heap.size = G + 1 + 1 := by rw [← hW, ← hG]; simp
  have h0W : Below w0.heap.size w0 W := h0w.trans (hBW.mono h0B)
  have k2 := (h0W.cell (World.block_lt_of_cell? _ _ hgc)).trans hgc
  have I1 := I.later hBW0
  have HCL := Lib.hid hcl
  have HCB : Hid (cuts ≠ [] → ∀ x, ac = some x → x.block < B) := Lib.hid (fun h1 x h2 => Nat.lt_of_lt_of_le (C.lim.lt h1 x h2) h0B)
  have hlim : LimS W ac cuts := C.lim.later h0W
  have HXM := Lib.hid hxm
  have HI := Lib.hid I
  have HL0 := Lib.hid hl
  have HND := Lib.hid nd
  have HGX := Lib.hid hgx
  rw [hxm] at hcap R0 hW ⊢
  have hc8 : cuts.length ≤ 8 := by omega
  clear T hgx hl nd C I hgc hcl hxm
  obtain ⟨n', hn'⟩ : ∃ n' : Nat, Hid (3 ≤ n') := ⟨3, Nat.le_refl 3⟩
  refine (callsIn_wide (n := n')).1 ?_
  refine callsIn_of_wp_marks Tryz.func62 rfl trivial ?_ rfl
  simp only [Tryz.ntmps62, List.size_toArray, List.length_cons, List.length_nil, Nat.reduceAdd, Nat.reduceSub, Array.replicate_succ, Array.replicate_zero, List.push_toArray, List.append_toArray, List.nil_append, List.cons_append]
  gi_wp2_with fail

  (try rw [hW])
  (try rw [hG])
  refine wideCallS ((pairs_any _ _ _ _).mono ?_)
  rintro e w' ⟨rfl, rfl⟩
  gi_wp2_with fail
  obtain ⟨V, hV⟩ : ∃ V, W.alloc (.cells #[.slice ac cuts.length cc] 22) = V := ⟨_, rfl⟩
  have sV : V.heap.size = G + 1 + 1 + 1 := by rw [← hV, World.size_alloc, hsW]
  have b4 : Below W.heap.size W V := by rw [← hV]; exact (Below.refl _ _).alloc (Nat.le_refl _) _
  have d4 : Boxed V (G + 1 + 1) 22 (.slice ac cuts.length cc) := by rw [← hV, ← hsW]; exact Boxed.new _ _ _
  have q0 := R0.later b4
  have q1 := R1.later b4
  have q2 := I1.later b4
  have hbV : Below B w V := hBW.trans (b4.mono (by omega))
  have hlimV : LimS V ac cuts := hlim.later b4
  (try rw [hsW])
  (try rw [hV])
  have h3 : 3 ≤ n' := hn'
  clear hV hW k2 R0 R1 I1 hBW0 hlim
  refine wpIn_rangeFunc_ownH (F := Fence.wide) (n := n') rfl (by omega) (gf := 95) (lb := #[.pointer (some ⟨G + 1 + 1, 0, none⟩)]) rfl trivial (enters_of Tryz.func95 (by kernel_rfl) rfl)
    (pairs_stops (n' - 1) (G + 1 + 1) (B) m ac cuts cc (by omega) HCL.out HCB.out V (by omega) d4.cell hlimV) KpS.trans (KpS.b (by omega) (by omega)) (Below.refl _ _) (fun _ => rfl)
    (fun (pre : List (Fin m)) X => IdxP B X ad cap (stpOf (fun i z => IntKind.i64.wrap (z + fstP cuts i)) xs (pre.map Fin.val)) ∧ Row X G 22 #[.slice ad m cap] ∧ Row X (G + 1) 58 #[.bool false, .slice none 0 0, .slice none 0 0] ∧ Below B w X ∧ G + 1 + 1 + 1 ≤ X.heap.size)
    (fun c pre X => False)
    (fun pre X Y row ⟨e1, e2, e3, e4, e5⟩ hg hr => have kk := KeepC.grown hg (fun r e => (hr r e).2); ⟨e1.keepC kk, e2.keepC kk, e3.keepC kk, e4.grown hg (by have := e4.size; omega) (fun k e => by have := (hr k e).1; omega), Nat.le_trans e5 hg.size⟩)
    (fun _ _ _ _ _ hs _ _ => hs)
    ⟨q2, q0, q1, hbV, by omega⟩
    (fun (x : Fin m) a' X => ∃ p, G + 1 + 1 + 1 ≤ p ∧ Row X p 89 #[.int .i64 (cuts[2 * x.val]?.getD 0), .int .i64 (cuts[2 * x.val + 1]?.getD 0)] ∧
      a' = { tmps := #[.slice ad m cap, .pointer (some ⟨gc, 0, none⟩), .pointer (some ⟨gx, 0, none⟩), .pointer (some ⟨G, 0, none⟩), .pointer (some ⟨G + 1, 0, none⟩), .int .i64 (x.val : Int), .pointer (some ⟨p, 0, none⟩), .slice ac cuts.length cc, .func (.func 95) #[] #[.pointer (some ⟨G + 1 + 1, 0, none⟩)], .int .i64 (x.val : Int), .agg #[.int .i64 (cuts[2 * x.val]?.getD 0), .int .i64 (cuts[2 * x.val + 1]?.getD 0)], undef, undef, undef, undef, undef, undef, undef, undef, undef, undef, undef], defers := [] })
    (fun x a' _ X Y row ⟨p, h1, h2, h3⟩ hg hr => ⟨p, h1, h2.keepC (KeepC.grown hg (fun r e => (hr r e).2)), h3⟩)
    ?assign ?body ?done ?stop
  case assign =>
    rintro l pre ⟨k, hk⟩ X K ⟨e1, e2, e3, e4, hsI⟩ hK
    obtain ⟨z0, hz0⟩ : ∃ z0, cuts[2 * k]?.getD 0 = z0 := ⟨_, rfl⟩
    obtain ⟨z1, hz1⟩ : ∃ z1, cuts[2 * k + 1]?.getD 0 = z1 := ⟨_, rfl⟩
    have hbX : Below X.heap.size X (X.alloc (.cells #[.int .i64 z0, .int .i64 z1] 89)) := (Below.refl _ _).alloc (Nat.le_refl _) _
    have kk := KeepC.below hbX
    have HK := Lib.hid hK
    have HZ0 := Lib.hid hz0
    have HZ1 := Lib.hid hz1
    simp only [pairV]
    rw [hz0, hz1]
    clear hK hz0 hz1
    gi_wp2
    refine HK.out _ _ ⟨by simp, fun q o _ ho _ => (Below.heap_alloc _ _ _ (lt_of_block ho)).trans ho⟩ ⟨hbX.mono (by omega), Below.heap_alloc _ _ _ (by omega)⟩ ⟨e1.keepC kk, e2.keepC kk, e3.keepC kk, e4.trans (hbX.mono (by have := e4.size; omega)), by simp; omega⟩ ⟨X.heap.size, hsI, ?_, ?_⟩
    · simp only [HZ0.out, HZ1.out]; exact Row.new _ _ _
    · simp only [HZ0.out, HZ1.out]
  case body =>
    rintro l pre ⟨k, hk⟩ a' X hl hrec ⟨e1, e2, e3, e4, hsI⟩ ⟨p, hp, hR, rfl⟩ hlt
    simp only at hR ⊢
    have hln := stpOf_len (fun i z => IntKind.i64.wrap (z + fstP cuts i)) xs (pre.map Fin.val)
    obtain ⟨zs, hzs⟩ : ∃ zs, stpOf (fun i z => IntKind.i64.wrap (z + fstP cuts i)) xs (pre.map Fin.val) = zs := ⟨_, rfl⟩
    rw [hzs] at e1 hln
    have hnx : stpOf (fun i z => IntKind.i64.wrap (z + fstP cuts i)) xs (pre.map Fin.val ++ [k]) = zs.set k (IntKind.i64.wrap ((zs.getD k 0) + fstP cuts k)) := by rw [stpOf_snoc, hzs]; rfl
    obtain ⟨z0, hz0⟩ : ∃ z0, cuts[2 * k]?.getD 0 = z0 := ⟨_, rfl⟩
    obtain ⟨z1, hz1⟩ : ∃ z1, cuts[2 * k + 1]?.getD 0 = z1 := ⟨_, rfl⟩
    have hf0 : fstP cuts k = z0 := hz0
    rw [hf0] at hnx
    rw [hz0, hz1] at hR
    rw [hz0, hz1]
    obtain ⟨g, rfl, hgB, hmx, hP⟩ := e1.at (i := k) (by rw [hln, HXM.out]; exact hk)
    have hgl := hP.lt
    have hc := hP.cell k (by rw [hln, HXM.out]; exact hk)
    obtain ⟨z, hz⟩ : ∃ z, zs.getD k 0 = z := ⟨_, rfl⟩
    rw [hz] at hc hnx
    obtain ⟨y, hy⟩ : ∃ y, IntKind.i64.wrap (z + z0) = y := ⟨_, rfl⟩
    rw [hy] at hnx
    have HNX := Lib.hid hnx
    have HZS := Lib.hid hzs
    have ci := e2.cell 0
    have cp0 := hR.cell 0
    have hkI : (k : Int) < (m : Int) := by omega
    have hgG : g < G := by have := HI.out.lt; omega
    have hS0 : X.drew.cell? ⟨G, 0, none⟩ = some (.slice (some ⟨g, 0, none⟩) m cap) ∧ X.drew.cell? ⟨g, k, none⟩ = some (.int .i64 z) ∧ X.drew.cell? ⟨p, 0, none⟩ = some (.int .i64 z0) := ⟨ci, hc, cp0⟩
    have b0 : Below X.heap.size X X.drew := (Below.refl _ X).drew
    have hf := hP.free k
    have HP := Lib.hid hP
    clear hnx hzs hz0 hz1 hf0 ci cp0 hc e1 hP hz
    refine wpIn_block ?_
    refine region_roundL (fun Y => Y.cell? ⟨G, 0, none⟩ = some (.slice (some ⟨g, 0, none⟩) m cap) ∧ Y.cell? ⟨g, k, none⟩ = some (.int .i64 z) ∧ Y.cell? ⟨p, 0, none⟩ = some (.int .i64 z0)) 8
      (by kernel_rfl) (by kernel_rfl) (by rintro ⟨a', w', h⟩; exact h) hS0 (fun hHeld => ?_)
    refine wpAnyL_take (i := 0) (v := ?va0) rfl (by kernel_rfl) (by kernel_rfl) (by kernel_rfl) (by kernel_rfl) (fun _ _ _ h => h) (Or.inl ⟨by rfl, ?ha0⟩) (by assumption) ?ra0
    case ha0 =>
      intro w hSw
      try dsimp only at hSw
      go_simp
      try with_reducible rfl
    try simp only [Act.put, List.setIfInBounds_toArray, List.set_cons_zero, List.set_cons_succ]
    refine wpAnyL_take (i := 1) (v := ?va1) rfl (by kernel_rfl) (by kernel_rfl) (by kernel_rfl) (by kernel_rfl) (fun _ _ _ h => h) (Or.inl ⟨by rfl, ?ha1⟩) (by assumption) ?ra1
    case ha1 =>
      intro w hSw
      try dsimp only at hSw
      go_simp
      try with_reducible rfl
    try simp only [Act.put, List.setIfInBounds_toArray, List.set_cons_zero, List.set_cons_succ]
    refine wpAnyL_take (i := 2) (v := ?va2) rfl (by kernel_rfl) (by kernel_rfl) (by kernel_rfl) (by kernel_rfl) (fun _ _ _ h => h) (Or.inl ⟨by rfl, ?ha2⟩) (by assumption) ?ra2
    case ha2 =>
      intro w hSw
      try dsimp only at hSw
      go_simp
      try with_reducible rfl
    try simp only [Act.put, List.setIfInBounds_toArray, List.set_cons_zero, List.set_cons_succ]
    refine wpAnyL_take (i := 3) (v := ?va3) rfl (by kernel_rfl) (by kernel_rfl) (by kernel_rfl) (by kernel_rfl) (fun _ _ _ h => h) (Or.inl ⟨by rfl, ?ha3⟩) (by assumption) ?ra3
    case ha3 =>
      intro w hSw
      try dsimp only at hSw
      go_simp
      try with_reducible rfl
    try simp only [Act.put, List.setIfInBounds_toArray, List.set_cons_zero, List.set_cons_succ]
    refine wpAnyL_take (i := 4) (v := ?va4) rfl (by kernel_rfl) (by kernel_rfl) (by kernel_rfl) (by kernel_rfl) (fun _ _ _ h => h) (Or.inl ⟨by rfl, ?ha4⟩) (by assumption) ?ra4
    case ha4 =>
      intro w hSw
      try dsimp only at hSw
      go_simp
      try with_reducible rfl
    try simp only [Act.put, List.setIfInBounds_toArray, List.set_cons_zero, List.set_cons_succ]
    refine wpAnyL_take (i := 5) (v := ?va5) rfl (by kernel_rfl) (by kernel_rfl) (by kernel_rfl) (by kernel_rfl) (fun _ _ _ h => h) (Or.inl ⟨by rfl, ?ha5⟩) (by assumption) ?ra5
    case ha5 =>
      intro w hSw
      try dsimp only at hSw
      go_simp
      try with_reducible rfl
    try simp only [Act.put, List.setIfInBounds_toArray, List.set_cons_zero, List.set_cons_succ]
    refine wpAnyL_take (i := 6) (v := ?va6) rfl (by kernel_rfl) (by kernel_rfl) (by kernel_rfl) (by kernel_rfl) (fun _ _ _ h => h) (Or.inl ⟨by rfl, ?ha6⟩) (by assumption) ?ra6
    case ha6 =>
      intro w hSw
      try dsimp only at hSw
      go_simp
      try with_reducible rfl
    try simp only [Act.put, List.setIfInBounds_toArray, List.set_cons_zero, List.set_cons_succ]
    refine wpAnyL_take (i := 7) (v := ?va7) rfl (by kernel_rfl) (by kernel_rfl) (by kernel_rfl) (by kernel_rfl) (fun _ _ _ h => h) (Or.inl ⟨by rfl, ?ha7⟩) (by assumption) ?ra7
    case ha7 =>
      intro w hSw
      try dsimp only at hSw
      go_simp
      try with_reducible rfl
    try simp only [Act.put, List.setIfInBounds_toArray, List.set_cons_zero, List.set_cons_succ]
    have hfd : X.drew.frozen? ⟨g, k, none⟩ = false := hf
    refine wpAnyL_one (i := 8) (by kernel_rfl) rfl (fun K hK => ?sb8)
    go_simp
    refine hK.out _ _ (fun h => absurd rfl h) (fun _ => ?mb8)
    clear hK K
    try simp only [Act.put, List.setIfInBounds_toArray, List.set_cons_zero, List.set_cons_succ]
    refine wpAnyL_done (by kernel_rfl) ?_ _
    refine ⟨keepsFrom_set (keepsFrom_below b0) _ _, ⟨setBelow (b0.mono (by omega)) hgB _ _, Below.heap_setCell _ _ _ _ (by show G + 1 + 1 ≠ g; omega)⟩, ?_, e2.far (by show G ≠ g; omega) _, e3.far (by show G + 1 ≠ g; omega) _, setBelow (e4.trans (b0.mono (by omega))) hgB _ _, Nat.le_trans hsI (setBelow (B := 0) (b0.mono (Nat.zero_le _)) (Nat.zero_le g) k (.int .i64 y)).size⟩
    rw [List.map_append, List.map_cons, List.map_nil, HNX.out]
    exact .inr ⟨g, rfl, hgB, hmx, PartS.set (show PartS X.drew g cap zs from HP.out) k (by rw [hln, HXM.out]; exact hk) y⟩
  case done =>
    rintro D ks X hD hup ⟨e1, e2, e3, e4, hsI⟩ hK
    rw [show ks.map Fin.val = List.range m from hup, stpOf_all _ HXM.out] at e1
    obtain ⟨zs, hzs⟩ : ∃ zs, ((List.range m).map fun i : Nat => IntKind.i64.wrap ((xs.getD i 0) + fstP cuts i)) = zs := ⟨_, rfl⟩
    rw [hzs] at e1
    have hzl : zs.length = m := by rw [← hzs]; simp
    have hw : Wid zs := by rw [← hzs]; exact Wid.map_range fun i _ => wrap_range _
    have AZ := e1.arg (by rw [hzl]; exact hcap) hw
    rw [hzl] at AZ
    have h0X : Below w0.heap.size w0 X := h0w.trans (e4.mono h0B)
    have he := element_any (HT.out.later h0X) h0 AZ HND.out (by rw [hzl]; omega) HL0.out hn
    have hgr := HGX.out.later h0X
    obtain ⟨y0, y1, _, _⟩ := hgr.two
    have ci := e2.cell 0
    have hDlt := lt_of_block hK
    have hsX := e4.size
    rw [← hzs] at he
    clear AZ hzs
    gi_wp2_with fail
    refine wideCallS (he.mono ?_)
    rintro e w7 ⟨r, rfl, qv, b7⟩
    have Q2 := Lib.hid (qv.mono (show B ≤ X.heap.size by omega))
    obtain ⟨m5, f1, l1, j1, f2, l2, j2, rfl⟩ := qv.shape
    clear qv
    have P2 := e3.later b7
    obtain ⟨u0, u1, u2, g0, g1, g2⟩ := P2.three
    have P3 := P2.set3 (.bool m5) (.slice f1 l1 j1) (.slice f2 l2 j2)
    have hK9 : w7.heap[D]? = some (.deferred (some [])) := (b7.block D hDlt).trans hK
    have hK10 : (((w7.setCell ⟨G + 1, 0, none⟩ (.bool m5)).setCell ⟨G + 1, 1, none⟩ (.slice f1 l1 j1)).setCell ⟨G + 1, 2, none⟩ (.slice f2 l2 j2)).heap[D]? = some (.deferred (some [])) := (kept3 _ _ _ D (by omega)).trans hK9
    have HR9 := Lib.hid P2
    have HR10 := Lib.hid P3
    clear P2 P3
    gi_wp2
    refine ⟨by simp, .inl ⟨_, _, rfl, run_takeDeferred hK10, ?_⟩⟩
    have kk := KeepC.grown (grownBy_putObj' (((w7.setCell ⟨G + 1, 0, none⟩ (.bool m5)).setCell ⟨G + 1, 1, none⟩ (.slice f1 l1 j1)).setCell ⟨G + 1, 2, none⟩ (.slice f2 l2 j2)) D (.deferred none)) (fun r e => by cases e; exact ⟨_, hK10, rfl⟩)
    obtain ⟨v0, v1, v2, _⟩ := (HR10.out.keepC kk).three
    refine ⟨.agg #[.bool m5, .slice f1 l1 j1, .slice f2 l2 j2], by simp [results, Tryz.f62, go_sem, v0, v1, v2], _, rfl, ?_, ?_⟩
    · exact (Q2.out.far HR9.out (by decide) (kept3 _ _ _)).keepC kk
    · exact (below_set3 (g := G + 1) (e4.trans (b7.mono (by omega))) (by omega) _ _ _).trans (belowK_b (n₀ := B) (w := w) (by omega) _ D _ _ (by omega) hK10 rfl rfl)
  case stop =>
    rintro D c pre X _ _ h _
    exact h.elim
set_option maxRecDepth 100000 in
set_option maxHeartbeats 4000000 in
theorem pad1_any {n : Nat} {w0 w : World} {vx : Value} {s xs : List Int} {qs : List Q3} {a b ad : Option Addr} {ca cb cap B : Nat} {gc gx m : Nat} {cuts : List Int} {ac : Option Addr} {cc : Nat} (T : TensQ w0 vx s qs a ca b cb) (h0 : mayT s qs = 0) (hl : lensQ qs n) (hn : n ≤ 100000000) (h0B : w0.heap.size ≤ B) (hBw : B ≤ w.heap.size) (h0w : Below w0.heap.size w0 w) (I : IdxP B w ad cap xs) (hcap : xs.length ≤ cap) (nd : ad = none → cap = 0) (hgx : Row w0 gx 26 #[.slice a s.length ca, .slice b qs.length cb]) (C : ArgS w0 (.slice ac cuts.length cc) cuts ac cc) (hgc : w0.cell? ⟨gc, 0, none⟩ = some (.slice ac cuts.length cc)) (hcl : cuts.length = 2 * m) (hxm : xs.length = m) (hm4 : m ≤ 4) :
    Calls Tryz.prog 65 #[.slice ad xs.length cap, .pointer (some ⟨gc, 0, none⟩), .pointer (some ⟨gx, 0, none⟩)] w fun e w' => ∃ r, e = .returned r ∧ ResQ B w' r (elV s (qs.map Q3.rat) ((List.range m).map fun i : Nat => IntKind.i64.wrap ((xs.getD i 0) - fstP cuts i))) (n + 2) ∧ Below B w w' := by
  have HT := Lib.hid T
  obtain rfl := T.is
  obtain ⟨G, hG⟩ : ∃ G, w.heap.size = G := ⟨_, rfl⟩
  obtain ⟨W, hW⟩ : ∃ W, (w.alloc (.cells #[.slice ad xs.length cap] 22)).alloc (.cells #[.bool false, .slice none 0 0, .slice none 0 0] 58) = W := ⟨_, rfl⟩
  have R0 : Row W G 22 #[.slice ad xs.length cap] := by rw [← hW, ← hG]; exact (Row.new _ _ _).alloc _
  have R1 : Row W (G + 1) 58 #[.bool false, .slice none 0 0, .slice none 0 0] := by rw [← hW, ← hG]; have h := Row.new (w.alloc (.cells #[.slice ad xs.length cap] 22)) 58 #[.bool false, .slice none 0 0, .slice none 0 0]; simp only [World.size_alloc] at h; exact h
  have hBW0 : Below w.heap.size w W := by rw [← hW]; exact ((Below.refl _ _).alloc (Nat.le_refl _) _).alloc (by simp) _
  have hBW : Below B w W := hBW0.mono hBw
  have hsW : W.heap.size = G + 1 + 1 := by rw [← hW, ← hG]; simp
  have h0W : Below w0.heap.size w0 W := h0w.trans (hBW.mono h0B)
  have k2 := (h0W.cell (World.block_lt_of_cell? _ _ hgc)).trans hgc
  have I1 := I.later hBW0
  have HCL := Lib.hid hcl
  have HCB : Hid (cuts ≠ [] → ∀ x, ac = some x → x.block < B) := Lib.hid (fun h1 x h2 => Nat.lt_of_lt_of_le (C.lim.lt h1 x h2) h0B)
  have hlim : LimS W ac cuts := C.lim.later h0W
  have HXM := Lib.hid hxm
  have HI := Lib.hid I
  have HL0 := Lib.hid hl
  have HND := Lib.hid nd
  have HGX := Lib.hid hgx
  rw [hxm] at hcap R0 hW ⊢
  have hc8 : cuts.length ≤ 8 := by omega
  clear T hgx hl nd C I hgc hcl hxm
  obtain ⟨n', hn'⟩ : ∃ n' : Nat, Hid (3 ≤ n') := ⟨3, Nat.le_refl 3⟩
  refine (callsIn_wide (n := n')).1 ?_
  refine callsIn_of_wp_marks Tryz.func65 rfl trivial ?_ rfl
  simp only [Tryz.ntmps65, List.size_toArray, List.length_cons, List.length_nil, Nat.reduceAdd, Nat.reduceSub, Array.replicate_succ, Array.replicate_zero, List.push_toArray, List.append_toArray, List.nil_append, List.cons_append]
  gi_wp2_with fail

  (try rw [hW])
  (try rw [hG])
  refine wideCallS ((pairs_any _ _ _ _).mono ?_)
  rintro e w' ⟨rfl, rfl⟩
  gi_wp2_with fail
  obtain ⟨V, hV⟩ : ∃ V, W.alloc (.cells #[.slice ac cuts.length cc] 22) = V := ⟨_, rfl⟩
  have sV : V.heap.size = G + 1 + 1 + 1 := by rw [← hV, World.size_alloc, hsW]
  have b4 : Below W.heap.size W V := by rw [← hV]; exact (Below.refl _ _).alloc (Nat.le_refl _) _
  have d4 : Boxed V (G + 1 + 1) 22 (.slice ac cuts.length cc) := by rw [← hV, ← hsW]; exact Boxed.new _ _ _
  have q0 := R0.later b4
  have q1 := R1.later b4
  have q2 := I1.later b4
  have hbV : Below B w V := hBW.trans (b4.mono (by omega))
  have hlimV : LimS V ac cuts := hlim.later b4
  (try rw [hsW])
  (try rw [hV])
  have h3 : 3 ≤ n' := hn'
  clear hV hW k2 R0 R1 I1 hBW0 hlim
  refine wpIn_rangeFunc_ownH (F := Fence.wide) (n := n') rfl (by omega) (gf := 95) (lb := #[.pointer (some ⟨G + 1 + 1, 0, none⟩)]) rfl trivial (enters_of Tryz.func95 (by kernel_rfl) rfl)
    (pairs_stops (n' - 1) (G + 1 + 1) (B) m ac cuts cc (by omega) HCL.out HCB.out V (by omega) d4.cell hlimV) KpS.trans (KpS.b (by omega) (by omega)) (Below.refl _ _) (fun _ => rfl)
    (fun (pre : List (Fin m)) X => IdxP B X ad cap (stpOf (fun i z => IntKind.i64.wrap (z - fstP cuts i)) xs (pre.map Fin.val)) ∧ Row X G 22 #[.slice ad m cap] ∧ Row X (G + 1) 58 #[.bool false, .slice none 0 0, .slice none 0 0] ∧ Below B w X ∧ G + 1 + 1 + 1 ≤ X.heap.size)
    (fun c pre X => False)
    (fun pre X Y row ⟨e1, e2, e3, e4, e5⟩ hg hr => have kk := KeepC.grown hg (fun r e => (hr r e).2); ⟨e1.keepC kk, e2.keepC kk, e3.keepC kk, e4.grown hg (by have := e4.size; omega) (fun k e => by have := (hr k e).1; omega), Nat.le_trans e5 hg.size⟩)
    (fun _ _ _ _ _ hs _ _ => hs)
    ⟨q2, q0, q1, hbV, by omega⟩
    (fun (x : Fin m) a' X => ∃ p, G + 1 + 1 + 1 ≤ p ∧ Row X p 89 #[.int .i64 (cuts[2 * x.val]?.getD 0), .int .i64 (cuts[2 * x.val + 1]?.getD 0)] ∧
      a' = { tmps := #[.slice ad m cap, .pointer (some ⟨gc, 0, none⟩), .pointer (some ⟨gx, 0, none⟩), .pointer (some ⟨G, 0, none⟩), .pointer (some ⟨G + 1, 0, none⟩), .int .i64 (x.val : Int), .pointer (some ⟨p, 0, none⟩), .slice ac cuts.length cc, .func (.func 95) #[] #[.pointer (some ⟨G + 1 + 1, 0, none⟩)], .int .i64 (x.val : Int), .agg #[.int .i64 (cuts[2 * x.val]?.getD 0), .int .i64 (cuts[2 * x.val + 1]?.getD 0)], undef, undef, undef, undef, undef, undef, undef, undef, undef, undef, undef], defers := [] })
    (fun x a' _ X Y row ⟨p, h1, h2, h3⟩ hg hr => ⟨p, h1, h2.keepC (KeepC.grown hg (fun r e => (hr r e).2)), h3⟩)
    ?assign ?body ?done ?stop
  case assign =>
    rintro l pre ⟨k, hk⟩ X K ⟨e1, e2, e3, e4, hsI⟩ hK
    obtain ⟨z0, hz0⟩ : ∃ z0, cuts[2 * k]?.getD 0 = z0 := ⟨_, rfl⟩
    obtain ⟨z1, hz1⟩ : ∃ z1, cuts[2 * k + 1]?.getD 0 = z1 := ⟨_, rfl⟩
    have hbX : Below X.heap.size X (X.alloc (.cells #[.int .i64 z0, .int .i64 z1] 89)) := (Below.refl _ _).alloc (Nat.le_refl _) _
    have kk := KeepC.below hbX
    have HK := Lib.hid hK
    have HZ0 := Lib.hid hz0
    have HZ1 := Lib.hid hz1
    simp only [pairV]
    rw [hz0, hz1]
    clear hK hz0 hz1
    gi_wp2
    refine HK.out _ _ ⟨by simp, fun q o _ ho _ => (Below.heap_alloc _ _ _ (lt_of_block ho)).trans ho⟩ ⟨hbX.mono (by omega), Below.heap_alloc _ _ _ (by omega)⟩ ⟨e1.keepC kk, e2.keepC kk, e3.keepC kk, e4.trans (hbX.mono (by have := e4.size; omega)), by simp; omega⟩ ⟨X.heap.size, hsI, ?_, ?_⟩
    · simp only [HZ0.out, HZ1.out]; exact Row.new _ _ _
    · simp only [HZ0.out, HZ1.out]
  case body =>
    rintro l pre ⟨k, hk⟩ a' X hl hrec ⟨e1, e2, e3, e4, hsI⟩ ⟨p, hp, hR, rfl⟩ hlt
    simp only at hR ⊢
    have hln := stpOf_len (fun i z => IntKind.i64.wrap (z - fstP cuts i)) xs (pre.map Fin.val)
    obtain ⟨zs, hzs⟩ : ∃ zs, stpOf (fun i z => IntKind.i64.wrap (z - fstP cuts i)) xs (pre.map Fin.val) = zs := ⟨_, rfl⟩
    rw [hzs] at e1 hln
    have hnx : stpOf (fun i z => IntKind.i64.wrap (z - fstP cuts i)) xs (pre.map Fin.val ++ [k]) = zs.set k (IntKind.i64.wrap ((zs.getD k 0) - fstP cuts k)) := by rw [stpOf_snoc, hzs]; rfl
    obtain ⟨z0, hz0⟩ : ∃ z0, cuts[2 * k]?.getD 0 = z0 := ⟨_, rfl⟩
    obtain ⟨z1, hz1⟩ : ∃ z1, cuts[2 * k + 1]?.getD 0 = z1 := ⟨_, rfl⟩
    have hf0 : fstP cuts k = z0 := hz0
    rw [hf0] at hnx
    rw [hz0, hz1] at hR
    rw [hz0, hz1]
    obtain ⟨g, rfl, hgB, hmx, hP⟩ := e1.at (i := k) (by rw [hln, HXM.out]; exact hk)
    have hgl := hP.lt
    have hc := hP.cell k (by rw [hln, HXM.out]; exact hk)
    obtain ⟨z, hz⟩ : ∃ z, zs.getD k 0 = z := ⟨_, rfl⟩
    rw [hz] at hc hnx
    obtain ⟨y, hy⟩ : ∃ y, IntKind.i64.wrap (z - z0) = y := ⟨_, rfl⟩
    rw [hy] at hnx
    have HNX := Lib.hid hnx
    have HZS := Lib.hid hzs
    have ci := e2.cell 0
    have cp0 := hR.cell 0
    have hkI : (k : Int) < (m : Int) := by omega
    have hgG : g < G := by have := HI.out.lt; omega
    have hS0 : X.drew.cell? ⟨G, 0, none⟩ = some (.slice (some ⟨g, 0, none⟩) m cap) ∧ X.drew.cell? ⟨g, k, none⟩ = some (.int .i64 z) ∧ X.drew.cell? ⟨p, 0, none⟩ = some (.int .i64 z0) := ⟨ci, hc, cp0⟩
    have b0 : Below X.heap.size X X.drew := (Below.refl _ X).drew
    have hf := hP.free k
    have HP := Lib.hid hP
    clear hnx hzs hz0 hz1 hf0 ci cp0 hc e1 hP hz
    refine wpIn_block ?_
    refine region_roundL (fun Y => Y.cell? ⟨G, 0, none⟩ = some (.slice (some ⟨g, 0, none⟩) m cap) ∧ Y.cell? ⟨g, k, none⟩ = some (.int .i64 z) ∧ Y.cell? ⟨p, 0, none⟩ = some (.int .i64 z0)) 8
      (by kernel_rfl) (by kernel_rfl) (by rintro ⟨a', w', h⟩; exact h) hS0 (fun hHeld => ?_)
    refine wpAnyL_take (i := 0) (v := ?va0) rfl (by kernel_rfl) (by kernel_rfl) (by kernel_rfl) (by kernel_rfl) (fun _ _ _ h => h) (Or.inl ⟨by rfl, ?ha0⟩) (by assumption) ?ra0
    case ha0 =>
      intro w hSw
      try dsimp only at hSw
      go_simp
      try with_reducible rfl
    try simp only [Act.put, List.setIfInBounds_toArray, List.set_cons_zero, List.set_cons_succ]
    refine wpAnyL_take (i := 1) (v := ?va1) rfl (by kernel_rfl) (by kernel_rfl) (by kernel_rfl) (by kernel_rfl) (fun _ _ _ h => h) (Or.inl ⟨by rfl, ?ha1⟩) (by assumption) ?ra1
    case ha1 =>
      intro w hSw
      try dsimp only at hSw
      go_simp
      try with_reducible rfl
    try simp only [Act.put, List.setIfInBounds_toArray, List.set_cons_zero, List.set_cons_succ]
    refine wpAnyL_take (i := 2) (v := ?va2) rfl (by kernel_rfl) (by kernel_rfl) (by kernel_rfl) (by kernel_rfl) (fun _ _ _ h => h) (Or.inl ⟨by rfl, ?ha2⟩) (by assumption) ?ra2
    case ha2 =>
      intro w hSw
      try dsimp only at hSw
      go_simp
      try with_reducible rfl
    try simp only [Act.put, List.setIfInBounds_toArray, List.set_cons_zero, List.set_cons_succ]
    refine wpAnyL_take (i := 3) (v := ?va3) rfl (by kernel_rfl) (by kernel_rfl) (by kernel_rfl) (by kernel_rfl) (fun _ _ _ h => h) (Or.inl ⟨by rfl, ?ha3⟩) (by assumption) ?ra3
    case ha3 =>
      intro w hSw
      try dsimp only at hSw
      go_simp
      try with_reducible rfl
    try simp only [Act.put, List.setIfInBounds_toArray, List.set_cons_zero, List.set_cons_succ]
    refine wpAnyL_take (i := 4) (v := ?va4) rfl (by kernel_rfl) (by kernel_rfl) (by kernel_rfl) (by kernel_rfl) (fun _ _ _ h => h) (Or.inl ⟨by rfl, ?ha4⟩) (by assumption) ?ra4
    case ha4 =>
      intro w hSw
      try dsimp only at hSw
      go_simp
      try with_reducible rfl
    try simp only [Act.put, List.setIfInBounds_toArray, List.set_cons_zero, List.set_cons_succ]
    refine wpAnyL_take (i := 5) (v := ?va5) rfl (by kernel_rfl) (by kernel_rfl) (by kernel_rfl) (by kernel_rfl) (fun _ _ _ h => h) (Or.inl ⟨by rfl, ?ha5⟩) (by assumption) ?ra5
    case ha5 =>
      intro w hSw
      try dsimp only at hSw
      go_simp
      try with_reducible rfl
    try simp only [Act.put, List.setIfInBounds_toArray, List.set_cons_zero, List.set_cons_succ]
    refine wpAnyL_take (i := 6) (v := ?va6) rfl (by kernel_rfl) (by kernel_rfl) (by kernel_rfl) (by kernel_rfl) (fun _ _ _ h => h) (Or.inl ⟨by rfl, ?ha6⟩) (by assumption) ?ra6
    case ha6 =>
      intro w hSw
      try dsimp only at hSw
      go_simp
      try with_reducible rfl
    try simp only [Act.put, List.setIfInBounds_toArray, List.set_cons_zero, List.set_cons_succ]
    refine wpAnyL_take (i := 7) (v := ?va7) rfl (by kernel_rfl) (by kernel_rfl) (by kernel_rfl) (by kernel_rfl) (fun _ _ _ h => h) (Or.inl ⟨by rfl, ?ha7⟩) (by assumption) ?ra7
    case ha7 =>
      intro w hSw
      try dsimp only at hSw
      go_simp
      try with_reducible rfl
    try simp only [Act.put, List.setIfInBounds_toArray, List.set_cons_zero, List.set_cons_succ]
    have hfd : X.drew.frozen? ⟨g, k, none⟩ = false := hf
    refine wpAnyL_one (i := 8) (by kernel_rfl) rfl (fun K hK => ?sb8)
    go_simp
    refine hK.out _ _ (fun h => absurd rfl h) (fun _ => ?mb8)
    clear hK K
    try simp only [Act.put, List.setIfInBounds_toArray, List.set_cons_zero, List.set_cons_succ]
    refine wpAnyL_done (by kernel_rfl) ?_ _
    refine ⟨keepsFrom_set (keepsFrom_below b0) _ _, ⟨setBelow (b0.mono (by omega)) hgB _ _, Below.heap_setCell _ _ _ _ (by show G + 1 + 1 ≠ g; omega)⟩, ?_, e2.far (by show G ≠ g; omega) _, e3.far (by show G + 1 ≠ g; omega) _, setBelow (e4.trans (b0.mono (by omega))) hgB _ _, Nat.le_trans hsI (setBelow (B := 0) (b0.mono (Nat.zero_le _)) (Nat.zero_le g) k (.int .i64 y)).size⟩
    rw [List.map_append, List.map_cons, List.map_nil, HNX.out]
    exact .inr ⟨g, rfl, hgB, hmx, PartS.set (show PartS X.drew g cap zs from HP.out) k (by rw [hln, HXM.out]; exact hk) y⟩
  case done =>
    rintro D ks X hD hup ⟨e1, e2, e3, e4, hsI⟩ hK
    rw [show ks.map Fin.val = List.range m from hup, stpOf_all _ HXM.out] at e1
    obtain ⟨zs, hzs⟩ : ∃ zs, ((List.range m).map fun i : Nat => IntKind.i64.wrap ((xs.getD i 0) - fstP cuts i)) = zs := ⟨_, rfl⟩
    rw [hzs] at e1
    have hzl : zs.length = m := by rw [← hzs]; simp
    have hw : Wid zs := by rw [← hzs]; exact Wid.map_range fun i _ => wrap_range _
    have AZ := e1.arg (by rw [hzl]; exact hcap) hw
    rw [hzl] at AZ
    have h0X : Below w0.heap.size w0 X := h0w.trans (e4.mono h0B)
    have he := element_any (HT.out.later h0X) h0 AZ HND.out (by rw [hzl]; omega) HL0.out hn
    have hgr := HGX.out.later h0X
    obtain ⟨y0, y1, _, _⟩ := hgr.two
    have ci := e2.cell 0
    have hDlt := lt_of_block hK
    have hsX := e4.size
    rw [← hzs] at he
    clear AZ hzs
    gi_wp2_with fail
    refine wideCallS (he.mono ?_)
    rintro e w7 ⟨r, rfl, qv, b7⟩
    have Q2 := Lib.hid (qv.mono (show B ≤ X.heap.size by omega))
    obtain ⟨m5, f1, l1, j1, f2, l2, j2, rfl⟩ := qv.shape
    clear qv
    have P2 := e3.later b7
    obtain ⟨u0, u1, u2, g0, g1, g2⟩ := P2.three
    have P3 := P2.set3 (.bool m5) (.slice f1 l1 j1) (.slice f2 l2 j2)
    have hK9 : w7.heap[D]? = some (.deferred (some [])) := (b7.block D hDlt).trans hK
    have hK10 : (((w7.setCell ⟨G + 1, 0, none⟩ (.bool m5)).setCell ⟨G + 1, 1, none⟩ (.slice f1 l1 j1)).setCell ⟨G + 1, 2, none⟩ (.slice f2 l2 j2)).heap[D]? = some (.deferred (some [])) := (kept3 _ _ _ D (by omega)).trans hK9
    have HR9 := Lib.hid P2
    have HR10 := Lib.hid P3
    clear P2 P3
    gi_wp2
    refine ⟨by simp, .inl ⟨_, _, rfl, run_takeDeferred hK10, ?_⟩⟩
    have kk := KeepC.grown (grownBy_putObj' (((w7.setCell ⟨G + 1, 0, none⟩ (.bool m5)).setCell ⟨G + 1, 1, none⟩ (.slice f1 l1 j1)).setCell ⟨G + 1, 2, none⟩ (.slice f2 l2 j2)) D (.deferred none)) (fun r e => by cases e; exact ⟨_, hK10, rfl⟩)
    obtain ⟨v0, v1, v2, _⟩ := (HR10.out.keepC kk).three
    refine ⟨.agg #[.bool m5, .slice f1 l1 j1, .slice f2 l2 j2], by simp [results, Tryz.f65, go_sem, v0, v1, v2], _, rfl, ?_, ?_⟩
    · exact (Q2.out.far HR9.out (by decide) (kept3 _ _ _)).keepC kk
    · exact (below_set3 (g := G + 1) (e4.trans (b7.mono (by omega))) (by omega) _ _ _).trans (belowK_b (n₀ := B) (w := w) (by omega) _ D _ _ (by omega) hK10 rfl rfl)
  case stop =>
    rintro D c pre X _ _ h _
    exact h.elim
end
section
open Go.RowKit Go.Shelf
attribute [local go_sem] Oper.semAt_some
set_option linter.unusedVariables false
set_option linter.unusedSimpArgs false
/-- the shape that padded makes, whatever shape it is given -/
def padF (pads : List Int) (i : Nat) (z : Int) : Int := IntKind.i64.wrap (z + IntKind.i64.wrap (min (fstP pads i) 1024 + min (sndP pads i) 1024))
def pdW (s pads : List Int) : List Int := (List.range s.length).map fun i : Nat => padF pads i (s.getD i 0)
set_option maxRecDepth 100000 in
set_option maxHeartbeats 4000000 in
theorem padded_any {w : World} {s pads : List Int} {a ap : Option Addr} {ca cp : Nat} (A : ArgS w (.slice a s.length ca) s a ca) (na : a = none → ca = 0) (P : ArgS w (.slice ap pads.length cp) pads ap cp) (hcl : pads.length = 2 * s.length) (hs : s.length ≤ 8000000000000) :
    Calls Tryz.prog 64 #[.slice a s.length ca, .slice ap pads.length cp] w fun e w' => ∃ r, e = .returned r ∧ ResS w.heap.size w' r (pdW s pads) ∧ Below w.heap.size w w' := by
  obtain ⟨B, hB⟩ : ∃ B, w.heap.size = B := ⟨_, rfl⟩
  obtain ⟨m, hm⟩ : ∃ m, s.length = m := ⟨_, rfl⟩
  have hcln := cloneS_any A na (by omega)
  have HCL : Hid (pads.length = 2 * m) := Lib.hid (by rw [← hm]; exact hcl)
  have HCB : Hid (pads ≠ [] → ∀ x, ap = some x → x.block < w.heap.size) := Lib.hid (fun h1 x h2 => P.lim.lt h1 x h2)
  have hlim : LimS w ap pads := P.lim
  have HM := Lib.hid hm
  have hpd : pdW s pads = (List.range m).map fun i : Nat => padF pads i (s.getD i 0) := by unfold pdW; rw [hm]
  have HPD := Lib.hid hpd
  have hc8 : pads.length ≤ 17592186044416 := by omega
  rw [hm] at hcln hs ⊢
  rw [hB] at hcln ⊢
  rw [hpd]
  clear A P hcl na hm hpd
  obtain ⟨n', hn'⟩ : ∃ n' : Nat, Hid (3 ≤ n') := ⟨3, Nat.le_refl 3⟩
  refine (callsIn_wide (n := n')).1 ?_
  refine callsIn_of_wp_marks Tryz.func64 rfl trivial ?_ rfl
  simp only [Tryz.ntmps64, List.size_toArray, List.length_cons, List.length_nil, Nat.reduceAdd, Nat.reduceSub, Array.replicate_succ, Array.replicate_zero, List.push_toArray, List.append_toArray, List.nil_append, List.cons_append]
  gi_wp2_with fail
  refine wideCallS (hcln.mono ?_)
  rintro e w1 ⟨r, rfl, R, hb1⟩
  have s1 := hb1.size
  obtain ⟨ad, cap, rfl, I1, hcap, nd, hwid⟩ := R.idx
  obtain ⟨G, hG⟩ : ∃ G, w1.heap.size = G := ⟨_, rfl⟩
  rw [HM.out] at hcap
  obtain ⟨W, hW⟩ : ∃ W, w1.alloc (.cells #[.slice ad m cap] 23) = W := ⟨_, rfl⟩
  have R0 : Row W G 23 #[.slice ad m cap] := by rw [← hW, ← hG]; exact Row.new _ _ _
  have b2 : Below w1.heap.size w1 W := by rw [← hW]; exact (Below.refl _ _).alloc (Nat.le_refl _) _
  have hsW : W.heap.size = G + 1 := by rw [← hW, ← hG]; simp
  have HI := Lib.hid I1
  have hbW : Below B w W := hb1.trans (b2.mono (by omega))
  rw [HM.out]
  gi_wp2_with fail
  (try rw [hW])
  (try rw [hG])
  refine wideCallS ((pairs_any _ _ _ _).mono ?_)
  rintro e w' ⟨rfl, rfl⟩
  gi_wp2_with fail
  obtain ⟨V, hV⟩ : ∃ V, W.alloc (.cells #[.slice ap pads.length cp] 22) = V := ⟨_, rfl⟩
  have sV : V.heap.size = G + 1 + 1 := by rw [← hV, World.size_alloc, hsW]
  have b4 : Below W.heap.size W V := by rw [← hV]; exact (Below.refl _ _).alloc (Nat.le_refl _) _
  have d4 : Boxed V (G + 1) 22 (.slice ap pads.length cp) := by rw [← hV, ← hsW]; exact Boxed.new _ _ _
  have q0 := R0.later b4
  have q2 := (I1.later b2).later b4
  have hbV : Below B w V := hbW.trans (b4.mono (by omega))
  have hlimV : LimS V ap pads := hlim.later (hB ▸ hbV)
  (try rw [hsW])
  (try rw [hV])
  have h3 : 3 ≤ n' := hn'
  clear hV hW R0 I1 hlim R b2 hcln
  refine wpIn_rangeFunc_ownH (F := Fence.wide) (n := n') rfl (by omega) (gf := 95) (lb := #[.pointer (some ⟨G + 1, 0, none⟩)]) rfl trivial (enters_of Tryz.func95 (by kernel_rfl) rfl)
    (pairs_stops (n' - 1) (G + 1) (w.heap.size) m ap pads cp (by omega) HCL.out HCB.out V (by omega) d4.cell hlimV) KpS.trans (KpS.b (by omega) (by omega)) (Below.refl _ _) (fun _ => rfl)
    (fun (pre : List (Fin m)) X => IdxP B X ad cap (stpOf (padF pads) s (pre.map Fin.val)) ∧ Row X G 23 #[.slice ad m cap] ∧ Below B w X ∧ G + 1 + 1 ≤ X.heap.size)
    (fun c pre X => False)
    (fun pre X Y row ⟨e1, e2, e4, e5⟩ hg hr => have kk := KeepC.grown hg (fun r e => (hr r e).2); ⟨e1.keepC kk, e2.keepC kk, e4.grown hg (by have := e4.size; omega) (fun k e => by have := (hr k e).1; omega), Nat.le_trans e5 hg.size⟩)
    (fun _ _ _ _ _ hs _ _ => hs)
    ⟨q2, q0, hbV, by omega⟩
    (fun (x : Fin m) a' X => ∃ p, G + 1 + 1 ≤ p ∧ Row X p 89 #[.int .i64 (pads[2 * x.val]?.getD 0), .int .i64 (pads[2 * x.val + 1]?.getD 0)] ∧
      a' = { tmps := #[.slice a m ca, .slice ap pads.length cp, undef, undef, .slice none 0 0, .pointer (some ⟨G, 0, none⟩), .int .i64 (x.val : Int), .pointer (some ⟨p, 0, none⟩), .slice a m ca, .slice ad m cap, .slice ap pads.length cp, .func (.func 95) #[] #[.pointer (some ⟨G + 1, 0, none⟩)], .int .i64 (x.val : Int), .agg #[.int .i64 (pads[2 * x.val]?.getD 0), .int .i64 (pads[2 * x.val + 1]?.getD 0)], undef, undef, undef, undef, undef, undef, undef, undef, undef, undef, undef, undef, undef, undef], defers := [] })
    (fun x a' _ X Y row ⟨p, h1, h2, h3⟩ hg hr => ⟨p, h1, h2.keepC (KeepC.grown hg (fun r e => (hr r e).2)), h3⟩)
    ?assign ?body ?done ?stop
  case assign =>
    rintro l pre ⟨k, hk⟩ X K ⟨e1, e2, e4, hsI⟩ hK
    obtain ⟨z0, hz0⟩ : ∃ z0, pads[2 * k]?.getD 0 = z0 := ⟨_, rfl⟩
    obtain ⟨z1, hz1⟩ : ∃ z1, pads[2 * k + 1]?.getD 0 = z1 := ⟨_, rfl⟩
    have hbX : Below X.heap.size X (X.alloc (.cells #[.int .i64 z0, .int .i64 z1] 89)) := (Below.refl _ _).alloc (Nat.le_refl _) _
    have kk := KeepC.below hbX
    have HK := Lib.hid hK
    have HZ0 := Lib.hid hz0
    have HZ1 := Lib.hid hz1
    simp only [pairV]
    rw [hz0, hz1]
    clear hK hz0 hz1
    gi_wp2
    refine HK.out _ _ ⟨by simp, fun q o _ ho _ => (Below.heap_alloc _ _ _ (lt_of_block ho)).trans ho⟩ ⟨hbX.mono (by omega), Below.heap_alloc _ _ _ (by omega)⟩ ⟨e1.keepC kk, e2.keepC kk, e4.trans (hbX.mono (by have := e4.size; omega)), by simp; omega⟩ ⟨X.heap.size, hsI, ?_, ?_⟩
    · simp only [HZ0.out, HZ1.out]; exact Row.new _ _ _
    · simp only [HZ0.out, HZ1.out]
  case body =>
    rintro l pre ⟨k, hk⟩ a' X hl hrec ⟨e1, e2, e4, hsI⟩ ⟨p, hp, hR, rfl⟩ hlt
    simp only at hR ⊢
    have hln := stpOf_len (padF pads) s (pre.map Fin.val)
    obtain ⟨zs, hzs⟩ : ∃ zs, stpOf (padF pads) s (pre.map Fin.val) = zs := ⟨_, rfl⟩
    rw [hzs] at e1 hln
    have hnx : stpOf (padF pads) s (pre.map Fin.val ++ [k]) = zs.set k (IntKind.i64.wrap (zs.getD k 0 + IntKind.i64.wrap (min (fstP pads k) 1024 + min (sndP pads k) 1024))) := by rw [stpOf_snoc, hzs]; rfl
    obtain ⟨z0, hz0⟩ : ∃ z0, pads[2 * k]?.getD 0 = z0 := ⟨_, rfl⟩
    obtain ⟨z1, hz1⟩ : ∃ z1, pads[2 * k + 1]?.getD 0 = z1 := ⟨_, rfl⟩
    have hf0 : fstP pads k = z0 := hz0
    have hf1 : sndP pads k = z1 := hz1
    rw [hf0, hf1] at hnx
    rw [hz0, hz1] at hR
    rw [hz0, hz1]
    obtain ⟨g, rfl, hgB, hmx, hP⟩ := e1.at (i := k) (by rw [hln, HM.out]; exact hk)
    have hgl := hP.lt
    have hc := hP.cell k (by rw [hln, HM.out]; exact hk)
    obtain ⟨z, hz⟩ : ∃ z, zs.getD k 0 = z := ⟨_, rfl⟩
    rw [hz] at hc hnx
    obtain ⟨y, hy⟩ : ∃ y, IntKind.i64.wrap (z + IntKind.i64.wrap (min z0 1024 + min z1 1024)) = y := ⟨_, rfl⟩
    rw [hy] at hnx
    have HNX := Lib.hid hnx
    have HZS := Lib.hid hzs
    have ci := e2.cell 0
    have cp0 := hR.cell 0
    have cp1 := hR.cell 1
    have hkI : (k : Int) < (m : Int) := by omega
    have hgG : g < G := by have := HI.out.lt; omega
    have hS0 : X.drew.cell? ⟨G, 0, none⟩ = some (.slice (some ⟨g, 0, none⟩) m cap) ∧ X.drew.cell? ⟨g, k, none⟩ = some (.int .i64 z) ∧ X.drew.cell? ⟨p, 0, none⟩ = some (.int .i64 z0) ∧ X.drew.cell? ⟨p, 1, none⟩ = some (.int .i64 z1) := ⟨ci, hc, cp0, cp1⟩
    have b0 : Below X.heap.size X X.drew := (Below.refl _ X).drew
    have hf := hP.free k
    have HP := Lib.hid hP
    clear hnx hzs hz0 hz1 hf0 hf1 ci cp0 cp1 hc e1 hP hz
    refine wpIn_block ?_
    refine region_roundL (fun Y => Y.cell? ⟨G, 0, none⟩ = some (.slice (some ⟨g, 0, none⟩) m cap) ∧ Y.cell? ⟨g, k, none⟩ = some (.int .i64 z) ∧ Y.cell? ⟨p, 0, none⟩ = some (.int .i64 z0) ∧ Y.cell? ⟨p, 1, none⟩ = some (.int .i64 z1)) 13
      (by kernel_rfl) (by kernel_rfl) (by rintro ⟨a', w', h⟩; exact h) hS0 (fun hHeld => ?_)
    refine wpAnyL_take (i := 0) (v := ?va0) rfl (by kernel_rfl) (by kernel_rfl) (by kernel_rfl) (by kernel_rfl) (fun _ _ _ h => h) (Or.inl ⟨by rfl, ?ha0⟩) (by assumption) ?ra0
    case ha0 =>
      intro w hSw
      try dsimp only at hSw
      go_simp
      try with_reducible rfl
    try simp only [Act.put, List.setIfInBounds_toArray, List.set_cons_zero, List.set_cons_succ]
    refine wpAnyL_take (i := 1) (v := ?va1) rfl (by kernel_rfl) (by kernel_rfl) (by kernel_rfl) (by kernel_rfl) (fun _ _ _ h => h) (Or.inl ⟨by rfl, ?ha1⟩) (by assumption) ?ra1
    case ha1 =>
      intro w hSw
      try dsimp only at hSw
      go_simp
      try with_reducible rfl
    try simp only [Act.put, List.setIfInBounds_toArray, List.set_cons_zero, List.set_cons_succ]
    refine wpAnyL_take (i := 2) (v := ?va2) rfl (by kernel_rfl) (by kernel_rfl) (by kernel_rfl) (by kernel_rfl) (fun _ _ _ h => h) (Or.inl ⟨by rfl, ?ha2⟩) (by assumption) ?ra2
    case ha2 =>
      intro w hSw
      try dsimp only at hSw
      go_simp
      try with_reducible rfl
    try simp only [Act.put, List.setIfInBounds_toArray, List.set_cons_zero, List.set_cons_succ]
    refine wpAnyL_take (i := 3) (v := ?va3) rfl (by kernel_rfl) (by kernel_rfl) (by kernel_rfl) (by kernel_rfl) (fun _ _ _ h => h) (Or.inl ⟨by rfl, ?ha3⟩) (by assumption) ?ra3
    case ha3 =>
      intro w hSw
      try dsimp only at hSw
      go_simp
      try with_reducible rfl
    try simp only [Act.put, List.setIfInBounds_toArray, List.set_cons_zero, List.set_cons_succ]
    refine wpAnyL_take (i := 4) (v := ?va4) rfl (by kernel_rfl) (by kernel_rfl) (by kernel_rfl) (by kernel_rfl) (fun _ _ _ h => h) (Or.inl ⟨by rfl, ?ha4⟩) (by assumption) ?ra4
    case ha4 =>
      intro w hSw
      try dsimp only at hSw
      go_simp
      try with_reducible rfl
    try simp only [Act.put, List.setIfInBounds_toArray, List.set_cons_zero, List.set_cons_succ]
    refine wpAnyL_take (i := 5) (v := ?va5) rfl (by kernel_rfl) (by kernel_rfl) (by kernel_rfl) (by kernel_rfl) (fun _ _ _ h => h) (Or.inl ⟨by rfl, ?ha5⟩) (by assumption) ?ra5
    case ha5 =>
      intro w hSw
      try dsimp only at hSw
      go_simp
      try with_reducible rfl
    try simp only [Act.put, List.setIfInBounds_toArray, List.set_cons_zero, List.set_cons_succ]
    refine wpAnyL_take (i := 6) (v := ?va6) rfl (by kernel_rfl) (by kernel_rfl) (by kernel_rfl) (by kernel_rfl) (fun _ _ _ h => h) (Or.inl ⟨by rfl, ?ha6⟩) (by assumption) ?ra6
    case ha6 =>
      intro w hSw
      try dsimp only at hSw
      go_simp
      try with_reducible rfl
    try simp only [Act.put, List.setIfInBounds_toArray, List.set_cons_zero, List.set_cons_succ]
    refine wpAnyL_take (i := 7) (v := ?va7) rfl (by kernel_rfl) (by kernel_rfl) (by kernel_rfl) (by kernel_rfl) (fun _ _ _ h => h) (Or.inl ⟨by rfl, ?ha7⟩) (by assumption) ?ra7
    case ha7 =>
      intro w hSw
      try dsimp only at hSw
      go_simp
      try with_reducible rfl
    try simp only [Act.put, List.setIfInBounds_toArray, List.set_cons_zero, List.set_cons_succ]
    refine wpAnyL_take (i := 8) (v := ?va8) rfl (by kernel_rfl) (by kernel_rfl) (by kernel_rfl) (by kernel_rfl) (fun _ _ _ h => h) (Or.inl ⟨by rfl, ?ha8⟩) (by assumption) ?ra8
    case ha8 =>
      intro w hSw
      try dsimp only at hSw
      go_simp
      try with_reducible rfl
    try simp only [Act.put, List.setIfInBounds_toArray, List.set_cons_zero, List.set_cons_succ]
    refine wpAnyL_take (i := 9) (v := ?va9) rfl (by kernel_rfl) (by kernel_rfl) (by kernel_rfl) (by kernel_rfl) (fun _ _ _ h => h) (Or.inl ⟨by rfl, ?ha9⟩) (by assumption) ?ra9
    case ha9 =>
      intro w hSw
      try dsimp only at hSw
      go_simp
      try with_reducible rfl
    try simp only [Act.put, List.setIfInBounds_toArray, List.set_cons_zero, List.set_cons_succ]
    refine wpAnyL_take (i := 10) (v := ?va10) rfl (by kernel_rfl) (by kernel_rfl) (by kernel_rfl) (by kernel_rfl) (fun _ _ _ h => h) (Or.inl ⟨by rfl, ?ha10⟩) (by assumption) ?ra10
    case ha10 =>
      intro w hSw
      try dsimp only at hSw
      go_simp
      try with_reducible rfl
    try simp only [Act.put, List.setIfInBounds_toArray, List.set_cons_zero, List.set_cons_succ]
    refine wpAnyL_take (i := 11) (v := ?va11) rfl (by kernel_rfl) (by kernel_rfl) (by kernel_rfl) (by kernel_rfl) (fun _ _ _ h => h) (Or.inl ⟨by rfl, ?ha11⟩) (by assumption) ?ra11
    case ha11 =>
      intro w hSw
      try dsimp only at hSw
      go_simp
      try with_reducible rfl
    try simp only [Act.put, List.setIfInBounds_toArray, List.set_cons_zero, List.set_cons_succ]
    refine wpAnyL_take (i := 12) (v := ?va12) rfl (by kernel_rfl) (by kernel_rfl) (by kernel_rfl) (by kernel_rfl) (fun _ _ _ h => h) (Or.inl ⟨by rfl, ?ha12⟩) (by assumption) ?ra12
    case ha12 =>
      intro w hSw
      try dsimp only at hSw
      go_simp
      try with_reducible rfl
    try simp only [Act.put, List.setIfInBounds_toArray, List.set_cons_zero, List.set_cons_succ]
    have hfd : X.drew.frozen? ⟨g, k, none⟩ = false := hf
    refine wpAnyL_one (i := 13) (by kernel_rfl) rfl (fun K hK => ?sb13)
    go_simp
    (try rw [hy])
    refine hK.out _ _ (fun h => absurd rfl h) (fun _ => ?mb13)
    clear hK K
    try simp only [Act.put, List.setIfInBounds_toArray, List.set_cons_zero, List.set_cons_succ]
    refine wpAnyL_done (by kernel_rfl) ?_ _
    refine ⟨keepsFrom_set (keepsFrom_below b0) _ _, ⟨setBelow (b0.mono (by omega)) (by omega) _ _, Below.heap_setCell _ _ _ _ (by show G + 1 ≠ g; omega)⟩, ?_, e2.far (by show G ≠ g; omega) _, setBelow (e4.trans (b0.mono (by omega))) hgB _ _, Nat.le_trans hsI (setBelow (B := 0) (b0.mono (Nat.zero_le _)) (Nat.zero_le g) k (.int .i64 y)).size⟩
    rw [List.map_append, List.map_cons, List.map_nil, HNX.out]
    exact .inr ⟨g, rfl, hgB, hmx, PartS.set (show PartS X.drew g cap zs from HP.out) k (by rw [hln, HM.out]; exact hk) y⟩
  case done =>
    rintro D ks X hD hup ⟨e1, e2, e4, hsI⟩ hK
    rw [show ks.map Fin.val = List.range m from hup, stpOf_all _ HM.out] at e1
    have hw : Wid ((List.range m).map fun i : Nat => padF pads i (s.getD i 0)) := Wid.map_range fun i _ => wrap_range _
    have AZ := e1.res hw
    rw [List.length_map, List.length_range] at AZ
    have ci := e2.cell 0
    gi_wp2
    refine ⟨by simp, .inl ⟨_, _, rfl, run_takeDeferred hK, ?_⟩⟩
    have kk := KeepC.grown (grownBy_putObj' X D (.deferred none)) (fun r e => by cases e; exact ⟨_, hK, rfl⟩)
    refine ⟨_, results_tmp rfl _ _ _, _, rfl, ?_, e4.trans (belowK_b (n₀ := B) (w := w) (by omega) X D _ _ (by omega) hK rfl rfl)⟩
    exact (show ResS B _ (.slice ad m cap) _ from AZ.keepC kk)
  case stop =>
    rintro D c pre X _ _ h _
    exact h.elim
/-- what mayPads answers, whatever shape it is given -/
def pdCW (s pads : List Int) : Int :=
  if pads.length ≠ 2 * s.length then 11 else if ∃ i, i < s.length ∧ badPad pads i then 11 else mayC (pdW s pads)
theorem pdCW_bad {s pads : List Int} {i : Nat} (hi : i < s.length) (h : badPad pads i) : pdCW s pads = 11 := by
  unfold pdCW
  split
  · rfl
  · rw [if_pos ⟨i, hi, h⟩]
theorem pdCW_good {s pads : List Int} (hl : pads.length = 2 * s.length) (hg : ∀ i, i < s.length → ¬ badPad pads i) : pdCW s pads = mayC (pdW s pads) := by
  unfold pdCW
  rw [if_neg (by omega), if_neg (fun ⟨j, hj, hb⟩ => hg j hj hb)]
set_option maxRecDepth 100000 in
set_option maxHeartbeats 4000000 in
theorem mayPads_any {w : World} {s pads : List Int} {a ap : Option Addr} {ca cp : Nat} (A : ArgS w (.slice a s.length ca) s a ca) (na : a = none → ca = 0) (P : ArgS w (.slice ap pads.length cp) pads ap cp) (hs : s.length ≤ 8000000000000) (hps : pads.length ≤ 8000000000000) :
    Calls Tryz.prog 63 #[.slice a s.length ca, .slice ap pads.length cp] w fun e w' => e = .returned (.int .i64 (pdCW s pads)) ∧ Below w.heap.size w w' := by
  obtain ⟨G, hG⟩ : ∃ G, w.heap.size = G := ⟨_, rfl⟩
  obtain ⟨m, hm⟩ : ∃ m, s.length = m := ⟨_, rfl⟩
  obtain ⟨W, hW⟩ : ∃ W, w.alloc (.cells #[.int .i64 0] 27) = W := ⟨_, rfl⟩
  have R0 : Row W G 27 #[.int .i64 0] := by rw [← hW, ← hG]; exact Row.new _ _ _
  have hBW : Below w.heap.size w W := by rw [← hW]; exact (Below.refl _ _).alloc (Nat.le_refl _) _
  have hsW : W.heap.size = G + 1 := by rw [← hW, ← hG]; simp
  have HA := Lib.hid A
  have HNA := Lib.hid na
  have HP := Lib.hid P
  have HM := Lib.hid hm
  obtain ⟨c, hc⟩ : ∃ c, pdCW s pads = c := ⟨_, rfl⟩
  have HC := Lib.hid hc
  have f0 := R0.free 0
  have d0 := R0.cell 0
  rw [hc, hG]
  by_cases hcl : pads.length = 2 * m
  · have HCL := Lib.hid hcl
    have HCB : Hid (pads ≠ [] → ∀ x, ap = some x → x.block < G) := Lib.hid (fun h1 x h2 => hG ▸ P.lim.lt h1 x h2)
    have hlim : LimS W ap pads := P.lim.later hBW
    have hlenI : ((pads.length : Int) != 2 * (m : Int)) = false := by simp; omega
    have hwm : IntKind.i64.wrap (2 * (m : Int)) = 2 * (m : Int) := wrap_i64 (by omega) (by omega)
    rw [hm] at hs ⊢
    clear A na P hm hc hcl
    obtain ⟨n', hn'⟩ : ∃ n' : Nat, Hid (3 ≤ n') := ⟨3, Nat.le_refl 3⟩
    refine (callsIn_wide (n := n')).1 ?_
    refine callsIn_of_wp_marks Tryz.func63 rfl trivial ?_ rfl
    simp only [Tryz.ntmps63, List.size_toArray, List.length_cons, List.length_nil, Nat.reduceAdd, Nat.reduceSub, Array.replicate_succ, Array.replicate_zero, List.push_toArray, List.append_toArray, List.nil_append, List.cons_append]
    gi_wp2_with fail
    (try rw [hW])
    refine wideCallS ((pairs_any _ _ _ _).mono ?_)
    rintro e w' ⟨rfl, rfl⟩
    gi_wp2_with fail
    obtain ⟨V, hV⟩ : ∃ V, W.alloc (.cells #[.slice ap pads.length cp] 22) = V := ⟨_, rfl⟩
    have sV : V.heap.size = G + 1 + 1 := by rw [← hV, World.size_alloc, hsW]
    have b4 : Below W.heap.size W V := by rw [← hV]; exact (Below.refl _ _).alloc (Nat.le_refl _) _
    have d4 : Boxed V (G + 1) 22 (.slice ap pads.length cp) := by rw [← hV, ← hsW]; exact Boxed.new _ _ _
    have q0 := R0.later b4
    have hbV : Below G w V := by rw [← hG]; exact hBW.trans (b4.mono (by omega))
    have hlimV : LimS V ap pads := hlim.later b4
    (try rw [hsW])
    (try rw [hV])
    have h3 : 3 ≤ n' := hn'
    clear hV hW R0 hlim f0 d0
    refine wpIn_rangeFunc_ownH (F := Fence.wide) (n := n') rfl (by omega) (gf := 95) (lb := #[.pointer (some ⟨G + 1, 0, none⟩)]) rfl trivial (enters_of Tryz.func95 (by kernel_rfl) rfl)
      (pairs_stops (n' - 1) (G + 1) (G) m ap pads cp (by omega) HCL.out HCB.out V (by omega) d4.cell hlimV) KpS.trans (KpS.b (by omega) (by omega)) (Below.refl _ _) (fun _ => rfl)
      (fun (pre : List (Fin m)) X => Row X G 27 #[.int .i64 0] ∧ (∀ x ∈ pre, ¬ badPad pads x.val) ∧ Below G w X ∧ G + 1 + 1 ≤ X.heap.size)
      (fun c pre X => c = .ret ∧ Row X G 27 #[.int .i64 11] ∧ (∃ x ∈ pre, badPad pads x.val) ∧ Below G w X)
      (fun pre X Y row ⟨e1, e2, e4, e5⟩ hg hr => have kk := KeepC.grown hg (fun r e => (hr r e).2); ⟨e1.keepC kk, e2, e4.grown hg (by have := e4.size; omega) (fun k e => by have := (hr k e).1; omega), Nat.le_trans e5 hg.size⟩)
      (fun c pre X Y row ⟨e0, e1, e2, e4⟩ hg hr => have kk := KeepC.grown hg (fun r e => (hr r e).2); ⟨e0, e1.keepC kk, e2, e4.grown hg (by have := e4.size; omega) (fun k e => by have := (hr k e).1; omega)⟩)
      ⟨q0, (fun x h => absurd h List.not_mem_nil), hbV, by omega⟩
      (fun (x : Fin m) a' X => ∃ p, G + 1 + 1 ≤ p ∧ Row X p 89 #[.int .i64 (pads[2 * x.val]?.getD 0), .int .i64 (pads[2 * x.val + 1]?.getD 0)] ∧
        a' = { tmps := #[.slice a m ca, .slice ap pads.length cp, undef, undef, .pointer (some ⟨G, 0, none⟩), undef, .pointer (some ⟨p, 0, none⟩), .slice ap pads.length cp, .int .i64 (pads.length : Int), .slice a m ca, .int .i64 (m : Int), .int .i64 (2 * (m : Int)), .bool false, .slice ap pads.length cp, .func (.func 95) #[] #[.pointer (some ⟨G + 1, 0, none⟩)], .int .i64 (x.val : Int), .agg #[.int .i64 (pads[2 * x.val]?.getD 0), .int .i64 (pads[2 * x.val + 1]?.getD 0)], undef, undef, undef, undef, undef, undef, undef, undef, undef, undef, undef, undef], defers := [] })
      (fun x a' _ X Y row ⟨p, h1, h2, h3⟩ hg hr => ⟨p, h1, h2.keepC (KeepC.grown hg (fun r e => (hr r e).2)), h3⟩)
      ?assign ?body ?done ?stop
    case assign =>
      rintro l pre ⟨k, hk⟩ X K ⟨e1, e2, e4, hsI⟩ hK
      obtain ⟨z0, hz0⟩ : ∃ z0, pads[2 * k]?.getD 0 = z0 := ⟨_, rfl⟩
      obtain ⟨z1, hz1⟩ : ∃ z1, pads[2 * k + 1]?.getD 0 = z1 := ⟨_, rfl⟩
      have hbX : Below X.heap.size X (X.alloc (.cells #[.int .i64 z0, .int .i64 z1] 89)) := (Below.refl _ _).alloc (Nat.le_refl _) _
      have kk := KeepC.below hbX
      have HK := Lib.hid hK
      have HZ0 := Lib.hid hz0
      have HZ1 := Lib.hid hz1
      simp only [pairV]
      rw [hz0, hz1]
      clear hK hz0 hz1
      gi_wp2
      refine HK.out _ _ ⟨by simp, fun q o _ ho _ => (Below.heap_alloc _ _ _ (lt_of_block ho)).trans ho⟩ ⟨hbX.mono (by omega), Below.heap_alloc _ _ _ (by omega)⟩ ⟨e1.keepC kk, e2, e4.trans (hbX.mono (by have := e4.size; omega)), by simp; omega⟩ ⟨X.heap.size, hsI, ?_, ?_⟩
      · simp only [HZ0.out, HZ1.out]; exact Row.new _ _ _
      · simp only [HZ0.out, HZ1.out]
    case body =>
      rintro l pre ⟨k, hk⟩ a' X hl hrec ⟨e1, e2, e4, hsI⟩ ⟨p, hp, hR, rfl⟩ hlt
      simp only at hR ⊢
      obtain ⟨z0, hz0⟩ : ∃ z0, pads[2 * k]?.getD 0 = z0 := ⟨_, rfl⟩
      obtain ⟨z1, hz1⟩ : ∃ z1, pads[2 * k + 1]?.getD 0 = z1 := ⟨_, rfl⟩
      have hf0 : fstP pads k = z0 := hz0
      have hf1 : sndP pads k = z1 := hz1
      have hbd : badPad pads k ↔ (z0 < 0 ∨ z1 < 0) := by unfold badPad; rw [hf0, hf1]
      rw [hz0, hz1] at hR
      rw [hz0, hz1]
      have cp0 := hR.cell 0
      have cp1 := hR.cell 1
      have fe := e1.free 0
      have ce := e1.cell 0
      have HBD := Lib.hid hbd
      have E1 := Lib.hid e1
      have E2 := Lib.hid e2
      clear hbd hz0 hz1 hf0 hf1 hR e1 e2
      by_cases hbad : z0 < 0 ∨ z1 < 0
      · have R9 : Row (X.setCell ⟨G, 0, none⟩ (.int .i64 11)) G 27 #[.int .i64 11] := E1.out.set 0 _
        have fin : KeepsFrom (G + 1 + 1) X (X.setCell ⟨G, 0, none⟩ (.int .i64 11)) ∧ Code.ret = Code.ret ∧ Row (X.setCell ⟨G, 0, none⟩ (.int .i64 11)) G 27 #[.int .i64 11] ∧ (∃ x ∈ pre ++ [(⟨k, hk⟩ : Fin m)], badPad pads x.val) ∧ Below G w (X.setCell ⟨G, 0, none⟩ (.int .i64 11)) :=
          ⟨keepsFrom_set (keepsFrom_below (Below.refl _ _)) _ _, rfl, R9, ⟨_, List.mem_append_right _ (List.mem_singleton.2 rfl), HBD.out.2 hbad⟩, setBelow e4 (by omega) _ _⟩
        have FIN := Lib.hid fin
        by_cases h0 : z0 < 0
        · clear hbad R9 fin
          gi_wp2
          exact ⟨FIN.out.1, rfl, FIN.out.2.2⟩
        · have h1 : z1 < 0 := hbad.resolve_left h0
          clear hbad R9 fin
          gi_wp2
          exact ⟨FIN.out.1, rfl, FIN.out.2.2⟩
      · have h0 : ¬ z0 < 0 := fun h => hbad (.inl h)
        have h1 : ¬ z1 < 0 := fun h => hbad (.inr h)
        have HBAD := Lib.hid hbad
        clear hbad
        gi_wp2
        refine ⟨keepsFrom_below (Below.refl _ _), ⟨Below.refl _ _, rfl⟩, E1.out, fun x hx => ?_, e4, hsI⟩
        rcases List.mem_append.1 hx with hx | hx
        · exact E2.out x hx
        · rw [List.mem_singleton.1 hx]
          exact fun h => HBAD.out (HBD.out.1 h)
    case done =>
      rintro D ks X hD hup ⟨e1, e2, e4, hsI⟩ hK
      have hgood : ∀ i, i < s.length → ¬ badPad pads i := fun i hi => by
        rw [HM.out] at hi
        have h5 : i ∈ ks.map Fin.val := by rw [show ks.map Fin.val = List.range m from hup]; exact List.mem_range.2 hi
        obtain ⟨z, hz, hv⟩ := List.mem_map.1 h5
        rw [← hv]
        exact e2 z hz
      have hcc := pdCW_good (by rw [HM.out]; exact HCL.out) hgood
      rw [HC.out] at hcc
      have hpd := padded_any (HA.out.later (hG.symm ▸ e4)) HNA.out (HP.out.later (hG.symm ▸ e4)) (by rw [HM.out]; exact HCL.out) (by rw [HM.out]; exact hs)
      rw [HM.out] at hpd
      have HE1 := Lib.hid e1
      have hsX := e4.size
      have hDlt := lt_of_block hK
      have HCC := Lib.hid hcc
      clear e1 e2 hcc hgood
      gi_wp2_with fail
      refine wideCallS (hpd.mono ?_)
      rintro e w7 ⟨r, rfl, RS, b7⟩
      obtain ⟨ar, cr, AR⟩ := RS.arg
      have hmay := mayS_eq AR
      obtain rfl := AR.is
      rw [← HCC.out] at hmay
      gi_wp2_with fail
      refine wideCallS (hmay.mono ?_)
      rintro e w8 ⟨rfl, rfl⟩
      have P2 := HE1.out.later b7
      have f9 := P2.free 0
      have c9 := P2.cell 0
      have hK9 : w7.heap[D]? = some (.deferred (some [])) := (b7.block D hDlt).trans hK
      have P2' := Lib.hid P2
      clear P2
      gi_wp2
      have hK' := (KeepsOthers.setCell w7 ⟨G, 0, none⟩ (.int .i64 c)).same D _ hK9 rfl
      refine ⟨by simp, .inl ⟨_, _, rfl, run_takeDeferred hK', ?_⟩⟩
      have hc5 := cell_kept ((P2'.out.set 0 (.int .i64 c)).cell 0) (grownBy_putObj' _ D (.deferred none)) (fun r e => by cases e; exact ⟨_, hK', rfl⟩)
      simp at hc5
      refine ⟨.int .i64 c, by simp [results, Tryz.f63, go_sem, hc5], rfl, ?_⟩
      exact (setBelow (e4.trans (b7.mono (by omega))) (by omega) _ _).trans (belowK_b (n₀ := G) (w := w) (by omega) _ D _ _ (by omega) hK' rfl rfl)
    case stop =>
      rintro D c2 pre X hD ⟨k, hk, hup⟩ ⟨rfl, h1, ⟨x, hx, hbad⟩, h3⟩ hK
      have hcc : c = 11 := by rw [← HC.out]; exact pdCW_bad (by rw [HM.out]; exact x.isLt) hbad
      subst hcc
      gi_wp2
      refine ⟨by simp, .inl ⟨_, _, rfl, run_takeDeferred hK, ?_⟩⟩
      have hc5 := cell_kept (h1.cell 0) (grownBy_putObj' _ D (.deferred none)) (fun r e => by cases e; exact ⟨_, hK, rfl⟩)
      simp at hc5
      refine ⟨.int .i64 11, by simp [results, Tryz.f63, go_sem, hc5], rfl, ?_⟩
      exact h3.trans (belowK_b (n₀ := G) (w := w) (by omega) _ D _ _ (by omega) hK rfl rfl)
  · have hcc : c = 11 := by rw [← HC.out]; unfold pdCW; rw [if_pos (by rw [hm]; exact hcl)]
    have hlenI : ((pads.length : Int) != 2 * (m : Int)) = true := by simp; omega
    have hwm : IntKind.i64.wrap (2 * (m : Int)) = 2 * (m : Int) := wrap_i64 (by omega) (by omega)
    subst hcc
    rw [hm]
    clear A na P hm hc hcl
    have hb9 : Below G w (W.setCell ⟨G, 0, none⟩ (.int .i64 11)) := setBelow (by rw [← hG]; exact hBW) (Nat.le_refl _) _ _
    have R9 : Row (W.setCell ⟨G, 0, none⟩ (.int .i64 11)) G 27 #[.int .i64 11] := R0.set 0 _
    have c9 := R9.cell 0
    simp at c9
    obtain ⟨n', hn'⟩ : ∃ n' : Nat, Hid (3 ≤ n') := ⟨3, Nat.le_refl 3⟩
    refine (callsIn_wide (n := n')).1 ?_
    refine callsIn_of_wp_marks Tryz.func63 rfl trivial ?_ rfl
    simp only [Tryz.ntmps63, List.size_toArray, List.length_cons, List.length_nil, Nat.reduceAdd, Nat.reduceSub, Array.replicate_succ, Array.replicate_zero, List.push_toArray, List.append_toArray, List.nil_append, List.cons_append]
    gi_wp2_with fail
    exact ⟨.int .i64 11, by simp [results, Tryz.f63, go_sem, c9], rfl, hb9⟩
end
end Go.Proofs.YtooglnhlhgmhdaaGreat
