/-
  Layer 9's laws: the chapter's rows (known). (Made by wip/gen/gen_mknown.py.)
-/
import Derived.Test.YtooglnhlhgmhdaaGreatZ1
import Derived.Test.YtooglnhlhgmhdaaGreatZ2
import Derived.Test.YtooglnhlhgmhdaaGreatZ3
import Derived.Test.YtooglnhlhgmhdaaGreatZ5
import Derived.Test.YtooglnhlhgmhdaaGreatZ7
import Derived.Test.YtooglnhlhgmhdaaGreatZ9
import Derived.Test.YtooglnhlhgmhdaaGreatZ11
import Derived.Test.YtooglnhlhgmhdaaGreatZ12
import Derived.Test.YtooglnhlhgmhdaaGreatZ13
import Derived.Test.YtooglnhlhgmhdaaGreatZ14
import Derived.Test.YtooglnhlhgmhdaaGreatZ15
import Derived.Test.YtooglnhlhgmhdaaGreatZ16
import Derived.Test.YtooglnhlhgmhdaaGreatZ17
import Derived.Test.YtooglnhlhgmhdaaGreatZ18
import Derived.Test.YtooglnhlhgmhdaaGreatZ20
import Derived.Test.YtooglnhlhgmhdaaGreatZ21
import Derived.Test.YtooglnhlhgmhdaaGreatZ22
import Derived.Test.YtooglnhlhgmhdaaGreatZ24
import Derived.Test.YtooglnhlhgmhdaaGreatZ26
import Derived.WalkKit
import Derived.Test.YtooglnhlhgmhdaaGreatRows
import Derived.BigQuiet
import Derived.Deep.QuietTactic
import Derived.Lib.Hide
import Derived.Lib.Small
import Derived.Lib.Walk
import Derived.Lib.BitFns
import Derived.Maps.AppendAt
import Derived.RangeFuncNested
import Derived.RangeFuncBound
import Derived.RangeFuncCalls
import Derived.RangeFuncLeaves
import Derived.Shelf.Abstract
import Derived.OwnWalkIn
import Derived.TacticsInMore
import Derived.LoopNIn
import Derived.LoopIn
import Derived.RangeFuncBox
import Derived.Deep.RegionHeld3
import Derived.OrdersIn
import Derived.StillTailTactics
import Derived.RangeFuncFrom
import Derived.Laws.EntriesVeiled
import Derived.ProofKit
import Derived.OpenShut
import Derived.JoinedCond
import Derived.Carry
import Derived.Laws.AppendOwnNone
import Derived.Lib.ItoaNum
import Derived.Deep.RegionLaw
import Derived.WalkMore
import Derived.Lib.SmallJoins
import Derived.IntWalk
import Derived.Deep.DeepCutAuto
import Derived.Laws.OwnMore
import Derived.OrdersHeld
import Derived.Deep.RegionHeld
import Derived.ArgAppend
import Derived.Deep.Slices
import Derived.Laws.CopyOwn
import Derived.Lib.SliceRun
namespace Go.Proofs.YtooglnhlhgmhdaaGreat
set_option maxRecDepth 100000
section
open Go.RowKit
set_option linter.unusedVariables false
set_option linter.unusedSimpArgs false
theorem Row.argS {w : World} {g : Nat} {cs : Array Value} (R : Row w g 3 cs) (xs : List Int) (hc : cs = (xs.map (Value.int .i64)).toArray) (hw : Wid xs) : ArgS w (.slice (some ⟨g, 0, none⟩) xs.length xs.length) xs (some ⟨g, 0, none⟩) xs.length := by
  refine ⟨rfl, .inr ⟨g, 0, rfl, fun i hi => ?_⟩, Nat.le_refl _, hw⟩
  rw [Nat.zero_add, R.cell i, hc]
  simp [hi]
theorem widS {xs : List Int} (h : xs.all (fun x => decide (-1000 ≤ x) && decide (x ≤ 1000)) = true) : Wid xs := fun x hx => by
  have := List.all_eq_true.1 h x hx
  simp at this
  omega
theorem some_not {a : Addr} {c : Nat} : (some a = none → c = 0) := fun h => by cases h
theorem sameK9 {b1 b2 n m : Nat} {w : World} {u v : Value} {s : List Int} {L : List Rat} (h1 : ResT b1 w u s L n) (h2 : ResT b2 w v s L m) (hs : s.length ≤ 1000000) (hL : L.length ≤ 1000000) (hn : n ≤ 1000000) (hm : m ≤ 1000000) :
    Calls Tryz.prog 34 #[u, v] w fun e w' => e = .returned (.bool true) ∧ Below w.heap.size w w' := by
  obtain ⟨q1, a1, c1, ca1, cc1, T1, e1, l1, k1⟩ := h1.tens
  obtain ⟨q2, a2, c2, ca2, cc2, T2, e2, l2, k2⟩ := h2.tens
  have g1 : q1.length = L.length := by rw [← e1]; simp
  have g2 : q2.length = L.length := by rw [← e2]; simp
  have h := sameT_any (n := max n m) T1 T2 (by omega) (by omega) (by omega) (by omega) (fun q hq => ⟨Nat.le_trans (l1 q hq).1 (by omega), Nat.le_trans (l1 q hq).2 (by omega)⟩) (fun q hq => ⟨Nat.le_trans (l2 q hq).1 (by omega), Nat.le_trans (l2 q hq).2 (by omega)⟩)
  rw [allBC_yes rfl (by omega) (fun i x y hx hy => by
    have f1 : (q1.map Q3.rat)[i]? = some x.rat := by rw [List.getElem?_map, hx]; rfl
    have f2 : (q2.map Q3.rat)[i]? = some y.rat := by rw [List.getElem?_map, hy]; rfl
    rw [e1] at f1
    rw [e2, f1] at f2
    exact decide_eq_true (Option.some.inj f2))] at h
  exact h
set_option maxRecDepth 100000 in
set_option maxHeartbeats 8000000 in
theorem known9_any (w : World) : Calls Tryz.prog 19 #[] w fun e w' => e = .returned (.bool true) ∧ Below w.heap.size w w' := by
  have O1 := Lib.hid (show Ok9 [2, 3] (([1, 2, 3, 4, 5, 6] : List Int).map intQ).length from ⟨mayC_zero.1 (by decide +kernel), by decide +kernel⟩)
  have O2 := Lib.hid (show Ok9 [1, 2] (([2, 3] : List Int).map intQ).length from ⟨mayC_zero.1 (by decide +kernel), by decide +kernel⟩)
  have C1 := Lib.hid (show permC [1, 0] ([2, 3] : List Int).length = 0 by decide +kernel)
  have C2 := Lib.hid (show slC [2, 3] [0, 1, 1, 3] = 0 by decide +kernel)
  have C3 := Lib.hid (show pdCW [1, 2] [0, 0, 1, 0] = 0 by decide +kernel)
  have S1 := Lib.hid (show trS [2, 3] [1, 0] = [3, 2] by decide +kernel)
  have S2 := Lib.hid (show slS [2, 3] [0, 1, 1, 3] = [1, 2] by decide +kernel)
  have S3 := Lib.hid (show pdW [1, 2] [0, 0, 1, 0] = [1, 3] by decide +kernel)
  have Q1 := Lib.hid (show trV [2, 3] [1, 0] (([1, 2, 3, 4, 5, 6] : List Int).map intQ) = (([1, 4, 2, 5, 3, 6] : List Int).map intQ) by decide +kernel)
  have Q2 := Lib.hid (show slV [2, 3] [0, 1, 1, 3] (([1, 2, 3, 4, 5, 6] : List Int).map intQ) = (([2, 3] : List Int).map intQ) by decide +kernel)
  have Q3 := Lib.hid (show pdV [1, 2] [0, 0, 1, 0] (([2, 3] : List Int).map intQ) = (([0, 2, 3] : List Int).map intQ) by decide +kernel)
  have A0 : Below w.heap.size w ((w.alloc (.cells #[.int .i64 2, .int .i64 3] 3)).alloc (.cells #[.int .i64 1, .int .i64 2, .int .i64 3, .int .i64 4, .int .i64 5, .int .i64 6] 3)) := ((Below.refl _ _).alloc (by simp) _).alloc (by simp) _
  have L1 : ArgS ((w.alloc (.cells #[.int .i64 2, .int .i64 3] 3)).alloc (.cells #[.int .i64 1, .int .i64 2, .int .i64 3, .int .i64 4, .int .i64 5, .int .i64 6] 3)) (.slice (some ⟨w.heap.size, 0, none⟩) 2 2) [2, 3] (some ⟨w.heap.size, 0, none⟩) 2 := Row.argS ((Row.new w 3 #[.int .i64 2, .int .i64 3]).alloc _) [2, 3] rfl (widS (by decide))
  have L2 : ArgS ((w.alloc (.cells #[.int .i64 2, .int .i64 3] 3)).alloc (.cells #[.int .i64 1, .int .i64 2, .int .i64 3, .int .i64 4, .int .i64 5, .int .i64 6] 3)) (.slice (some ⟨w.heap.size + 1, 0, none⟩) 6 6) [1, 2, 3, 4, 5, 6] (some ⟨w.heap.size + 1, 0, none⟩) 6 := by
    have h := Row.new (w.alloc (.cells #[.int .i64 2, .int .i64 3] 3)) 3 #[.int .i64 1, .int .i64 2, .int .i64 3, .int .i64 4, .int .i64 5, .int .i64 6]
    simp only [World.size_alloc] at h
    exact Row.argS h [1, 2, 3, 4, 5, 6] rfl (widS (by decide))
  go_enter Tryz.func19, Tryz.ntmps19
  go_wp2_with fail
  refine (whole9_any L1 some_not L2 (by decide) (by decide)).mono ?_
  rintro e w1 ⟨r1, rfl, rt, hb1⟩
  have B1 : Below w.heap.size w w1 := A0.trans (hb1.mono A0.size)
  have X1 := Lib.hid rt
  obtain ⟨xa, xb, xca, xcb, rfl, _⟩ := rt
  clear A0 L1 L2 hb1
  obtain ⟨V, hV⟩ : ∃ V, w1.alloc (.cells #[.slice xa 2 xca, .slice xb 6 xcb] 26) = V := ⟨_, rfl⟩
  have b1V : Below w1.heap.size w1 V := by rw [← hV]; exact (Below.refl _ _).alloc (Nat.le_refl _) _
  have R0 : Row V w1.heap.size 26 #[.slice xa 2 xca, .slice xb 6 xcb] := by rw [← hV]; exact Row.new _ _ _
  have BV : Below w.heap.size w V := B1.trans (b1V.mono B1.size)
  have XV := X1.out.later b1V
  have HX := Lib.hid (fun Y (h : Below V.heap.size V Y) => XV.later h)
  have B0 : Below V.heap.size V V := Below.refl _ _
  obtain ⟨x0, x1, _, _⟩ := R0.two
  clear X1 XV b1V
  have U1 : Below V.heap.size V (V.alloc (.cells #[.int .i64 1, .int .i64 0] 3)) := (Below.refl _ _).alloc (Nat.le_refl _) _
  have D1 : ArgS (V.alloc (.cells #[.int .i64 1, .int .i64 0] 3)) (.slice (some ⟨V.heap.size, 0, none⟩) 2 2) [1, 0] (some ⟨V.heap.size, 0, none⟩) 2 := Row.argS (Row.new V 3 #[.int .i64 1, .int .i64 0]) [1, 0] rfl (widS (by decide))
  go_wp2_with fail
  (try rw [hV])
  (try clear hV)
  refine (transK (HX.out _ (B0.trans (U1.mono B0.size))) D1 some_not (by decide) O1.out (by decide) C1.out).mono ?_
  rintro e z1 ⟨hg, hz⟩
  rw [S1.out, Q1.out] at hg
  obtain ⟨ra1, rb1, rca1, rcb1, rfl, T1⟩ := hg
  obtain ⟨V2, hV⟩ : ∃ X, z1.alloc (.cells #[.slice ra1 2 rca1, .slice rb1 6 rcb1] 26) = X := ⟨_, rfl⟩
  have bz : Below z1.heap.size z1 V2 := by rw [← hV]; exact (Below.refl _ _).alloc (Nat.le_refl _) _
  have N1 : Row V2 z1.heap.size 26 #[.slice ra1 2 rca1, .slice rb1 6 rcb1] := by rw [← hV]; exact Row.new _ _ _
  have hzW : Below V.heap.size V z1 := U1.trans (hz.mono U1.size)
  have E1 : Below V.heap.size V V2 := hzW.trans (bz.mono hzW.size)
  have B1 : Below V.heap.size V V2 := B0.trans (E1.mono B0.size)
  have M1 := Lib.hid (T1.later bz)
  clear x0 x1 T1 hz bz hzW U1 D1
  obtain ⟨x0, x1, _, _⟩ := (R0.later B1).two
  have U2 : Below V2.heap.size V2 (V2.alloc (.cells #[.int .i64 0, .int .i64 1, .int .i64 1, .int .i64 3] 3)) := (Below.refl _ _).alloc (Nat.le_refl _) _
  have D2 : ArgS (V2.alloc (.cells #[.int .i64 0, .int .i64 1, .int .i64 1, .int .i64 3] 3)) (.slice (some ⟨V2.heap.size, 0, none⟩) 4 4) [0, 1, 1, 3] (some ⟨V2.heap.size, 0, none⟩) 4 := Row.argS (Row.new V2 3 #[.int .i64 0, .int .i64 1, .int .i64 1, .int .i64 3]) [0, 1, 1, 3] rfl (widS (by decide))
  go_wp2_with fail
  (try rw [hV])
  (try clear hV)
  refine (sliceK (HX.out _ (B1.trans (U2.mono B1.size))) D2 some_not (by decide) O1.out (by decide) C2.out).mono ?_
  rintro e z2 ⟨hg, hz⟩
  rw [S2.out, Q2.out] at hg
  obtain ⟨ra2, rb2, rca2, rcb2, rfl, T2⟩ := hg
  obtain ⟨V3, hV⟩ : ∃ X, z2.alloc (.cells #[.slice ra2 2 rca2, .slice rb2 2 rcb2] 26) = X := ⟨_, rfl⟩
  have bz : Below z2.heap.size z2 V3 := by rw [← hV]; exact (Below.refl _ _).alloc (Nat.le_refl _) _
  have N2 : Row V3 z2.heap.size 26 #[.slice ra2 2 rca2, .slice rb2 2 rcb2] := by rw [← hV]; exact Row.new _ _ _
  have hzW : Below V2.heap.size V2 z2 := U2.trans (hz.mono U2.size)
  have E2 : Below V2.heap.size V2 V3 := hzW.trans (bz.mono hzW.size)
  have B2 : Below V.heap.size V V3 := B1.trans (E2.mono B1.size)
  have M2 := Lib.hid (T2.later bz)
  replace N1 := N1.later E2
  replace M1 := Lib.hid (M1.out.later E2)
  clear x0 x1 T2 hz bz hzW U2 D2
  obtain ⟨x0, x1, _, _⟩ := (R0.later B2).two
  have U3 : Below V3.heap.size V3 (V3.alloc (.cells #[.int .i64 0, .int .i64 0, .int .i64 1, .int .i64 0] 3)) := (Below.refl _ _).alloc (Nat.le_refl _) _
  have D3 : ArgS (V3.alloc (.cells #[.int .i64 0, .int .i64 0, .int .i64 1, .int .i64 0] 3)) (.slice (some ⟨V3.heap.size, 0, none⟩) 4 4) [0, 0, 1, 0] (some ⟨V3.heap.size, 0, none⟩) 4 := Row.argS (Row.new V3 3 #[.int .i64 0, .int .i64 0, .int .i64 1, .int .i64 0]) [0, 0, 1, 0] rfl (widS (by decide))
  obtain ⟨x0, x1, _, _⟩ := N2.two
  go_wp2_with fail
  (try rw [hV])
  (try clear hV)
  refine (padK (M2.out.later U3) D3 some_not (by decide) O2.out (by decide) C3.out).mono ?_
  rintro e z3 ⟨hg, hz⟩
  rw [S3.out, Q3.out] at hg
  obtain ⟨ra3, rb3, rca3, rcb3, rfl, T3⟩ := hg
  obtain ⟨V4, hV⟩ : ∃ X, z3.alloc (.cells #[.slice ra3 2 rca3, .slice rb3 3 rcb3] 26) = X := ⟨_, rfl⟩
  have bz : Below z3.heap.size z3 V4 := by rw [← hV]; exact (Below.refl _ _).alloc (Nat.le_refl _) _
  have N3 : Row V4 z3.heap.size 26 #[.slice ra3 2 rca3, .slice rb3 3 rcb3] := by rw [← hV]; exact Row.new _ _ _
  have hzW : Below V3.heap.size V3 z3 := U3.trans (hz.mono U3.size)
  have E3 : Below V3.heap.size V3 V4 := hzW.trans (bz.mono hzW.size)
  have B3 : Below V.heap.size V V4 := B2.trans (E3.mono B2.size)
  have M3 := Lib.hid (T3.later bz)
  replace N1 := N1.later E3
  replace M1 := Lib.hid (M1.out.later E3)
  replace N2 := N2.later E3
  replace M2 := Lib.hid (M2.out.later E3)
  clear x0 x1 T3 hz bz hzW U3 D3
  go_wp2_with fail
  (try rw [hV])
  (try clear hV)
  clear R0 HX B0 B1
  have mkS : ∀ X, Below V4.heap.size V4 X → X.cell? ⟨z1.heap.size, 0, none⟩ = some (.slice ra1 2 rca1) ∧ X.cell? ⟨z1.heap.size, 1, none⟩ = some (.slice rb1 6 rcb1) ∧ X.cell? ⟨z2.heap.size, 0, none⟩ = some (.slice ra2 2 rca2) ∧ X.cell? ⟨z2.heap.size, 1, none⟩ = some (.slice rb2 2 rcb2) ∧ X.cell? ⟨z3.heap.size, 0, none⟩ = some (.slice ra3 2 rca3) ∧ X.cell? ⟨z3.heap.size, 1, none⟩ = some (.slice rb3 3 rcb3) := fun X h => by
    obtain ⟨g0, g1, _⟩ := (N1.later h).two
    obtain ⟨g2, g3, _⟩ := (N2.later h).two
    obtain ⟨g4, g5, _⟩ := (N3.later h).two
    exact ⟨g0, g1, g2, g3, g4, g5⟩
  have BU : Below w.heap.size w V4 := BV.trans (B3.mono BV.size)
  refine wp_region_held_drew (S := fun X => X.cell? ⟨z1.heap.size, 0, none⟩ = some (.slice ra1 2 rca1) ∧ X.cell? ⟨z1.heap.size, 1, none⟩ = some (.slice rb1 6 rcb1) ∧ X.cell? ⟨z2.heap.size, 0, none⟩ = some (.slice ra2 2 rca2) ∧ X.cell? ⟨z2.heap.size, 1, none⟩ = some (.slice rb2 2 rcb2) ∧ X.cell? ⟨z3.heap.size, 0, none⟩ = some (.slice ra3 2 rca3) ∧ X.cell? ⟨z3.heap.size, 1, none⟩ = some (.slice rb3 3 rcb3)) (by kernel_rfl) (mkS _ ((Below.refl V4.heap.size V4).drew)) (fun hHeld => ?_)
  refine todo [0, 1, 2, 3, 4, 5, 6, 7, 8, 9, 10, 11] ?_
  iterate 12
   refine todoH (v := ?_) rfl (by kernel_rfl) (fun _ _ _ h => h) (by assumption) (Or.inl ⟨by rfl, ?_⟩) ?_
   rotate_left
   · intro w hSw; (try dsimp only at hSw); go_simp; (try with_reducible rfl)
   try simp only [Act.put, List.getElem_toArray, List.getElem_cons_succ, List.getElem_cons_zero, List.setIfInBounds_toArray, List.set_cons_zero, List.set_cons_succ]
  refine todone ?_
  obtain ⟨K0, hV0⟩ : ∃ Y, V4.drew = Y := ⟨_, rfl⟩
  rw [hV0] at hHeld
  rw [hV0]
  have hb0 : Below V4.heap.size V4 K0 := by rw [← hV0]; exact (Below.refl _ _).drew
  have hs0 : V4.heap.size ≤ K0.heap.size := hb0.size
  clear hV0
  refine wpAnyH_ready (rs := [12, 13]) (by kernel_rfl) (by simp) ?_
  refine AllReadyH.cons rfl (fun K hK => ?o13_12) (AllReadyH.cons rfl (fun K hK => ?o13_13) AllReadyH.nil)
  case o13_12 =>
    go_simp
    refine afterAlloc (fun K14 hc14 hl14 zn14 => ?_)
    have hbK14 : Below V4.heap.size V4 K14 := hb0.trans (hc14.mono hs0)
    have hsK14 : V4.heap.size ≤ K14.heap.size := hbK14.size
    refine hK.out _ _ (mkS _ hbK14) (fun hHeld2 => ?_)
    clear hK K hHeld
    have hHeld := hHeld2
    clear hHeld2
    try simp only [Act.put, List.getElem_toArray, List.getElem_cons_succ, List.getElem_cons_zero, List.setIfInBounds_toArray, List.set_cons_zero, List.set_cons_succ]
    refine wpAnyH_ready (rs := [13]) (by kernel_rfl) (by simp) ?_
    refine AllReadyH.cons rfl (fun K hK => ?o15_13) AllReadyH.nil
    go_simp
    refine afterAlloc (fun K16 hc16 hl16 zn16 => ?_)
    have hbK16 : Below V4.heap.size V4 K16 := hbK14.trans (hc16.mono hsK14)
    have hsK16 : V4.heap.size ≤ K16.heap.size := hbK16.size
    have za12K16 := zn14.later hc16
    have lta12K16 := za12K16.lt
    refine hK.out _ _ (mkS _ hbK16) (fun hHeld2 => ?_)
    clear hK K hHeld
    have hHeld := hHeld2
    clear hHeld2
    try simp only [Act.put, List.getElem_toArray, List.getElem_cons_succ, List.getElem_cons_zero, List.setIfInBounds_toArray, List.set_cons_zero, List.set_cons_succ]
    refine wpAnyH_ready (rs := [14]) (by kernel_rfl) (by simp) ?_
    refine AllReadyH.cons rfl (fun K hK => ?o17_14) AllReadyH.nil
    go_simp
    refine (whole9_any (s := [3, 2]) (xs := [1, 4, 2, 5, 3, 6]) (Row.argS za12K16 [3, 2] rfl (widS (by decide))) some_not (Row.argS zn16 [1, 4, 2, 5, 3, 6] rfl (widS (by decide))) (by decide) (by decide)).mono ?_
    rintro e K18 ⟨q18, rfl, tq18, hc18⟩
    have tf18 := Lib.hid tq18
    obtain ⟨_, _, _, _, rfl, _⟩ := tq18
    go_simp
    have hbK18 : Below V4.heap.size V4 K18 := hbK16.trans (hc18.mono hsK16)
    have hsK18 : V4.heap.size ≤ K18.heap.size := hbK18.size
    have za12K18 := za12K16.later hc18
    have lta12K18 := za12K18.lt
    have za13K18 := zn16.later hc18
    have lta13K18 := za13K18.lt
    refine hK.out _ _ (mkS _ hbK18) (fun hHeld2 => ?_)
    clear hK K hHeld
    have hHeld := hHeld2
    clear hHeld2
    try simp only [Act.put, List.getElem_toArray, List.getElem_cons_succ, List.getElem_cons_zero, List.setIfInBounds_toArray, List.set_cons_zero, List.set_cons_succ]
    refine wpAnyH_ready (rs := [15]) (by kernel_rfl) (by simp) ?_
    refine AllReadyH.cons rfl (fun K hK => ?o19_15) AllReadyH.nil
    go_simp
    refine (sameK9 (M1.out.later hbK18) tf18.out (by decide) (by decide) (by decide) (by decide)).mono ?_
    rintro e K20 ⟨rfl, hc20⟩
    go_simp
    have hbK20 : Below V4.heap.size V4 K20 := hbK18.trans (hc20.mono hsK18)
    have hsK20 : V4.heap.size ≤ K20.heap.size := hbK20.size
    have w1K20 := tf18.out.later hc20
    have za12K20 := za12K18.later hc20
    have lta12K20 := za12K20.lt
    have za13K20 := za13K18.later hc20
    have lta13K20 := za13K20.lt
    refine hK.out _ _ (mkS _ hbK20) (fun hHeld2 => ?_)
    clear hK K hHeld
    have hHeld := hHeld2
    clear hHeld2
    try simp only [Act.put, List.getElem_toArray, List.getElem_cons_succ, List.getElem_cons_zero, List.setIfInBounds_toArray, List.set_cons_zero, List.set_cons_succ]
    refine todo [16, 17, 18] ?_
    iterate 3
     refine todoH (v := ?_) rfl (by kernel_rfl) (fun _ _ _ h => h) (by assumption) (Or.inl ⟨by rfl, ?_⟩) ?_
     rotate_left
     · intro w hSw; (try dsimp only at hSw); go_simp; (try with_reducible rfl)
     try simp only [Act.put, List.getElem_toArray, List.getElem_cons_succ, List.getElem_cons_zero, List.setIfInBounds_toArray, List.set_cons_zero, List.set_cons_succ]
    refine todone ?_
    refine wpAnyH_ready (rs := [19, 20]) (by kernel_rfl) (by simp) ?_
    refine AllReadyH.cons rfl (fun K hK => ?o24_19) (AllReadyH.cons rfl (fun K hK => ?o24_20) AllReadyH.nil)
    case o24_19 =>
      go_simp
      refine afterAlloc (fun K25 hc25 hl25 zn25 => ?_)
      have hbK25 : Below V4.heap.size V4 K25 := hbK20.trans (hc25.mono hsK20)
      have hsK25 : V4.heap.size ≤ K25.heap.size := hbK25.size
      have w1K25 := w1K20.later hc25
      have za12K25 := za12K20.later hc25
      have lta12K25 := za12K25.lt
      have za13K25 := za13K20.later hc25
      have lta13K25 := za13K25.lt
      refine hK.out _ _ (mkS _ hbK25) (fun hHeld2 => ?_)
      clear hK K hHeld
      have hHeld := hHeld2
      clear hHeld2
      try simp only [Act.put, List.getElem_toArray, List.getElem_cons_succ, List.getElem_cons_zero, List.setIfInBounds_toArray, List.set_cons_zero, List.set_cons_succ]
      refine wpAnyH_ready (rs := [20]) (by kernel_rfl) (by simp) ?_
      refine AllReadyH.cons rfl (fun K hK => ?o26_20) AllReadyH.nil
      go_simp
      refine afterAlloc (fun K27 hc27 hl27 zn27 => ?_)
      have hbK27 : Below V4.heap.size V4 K27 := hbK25.trans (hc27.mono hsK25)
      have hsK27 : V4.heap.size ≤ K27.heap.size := hbK27.size
      have w1K27 := w1K25.later hc27
      have za12K27 := za12K25.later hc27
      have lta12K27 := za12K27.lt
      have za13K27 := za13K25.later hc27
      have lta13K27 := za13K27.lt
      have za19K27 := zn25.later hc27
      have lta19K27 := za19K27.lt
      refine hK.out _ _ (mkS _ hbK27) (fun hHeld2 => ?_)
      clear hK K hHeld
      have hHeld := hHeld2
      clear hHeld2
      try simp only [Act.put, List.getElem_toArray, List.getElem_cons_succ, List.getElem_cons_zero, List.setIfInBounds_toArray, List.set_cons_zero, List.set_cons_succ]
      refine wpAnyH_ready (rs := [21]) (by kernel_rfl) (by simp) ?_
      refine AllReadyH.cons rfl (fun K hK => ?o28_21) AllReadyH.nil
      go_simp
      refine (whole9_any (s := [1, 2]) (xs := [2, 3]) (Row.argS za19K27 [1, 2] rfl (widS (by decide))) some_not (Row.argS zn27 [2, 3] rfl (widS (by decide))) (by decide) (by decide)).mono ?_
      rintro e K29 ⟨q29, rfl, tq29, hc29⟩
      have tf29 := Lib.hid tq29
      obtain ⟨_, _, _, _, rfl, _⟩ := tq29
      go_simp
      have hbK29 : Below V4.heap.size V4 K29 := hbK27.trans (hc29.mono hsK27)
      have hsK29 : V4.heap.size ≤ K29.heap.size := hbK29.size
      have w1K29 := w1K27.later hc29
      have za12K29 := za12K27.later hc29
      have lta12K29 := za12K29.lt
      have za13K29 := za13K27.later hc29
      have lta13K29 := za13K29.lt
      have za19K29 := za19K27.later hc29
      have lta19K29 := za19K29.lt
      have za20K29 := zn27.later hc29
      have lta20K29 := za20K29.lt
      refine hK.out _ _ (mkS _ hbK29) (fun hHeld2 => ?_)
      clear hK K hHeld
      have hHeld := hHeld2
      clear hHeld2
      try simp only [Act.put, List.getElem_toArray, List.getElem_cons_succ, List.getElem_cons_zero, List.setIfInBounds_toArray, List.set_cons_zero, List.set_cons_succ]
      refine wpAnyH_ready (rs := [22]) (by kernel_rfl) (by simp) ?_
      refine AllReadyH.cons rfl (fun K hK => ?o30_22) AllReadyH.nil
      go_simp
      refine (sameK9 (M2.out.later hbK29) tf29.out (by decide) (by decide) (by decide) (by decide)).mono ?_
      rintro e K31 ⟨rfl, hc31⟩
      go_simp
      have hbK31 : Below V4.heap.size V4 K31 := hbK29.trans (hc31.mono hsK29)
      have hsK31 : V4.heap.size ≤ K31.heap.size := hbK31.size
      have w1K31 := w1K29.later hc31
      have w2K31 := tf29.out.later hc31
      have za12K31 := za12K29.later hc31
      have lta12K31 := za12K31.lt
      have za13K31 := za13K29.later hc31
      have lta13K31 := za13K31.lt
      have za19K31 := za19K29.later hc31
      have lta19K31 := za19K31.lt
      have za20K31 := za20K29.later hc31
      have lta20K31 := za20K31.lt
      refine hK.out _ _ (mkS _ hbK31) (fun hHeld2 => ?_)
      clear hK K hHeld
      have hHeld := hHeld2
      clear hHeld2
      try simp only [Act.put, List.getElem_toArray, List.getElem_cons_succ, List.getElem_cons_zero, List.setIfInBounds_toArray, List.set_cons_zero, List.set_cons_succ]
      refine todo [23, 24, 25] ?_
      iterate 3
       refine todoH (v := ?_) rfl (by kernel_rfl) (fun _ _ _ h => h) (by assumption) (Or.inl ⟨by rfl, ?_⟩) ?_
       rotate_left
       · intro w hSw; (try dsimp only at hSw); go_simp; (try with_reducible rfl)
       try simp only [Act.put, List.getElem_toArray, List.getElem_cons_succ, List.getElem_cons_zero, List.setIfInBounds_toArray, List.set_cons_zero, List.set_cons_succ]
      refine todone ?_
      refine wpAnyH_ready (rs := [26, 27]) (by kernel_rfl) (by simp) ?_
      refine AllReadyH.cons rfl (fun K hK => ?o35_26) (AllReadyH.cons rfl (fun K hK => ?o35_27) AllReadyH.nil)
      case o35_26 =>
        go_simp
        refine afterAlloc (fun K36 hc36 hl36 zn36 => ?_)
        have hbK36 : Below V4.heap.size V4 K36 := hbK31.trans (hc36.mono hsK31)
        have hsK36 : V4.heap.size ≤ K36.heap.size := hbK36.size
        have w1K36 := w1K31.later hc36
        have w2K36 := w2K31.later hc36
        have za12K36 := za12K31.later hc36
        have lta12K36 := za12K36.lt
        have za13K36 := za13K31.later hc36
        have lta13K36 := za13K36.lt
        have za19K36 := za19K31.later hc36
        have lta19K36 := za19K36.lt
        have za20K36 := za20K31.later hc36
        have lta20K36 := za20K36.lt
        refine hK.out _ _ (mkS _ hbK36) (fun hHeld2 => ?_)
        clear hK K hHeld
        have hHeld := hHeld2
        clear hHeld2
        try simp only [Act.put, List.getElem_toArray, List.getElem_cons_succ, List.getElem_cons_zero, List.setIfInBounds_toArray, List.set_cons_zero, List.set_cons_succ]
        refine wpAnyH_ready (rs := [27]) (by kernel_rfl) (by simp) ?_
        refine AllReadyH.cons rfl (fun K hK => ?o37_27) AllReadyH.nil
        go_simp
        refine afterAlloc (fun K38 hc38 hl38 zn38 => ?_)
        have hbK38 : Below V4.heap.size V4 K38 := hbK36.trans (hc38.mono hsK36)
        have hsK38 : V4.heap.size ≤ K38.heap.size := hbK38.size
        have w1K38 := w1K36.later hc38
        have w2K38 := w2K36.later hc38
        have za12K38 := za12K36.later hc38
        have lta12K38 := za12K38.lt
        have za13K38 := za13K36.later hc38
        have lta13K38 := za13K38.lt
        have za19K38 := za19K36.later hc38
        have lta19K38 := za19K38.lt
        have za20K38 := za20K36.later hc38
        have lta20K38 := za20K38.lt
        have za26K38 := zn36.later hc38
        have lta26K38 := za26K38.lt
        refine hK.out _ _ (mkS _ hbK38) (fun hHeld2 => ?_)
        clear hK K hHeld
        have hHeld := hHeld2
        clear hHeld2
        try simp only [Act.put, List.getElem_toArray, List.getElem_cons_succ, List.getElem_cons_zero, List.setIfInBounds_toArray, List.set_cons_zero, List.set_cons_succ]
        refine wpAnyH_ready (rs := [28]) (by kernel_rfl) (by simp) ?_
        refine AllReadyH.cons rfl (fun K hK => ?o39_28) AllReadyH.nil
        go_simp
        refine (whole9_any (s := [1, 3]) (xs := [0, 2, 3]) (Row.argS za26K38 [1, 3] rfl (widS (by decide))) some_not (Row.argS zn38 [0, 2, 3] rfl (widS (by decide))) (by decide) (by decide)).mono ?_
        rintro e K40 ⟨q40, rfl, tq40, hc40⟩
        have tf40 := Lib.hid tq40
        obtain ⟨_, _, _, _, rfl, _⟩ := tq40
        go_simp
        have hbK40 : Below V4.heap.size V4 K40 := hbK38.trans (hc40.mono hsK38)
        have hsK40 : V4.heap.size ≤ K40.heap.size := hbK40.size
        have w1K40 := w1K38.later hc40
        have w2K40 := w2K38.later hc40
        have za12K40 := za12K38.later hc40
        have lta12K40 := za12K40.lt
        have za13K40 := za13K38.later hc40
        have lta13K40 := za13K40.lt
        have za19K40 := za19K38.later hc40
        have lta19K40 := za19K40.lt
        have za20K40 := za20K38.later hc40
        have lta20K40 := za20K40.lt
        have za26K40 := za26K38.later hc40
        have lta26K40 := za26K40.lt
        have za27K40 := zn38.later hc40
        have lta27K40 := za27K40.lt
        refine hK.out _ _ (mkS _ hbK40) (fun hHeld2 => ?_)
        clear hK K hHeld
        have hHeld := hHeld2
        clear hHeld2
        try simp only [Act.put, List.getElem_toArray, List.getElem_cons_succ, List.getElem_cons_zero, List.setIfInBounds_toArray, List.set_cons_zero, List.set_cons_succ]
        refine wpAnyH_ready (rs := [29]) (by kernel_rfl) (by simp) ?_
        refine AllReadyH.cons rfl (fun K hK => ?o41_29) AllReadyH.nil
        go_simp
        refine (sameK9 (M3.out.later hbK40) tf40.out (by decide) (by decide) (by decide) (by decide)).mono ?_
        rintro e K42 ⟨rfl, hc42⟩
        go_simp
        have hbK42 : Below V4.heap.size V4 K42 := hbK40.trans (hc42.mono hsK40)
        have hsK42 : V4.heap.size ≤ K42.heap.size := hbK42.size
        have w1K42 := w1K40.later hc42
        have w2K42 := w2K40.later hc42
        have w3K42 := tf40.out.later hc42
        have za12K42 := za12K40.later hc42
        have lta12K42 := za12K42.lt
        have za13K42 := za13K40.later hc42
        have lta13K42 := za13K42.lt
        have za19K42 := za19K40.later hc42
        have lta19K42 := za19K42.lt
        have za20K42 := za20K40.later hc42
        have lta20K42 := za20K42.lt
        have za26K42 := za26K40.later hc42
        have lta26K42 := za26K42.lt
        have za27K42 := za27K40.later hc42
        have lta27K42 := za27K42.lt
        refine hK.out _ _ (mkS _ hbK42) (fun hHeld2 => ?_)
        clear hK K hHeld
        have hHeld := hHeld2
        clear hHeld2
        try simp only [Act.put, List.getElem_toArray, List.getElem_cons_succ, List.getElem_cons_zero, List.setIfInBounds_toArray, List.set_cons_zero, List.set_cons_succ]
        refine wpAnyH_take (i := 30) (v := ?vT43_30) rfl (by kernel_rfl) (by kernel_rfl) (by kernel_rfl) (fun _ _ _ h => h) (Or.inl ⟨by rfl, ?hT43_30⟩) (by assumption) ?rT43_30
        case hT43_30 =>
          intro w hSw
          try dsimp only at hSw
          go_simp
          try with_reducible rfl
        try simp only [Act.put, List.getElem_toArray, List.getElem_cons_succ, List.getElem_cons_zero, List.setIfInBounds_toArray, List.set_cons_zero, List.set_cons_succ]
        refine wpAnyH_ready (rs := [31]) (by kernel_rfl) (by simp) ?_
        refine AllReadyH.cons rfl (fun K hK => ?sD44_31) AllReadyH.nil
        go_simp
        refine hK.out _ _ ?kD44_31 (fun hHeld => ?mD44_31)
        case kD44_31 =>
          try dsimp only
          exact mkS _ hbK42
        clear hK K
        try simp only [Act.put, List.getElem_toArray, List.getElem_cons_succ, List.getElem_cons_zero, List.setIfInBounds_toArray, List.set_cons_zero, List.set_cons_succ]
        refine wpAnyH_done (by kernel_rfl) ?_ _
        (try dsimp only [Straight])
        go_wp2_with fail
        go_ret
        exact ⟨rfl, BU.trans (hbK42.mono BU.size)⟩
      case o35_27 =>
        go_simp
        refine afterAlloc (fun K45 hc45 hl45 zn45 => ?_)
        have hbK45 : Below V4.heap.size V4 K45 := hbK31.trans (hc45.mono hsK31)
        have hsK45 : V4.heap.size ≤ K45.heap.size := hbK45.size
        have w1K45 := w1K31.later hc45
        have w2K45 := w2K31.later hc45
        have za12K45 := za12K31.later hc45
        have lta12K45 := za12K45.lt
        have za13K45 := za13K31.later hc45
        have lta13K45 := za13K45.lt
        have za19K45 := za19K31.later hc45
        have lta19K45 := za19K45.lt
        have za20K45 := za20K31.later hc45
        have lta20K45 := za20K45.lt
        refine hK.out _ _ (mkS _ hbK45) (fun hHeld2 => ?_)
        clear hK K hHeld
        have hHeld := hHeld2
        clear hHeld2
        try simp only [Act.put, List.getElem_toArray, List.getElem_cons_succ, List.getElem_cons_zero, List.setIfInBounds_toArray, List.set_cons_zero, List.set_cons_succ]
        refine wpAnyH_ready (rs := [26]) (by kernel_rfl) (by simp) ?_
        refine AllReadyH.cons rfl (fun K hK => ?o46_26) AllReadyH.nil
        go_simp
        refine afterAlloc (fun K47 hc47 hl47 zn47 => ?_)
        have hbK47 : Below V4.heap.size V4 K47 := hbK45.trans (hc47.mono hsK45)
        have hsK47 : V4.heap.size ≤ K47.heap.size := hbK47.size
        have w1K47 := w1K45.later hc47
        have w2K47 := w2K45.later hc47
        have za12K47 := za12K45.later hc47
        have lta12K47 := za12K47.lt
        have za13K47 := za13K45.later hc47
        have lta13K47 := za13K47.lt
        have za19K47 := za19K45.later hc47
        have lta19K47 := za19K47.lt
        have za20K47 := za20K45.later hc47
        have lta20K47 := za20K47.lt
        have za27K47 := zn45.later hc47
        have lta27K47 := za27K47.lt
        refine hK.out _ _ (mkS _ hbK47) (fun hHeld2 => ?_)
        clear hK K hHeld
        have hHeld := hHeld2
        clear hHeld2
        try simp only [Act.put, List.getElem_toArray, List.getElem_cons_succ, List.getElem_cons_zero, List.setIfInBounds_toArray, List.set_cons_zero, List.set_cons_succ]
        refine wpAnyH_ready (rs := [28]) (by kernel_rfl) (by simp) ?_
        refine AllReadyH.cons rfl (fun K hK => ?o48_28) AllReadyH.nil
        go_simp
        refine (whole9_any (s := [1, 3]) (xs := [0, 2, 3]) (Row.argS zn47 [1, 3] rfl (widS (by decide))) some_not (Row.argS za27K47 [0, 2, 3] rfl (widS (by decide))) (by decide) (by decide)).mono ?_
        rintro e K49 ⟨q49, rfl, tq49, hc49⟩
        have tf49 := Lib.hid tq49
        obtain ⟨_, _, _, _, rfl, _⟩ := tq49
        go_simp
        have hbK49 : Below V4.heap.size V4 K49 := hbK47.trans (hc49.mono hsK47)
        have hsK49 : V4.heap.size ≤ K49.heap.size := hbK49.size
        have w1K49 := w1K47.later hc49
        have w2K49 := w2K47.later hc49
        have za12K49 := za12K47.later hc49
        have lta12K49 := za12K49.lt
        have za13K49 := za13K47.later hc49
        have lta13K49 := za13K49.lt
        have za19K49 := za19K47.later hc49
        have lta19K49 := za19K49.lt
        have za20K49 := za20K47.later hc49
        have lta20K49 := za20K49.lt
        have za27K49 := za27K47.later hc49
        have lta27K49 := za27K49.lt
        have za26K49 := zn47.later hc49
        have lta26K49 := za26K49.lt
        refine hK.out _ _ (mkS _ hbK49) (fun hHeld2 => ?_)
        clear hK K hHeld
        have hHeld := hHeld2
        clear hHeld2
        try simp only [Act.put, List.getElem_toArray, List.getElem_cons_succ, List.getElem_cons_zero, List.setIfInBounds_toArray, List.set_cons_zero, List.set_cons_succ]
        refine wpAnyH_ready (rs := [29]) (by kernel_rfl) (by simp) ?_
        refine AllReadyH.cons rfl (fun K hK => ?o50_29) AllReadyH.nil
        go_simp
        refine (sameK9 (M3.out.later hbK49) tf49.out (by decide) (by decide) (by decide) (by decide)).mono ?_
        rintro e K51 ⟨rfl, hc51⟩
        go_simp
        have hbK51 : Below V4.heap.size V4 K51 := hbK49.trans (hc51.mono hsK49)
        have hsK51 : V4.heap.size ≤ K51.heap.size := hbK51.size
        have w1K51 := w1K49.later hc51
        have w2K51 := w2K49.later hc51
        have w3K51 := tf49.out.later hc51
        have za12K51 := za12K49.later hc51
        have lta12K51 := za12K51.lt
        have za13K51 := za13K49.later hc51
        have lta13K51 := za13K51.lt
        have za19K51 := za19K49.later hc51
        have lta19K51 := za19K51.lt
        have za20K51 := za20K49.later hc51
        have lta20K51 := za20K51.lt
        have za27K51 := za27K49.later hc51
        have lta27K51 := za27K51.lt
        have za26K51 := za26K49.later hc51
        have lta26K51 := za26K51.lt
        refine hK.out _ _ (mkS _ hbK51) (fun hHeld2 => ?_)
        clear hK K hHeld
        have hHeld := hHeld2
        clear hHeld2
        try simp only [Act.put, List.getElem_toArray, List.getElem_cons_succ, List.getElem_cons_zero, List.setIfInBounds_toArray, List.set_cons_zero, List.set_cons_succ]
        refine wpAnyH_take (i := 30) (v := ?vT52_30) rfl (by kernel_rfl) (by kernel_rfl) (by kernel_rfl) (fun _ _ _ h => h) (Or.inl ⟨by rfl, ?hT52_30⟩) (by assumption) ?rT52_30
        case hT52_30 =>
          intro w hSw
          try dsimp only at hSw
          go_simp
          try with_reducible rfl
        try simp only [Act.put, List.getElem_toArray, List.getElem_cons_succ, List.getElem_cons_zero, List.setIfInBounds_toArray, List.set_cons_zero, List.set_cons_succ]
        refine wpAnyH_ready (rs := [31]) (by kernel_rfl) (by simp) ?_
        refine AllReadyH.cons rfl (fun K hK => ?sD53_31) AllReadyH.nil
        go_simp
        refine hK.out _ _ ?kD53_31 (fun hHeld => ?mD53_31)
        case kD53_31 =>
          try dsimp only
          exact mkS _ hbK51
        clear hK K
        try simp only [Act.put, List.getElem_toArray, List.getElem_cons_succ, List.getElem_cons_zero, List.setIfInBounds_toArray, List.set_cons_zero, List.set_cons_succ]
        refine wpAnyH_done (by kernel_rfl) ?_ _
        (try dsimp only [Straight])
        go_wp2_with fail
        go_ret
        exact ⟨rfl, BU.trans (hbK51.mono BU.size)⟩
    case o24_20 =>
      go_simp
      refine afterAlloc (fun K54 hc54 hl54 zn54 => ?_)
      have hbK54 : Below V4.heap.size V4 K54 := hbK20.trans (hc54.mono hsK20)
      have hsK54 : V4.heap.size ≤ K54.heap.size := hbK54.size
      have w1K54 := w1K20.later hc54
      have za12K54 := za12K20.later hc54
      have lta12K54 := za12K54.lt
      have za13K54 := za13K20.later hc54
      have lta13K54 := za13K54.lt
      refine hK.out _ _ (mkS _ hbK54) (fun hHeld2 => ?_)
      clear hK K hHeld
      have hHeld := hHeld2
      clear hHeld2
      try simp only [Act.put, List.getElem_toArray, List.getElem_cons_succ, List.getElem_cons_zero, List.setIfInBounds_toArray, List.set_cons_zero, List.set_cons_succ]
      refine wpAnyH_ready (rs := [19]) (by kernel_rfl) (by simp) ?_
      refine AllReadyH.cons rfl (fun K hK => ?o55_19) AllReadyH.nil
      go_simp
      refine afterAlloc (fun K56 hc56 hl56 zn56 => ?_)
      have hbK56 : Below V4.heap.size V4 K56 := hbK54.trans (hc56.mono hsK54)
      have hsK56 : V4.heap.size ≤ K56.heap.size := hbK56.size
      have w1K56 := w1K54.later hc56
      have za12K56 := za12K54.later hc56
      have lta12K56 := za12K56.lt
      have za13K56 := za13K54.later hc56
      have lta13K56 := za13K56.lt
      have za20K56 := zn54.later hc56
      have lta20K56 := za20K56.lt
      refine hK.out _ _ (mkS _ hbK56) (fun hHeld2 => ?_)
      clear hK K hHeld
      have hHeld := hHeld2
      clear hHeld2
      try simp only [Act.put, List.getElem_toArray, List.getElem_cons_succ, List.getElem_cons_zero, List.setIfInBounds_toArray, List.set_cons_zero, List.set_cons_succ]
      refine wpAnyH_ready (rs := [21]) (by kernel_rfl) (by simp) ?_
      refine AllReadyH.cons rfl (fun K hK => ?o57_21) AllReadyH.nil
      go_simp
      refine (whole9_any (s := [1, 2]) (xs := [2, 3]) (Row.argS zn56 [1, 2] rfl (widS (by decide))) some_not (Row.argS za20K56 [2, 3] rfl (widS (by decide))) (by decide) (by decide)).mono ?_
      rintro e K58 ⟨q58, rfl, tq58, hc58⟩
      have tf58 := Lib.hid tq58
      obtain ⟨_, _, _, _, rfl, _⟩ := tq58
      go_simp
      have hbK58 : Below V4.heap.size V4 K58 := hbK56.trans (hc58.mono hsK56)
      have hsK58 : V4.heap.size ≤ K58.heap.size := hbK58.size
      have w1K58 := w1K56.later hc58
      have za12K58 := za12K56.later hc58
      have lta12K58 := za12K58.lt
      have za13K58 := za13K56.later hc58
      have lta13K58 := za13K58.lt
      have za20K58 := za20K56.later hc58
      have lta20K58 := za20K58.lt
      have za19K58 := zn56.later hc58
      have lta19K58 := za19K58.lt
      refine hK.out _ _ (mkS _ hbK58) (fun hHeld2 => ?_)
      clear hK K hHeld
      have hHeld := hHeld2
      clear hHeld2
      try simp only [Act.put, List.getElem_toArray, List.getElem_cons_succ, List.getElem_cons_zero, List.setIfInBounds_toArray, List.set_cons_zero, List.set_cons_succ]
      refine wpAnyH_ready (rs := [22]) (by kernel_rfl) (by simp) ?_
      refine AllReadyH.cons rfl (fun K hK => ?o59_22) AllReadyH.nil
      go_simp
      refine (sameK9 (M2.out.later hbK58) tf58.out (by decide) (by decide) (by decide) (by decide)).mono ?_
      rintro e K60 ⟨rfl, hc60⟩
      go_simp
      have hbK60 : Below V4.heap.size V4 K60 := hbK58.trans (hc60.mono hsK58)
      have hsK60 : V4.heap.size ≤ K60.heap.size := hbK60.size
      have w1K60 := w1K58.later hc60
      have w2K60 := tf58.out.later hc60
      have za12K60 := za12K58.later hc60
      have lta12K60 := za12K60.lt
      have za13K60 := za13K58.later hc60
      have lta13K60 := za13K60.lt
      have za20K60 := za20K58.later hc60
      have lta20K60 := za20K60.lt
      have za19K60 := za19K58.later hc60
      have lta19K60 := za19K60.lt
      refine hK.out _ _ (mkS _ hbK60) (fun hHeld2 => ?_)
      clear hK K hHeld
      have hHeld := hHeld2
      clear hHeld2
      try simp only [Act.put, List.getElem_toArray, List.getElem_cons_succ, List.getElem_cons_zero, List.setIfInBounds_toArray, List.set_cons_zero, List.set_cons_succ]
      refine todo [23, 24, 25] ?_
      iterate 3
       refine todoH (v := ?_) rfl (by kernel_rfl) (fun _ _ _ h => h) (by assumption) (Or.inl ⟨by rfl, ?_⟩) ?_
       rotate_left
       · intro w hSw; (try dsimp only at hSw); go_simp; (try with_reducible rfl)
       try simp only [Act.put, List.getElem_toArray, List.getElem_cons_succ, List.getElem_cons_zero, List.setIfInBounds_toArray, List.set_cons_zero, List.set_cons_succ]
      refine todone ?_
      refine wpAnyH_ready (rs := [26, 27]) (by kernel_rfl) (by simp) ?_
      refine AllReadyH.cons rfl (fun K hK => ?o64_26) (AllReadyH.cons rfl (fun K hK => ?o64_27) AllReadyH.nil)
      case o64_26 =>
        go_simp
        refine afterAlloc (fun K65 hc65 hl65 zn65 => ?_)
        have hbK65 : Below V4.heap.size V4 K65 := hbK60.trans (hc65.mono hsK60)
        have hsK65 : V4.heap.size ≤ K65.heap.size := hbK65.size
        have w1K65 := w1K60.later hc65
        have w2K65 := w2K60.later hc65
        have za12K65 := za12K60.later hc65
        have lta12K65 := za12K65.lt
        have za13K65 := za13K60.later hc65
        have lta13K65 := za13K65.lt
        have za20K65 := za20K60.later hc65
        have lta20K65 := za20K65.lt
        have za19K65 := za19K60.later hc65
        have lta19K65 := za19K65.lt
        refine hK.out _ _ (mkS _ hbK65) (fun hHeld2 => ?_)
        clear hK K hHeld
        have hHeld := hHeld2
        clear hHeld2
        try simp only [Act.put, List.getElem_toArray, List.getElem_cons_succ, List.getElem_cons_zero, List.setIfInBounds_toArray, List.set_cons_zero, List.set_cons_succ]
        refine wpAnyH_ready (rs := [27]) (by kernel_rfl) (by simp) ?_
        refine AllReadyH.cons rfl (fun K hK => ?o66_27) AllReadyH.nil
        go_simp
        refine afterAlloc (fun K67 hc67 hl67 zn67 => ?_)
        have hbK67 : Below V4.heap.size V4 K67 := hbK65.trans (hc67.mono hsK65)
        have hsK67 : V4.heap.size ≤ K67.heap.size := hbK67.size
        have w1K67 := w1K65.later hc67
        have w2K67 := w2K65.later hc67
        have za12K67 := za12K65.later hc67
        have lta12K67 := za12K67.lt
        have za13K67 := za13K65.later hc67
        have lta13K67 := za13K67.lt
        have za20K67 := za20K65.later hc67
        have lta20K67 := za20K67.lt
        have za19K67 := za19K65.later hc67
        have lta19K67 := za19K67.lt
        have za26K67 := zn65.later hc67
        have lta26K67 := za26K67.lt
        refine hK.out _ _ (mkS _ hbK67) (fun hHeld2 => ?_)
        clear hK K hHeld
        have hHeld := hHeld2
        clear hHeld2
        try simp only [Act.put, List.getElem_toArray, List.getElem_cons_succ, List.getElem_cons_zero, List.setIfInBounds_toArray, List.set_cons_zero, List.set_cons_succ]
        refine wpAnyH_ready (rs := [28]) (by kernel_rfl) (by simp) ?_
        refine AllReadyH.cons rfl (fun K hK => ?o68_28) AllReadyH.nil
        go_simp
        refine (whole9_any (s := [1, 3]) (xs := [0, 2, 3]) (Row.argS za26K67 [1, 3] rfl (widS (by decide))) some_not (Row.argS zn67 [0, 2, 3] rfl (widS (by decide))) (by decide) (by decide)).mono ?_
        rintro e K69 ⟨q69, rfl, tq69, hc69⟩
        have tf69 := Lib.hid tq69
        obtain ⟨_, _, _, _, rfl, _⟩ := tq69
        go_simp
        have hbK69 : Below V4.heap.size V4 K69 := hbK67.trans (hc69.mono hsK67)
        have hsK69 : V4.heap.size ≤ K69.heap.size := hbK69.size
        have w1K69 := w1K67.later hc69
        have w2K69 := w2K67.later hc69
        have za12K69 := za12K67.later hc69
        have lta12K69 := za12K69.lt
        have za13K69 := za13K67.later hc69
        have lta13K69 := za13K69.lt
        have za20K69 := za20K67.later hc69
        have lta20K69 := za20K69.lt
        have za19K69 := za19K67.later hc69
        have lta19K69 := za19K69.lt
        have za26K69 := za26K67.later hc69
        have lta26K69 := za26K69.lt
        have za27K69 := zn67.later hc69
        have lta27K69 := za27K69.lt
        refine hK.out _ _ (mkS _ hbK69) (fun hHeld2 => ?_)
        clear hK K hHeld
        have hHeld := hHeld2
        clear hHeld2
        try simp only [Act.put, List.getElem_toArray, List.getElem_cons_succ, List.getElem_cons_zero, List.setIfInBounds_toArray, List.set_cons_zero, List.set_cons_succ]
        refine wpAnyH_ready (rs := [29]) (by kernel_rfl) (by simp) ?_
        refine AllReadyH.cons rfl (fun K hK => ?o70_29) AllReadyH.nil
        go_simp
        refine (sameK9 (M3.out.later hbK69) tf69.out (by decide) (by decide) (by decide) (by decide)).mono ?_
        rintro e K71 ⟨rfl, hc71⟩
        go_simp
        have hbK71 : Below V4.heap.size V4 K71 := hbK69.trans (hc71.mono hsK69)
        have hsK71 : V4.heap.size ≤ K71.heap.size := hbK71.size
        have w1K71 := w1K69.later hc71
        have w2K71 := w2K69.later hc71
        have w3K71 := tf69.out.later hc71
        have za12K71 := za12K69.later hc71
        have lta12K71 := za12K71.lt
        have za13K71 := za13K69.later hc71
        have lta13K71 := za13K71.lt
        have za20K71 := za20K69.later hc71
        have lta20K71 := za20K71.lt
        have za19K71 := za19K69.later hc71
        have lta19K71 := za19K71.lt
        have za26K71 := za26K69.later hc71
        have lta26K71 := za26K71.lt
        have za27K71 := za27K69.later hc71
        have lta27K71 := za27K71.lt
        refine hK.out _ _ (mkS _ hbK71) (fun hHeld2 => ?_)
        clear hK K hHeld
        have hHeld := hHeld2
        clear hHeld2
        try simp only [Act.put, List.getElem_toArray, List.getElem_cons_succ, List.getElem_cons_zero, List.setIfInBounds_toArray, List.set_cons_zero, List.set_cons_succ]
        refine wpAnyH_take (i := 30) (v := ?vT72_30) rfl (by kernel_rfl) (by kernel_rfl) (by kernel_rfl) (fun _ _ _ h => h) (Or.inl ⟨by rfl, ?hT72_30⟩) (by assumption) ?rT72_30
        case hT72_30 =>
          intro w hSw
          try dsimp only at hSw
          go_simp
          try with_reducible rfl
        try simp only [Act.put, List.getElem_toArray, List.getElem_cons_succ, List.getElem_cons_zero, List.setIfInBounds_toArray, List.set_cons_zero, List.set_cons_succ]
        refine wpAnyH_ready (rs := [31]) (by kernel_rfl) (by simp) ?_
        refine AllReadyH.cons rfl (fun K hK => ?sD73_31) AllReadyH.nil
        go_simp
        refine hK.out _ _ ?kD73_31 (fun hHeld => ?mD73_31)
        case kD73_31 =>
          try dsimp only
          exact mkS _ hbK71
        clear hK K
        try simp only [Act.put, List.getElem_toArray, List.getElem_cons_succ, List.getElem_cons_zero, List.setIfInBounds_toArray, List.set_cons_zero, List.set_cons_succ]
        refine wpAnyH_done (by kernel_rfl) ?_ _
        (try dsimp only [Straight])
        go_wp2_with fail
        go_ret
        exact ⟨rfl, BU.trans (hbK71.mono BU.size)⟩
      case o64_27 =>
        go_simp
        refine afterAlloc (fun K74 hc74 hl74 zn74 => ?_)
        have hbK74 : Below V4.heap.size V4 K74 := hbK60.trans (hc74.mono hsK60)
        have hsK74 : V4.heap.size ≤ K74.heap.size := hbK74.size
        have w1K74 := w1K60.later hc74
        have w2K74 := w2K60.later hc74
        have za12K74 := za12K60.later hc74
        have lta12K74 := za12K74.lt
        have za13K74 := za13K60.later hc74
        have lta13K74 := za13K74.lt
        have za20K74 := za20K60.later hc74
        have lta20K74 := za20K74.lt
        have za19K74 := za19K60.later hc74
        have lta19K74 := za19K74.lt
        refine hK.out _ _ (mkS _ hbK74) (fun hHeld2 => ?_)
        clear hK K hHeld
        have hHeld := hHeld2
        clear hHeld2
        try simp only [Act.put, List.getElem_toArray, List.getElem_cons_succ, List.getElem_cons_zero, List.setIfInBounds_toArray, List.set_cons_zero, List.set_cons_succ]
        refine wpAnyH_ready (rs := [26]) (by kernel_rfl) (by simp) ?_
        refine AllReadyH.cons rfl (fun K hK => ?o75_26) AllReadyH.nil
        go_simp
        refine afterAlloc (fun K76 hc76 hl76 zn76 => ?_)
        have hbK76 : Below V4.heap.size V4 K76 := hbK74.trans (hc76.mono hsK74)
        have hsK76 : V4.heap.size ≤ K76.heap.size := hbK76.size
        have w1K76 := w1K74.later hc76
        have w2K76 := w2K74.later hc76
        have za12K76 := za12K74.later hc76
        have lta12K76 := za12K76.lt
        have za13K76 := za13K74.later hc76
        have lta13K76 := za13K76.lt
        have za20K76 := za20K74.later hc76
        have lta20K76 := za20K76.lt
        have za19K76 := za19K74.later hc76
        have lta19K76 := za19K76.lt
        have za27K76 := zn74.later hc76
        have lta27K76 := za27K76.lt
        refine hK.out _ _ (mkS _ hbK76) (fun hHeld2 => ?_)
        clear hK K hHeld
        have hHeld := hHeld2
        clear hHeld2
        try simp only [Act.put, List.getElem_toArray, List.getElem_cons_succ, List.getElem_cons_zero, List.setIfInBounds_toArray, List.set_cons_zero, List.set_cons_succ]
        refine wpAnyH_ready (rs := [28]) (by kernel_rfl) (by simp) ?_
        refine AllReadyH.cons rfl (fun K hK => ?o77_28) AllReadyH.nil
        go_simp
        refine (whole9_any (s := [1, 3]) (xs := [0, 2, 3]) (Row.argS zn76 [1, 3] rfl (widS (by decide))) some_not (Row.argS za27K76 [0, 2, 3] rfl (widS (by decide))) (by decide) (by decide)).mono ?_
        rintro e K78 ⟨q78, rfl, tq78, hc78⟩
        have tf78 := Lib.hid tq78
        obtain ⟨_, _, _, _, rfl, _⟩ := tq78
        go_simp
        have hbK78 : Below V4.heap.size V4 K78 := hbK76.trans (hc78.mono hsK76)
        have hsK78 : V4.heap.size ≤ K78.heap.size := hbK78.size
        have w1K78 := w1K76.later hc78
        have w2K78 := w2K76.later hc78
        have za12K78 := za12K76.later hc78
        have lta12K78 := za12K78.lt
        have za13K78 := za13K76.later hc78
        have lta13K78 := za13K78.lt
        have za20K78 := za20K76.later hc78
        have lta20K78 := za20K78.lt
        have za19K78 := za19K76.later hc78
        have lta19K78 := za19K78.lt
        have za27K78 := za27K76.later hc78
        have lta27K78 := za27K78.lt
        have za26K78 := zn76.later hc78
        have lta26K78 := za26K78.lt
        refine hK.out _ _ (mkS _ hbK78) (fun hHeld2 => ?_)
        clear hK K hHeld
        have hHeld := hHeld2
        clear hHeld2
        try simp only [Act.put, List.getElem_toArray, List.getElem_cons_succ, List.getElem_cons_zero, List.setIfInBounds_toArray, List.set_cons_zero, List.set_cons_succ]
        refine wpAnyH_ready (rs := [29]) (by kernel_rfl) (by simp) ?_
        refine AllReadyH.cons rfl (fun K hK => ?o79_29) AllReadyH.nil
        go_simp
        refine (sameK9 (M3.out.later hbK78) tf78.out (by decide) (by decide) (by decide) (by decide)).mono ?_
        rintro e K80 ⟨rfl, hc80⟩
        go_simp
        have hbK80 : Below V4.heap.size V4 K80 := hbK78.trans (hc80.mono hsK78)
        have hsK80 : V4.heap.size ≤ K80.heap.size := hbK80.size
        have w1K80 := w1K78.later hc80
        have w2K80 := w2K78.later hc80
        have w3K80 := tf78.out.later hc80
        have za12K80 := za12K78.later hc80
        have lta12K80 := za12K80.lt
        have za13K80 := za13K78.later hc80
        have lta13K80 := za13K80.lt
        have za20K80 := za20K78.later hc80
        have lta20K80 := za20K80.lt
        have za19K80 := za19K78.later hc80
        have lta19K80 := za19K80.lt
        have za27K80 := za27K78.later hc80
        have lta27K80 := za27K80.lt
        have za26K80 := za26K78.later hc80
        have lta26K80 := za26K80.lt
        refine hK.out _ _ (mkS _ hbK80) (fun hHeld2 => ?_)
        clear hK K hHeld
        have hHeld := hHeld2
        clear hHeld2
        try simp only [Act.put, List.getElem_toArray, List.getElem_cons_succ, List.getElem_cons_zero, List.setIfInBounds_toArray, List.set_cons_zero, List.set_cons_succ]
        refine wpAnyH_take (i := 30) (v := ?vT81_30) rfl (by kernel_rfl) (by kernel_rfl) (by kernel_rfl) (fun _ _ _ h => h) (Or.inl ⟨by rfl, ?hT81_30⟩) (by assumption) ?rT81_30
        case hT81_30 =>
          intro w hSw
          try dsimp only at hSw
          go_simp
          try with_reducible rfl
        try simp only [Act.put, List.getElem_toArray, List.getElem_cons_succ, List.getElem_cons_zero, List.setIfInBounds_toArray, List.set_cons_zero, List.set_cons_succ]
        refine wpAnyH_ready (rs := [31]) (by kernel_rfl) (by simp) ?_
        refine AllReadyH.cons rfl (fun K hK => ?sD82_31) AllReadyH.nil
        go_simp
        refine hK.out _ _ ?kD82_31 (fun hHeld => ?mD82_31)
        case kD82_31 =>
          try dsimp only
          exact mkS _ hbK80
        clear hK K
        try simp only [Act.put, List.getElem_toArray, List.getElem_cons_succ, List.getElem_cons_zero, List.setIfInBounds_toArray, List.set_cons_zero, List.set_cons_succ]
        refine wpAnyH_done (by kernel_rfl) ?_ _
        (try dsimp only [Straight])
        go_wp2_with fail
        go_ret
        exact ⟨rfl, BU.trans (hbK80.mono BU.size)⟩
  case o13_13 =>
    go_simp
    refine afterAlloc (fun K83 hc83 hl83 zn83 => ?_)
    have hbK83 : Below V4.heap.size V4 K83 := hb0.trans (hc83.mono hs0)
    have hsK83 : V4.heap.size ≤ K83.heap.size := hbK83.size
    refine hK.out _ _ (mkS _ hbK83) (fun hHeld2 => ?_)
    clear hK K hHeld
    have hHeld := hHeld2
    clear hHeld2
    try simp only [Act.put, List.getElem_toArray, List.getElem_cons_succ, List.getElem_cons_zero, List.setIfInBounds_toArray, List.set_cons_zero, List.set_cons_succ]
    refine wpAnyH_ready (rs := [12]) (by kernel_rfl) (by simp) ?_
    refine AllReadyH.cons rfl (fun K hK => ?o84_12) AllReadyH.nil
    go_simp
    refine afterAlloc (fun K85 hc85 hl85 zn85 => ?_)
    have hbK85 : Below V4.heap.size V4 K85 := hbK83.trans (hc85.mono hsK83)
    have hsK85 : V4.heap.size ≤ K85.heap.size := hbK85.size
    have za13K85 := zn83.later hc85
    have lta13K85 := za13K85.lt
    refine hK.out _ _ (mkS _ hbK85) (fun hHeld2 => ?_)
    clear hK K hHeld
    have hHeld := hHeld2
    clear hHeld2
    try simp only [Act.put, List.getElem_toArray, List.getElem_cons_succ, List.getElem_cons_zero, List.setIfInBounds_toArray, List.set_cons_zero, List.set_cons_succ]
    refine wpAnyH_ready (rs := [14]) (by kernel_rfl) (by simp) ?_
    refine AllReadyH.cons rfl (fun K hK => ?o86_14) AllReadyH.nil
    go_simp
    refine (whole9_any (s := [3, 2]) (xs := [1, 4, 2, 5, 3, 6]) (Row.argS zn85 [3, 2] rfl (widS (by decide))) some_not (Row.argS za13K85 [1, 4, 2, 5, 3, 6] rfl (widS (by decide))) (by decide) (by decide)).mono ?_
    rintro e K87 ⟨q87, rfl, tq87, hc87⟩
    have tf87 := Lib.hid tq87
    obtain ⟨_, _, _, _, rfl, _⟩ := tq87
    go_simp
    have hbK87 : Below V4.heap.size V4 K87 := hbK85.trans (hc87.mono hsK85)
    have hsK87 : V4.heap.size ≤ K87.heap.size := hbK87.size
    have za13K87 := za13K85.later hc87
    have lta13K87 := za13K87.lt
    have za12K87 := zn85.later hc87
    have lta12K87 := za12K87.lt
    refine hK.out _ _ (mkS _ hbK87) (fun hHeld2 => ?_)
    clear hK K hHeld
    have hHeld := hHeld2
    clear hHeld2
    try simp only [Act.put, List.getElem_toArray, List.getElem_cons_succ, List.getElem_cons_zero, List.setIfInBounds_toArray, List.set_cons_zero, List.set_cons_succ]
    refine wpAnyH_ready (rs := [15]) (by kernel_rfl) (by simp) ?_
    refine AllReadyH.cons rfl (fun K hK => ?o88_15) AllReadyH.nil
    go_simp
    refine (sameK9 (M1.out.later hbK87) tf87.out (by decide) (by decide) (by decide) (by decide)).mono ?_
    rintro e K89 ⟨rfl, hc89⟩
    go_simp
    have hbK89 : Below V4.heap.size V4 K89 := hbK87.trans (hc89.mono hsK87)
    have hsK89 : V4.heap.size ≤ K89.heap.size := hbK89.size
    have w1K89 := tf87.out.later hc89
    have za13K89 := za13K87.later hc89
    have lta13K89 := za13K89.lt
    have za12K89 := za12K87.later hc89
    have lta12K89 := za12K89.lt
    refine hK.out _ _ (mkS _ hbK89) (fun hHeld2 => ?_)
    clear hK K hHeld
    have hHeld := hHeld2
    clear hHeld2
    try simp only [Act.put, List.getElem_toArray, List.getElem_cons_succ, List.getElem_cons_zero, List.setIfInBounds_toArray, List.set_cons_zero, List.set_cons_succ]
    refine todo [16, 17, 18] ?_
    iterate 3
     refine todoH (v := ?_) rfl (by kernel_rfl) (fun _ _ _ h => h) (by assumption) (Or.inl ⟨by rfl, ?_⟩) ?_
     rotate_left
     · intro w hSw; (try dsimp only at hSw); go_simp; (try with_reducible rfl)
     try simp only [Act.put, List.getElem_toArray, List.getElem_cons_succ, List.getElem_cons_zero, List.setIfInBounds_toArray, List.set_cons_zero, List.set_cons_succ]
    refine todone ?_
    refine wpAnyH_ready (rs := [19, 20]) (by kernel_rfl) (by simp) ?_
    refine AllReadyH.cons rfl (fun K hK => ?o93_19) (AllReadyH.cons rfl (fun K hK => ?o93_20) AllReadyH.nil)
    case o93_19 =>
      go_simp
      refine afterAlloc (fun K94 hc94 hl94 zn94 => ?_)
      have hbK94 : Below V4.heap.size V4 K94 := hbK89.trans (hc94.mono hsK89)
      have hsK94 : V4.heap.size ≤ K94.heap.size := hbK94.size
      have w1K94 := w1K89.later hc94
      have za13K94 := za13K89.later hc94
      have lta13K94 := za13K94.lt
      have za12K94 := za12K89.later hc94
      have lta12K94 := za12K94.lt
      refine hK.out _ _ (mkS _ hbK94) (fun hHeld2 => ?_)
      clear hK K hHeld
      have hHeld := hHeld2
      clear hHeld2
      try simp only [Act.put, List.getElem_toArray, List.getElem_cons_succ, List.getElem_cons_zero, List.setIfInBounds_toArray, List.set_cons_zero, List.set_cons_succ]
      refine wpAnyH_ready (rs := [20]) (by kernel_rfl) (by simp) ?_
      refine AllReadyH.cons rfl (fun K hK => ?o95_20) AllReadyH.nil
      go_simp
      refine afterAlloc (fun K96 hc96 hl96 zn96 => ?_)
      have hbK96 : Below V4.heap.size V4 K96 := hbK94.trans (hc96.mono hsK94)
      have hsK96 : V4.heap.size ≤ K96.heap.size := hbK96.size
      have w1K96 := w1K94.later hc96
      have za13K96 := za13K94.later hc96
      have lta13K96 := za13K96.lt
      have za12K96 := za12K94.later hc96
      have lta12K96 := za12K96.lt
      have za19K96 := zn94.later hc96
      have lta19K96 := za19K96.lt
      refine hK.out _ _ (mkS _ hbK96) (fun hHeld2 => ?_)
      clear hK K hHeld
      have hHeld := hHeld2
      clear hHeld2
      try simp only [Act.put, List.getElem_toArray, List.getElem_cons_succ, List.getElem_cons_zero, List.setIfInBounds_toArray, List.set_cons_zero, List.set_cons_succ]
      refine wpAnyH_ready (rs := [21]) (by kernel_rfl) (by simp) ?_
      refine AllReadyH.cons rfl (fun K hK => ?o97_21) AllReadyH.nil
      go_simp
      refine (whole9_any (s := [1, 2]) (xs := [2, 3]) (Row.argS za19K96 [1, 2] rfl (widS (by decide))) some_not (Row.argS zn96 [2, 3] rfl (widS (by decide))) (by decide) (by decide)).mono ?_
      rintro e K98 ⟨q98, rfl, tq98, hc98⟩
      have tf98 := Lib.hid tq98
      obtain ⟨_, _, _, _, rfl, _⟩ := tq98
      go_simp
      have hbK98 : Below V4.heap.size V4 K98 := hbK96.trans (hc98.mono hsK96)
      have hsK98 : V4.heap.size ≤ K98.heap.size := hbK98.size
      have w1K98 := w1K96.later hc98
      have za13K98 := za13K96.later hc98
      have lta13K98 := za13K98.lt
      have za12K98 := za12K96.later hc98
      have lta12K98 := za12K98.lt
      have za19K98 := za19K96.later hc98
      have lta19K98 := za19K98.lt
      have za20K98 := zn96.later hc98
      have lta20K98 := za20K98.lt
      refine hK.out _ _ (mkS _ hbK98) (fun hHeld2 => ?_)
      clear hK K hHeld
      have hHeld := hHeld2
      clear hHeld2
      try simp only [Act.put, List.getElem_toArray, List.getElem_cons_succ, List.getElem_cons_zero, List.setIfInBounds_toArray, List.set_cons_zero, List.set_cons_succ]
      refine wpAnyH_ready (rs := [22]) (by kernel_rfl) (by simp) ?_
      refine AllReadyH.cons rfl (fun K hK => ?o99_22) AllReadyH.nil
      go_simp
      refine (sameK9 (M2.out.later hbK98) tf98.out (by decide) (by decide) (by decide) (by decide)).mono ?_
      rintro e K100 ⟨rfl, hc100⟩
      go_simp
      have hbK100 : Below V4.heap.size V4 K100 := hbK98.trans (hc100.mono hsK98)
      have hsK100 : V4.heap.size ≤ K100.heap.size := hbK100.size
      have w1K100 := w1K98.later hc100
      have w2K100 := tf98.out.later hc100
      have za13K100 := za13K98.later hc100
      have lta13K100 := za13K100.lt
      have za12K100 := za12K98.later hc100
      have lta12K100 := za12K100.lt
      have za19K100 := za19K98.later hc100
      have lta19K100 := za19K100.lt
      have za20K100 := za20K98.later hc100
      have lta20K100 := za20K100.lt
      refine hK.out _ _ (mkS _ hbK100) (fun hHeld2 => ?_)
      clear hK K hHeld
      have hHeld := hHeld2
      clear hHeld2
      try simp only [Act.put, List.getElem_toArray, List.getElem_cons_succ, List.getElem_cons_zero, List.setIfInBounds_toArray, List.set_cons_zero, List.set_cons_succ]
      refine todo [23, 24, 25] ?_
      iterate 3
       refine todoH (v := ?_) rfl (by kernel_rfl) (fun _ _ _ h => h) (by assumption) (Or.inl ⟨by rfl, ?_⟩) ?_
       rotate_left
       · intro w hSw; (try dsimp only at hSw); go_simp; (try with_reducible rfl)
       try simp only [Act.put, List.getElem_toArray, List.getElem_cons_succ, List.getElem_cons_zero, List.setIfInBounds_toArray, List.set_cons_zero, List.set_cons_succ]
      refine todone ?_
      refine wpAnyH_ready (rs := [26, 27]) (by kernel_rfl) (by simp) ?_
      refine AllReadyH.cons rfl (fun K hK => ?o104_26) (AllReadyH.cons rfl (fun K hK => ?o104_27) AllReadyH.nil)
      case o104_26 =>
        go_simp
        refine afterAlloc (fun K105 hc105 hl105 zn105 => ?_)
        have hbK105 : Below V4.heap.size V4 K105 := hbK100.trans (hc105.mono hsK100)
        have hsK105 : V4.heap.size ≤ K105.heap.size := hbK105.size
        have w1K105 := w1K100.later hc105
        have w2K105 := w2K100.later hc105
        have za13K105 := za13K100.later hc105
        have lta13K105 := za13K105.lt
        have za12K105 := za12K100.later hc105
        have lta12K105 := za12K105.lt
        have za19K105 := za19K100.later hc105
        have lta19K105 := za19K105.lt
        have za20K105 := za20K100.later hc105
        have lta20K105 := za20K105.lt
        refine hK.out _ _ (mkS _ hbK105) (fun hHeld2 => ?_)
        clear hK K hHeld
        have hHeld := hHeld2
        clear hHeld2
        try simp only [Act.put, List.getElem_toArray, List.getElem_cons_succ, List.getElem_cons_zero, List.setIfInBounds_toArray, List.set_cons_zero, List.set_cons_succ]
        refine wpAnyH_ready (rs := [27]) (by kernel_rfl) (by simp) ?_
        refine AllReadyH.cons rfl (fun K hK => ?o106_27) AllReadyH.nil
        go_simp
        refine afterAlloc (fun K107 hc107 hl107 zn107 => ?_)
        have hbK107 : Below V4.heap.size V4 K107 := hbK105.trans (hc107.mono hsK105)
        have hsK107 : V4.heap.size ≤ K107.heap.size := hbK107.size
        have w1K107 := w1K105.later hc107
        have w2K107 := w2K105.later hc107
        have za13K107 := za13K105.later hc107
        have lta13K107 := za13K107.lt
        have za12K107 := za12K105.later hc107
        have lta12K107 := za12K107.lt
        have za19K107 := za19K105.later hc107
        have lta19K107 := za19K107.lt
        have za20K107 := za20K105.later hc107
        have lta20K107 := za20K107.lt
        have za26K107 := zn105.later hc107
        have lta26K107 := za26K107.lt
        refine hK.out _ _ (mkS _ hbK107) (fun hHeld2 => ?_)
        clear hK K hHeld
        have hHeld := hHeld2
        clear hHeld2
        try simp only [Act.put, List.getElem_toArray, List.getElem_cons_succ, List.getElem_cons_zero, List.setIfInBounds_toArray, List.set_cons_zero, List.set_cons_succ]
        refine wpAnyH_ready (rs := [28]) (by kernel_rfl) (by simp) ?_
        refine AllReadyH.cons rfl (fun K hK => ?o108_28) AllReadyH.nil
        go_simp
        refine (whole9_any (s := [1, 3]) (xs := [0, 2, 3]) (Row.argS za26K107 [1, 3] rfl (widS (by decide))) some_not (Row.argS zn107 [0, 2, 3] rfl (widS (by decide))) (by decide) (by decide)).mono ?_
        rintro e K109 ⟨q109, rfl, tq109, hc109⟩
        have tf109 := Lib.hid tq109
        obtain ⟨_, _, _, _, rfl, _⟩ := tq109
        go_simp
        have hbK109 : Below V4.heap.size V4 K109 := hbK107.trans (hc109.mono hsK107)
        have hsK109 : V4.heap.size ≤ K109.heap.size := hbK109.size
        have w1K109 := w1K107.later hc109
        have w2K109 := w2K107.later hc109
        have za13K109 := za13K107.later hc109
        have lta13K109 := za13K109.lt
        have za12K109 := za12K107.later hc109
        have lta12K109 := za12K109.lt
        have za19K109 := za19K107.later hc109
        have lta19K109 := za19K109.lt
        have za20K109 := za20K107.later hc109
        have lta20K109 := za20K109.lt
        have za26K109 := za26K107.later hc109
        have lta26K109 := za26K109.lt
        have za27K109 := zn107.later hc109
        have lta27K109 := za27K109.lt
        refine hK.out _ _ (mkS _ hbK109) (fun hHeld2 => ?_)
        clear hK K hHeld
        have hHeld := hHeld2
        clear hHeld2
        try simp only [Act.put, List.getElem_toArray, List.getElem_cons_succ, List.getElem_cons_zero, List.setIfInBounds_toArray, List.set_cons_zero, List.set_cons_succ]
        refine wpAnyH_ready (rs := [29]) (by kernel_rfl) (by simp) ?_
        refine AllReadyH.cons rfl (fun K hK => ?o110_29) AllReadyH.nil
        go_simp
        refine (sameK9 (M3.out.later hbK109) tf109.out (by decide) (by decide) (by decide) (by decide)).mono ?_
        rintro e K111 ⟨rfl, hc111⟩
        go_simp
        have hbK111 : Below V4.heap.size V4 K111 := hbK109.trans (hc111.mono hsK109)
        have hsK111 : V4.heap.size ≤ K111.heap.size := hbK111.size
        have w1K111 := w1K109.later hc111
        have w2K111 := w2K109.later hc111
        have w3K111 := tf109.out.later hc111
        have za13K111 := za13K109.later hc111
        have lta13K111 := za13K111.lt
        have za12K111 := za12K109.later hc111
        have lta12K111 := za12K111.lt
        have za19K111 := za19K109.later hc111
        have lta19K111 := za19K111.lt
        have za20K111 := za20K109.later hc111
        have lta20K111 := za20K111.lt
        have za26K111 := za26K109.later hc111
        have lta26K111 := za26K111.lt
        have za27K111 := za27K109.later hc111
        have lta27K111 := za27K111.lt
        refine hK.out _ _ (mkS _ hbK111) (fun hHeld2 => ?_)
        clear hK K hHeld
        have hHeld := hHeld2
        clear hHeld2
        try simp only [Act.put, List.getElem_toArray, List.getElem_cons_succ, List.getElem_cons_zero, List.setIfInBounds_toArray, List.set_cons_zero, List.set_cons_succ]
        refine wpAnyH_take (i := 30) (v := ?vT112_30) rfl (by kernel_rfl) (by kernel_rfl) (by kernel_rfl) (fun _ _ _ h => h) (Or.inl ⟨by rfl, ?hT112_30⟩) (by assumption) ?rT112_30
        case hT112_30 =>
          intro w hSw
          try dsimp only at hSw
          go_simp
          try with_reducible rfl
        try simp only [Act.put, List.getElem_toArray, List.getElem_cons_succ, List.getElem_cons_zero, List.setIfInBounds_toArray, List.set_cons_zero, List.set_cons_succ]
        refine wpAnyH_ready (rs := [31]) (by kernel_rfl) (by simp) ?_
        refine AllReadyH.cons rfl (fun K hK => ?sD113_31) AllReadyH.nil
        go_simp
        refine hK.out _ _ ?kD113_31 (fun hHeld => ?mD113_31)
        case kD113_31 =>
          try dsimp only
          exact mkS _ hbK111
        clear hK K
        try simp only [Act.put, List.getElem_toArray, List.getElem_cons_succ, List.getElem_cons_zero, List.setIfInBounds_toArray, List.set_cons_zero, List.set_cons_succ]
        refine wpAnyH_done (by kernel_rfl) ?_ _
        (try dsimp only [Straight])
        go_wp2_with fail
        go_ret
        exact ⟨rfl, BU.trans (hbK111.mono BU.size)⟩
      case o104_27 =>
        go_simp
        refine afterAlloc (fun K114 hc114 hl114 zn114 => ?_)
        have hbK114 : Below V4.heap.size V4 K114 := hbK100.trans (hc114.mono hsK100)
        have hsK114 : V4.heap.size ≤ K114.heap.size := hbK114.size
        have w1K114 := w1K100.later hc114
        have w2K114 := w2K100.later hc114
        have za13K114 := za13K100.later hc114
        have lta13K114 := za13K114.lt
        have za12K114 := za12K100.later hc114
        have lta12K114 := za12K114.lt
        have za19K114 := za19K100.later hc114
        have lta19K114 := za19K114.lt
        have za20K114 := za20K100.later hc114
        have lta20K114 := za20K114.lt
        refine hK.out _ _ (mkS _ hbK114) (fun hHeld2 => ?_)
        clear hK K hHeld
        have hHeld := hHeld2
        clear hHeld2
        try simp only [Act.put, List.getElem_toArray, List.getElem_cons_succ, List.getElem_cons_zero, List.setIfInBounds_toArray, List.set_cons_zero, List.set_cons_succ]
        refine wpAnyH_ready (rs := [26]) (by kernel_rfl) (by simp) ?_
        refine AllReadyH.cons rfl (fun K hK => ?o115_26) AllReadyH.nil
        go_simp
        refine afterAlloc (fun K116 hc116 hl116 zn116 => ?_)
        have hbK116 : Below V4.heap.size V4 K116 := hbK114.trans (hc116.mono hsK114)
        have hsK116 : V4.heap.size ≤ K116.heap.size := hbK116.size
        have w1K116 := w1K114.later hc116
        have w2K116 := w2K114.later hc116
        have za13K116 := za13K114.later hc116
        have lta13K116 := za13K116.lt
        have za12K116 := za12K114.later hc116
        have lta12K116 := za12K116.lt
        have za19K116 := za19K114.later hc116
        have lta19K116 := za19K116.lt
        have za20K116 := za20K114.later hc116
        have lta20K116 := za20K116.lt
        have za27K116 := zn114.later hc116
        have lta27K116 := za27K116.lt
        refine hK.out _ _ (mkS _ hbK116) (fun hHeld2 => ?_)
        clear hK K hHeld
        have hHeld := hHeld2
        clear hHeld2
        try simp only [Act.put, List.getElem_toArray, List.getElem_cons_succ, List.getElem_cons_zero, List.setIfInBounds_toArray, List.set_cons_zero, List.set_cons_succ]
        refine wpAnyH_ready (rs := [28]) (by kernel_rfl) (by simp) ?_
        refine AllReadyH.cons rfl (fun K hK => ?o117_28) AllReadyH.nil
        go_simp
        refine (whole9_any (s := [1, 3]) (xs := [0, 2, 3]) (Row.argS zn116 [1, 3] rfl (widS (by decide))) some_not (Row.argS za27K116 [0, 2, 3] rfl (widS (by decide))) (by decide) (by decide)).mono ?_
        rintro e K118 ⟨q118, rfl, tq118, hc118⟩
        have tf118 := Lib.hid tq118
        obtain ⟨_, _, _, _, rfl, _⟩ := tq118
        go_simp
        have hbK118 : Below V4.heap.size V4 K118 := hbK116.trans (hc118.mono hsK116)
        have hsK118 : V4.heap.size ≤ K118.heap.size := hbK118.size
        have w1K118 := w1K116.later hc118
        have w2K118 := w2K116.later hc118
        have za13K118 := za13K116.later hc118
        have lta13K118 := za13K118.lt
        have za12K118 := za12K116.later hc118
        have lta12K118 := za12K118.lt
        have za19K118 := za19K116.later hc118
        have lta19K118 := za19K118.lt
        have za20K118 := za20K116.later hc118
        have lta20K118 := za20K118.lt
        have za27K118 := za27K116.later hc118
        have lta27K118 := za27K118.lt
        have za26K118 := zn116.later hc118
        have lta26K118 := za26K118.lt
        refine hK.out _ _ (mkS _ hbK118) (fun hHeld2 => ?_)
        clear hK K hHeld
        have hHeld := hHeld2
        clear hHeld2
        try simp only [Act.put, List.getElem_toArray, List.getElem_cons_succ, List.getElem_cons_zero, List.setIfInBounds_toArray, List.set_cons_zero, List.set_cons_succ]
        refine wpAnyH_ready (rs := [29]) (by kernel_rfl) (by simp) ?_
        refine AllReadyH.cons rfl (fun K hK => ?o119_29) AllReadyH.nil
        go_simp
        refine (sameK9 (M3.out.later hbK118) tf118.out (by decide) (by decide) (by decide) (by decide)).mono ?_
        rintro e K120 ⟨rfl, hc120⟩
        go_simp
        have hbK120 : Below V4.heap.size V4 K120 := hbK118.trans (hc120.mono hsK118)
        have hsK120 : V4.heap.size ≤ K120.heap.size := hbK120.size
        have w1K120 := w1K118.later hc120
        have w2K120 := w2K118.later hc120
        have w3K120 := tf118.out.later hc120
        have za13K120 := za13K118.later hc120
        have lta13K120 := za13K120.lt
        have za12K120 := za12K118.later hc120
        have lta12K120 := za12K120.lt
        have za19K120 := za19K118.later hc120
        have lta19K120 := za19K120.lt
        have za20K120 := za20K118.later hc120
        have lta20K120 := za20K120.lt
        have za27K120 := za27K118.later hc120
        have lta27K120 := za27K120.lt
        have za26K120 := za26K118.later hc120
        have lta26K120 := za26K120.lt
        refine hK.out _ _ (mkS _ hbK120) (fun hHeld2 => ?_)
        clear hK K hHeld
        have hHeld := hHeld2
        clear hHeld2
        try simp only [Act.put, List.getElem_toArray, List.getElem_cons_succ, List.getElem_cons_zero, List.setIfInBounds_toArray, List.set_cons_zero, List.set_cons_succ]
        refine wpAnyH_take (i := 30) (v := ?vT121_30) rfl (by kernel_rfl) (by kernel_rfl) (by kernel_rfl) (fun _ _ _ h => h) (Or.inl ⟨by rfl, ?hT121_30⟩) (by assumption) ?rT121_30
        case hT121_30 =>
          intro w hSw
          try dsimp only at hSw
          go_simp
          try with_reducible rfl
        try simp only [Act.put, List.getElem_toArray, List.getElem_cons_succ, List.getElem_cons_zero, List.setIfInBounds_toArray, List.set_cons_zero, List.set_cons_succ]
        refine wpAnyH_ready (rs := [31]) (by kernel_rfl) (by simp) ?_
        refine AllReadyH.cons rfl (fun K hK => ?sD122_31) AllReadyH.nil
        go_simp
        refine hK.out _ _ ?kD122_31 (fun hHeld => ?mD122_31)
        case kD122_31 =>
          try dsimp only
          exact mkS _ hbK120
        clear hK K
        try simp only [Act.put, List.getElem_toArray, List.getElem_cons_succ, List.getElem_cons_zero, List.setIfInBounds_toArray, List.set_cons_zero, List.set_cons_succ]
        refine wpAnyH_done (by kernel_rfl) ?_ _
        (try dsimp only [Straight])
        go_wp2_with fail
        go_ret
        exact ⟨rfl, BU.trans (hbK120.mono BU.size)⟩
    case o93_20 =>
      go_simp
      refine afterAlloc (fun K123 hc123 hl123 zn123 => ?_)
      have hbK123 : Below V4.heap.size V4 K123 := hbK89.trans (hc123.mono hsK89)
      have hsK123 : V4.heap.size ≤ K123.heap.size := hbK123.size
      have w1K123 := w1K89.later hc123
      have za13K123 := za13K89.later hc123
      have lta13K123 := za13K123.lt
      have za12K123 := za12K89.later hc123
      have lta12K123 := za12K123.lt
      refine hK.out _ _ (mkS _ hbK123) (fun hHeld2 => ?_)
      clear hK K hHeld
      have hHeld := hHeld2
      clear hHeld2
      try simp only [Act.put, List.getElem_toArray, List.getElem_cons_succ, List.getElem_cons_zero, List.setIfInBounds_toArray, List.set_cons_zero, List.set_cons_succ]
      refine wpAnyH_ready (rs := [19]) (by kernel_rfl) (by simp) ?_
      refine AllReadyH.cons rfl (fun K hK => ?o124_19) AllReadyH.nil
      go_simp
      refine afterAlloc (fun K125 hc125 hl125 zn125 => ?_)
      have hbK125 : Below V4.heap.size V4 K125 := hbK123.trans (hc125.mono hsK123)
      have hsK125 : V4.heap.size ≤ K125.heap.size := hbK125.size
      have w1K125 := w1K123.later hc125
      have za13K125 := za13K123.later hc125
      have lta13K125 := za13K125.lt
      have za12K125 := za12K123.later hc125
      have lta12K125 := za12K125.lt
      have za20K125 := zn123.later hc125
      have lta20K125 := za20K125.lt
      refine hK.out _ _ (mkS _ hbK125) (fun hHeld2 => ?_)
      clear hK K hHeld
      have hHeld := hHeld2
      clear hHeld2
      try simp only [Act.put, List.getElem_toArray, List.getElem_cons_succ, List.getElem_cons_zero, List.setIfInBounds_toArray, List.set_cons_zero, List.set_cons_succ]
      refine wpAnyH_ready (rs := [21]) (by kernel_rfl) (by simp) ?_
      refine AllReadyH.cons rfl (fun K hK => ?o126_21) AllReadyH.nil
      go_simp
      refine (whole9_any (s := [1, 2]) (xs := [2, 3]) (Row.argS zn125 [1, 2] rfl (widS (by decide))) some_not (Row.argS za20K125 [2, 3] rfl (widS (by decide))) (by decide) (by decide)).mono ?_
      rintro e K127 ⟨q127, rfl, tq127, hc127⟩
      have tf127 := Lib.hid tq127
      obtain ⟨_, _, _, _, rfl, _⟩ := tq127
      go_simp
      have hbK127 : Below V4.heap.size V4 K127 := hbK125.trans (hc127.mono hsK125)
      have hsK127 : V4.heap.size ≤ K127.heap.size := hbK127.size
      have w1K127 := w1K125.later hc127
      have za13K127 := za13K125.later hc127
      have lta13K127 := za13K127.lt
      have za12K127 := za12K125.later hc127
      have lta12K127 := za12K127.lt
      have za20K127 := za20K125.later hc127
      have lta20K127 := za20K127.lt
      have za19K127 := zn125.later hc127
      have lta19K127 := za19K127.lt
      refine hK.out _ _ (mkS _ hbK127) (fun hHeld2 => ?_)
      clear hK K hHeld
      have hHeld := hHeld2
      clear hHeld2
      try simp only [Act.put, List.getElem_toArray, List.getElem_cons_succ, List.getElem_cons_zero, List.setIfInBounds_toArray, List.set_cons_zero, List.set_cons_succ]
      refine wpAnyH_ready (rs := [22]) (by kernel_rfl) (by simp) ?_
      refine AllReadyH.cons rfl (fun K hK => ?o128_22) AllReadyH.nil
      go_simp
      refine (sameK9 (M2.out.later hbK127) tf127.out (by decide) (by decide) (by decide) (by decide)).mono ?_
      rintro e K129 ⟨rfl, hc129⟩
      go_simp
      have hbK129 : Below V4.heap.size V4 K129 := hbK127.trans (hc129.mono hsK127)
      have hsK129 : V4.heap.size ≤ K129.heap.size := hbK129.size
      have w1K129 := w1K127.later hc129
      have w2K129 := tf127.out.later hc129
      have za13K129 := za13K127.later hc129
      have lta13K129 := za13K129.lt
      have za12K129 := za12K127.later hc129
      have lta12K129 := za12K129.lt
      have za20K129 := za20K127.later hc129
      have lta20K129 := za20K129.lt
      have za19K129 := za19K127.later hc129
      have lta19K129 := za19K129.lt
      refine hK.out _ _ (mkS _ hbK129) (fun hHeld2 => ?_)
      clear hK K hHeld
      have hHeld := hHeld2
      clear hHeld2
      try simp only [Act.put, List.getElem_toArray, List.getElem_cons_succ, List.getElem_cons_zero, List.setIfInBounds_toArray, List.set_cons_zero, List.set_cons_succ]
      refine todo [23, 24, 25] ?_
      iterate 3
       refine todoH (v := ?_) rfl (by kernel_rfl) (fun _ _ _ h => h) (by assumption) (Or.inl ⟨by rfl, ?_⟩) ?_
       rotate_left
       · intro w hSw; (try dsimp only at hSw); go_simp; (try with_reducible rfl)
       try simp only [Act.put, List.getElem_toArray, List.getElem_cons_succ, List.getElem_cons_zero, List.setIfInBounds_toArray, List.set_cons_zero, List.set_cons_succ]
      refine todone ?_
      refine wpAnyH_ready (rs := [26, 27]) (by kernel_rfl) (by simp) ?_
      refine AllReadyH.cons rfl (fun K hK => ?o133_26) (AllReadyH.cons rfl (fun K hK => ?o133_27) AllReadyH.nil)
      case o133_26 =>
        go_simp
        refine afterAlloc (fun K134 hc134 hl134 zn134 => ?_)
        have hbK134 : Below V4.heap.size V4 K134 := hbK129.trans (hc134.mono hsK129)
        have hsK134 : V4.heap.size ≤ K134.heap.size := hbK134.size
        have w1K134 := w1K129.later hc134
        have w2K134 := w2K129.later hc134
        have za13K134 := za13K129.later hc134
        have lta13K134 := za13K134.lt
        have za12K134 := za12K129.later hc134
        have lta12K134 := za12K134.lt
        have za20K134 := za20K129.later hc134
        have lta20K134 := za20K134.lt
        have za19K134 := za19K129.later hc134
        have lta19K134 := za19K134.lt
        refine hK.out _ _ (mkS _ hbK134) (fun hHeld2 => ?_)
        clear hK K hHeld
        have hHeld := hHeld2
        clear hHeld2
        try simp only [Act.put, List.getElem_toArray, List.getElem_cons_succ, List.getElem_cons_zero, List.setIfInBounds_toArray, List.set_cons_zero, List.set_cons_succ]
        refine wpAnyH_ready (rs := [27]) (by kernel_rfl) (by simp) ?_
        refine AllReadyH.cons rfl (fun K hK => ?o135_27) AllReadyH.nil
        go_simp
        refine afterAlloc (fun K136 hc136 hl136 zn136 => ?_)
        have hbK136 : Below V4.heap.size V4 K136 := hbK134.trans (hc136.mono hsK134)
        have hsK136 : V4.heap.size ≤ K136.heap.size := hbK136.size
        have w1K136 := w1K134.later hc136
        have w2K136 := w2K134.later hc136
        have za13K136 := za13K134.later hc136
        have lta13K136 := za13K136.lt
        have za12K136 := za12K134.later hc136
        have lta12K136 := za12K136.lt
        have za20K136 := za20K134.later hc136
        have lta20K136 := za20K136.lt
        have za19K136 := za19K134.later hc136
        have lta19K136 := za19K136.lt
        have za26K136 := zn134.later hc136
        have lta26K136 := za26K136.lt
        refine hK.out _ _ (mkS _ hbK136) (fun hHeld2 => ?_)
        clear hK K hHeld
        have hHeld := hHeld2
        clear hHeld2
        try simp only [Act.put, List.getElem_toArray, List.getElem_cons_succ, List.getElem_cons_zero, List.setIfInBounds_toArray, List.set_cons_zero, List.set_cons_succ]
        refine wpAnyH_ready (rs := [28]) (by kernel_rfl) (by simp) ?_
        refine AllReadyH.cons rfl (fun K hK => ?o137_28) AllReadyH.nil
        go_simp
        refine (whole9_any (s := [1, 3]) (xs := [0, 2, 3]) (Row.argS za26K136 [1, 3] rfl (widS (by decide))) some_not (Row.argS zn136 [0, 2, 3] rfl (widS (by decide))) (by decide) (by decide)).mono ?_
        rintro e K138 ⟨q138, rfl, tq138, hc138⟩
        have tf138 := Lib.hid tq138
        obtain ⟨_, _, _, _, rfl, _⟩ := tq138
        go_simp
        have hbK138 : Below V4.heap.size V4 K138 := hbK136.trans (hc138.mono hsK136)
        have hsK138 : V4.heap.size ≤ K138.heap.size := hbK138.size
        have w1K138 := w1K136.later hc138
        have w2K138 := w2K136.later hc138
        have za13K138 := za13K136.later hc138
        have lta13K138 := za13K138.lt
        have za12K138 := za12K136.later hc138
        have lta12K138 := za12K138.lt
        have za20K138 := za20K136.later hc138
        have lta20K138 := za20K138.lt
        have za19K138 := za19K136.later hc138
        have lta19K138 := za19K138.lt
        have za26K138 := za26K136.later hc138
        have lta26K138 := za26K138.lt
        have za27K138 := zn136.later hc138
        have lta27K138 := za27K138.lt
        refine hK.out _ _ (mkS _ hbK138) (fun hHeld2 => ?_)
        clear hK K hHeld
        have hHeld := hHeld2
        clear hHeld2
        try simp only [Act.put, List.getElem_toArray, List.getElem_cons_succ, List.getElem_cons_zero, List.setIfInBounds_toArray, List.set_cons_zero, List.set_cons_succ]
        refine wpAnyH_ready (rs := [29]) (by kernel_rfl) (by simp) ?_
        refine AllReadyH.cons rfl (fun K hK => ?o139_29) AllReadyH.nil
        go_simp
        refine (sameK9 (M3.out.later hbK138) tf138.out (by decide) (by decide) (by decide) (by decide)).mono ?_
        rintro e K140 ⟨rfl, hc140⟩
        go_simp
        have hbK140 : Below V4.heap.size V4 K140 := hbK138.trans (hc140.mono hsK138)
        have hsK140 : V4.heap.size ≤ K140.heap.size := hbK140.size
        have w1K140 := w1K138.later hc140
        have w2K140 := w2K138.later hc140
        have w3K140 := tf138.out.later hc140
        have za13K140 := za13K138.later hc140
        have lta13K140 := za13K140.lt
        have za12K140 := za12K138.later hc140
        have lta12K140 := za12K140.lt
        have za20K140 := za20K138.later hc140
        have lta20K140 := za20K140.lt
        have za19K140 := za19K138.later hc140
        have lta19K140 := za19K140.lt
        have za26K140 := za26K138.later hc140
        have lta26K140 := za26K140.lt
        have za27K140 := za27K138.later hc140
        have lta27K140 := za27K140.lt
        refine hK.out _ _ (mkS _ hbK140) (fun hHeld2 => ?_)
        clear hK K hHeld
        have hHeld := hHeld2
        clear hHeld2
        try simp only [Act.put, List.getElem_toArray, List.getElem_cons_succ, List.getElem_cons_zero, List.setIfInBounds_toArray, List.set_cons_zero, List.set_cons_succ]
        refine wpAnyH_take (i := 30) (v := ?vT141_30) rfl (by kernel_rfl) (by kernel_rfl) (by kernel_rfl) (fun _ _ _ h => h) (Or.inl ⟨by rfl, ?hT141_30⟩) (by assumption) ?rT141_30
        case hT141_30 =>
          intro w hSw
          try dsimp only at hSw
          go_simp
          try with_reducible rfl
        try simp only [Act.put, List.getElem_toArray, List.getElem_cons_succ, List.getElem_cons_zero, List.setIfInBounds_toArray, List.set_cons_zero, List.set_cons_succ]
        refine wpAnyH_ready (rs := [31]) (by kernel_rfl) (by simp) ?_
        refine AllReadyH.cons rfl (fun K hK => ?sD142_31) AllReadyH.nil
        go_simp
        refine hK.out _ _ ?kD142_31 (fun hHeld => ?mD142_31)
        case kD142_31 =>
          try dsimp only
          exact mkS _ hbK140
        clear hK K
        try simp only [Act.put, List.getElem_toArray, List.getElem_cons_succ, List.getElem_cons_zero, List.setIfInBounds_toArray, List.set_cons_zero, List.set_cons_succ]
        refine wpAnyH_done (by kernel_rfl) ?_ _
        (try dsimp only [Straight])
        go_wp2_with fail
        go_ret
        exact ⟨rfl, BU.trans (hbK140.mono BU.size)⟩
      case o133_27 =>
        go_simp
        refine afterAlloc (fun K143 hc143 hl143 zn143 => ?_)
        have hbK143 : Below V4.heap.size V4 K143 := hbK129.trans (hc143.mono hsK129)
        have hsK143 : V4.heap.size ≤ K143.heap.size := hbK143.size
        have w1K143 := w1K129.later hc143
        have w2K143 := w2K129.later hc143
        have za13K143 := za13K129.later hc143
        have lta13K143 := za13K143.lt
        have za12K143 := za12K129.later hc143
        have lta12K143 := za12K143.lt
        have za20K143 := za20K129.later hc143
        have lta20K143 := za20K143.lt
        have za19K143 := za19K129.later hc143
        have lta19K143 := za19K143.lt
        refine hK.out _ _ (mkS _ hbK143) (fun hHeld2 => ?_)
        clear hK K hHeld
        have hHeld := hHeld2
        clear hHeld2
        try simp only [Act.put, List.getElem_toArray, List.getElem_cons_succ, List.getElem_cons_zero, List.setIfInBounds_toArray, List.set_cons_zero, List.set_cons_succ]
        refine wpAnyH_ready (rs := [26]) (by kernel_rfl) (by simp) ?_
        refine AllReadyH.cons rfl (fun K hK => ?o144_26) AllReadyH.nil
        go_simp
        refine afterAlloc (fun K145 hc145 hl145 zn145 => ?_)
        have hbK145 : Below V4.heap.size V4 K145 := hbK143.trans (hc145.mono hsK143)
        have hsK145 : V4.heap.size ≤ K145.heap.size := hbK145.size
        have w1K145 := w1K143.later hc145
        have w2K145 := w2K143.later hc145
        have za13K145 := za13K143.later hc145
        have lta13K145 := za13K145.lt
        have za12K145 := za12K143.later hc145
        have lta12K145 := za12K145.lt
        have za20K145 := za20K143.later hc145
        have lta20K145 := za20K145.lt
        have za19K145 := za19K143.later hc145
        have lta19K145 := za19K145.lt
        have za27K145 := zn143.later hc145
        have lta27K145 := za27K145.lt
        refine hK.out _ _ (mkS _ hbK145) (fun hHeld2 => ?_)
        clear hK K hHeld
        have hHeld := hHeld2
        clear hHeld2
        try simp only [Act.put, List.getElem_toArray, List.getElem_cons_succ, List.getElem_cons_zero, List.setIfInBounds_toArray, List.set_cons_zero, List.set_cons_succ]
        refine wpAnyH_ready (rs := [28]) (by kernel_rfl) (by simp) ?_
        refine AllReadyH.cons rfl (fun K hK => ?o146_28) AllReadyH.nil
        go_simp
        refine (whole9_any (s := [1, 3]) (xs := [0, 2, 3]) (Row.argS zn145 [1, 3] rfl (widS (by decide))) some_not (Row.argS za27K145 [0, 2, 3] rfl (widS (by decide))) (by decide) (by decide)).mono ?_
        rintro e K147 ⟨q147, rfl, tq147, hc147⟩
        have tf147 := Lib.hid tq147
        obtain ⟨_, _, _, _, rfl, _⟩ := tq147
        go_simp
        have hbK147 : Below V4.heap.size V4 K147 := hbK145.trans (hc147.mono hsK145)
        have hsK147 : V4.heap.size ≤ K147.heap.size := hbK147.size
        have w1K147 := w1K145.later hc147
        have w2K147 := w2K145.later hc147
        have za13K147 := za13K145.later hc147
        have lta13K147 := za13K147.lt
        have za12K147 := za12K145.later hc147
        have lta12K147 := za12K147.lt
        have za20K147 := za20K145.later hc147
        have lta20K147 := za20K147.lt
        have za19K147 := za19K145.later hc147
        have lta19K147 := za19K147.lt
        have za27K147 := za27K145.later hc147
        have lta27K147 := za27K147.lt
        have za26K147 := zn145.later hc147
        have lta26K147 := za26K147.lt
        refine hK.out _ _ (mkS _ hbK147) (fun hHeld2 => ?_)
        clear hK K hHeld
        have hHeld := hHeld2
        clear hHeld2
        try simp only [Act.put, List.getElem_toArray, List.getElem_cons_succ, List.getElem_cons_zero, List.setIfInBounds_toArray, List.set_cons_zero, List.set_cons_succ]
        refine wpAnyH_ready (rs := [29]) (by kernel_rfl) (by simp) ?_
        refine AllReadyH.cons rfl (fun K hK => ?o148_29) AllReadyH.nil
        go_simp
        refine (sameK9 (M3.out.later hbK147) tf147.out (by decide) (by decide) (by decide) (by decide)).mono ?_
        rintro e K149 ⟨rfl, hc149⟩
        go_simp
        have hbK149 : Below V4.heap.size V4 K149 := hbK147.trans (hc149.mono hsK147)
        have hsK149 : V4.heap.size ≤ K149.heap.size := hbK149.size
        have w1K149 := w1K147.later hc149
        have w2K149 := w2K147.later hc149
        have w3K149 := tf147.out.later hc149
        have za13K149 := za13K147.later hc149
        have lta13K149 := za13K149.lt
        have za12K149 := za12K147.later hc149
        have lta12K149 := za12K149.lt
        have za20K149 := za20K147.later hc149
        have lta20K149 := za20K149.lt
        have za19K149 := za19K147.later hc149
        have lta19K149 := za19K149.lt
        have za27K149 := za27K147.later hc149
        have lta27K149 := za27K149.lt
        have za26K149 := za26K147.later hc149
        have lta26K149 := za26K149.lt
        refine hK.out _ _ (mkS _ hbK149) (fun hHeld2 => ?_)
        clear hK K hHeld
        have hHeld := hHeld2
        clear hHeld2
        try simp only [Act.put, List.getElem_toArray, List.getElem_cons_succ, List.getElem_cons_zero, List.setIfInBounds_toArray, List.set_cons_zero, List.set_cons_succ]
        refine wpAnyH_take (i := 30) (v := ?vT150_30) rfl (by kernel_rfl) (by kernel_rfl) (by kernel_rfl) (fun _ _ _ h => h) (Or.inl ⟨by rfl, ?hT150_30⟩) (by assumption) ?rT150_30
        case hT150_30 =>
          intro w hSw
          try dsimp only at hSw
          go_simp
          try with_reducible rfl
        try simp only [Act.put, List.getElem_toArray, List.getElem_cons_succ, List.getElem_cons_zero, List.setIfInBounds_toArray, List.set_cons_zero, List.set_cons_succ]
        refine wpAnyH_ready (rs := [31]) (by kernel_rfl) (by simp) ?_
        refine AllReadyH.cons rfl (fun K hK => ?sD151_31) AllReadyH.nil
        go_simp
        refine hK.out _ _ ?kD151_31 (fun hHeld => ?mD151_31)
        case kD151_31 =>
          try dsimp only
          exact mkS _ hbK149
        clear hK K
        try simp only [Act.put, List.getElem_toArray, List.getElem_cons_succ, List.getElem_cons_zero, List.setIfInBounds_toArray, List.set_cons_zero, List.set_cons_succ]
        refine wpAnyH_done (by kernel_rfl) ?_ _
        (try dsimp only [Straight])
        go_wp2_with fail
        go_ret
        exact ⟨rfl, BU.trans (hbK149.mono BU.size)⟩
end
end Go.Proofs.YtooglnhlhgmhdaaGreat
