/-
  Part 18 of 21: contracts and what they rest on (IWScal, IWLate).
-/
import Derived.Test.YtdcggcfgkhlblaaL1
import Derived.Test.YtdcggcfgkhlblaaL2
import Derived.Test.YtdcggcfgkhlblaaL3
import Derived.Test.YtdcggcfgkhlblaaL5
import Derived.Test.YtdcggcfgkhlblaaL6
import Derived.Test.YtdcggcfgkhlblaaL7
import Derived.Test.YtdcggcfgkhlblaaL8
import Derived.Test.YtdcggcfgkhlblaaL10
import Derived.Test.YtdcggcfgkhlblaaL11
import Derived.Test.YtdcggcfgkhlblaaL15
import Derived.Test.YtdcggcfgkhlblaaL16
import Derived.Test.YtdcggcfgkhlblaaL17
import Derived.WalkKit
import Derived.Test.YtdcggcfgkhlblaaRows
import Derived.OrdersHeld
import Derived.Deep.RegionHeld
import Derived.BigQuiet
import Derived.Deep.QuietTactic
import Derived.Lib.Hide
import Derived.Lib.Small
import Derived.Lib.Walk
import Derived.Lib.BitFns
import Derived.Maps.AppendAt
import Derived.RangeFuncNested
import Derived.RangeFuncBound
import Derived.RangeFuncCalls
import Derived.RangeFuncLeaves
import Derived.Shelf.Abstract
import Derived.OwnWalkIn
import Derived.TacticsInMore
import Derived.LoopNIn
import Derived.LoopIn
import Derived.RangeFuncBox
import Derived.Deep.RegionHeld3
import Derived.OrdersIn
import Derived.StillTailTactics
import Derived.RangeFuncFrom
import Derived.Laws.EntriesVeiled
import Derived.ProofKit
import Derived.OpenShut
import Derived.JoinedCond
import Derived.Carry
import Derived.Laws.AppendOwnNone
import Derived.Lib.ItoaNum
import Derived.Deep.RegionLaw
import Derived.WalkMore
import Derived.Lib.SmallJoins
import Derived.IntWalk
import Derived.Deep.DeepCutAuto
import Derived.Laws.OwnMore
import Derived.ArgAppend
import Derived.Deep.Slices
import Derived.Laws.CopyOwn
import Derived.Lib.SliceRun
import Derived.SizedLaws
import Derived.Great.BuildSlice
namespace Go.Proofs.Ytdcggcfgkhlblaa
set_option maxRecDepth 100000
section
open Go.RowKit
set_option linter.unusedVariables false
set_option linter.unusedSimpArgs false
set_option maxRecDepth 100000 in
set_option maxHeartbeats 40000000 in
theorem inferScalars_walk (w : World) : Calls Try.prog 8 #[] w fun e w' => e = .returned (.bool true) ∧ Below w.heap.size w w' := by
  go_enter Try.func8, Try.ntmps8
  have HAT := Lib.hid (nil_argS w)
  go_wp2_with fail
  refine (nodeI_any 1 2 (by omega) _).mono ?_
  rintro e y1 ⟨gn, rfl, hy⟩
  have B1 : Below w.heap.size w y1 := (Below.refl w.heap.size w).trans (hy.mono (Below.refl w.heap.size w).size)
  replace HAT := Lib.hid (HAT.out.later hy)
  clear hy
  have HZy1 := Lib.hid (show y1.heap.size = (y1.heap.size) from rfl)
  obtain ⟨y2, hy2⟩ : ∃ Y, y1.alloc (.cells #[.slice none 0 0, .slice none 0 0] 28) = Y := ⟨_, rfl⟩
  have hy : Below y1.heap.size y1 y2 := by rw [← hy2]; exact (Below.refl _ _).alloc (Nat.le_refl _) _
  have RRy2 : Row y2 (y1.heap.size) 28 #[.slice none 0 0, .slice none 0 0] := by rw [← hy2, ← HZy1.out]; exact Row.new _ _ _
  have HZy2 := Lib.hid (show y2.heap.size = (y1.heap.size + 1) by rw [← hy2, World.size_alloc, HZy1.out])
  have B2 : Below w.heap.size w y2 := B1.trans (hy.mono B1.size)
  replace HAT := Lib.hid (HAT.out.later hy)
  have HYy2 := Lib.hid hy2
  clear hy hy2
  have HRL : RowL y2 (.slice (some ⟨(y1.heap.size), 0, none⟩) 2 2) [[], []] (some ⟨(y1.heap.size), 0, none⟩) 2 := by
    refine RowL.lit (ls := [[], []]) RRy2 (by simp) (fun i hi => ?_)
    simp only [List.length_cons, List.length_nil] at hi
    by_cases h0 : i = 0
    · subst h0; exact ⟨none, 0, rfl, nil_argS _, fun _ => rfl⟩
    by_cases h1 : i = 1
    · subst h1; exact ⟨none, 0, rfl, nil_argS _, fun _ => rfl⟩
    omega
  have hsh := shape_any 3 (o := 1) (xs := []) (ls := [[], []]) (a1 := some ⟨gn, 0, none⟩) (n1 := 2) (c1 := 2) HAT.out (fun h => by first | rfl | cases h) (by simp) HRL (by decide +kernel) (by simp)
  rw [show infC 3 1 2 [] [[], []] = 0 by decide +kernel, show infV 3 1 2 [] [[], []] = [] by decide +kernel] at hsh
  have HSH := Lib.hid hsh
  clear hsh HRL RRy2 HAT 
  go_wp2_with fail
  have hyy := HYy2.out
  (try rw [hyy])
  clear hyy
  refine (HSH.out).mono ?_
  rintro e y3 ⟨r, rfl, hr, hy⟩
  have B3 : Below w.heap.size w y3 := B2.trans (hy.mono B2.size)
  obtain ⟨ada, cpa, rfl, hr2⟩ := res_slice11 hr
  simp only [List.length_cons, List.length_nil, Nat.reduceAdd, Nat.zero_add] at hr2
  (try simp only [List.length_cons, List.length_nil, Nat.reduceAdd, Nat.zero_add])
  have HRa := Lib.hid hr2
  clear hr hr2 HSH
  clear hy
  have HAT := Lib.hid (nil_argS y3)
  go_wp2_with fail
  refine (nodeI_any 14 1 (by omega) _).mono ?_
  rintro e y4 ⟨gn, rfl, hy⟩
  have B4 : Below w.heap.size w y4 := B3.trans (hy.mono B3.size)
  replace HRa := Lib.hid (HRa.out.later hy)
  replace HAT := Lib.hid (HAT.out.later hy)
  clear hy
  have HZy4 := Lib.hid (show y4.heap.size = (y4.heap.size) from rfl)
  obtain ⟨y5, hy5⟩ : ∃ Y, y4.alloc (.cells #[.slice none 0 0] 28) = Y := ⟨_, rfl⟩
  have hy : Below y4.heap.size y4 y5 := by rw [← hy5]; exact (Below.refl _ _).alloc (Nat.le_refl _) _
  have RRy5 : Row y5 (y4.heap.size) 28 #[.slice none 0 0] := by rw [← hy5, ← HZy4.out]; exact Row.new _ _ _
  have HZy5 := Lib.hid (show y5.heap.size = (y4.heap.size + 1) by rw [← hy5, World.size_alloc, HZy4.out])
  have B5 : Below w.heap.size w y5 := B4.trans (hy.mono B4.size)
  replace HRa := Lib.hid (HRa.out.later hy)
  replace HAT := Lib.hid (HAT.out.later hy)
  have HYy5 := Lib.hid hy5
  clear hy hy5
  have HRL : RowL y5 (.slice (some ⟨(y4.heap.size), 0, none⟩) 1 1) [[]] (some ⟨(y4.heap.size), 0, none⟩) 1 := by
    refine RowL.lit (ls := [[]]) RRy5 (by simp) (fun i hi => ?_)
    simp only [List.length_cons, List.length_nil] at hi
    by_cases h0 : i = 0
    · subst h0; exact ⟨none, 0, rfl, nil_argS _, fun _ => rfl⟩
    omega
  have hsh := shape_any 3 (o := 14) (xs := []) (ls := [[]]) (a1 := some ⟨gn, 0, none⟩) (n1 := 1) (c1 := 1) HAT.out (fun h => by first | rfl | cases h) (by simp) HRL (by decide +kernel) (by simp)
  rw [show infC 3 14 1 [] [[]] = 0 by decide +kernel, show infV 3 14 1 [] [[]] = [] by decide +kernel] at hsh
  have HSH := Lib.hid hsh
  clear hsh HRL RRy5 HAT 
  go_wp2_with fail
  have hyy := HYy5.out
  (try rw [hyy])
  clear hyy
  refine (HSH.out).mono ?_
  rintro e y6 ⟨r, rfl, hr, hy⟩
  have B6 : Below w.heap.size w y6 := B5.trans (hy.mono B5.size)
  replace HRa := Lib.hid (HRa.out.later hy)
  obtain ⟨adb, cpb, rfl, hr2⟩ := res_slice11 hr
  simp only [List.length_cons, List.length_nil, Nat.reduceAdd, Nat.zero_add] at hr2
  (try simp only [List.length_cons, List.length_nil, Nat.reduceAdd, Nat.zero_add])
  have HRb := Lib.hid hr2
  clear hr hr2 HSH
  clear hy
  have HAT := Lib.hid (nil_argS y6)
  go_wp2_with fail
  refine (nodeI_any 11 1 (by omega) _).mono ?_
  rintro e y7 ⟨gn, rfl, hy⟩
  have B7 : Below w.heap.size w y7 := B6.trans (hy.mono B6.size)
  replace HRa := Lib.hid (HRa.out.later hy)
  replace HRb := Lib.hid (HRb.out.later hy)
  replace HAT := Lib.hid (HAT.out.later hy)
  clear hy
  have HZy7 := Lib.hid (show y7.heap.size = (y7.heap.size) from rfl)
  obtain ⟨y8, hy8⟩ : ∃ Y, y7.alloc (.cells #[.slice none 0 0] 28) = Y := ⟨_, rfl⟩
  have hy : Below y7.heap.size y7 y8 := by rw [← hy8]; exact (Below.refl _ _).alloc (Nat.le_refl _) _
  have RRy8 : Row y8 (y7.heap.size) 28 #[.slice none 0 0] := by rw [← hy8, ← HZy7.out]; exact Row.new _ _ _
  have HZy8 := Lib.hid (show y8.heap.size = (y7.heap.size + 1) by rw [← hy8, World.size_alloc, HZy7.out])
  have B8 : Below w.heap.size w y8 := B7.trans (hy.mono B7.size)
  replace HRa := Lib.hid (HRa.out.later hy)
  replace HRb := Lib.hid (HRb.out.later hy)
  replace HAT := Lib.hid (HAT.out.later hy)
  have HYy8 := Lib.hid hy8
  clear hy hy8
  have HRL : RowL y8 (.slice (some ⟨(y7.heap.size), 0, none⟩) 1 1) [[]] (some ⟨(y7.heap.size), 0, none⟩) 1 := by
    refine RowL.lit (ls := [[]]) RRy8 (by simp) (fun i hi => ?_)
    simp only [List.length_cons, List.length_nil] at hi
    by_cases h0 : i = 0
    · subst h0; exact ⟨none, 0, rfl, nil_argS _, fun _ => rfl⟩
    omega
  have hsh := shape_any 1 (o := 11) (xs := []) (ls := [[]]) (a1 := some ⟨gn, 0, none⟩) (n1 := 1) (c1 := 1) HAT.out (fun h => by first | rfl | cases h) (by simp) HRL (by decide +kernel) (by simp)
  rw [show infC 1 11 1 [] [[]] = 0 by decide +kernel, show infV 1 11 1 [] [[]] = [] by decide +kernel] at hsh
  have HSH := Lib.hid hsh
  clear hsh HRL RRy8 HAT 
  go_wp2_with fail
  have hyy := HYy8.out
  (try rw [hyy])
  clear hyy
  refine (HSH.out).mono ?_
  rintro e y9 ⟨r, rfl, hr, hy⟩
  have B9 : Below w.heap.size w y9 := B8.trans (hy.mono B8.size)
  replace HRa := Lib.hid (HRa.out.later hy)
  replace HRb := Lib.hid (HRb.out.later hy)
  obtain ⟨adc, cpc, rfl, hr2⟩ := res_slice11 hr
  simp only [List.length_cons, List.length_nil, Nat.reduceAdd, Nat.zero_add] at hr2
  (try simp only [List.length_cons, List.length_nil, Nat.reduceAdd, Nat.zero_add])
  have HRc := Lib.hid hr2
  clear hr hr2 HSH
  clear hy
  have HZy9 := Lib.hid (show y9.heap.size = (y9.heap.size) from rfl)
  obtain ⟨y10, hy10⟩ : ∃ Y, y9.alloc (.cells #[.int .i64 2, .int .i64 2] 3) = Y := ⟨_, rfl⟩
  have hy : Below y9.heap.size y9 y10 := by rw [← hy10]; exact (Below.refl _ _).alloc (Nat.le_refl _) _
  have RRy10 : Row y10 (y9.heap.size) 3 #[.int .i64 2, .int .i64 2] := by rw [← hy10, ← HZy9.out]; exact Row.new _ _ _
  have HZy10 := Lib.hid (show y10.heap.size = (y9.heap.size + 1) by rw [← hy10, World.size_alloc, HZy9.out])
  have B10 : Below w.heap.size w y10 := B9.trans (hy.mono B9.size)
  replace HRa := Lib.hid (HRa.out.later hy)
  replace HRb := Lib.hid (HRb.out.later hy)
  replace HRc := Lib.hid (HRc.out.later hy)
  have HYy10 := Lib.hid hy10
  clear hy hy10
  have HAT := Lib.hid (Row.argS RRy10 [2, 2] rfl (fun x hx => by simp at hx; omega))
  clear RRy10
  go_wp2_with fail
  have hyy := HYy10.out
  (try rw [hyy])
  clear hyy
  refine (nodeI_any 13 1 (by omega) _).mono ?_
  rintro e y11 ⟨gn, rfl, hy⟩
  have B11 : Below w.heap.size w y11 := B10.trans (hy.mono B10.size)
  replace HRa := Lib.hid (HRa.out.later hy)
  replace HRb := Lib.hid (HRb.out.later hy)
  replace HRc := Lib.hid (HRc.out.later hy)
  replace HAT := Lib.hid (HAT.out.later hy)
  clear hy
  have HZy11 := Lib.hid (show y11.heap.size = (y11.heap.size) from rfl)
  obtain ⟨y12, hy12⟩ : ∃ Y, y11.alloc (.cells #[.slice none 0 0] 28) = Y := ⟨_, rfl⟩
  have hy : Below y11.heap.size y11 y12 := by rw [← hy12]; exact (Below.refl _ _).alloc (Nat.le_refl _) _
  have RRy12 : Row y12 (y11.heap.size) 28 #[.slice none 0 0] := by rw [← hy12, ← HZy11.out]; exact Row.new _ _ _
  have HZy12 := Lib.hid (show y12.heap.size = (y11.heap.size + 1) by rw [← hy12, World.size_alloc, HZy11.out])
  have B12 : Below w.heap.size w y12 := B11.trans (hy.mono B11.size)
  replace HRa := Lib.hid (HRa.out.later hy)
  replace HRb := Lib.hid (HRb.out.later hy)
  replace HRc := Lib.hid (HRc.out.later hy)
  replace HAT := Lib.hid (HAT.out.later hy)
  have HYy12 := Lib.hid hy12
  clear hy hy12
  have HRL : RowL y12 (.slice (some ⟨(y11.heap.size), 0, none⟩) 1 1) [[]] (some ⟨(y11.heap.size), 0, none⟩) 1 := by
    refine RowL.lit (ls := [[]]) RRy12 (by simp) (fun i hi => ?_)
    simp only [List.length_cons, List.length_nil] at hi
    by_cases h0 : i = 0
    · subst h0; exact ⟨none, 0, rfl, nil_argS _, fun _ => rfl⟩
    omega
  have hsh := shape_any 3 (o := 13) (xs := [2, 2]) (ls := [[]]) (a1 := some ⟨gn, 0, none⟩) (n1 := 1) (c1 := 1) HAT.out (fun h => by first | rfl | cases h) (by simp) HRL (by decide +kernel) (by simp)
  rw [show infC 3 13 1 [2, 2] [[]] = 0 by decide +kernel, show infV 3 13 1 [2, 2] [[]] = [2, 2] by decide +kernel] at hsh
  have HSH := Lib.hid hsh
  clear hsh HRL RRy12 HAT 
  go_wp2_with fail
  have hyy := HYy12.out
  (try rw [hyy])
  clear hyy
  refine (HSH.out).mono ?_
  rintro e y13 ⟨r, rfl, hr, hy⟩
  have B13 : Below w.heap.size w y13 := B12.trans (hy.mono B12.size)
  replace HRa := Lib.hid (HRa.out.later hy)
  replace HRb := Lib.hid (HRb.out.later hy)
  replace HRc := Lib.hid (HRc.out.later hy)
  obtain ⟨add, cpd, rfl, hr2⟩ := res_slice11 hr
  simp only [List.length_cons, List.length_nil, Nat.reduceAdd, Nat.zero_add] at hr2
  (try simp only [List.length_cons, List.length_nil, Nat.reduceAdd, Nat.zero_add])
  have HRd := Lib.hid hr2
  clear hr hr2 HSH
  clear hy
  have HAT := Lib.hid (nil_argS y13)
  go_wp2_with fail
  refine (nodeI_any 12 1 (by omega) _).mono ?_
  rintro e y14 ⟨gn, rfl, hy⟩
  have B14 : Below w.heap.size w y14 := B13.trans (hy.mono B13.size)
  replace HRa := Lib.hid (HRa.out.later hy)
  replace HRb := Lib.hid (HRb.out.later hy)
  replace HRc := Lib.hid (HRc.out.later hy)
  replace HRd := Lib.hid (HRd.out.later hy)
  replace HAT := Lib.hid (HAT.out.later hy)
  clear hy
  have HZy14 := Lib.hid (show y14.heap.size = (y14.heap.size) from rfl)
  obtain ⟨y15, hy15⟩ : ∃ Y, y14.alloc (.cells #[.int .i64 1, .int .i64 1] 3) = Y := ⟨_, rfl⟩
  have hy : Below y14.heap.size y14 y15 := by rw [← hy15]; exact (Below.refl _ _).alloc (Nat.le_refl _) _
  have RRy15 : Row y15 (y14.heap.size) 3 #[.int .i64 1, .int .i64 1] := by rw [← hy15, ← HZy14.out]; exact Row.new _ _ _
  have HZy15 := Lib.hid (show y15.heap.size = (y14.heap.size + 1) by rw [← hy15, World.size_alloc, HZy14.out])
  have B15 : Below w.heap.size w y15 := B14.trans (hy.mono B14.size)
  replace HRa := Lib.hid (HRa.out.later hy)
  replace HRb := Lib.hid (HRb.out.later hy)
  replace HRc := Lib.hid (HRc.out.later hy)
  replace HRd := Lib.hid (HRd.out.later hy)
  replace HAT := Lib.hid (HAT.out.later hy)
  have HYy15 := Lib.hid hy15
  clear hy hy15
  have HSy15 := Lib.hid RRy15
  clear RRy15
  obtain ⟨y16, hy16⟩ : ∃ Y, y15.alloc (.cells #[.slice (some ⟨(y14.heap.size), 0, none⟩) 2 2] 28) = Y := ⟨_, rfl⟩
  have hy : Below y15.heap.size y15 y16 := by rw [← hy16]; exact (Below.refl _ _).alloc (Nat.le_refl _) _
  have RRy16 : Row y16 (y14.heap.size + 1) 28 #[.slice (some ⟨(y14.heap.size), 0, none⟩) 2 2] := by rw [← hy16, ← HZy15.out]; exact Row.new _ _ _
  have HZy16 := Lib.hid (show y16.heap.size = (y14.heap.size + 1 + 1) by rw [← hy16, World.size_alloc, HZy15.out])
  have B16 : Below w.heap.size w y16 := B15.trans (hy.mono B15.size)
  replace HRa := Lib.hid (HRa.out.later hy)
  replace HRb := Lib.hid (HRb.out.later hy)
  replace HRc := Lib.hid (HRc.out.later hy)
  replace HRd := Lib.hid (HRd.out.later hy)
  replace HAT := Lib.hid (HAT.out.later hy)
  replace HSy15 := Lib.hid (HSy15.out.later hy)
  have HYy16 := Lib.hid hy16
  clear hy hy16
  have HRL : RowL y16 (.slice (some ⟨(y14.heap.size + 1), 0, none⟩) 1 1) [[1, 1]] (some ⟨(y14.heap.size + 1), 0, none⟩) 1 := by
    refine RowL.lit (ls := [[1, 1]]) RRy16 (by simp) (fun i hi => ?_)
    simp only [List.length_cons, List.length_nil] at hi
    by_cases h0 : i = 0
    · subst h0; exact ⟨some ⟨(y14.heap.size), 0, none⟩, 2, rfl, Row.argS HSy15.out [1, 1] rfl (fun x hx => by simp at hx; omega), fun h => by cases h⟩
    omega
  have hsh := shape_any 3 (o := 12) (xs := []) (ls := [[1, 1]]) (a1 := some ⟨gn, 0, none⟩) (n1 := 1) (c1 := 1) HAT.out (fun h => by first | rfl | cases h) (by simp) HRL (by decide +kernel) (by simp)
  rw [show infC 3 12 1 [] [[1, 1]] = 0 by decide +kernel, show infV 3 12 1 [] [[1, 1]] = [] by decide +kernel] at hsh
  have HSH := Lib.hid hsh
  clear hsh HRL RRy16 HAT HSy15
  go_wp2_with fail
  have hyy := HYy15.out
  (try rw [hyy])
  clear hyy
  have hyy := HYy16.out
  (try rw [hyy])
  clear hyy
  refine (HSH.out).mono ?_
  rintro e y17 ⟨r, rfl, hr, hy⟩
  have B17 : Below w.heap.size w y17 := B16.trans (hy.mono B16.size)
  replace HRa := Lib.hid (HRa.out.later hy)
  replace HRb := Lib.hid (HRb.out.later hy)
  replace HRc := Lib.hid (HRc.out.later hy)
  replace HRd := Lib.hid (HRd.out.later hy)
  obtain ⟨adf, cpf, rfl, hr2⟩ := res_slice11 hr
  simp only [List.length_cons, List.length_nil, Nat.reduceAdd, Nat.zero_add] at hr2
  (try simp only [List.length_cons, List.length_nil, Nat.reduceAdd, Nat.zero_add])
  have HRf := Lib.hid hr2
  clear hr hr2 HSH
  clear hy
  have HZy17 := Lib.hid (show y17.heap.size = (y17.heap.size) from rfl)
  obtain ⟨y18, hy18⟩ : ∃ Y, y17.alloc (.cells #[.int .i64 0] 3) = Y := ⟨_, rfl⟩
  have hy : Below y17.heap.size y17 y18 := by rw [← hy18]; exact (Below.refl _ _).alloc (Nat.le_refl _) _
  have RRy18 : Row y18 (y17.heap.size) 3 #[.int .i64 0] := by rw [← hy18, ← HZy17.out]; exact Row.new _ _ _
  have HZy18 := Lib.hid (show y18.heap.size = (y17.heap.size + 1) by rw [← hy18, World.size_alloc, HZy17.out])
  have B18 : Below w.heap.size w y18 := B17.trans (hy.mono B17.size)
  replace HRa := Lib.hid (HRa.out.later hy)
  replace HRb := Lib.hid (HRb.out.later hy)
  replace HRc := Lib.hid (HRc.out.later hy)
  replace HRd := Lib.hid (HRd.out.later hy)
  replace HRf := Lib.hid (HRf.out.later hy)
  have HYy18 := Lib.hid hy18
  clear hy hy18
  have HAT := Lib.hid (Row.argS RRy18 [0] rfl (fun x hx => by simp at hx; omega))
  clear RRy18
  go_wp2_with fail
  have hyy := HYy18.out
  (try rw [hyy])
  clear hyy
  refine (nodeI_any 17 1 (by omega) _).mono ?_
  rintro e y19 ⟨gn, rfl, hy⟩
  have B19 : Below w.heap.size w y19 := B18.trans (hy.mono B18.size)
  replace HRa := Lib.hid (HRa.out.later hy)
  replace HRb := Lib.hid (HRb.out.later hy)
  replace HRc := Lib.hid (HRc.out.later hy)
  replace HRd := Lib.hid (HRd.out.later hy)
  replace HRf := Lib.hid (HRf.out.later hy)
  replace HAT := Lib.hid (HAT.out.later hy)
  clear hy
  have HZy19 := Lib.hid (show y19.heap.size = (y19.heap.size) from rfl)
  obtain ⟨y20, hy20⟩ : ∃ Y, y19.alloc (.cells #[.slice none 0 0] 28) = Y := ⟨_, rfl⟩
  have hy : Below y19.heap.size y19 y20 := by rw [← hy20]; exact (Below.refl _ _).alloc (Nat.le_refl _) _
  have RRy20 : Row y20 (y19.heap.size) 28 #[.slice none 0 0] := by rw [← hy20, ← HZy19.out]; exact Row.new _ _ _
  have HZy20 := Lib.hid (show y20.heap.size = (y19.heap.size + 1) by rw [← hy20, World.size_alloc, HZy19.out])
  have B20 : Below w.heap.size w y20 := B19.trans (hy.mono B19.size)
  replace HRa := Lib.hid (HRa.out.later hy)
  replace HRb := Lib.hid (HRb.out.later hy)
  replace HRc := Lib.hid (HRc.out.later hy)
  replace HRd := Lib.hid (HRd.out.later hy)
  replace HRf := Lib.hid (HRf.out.later hy)
  replace HAT := Lib.hid (HAT.out.later hy)
  have HYy20 := Lib.hid hy20
  clear hy hy20
  have HRL : RowL y20 (.slice (some ⟨(y19.heap.size), 0, none⟩) 1 1) [[]] (some ⟨(y19.heap.size), 0, none⟩) 1 := by
    refine RowL.lit (ls := [[]]) RRy20 (by simp) (fun i hi => ?_)
    simp only [List.length_cons, List.length_nil] at hi
    by_cases h0 : i = 0
    · subst h0; exact ⟨none, 0, rfl, nil_argS _, fun _ => rfl⟩
    omega
  have hsh := shape_any 3 (o := 17) (xs := [0]) (ls := [[]]) (a1 := some ⟨gn, 0, none⟩) (n1 := 1) (c1 := 1) HAT.out (fun h => by first | rfl | cases h) (by simp) HRL (by decide +kernel) (by simp)
  rw [show infC 3 17 1 [0] [[]] = 13 by decide +kernel, show infV 3 17 1 [0] [[]] = [] by decide +kernel] at hsh
  have HSH := Lib.hid hsh
  clear hsh HRL RRy20 HAT 
  go_wp2_with fail
  have hyy := HYy20.out
  (try rw [hyy])
  clear hyy
  refine (HSH.out).mono ?_
  rintro e y21 ⟨r, rfl, hr, hy⟩
  have B21 : Below w.heap.size w y21 := B20.trans (hy.mono B20.size)
  replace HRa := Lib.hid (HRa.out.later hy)
  replace HRb := Lib.hid (HRb.out.later hy)
  replace HRc := Lib.hid (HRc.out.later hy)
  replace HRd := Lib.hid (HRd.out.later hy)
  replace HRf := Lib.hid (HRf.out.later hy)
  obtain ⟨adx, cpx, rfl, hr2⟩ := res_slice11 hr
  simp only [List.length_cons, List.length_nil, Nat.reduceAdd, Nat.zero_add] at hr2
  (try simp only [List.length_cons, List.length_nil, Nat.reduceAdd, Nat.zero_add])
  have HRx := Lib.hid hr2
  clear hr hr2 HSH
  clear hy
  have HAT := Lib.hid (nil_argS y21)
  go_wp2_with fail
  refine (nodeI_any 10 2 (by omega) _).mono ?_
  rintro e y22 ⟨gn, rfl, hy⟩
  have B22 : Below w.heap.size w y22 := B21.trans (hy.mono B21.size)
  replace HRa := Lib.hid (HRa.out.later hy)
  replace HRb := Lib.hid (HRb.out.later hy)
  replace HRc := Lib.hid (HRc.out.later hy)
  replace HRd := Lib.hid (HRd.out.later hy)
  replace HRf := Lib.hid (HRf.out.later hy)
  replace HRx := Lib.hid (HRx.out.later hy)
  replace HAT := Lib.hid (HAT.out.later hy)
  clear hy
  have HZy22 := Lib.hid (show y22.heap.size = (y22.heap.size) from rfl)
  obtain ⟨y23, hy23⟩ : ∃ Y, y22.alloc (.cells #[.slice none 0 0, .slice none 0 0] 28) = Y := ⟨_, rfl⟩
  have hy : Below y22.heap.size y22 y23 := by rw [← hy23]; exact (Below.refl _ _).alloc (Nat.le_refl _) _
  have RRy23 : Row y23 (y22.heap.size) 28 #[.slice none 0 0, .slice none 0 0] := by rw [← hy23, ← HZy22.out]; exact Row.new _ _ _
  have HZy23 := Lib.hid (show y23.heap.size = (y22.heap.size + 1) by rw [← hy23, World.size_alloc, HZy22.out])
  have B23 : Below w.heap.size w y23 := B22.trans (hy.mono B22.size)
  replace HRa := Lib.hid (HRa.out.later hy)
  replace HRb := Lib.hid (HRb.out.later hy)
  replace HRc := Lib.hid (HRc.out.later hy)
  replace HRd := Lib.hid (HRd.out.later hy)
  replace HRf := Lib.hid (HRf.out.later hy)
  replace HRx := Lib.hid (HRx.out.later hy)
  replace HAT := Lib.hid (HAT.out.later hy)
  have HYy23 := Lib.hid hy23
  clear hy hy23
  have HRL : RowL y23 (.slice (some ⟨(y22.heap.size), 0, none⟩) 2 2) [[], []] (some ⟨(y22.heap.size), 0, none⟩) 2 := by
    refine RowL.lit (ls := [[], []]) RRy23 (by simp) (fun i hi => ?_)
    simp only [List.length_cons, List.length_nil] at hi
    by_cases h0 : i = 0
    · subst h0; exact ⟨none, 0, rfl, nil_argS _, fun _ => rfl⟩
    by_cases h1 : i = 1
    · subst h1; exact ⟨none, 0, rfl, nil_argS _, fun _ => rfl⟩
    omega
  have hsh := shape_any 3 (o := 10) (xs := []) (ls := [[], []]) (a1 := some ⟨gn, 0, none⟩) (n1 := 2) (c1 := 2) HAT.out (fun h => by first | rfl | cases h) (by simp) HRL (by decide +kernel) (by simp)
  rw [show infC 3 10 2 [] [[], []] = 13 by decide +kernel, show infV 3 10 2 [] [[], []] = [] by decide +kernel] at hsh
  have HSH := Lib.hid hsh
  clear hsh HRL RRy23 HAT 
  go_wp2_with fail
  have hyy := HYy23.out
  (try rw [hyy])
  clear hyy
  refine (HSH.out).mono ?_
  rintro e y24 ⟨r, rfl, hr, hy⟩
  have B24 : Below w.heap.size w y24 := B23.trans (hy.mono B23.size)
  replace HRa := Lib.hid (HRa.out.later hy)
  replace HRb := Lib.hid (HRb.out.later hy)
  replace HRc := Lib.hid (HRc.out.later hy)
  replace HRd := Lib.hid (HRd.out.later hy)
  replace HRf := Lib.hid (HRf.out.later hy)
  replace HRx := Lib.hid (HRx.out.later hy)
  obtain ⟨adz, cpz, rfl, hr2⟩ := res_slice11 hr
  simp only [List.length_cons, List.length_nil, Nat.reduceAdd, Nat.zero_add] at hr2
  (try simp only [List.length_cons, List.length_nil, Nat.reduceAdd, Nat.zero_add])
  have HRz := Lib.hid hr2
  clear hr hr2 HSH
  clear hy
  have HZy24 := Lib.hid (show y24.heap.size = (y24.heap.size) from rfl)
  obtain ⟨y25, hy25⟩ : ∃ Y, y24.alloc (.cells #[.int .i64 2, .int .i64 2] 3) = Y := ⟨_, rfl⟩
  have hy : Below y24.heap.size y24 y25 := by rw [← hy25]; exact (Below.refl _ _).alloc (Nat.le_refl _) _
  have RRy25 : Row y25 (y24.heap.size) 3 #[.int .i64 2, .int .i64 2] := by rw [← hy25, ← HZy24.out]; exact Row.new _ _ _
  have HZy25 := Lib.hid (show y25.heap.size = (y24.heap.size + 1) by rw [← hy25, World.size_alloc, HZy24.out])
  have B25 : Below w.heap.size w y25 := B24.trans (hy.mono B24.size)
  replace HRa := Lib.hid (HRa.out.later hy)
  replace HRb := Lib.hid (HRb.out.later hy)
  replace HRc := Lib.hid (HRc.out.later hy)
  replace HRd := Lib.hid (HRd.out.later hy)
  replace HRf := Lib.hid (HRf.out.later hy)
  replace HRx := Lib.hid (HRx.out.later hy)
  replace HRz := Lib.hid (HRz.out.later hy)
  have HYy25 := Lib.hid hy25
  clear hy hy25
  have hat := HRd.out.at_
  have hss := sameL_any hat.2.1 (Row.argS RRy25 [2, 2] rfl (fun x hx => by simp at hx; omega)) (by simp)
  rw [decide_eq_true (show ([2, 2] : List Int) = [2, 2] from rfl)] at hss
  have HSS := Lib.hid hss
  clear hat hss RRy25
  go_wp2_with fail
  have hyy := HYy25.out
  (try rw [hyy])
  clear hyy
  refine (HSS.out).mono ?_
  rintro e y26 ⟨rfl, hy⟩
  have B26 : Below w.heap.size w y26 := B25.trans (hy.mono B25.size)
  replace HRa := Lib.hid (HRa.out.later hy)
  replace HRb := Lib.hid (HRb.out.later hy)
  replace HRc := Lib.hid (HRc.out.later hy)
  replace HRd := Lib.hid (HRd.out.later hy)
  replace HRf := Lib.hid (HRf.out.later hy)
  replace HRx := Lib.hid (HRx.out.later hy)
  replace HRz := Lib.hid (HRz.out.later hy)
  clear HSS
  clear hy
  have HZy26 := Lib.hid (show y26.heap.size = (y26.heap.size) from rfl)
  obtain ⟨y27, hy27⟩ : ∃ Y, y26.alloc (.cells #[.int .i64 2, .int .i64 2] 3) = Y := ⟨_, rfl⟩
  have hy : Below y26.heap.size y26 y27 := by rw [← hy27]; exact (Below.refl _ _).alloc (Nat.le_refl _) _
  have RRy27 : Row y27 (y26.heap.size) 3 #[.int .i64 2, .int .i64 2] := by rw [← hy27, ← HZy26.out]; exact Row.new _ _ _
  have HZy27 := Lib.hid (show y27.heap.size = (y26.heap.size + 1) by rw [← hy27, World.size_alloc, HZy26.out])
  have B27 : Below w.heap.size w y27 := B26.trans (hy.mono B26.size)
  replace HRa := Lib.hid (HRa.out.later hy)
  replace HRb := Lib.hid (HRb.out.later hy)
  replace HRc := Lib.hid (HRc.out.later hy)
  replace HRd := Lib.hid (HRd.out.later hy)
  replace HRf := Lib.hid (HRf.out.later hy)
  replace HRx := Lib.hid (HRx.out.later hy)
  replace HRz := Lib.hid (HRz.out.later hy)
  have HYy27 := Lib.hid hy27
  clear hy hy27
  have HAT := Lib.hid (Row.argS RRy27 [2, 2] rfl (fun x hx => by simp at hx; omega))
  clear RRy27
  go_wp2_with fail
  have hyy := HYy27.out
  (try rw [hyy])
  clear hyy
  refine (nodeI_any 13 1 (by omega) _).mono ?_
  rintro e y28 ⟨gn, rfl, hy⟩
  have B28 : Below w.heap.size w y28 := B27.trans (hy.mono B27.size)
  replace HRa := Lib.hid (HRa.out.later hy)
  replace HRb := Lib.hid (HRb.out.later hy)
  replace HRc := Lib.hid (HRc.out.later hy)
  replace HRd := Lib.hid (HRd.out.later hy)
  replace HRf := Lib.hid (HRf.out.later hy)
  replace HRx := Lib.hid (HRx.out.later hy)
  replace HRz := Lib.hid (HRz.out.later hy)
  replace HAT := Lib.hid (HAT.out.later hy)
  clear hy
  have HZy28 := Lib.hid (show y28.heap.size = (y28.heap.size) from rfl)
  obtain ⟨y29, hy29⟩ : ∃ Y, y28.alloc (.cells #[.slice none 0 0] 28) = Y := ⟨_, rfl⟩
  have hy : Below y28.heap.size y28 y29 := by rw [← hy29]; exact (Below.refl _ _).alloc (Nat.le_refl _) _
  have RRy29 : Row y29 (y28.heap.size) 28 #[.slice none 0 0] := by rw [← hy29, ← HZy28.out]; exact Row.new _ _ _
  have HZy29 := Lib.hid (show y29.heap.size = (y28.heap.size + 1) by rw [← hy29, World.size_alloc, HZy28.out])
  have B29 : Below w.heap.size w y29 := B28.trans (hy.mono B28.size)
  replace HRa := Lib.hid (HRa.out.later hy)
  replace HRb := Lib.hid (HRb.out.later hy)
  replace HRc := Lib.hid (HRc.out.later hy)
  replace HRd := Lib.hid (HRd.out.later hy)
  replace HRf := Lib.hid (HRf.out.later hy)
  replace HRx := Lib.hid (HRx.out.later hy)
  replace HRz := Lib.hid (HRz.out.later hy)
  replace HAT := Lib.hid (HAT.out.later hy)
  have HYy29 := Lib.hid hy29
  clear hy hy29
  have HRL : RowL y29 (.slice (some ⟨(y28.heap.size), 0, none⟩) 1 1) [[]] (some ⟨(y28.heap.size), 0, none⟩) 1 := by
    refine RowL.lit (ls := [[]]) RRy29 (by simp) (fun i hi => ?_)
    simp only [List.length_cons, List.length_nil] at hi
    by_cases h0 : i = 0
    · subst h0; exact ⟨none, 0, rfl, nil_argS _, fun _ => rfl⟩
    omega
  have hsh := grows_any 3 (o := 13) (xs := [2, 2]) (ls := [[]]) (a1 := some ⟨gn, 0, none⟩) (n1 := 1) (c1 := 1) HAT.out (fun h => by first | rfl | cases h) (by simp) HRL (by decide +kernel) (by simp)
  rw [show growI 3 13 1 [2, 2] [[]] = true by decide +kernel] at hsh
  have HSH := Lib.hid hsh
  clear hsh HRL RRy29 HAT 
  go_wp2_with fail
  have hyy := HYy29.out
  (try rw [hyy])
  clear hyy
  refine (HSH.out).mono ?_
  rintro e y30 ⟨rfl, hy⟩
  have B30 : Below w.heap.size w y30 := B29.trans (hy.mono B29.size)
  replace HRa := Lib.hid (HRa.out.later hy)
  replace HRb := Lib.hid (HRb.out.later hy)
  replace HRc := Lib.hid (HRc.out.later hy)
  replace HRd := Lib.hid (HRd.out.later hy)
  replace HRf := Lib.hid (HRf.out.later hy)
  replace HRx := Lib.hid (HRx.out.later hy)
  replace HRz := Lib.hid (HRz.out.later hy)
  clear HSH
  clear hy
  have HAT := Lib.hid (nil_argS y30)
  go_wp2_with fail
  refine (nodeI_any 1 2 (by omega) _).mono ?_
  rintro e y31 ⟨gn, rfl, hy⟩
  have B31 : Below w.heap.size w y31 := B30.trans (hy.mono B30.size)
  replace HRa := Lib.hid (HRa.out.later hy)
  replace HRb := Lib.hid (HRb.out.later hy)
  replace HRc := Lib.hid (HRc.out.later hy)
  replace HRd := Lib.hid (HRd.out.later hy)
  replace HRf := Lib.hid (HRf.out.later hy)
  replace HRx := Lib.hid (HRx.out.later hy)
  replace HRz := Lib.hid (HRz.out.later hy)
  replace HAT := Lib.hid (HAT.out.later hy)
  clear hy
  have HZy31 := Lib.hid (show y31.heap.size = (y31.heap.size) from rfl)
  obtain ⟨y32, hy32⟩ : ∃ Y, y31.alloc (.cells #[.slice none 0 0, .slice none 0 0] 28) = Y := ⟨_, rfl⟩
  have hy : Below y31.heap.size y31 y32 := by rw [← hy32]; exact (Below.refl _ _).alloc (Nat.le_refl _) _
  have RRy32 : Row y32 (y31.heap.size) 28 #[.slice none 0 0, .slice none 0 0] := by rw [← hy32, ← HZy31.out]; exact Row.new _ _ _
  have HZy32 := Lib.hid (show y32.heap.size = (y31.heap.size + 1) by rw [← hy32, World.size_alloc, HZy31.out])
  have B32 : Below w.heap.size w y32 := B31.trans (hy.mono B31.size)
  replace HRa := Lib.hid (HRa.out.later hy)
  replace HRb := Lib.hid (HRb.out.later hy)
  replace HRc := Lib.hid (HRc.out.later hy)
  replace HRd := Lib.hid (HRd.out.later hy)
  replace HRf := Lib.hid (HRf.out.later hy)
  replace HRx := Lib.hid (HRx.out.later hy)
  replace HRz := Lib.hid (HRz.out.later hy)
  replace HAT := Lib.hid (HAT.out.later hy)
  have HYy32 := Lib.hid hy32
  clear hy hy32
  have HRL : RowL y32 (.slice (some ⟨(y31.heap.size), 0, none⟩) 2 2) [[], []] (some ⟨(y31.heap.size), 0, none⟩) 2 := by
    refine RowL.lit (ls := [[], []]) RRy32 (by simp) (fun i hi => ?_)
    simp only [List.length_cons, List.length_nil] at hi
    by_cases h0 : i = 0
    · subst h0; exact ⟨none, 0, rfl, nil_argS _, fun _ => rfl⟩
    by_cases h1 : i = 1
    · subst h1; exact ⟨none, 0, rfl, nil_argS _, fun _ => rfl⟩
    omega
  have hsh := grows_any 3 (o := 1) (xs := []) (ls := [[], []]) (a1 := some ⟨gn, 0, none⟩) (n1 := 2) (c1 := 2) HAT.out (fun h => by first | rfl | cases h) (by simp) HRL (by decide +kernel) (by simp)
  rw [show growI 3 1 2 [] [[], []] = false by decide +kernel] at hsh
  have HSH := Lib.hid hsh
  clear hsh HRL RRy32 HAT 
  go_wp2_with fail
  have hyy := HYy32.out
  (try rw [hyy])
  clear hyy
  refine (HSH.out).mono ?_
  rintro e y33 ⟨rfl, hy⟩
  have B33 : Below w.heap.size w y33 := B32.trans (hy.mono B32.size)
  replace HRa := Lib.hid (HRa.out.later hy)
  replace HRb := Lib.hid (HRb.out.later hy)
  replace HRc := Lib.hid (HRc.out.later hy)
  replace HRd := Lib.hid (HRd.out.later hy)
  replace HRf := Lib.hid (HRf.out.later hy)
  replace HRx := Lib.hid (HRx.out.later hy)
  replace HRz := Lib.hid (HRz.out.later hy)
  clear HSH
  clear hy
  go_wp2_with fail
  refine (known12_any _).mono ?_
  rintro e y34 ⟨rfl, hy⟩
  have B34 : Below w.heap.size w y34 := B33.trans (hy.mono B33.size)
  replace HRa := Lib.hid (HRa.out.later hy)
  replace HRb := Lib.hid (HRb.out.later hy)
  replace HRc := Lib.hid (HRc.out.later hy)
  replace HRd := Lib.hid (HRd.out.later hy)
  replace HRf := Lib.hid (HRf.out.later hy)
  replace HRx := Lib.hid (HRx.out.later hy)
  replace HRz := Lib.hid (HRz.out.later hy)
  clear hy
  go_wp2_with fail
  go_ret
  exact ⟨rfl, B34⟩
end
section
open Go.RowKit
set_option linter.unusedVariables false
set_option linter.unusedSimpArgs false
theorem infer_later {v v' o : Int} {n : Nat} {xs : List Int} {ls : List (List Int)} (h : chkO v o n xs = 0) (h1 : v ≤ v') (h3 : v' ≤ 3) (hv : verO o v' = true) (hi : infC v o n xs ls = 0) (hn : ¬ (v' < 3 ∧ (attI v o n xs ls).length = 0 ∧ noneB v' o = true)) :
    infC v' o n (attI v o n xs ls) ls = 0 ∧ infV v' o n (attI v o n xs ls) ls = infV v o n xs ls := by
  have hc := onward (r := ((shpI ls 0).length : Int)) h h1 h3 hv
  have h0 : 1 ≤ v := by
    unfold chkO at h
    split at h
    · cases h
    · omega
  have hin : inO o = true := by
    unfold verO at hv
    rw [Bool.and_eq_true] at hv
    exact hv.1
  have ha : attI v' o n (attI v o n xs ls) ls = attI v o n xs ls := by
    obtain ⟨att, hatt⟩ : ∃ a, attI v o n xs ls = a := ⟨_, rfl⟩
    rw [hatt] at hn ⊢
    unfold attI expO
    rw [if_neg]
    rintro ⟨_, hl⟩
    rw [none_is hin (by omega) h3] at hl
    rw [Bool.and_eq_true, decide_eq_true_iff] at hl
    refine hn ⟨?_, hl.1, hl.2⟩
    rcases Int.lt_or_le v' 3 with g | g
    · exact g
    · obtain rfl : v' = 3 := by omega
      have h5 := hl.2
      unfold noneB at h5
      split at h5
      · exact absurd (of_decide_eq_true h5) (by decide)
      · split at h5
        · exact absurd (of_decide_eq_true h5) (by decide)
        · cases h5
  have hcc : chkO v' o n (attI v o n xs ls) = 0 := hc
  have e : infC v' o n (attI v o n xs ls) ls = 0 := by
    unfold infC at hi ⊢
    rw [ha, if_neg (by rw [hcc]; simp)]
    rw [if_neg (by rw [h]; simp)] at hi
    exact hi
  refine ⟨e, ?_⟩
  unfold infV
  rw [if_pos e, if_pos hi, ha]
theorem meantO_len12 (o : Int) {r : Int} (h0 : 0 ≤ r) (h4 : r ≤ 4) : (meantO o r).length ≤ 4 := by
  unfold meantO
  split
  · simp
  · split
    · simp
    · split
      · rw [bwdI_len]; omega
      · rw [fwdI_len]; omega
theorem expO_len12 {v o r : Int} {n : Nat} {xs : List Int} (h : xs.length ≤ 17592186044416) : (expO v o n xs r).length ≤ 17592186044416 := by
  unfold expO
  split
  · have := meantO_len12 o (rkI_in r).1 (rkI_in r).2
    omega
  · exact h
set_option maxRecDepth 100000 in
set_option maxHeartbeats 40000000 in
theorem inferLater_walk (v v2 : Int) {v0 : Value} {o : Int} {ys xs : List Int} {ls : List (List Int)} {a1 a2 al : Option Addr} {c1 c2 cl : Nat} (w : World) (N : NodeA w v0 o ys xs a1 c1 a2 c2) (hy0 : ys.length ≤ 17592186044416) (hx0 : xs.length ≤ 17592186044416) (L : RowL w (.slice al ls.length cl) ls al cl) (hls : ∀ x ∈ ls, x.length ≤ 17592186044416) (hll : ls.length ≤ 17592186044416) : Calls Try.prog 4 #[.int .i64 v, v0, .slice al ls.length cl, .int .i64 v2] w fun e w' => e = .returned (.bool true) ∧ Below w.heap.size w w' := by
  have HN := Lib.hid N
  have HL := Lib.hid L
  have HLS := Lib.hid hls
  obtain rfl := N.is
  obtain ⟨m1, hm1⟩ : ∃ m, ys.length = m := ⟨_, rfl⟩
  obtain ⟨m2, hm2⟩ : ∃ m, xs.length = m := ⟨_, rfl⟩
  obtain ⟨k, hk⟩ : ∃ m, ls.length = m := ⟨_, rfl⟩
  have HM1 := Lib.hid hm1
  have HM2 := Lib.hid hm2
  have HK := Lib.hid hk
  obtain ⟨IC, hic⟩ : ∃ c, infC v o m1 xs ls = c := ⟨_, rfl⟩
  obtain ⟨IV, hiv⟩ : ∃ c, infV v o m1 xs ls = c := ⟨_, rfl⟩
  have HIC := Lib.hid hic
  have HIV := Lib.hid hiv
  obtain ⟨e1, he1⟩ : ∃ c, chkO v o m1 xs = c := ⟨_, rfl⟩
  have HE1 := Lib.hid he1
  rw [hm1, hm2, hk]
  obtain ⟨W, hW⟩ : ∃ W, w.alloc (.cells #[.int .i64 o, .slice a1 m1 c1, .slice a2 m2 c2] 25) = W := ⟨_, rfl⟩
  have R0 : Row W w.heap.size 25 #[.int .i64 o, .slice a1 m1 c1, .slice a2 m2 c2] := by rw [← hW]; exact Row.new _ _ _
  have hbW : Below w.heap.size w W := by rw [← hW]; exact (Below.refl _ _).alloc (Nat.le_refl _) _
  have HSH := Lib.hid (show ∀ X, Below w.heap.size w X → Calls Try.prog 10 #[.int .i64 v, .agg #[.int .i64 o, .slice a1 m1 c1, .slice a2 m2 c2], .slice al k cl] X fun e w' => ∃ r, e = .returned (.tuple #[r, .int .i64 IC]) ∧ ResS X.heap.size w' r IV ∧ Below X.heap.size X w' from fun X hX => by
    have h := shape_any v (HN.out.later hX).atts HN.out.nil2 hx0 (HL.out.later hX) hls hll (o := o) (a1 := a1) (n1 := m1) (c1 := c1)
    rw [hm2, hk, hic, hiv] at h
    exact h)
  have HR0 := Lib.hid R0
  obtain ⟨k0, k1, k2, _, _, _⟩ := R0.three
  have HCK := Lib.hid (show ∀ X, Below w.heap.size w X → Calls Try.prog 14 #[.int .i64 v, .agg #[.int .i64 o, .slice a1 m1 c1, .slice a2 m2 c2]] X fun e w' => e = .returned (.int .i64 e1) ∧ Below X.heap.size X w' from fun X hX => by
    have h := checkR_any v (HN.out.later hX).atts HN.out.nil2 hx0 (o := o) (a1 := a1) (n1 := m1) (c1 := c1)
    rw [hm2, he1] at h
    exact h)
  rw [hm1] at hy0
  rw [hm2] at hx0
  rw [hk] at hll
  have HXX := Lib.hid (show xs.length ≤ 17592186044416 by rw [HM2.out]; exact hx0)
  clear hm1 hm2 hk hic hiv he1 N L hls R0
  have h0b := Below.refl W.heap.size W
  go_enter Try.func4, Try.ntmps4
  (try rw [hW])
  go_upto_region 1 with fail
  (try rw [hW])
  clear hW
  go_cut [43] (fun s wx => ∃ t : Bool, s = .bool t ∧ (t = false → Hid (k ≤ 20 ∧ 0 < k ∧ e1 = 0 ∧ v ≤ v2 ∧ v2 ≤ 3 ∧ verO o v2 = true)) ∧ Below W.heap.size W wx)
  case first =>
    by_cases h20 : k > 20
    · have h20I : (k : Int) > 20 := by omega
      go_wp2_with fail
      go_meet
      exact ⟨true, rfl, fun h => (by cases h), h0b⟩
    · have h20I : ¬ (k : Int) > 20 := by omega
      by_cases hk0 : k = 0
      · have hk0I : ((k : Int) == 0) = true := by simp; omega
        have HK0 := Lib.hid hk0
        clear hk0
        go_wp2_with fail
        go_meet
        exact ⟨true, rfl, fun h => (by cases h), h0b⟩
      · have hk0I : ((k : Int) == 0) = false := by simp; omega
        go_wp2_with fail
        refine (HCK.out _ hbW).mono ?_
        rintro e y1 ⟨rfl, hy⟩
        have B1 : Below W.heap.size W y1 := hy
        clear hy
        clear k0 k1 k2
        obtain ⟨k0, k1, k2, _, _, _⟩ := (HR0.out.later B1).three
        by_cases h1 : e1 = 0
        case neg =>
          have h1I : (e1 != 0) = true := by simpa using h1
          go_wp2_with fail
          go_meet
          exact ⟨true, rfl, fun h => (by cases h), B1⟩
        case pos =>
          subst h1
          by_cases h2 : v2 < v
          · go_wp2_with fail
            go_meet
            exact ⟨true, rfl, fun h => (by cases h), B1⟩
          · by_cases h3 : v2 > 3
            · go_wp2_with fail
              go_meet
              exact ⟨true, rfl, fun h => (by cases h), B1⟩
            · have hin := inR_any o v2 y1
              obtain ⟨t, ht⟩ : ∃ t, verO o v2 = t := ⟨_, rfl⟩
              rw [ht] at hin
              have HIN := Lib.hid hin
              have HT := Lib.hid ht
              have HCO := Lib.hid (show k ≤ 20 ∧ 0 < k ∧ v ≤ v2 ∧ v2 ≤ 3 from ⟨by omega, by omega, by omega, by omega⟩)
              clear hin ht
              go_wp2_with fail
              refine HIN.out.mono ?_
              rintro e y2 ⟨rfl, hy⟩
              have B2 : Below W.heap.size W y2 := B1.trans (hy.mono B1.size)
              clear hy
              cases t with
              | true =>
                go_wp2_with fail
                go_meet
                exact ⟨false, by first | rfl | (simp only [Value.bool.injEq, Bool.or_eq_false_iff, decide_eq_false_iff_not]; omega), fun _ => Lib.hid ⟨HCO.out.1, HCO.out.2.1, by first | rfl | trivial, HCO.out.2.2.1, HCO.out.2.2.2, HT.out⟩, B2⟩
              | false =>
                go_wp2_with fail
                go_meet
                exact ⟨true, rfl, fun h => (by cases h), B2⟩
  case rest =>
    obtain ⟨t, rfl, hco, hB1⟩ := hcut
    obtain ⟨V1, hV1⟩ : ∃ y, wc = y := ⟨_, rfl⟩
    rw [hV1] at hB1 ⊢
    clear hV1
    have hb1 : Below w.heap.size w V1 := hbW.trans (hB1.mono hbW.size)
    cases t with
    | true =>
      go_wp2_with fail
      refine (known12_any _).mono ?_
      rintro e z1 ⟨rfl, hz1⟩
      go_wp2_with fail
      (try rw [Exit.noGoto_ret])
      go_ret
      exact ⟨rfl, hb1.trans (hz1.mono hb1.size)⟩
    | false =>
      have HC := hco rfl
      obtain ⟨hk20, hk0, rfl, _, _, _⟩ := HC.out
      clear hco
      clear k0 k1 k2
      obtain ⟨k0, k1, k2, _, _, _⟩ := (HR0.out.later hB1).three
      obtain ⟨att, hatt⟩ : ∃ l, attI v o m1 xs ls = l := ⟨_, rfl⟩
      have HATT0 := Lib.hid hatt
      obtain ⟨b, o0, ax, cx, rfl, hbl, hcx, hAx, hnx⟩ := (HL.out.later hb1).at (i := 0) (by rw [HK.out]; omega)
      rw [Nat.add_zero] at hcx
      obtain ⟨lx, hlx⟩ : ∃ l, (shpI ls 0).length = l := ⟨_, rfl⟩
      have hlxb := HLS.out _ (shp_in (i := 0) (by rw [HK.out]; omega))
      rw [hlx] at hlxb
      have HATT := Lib.hid (show expO v o m1 xs (lx : Int) = att by rw [← hatt, ← hlx]; rfl)
      obtain ⟨ea, hea⟩ : ∃ n, att.length = n := ⟨_, rfl⟩
      have HEA := Lib.hid hea
      have hael : ea ≤ 17592186044416 := by rw [← hea, ← hatt]; exact expO_len12 HXX.out
      rw [hlx] at hcx
      have hkI : (0 : Int) < (k : Int) := by omega
      have MK2 := Lib.hid (show ∀ X, Below V1.heap.size V1 X → (fun X => X.cell? ⟨w.heap.size, 0, none⟩ = some (.int .i64 o) ∧ X.cell? ⟨w.heap.size, 1, none⟩ = some (.slice a1 m1 c1) ∧ X.cell? ⟨w.heap.size, 2, none⟩ = some (.slice a2 m2 c2) ∧ X.cell? ⟨b, o0, none⟩ = some (.slice ax lx cx)) X from fun X h => by
        obtain ⟨g0, g1, g2, _⟩ := (HR0.out.later (hB1.trans (h.mono hB1.size))).three
        exact ⟨g0, g1, g2, (h.cell hbl).trans hcx⟩)
      have HCX := Lib.hid hcx
      have HBL := Lib.hid hbl
      clear hatt hea hlx hcx hAx hnx
      go_wp2_with fail
      refine wp_region_held_drew (S := fun X => X.cell? ⟨w.heap.size, 0, none⟩ = some (.int .i64 o) ∧ X.cell? ⟨w.heap.size, 1, none⟩ = some (.slice a1 m1 c1) ∧ X.cell? ⟨w.heap.size, 2, none⟩ = some (.slice a2 m2 c2) ∧ X.cell? ⟨b, o0, none⟩ = some (.slice ax lx cx)) (by kernel_rfl) (MK2.out _ ((Below.refl _ _).drew)) (fun hHeld => ?_)
      obtain ⟨ps, hp⟩ : ∃ Y, V1.drew = Y := ⟨_, rfl⟩
      have bs : Below V1.heap.size V1 ps := by rw [← hp]; exact (Below.refl _ _).drew
      rw [hp] at hHeld ⊢
      clear hp
      refine todo [0, 1, 2, 3, 4, 5, 6, 7, 8, 9] ?_
      iterate 10
       refine todoH (v := ?_) rfl (by kernel_rfl) (fun _ _ _ h => h) (by assumption) (Or.inl ⟨by rfl, ?_⟩) ?_
       rotate_left
       · intro w hSw; (try dsimp only at hSw); go_simp; (try with_reducible rfl)
       try simp only [Act.put, List.getElem_toArray, List.getElem_cons_succ, List.getElem_cons_zero, List.setIfInBounds_toArray, List.set_cons_zero, List.set_cons_succ]
      refine todone ?_
      have HPs := Lib.hid (fun (X : World) (h : Below ps.heap.size ps X) => (show X.cell? ⟨w.heap.size, 0, none⟩ = some (.int .i64 o) ∧ X.cell? ⟨w.heap.size, 1, none⟩ = some (.slice a1 m1 c1) ∧ X.cell? ⟨w.heap.size, 2, none⟩ = some (.slice a2 m2 c2) ∧ X.cell? ⟨b, o0, none⟩ = some (.slice ax lx cx) from MK2.out _ (bs.trans (h.mono bs.size))))
      refine pool_start (fs := [⟨12, 9, 25, #[.int .i64 0, .slice none 0 0, .slice none 0 0], fun g => .pointer (some ⟨g, 0, none⟩)⟩]) (us := [undef]) (n := 3) (F := fun _ => True) (by kernel_rfl) (by simp only [putF, Act.put, List.getElem_toArray, List.getElem_cons_succ, List.getElem_cons_zero, List.setIfInBounds_toArray, List.set_cons_zero, List.set_cons_succ]) rfl trivial ?_
      refine pool_step (α := Option Addr × Nat) (fun p => .slice p.1 ea p.2) (c := 10) (dc := 55) (need := []) (F' := fun p X => ((Value.slice p.1 ea p.2 = .slice a2 m2 c2 ∧ att = xs) ∨ ResS w.heap.size X (.slice p.1 ea p.2) att)) rfl ?fls10 (by decide) (by decide) (by decide) (by decide) (by kernel_rfl) HPs.out (fun _ _ _ _ => trivial) ?sts10 ?nxs10
      case fls10 =>
        intro f hf
        simp only [List.mem_cons, List.not_mem_nil, or_false] at hf
        rcases hf with rfl
        all_goals exact ⟨fun g g' e => by simpa using e, _, rfl, fun a X K h => by unfold StepH; go_simp; exact h⟩
      case sts10 =>
        intro us X K hus _ hb _ hK
        obtain ⟨uF1, rfl⟩ := len_one10 hus
        simp only [putF, Act.put, List.getElem_toArray, List.getElem_cons_succ, List.getElem_cons_zero, List.setIfInBounds_toArray, List.set_cons_zero, List.set_cons_succ]
        unfold StepH
        go_simp
        have bX : Below w.heap.size w X := hb1.trans ((bs.trans (hb.mono bs.size)).mono hb1.size)
        have hex := explicitRn_any v (lx : Int) (HN.out.later bX).atts HN.out.nil2 HXX.out (o := o) (a1 := a1) (n1 := m1) (c1 := c1)
        rw [show expO v o m1 xs (lx : Int) = att from HATT.out, HM2.out] at hex
        refine hex.mono ?_
        rintro e X' ⟨r, rfl, hr, hy⟩
        obtain ⟨ar, cr, rfl, hr2⟩ : ∃ ar cr, r = .slice ar ea cr ∧ ((Value.slice ar ea cr = .slice a2 m2 c2 ∧ att = xs) ∨ ResS w.heap.size X' (.slice ar ea cr) att) := by
          rcases hr with ⟨rfl, h2⟩ | hr
          · refine ⟨a2, c2, ?_, .inl ⟨?_, h2⟩⟩ <;> rw [← HEA.out, h2, HM2.out]
          · obtain ⟨ar, cr, rfl, hr3⟩ := res_slice11 hr
            rw [HEA.out] at hr3 ⊢
            exact ⟨ar, cr, rfl, .inr (hr3.mono bX.size)⟩
        clear hr
        go_simp
        exact hK (ar, cr) _ hy hr2
      rintro ⟨ar, cr⟩
      (try dsimp only)
      try simp only [Act.put, List.getElem_toArray, List.getElem_cons_succ, List.getElem_cons_zero, List.setIfInBounds_toArray, List.set_cons_zero, List.set_cons_succ]
      refine pool_take (v := ?_) (i := 11) (di := 56) rfl rfl (by decide) (by decide) (by kernel_rfl) (fun _ _ _ h => h) HPs.out (fun us hus => ?_) ?_
      rotate_left
      · obtain ⟨uF1, rfl⟩ := len_one10 hus
        simp only [putF, Act.put, List.getElem_toArray, List.getElem_cons_succ, List.getElem_cons_zero, List.setIfInBounds_toArray, List.set_cons_zero, List.set_cons_succ]
        refine Or.inl ⟨by rfl, ?_⟩
        intro w hSw; (try dsimp only at hSw); go_simp; (try with_reducible rfl)
      try simp only [Act.put, List.getElem_toArray, List.getElem_cons_succ, List.getElem_cons_zero, List.setIfInBounds_toArray, List.set_cons_zero, List.set_cons_succ]
      refine pool_end ?flse (by decide) (by decide) (by kernel_rfl) HPs.out (fun X Y h hF => hF.imp id (fun h2 => ResS.later h2 h)) ?nxse
      case flse =>
        intro f hf
        simp only [List.mem_cons, List.not_mem_nil, or_false] at hf
        rcases hf with rfl
        all_goals exact ⟨fun g g' e => by simpa using e, _, rfl, fun a X K h => by unfold StepH; go_simp; exact h⟩
      intro us xs ok hb hF
      obtain ⟨gs, rfl, hgs, Rs⟩ := ok.one
      (try dsimp only at Rs hF)
      simp only [putF, Act.put, List.getElem_toArray, List.getElem_cons_succ, List.getElem_cons_zero, List.setIfInBounds_toArray, List.set_cons_zero, List.set_cons_succ]
      have Bs : Below V1.heap.size V1 xs := bs.trans (hb.mono bs.size)
      have hHeld := HPs.out xs hb
      clear ok
      obtain ⟨d0, d1, d2, d3, d4, d5⟩ := Rs.three
      refine wpAnyH_ready (rs := [13]) (by kernel_rfl) (by simp) ?_
      refine AllReadyH.cons rfl (fun K hK => ?ss1) AllReadyH.nil
      go_simp
      refine afterSet3 Rs (fun xs1 os1 zs1 => ?_)
      clear d0 d1 d2 d3 d4 d5
      have Bs1 : Below V1.heap.size V1 xs1 := Bs.trans (os1.below (Nat.le_trans bs.size hgs))
      replace hF := (hF.imp id (fun h2 => ResS.far h2 Rs (by decide) os1.block))
      replace Rs := zs1
      refine hK.out _ _ (MK2.out _ Bs1) (fun hHeld2 => ?_)
      clear hK K hHeld
      have hHeld := hHeld2
      clear hHeld2
      try simp only [Act.put, List.getElem_toArray, List.getElem_cons_succ, List.getElem_cons_zero, List.setIfInBounds_toArray, List.set_cons_zero, List.set_cons_succ]
      refine wpAnyH_done (by kernel_rfl) ?_ _
      (try dsimp only [Straight])
      obtain ⟨V2, hV2⟩ : ∃ Y, xs1 = Y := ⟨_, rfl⟩
      rw [hV2] at Rs hF Bs1 ⊢
      have hB2 : Below W.heap.size W V2 := hB1.trans (Bs1.mono hB1.size)
      have hb2 : Below w.heap.size w V2 := hbW.trans (hB2.mono hbW.size)
      have hat : ArgS V2 (.slice ar ea cr) att ar cr ∧ (ar = none → cr = 0) := by
        rcases hF with ⟨h1, h2⟩ | h1
        · have hn := HN.out.later hb2
          simp only [Value.slice.injEq] at h1
          obtain ⟨rfl, rfl, rfl⟩ := h1
          subst h2
          have h5 := hn.atts
          rw [HM2.out] at h5
          exact ⟨h5, hn.nil2⟩
        · exact h1.at_.2
      have HAT := Lib.hid hat
      have HRS := Lib.hid Rs
      have hcx2 := (Bs1.cell HBL.out).trans HCX.out
      clear hV2 hF hat hHeld
      clear k0 k1 k2
      obtain ⟨k0, k1, k2, _, _, _⟩ := (HR0.out.later hB2).three
      go_upto_region 4 with fail
      go_cut [76] (fun s wx => ∃ t : Bool, s = .bool t ∧ wx = V2)
      case first =>
        by_cases ho : o = 11
        · have hoI : (o == 11) = true := by simpa using ho
          have HO := Lib.hid ho
          clear ho
          by_cases h2 : m2 = 0
          · have h2I : ((m2 : Int) == 0) = true := by simp; omega
            clear h2
            by_cases h3 : v = 1
            · have h3I : (v == 1) = true := by simpa using h3
              clear h3
              by_cases h4 : lx > 4
              · have h4I : (lx : Int) > 4 := by omega
                go_wp2_with fail
                go_meet
                exact ⟨true, rfl, rfl⟩
              · have h4I : ¬ (lx : Int) > 4 := by omega
                go_wp2_with fail
                go_meet
                exact ⟨false, rfl, rfl⟩
            · have h3I : (v == 1) = false := by simpa using h3
              go_wp2_with fail
              go_meet
              exact ⟨false, rfl, rfl⟩
          · have h2I : ((m2 : Int) == 0) = false := by simp; omega
            go_wp2_with fail
            go_meet
            exact ⟨false, rfl, rfl⟩
        · have hoI : (o == 11) = false := by simpa using ho
          go_wp2_with fail
          go_meet
          exact ⟨false, rfl, rfl⟩
      case rest =>
        obtain ⟨t, rfl, rfl⟩ := hcut
        obtain ⟨V3, hV3⟩ : ∃ y, wc = y := ⟨_, rfl⟩
        rw [hV3] at hB2 hb2 HAT HRS hcx2 k0 k1 k2 ⊢
        clear hV3
        cases t with
        | true =>
          go_wp2_with fail
          refine (known12_any _).mono ?_
          rintro e z2 ⟨rfl, hz2⟩
          go_wp2_with fail
          (try rw [Exit.noGoto_ret])
          go_ret
          exact ⟨rfl, hb2.trans (hz2.mono hb2.size)⟩
        | false =>
          go_wp2_with fail
          refine (HSH.out _ hb2).mono ?_
          rintro e V4 ⟨r, rfl, hr, hy⟩
          have D4 : Below V3.heap.size V3 V4 := hy
          have hB4 : Below W.heap.size W V4 := hB2.trans (D4.mono hB2.size)
          have hb4 : Below w.heap.size w V4 := hbW.trans (hB4.mono hbW.size)
          obtain ⟨rr, rc, rfl, hr2⟩ := res_slice11 hr
          obtain ⟨lv, hlv⟩ : ∃ n, IV.length = n := ⟨_, rfl⟩
          have HLV := Lib.hid hlv
          rw [hlv] at hr2 ⊢
          have HR := Lib.hid hr2
          clear hr hr2 hy hlv
          clear k0 k1 k2
          obtain ⟨k0, k1, k2, _, _, _⟩ := (HR0.out.later hB4).three
          by_cases h0 : IC = 0
          case neg =>
            have h0I : (IC != 0) = true := by simpa using h0
            clear h0
            go_wp2_with fail
            refine (known12_any _).mono ?_
            rintro e z3 ⟨rfl, hz3⟩
            go_wp2_with fail
            (try rw [Exit.noGoto_ret])
            go_ret
            exact ⟨rfl, hb4.trans (hz3.mono hb4.size)⟩
          case pos =>
            subst h0
            obtain ⟨n0, n1, n2, _, _, _⟩ := (HRS.out.later D4).three
            go_upto_region 9 with fail
            go_cut [101] (fun s wx => ∃ t : Bool, s = .bool t ∧ (t = false → Hid (¬ (v2 < 3 ∧ ea = 0 ∧ noneB v2 o = true))) ∧ Below V4.heap.size V4 wx)
            case first =>
              have h4b := Below.refl V4.heap.size V4
              by_cases h3 : v2 < 3
              · by_cases h5 : ea = 0
                · have h5I : ((ea : Int) == 0) = true := by simp; omega
                  have HE0 := Lib.hid h5
                  obtain ⟨t, ht⟩ : ∃ t, noneB v2 o = t := ⟨_, rfl⟩
                  have hno := noneR_any v2 o V4
                  rw [ht] at hno
                  have HNO := Lib.hid hno
                  have HT := Lib.hid ht
                  clear hno ht h5
                  go_wp2_with fail
                  refine HNO.out.mono ?_
                  rintro e V5 ⟨rfl, hy⟩
                  cases t with
                  | true =>
                    go_wp2_with fail
                    go_meet
                    exact ⟨true, rfl, fun h => (by cases h), hy⟩
                  | false =>
                    go_wp2_with fail
                    go_meet
                    exact ⟨false, rfl, fun _ => Lib.hid (fun h => by rw [HT.out] at h; cases h.2.2), hy⟩
                · have h5I : ((ea : Int) == 0) = false := by simp; omega
                  have HE0 := Lib.hid h5
                  clear h5
                  go_wp2_with fail
                  go_meet
                  exact ⟨false, rfl, fun _ => Lib.hid (fun h => HE0.out h.2.1), h4b⟩
              · have HV3 := Lib.hid h3
                go_wp2_with fail
                go_meet
                exact ⟨false, rfl, fun _ => Lib.hid (fun h => by have h5 := HV3.out; have h6 := h.1; omega), h4b⟩
            case rest =>
              obtain ⟨t, rfl, hcn, hE⟩ := hcut
              obtain ⟨V5, hV5⟩ : ∃ y, wc = y := ⟨_, rfl⟩
              rw [hV5] at hE ⊢
              clear hV5
              have hb5 : Below w.heap.size w V5 := hb4.trans (hE.mono hb4.size)
              cases t with
              | true =>
                go_wp2_with fail
                refine (known12_any _).mono ?_
                rintro e z4 ⟨rfl, hz4⟩
                go_wp2_with fail
                (try rw [Exit.noGoto_ret])
                go_ret
                exact ⟨rfl, hb5.trans (hz4.mono hb5.size)⟩
              | false =>
                have HCN := hcn rfl
                have D5 : Below V3.heap.size V3 V5 := D4.trans (hE.mono D4.size)
                have hla := infer_later HE1.out HC.out.2.2.2.1 HC.out.2.2.2.2.1 HC.out.2.2.2.2.2 HIC.out (by rw [HATT0.out, HEA.out]; exact HCN.out)
                rw [HATT0.out, HIV.out] at hla
                have hsh := shape_any v2 (HAT.out.1.later D5 |> fun h => (by rw [HEA.out]; exact h : ArgS V5 (.slice ar att.length cr) att ar cr)) HAT.out.2 (by rw [HEA.out]; exact hael) (HL.out.later hb5) HLS.out (by rw [HK.out]; omega) (o := o) (a1 := a1) (n1 := m1) (c1 := c1)
                rw [HEA.out, HK.out, hla.1, hla.2] at hsh
                have HS2 := Lib.hid hsh
                obtain ⟨n0, n1, n2, _, _, _⟩ := (HRS.out.later D5).three
                clear hcn hla hsh
                go_wp2_with fail
                refine HS2.out.mono ?_
                rintro e V6 ⟨r, rfl, hr, hy⟩
                obtain ⟨rr2, rc2, rfl, hr2⟩ := res_slice11 hr
                rw [HLV.out] at hr2 ⊢
                have hb6 : Below w.heap.size w V6 := hb5.trans (hy.mono hb5.size)
                have D6 : Below V4.heap.size V4 V6 := hE.trans (hy.mono hE.size)
                have h1a := (HR.out.later D6).at_
                have h2a := hr2.at_
                have hss := sameL_any h1a.2.1 h2a.2.1 (by have := inf_ok HIC.out; rw [HIV.out] at this; have := this.rank; omega)
                rw [decide_eq_true (show IV = IV from rfl)] at hss
                have HSS := Lib.hid hss
                clear hr hr2 hy h1a h2a hss
                go_wp2_with fail
                refine HSS.out.mono ?_
                rintro e V7 ⟨rfl, hy⟩
                have hb7 : Below w.heap.size w V7 := hb6.trans (hy.mono hb6.size)
                clear hy
                go_wp2_with fail
                refine (known12_any _).mono ?_
                rintro e z5 ⟨rfl, hz5⟩
                go_wp2_with fail
                (try rw [Exit.noGoto_ret])
                go_ret
                exact ⟨rfl, hb7.trans (hz5.mono hb7.size)⟩
end
end Go.Proofs.Ytdcggcfgkhlblaa
