/-
  Part 17 of 21: contracts and what they rest on (IKit).
-/
import Derived.Test.YtdcggcfgkhlblaaL1
import Derived.Test.YtdcggcfgkhlblaaL2
import Derived.Test.YtdcggcfgkhlblaaL3
import Derived.Test.YtdcggcfgkhlblaaL4
import Derived.Test.YtdcggcfgkhlblaaL5
import Derived.Test.YtdcggcfgkhlblaaL7
import Derived.Test.YtdcggcfgkhlblaaL8
import Derived.Test.YtdcggcfgkhlblaaL11
import Derived.Test.YtdcggcfgkhlblaaL16
import Derived.WalkKit
import Derived.Test.YtdcggcfgkhlblaaRows
import Derived.OrdersHeld
import Derived.Deep.RegionHeld
import Derived.BigQuiet
import Derived.Deep.QuietTactic
import Derived.Lib.Hide
import Derived.Lib.Small
import Derived.Lib.Walk
import Derived.Lib.BitFns
import Derived.Maps.AppendAt
import Derived.RangeFuncNested
import Derived.RangeFuncBound
import Derived.RangeFuncCalls
import Derived.RangeFuncLeaves
import Derived.Shelf.Abstract
import Derived.OwnWalkIn
import Derived.TacticsInMore
import Derived.LoopNIn
import Derived.LoopIn
import Derived.RangeFuncBox
import Derived.Deep.RegionHeld3
import Derived.OrdersIn
import Derived.StillTailTactics
import Derived.RangeFuncFrom
import Derived.Laws.EntriesVeiled
import Derived.ProofKit
import Derived.OpenShut
import Derived.JoinedCond
import Derived.Carry
import Derived.Laws.AppendOwnNone
import Derived.Lib.ItoaNum
import Derived.Deep.RegionLaw
import Derived.WalkMore
import Derived.Lib.SmallJoins
import Derived.IntWalk
import Derived.Deep.DeepCutAuto
import Derived.Laws.OwnMore
import Derived.ArgAppend
import Derived.Deep.Slices
import Derived.Laws.CopyOwn
import Derived.Lib.SliceRun
import Derived.SizedLaws
import Derived.Great.BuildSlice
namespace Go.Proofs.Ytdcggcfgkhlblaa
set_option maxRecDepth 100000
section
open Go.RowKit
set_option linter.unusedVariables false
set_option linter.unusedSimpArgs false
theorem RowL.lit {w : World} {g : Nat} {ls : List (List Int)} {cs : Array Value} (R : Row w g 28 cs) (hc : cs.size = ls.length) (h : ∀ i, i < ls.length → ∃ (a : Option Addr) (c : Nat), cs[i]? = some (.slice a (shpI ls i).length c) ∧ ArgS w (.slice a (shpI ls i).length c) (shpI ls i) a c ∧ (a = none → c = 0)) :
    RowL w (.slice (some ⟨g, 0, none⟩) ls.length ls.length) ls (some ⟨g, 0, none⟩) ls.length := by
  refine ⟨rfl, Nat.le_refl _, .inr ⟨g, 0, rfl, fun i x hi => ?_⟩⟩
  have hil : i < ls.length := by
    rcases Nat.lt_or_ge i ls.length with h | h
    · exact h
    · rw [List.getElem?_eq_none h] at hi; cases hi
  obtain ⟨a, c, h1, h2, h3⟩ := h i hil
  have e : shpI ls i = x := by
    have := shp_some hil
    rw [hi] at this
    exact (Option.some.inj this).symm
  rw [e] at h1 h2
  refine ⟨a, c, ?_, h2, h3⟩
  rw [Nat.zero_add]
  exact (cell_of_row w g i _ _ (0, 0) R).trans h1
set_option maxRecDepth 100000 in
set_option maxHeartbeats 4000000 in
theorem nodeI_any (o : Int) (n : Nat) (hn : n ≤ 1000) {a : Option Addr} {l c : Nat} (w : World) : Calls Try.prog 21 #[.int .i64 o, .int .i64 (n : Int), .slice a l c] w fun e w' => ∃ g, e = .returned (.agg #[.int .i64 o, .slice (some ⟨g, 0, none⟩) n n, .slice a l c]) ∧ Below w.heap.size w w' := by
  obtain ⟨W, hW⟩ : ∃ W, w.alloc (.cells #[.int .i64 0, .slice none 0 0, .slice none 0 0] 25) = W := ⟨_, rfl⟩
  have R0 : Row W w.heap.size 25 #[.int .i64 0, .slice none 0 0, .slice none 0 0] := by rw [← hW]; exact Row.new _ _ _
  have hbW : Below w.heap.size w W := by rw [← hW]; exact (Below.refl _ _).alloc (Nat.le_refl _) _
  have R1 := R0.alloc (.cells (madeCells #[.int .i64 0] n) 3)
  have P3 := R1.setRow (cs := #[.int .i64 o, .slice (some ⟨W.heap.size, 0, none⟩) n n, .slice a l c])
  have hE := below_setRow (cs := #[.int .i64 o, .slice (some ⟨W.heap.size, 0, none⟩) n n, .slice a l c]) (hbW.alloc hbW.size (.cells (madeCells #[.int .i64 0] n) 3)) (Nat.le_refl w.heap.size)
  obtain ⟨z0, z1, z2, _, _, _⟩ := P3.three
  have hmk := make_runS n (by omega)
  go_enter Try.func21, Try.ntmps21
  (try rw [hW])
  go_wp2_with (refine wpList_store_row rfl 25 _ _ rfl w.heap.size #[.int .i64 o, .slice (some ⟨W.heap.size, 0, none⟩) n n, .slice a l c] (by rfl) (by rfl) 25 #[.int .i64 0, .slice none 0 0, .slice none 0 0] R1 (by kernel_rfl) rfl (by kernel_rfl) ?_)
  exact bodyPost_ret (v := .agg #[.int .i64 o, .slice (some ⟨W.heap.size, 0, none⟩) n n, .slice a l c]) (by simp [results, Try.results21, go_sem, z0, z1, z2]) rfl ⟨_, rfl, hE⟩
set_option maxRecDepth 100000 in
set_option maxHeartbeats 40000000 in
theorem known12_any (w : World) : Calls Try.prog 9 #[] w fun e w' => e = .returned (.bool true) ∧ Below w.heap.size w w' := by
  go_enter Try.func9, Try.ntmps9
  have HAT := Lib.hid (nil_argS w)
  go_wp2_with fail
  refine (nodeI_any 10 2 (by omega) _).mono ?_
  rintro e y1 ⟨gn, rfl, hy⟩
  have B1 : Below w.heap.size w y1 := (Below.refl w.heap.size w).trans (hy.mono (Below.refl w.heap.size w).size)
  replace HAT := Lib.hid (HAT.out.later hy)
  clear hy
  have HZy1 := Lib.hid (show y1.heap.size = (y1.heap.size) from rfl)
  obtain ⟨y2, hy2⟩ : ∃ Y, y1.alloc (.cells #[.int .i64 2, .int .i64 3] 3) = Y := ⟨_, rfl⟩
  have hy : Below y1.heap.size y1 y2 := by rw [← hy2]; exact (Below.refl _ _).alloc (Nat.le_refl _) _
  have RRy2 : Row y2 (y1.heap.size) 3 #[.int .i64 2, .int .i64 3] := by rw [← hy2, ← HZy1.out]; exact Row.new _ _ _
  have HZy2 := Lib.hid (show y2.heap.size = (y1.heap.size + 1) by rw [← hy2, World.size_alloc, HZy1.out])
  have B2 : Below w.heap.size w y2 := B1.trans (hy.mono B1.size)
  replace HAT := Lib.hid (HAT.out.later hy)
  have HYy2 := Lib.hid hy2
  clear hy hy2
  have HSy2 := Lib.hid RRy2
  clear RRy2
  obtain ⟨y3, hy3⟩ : ∃ Y, y2.alloc (.cells #[.int .i64 3, .int .i64 4] 3) = Y := ⟨_, rfl⟩
  have hy : Below y2.heap.size y2 y3 := by rw [← hy3]; exact (Below.refl _ _).alloc (Nat.le_refl _) _
  have RRy3 : Row y3 (y1.heap.size + 1) 3 #[.int .i64 3, .int .i64 4] := by rw [← hy3, ← HZy2.out]; exact Row.new _ _ _
  have HZy3 := Lib.hid (show y3.heap.size = (y1.heap.size + 1 + 1) by rw [← hy3, World.size_alloc, HZy2.out])
  have B3 : Below w.heap.size w y3 := B2.trans (hy.mono B2.size)
  replace HAT := Lib.hid (HAT.out.later hy)
  replace HSy2 := Lib.hid (HSy2.out.later hy)
  have HYy3 := Lib.hid hy3
  clear hy hy3
  have HSy3 := Lib.hid RRy3
  clear RRy3
  obtain ⟨y4, hy4⟩ : ∃ Y, y3.alloc (.cells #[.slice (some ⟨(y1.heap.size), 0, none⟩) 2 2, .slice (some ⟨(y1.heap.size + 1), 0, none⟩) 2 2] 28) = Y := ⟨_, rfl⟩
  have hy : Below y3.heap.size y3 y4 := by rw [← hy4]; exact (Below.refl _ _).alloc (Nat.le_refl _) _
  have RRy4 : Row y4 (y1.heap.size + 1 + 1) 28 #[.slice (some ⟨(y1.heap.size), 0, none⟩) 2 2, .slice (some ⟨(y1.heap.size + 1), 0, none⟩) 2 2] := by rw [← hy4, ← HZy3.out]; exact Row.new _ _ _
  have HZy4 := Lib.hid (show y4.heap.size = (y1.heap.size + 1 + 1 + 1) by rw [← hy4, World.size_alloc, HZy3.out])
  have B4 : Below w.heap.size w y4 := B3.trans (hy.mono B3.size)
  replace HAT := Lib.hid (HAT.out.later hy)
  replace HSy2 := Lib.hid (HSy2.out.later hy)
  replace HSy3 := Lib.hid (HSy3.out.later hy)
  have HYy4 := Lib.hid hy4
  clear hy hy4
  have HRL : RowL y4 (.slice (some ⟨(y1.heap.size + 1 + 1), 0, none⟩) 2 2) [[2, 3], [3, 4]] (some ⟨(y1.heap.size + 1 + 1), 0, none⟩) 2 := by
    refine RowL.lit (ls := [[2, 3], [3, 4]]) RRy4 (by simp) (fun i hi => ?_)
    simp only [List.length_cons, List.length_nil] at hi
    by_cases h0 : i = 0
    · subst h0; exact ⟨some ⟨(y1.heap.size), 0, none⟩, 2, rfl, Row.argS HSy2.out [2, 3] rfl (fun x hx => by simp at hx; omega), fun h => by cases h⟩
    by_cases h1 : i = 1
    · subst h1; exact ⟨some ⟨(y1.heap.size + 1), 0, none⟩, 2, rfl, Row.argS HSy3.out [3, 4] rfl (fun x hx => by simp at hx; omega), fun h => by cases h⟩
    omega
  have hsh := shape_any 3 (o := 10) (xs := []) (ls := [[2, 3], [3, 4]]) (a1 := some ⟨gn, 0, none⟩) (n1 := 2) (c1 := 2) HAT.out (fun h => by first | rfl | cases h) (by simp) HRL (by decide +kernel) (by simp)
  rw [show infC 3 10 2 [] [[2, 3], [3, 4]] = 0 by decide +kernel, show infV 3 10 2 [] [[2, 3], [3, 4]] = [2, 4] by decide +kernel] at hsh
  have HSH := Lib.hid hsh
  clear hsh HRL RRy4 HAT HSy2 HSy3
  go_wp2_with fail
  have hyy := HYy2.out
  (try rw [hyy])
  clear hyy
  have hyy := HYy3.out
  (try rw [hyy])
  clear hyy
  have hyy := HYy4.out
  (try rw [hyy])
  clear hyy
  refine (HSH.out).mono ?_
  rintro e y5 ⟨r, rfl, hr, hy⟩
  have B5 : Below w.heap.size w y5 := B4.trans (hy.mono B4.size)
  obtain ⟨ada, cpa, rfl, hr2⟩ := res_slice11 hr
  simp only [List.length_cons, List.length_nil, Nat.reduceAdd, Nat.zero_add] at hr2
  (try simp only [List.length_cons, List.length_nil, Nat.reduceAdd, Nat.zero_add])
  have HRa := Lib.hid hr2
  clear hr hr2 HSH
  clear hy
  have HAT := Lib.hid (nil_argS y5)
  go_wp2_with fail
  refine (nodeI_any 10 2 (by omega) _).mono ?_
  rintro e y6 ⟨gn, rfl, hy⟩
  have B6 : Below w.heap.size w y6 := B5.trans (hy.mono B5.size)
  replace HRa := Lib.hid (HRa.out.later hy)
  replace HAT := Lib.hid (HAT.out.later hy)
  clear hy
  have HZy6 := Lib.hid (show y6.heap.size = (y6.heap.size) from rfl)
  obtain ⟨y7, hy7⟩ : ∃ Y, y6.alloc (.cells #[.int .i64 2, .int .i64 3] 3) = Y := ⟨_, rfl⟩
  have hy : Below y6.heap.size y6 y7 := by rw [← hy7]; exact (Below.refl _ _).alloc (Nat.le_refl _) _
  have RRy7 : Row y7 (y6.heap.size) 3 #[.int .i64 2, .int .i64 3] := by rw [← hy7, ← HZy6.out]; exact Row.new _ _ _
  have HZy7 := Lib.hid (show y7.heap.size = (y6.heap.size + 1) by rw [← hy7, World.size_alloc, HZy6.out])
  have B7 : Below w.heap.size w y7 := B6.trans (hy.mono B6.size)
  replace HRa := Lib.hid (HRa.out.later hy)
  replace HAT := Lib.hid (HAT.out.later hy)
  have HYy7 := Lib.hid hy7
  clear hy hy7
  have HSy7 := Lib.hid RRy7
  clear RRy7
  obtain ⟨y8, hy8⟩ : ∃ Y, y7.alloc (.cells #[.int .i64 2, .int .i64 3] 3) = Y := ⟨_, rfl⟩
  have hy : Below y7.heap.size y7 y8 := by rw [← hy8]; exact (Below.refl _ _).alloc (Nat.le_refl _) _
  have RRy8 : Row y8 (y6.heap.size + 1) 3 #[.int .i64 2, .int .i64 3] := by rw [← hy8, ← HZy7.out]; exact Row.new _ _ _
  have HZy8 := Lib.hid (show y8.heap.size = (y6.heap.size + 1 + 1) by rw [← hy8, World.size_alloc, HZy7.out])
  have B8 : Below w.heap.size w y8 := B7.trans (hy.mono B7.size)
  replace HRa := Lib.hid (HRa.out.later hy)
  replace HAT := Lib.hid (HAT.out.later hy)
  replace HSy7 := Lib.hid (HSy7.out.later hy)
  have HYy8 := Lib.hid hy8
  clear hy hy8
  have HSy8 := Lib.hid RRy8
  clear RRy8
  obtain ⟨y9, hy9⟩ : ∃ Y, y8.alloc (.cells #[.slice (some ⟨(y6.heap.size), 0, none⟩) 2 2, .slice (some ⟨(y6.heap.size + 1), 0, none⟩) 2 2] 28) = Y := ⟨_, rfl⟩
  have hy : Below y8.heap.size y8 y9 := by rw [← hy9]; exact (Below.refl _ _).alloc (Nat.le_refl _) _
  have RRy9 : Row y9 (y6.heap.size + 1 + 1) 28 #[.slice (some ⟨(y6.heap.size), 0, none⟩) 2 2, .slice (some ⟨(y6.heap.size + 1), 0, none⟩) 2 2] := by rw [← hy9, ← HZy8.out]; exact Row.new _ _ _
  have HZy9 := Lib.hid (show y9.heap.size = (y6.heap.size + 1 + 1 + 1) by rw [← hy9, World.size_alloc, HZy8.out])
  have B9 : Below w.heap.size w y9 := B8.trans (hy.mono B8.size)
  replace HRa := Lib.hid (HRa.out.later hy)
  replace HAT := Lib.hid (HAT.out.later hy)
  replace HSy7 := Lib.hid (HSy7.out.later hy)
  replace HSy8 := Lib.hid (HSy8.out.later hy)
  have HYy9 := Lib.hid hy9
  clear hy hy9
  have HRL : RowL y9 (.slice (some ⟨(y6.heap.size + 1 + 1), 0, none⟩) 2 2) [[2, 3], [2, 3]] (some ⟨(y6.heap.size + 1 + 1), 0, none⟩) 2 := by
    refine RowL.lit (ls := [[2, 3], [2, 3]]) RRy9 (by simp) (fun i hi => ?_)
    simp only [List.length_cons, List.length_nil] at hi
    by_cases h0 : i = 0
    · subst h0; exact ⟨some ⟨(y6.heap.size), 0, none⟩, 2, rfl, Row.argS HSy7.out [2, 3] rfl (fun x hx => by simp at hx; omega), fun h => by cases h⟩
    by_cases h1 : i = 1
    · subst h1; exact ⟨some ⟨(y6.heap.size + 1), 0, none⟩, 2, rfl, Row.argS HSy8.out [2, 3] rfl (fun x hx => by simp at hx; omega), fun h => by cases h⟩
    omega
  have hsh := shape_any 3 (o := 10) (xs := []) (ls := [[2, 3], [2, 3]]) (a1 := some ⟨gn, 0, none⟩) (n1 := 2) (c1 := 2) HAT.out (fun h => by first | rfl | cases h) (by simp) HRL (by decide +kernel) (by simp)
  rw [show infC 3 10 2 [] [[2, 3], [2, 3]] = 13 by decide +kernel, show infV 3 10 2 [] [[2, 3], [2, 3]] = [] by decide +kernel] at hsh
  have HSH := Lib.hid hsh
  clear hsh HRL RRy9 HAT HSy7 HSy8
  go_wp2_with fail
  have hyy := HYy7.out
  (try rw [hyy])
  clear hyy
  have hyy := HYy8.out
  (try rw [hyy])
  clear hyy
  have hyy := HYy9.out
  (try rw [hyy])
  clear hyy
  refine (HSH.out).mono ?_
  rintro e y10 ⟨r, rfl, hr, hy⟩
  have B10 : Below w.heap.size w y10 := B9.trans (hy.mono B9.size)
  replace HRa := Lib.hid (HRa.out.later hy)
  obtain ⟨adx, cpx, rfl, hr2⟩ := res_slice11 hr
  simp only [List.length_cons, List.length_nil, Nat.reduceAdd, Nat.zero_add] at hr2
  (try simp only [List.length_cons, List.length_nil, Nat.reduceAdd, Nat.zero_add])
  have HRx := Lib.hid hr2
  clear hr hr2 HSH
  clear hy
  have HAT := Lib.hid (nil_argS y10)
  go_wp2_with fail
  refine (nodeI_any 19 3 (by omega) _).mono ?_
  rintro e y11 ⟨gn, rfl, hy⟩
  have B11 : Below w.heap.size w y11 := B10.trans (hy.mono B10.size)
  replace HRa := Lib.hid (HRa.out.later hy)
  replace HRx := Lib.hid (HRx.out.later hy)
  replace HAT := Lib.hid (HAT.out.later hy)
  clear hy
  have HZy11 := Lib.hid (show y11.heap.size = (y11.heap.size) from rfl)
  obtain ⟨y12, hy12⟩ : ∃ Y, y11.alloc (.cells #[.int .i64 2, .int .i64 3] 3) = Y := ⟨_, rfl⟩
  have hy : Below y11.heap.size y11 y12 := by rw [← hy12]; exact (Below.refl _ _).alloc (Nat.le_refl _) _
  have RRy12 : Row y12 (y11.heap.size) 3 #[.int .i64 2, .int .i64 3] := by rw [← hy12, ← HZy11.out]; exact Row.new _ _ _
  have HZy12 := Lib.hid (show y12.heap.size = (y11.heap.size + 1) by rw [← hy12, World.size_alloc, HZy11.out])
  have B12 : Below w.heap.size w y12 := B11.trans (hy.mono B11.size)
  replace HRa := Lib.hid (HRa.out.later hy)
  replace HRx := Lib.hid (HRx.out.later hy)
  replace HAT := Lib.hid (HAT.out.later hy)
  have HYy12 := Lib.hid hy12
  clear hy hy12
  have HSy12 := Lib.hid RRy12
  clear RRy12
  obtain ⟨y13, hy13⟩ : ∃ Y, y12.alloc (.cells #[.int .i64 3, .int .i64 4] 3) = Y := ⟨_, rfl⟩
  have hy : Below y12.heap.size y12 y13 := by rw [← hy13]; exact (Below.refl _ _).alloc (Nat.le_refl _) _
  have RRy13 : Row y13 (y11.heap.size + 1) 3 #[.int .i64 3, .int .i64 4] := by rw [← hy13, ← HZy12.out]; exact Row.new _ _ _
  have HZy13 := Lib.hid (show y13.heap.size = (y11.heap.size + 1 + 1) by rw [← hy13, World.size_alloc, HZy12.out])
  have B13 : Below w.heap.size w y13 := B12.trans (hy.mono B12.size)
  replace HRa := Lib.hid (HRa.out.later hy)
  replace HRx := Lib.hid (HRx.out.later hy)
  replace HAT := Lib.hid (HAT.out.later hy)
  replace HSy12 := Lib.hid (HSy12.out.later hy)
  have HYy13 := Lib.hid hy13
  clear hy hy13
  have HSy13 := Lib.hid RRy13
  clear RRy13
  obtain ⟨y14, hy14⟩ : ∃ Y, y13.alloc (.cells #[.int .i64 4] 3) = Y := ⟨_, rfl⟩
  have hy : Below y13.heap.size y13 y14 := by rw [← hy14]; exact (Below.refl _ _).alloc (Nat.le_refl _) _
  have RRy14 : Row y14 (y11.heap.size + 1 + 1) 3 #[.int .i64 4] := by rw [← hy14, ← HZy13.out]; exact Row.new _ _ _
  have HZy14 := Lib.hid (show y14.heap.size = (y11.heap.size + 1 + 1 + 1) by rw [← hy14, World.size_alloc, HZy13.out])
  have B14 : Below w.heap.size w y14 := B13.trans (hy.mono B13.size)
  replace HRa := Lib.hid (HRa.out.later hy)
  replace HRx := Lib.hid (HRx.out.later hy)
  replace HAT := Lib.hid (HAT.out.later hy)
  replace HSy12 := Lib.hid (HSy12.out.later hy)
  replace HSy13 := Lib.hid (HSy13.out.later hy)
  have HYy14 := Lib.hid hy14
  clear hy hy14
  have HSy14 := Lib.hid RRy14
  clear RRy14
  obtain ⟨y15, hy15⟩ : ∃ Y, y14.alloc (.cells #[.slice (some ⟨(y11.heap.size), 0, none⟩) 2 2, .slice (some ⟨(y11.heap.size + 1), 0, none⟩) 2 2, .slice (some ⟨(y11.heap.size + 1 + 1), 0, none⟩) 1 1] 28) = Y := ⟨_, rfl⟩
  have hy : Below y14.heap.size y14 y15 := by rw [← hy15]; exact (Below.refl _ _).alloc (Nat.le_refl _) _
  have RRy15 : Row y15 (y11.heap.size + 1 + 1 + 1) 28 #[.slice (some ⟨(y11.heap.size), 0, none⟩) 2 2, .slice (some ⟨(y11.heap.size + 1), 0, none⟩) 2 2, .slice (some ⟨(y11.heap.size + 1 + 1), 0, none⟩) 1 1] := by rw [← hy15, ← HZy14.out]; exact Row.new _ _ _
  have HZy15 := Lib.hid (show y15.heap.size = (y11.heap.size + 1 + 1 + 1 + 1) by rw [← hy15, World.size_alloc, HZy14.out])
  have B15 : Below w.heap.size w y15 := B14.trans (hy.mono B14.size)
  replace HRa := Lib.hid (HRa.out.later hy)
  replace HRx := Lib.hid (HRx.out.later hy)
  replace HAT := Lib.hid (HAT.out.later hy)
  replace HSy12 := Lib.hid (HSy12.out.later hy)
  replace HSy13 := Lib.hid (HSy13.out.later hy)
  replace HSy14 := Lib.hid (HSy14.out.later hy)
  have HYy15 := Lib.hid hy15
  clear hy hy15
  have HRL : RowL y15 (.slice (some ⟨(y11.heap.size + 1 + 1 + 1), 0, none⟩) 3 3) [[2, 3], [3, 4], [4]] (some ⟨(y11.heap.size + 1 + 1 + 1), 0, none⟩) 3 := by
    refine RowL.lit (ls := [[2, 3], [3, 4], [4]]) RRy15 (by simp) (fun i hi => ?_)
    simp only [List.length_cons, List.length_nil] at hi
    by_cases h0 : i = 0
    · subst h0; exact ⟨some ⟨(y11.heap.size), 0, none⟩, 2, rfl, Row.argS HSy12.out [2, 3] rfl (fun x hx => by simp at hx; omega), fun h => by cases h⟩
    by_cases h1 : i = 1
    · subst h1; exact ⟨some ⟨(y11.heap.size + 1), 0, none⟩, 2, rfl, Row.argS HSy13.out [3, 4] rfl (fun x hx => by simp at hx; omega), fun h => by cases h⟩
    by_cases h2 : i = 2
    · subst h2; exact ⟨some ⟨(y11.heap.size + 1 + 1), 0, none⟩, 1, rfl, Row.argS HSy14.out [4] rfl (fun x hx => by simp at hx; omega), fun h => by cases h⟩
    omega
  have hsh := shape_any 2 (o := 19) (xs := []) (ls := [[2, 3], [3, 4], [4]]) (a1 := some ⟨gn, 0, none⟩) (n1 := 3) (c1 := 3) HAT.out (fun h => by first | rfl | cases h) (by simp) HRL (by decide +kernel) (by simp)
  rw [show infC 2 19 3 [] [[2, 3], [3, 4], [4]] = 0 by decide +kernel, show infV 2 19 3 [] [[2, 3], [3, 4], [4]] = [2, 4] by decide +kernel] at hsh
  have HSH := Lib.hid hsh
  clear hsh HRL RRy15 HAT HSy12 HSy13 HSy14
  go_wp2_with fail
  have hyy := HYy12.out
  (try rw [hyy])
  clear hyy
  have hyy := HYy13.out
  (try rw [hyy])
  clear hyy
  have hyy := HYy14.out
  (try rw [hyy])
  clear hyy
  have hyy := HYy15.out
  (try rw [hyy])
  clear hyy
  refine (HSH.out).mono ?_
  rintro e y16 ⟨r, rfl, hr, hy⟩
  have B16 : Below w.heap.size w y16 := B15.trans (hy.mono B15.size)
  replace HRa := Lib.hid (HRa.out.later hy)
  replace HRx := Lib.hid (HRx.out.later hy)
  obtain ⟨adb, cpb, rfl, hr2⟩ := res_slice11 hr
  simp only [List.length_cons, List.length_nil, Nat.reduceAdd, Nat.zero_add] at hr2
  (try simp only [List.length_cons, List.length_nil, Nat.reduceAdd, Nat.zero_add])
  have HRb := Lib.hid hr2
  clear hr hr2 HSH
  clear hy
  have HAT := Lib.hid (nil_argS y16)
  go_wp2_with fail
  refine (nodeI_any 19 3 (by omega) _).mono ?_
  rintro e y17 ⟨gn, rfl, hy⟩
  have B17 : Below w.heap.size w y17 := B16.trans (hy.mono B16.size)
  replace HRa := Lib.hid (HRa.out.later hy)
  replace HRx := Lib.hid (HRx.out.later hy)
  replace HRb := Lib.hid (HRb.out.later hy)
  replace HAT := Lib.hid (HAT.out.later hy)
  clear hy
  have HZy17 := Lib.hid (show y17.heap.size = (y17.heap.size) from rfl)
  obtain ⟨y18, hy18⟩ : ∃ Y, y17.alloc (.cells #[.int .i64 2, .int .i64 3] 3) = Y := ⟨_, rfl⟩
  have hy : Below y17.heap.size y17 y18 := by rw [← hy18]; exact (Below.refl _ _).alloc (Nat.le_refl _) _
  have RRy18 : Row y18 (y17.heap.size) 3 #[.int .i64 2, .int .i64 3] := by rw [← hy18, ← HZy17.out]; exact Row.new _ _ _
  have HZy18 := Lib.hid (show y18.heap.size = (y17.heap.size + 1) by rw [← hy18, World.size_alloc, HZy17.out])
  have B18 : Below w.heap.size w y18 := B17.trans (hy.mono B17.size)
  replace HRa := Lib.hid (HRa.out.later hy)
  replace HRx := Lib.hid (HRx.out.later hy)
  replace HRb := Lib.hid (HRb.out.later hy)
  replace HAT := Lib.hid (HAT.out.later hy)
  have HYy18 := Lib.hid hy18
  clear hy hy18
  have HSy18 := Lib.hid RRy18
  clear RRy18
  obtain ⟨y19, hy19⟩ : ∃ Y, y18.alloc (.cells #[.int .i64 3, .int .i64 4] 3) = Y := ⟨_, rfl⟩
  have hy : Below y18.heap.size y18 y19 := by rw [← hy19]; exact (Below.refl _ _).alloc (Nat.le_refl _) _
  have RRy19 : Row y19 (y17.heap.size + 1) 3 #[.int .i64 3, .int .i64 4] := by rw [← hy19, ← HZy18.out]; exact Row.new _ _ _
  have HZy19 := Lib.hid (show y19.heap.size = (y17.heap.size + 1 + 1) by rw [← hy19, World.size_alloc, HZy18.out])
  have B19 : Below w.heap.size w y19 := B18.trans (hy.mono B18.size)
  replace HRa := Lib.hid (HRa.out.later hy)
  replace HRx := Lib.hid (HRx.out.later hy)
  replace HRb := Lib.hid (HRb.out.later hy)
  replace HAT := Lib.hid (HAT.out.later hy)
  replace HSy18 := Lib.hid (HSy18.out.later hy)
  have HYy19 := Lib.hid hy19
  clear hy hy19
  have HSy19 := Lib.hid RRy19
  clear RRy19
  obtain ⟨y20, hy20⟩ : ∃ Y, y19.alloc (.cells #[.int .i64 3] 3) = Y := ⟨_, rfl⟩
  have hy : Below y19.heap.size y19 y20 := by rw [← hy20]; exact (Below.refl _ _).alloc (Nat.le_refl _) _
  have RRy20 : Row y20 (y17.heap.size + 1 + 1) 3 #[.int .i64 3] := by rw [← hy20, ← HZy19.out]; exact Row.new _ _ _
  have HZy20 := Lib.hid (show y20.heap.size = (y17.heap.size + 1 + 1 + 1) by rw [← hy20, World.size_alloc, HZy19.out])
  have B20 : Below w.heap.size w y20 := B19.trans (hy.mono B19.size)
  replace HRa := Lib.hid (HRa.out.later hy)
  replace HRx := Lib.hid (HRx.out.later hy)
  replace HRb := Lib.hid (HRb.out.later hy)
  replace HAT := Lib.hid (HAT.out.later hy)
  replace HSy18 := Lib.hid (HSy18.out.later hy)
  replace HSy19 := Lib.hid (HSy19.out.later hy)
  have HYy20 := Lib.hid hy20
  clear hy hy20
  have HSy20 := Lib.hid RRy20
  clear RRy20
  obtain ⟨y21, hy21⟩ : ∃ Y, y20.alloc (.cells #[.slice (some ⟨(y17.heap.size), 0, none⟩) 2 2, .slice (some ⟨(y17.heap.size + 1), 0, none⟩) 2 2, .slice (some ⟨(y17.heap.size + 1 + 1), 0, none⟩) 1 1] 28) = Y := ⟨_, rfl⟩
  have hy : Below y20.heap.size y20 y21 := by rw [← hy21]; exact (Below.refl _ _).alloc (Nat.le_refl _) _
  have RRy21 : Row y21 (y17.heap.size + 1 + 1 + 1) 28 #[.slice (some ⟨(y17.heap.size), 0, none⟩) 2 2, .slice (some ⟨(y17.heap.size + 1), 0, none⟩) 2 2, .slice (some ⟨(y17.heap.size + 1 + 1), 0, none⟩) 1 1] := by rw [← hy21, ← HZy20.out]; exact Row.new _ _ _
  have HZy21 := Lib.hid (show y21.heap.size = (y17.heap.size + 1 + 1 + 1 + 1) by rw [← hy21, World.size_alloc, HZy20.out])
  have B21 : Below w.heap.size w y21 := B20.trans (hy.mono B20.size)
  replace HRa := Lib.hid (HRa.out.later hy)
  replace HRx := Lib.hid (HRx.out.later hy)
  replace HRb := Lib.hid (HRb.out.later hy)
  replace HAT := Lib.hid (HAT.out.later hy)
  replace HSy18 := Lib.hid (HSy18.out.later hy)
  replace HSy19 := Lib.hid (HSy19.out.later hy)
  replace HSy20 := Lib.hid (HSy20.out.later hy)
  have HYy21 := Lib.hid hy21
  clear hy hy21
  have HRL : RowL y21 (.slice (some ⟨(y17.heap.size + 1 + 1 + 1), 0, none⟩) 3 3) [[2, 3], [3, 4], [3]] (some ⟨(y17.heap.size + 1 + 1 + 1), 0, none⟩) 3 := by
    refine RowL.lit (ls := [[2, 3], [3, 4], [3]]) RRy21 (by simp) (fun i hi => ?_)
    simp only [List.length_cons, List.length_nil] at hi
    by_cases h0 : i = 0
    · subst h0; exact ⟨some ⟨(y17.heap.size), 0, none⟩, 2, rfl, Row.argS HSy18.out [2, 3] rfl (fun x hx => by simp at hx; omega), fun h => by cases h⟩
    by_cases h1 : i = 1
    · subst h1; exact ⟨some ⟨(y17.heap.size + 1), 0, none⟩, 2, rfl, Row.argS HSy19.out [3, 4] rfl (fun x hx => by simp at hx; omega), fun h => by cases h⟩
    by_cases h2 : i = 2
    · subst h2; exact ⟨some ⟨(y17.heap.size + 1 + 1), 0, none⟩, 1, rfl, Row.argS HSy20.out [3] rfl (fun x hx => by simp at hx; omega), fun h => by cases h⟩
    omega
  have hsh := shape_any 2 (o := 19) (xs := []) (ls := [[2, 3], [3, 4], [3]]) (a1 := some ⟨gn, 0, none⟩) (n1 := 3) (c1 := 3) HAT.out (fun h => by first | rfl | cases h) (by simp) HRL (by decide +kernel) (by simp)
  rw [show infC 2 19 3 [] [[2, 3], [3, 4], [3]] = 13 by decide +kernel, show infV 2 19 3 [] [[2, 3], [3, 4], [3]] = [] by decide +kernel] at hsh
  have HSH := Lib.hid hsh
  clear hsh HRL RRy21 HAT HSy18 HSy19 HSy20
  go_wp2_with fail
  have hyy := HYy18.out
  (try rw [hyy])
  clear hyy
  have hyy := HYy19.out
  (try rw [hyy])
  clear hyy
  have hyy := HYy20.out
  (try rw [hyy])
  clear hyy
  have hyy := HYy21.out
  (try rw [hyy])
  clear hyy
  refine (HSH.out).mono ?_
  rintro e y22 ⟨r, rfl, hr, hy⟩
  have B22 : Below w.heap.size w y22 := B21.trans (hy.mono B21.size)
  replace HRa := Lib.hid (HRa.out.later hy)
  replace HRx := Lib.hid (HRx.out.later hy)
  replace HRb := Lib.hid (HRb.out.later hy)
  obtain ⟨adz, cpz, rfl, hr2⟩ := res_slice11 hr
  simp only [List.length_cons, List.length_nil, Nat.reduceAdd, Nat.zero_add] at hr2
  (try simp only [List.length_cons, List.length_nil, Nat.reduceAdd, Nat.zero_add])
  have HRz := Lib.hid hr2
  clear hr hr2 HSH
  clear hy
  have HZy22 := Lib.hid (show y22.heap.size = (y22.heap.size) from rfl)
  obtain ⟨y23, hy23⟩ : ∃ Y, y22.alloc (.cells #[.int .i64 1] 3) = Y := ⟨_, rfl⟩
  have hy : Below y22.heap.size y22 y23 := by rw [← hy23]; exact (Below.refl _ _).alloc (Nat.le_refl _) _
  have RRy23 : Row y23 (y22.heap.size) 3 #[.int .i64 1] := by rw [← hy23, ← HZy22.out]; exact Row.new _ _ _
  have HZy23 := Lib.hid (show y23.heap.size = (y22.heap.size + 1) by rw [← hy23, World.size_alloc, HZy22.out])
  have B23 : Below w.heap.size w y23 := B22.trans (hy.mono B22.size)
  replace HRa := Lib.hid (HRa.out.later hy)
  replace HRx := Lib.hid (HRx.out.later hy)
  replace HRb := Lib.hid (HRb.out.later hy)
  replace HRz := Lib.hid (HRz.out.later hy)
  have HYy23 := Lib.hid hy23
  clear hy hy23
  have HAT := Lib.hid (Row.argS RRy23 [1] rfl (fun x hx => by simp at hx; omega))
  clear RRy23
  go_wp2_with fail
  have hyy := HYy23.out
  (try rw [hyy])
  clear hyy
  refine (nodeI_any 14 1 (by omega) _).mono ?_
  rintro e y24 ⟨gn, rfl, hy⟩
  have B24 : Below w.heap.size w y24 := B23.trans (hy.mono B23.size)
  replace HRa := Lib.hid (HRa.out.later hy)
  replace HRx := Lib.hid (HRx.out.later hy)
  replace HRb := Lib.hid (HRb.out.later hy)
  replace HRz := Lib.hid (HRz.out.later hy)
  replace HAT := Lib.hid (HAT.out.later hy)
  clear hy
  have HZy24 := Lib.hid (show y24.heap.size = (y24.heap.size) from rfl)
  obtain ⟨y25, hy25⟩ : ∃ Y, y24.alloc (.cells #[.int .i64 2, .int .i64 3, .int .i64 4] 3) = Y := ⟨_, rfl⟩
  have hy : Below y24.heap.size y24 y25 := by rw [← hy25]; exact (Below.refl _ _).alloc (Nat.le_refl _) _
  have RRy25 : Row y25 (y24.heap.size) 3 #[.int .i64 2, .int .i64 3, .int .i64 4] := by rw [← hy25, ← HZy24.out]; exact Row.new _ _ _
  have HZy25 := Lib.hid (show y25.heap.size = (y24.heap.size + 1) by rw [← hy25, World.size_alloc, HZy24.out])
  have B25 : Below w.heap.size w y25 := B24.trans (hy.mono B24.size)
  replace HRa := Lib.hid (HRa.out.later hy)
  replace HRx := Lib.hid (HRx.out.later hy)
  replace HRb := Lib.hid (HRb.out.later hy)
  replace HRz := Lib.hid (HRz.out.later hy)
  replace HAT := Lib.hid (HAT.out.later hy)
  have HYy25 := Lib.hid hy25
  clear hy hy25
  have HSy25 := Lib.hid RRy25
  clear RRy25
  obtain ⟨y26, hy26⟩ : ∃ Y, y25.alloc (.cells #[.slice (some ⟨(y24.heap.size), 0, none⟩) 3 3] 28) = Y := ⟨_, rfl⟩
  have hy : Below y25.heap.size y25 y26 := by rw [← hy26]; exact (Below.refl _ _).alloc (Nat.le_refl _) _
  have RRy26 : Row y26 (y24.heap.size + 1) 28 #[.slice (some ⟨(y24.heap.size), 0, none⟩) 3 3] := by rw [← hy26, ← HZy25.out]; exact Row.new _ _ _
  have HZy26 := Lib.hid (show y26.heap.size = (y24.heap.size + 1 + 1) by rw [← hy26, World.size_alloc, HZy25.out])
  have B26 : Below w.heap.size w y26 := B25.trans (hy.mono B25.size)
  replace HRa := Lib.hid (HRa.out.later hy)
  replace HRx := Lib.hid (HRx.out.later hy)
  replace HRb := Lib.hid (HRb.out.later hy)
  replace HRz := Lib.hid (HRz.out.later hy)
  replace HAT := Lib.hid (HAT.out.later hy)
  replace HSy25 := Lib.hid (HSy25.out.later hy)
  have HYy26 := Lib.hid hy26
  clear hy hy26
  have HRL : RowL y26 (.slice (some ⟨(y24.heap.size + 1), 0, none⟩) 1 1) [[2, 3, 4]] (some ⟨(y24.heap.size + 1), 0, none⟩) 1 := by
    refine RowL.lit (ls := [[2, 3, 4]]) RRy26 (by simp) (fun i hi => ?_)
    simp only [List.length_cons, List.length_nil] at hi
    by_cases h0 : i = 0
    · subst h0; exact ⟨some ⟨(y24.heap.size), 0, none⟩, 3, rfl, Row.argS HSy25.out [2, 3, 4] rfl (fun x hx => by simp at hx; omega), fun h => by cases h⟩
    omega
  have hsh := shape_any 3 (o := 14) (xs := [1]) (ls := [[2, 3, 4]]) (a1 := some ⟨gn, 0, none⟩) (n1 := 1) (c1 := 1) HAT.out (fun h => by first | rfl | cases h) (by simp) HRL (by decide +kernel) (by simp)
  rw [show infC 3 14 1 [1] [[2, 3, 4]] = 0 by decide +kernel, show infV 3 14 1 [1] [[2, 3, 4]] = [2, 4] by decide +kernel] at hsh
  have HSH := Lib.hid hsh
  clear hsh HRL RRy26 HAT HSy25
  go_wp2_with fail
  have hyy := HYy25.out
  (try rw [hyy])
  clear hyy
  have hyy := HYy26.out
  (try rw [hyy])
  clear hyy
  refine (HSH.out).mono ?_
  rintro e y27 ⟨r, rfl, hr, hy⟩
  have B27 : Below w.heap.size w y27 := B26.trans (hy.mono B26.size)
  replace HRa := Lib.hid (HRa.out.later hy)
  replace HRx := Lib.hid (HRx.out.later hy)
  replace HRb := Lib.hid (HRb.out.later hy)
  replace HRz := Lib.hid (HRz.out.later hy)
  obtain ⟨adc, cpc, rfl, hr2⟩ := res_slice11 hr
  simp only [List.length_cons, List.length_nil, Nat.reduceAdd, Nat.zero_add] at hr2
  (try simp only [List.length_cons, List.length_nil, Nat.reduceAdd, Nat.zero_add])
  have HRc := Lib.hid hr2
  clear hr hr2 HSH
  clear hy
  have HZy27 := Lib.hid (show y27.heap.size = (y27.heap.size) from rfl)
  obtain ⟨y28, hy28⟩ : ∃ Y, y27.alloc (.cells #[.int .i64 1, .int .i64 0, .int .i64 0, .int .i64 2] 3) = Y := ⟨_, rfl⟩
  have hy : Below y27.heap.size y27 y28 := by rw [← hy28]; exact (Below.refl _ _).alloc (Nat.le_refl _) _
  have RRy28 : Row y28 (y27.heap.size) 3 #[.int .i64 1, .int .i64 0, .int .i64 0, .int .i64 2] := by rw [← hy28, ← HZy27.out]; exact Row.new _ _ _
  have HZy28 := Lib.hid (show y28.heap.size = (y27.heap.size + 1) by rw [← hy28, World.size_alloc, HZy27.out])
  have B28 : Below w.heap.size w y28 := B27.trans (hy.mono B27.size)
  replace HRa := Lib.hid (HRa.out.later hy)
  replace HRx := Lib.hid (HRx.out.later hy)
  replace HRb := Lib.hid (HRb.out.later hy)
  replace HRz := Lib.hid (HRz.out.later hy)
  replace HRc := Lib.hid (HRc.out.later hy)
  have HYy28 := Lib.hid hy28
  clear hy hy28
  have HAT := Lib.hid (Row.argS RRy28 [1, 0, 0, 2] rfl (fun x hx => by simp at hx; omega))
  clear RRy28
  go_wp2_with fail
  have hyy := HYy28.out
  (try rw [hyy])
  clear hyy
  refine (nodeI_any 16 1 (by omega) _).mono ?_
  rintro e y29 ⟨gn, rfl, hy⟩
  have B29 : Below w.heap.size w y29 := B28.trans (hy.mono B28.size)
  replace HRa := Lib.hid (HRa.out.later hy)
  replace HRx := Lib.hid (HRx.out.later hy)
  replace HRb := Lib.hid (HRb.out.later hy)
  replace HRz := Lib.hid (HRz.out.later hy)
  replace HRc := Lib.hid (HRc.out.later hy)
  replace HAT := Lib.hid (HAT.out.later hy)
  clear hy
  have HZy29 := Lib.hid (show y29.heap.size = (y29.heap.size) from rfl)
  obtain ⟨y30, hy30⟩ : ∃ Y, y29.alloc (.cells #[.int .i64 2, .int .i64 2] 3) = Y := ⟨_, rfl⟩
  have hy : Below y29.heap.size y29 y30 := by rw [← hy30]; exact (Below.refl _ _).alloc (Nat.le_refl _) _
  have RRy30 : Row y30 (y29.heap.size) 3 #[.int .i64 2, .int .i64 2] := by rw [← hy30, ← HZy29.out]; exact Row.new _ _ _
  have HZy30 := Lib.hid (show y30.heap.size = (y29.heap.size + 1) by rw [← hy30, World.size_alloc, HZy29.out])
  have B30 : Below w.heap.size w y30 := B29.trans (hy.mono B29.size)
  replace HRa := Lib.hid (HRa.out.later hy)
  replace HRx := Lib.hid (HRx.out.later hy)
  replace HRb := Lib.hid (HRb.out.later hy)
  replace HRz := Lib.hid (HRz.out.later hy)
  replace HRc := Lib.hid (HRc.out.later hy)
  replace HAT := Lib.hid (HAT.out.later hy)
  have HYy30 := Lib.hid hy30
  clear hy hy30
  have HSy30 := Lib.hid RRy30
  clear RRy30
  obtain ⟨y31, hy31⟩ : ∃ Y, y30.alloc (.cells #[.slice (some ⟨(y29.heap.size), 0, none⟩) 2 2] 28) = Y := ⟨_, rfl⟩
  have hy : Below y30.heap.size y30 y31 := by rw [← hy31]; exact (Below.refl _ _).alloc (Nat.le_refl _) _
  have RRy31 : Row y31 (y29.heap.size + 1) 28 #[.slice (some ⟨(y29.heap.size), 0, none⟩) 2 2] := by rw [← hy31, ← HZy30.out]; exact Row.new _ _ _
  have HZy31 := Lib.hid (show y31.heap.size = (y29.heap.size + 1 + 1) by rw [← hy31, World.size_alloc, HZy30.out])
  have B31 : Below w.heap.size w y31 := B30.trans (hy.mono B30.size)
  replace HRa := Lib.hid (HRa.out.later hy)
  replace HRx := Lib.hid (HRx.out.later hy)
  replace HRb := Lib.hid (HRb.out.later hy)
  replace HRz := Lib.hid (HRz.out.later hy)
  replace HRc := Lib.hid (HRc.out.later hy)
  replace HAT := Lib.hid (HAT.out.later hy)
  replace HSy30 := Lib.hid (HSy30.out.later hy)
  have HYy31 := Lib.hid hy31
  clear hy hy31
  have HRL : RowL y31 (.slice (some ⟨(y29.heap.size + 1), 0, none⟩) 1 1) [[2, 2]] (some ⟨(y29.heap.size + 1), 0, none⟩) 1 := by
    refine RowL.lit (ls := [[2, 2]]) RRy31 (by simp) (fun i hi => ?_)
    simp only [List.length_cons, List.length_nil] at hi
    by_cases h0 : i = 0
    · subst h0; exact ⟨some ⟨(y29.heap.size), 0, none⟩, 2, rfl, Row.argS HSy30.out [2, 2] rfl (fun x hx => by simp at hx; omega), fun h => by cases h⟩
    omega
  have hsh := shape_any 3 (o := 16) (xs := [1, 0, 0, 2]) (ls := [[2, 2]]) (a1 := some ⟨gn, 0, none⟩) (n1 := 1) (c1 := 1) HAT.out (fun h => by first | rfl | cases h) (by simp) HRL (by decide +kernel) (by simp)
  rw [show infC 3 16 1 [1, 0, 0, 2] [[2, 2]] = 0 by decide +kernel, show infV 3 16 1 [1, 0, 0, 2] [[2, 2]] = [3, 4] by decide +kernel] at hsh
  have HSH := Lib.hid hsh
  clear hsh HRL RRy31 HAT HSy30
  go_wp2_with fail
  have hyy := HYy30.out
  (try rw [hyy])
  clear hyy
  have hyy := HYy31.out
  (try rw [hyy])
  clear hyy
  refine (HSH.out).mono ?_
  rintro e y32 ⟨r, rfl, hr, hy⟩
  have B32 : Below w.heap.size w y32 := B31.trans (hy.mono B31.size)
  replace HRa := Lib.hid (HRa.out.later hy)
  replace HRx := Lib.hid (HRx.out.later hy)
  replace HRb := Lib.hid (HRb.out.later hy)
  replace HRz := Lib.hid (HRz.out.later hy)
  replace HRc := Lib.hid (HRc.out.later hy)
  obtain ⟨add, cpd, rfl, hr2⟩ := res_slice11 hr
  simp only [List.length_cons, List.length_nil, Nat.reduceAdd, Nat.zero_add] at hr2
  (try simp only [List.length_cons, List.length_nil, Nat.reduceAdd, Nat.zero_add])
  have HRd := Lib.hid hr2
  clear hr hr2 HSH
  clear hy
  have HZy32 := Lib.hid (show y32.heap.size = (y32.heap.size) from rfl)
  obtain ⟨y33, hy33⟩ : ∃ Y, y32.alloc (.cells #[.int .i64 0] 3) = Y := ⟨_, rfl⟩
  have hy : Below y32.heap.size y32 y33 := by rw [← hy33]; exact (Below.refl _ _).alloc (Nat.le_refl _) _
  have RRy33 : Row y33 (y32.heap.size) 3 #[.int .i64 0] := by rw [← hy33, ← HZy32.out]; exact Row.new _ _ _
  have HZy33 := Lib.hid (show y33.heap.size = (y32.heap.size + 1) by rw [← hy33, World.size_alloc, HZy32.out])
  have B33 : Below w.heap.size w y33 := B32.trans (hy.mono B32.size)
  replace HRa := Lib.hid (HRa.out.later hy)
  replace HRx := Lib.hid (HRx.out.later hy)
  replace HRb := Lib.hid (HRb.out.later hy)
  replace HRz := Lib.hid (HRz.out.later hy)
  replace HRc := Lib.hid (HRc.out.later hy)
  replace HRd := Lib.hid (HRd.out.later hy)
  have HYy33 := Lib.hid hy33
  clear hy hy33
  have HAT := Lib.hid (Row.argS RRy33 [0] rfl (fun x hx => by simp at hx; omega))
  clear RRy33
  go_wp2_with fail
  have hyy := HYy33.out
  (try rw [hyy])
  clear hyy
  refine (nodeI_any 17 2 (by omega) _).mono ?_
  rintro e y34 ⟨gn, rfl, hy⟩
  have B34 : Below w.heap.size w y34 := B33.trans (hy.mono B33.size)
  replace HRa := Lib.hid (HRa.out.later hy)
  replace HRx := Lib.hid (HRx.out.later hy)
  replace HRb := Lib.hid (HRb.out.later hy)
  replace HRz := Lib.hid (HRz.out.later hy)
  replace HRc := Lib.hid (HRc.out.later hy)
  replace HRd := Lib.hid (HRd.out.later hy)
  replace HAT := Lib.hid (HAT.out.later hy)
  clear hy
  have HZy34 := Lib.hid (show y34.heap.size = (y34.heap.size) from rfl)
  obtain ⟨y35, hy35⟩ : ∃ Y, y34.alloc (.cells #[.int .i64 2, .int .i64 3] 3) = Y := ⟨_, rfl⟩
  have hy : Below y34.heap.size y34 y35 := by rw [← hy35]; exact (Below.refl _ _).alloc (Nat.le_refl _) _
  have RRy35 : Row y35 (y34.heap.size) 3 #[.int .i64 2, .int .i64 3] := by rw [← hy35, ← HZy34.out]; exact Row.new _ _ _
  have HZy35 := Lib.hid (show y35.heap.size = (y34.heap.size + 1) by rw [← hy35, World.size_alloc, HZy34.out])
  have B35 : Below w.heap.size w y35 := B34.trans (hy.mono B34.size)
  replace HRa := Lib.hid (HRa.out.later hy)
  replace HRx := Lib.hid (HRx.out.later hy)
  replace HRb := Lib.hid (HRb.out.later hy)
  replace HRz := Lib.hid (HRz.out.later hy)
  replace HRc := Lib.hid (HRc.out.later hy)
  replace HRd := Lib.hid (HRd.out.later hy)
  replace HAT := Lib.hid (HAT.out.later hy)
  have HYy35 := Lib.hid hy35
  clear hy hy35
  have HSy35 := Lib.hid RRy35
  clear RRy35
  obtain ⟨y36, hy36⟩ : ∃ Y, y35.alloc (.cells #[.int .i64 5, .int .i64 3] 3) = Y := ⟨_, rfl⟩
  have hy : Below y35.heap.size y35 y36 := by rw [← hy36]; exact (Below.refl _ _).alloc (Nat.le_refl _) _
  have RRy36 : Row y36 (y34.heap.size + 1) 3 #[.int .i64 5, .int .i64 3] := by rw [← hy36, ← HZy35.out]; exact Row.new _ _ _
  have HZy36 := Lib.hid (show y36.heap.size = (y34.heap.size + 1 + 1) by rw [← hy36, World.size_alloc, HZy35.out])
  have B36 : Below w.heap.size w y36 := B35.trans (hy.mono B35.size)
  replace HRa := Lib.hid (HRa.out.later hy)
  replace HRx := Lib.hid (HRx.out.later hy)
  replace HRb := Lib.hid (HRb.out.later hy)
  replace HRz := Lib.hid (HRz.out.later hy)
  replace HRc := Lib.hid (HRc.out.later hy)
  replace HRd := Lib.hid (HRd.out.later hy)
  replace HAT := Lib.hid (HAT.out.later hy)
  replace HSy35 := Lib.hid (HSy35.out.later hy)
  have HYy36 := Lib.hid hy36
  clear hy hy36
  have HSy36 := Lib.hid RRy36
  clear RRy36
  obtain ⟨y37, hy37⟩ : ∃ Y, y36.alloc (.cells #[.slice (some ⟨(y34.heap.size), 0, none⟩) 2 2, .slice (some ⟨(y34.heap.size + 1), 0, none⟩) 2 2] 28) = Y := ⟨_, rfl⟩
  have hy : Below y36.heap.size y36 y37 := by rw [← hy37]; exact (Below.refl _ _).alloc (Nat.le_refl _) _
  have RRy37 : Row y37 (y34.heap.size + 1 + 1) 28 #[.slice (some ⟨(y34.heap.size), 0, none⟩) 2 2, .slice (some ⟨(y34.heap.size + 1), 0, none⟩) 2 2] := by rw [← hy37, ← HZy36.out]; exact Row.new _ _ _
  have HZy37 := Lib.hid (show y37.heap.size = (y34.heap.size + 1 + 1 + 1) by rw [← hy37, World.size_alloc, HZy36.out])
  have B37 : Below w.heap.size w y37 := B36.trans (hy.mono B36.size)
  replace HRa := Lib.hid (HRa.out.later hy)
  replace HRx := Lib.hid (HRx.out.later hy)
  replace HRb := Lib.hid (HRb.out.later hy)
  replace HRz := Lib.hid (HRz.out.later hy)
  replace HRc := Lib.hid (HRc.out.later hy)
  replace HRd := Lib.hid (HRd.out.later hy)
  replace HAT := Lib.hid (HAT.out.later hy)
  replace HSy35 := Lib.hid (HSy35.out.later hy)
  replace HSy36 := Lib.hid (HSy36.out.later hy)
  have HYy37 := Lib.hid hy37
  clear hy hy37
  have HRL : RowL y37 (.slice (some ⟨(y34.heap.size + 1 + 1), 0, none⟩) 2 2) [[2, 3], [5, 3]] (some ⟨(y34.heap.size + 1 + 1), 0, none⟩) 2 := by
    refine RowL.lit (ls := [[2, 3], [5, 3]]) RRy37 (by simp) (fun i hi => ?_)
    simp only [List.length_cons, List.length_nil] at hi
    by_cases h0 : i = 0
    · subst h0; exact ⟨some ⟨(y34.heap.size), 0, none⟩, 2, rfl, Row.argS HSy35.out [2, 3] rfl (fun x hx => by simp at hx; omega), fun h => by cases h⟩
    by_cases h1 : i = 1
    · subst h1; exact ⟨some ⟨(y34.heap.size + 1), 0, none⟩, 2, rfl, Row.argS HSy36.out [5, 3] rfl (fun x hx => by simp at hx; omega), fun h => by cases h⟩
    omega
  have hsh := shape_any 3 (o := 17) (xs := [0]) (ls := [[2, 3], [5, 3]]) (a1 := some ⟨gn, 0, none⟩) (n1 := 2) (c1 := 2) HAT.out (fun h => by first | rfl | cases h) (by simp) HRL (by decide +kernel) (by simp)
  rw [show infC 3 17 2 [0] [[2, 3], [5, 3]] = 0 by decide +kernel, show infV 3 17 2 [0] [[2, 3], [5, 3]] = [7, 3] by decide +kernel] at hsh
  have HSH := Lib.hid hsh
  clear hsh HRL RRy37 HAT HSy35 HSy36
  go_wp2_with fail
  have hyy := HYy35.out
  (try rw [hyy])
  clear hyy
  have hyy := HYy36.out
  (try rw [hyy])
  clear hyy
  have hyy := HYy37.out
  (try rw [hyy])
  clear hyy
  refine (HSH.out).mono ?_
  rintro e y38 ⟨r, rfl, hr, hy⟩
  have B38 : Below w.heap.size w y38 := B37.trans (hy.mono B37.size)
  replace HRa := Lib.hid (HRa.out.later hy)
  replace HRx := Lib.hid (HRx.out.later hy)
  replace HRb := Lib.hid (HRb.out.later hy)
  replace HRz := Lib.hid (HRz.out.later hy)
  replace HRc := Lib.hid (HRc.out.later hy)
  replace HRd := Lib.hid (HRd.out.later hy)
  obtain ⟨adp, cpp, rfl, hr2⟩ := res_slice11 hr
  simp only [List.length_cons, List.length_nil, Nat.reduceAdd, Nat.zero_add] at hr2
  (try simp only [List.length_cons, List.length_nil, Nat.reduceAdd, Nat.zero_add])
  have HRp := Lib.hid hr2
  clear hr hr2 HSH
  clear hy
  have HZy38 := Lib.hid (show y38.heap.size = (y38.heap.size) from rfl)
  obtain ⟨y39, hy39⟩ : ∃ Y, y38.alloc (.cells #[.int .i64 2, .int .i64 4] 3) = Y := ⟨_, rfl⟩
  have hy : Below y38.heap.size y38 y39 := by rw [← hy39]; exact (Below.refl _ _).alloc (Nat.le_refl _) _
  have RRy39 : Row y39 (y38.heap.size) 3 #[.int .i64 2, .int .i64 4] := by rw [← hy39, ← HZy38.out]; exact Row.new _ _ _
  have HZy39 := Lib.hid (show y39.heap.size = (y38.heap.size + 1) by rw [← hy39, World.size_alloc, HZy38.out])
  have B39 : Below w.heap.size w y39 := B38.trans (hy.mono B38.size)
  replace HRa := Lib.hid (HRa.out.later hy)
  replace HRx := Lib.hid (HRx.out.later hy)
  replace HRb := Lib.hid (HRb.out.later hy)
  replace HRz := Lib.hid (HRz.out.later hy)
  replace HRc := Lib.hid (HRc.out.later hy)
  replace HRd := Lib.hid (HRd.out.later hy)
  replace HRp := Lib.hid (HRp.out.later hy)
  have HYy39 := Lib.hid hy39
  clear hy hy39
  have hat := HRa.out.at_
  have hss := sameL_any hat.2.1 (Row.argS RRy39 [2, 4] rfl (fun x hx => by simp at hx; omega)) (by simp)
  rw [decide_eq_true (show ([2, 4] : List Int) = [2, 4] from rfl)] at hss
  have HSS := Lib.hid hss
  clear hat hss RRy39
  go_wp2_with fail
  have hyy := HYy39.out
  (try rw [hyy])
  clear hyy
  refine (HSS.out).mono ?_
  rintro e y40 ⟨rfl, hy⟩
  have B40 : Below w.heap.size w y40 := B39.trans (hy.mono B39.size)
  replace HRa := Lib.hid (HRa.out.later hy)
  replace HRx := Lib.hid (HRx.out.later hy)
  replace HRb := Lib.hid (HRb.out.later hy)
  replace HRz := Lib.hid (HRz.out.later hy)
  replace HRc := Lib.hid (HRc.out.later hy)
  replace HRd := Lib.hid (HRd.out.later hy)
  replace HRp := Lib.hid (HRp.out.later hy)
  clear HSS
  clear hy
  have HZy40 := Lib.hid (show y40.heap.size = (y40.heap.size) from rfl)
  obtain ⟨y41, hy41⟩ : ∃ Y, y40.alloc (.cells #[.int .i64 2, .int .i64 4] 3) = Y := ⟨_, rfl⟩
  have hy : Below y40.heap.size y40 y41 := by rw [← hy41]; exact (Below.refl _ _).alloc (Nat.le_refl _) _
  have RRy41 : Row y41 (y40.heap.size) 3 #[.int .i64 2, .int .i64 4] := by rw [← hy41, ← HZy40.out]; exact Row.new _ _ _
  have HZy41 := Lib.hid (show y41.heap.size = (y40.heap.size + 1) by rw [← hy41, World.size_alloc, HZy40.out])
  have B41 : Below w.heap.size w y41 := B40.trans (hy.mono B40.size)
  replace HRa := Lib.hid (HRa.out.later hy)
  replace HRx := Lib.hid (HRx.out.later hy)
  replace HRb := Lib.hid (HRb.out.later hy)
  replace HRz := Lib.hid (HRz.out.later hy)
  replace HRc := Lib.hid (HRc.out.later hy)
  replace HRd := Lib.hid (HRd.out.later hy)
  replace HRp := Lib.hid (HRp.out.later hy)
  have HYy41 := Lib.hid hy41
  clear hy hy41
  have hat := HRb.out.at_
  have hss := sameL_any hat.2.1 (Row.argS RRy41 [2, 4] rfl (fun x hx => by simp at hx; omega)) (by simp)
  rw [decide_eq_true (show ([2, 4] : List Int) = [2, 4] from rfl)] at hss
  have HSS := Lib.hid hss
  clear hat hss RRy41
  go_wp2_with fail
  have hyy := HYy41.out
  (try rw [hyy])
  clear hyy
  refine (HSS.out).mono ?_
  rintro e y42 ⟨rfl, hy⟩
  have B42 : Below w.heap.size w y42 := B41.trans (hy.mono B41.size)
  replace HRa := Lib.hid (HRa.out.later hy)
  replace HRx := Lib.hid (HRx.out.later hy)
  replace HRb := Lib.hid (HRb.out.later hy)
  replace HRz := Lib.hid (HRz.out.later hy)
  replace HRc := Lib.hid (HRc.out.later hy)
  replace HRd := Lib.hid (HRd.out.later hy)
  replace HRp := Lib.hid (HRp.out.later hy)
  clear HSS
  clear hy
  have HZy42 := Lib.hid (show y42.heap.size = (y42.heap.size) from rfl)
  obtain ⟨y43, hy43⟩ : ∃ Y, y42.alloc (.cells #[.int .i64 2, .int .i64 4] 3) = Y := ⟨_, rfl⟩
  have hy : Below y42.heap.size y42 y43 := by rw [← hy43]; exact (Below.refl _ _).alloc (Nat.le_refl _) _
  have RRy43 : Row y43 (y42.heap.size) 3 #[.int .i64 2, .int .i64 4] := by rw [← hy43, ← HZy42.out]; exact Row.new _ _ _
  have HZy43 := Lib.hid (show y43.heap.size = (y42.heap.size + 1) by rw [← hy43, World.size_alloc, HZy42.out])
  have B43 : Below w.heap.size w y43 := B42.trans (hy.mono B42.size)
  replace HRa := Lib.hid (HRa.out.later hy)
  replace HRx := Lib.hid (HRx.out.later hy)
  replace HRb := Lib.hid (HRb.out.later hy)
  replace HRz := Lib.hid (HRz.out.later hy)
  replace HRc := Lib.hid (HRc.out.later hy)
  replace HRd := Lib.hid (HRd.out.later hy)
  replace HRp := Lib.hid (HRp.out.later hy)
  have HYy43 := Lib.hid hy43
  clear hy hy43
  have hat := HRc.out.at_
  have hss := sameL_any hat.2.1 (Row.argS RRy43 [2, 4] rfl (fun x hx => by simp at hx; omega)) (by simp)
  rw [decide_eq_true (show ([2, 4] : List Int) = [2, 4] from rfl)] at hss
  have HSS := Lib.hid hss
  clear hat hss RRy43
  go_wp2_with fail
  have hyy := HYy43.out
  (try rw [hyy])
  clear hyy
  refine (HSS.out).mono ?_
  rintro e y44 ⟨rfl, hy⟩
  have B44 : Below w.heap.size w y44 := B43.trans (hy.mono B43.size)
  replace HRa := Lib.hid (HRa.out.later hy)
  replace HRx := Lib.hid (HRx.out.later hy)
  replace HRb := Lib.hid (HRb.out.later hy)
  replace HRz := Lib.hid (HRz.out.later hy)
  replace HRc := Lib.hid (HRc.out.later hy)
  replace HRd := Lib.hid (HRd.out.later hy)
  replace HRp := Lib.hid (HRp.out.later hy)
  clear HSS
  clear hy
  have HZy44 := Lib.hid (show y44.heap.size = (y44.heap.size) from rfl)
  obtain ⟨y45, hy45⟩ : ∃ Y, y44.alloc (.cells #[.int .i64 3, .int .i64 4] 3) = Y := ⟨_, rfl⟩
  have hy : Below y44.heap.size y44 y45 := by rw [← hy45]; exact (Below.refl _ _).alloc (Nat.le_refl _) _
  have RRy45 : Row y45 (y44.heap.size) 3 #[.int .i64 3, .int .i64 4] := by rw [← hy45, ← HZy44.out]; exact Row.new _ _ _
  have HZy45 := Lib.hid (show y45.heap.size = (y44.heap.size + 1) by rw [← hy45, World.size_alloc, HZy44.out])
  have B45 : Below w.heap.size w y45 := B44.trans (hy.mono B44.size)
  replace HRa := Lib.hid (HRa.out.later hy)
  replace HRx := Lib.hid (HRx.out.later hy)
  replace HRb := Lib.hid (HRb.out.later hy)
  replace HRz := Lib.hid (HRz.out.later hy)
  replace HRc := Lib.hid (HRc.out.later hy)
  replace HRd := Lib.hid (HRd.out.later hy)
  replace HRp := Lib.hid (HRp.out.later hy)
  have HYy45 := Lib.hid hy45
  clear hy hy45
  have hat := HRd.out.at_
  have hss := sameL_any hat.2.1 (Row.argS RRy45 [3, 4] rfl (fun x hx => by simp at hx; omega)) (by simp)
  rw [decide_eq_true (show ([3, 4] : List Int) = [3, 4] from rfl)] at hss
  have HSS := Lib.hid hss
  clear hat hss RRy45
  go_wp2_with fail
  have hyy := HYy45.out
  (try rw [hyy])
  clear hyy
  refine (HSS.out).mono ?_
  rintro e y46 ⟨rfl, hy⟩
  have B46 : Below w.heap.size w y46 := B45.trans (hy.mono B45.size)
  replace HRa := Lib.hid (HRa.out.later hy)
  replace HRx := Lib.hid (HRx.out.later hy)
  replace HRb := Lib.hid (HRb.out.later hy)
  replace HRz := Lib.hid (HRz.out.later hy)
  replace HRc := Lib.hid (HRc.out.later hy)
  replace HRd := Lib.hid (HRd.out.later hy)
  replace HRp := Lib.hid (HRp.out.later hy)
  clear HSS
  clear hy
  have HZy46 := Lib.hid (show y46.heap.size = (y46.heap.size) from rfl)
  obtain ⟨y47, hy47⟩ : ∃ Y, y46.alloc (.cells #[.int .i64 7, .int .i64 3] 3) = Y := ⟨_, rfl⟩
  have hy : Below y46.heap.size y46 y47 := by rw [← hy47]; exact (Below.refl _ _).alloc (Nat.le_refl _) _
  have RRy47 : Row y47 (y46.heap.size) 3 #[.int .i64 7, .int .i64 3] := by rw [← hy47, ← HZy46.out]; exact Row.new _ _ _
  have HZy47 := Lib.hid (show y47.heap.size = (y46.heap.size + 1) by rw [← hy47, World.size_alloc, HZy46.out])
  have B47 : Below w.heap.size w y47 := B46.trans (hy.mono B46.size)
  replace HRa := Lib.hid (HRa.out.later hy)
  replace HRx := Lib.hid (HRx.out.later hy)
  replace HRb := Lib.hid (HRb.out.later hy)
  replace HRz := Lib.hid (HRz.out.later hy)
  replace HRc := Lib.hid (HRc.out.later hy)
  replace HRd := Lib.hid (HRd.out.later hy)
  replace HRp := Lib.hid (HRp.out.later hy)
  have HYy47 := Lib.hid hy47
  clear hy hy47
  have hat := HRp.out.at_
  have hss := sameL_any hat.2.1 (Row.argS RRy47 [7, 3] rfl (fun x hx => by simp at hx; omega)) (by simp)
  rw [decide_eq_true (show ([7, 3] : List Int) = [7, 3] from rfl)] at hss
  have HSS := Lib.hid hss
  clear hat hss RRy47
  go_wp2_with fail
  have hyy := HYy47.out
  (try rw [hyy])
  clear hyy
  refine (HSS.out).mono ?_
  rintro e y48 ⟨rfl, hy⟩
  have B48 : Below w.heap.size w y48 := B47.trans (hy.mono B47.size)
  replace HRa := Lib.hid (HRa.out.later hy)
  replace HRx := Lib.hid (HRx.out.later hy)
  replace HRb := Lib.hid (HRb.out.later hy)
  replace HRz := Lib.hid (HRz.out.later hy)
  replace HRc := Lib.hid (HRc.out.later hy)
  replace HRd := Lib.hid (HRd.out.later hy)
  replace HRp := Lib.hid (HRp.out.later hy)
  clear HSS
  clear hy
  go_wp2_with fail
  go_ret
  exact ⟨rfl, B48⟩
end
end Go.Proofs.Ytdcggcfgkhlblaa
