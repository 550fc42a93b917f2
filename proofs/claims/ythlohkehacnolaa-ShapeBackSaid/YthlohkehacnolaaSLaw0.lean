/-
  Layer 6's laws: known. (Made by wip/gen/gen_slaws.py.)
-/
import Derived.Test.YthlohkehacnolaaSSpec
namespace Go.Proofs.Ythlohkehacnolaa
open Go.RowKit
set_option linter.unusedVariables false
set_option linter.unusedSimpArgs false

theorem below_lit (w : World) (cs : Array Value) (ty : TypeId) : Below w.heap.size w (w.alloc (.cells cs ty)) := (Below.refl _ w).alloc (Nat.le_refl _) _
theorem wid_small {xs : List Int} (h : xs.all (fun x => decide (0 ≤ x ∧ x ≤ 1024)) = true) : Wid xs := by
  intro x hx
  have := List.all_eq_true.1 h x hx
  simp at this
  omega
set_option maxRecDepth 100000 in
set_option maxHeartbeats 8000000 in
theorem known6_any (w : World) : Calls Try.prog 18 #[] w fun e w' => e = .returned (.bool true) ∧ Below w.heap.size w w' := by
  have f1 : offV [2, 3, 4] [1, 0, 2] = 14 := by decide +kernel
  have f2 : offC [2, 3, 4] [1, 0, 2] = 0 := by decide +kernel
  have f3 : idxC [2, 3, 4] 23 = 0 := by decide +kernel
  have f4 : idxV [2, 3, 4] 23 = [1, 2, 3] := by decide +kernel
  have f5 : strideS [2, 3, 4] = [12, 4, 1] := by decide +kernel
  have f6 : dropS [2, 3, 4] [1] = [2, 4] := by decide +kernel
  have f7 : onesS [2, 3, 4] [0, 2] = [1, 3, 1] := by decide +kernel
  have f8 : fitC [3, 1] [2, 3, 4] = 0 := by decide +kernel
  have f9 : grownS [3, 1] [2, 3, 4] = [0, 2] := by decide +kernel
  have f10 : mayC [1, 1, 1, 1, 1] = 14 := by decide +kernel
  have A0 := ArgS.lit w [2, 3, 4] (wid_small rfl)
  have B0 := below_lit w #[.int .i64 2, .int .i64 3, .int .i64 4] 3
  simp only [List.map_cons, List.map_nil, List.length_cons, List.length_nil, Nat.reduceAdd] at A0
  have HA := Lib.hid A0
  have HB := Lib.hid B0
  have HF := Lib.hid (And.intro f1 (And.intro f2 (And.intro f3 (And.intro f4 (And.intro f5 (And.intro f6 (And.intro f7 (And.intro f8 (And.intro f9 f10)))))))))
  clear A0 B0 f1 f2 f3 f4 f5 f6 f7 f8 f9 f10
  go_enter Try.func18, Try.ntmps18
  go_wp2_with fail
  have A0 := HA.out
  have B0 := HB.out
  have S0 := B0.size
  have z0 : (w.alloc (.cells #[.int .i64 2, .int .i64 3, .int .i64 4] 3)).heap.size = w.heap.size + 1 := by simp
  clear HA HB
  generalize w.alloc (.cells #[.int .i64 2, .int .i64 3, .int .i64 4] 3) = W0 at *
  obtain ⟨f1, f2, f3, f4, f5, f6, f7, f8, f9, f10⟩ := HF.out
  clear HF
  have C1 := offsetS_any (A0.later (below_lit W0 #[.int .i64 1, .int .i64 0, .int .i64 2] 3)) (ArgS.lit W0 [1, 0, 2] (wid_small rfl)) (fun h => by cases h) (fun h => by cases h) (by simp) (by simp)
  simp only [List.map_cons, List.map_nil, List.length_cons, List.length_nil, Nat.reduceAdd] at C1
  rw [f1, f2] at C1
  rw [z0] at C1
  refine C1.mono ?_
  rintro e W1 ⟨rfl, hb⟩
  rw [World.size_alloc] at hb
  have b1 : Below W0.heap.size W0 W1 := (below_lit W0 _ _).trans (hb.mono (Nat.le_succ _))
  have A1 := A0.later b1
  have B1 := B0.trans (b1.mono S0)
  have S1 := B1.size
  clear C1 hb A0 B0 S0 b1 f1 f2 z0
  go_wp2_with fail
  have C2 := indexS_any 23 A1 (fun h => by cases h) (by simp) (by omega) (by omega)
  rw [f3, f4] at C2
  refine C2.mono ?_
  rintro e W2 ⟨r, rfl, R, hb⟩
  have b2 := hb
  have A2 := A1.later b2
  have B2 := B1.trans (b2.mono S1)
  have S2 := B2.size
  clear C2 hb A1 B1 S1
  obtain ⟨bl, cl, rfl, RL, AL, nl⟩ := R.slice
  clear R RL f3 f4 b2
  simp only [List.length_cons, List.length_nil, Nat.reduceAdd] at AL
  go_wp2_with fail
  have C3 := stridesS_any A2 (fun h => by cases h) (by simp)
  rw [f5] at C3
  refine C3.mono ?_
  rintro e W3 ⟨r, rfl, R, hb⟩
  have b3 := hb
  have A3 := A2.later b3
  have B3 := B2.trans (b3.mono S2)
  have S3 := B3.size
  clear C3 hb A2 B2 S2
  have AL := AL.later b3
  obtain ⟨bs, cs, rfl, RS, AS, ns⟩ := R.slice
  clear R RS f5 b3 ns
  simp only [List.length_cons, List.length_nil, Nat.reduceAdd] at AS
  go_wp2_with fail
  have C4 := sameL_any (AS.later (below_lit W3 #[.int .i64 12, .int .i64 4, .int .i64 1] 3)) (ArgS.lit W3 [12, 4, 1] (wid_small rfl)) (by simp)
  rw [decide_eq_true rfl] at C4
  simp only [List.map_cons, List.map_nil, List.length_cons, List.length_nil, Nat.reduceAdd] at C4
  refine C4.mono ?_
  rintro e W4 ⟨rfl, hb⟩
  rw [World.size_alloc] at hb
  have b4 : Below W3.heap.size W3 W4 := (below_lit W3 _ _).trans (hb.mono (Nat.le_succ _))
  have A4 := A3.later b4
  have B4 := B3.trans (b4.mono S3)
  have S4 := B4.size
  clear C4 hb A3 B3 S3
  have AL := AL.later b4
  clear b4 AS
  go_wp2_with fail
  have C5 := sameL_any (AL.later (below_lit W4 #[.int .i64 1, .int .i64 2, .int .i64 3] 3)) (ArgS.lit W4 [1, 2, 3] (wid_small rfl)) (by simp)
  rw [decide_eq_true rfl] at C5
  simp only [List.map_cons, List.map_nil, List.length_cons, List.length_nil, Nat.reduceAdd] at C5
  refine C5.mono ?_
  rintro e W5 ⟨rfl, hb⟩
  rw [World.size_alloc] at hb
  have b5 : Below W4.heap.size W4 W5 := (below_lit W4 _ _).trans (hb.mono (Nat.le_succ _))
  have A5 := A4.later b5
  have B5 := B4.trans (b5.mono S4)
  have S5 := B5.size
  clear C5 hb A4 B4 S4
  clear b5 AL
  go_wp2_with fail
  have C6 := dropC_any (A5.later (below_lit W5 #[.int .i64 1] 3)) (ArgS.lit W5 [1] (wid_small rfl)) (fun h => by cases h) (fun h => by cases h) (by simp) (by simp)
  simp only [List.map_cons, List.map_nil, List.length_cons, List.length_nil, Nat.reduceAdd] at C6
  rw [f6] at C6
  refine C6.mono ?_
  rintro e W6 ⟨r, rfl, R, hb⟩
  rw [World.size_alloc] at hb
  have b6 : Below W5.heap.size W5 W6 := (below_lit W5 _ _).trans (hb.mono (Nat.le_succ _))
  have R := R.mono (show W5.heap.size ≤ _ by simp)
  have A6 := A5.later b6
  have B6 := B5.trans (b6.mono S5)
  have S6 := B6.size
  clear C6 hb A5 B5 S5 f6 b6
  obtain ⟨bs, cs, rfl, RS, AS, ns⟩ := R.slice
  clear R RS ns
  simp only [List.length_cons, List.length_nil, Nat.reduceAdd] at AS
  go_wp2_with fail
  have C7 := sameL_any (AS.later (below_lit W6 #[.int .i64 2, .int .i64 4] 3)) (ArgS.lit W6 [2, 4] (wid_small rfl)) (by simp)
  rw [decide_eq_true rfl] at C7
  simp only [List.map_cons, List.map_nil, List.length_cons, List.length_nil, Nat.reduceAdd] at C7
  refine C7.mono ?_
  rintro e W7 ⟨rfl, hb⟩
  rw [World.size_alloc] at hb
  have b7 : Below W6.heap.size W6 W7 := (below_lit W6 _ _).trans (hb.mono (Nat.le_succ _))
  have A7 := A6.later b7
  have B7 := B6.trans (b7.mono S6)
  have S7 := B7.size
  clear C7 hb A6 B6 S6
  clear b7 AS
  go_wp2_with fail
  have C8 := onesC_any (A7.later (below_lit W7 #[.int .i64 0, .int .i64 2] 3)) (ArgS.lit W7 [0, 2] (wid_small rfl)) (fun h => by cases h) (fun h => by cases h) (by simp) (by simp)
  simp only [List.map_cons, List.map_nil, List.length_cons, List.length_nil, Nat.reduceAdd] at C8
  rw [f7] at C8
  refine C8.mono ?_
  rintro e W8 ⟨r, rfl, R, hb⟩
  rw [World.size_alloc] at hb
  have b8 : Below W7.heap.size W7 W8 := (below_lit W7 _ _).trans (hb.mono (Nat.le_succ _))
  have R := R.mono (show W7.heap.size ≤ _ by simp)
  have A8 := A7.later b8
  have B8 := B7.trans (b8.mono S7)
  have S8 := B8.size
  clear C8 hb A7 B7 S7 f7 b8
  obtain ⟨bs, cs, rfl, RS, AS, ns⟩ := R.slice
  clear R RS ns
  simp only [List.length_cons, List.length_nil, Nat.reduceAdd] at AS
  go_wp2_with fail
  have C9 := sameL_any (AS.later (below_lit W8 #[.int .i64 1, .int .i64 3, .int .i64 1] 3)) (ArgS.lit W8 [1, 3, 1] (wid_small rfl)) (by simp)
  rw [decide_eq_true rfl] at C9
  simp only [List.map_cons, List.map_nil, List.length_cons, List.length_nil, Nat.reduceAdd] at C9
  refine C9.mono ?_
  rintro e W9 ⟨rfl, hb⟩
  rw [World.size_alloc] at hb
  have b9 : Below W8.heap.size W8 W9 := (below_lit W8 _ _).trans (hb.mono (Nat.le_succ _))
  have A9 := A8.later b9
  have B9 := B8.trans (b9.mono S8)
  have S9 := B9.size
  clear C9 hb A8 B8 S8
  clear b9 AS
  go_wp2_with fail
  have C10 := fitsS_any (ArgS.lit W9 [3, 1] (wid_small rfl)) (A9.later (below_lit W9 #[.int .i64 3, .int .i64 1] 3)) (fun h => by cases h) (fun h => by cases h) (by simp) (by simp)
  simp only [List.map_cons, List.map_nil, List.length_cons, List.length_nil, Nat.reduceAdd] at C10
  rw [f8] at C10
  refine C10.mono ?_
  rintro e W10 ⟨rfl, hb⟩
  rw [World.size_alloc] at hb
  have b10 : Below W9.heap.size W9 W10 := (below_lit W9 _ _).trans (hb.mono (Nat.le_succ _))
  have A10 := A9.later b10
  have B10 := B9.trans (b10.mono S9)
  have S10 := B10.size
  clear C10 hb A9 B9 S9 f8 b10
  go_wp2_with fail
  have C11 := grownC_any (ArgS.lit W10 [3, 1] (wid_small rfl)) (A10.later (below_lit W10 #[.int .i64 3, .int .i64 1] 3)) (fun h => by cases h) (fun h => by cases h) (by simp) (by simp)
  simp only [List.map_cons, List.map_nil, List.length_cons, List.length_nil, Nat.reduceAdd] at C11
  rw [f9] at C11
  refine C11.mono ?_
  rintro e W11 ⟨r, rfl, R, hb⟩
  rw [World.size_alloc] at hb
  have b11 : Below W10.heap.size W10 W11 := (below_lit W10 _ _).trans (hb.mono (Nat.le_succ _))
  have R := R.mono (show W10.heap.size ≤ _ by simp)
  have A11 := A10.later b11
  have B11 := B10.trans (b11.mono S10)
  have S11 := B11.size
  clear C11 hb A10 B10 S10 f9 b11
  obtain ⟨bs, cs, rfl, RS, AS, ns⟩ := R.slice
  clear R RS ns
  simp only [List.length_cons, List.length_nil, Nat.reduceAdd] at AS
  go_wp2_with fail
  have C12 := sameL_any (AS.later (below_lit W11 #[.int .i64 0, .int .i64 2] 3)) (ArgS.lit W11 [0, 2] (wid_small rfl)) (by simp)
  rw [decide_eq_true rfl] at C12
  simp only [List.map_cons, List.map_nil, List.length_cons, List.length_nil, Nat.reduceAdd] at C12
  refine C12.mono ?_
  rintro e W12 ⟨rfl, hb⟩
  rw [World.size_alloc] at hb
  have b12 : Below W11.heap.size W11 W12 := (below_lit W11 _ _).trans (hb.mono (Nat.le_succ _))
  have A12 := A11.later b12
  have B12 := B11.trans (b12.mono S11)
  have S12 := B12.size
  clear C12 hb A11 B11 S11
  clear b12 AS
  go_wp2_with fail
  have C13 := mayS_any (ArgS.lit W12 [1, 1, 1, 1, 1] (wid_small rfl)) (by simp)
  simp only [List.map_cons, List.map_nil, List.length_cons, List.length_nil, Nat.reduceAdd] at C13
  rw [f10] at C13
  refine C13.mono ?_
  rintro e W13 ⟨rfl, hb⟩
  rw [World.size_alloc] at hb
  have b13 : Below W12.heap.size W12 W13 := (below_lit W12 _ _).trans (hb.mono (Nat.le_succ _))
  have A13 := A12.later b13
  have B13 := B12.trans (b13.mono S12)
  have S13 := B13.size
  clear C13 hb A12 B12 S12
  go_wp2_with fail
  go_ret
  exact ⟨rfl, B13⟩
end Go.Proofs.Ythlohkehacnolaa
