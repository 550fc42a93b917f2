/-
  Part 6 of 11: contracts and what they rest on (OCode8, ORef1).
-/
import Derived.Test.YtnhbngeipedplaaD1
import Derived.Test.YtnhbngeipedplaaD3
import Derived.Test.YtnhbngeipedplaaD5
import Derived.WalkKit
import Derived.Test.YtnhbngeipedplaaRows
import Derived.OrdersHeld
import Derived.Deep.RegionHeld
import Derived.BigQuiet
import Derived.Deep.QuietTactic
import Derived.Lib.Hide
import Derived.Lib.Small
import Derived.Lib.Walk
import Derived.Lib.BitFns
import Derived.Maps.AppendAt
import Derived.RangeFuncNested
import Derived.RangeFuncBound
import Derived.RangeFuncCalls
import Derived.RangeFuncLeaves
import Derived.Shelf.Abstract
import Derived.OwnWalkIn
import Derived.TacticsInMore
import Derived.LoopNIn
import Derived.LoopIn
import Derived.RangeFuncBox
import Derived.Deep.RegionHeld3
import Derived.OrdersIn
import Derived.StillTailTactics
import Derived.RangeFuncFrom
import Derived.Laws.EntriesVeiled
import Derived.ProofKit
import Derived.OpenShut
import Derived.JoinedCond
import Derived.Carry
import Derived.Laws.AppendOwnNone
import Derived.Lib.ItoaNum
import Derived.Deep.RegionLaw
import Derived.WalkMore
import Derived.Lib.SmallJoins
import Derived.IntWalk
import Derived.Deep.DeepCutAuto
import Derived.Laws.OwnMore
import Derived.ArgAppend
import Derived.Deep.Slices
import Derived.Laws.CopyOwn
import Derived.Lib.SliceRun
import Derived.SizedLaws
import Derived.Great.BuildSlice
namespace Go.Proofs.Ytnhbngeipedplaa
set_option maxRecDepth 100000
section
open Go.RowKit
set_option linter.unusedVariables false
set_option linter.unusedSimpArgs false
set_option maxRecDepth 100000 in
set_option maxHeartbeats 4000000 in
theorem in_any (o v : Int) (w : World) : Calls Try.prog 14 #[.int .i64 o, .int .i64 v] w fun e w' => e = .returned (.bool (verO o v)) ∧ Below w.heap.size w w' := by
  obtain ⟨c, hc⟩ : ∃ c, verO o v = c := ⟨_, rfl⟩
  rw [hc]
  have HC := Lib.hid hc
  obtain ⟨okb, hok⟩ : ∃ b, inO o = b := ⟨_, rfl⟩
  have hro := fun w => rowOf_any o w
  rw [hok] at hro
  have HOK := Lib.hid hok
  clear hc hok
  go_enter Try.func14, Try.ntmps14
  go_wp2_with fail
  refine (hro _).mono ?_
  rintro e y1 ⟨r, rfl, hr, hy⟩
  obtain ⟨n0, F, M, rfl, hF, hM, hin⟩ := id hr
  have HONE := Lib.hid (rowIs_one (n0 := n0) (nm := (rowO o).name) (vl := (rowO o).vl) (vh := (rowO o).vh) (al := (rowO o).al) (ah := (rowO o).ah) (lo := (rowO o).lo) hF hM)
  have HR := Lib.hid hr
  clear hr hin
  obtain ⟨nm, hnm⟩ : ∃ s, (rowO o).name = s := ⟨_, rfl⟩
  obtain ⟨vl, hvl⟩ : ∃ s, (rowO o).vl = s := ⟨_, rfl⟩
  obtain ⟨vh, hvh⟩ : ∃ s, (rowO o).vh = s := ⟨_, rfl⟩
  obtain ⟨al, hal⟩ : ∃ s, (rowO o).al = s := ⟨_, rfl⟩
  obtain ⟨ah, hah⟩ : ∃ s, (rowO o).ah = s := ⟨_, rfl⟩
  obtain ⟨lo, hlo⟩ : ∃ s, (rowO o).lo = s := ⟨_, rfl⟩
  have HNM := Lib.hid hnm
  have HVL := Lib.hid hvl
  have HVH := Lib.hid hvh
  have HAL := Lib.hid hal
  have HAH := Lib.hid hah
  have HLO := Lib.hid hlo
  have HO2 := HONE.out
  have HRR := HR.out
  rw [hnm, hvl, hvh, hal, hah, hlo] at HO2 HRR
  rw [hnm, hvl, hvh, hal, hah, hlo]
  have HO3 := Lib.hid HO2
  have HR3 := Lib.hid HRR
  clear HO2 HRR hnm hvl hvh hal hah hlo
  obtain ⟨y2, hst⟩ : ∃ Y, (y1.alloc (.cells #[.int .i64 0, .string ⟨#[]⟩, .int .i64 0, .int .i64 0, .int .i64 0, .int .i64 0, .nilFunc, .int .i64 0, .nilFunc] 52)).setRow y1.heap.size #[.int .i64 n0, .string nm, .int .i64 vl, .int .i64 vh, .int .i64 al, .int .i64 ah, F, .int .i64 lo, M] = Y := ⟨_, rfl⟩
  have R : Row y2 y1.heap.size 52 #[.int .i64 n0, .string nm, .int .i64 vl, .int .i64 vh, .int .i64 al, .int .i64 ah, F, .int .i64 lo, M] := by rw [← hst]; exact (Row.new y1 52 #[.int .i64 0, .string ⟨#[]⟩, .int .i64 0, .int .i64 0, .int .i64 0, .int .i64 0, .nilFunc, .int .i64 0, .nilFunc]).setRow
  have hs01 : Below y1.heap.size y1 y2 := by rw [← hst]; exact below_setRow ((Below.refl _ _).alloc (Nat.le_refl _) _) (Nat.le_refl _)
  have b2 : Below w.heap.size w y2 := hy.trans (hs01.mono hy.size)
  have z0 := R.cell 0
  have z1 := R.cell 1
  have z2 := R.cell 2
  have z3 := R.cell 3
  have z4 := R.cell 4
  have z5 := R.cell 5
  have z6 := R.cell 6
  have z7 := R.cell 7
  have z8 := R.cell 8
  have hcc : (okb && hasB vl vh v) = c := by rw [← HC.out, ← HOK.out, ← HVL.out, ← HVH.out]; rfl
  cases okb with
  | false =>
    obtain rfl : c = false := by rw [← hcc]; rfl
    clear hcc
    go_wp2_with (refine wpList_store_row rfl 52 _ _ rfl y1.heap.size #[.int .i64 n0, .string nm, .int .i64 vl, .int .i64 vh, .int .i64 al, .int .i64 ah, F, .int .i64 lo, M] (by rfl) (by rfl) 52 #[.int .i64 0, .string ⟨#[]⟩, .int .i64 0, .int .i64 0, .int .i64 0, .int .i64 0, .nilFunc, .int .i64 0, .nilFunc] (Row.new _ _ _) (by kernel_rfl) rfl HO3.out ?_; rw [hst])
    go_ret
    exact ⟨rfl, b2⟩
  | true =>
    obtain rfl : hasB vl vh v = c := by rw [← hcc]; rfl
    clear hcc
    go_wp2_with (refine wpList_store_row rfl 52 _ _ rfl y1.heap.size #[.int .i64 n0, .string nm, .int .i64 vl, .int .i64 vh, .int .i64 al, .int .i64 ah, F, .int .i64 lo, M] (by rfl) (by rfl) 52 #[.int .i64 0, .string ⟨#[]⟩, .int .i64 0, .int .i64 0, .int .i64 0, .int .i64 0, .nilFunc, .int .i64 0, .nilFunc] (Row.new _ _ _) (by kernel_rfl) rfl HO3.out ?_; rw [hst])
    refine (has_any vl vh v _).mono ?_
    rintro e y3 ⟨rfl, hy3⟩
    go_wp2_with fail
    go_ret
    exact ⟨rfl, b2.trans (hy3.mono b2.size)⟩
set_option maxRecDepth 100000 in
set_option maxHeartbeats 4000000 in
theorem arity_any (o : Int) (w : World) : Calls Try.prog 15 #[.int .i64 o] w fun e w' => e = .returned (.tuple #[.int .i64 (rowO o).al, .int .i64 (rowO o).ah]) ∧ Below w.heap.size w w' := by
  obtain ⟨na, hna⟩ : ∃ b, (rowO o).al = b := ⟨_, rfl⟩
  obtain ⟨nb, hnb⟩ : ∃ b, (rowO o).ah = b := ⟨_, rfl⟩
  rw [hna, hnb]
  have HNA := Lib.hid hna
  have HNB := Lib.hid hnb
  clear hna hnb
  go_enter Try.func15, Try.ntmps15
  go_wp2_with fail
  refine (rowOf_any o _).mono ?_
  rintro e y1 ⟨r, rfl, hr, hy⟩
  obtain ⟨n0, F, M, rfl, hF, hM, hin⟩ := id hr
  have HONE := Lib.hid (rowIs_one (n0 := n0) (nm := (rowO o).name) (vl := (rowO o).vl) (vh := (rowO o).vh) (al := (rowO o).al) (ah := (rowO o).ah) (lo := (rowO o).lo) hF hM)
  have HR := Lib.hid hr
  clear hr hin
  obtain ⟨nm, hnm⟩ : ∃ s, (rowO o).name = s := ⟨_, rfl⟩
  obtain ⟨vl, hvl⟩ : ∃ s, (rowO o).vl = s := ⟨_, rfl⟩
  obtain ⟨vh, hvh⟩ : ∃ s, (rowO o).vh = s := ⟨_, rfl⟩
  obtain ⟨al, hal⟩ : ∃ s, (rowO o).al = s := ⟨_, rfl⟩
  obtain ⟨ah, hah⟩ : ∃ s, (rowO o).ah = s := ⟨_, rfl⟩
  obtain ⟨lo, hlo⟩ : ∃ s, (rowO o).lo = s := ⟨_, rfl⟩
  have HNM := Lib.hid hnm
  have HVL := Lib.hid hvl
  have HVH := Lib.hid hvh
  have HAL := Lib.hid hal
  have HAH := Lib.hid hah
  have HLO := Lib.hid hlo
  have HO2 := HONE.out
  have HRR := HR.out
  rw [hnm, hvl, hvh, hal, hah, hlo] at HO2 HRR
  rw [hnm, hvl, hvh, hal, hah, hlo]
  have HO3 := Lib.hid HO2
  have HR3 := Lib.hid HRR
  clear HO2 HRR hnm hvl hvh hal hah hlo
  obtain ⟨y2, hst⟩ : ∃ Y, (y1.alloc (.cells #[.int .i64 0, .string ⟨#[]⟩, .int .i64 0, .int .i64 0, .int .i64 0, .int .i64 0, .nilFunc, .int .i64 0, .nilFunc] 52)).setRow y1.heap.size #[.int .i64 n0, .string nm, .int .i64 vl, .int .i64 vh, .int .i64 al, .int .i64 ah, F, .int .i64 lo, M] = Y := ⟨_, rfl⟩
  have R : Row y2 y1.heap.size 52 #[.int .i64 n0, .string nm, .int .i64 vl, .int .i64 vh, .int .i64 al, .int .i64 ah, F, .int .i64 lo, M] := by rw [← hst]; exact (Row.new y1 52 #[.int .i64 0, .string ⟨#[]⟩, .int .i64 0, .int .i64 0, .int .i64 0, .int .i64 0, .nilFunc, .int .i64 0, .nilFunc]).setRow
  have hs01 : Below y1.heap.size y1 y2 := by rw [← hst]; exact below_setRow ((Below.refl _ _).alloc (Nat.le_refl _) _) (Nat.le_refl _)
  have b2 : Below w.heap.size w y2 := hy.trans (hs01.mono hy.size)
  have z0 := R.cell 0
  have z1 := R.cell 1
  have z2 := R.cell 2
  have z3 := R.cell 3
  have z4 := R.cell 4
  have z5 := R.cell 5
  have z6 := R.cell 6
  have z7 := R.cell 7
  have z8 := R.cell 8
  obtain rfl : al = na := by rw [← HAL.out, HNA.out]
  obtain rfl : ah = nb := by rw [← HAH.out, HNB.out]
  go_wp2_with (refine wpList_store_row rfl 52 _ _ rfl y1.heap.size #[.int .i64 n0, .string nm, .int .i64 vl, .int .i64 vh, .int .i64 al, .int .i64 ah, F, .int .i64 lo, M] (by rfl) (by rfl) 52 #[.int .i64 0, .string ⟨#[]⟩, .int .i64 0, .int .i64 0, .int .i64 0, .int .i64 0, .nilFunc, .int .i64 0, .nilFunc] (Row.new _ _ _) (by kernel_rfl) rfl HO3.out ?_; rw [hst])
  go_quiet (fail)
  go_wp2_with fail
  go_ret2
  exact ⟨rfl, below_drewN11 b2 _⟩
/-- which operation has a name, or that none has -/
def OfIs (s : ByteArray) (c e : Int) : Prop := (∃ k : Nat, k < 20 ∧ ((rowO ((k : Int) + 1)).name.toList == s.toList) = true ∧ c = (k : Int) + 1 ∧ e = 0) ∨ ((∀ k : Nat, k < 20 → ((rowO ((k : Int) + 1)).name.toList == s.toList) = false) ∧ c = 0 ∧ e = 22)
theorem names_differ {k j : Nat} (hk : k < 20) (hj : j < 20) (h : (rowO ((k : Int) + 1)).name.toList = (rowO ((j : Int) + 1)).name.toList) : k = j := by
  revert h
  exact (by decide +kernel : ∀ k : Nat, k < 20 → ∀ j : Nat, j < 20 → (rowO ((k : Int) + 1)).name.toList = (rowO ((j : Int) + 1)).name.toList → k = j) k hk j hj
theorem OfIs.one {s : ByteArray} {c e c' e' : Int} (h : OfIs s c e) (h' : OfIs s c' e') : c = c' ∧ e = e' := by
  rcases h with ⟨k, hk, h1, rfl, rfl⟩ | ⟨h1, rfl, rfl⟩
  · rcases h' with ⟨j, hj, h2, rfl, rfl⟩ | ⟨h2, rfl, rfl⟩
    · have e1 := eq_of_beq h1
      have e2 := eq_of_beq h2
      obtain rfl := names_differ hk hj (e1.trans e2.symm)
      exact ⟨rfl, rfl⟩
    · rw [h2 k hk] at h1; cases h1
  · rcases h' with ⟨j, hj, h2, rfl, rfl⟩ | ⟨h2, rfl, rfl⟩
    · rw [h1 j hj] at h2; cases h2
    · exact ⟨rfl, rfl⟩
set_option maxRecDepth 100000 in
set_option maxHeartbeats 4000000 in
theorem of1_any {w : World} {k g : Nat} {G M : Value} {s : ByteArray} (R : Row w g 9 #[.string s]) :
    Calls Try.prog 25 #[.agg (rowC k G M), .pointer (some ⟨g, 0, none⟩)] w fun e w' => e = .returned (.bool ((rowO ((k : Int) + 1)).name.toList == s.toList)) ∧ Below w.heap.size w w' := by
  obtain ⟨n0, s1, n2, n3, n4, n5, n7, hn, hv⟩ : ∃ (n0 : Int) (s1 : ByteArray) (n2 n3 n4 n5 n7 : Int), (rowO ((k : Int) + 1)).name = s1 ∧ rowC k G M = #[.int .i64 n0, .string s1, .int .i64 n2, .int .i64 n3, .int .i64 n4, .int .i64 n5, G, .int .i64 n7, M] := ⟨_, _, _, _, _, _, _, rfl, rfl⟩
  rw [hn, hv]
  obtain ⟨t, ht⟩ : ∃ t, (s1.toList == s.toList) = t := ⟨_, rfl⟩
  rw [ht]
  obtain ⟨W, hW⟩ : ∃ W, w.alloc (.cells #[.int .i64 n0, .string s1, .int .i64 n2, .int .i64 n3, .int .i64 n4, .int .i64 n5, G, .int .i64 n7, M] 52) = W := ⟨_, rfl⟩
  have R0 : Row W w.heap.size 52 #[.int .i64 n0, .string s1, .int .i64 n2, .int .i64 n3, .int .i64 n4, .int .i64 n5, G, .int .i64 n7, M] := by rw [← hW]; exact Row.new _ _ _
  have hb : Below w.heap.size w W := by rw [← hW]; exact (Below.refl _ _).alloc (Nat.le_refl _) _
  have c1 := R0.cell 1
  have d0 := (R.later hb).cell 0
  clear hn hv R R0
  go_enter Try.func25, Try.ntmps25
  (try rw [hW])
  go_wp2_with fail
  go_ret
  refine ⟨?_, hb⟩
  first | rfl | (congr 1)
set_option maxRecDepth 100000 in
set_option maxHeartbeats 4000000 in
theorem of_any (s : ByteArray) (w : World) : Calls Try.prog 9 #[.string s] w fun e w' => ∃ c d : Int, e = .returned (.tuple #[.int .i64 c, .int .i64 d]) ∧ OfIs s c d ∧ Below w.heap.size w w' := by
  obtain ⟨W, hW⟩ : ∃ W, w.alloc (.cells #[.string s] 9) = W := ⟨_, rfl⟩
  have R0 : Row W w.heap.size 9 #[.string s] := by rw [← hW]; exact Row.new _ _ _
  have hbW : Below w.heap.size w W := by rw [← hW]; exact (Below.refl _ _).alloc (Nat.le_refl _) _
  go_enter Try.func9, Try.ntmps9
  (try rw [hW])
  go_wp2_with fail
  (try rw [hW])
  clear hW
  refine (find_any (F := 25) (cap := #[.pointer (some ⟨w.heap.size, 0, none⟩)]) (p := fun k => ((rowO ((k : Int) + 1)).name.toList == s.toList)) (fun args w => enters_of Try.func25 (by kernel_rfl) rfl args w) (fun X k G M hk hX => of1_any (R0.later hX))).mono ?_
  rintro e y1 ⟨r, ok, rfl, hf, hy⟩
  have b1 : Below w.heap.size w y1 := hbW.trans (hy.mono hbW.size)
  clear hy
  rcases hf with ⟨rfl, k, F, M, hk, hp, rfl, hM, hF, _⟩ | ⟨rfl, hno, rfl⟩
  · have HP := Lib.hid hp
    have hone := rowC_one (k := k) hF.one hM
    clear hp hF
    obtain ⟨n0, nm, vl, vh, al, ah, lo, hn0, hv⟩ : ∃ (n0 : Int) (nm : ByteArray) (vl vh al ah lo : Int), (k : Int) + 1 = n0 ∧ rowC k F M = #[.int .i64 n0, .string nm, .int .i64 vl, .int .i64 vh, .int .i64 al, .int .i64 ah, F, .int .i64 lo, M] := ⟨_, _, _, _, _, _, _, rfl, rfl⟩
    rw [hv] at hone ⊢
    clear hv
    have HN0 := Lib.hid hn0
    clear hn0
    have HO3 := Lib.hid hone
    clear hone
    obtain ⟨y2, hst⟩ : ∃ Y, (y1.alloc (.cells #[.int .i64 0, .string ⟨#[]⟩, .int .i64 0, .int .i64 0, .int .i64 0, .int .i64 0, .nilFunc, .int .i64 0, .nilFunc] 52)).setRow y1.heap.size #[.int .i64 n0, .string nm, .int .i64 vl, .int .i64 vh, .int .i64 al, .int .i64 ah, F, .int .i64 lo, M] = Y := ⟨_, rfl⟩
    have R : Row y2 y1.heap.size 52 #[.int .i64 n0, .string nm, .int .i64 vl, .int .i64 vh, .int .i64 al, .int .i64 ah, F, .int .i64 lo, M] := by rw [← hst]; exact (Row.new y1 52 #[.int .i64 0, .string ⟨#[]⟩, .int .i64 0, .int .i64 0, .int .i64 0, .int .i64 0, .nilFunc, .int .i64 0, .nilFunc]).setRow
    have hs01 : Below y1.heap.size y1 y2 := by rw [← hst]; exact below_setRow ((Below.refl _ _).alloc (Nat.le_refl _) _) (Nat.le_refl _)
    have b2 : Below w.heap.size w y2 := b1.trans (hs01.mono b1.size)
    have z0 := R.cell 0
    have z1 := R.cell 1
    have z2 := R.cell 2
    have z3 := R.cell 3
    have z4 := R.cell 4
    have z5 := R.cell 5
    have z6 := R.cell 6
    have z7 := R.cell 7
    have z8 := R.cell 8
    go_wp2_with (refine wpList_store_row rfl 52 _ _ rfl y1.heap.size #[.int .i64 n0, .string nm, .int .i64 vl, .int .i64 vh, .int .i64 al, .int .i64 ah, F, .int .i64 lo, M] (by rfl) (by rfl) 52 #[.int .i64 0, .string ⟨#[]⟩, .int .i64 0, .int .i64 0, .int .i64 0, .int .i64 0, .nilFunc, .int .i64 0, .nilFunc] (Row.new _ _ _) (by kernel_rfl) rfl HO3.out ?_; rw [hst])
    go_ret2
    refine ⟨_, _, rfl, .inl ⟨k, hk, HP.out, HN0.out.symm, rfl⟩, b2⟩
  · have HNO := Lib.hid hno
    clear hno
    have hone : zeroC.all (·.oneCell') = true := by kernel_rfl
    obtain ⟨F, M, hFM⟩ : ∃ F M : Value, F = .nilFunc ∧ M = .nilFunc := ⟨_, _, rfl, rfl⟩
    have hz : zeroC = #[.int .i64 0, .string ⟨#[]⟩, .int .i64 0, .int .i64 0, .int .i64 0, .int .i64 0, F, .int .i64 0, M] := by rw [hFM.1, hFM.2]; rfl
    rw [hz] at hone ⊢
    clear hz hFM
    obtain ⟨n0, nm, vl, vh, al, ah, lo, hn0, hv⟩ : ∃ (n0 : Int) (nm : ByteArray) (vl vh al ah lo : Int), n0 = 0 ∧ (#[.int .i64 0, .string ⟨#[]⟩, .int .i64 0, .int .i64 0, .int .i64 0, .int .i64 0, F, .int .i64 0, M] : Array Value) = #[.int .i64 n0, .string nm, .int .i64 vl, .int .i64 vh, .int .i64 al, .int .i64 ah, F, .int .i64 lo, M] := ⟨_, _, _, _, _, _, _, rfl, rfl⟩
    rw [hv] at hone ⊢
    clear hv
    have HN0 := Lib.hid hn0
    clear hn0
    have HO3 := Lib.hid hone
    clear hone
    obtain ⟨y2, hst⟩ : ∃ Y, (y1.alloc (.cells #[.int .i64 0, .string ⟨#[]⟩, .int .i64 0, .int .i64 0, .int .i64 0, .int .i64 0, .nilFunc, .int .i64 0, .nilFunc] 52)).setRow y1.heap.size #[.int .i64 n0, .string nm, .int .i64 vl, .int .i64 vh, .int .i64 al, .int .i64 ah, F, .int .i64 lo, M] = Y := ⟨_, rfl⟩
    have R : Row y2 y1.heap.size 52 #[.int .i64 n0, .string nm, .int .i64 vl, .int .i64 vh, .int .i64 al, .int .i64 ah, F, .int .i64 lo, M] := by rw [← hst]; exact (Row.new y1 52 #[.int .i64 0, .string ⟨#[]⟩, .int .i64 0, .int .i64 0, .int .i64 0, .int .i64 0, .nilFunc, .int .i64 0, .nilFunc]).setRow
    have hs01 : Below y1.heap.size y1 y2 := by rw [← hst]; exact below_setRow ((Below.refl _ _).alloc (Nat.le_refl _) _) (Nat.le_refl _)
    have b2 : Below w.heap.size w y2 := b1.trans (hs01.mono b1.size)
    have z0 := R.cell 0
    have z1 := R.cell 1
    have z2 := R.cell 2
    have z3 := R.cell 3
    have z4 := R.cell 4
    have z5 := R.cell 5
    have z6 := R.cell 6
    have z7 := R.cell 7
    have z8 := R.cell 8
    go_wp2_with (refine wpList_store_row rfl 52 _ _ rfl y1.heap.size #[.int .i64 n0, .string nm, .int .i64 vl, .int .i64 vh, .int .i64 al, .int .i64 ah, F, .int .i64 lo, M] (by rfl) (by rfl) 52 #[.int .i64 0, .string ⟨#[]⟩, .int .i64 0, .int .i64 0, .int .i64 0, .int .i64 0, .nilFunc, .int .i64 0, .nilFunc] (Row.new _ _ _) (by kernel_rfl) rfl HO3.out ?_; rw [hst])
    go_ret2
    refine ⟨_, _, rfl, .inr ⟨HNO.out, rfl, rfl⟩, b2⟩
set_option maxRecDepth 100000 in
set_option maxHeartbeats 4000000 in
theorem leaves_any {n0 : Int} {nm : ByteArray} {vl vh al ah lo : Int} {F M : Value} {a : Option Addr} {n ca : Nat} (v : Int) (w : World) : Calls Try.prog 33 #[.agg #[.int .i64 n0, .string nm, .int .i64 vl, .int .i64 vh, .int .i64 al, .int .i64 ah, F, .int .i64 lo, M], .int .i64 v, .slice a n ca] w fun e w' => e = .returned (.bool (decide (n = 0 ∧ v ≤ lo))) ∧ Below w.heap.size w w' := by
  obtain ⟨c, hc⟩ : ∃ c, decide (n = 0 ∧ v ≤ lo) = c := ⟨_, rfl⟩
  rw [hc]
  obtain ⟨W, hW⟩ : ∃ W, w.alloc (.cells #[.int .i64 n0, .string nm, .int .i64 vl, .int .i64 vh, .int .i64 al, .int .i64 ah, F, .int .i64 lo, M] 52) = W := ⟨_, rfl⟩
  have R0 : Row W w.heap.size 52 #[.int .i64 n0, .string nm, .int .i64 vl, .int .i64 vh, .int .i64 al, .int .i64 ah, F, .int .i64 lo, M] := by rw [← hW]; exact Row.new _ _ _
  have hb : Below w.heap.size w W := by rw [← hW]; exact (Below.refl _ _).alloc (Nat.le_refl _) _
  have c5 := R0.cell 7
  clear R0
  by_cases h0 : n = 0
  · subst h0
    by_cases h1 : v ≤ lo
    · obtain rfl : c = true := by rw [← hc]; exact decide_eq_true ⟨rfl, h1⟩
      clear hc
      go_enter Try.func33, Try.ntmps33
      (try rw [hW])
      go_wp2_with fail
      go_ret
      exact ⟨rfl, hb⟩
    · obtain rfl : c = false := by rw [← hc]; exact decide_eq_false (fun h => h1 h.2)
      clear hc
      go_enter Try.func33, Try.ntmps33
      (try rw [hW])
      go_wp2_with fail
      go_ret
      exact ⟨rfl, hb⟩
  · have h0I : ((n : Int) == 0) = false := by simp; omega
    obtain rfl : c = false := by rw [← hc]; exact decide_eq_false (fun h => h0 h.1)
    clear hc
    go_enter Try.func33, Try.ntmps33
    (try rw [hW])
    go_wp2_with fail
    go_ret
    exact ⟨rfl, hb⟩
set_option maxRecDepth 100000 in
set_option maxHeartbeats 4000000 in
theorem takes1_any {w : World} {g : Nat} (x : Int) (R : Row w g 48 #[.int .i64 (-2147483647), .int .i64 2147483647]) : Calls Try.prog 55 #[.int .i64 x, .pointer (some ⟨g, 0, none⟩)] w fun e w' => e = .returned (.bool (!(decide (-2147483647 ≤ x ∧ x ≤ 2147483647)))) ∧ Below w.heap.size w w' := by
  obtain ⟨c0, c1, _, _⟩ := R.two
  go_enter Try.func55, Try.ntmps55
  go_wp2_with fail
  refine (has_any _ _ x _).mono ?_
  rintro e y1 ⟨rfl, hy⟩
  obtain ⟨t, ht⟩ : ∃ t, hasB (-2147483647) 2147483647 x = t := ⟨_, rfl⟩
  have ht2 : decide (-2147483647 ≤ x ∧ x ≤ 2147483647) = t := ht
  rw [ht]
  go_wp2_with fail
  go_ret
  refine ⟨?_, hy⟩
  rw [ht2]
  try rfl
set_option maxRecDepth 100000 in
set_option maxHeartbeats 4000000 in
theorem indexI_any {F : Nat} {cap : Array Value} {q : Int → Bool} {u : Value} {xs : List Int} {a : Option Addr} {ca : Nat} {w : World} (A : ArgS w u xs a ca) (hx : xs.length ≤ 17592186044416) (heF : ∀ args w, (callFunc F args).run Try.prog w = .ok (.enter F args) w)
    (hdo : ∀ W x, Below w.heap.size w W → Calls Try.prog F (#[.int .i64 x] ++ cap) W fun e w' => e = .returned (.bool (q x)) ∧ Below W.heap.size W w') :
    Calls Try.prog 64 #[u, .func (.func F) #[] cap] w fun e w' => ∃ i : Int, e = .returned (.int .i64 i) ∧ decide (i ≥ 0) = xs.any q ∧ Below w.heap.size w w' := by
  have HA := Lib.hid A
  have HDO := Lib.hid hdo
  obtain rfl := A.is
  obtain ⟨L, hL⟩ : ∃ L, xs.length = L := ⟨_, rfl⟩
  have HL := Lib.hid hL
  rw [hL] at hx ⊢
  clear A hdo hL
  go_enter Try.func64, Try.ntmps64
  go_wp2_with fail
  go_loopw [5, 8] (fun _ i wr => ∃ k : Nat, i = .int .i64 (k : Int) ∧ k ≤ L ∧ (∀ j, j < k → q (xs.getD j 0) = false) ∧ Below w.heap.size w wr) (fun _ i _ => L - (intOf i).toNat)
  case atStart => exact ⟨0, rfl, by omega, fun j hj => by omega, Below.refl _ _⟩
  case round =>
    obtain ⟨k, rfl, hk, hall, hb⟩ := hrel
    have HALL := Lib.hid hall
    clear hall
    by_cases hlt : k < L
    · have hltI : (k : Int) < (L : Int) := by omega
      obtain ⟨b1, o1, rfl, c1⟩ := (HA.out.later hb).at (i := k) (by rw [HL.out]; exact hlt)
      have hmem : xs.getD k 0 ∈ xs := by
        rw [List.getD_eq_getElem?_getD, List.getElem?_eq_getElem (by rw [HL.out]; exact hlt)]
        exact List.getElem_mem _
      obtain ⟨x, hxe⟩ : ∃ x, xs.getD k 0 = x := ⟨_, rfl⟩
      rw [hxe] at c1 hmem
      have HME := Lib.hid hmem
      have HXE := Lib.hid hxe
      have hcall := HDO.out wr x hb
      obtain ⟨t, ht⟩ : ∃ t, q x = t := ⟨_, rfl⟩
      rw [ht] at hcall
      have HTT := Lib.hid ht
      clear ht hxe hmem
      go_wp2_with fail
      refine hcall.mono ?_
      rintro e y1 ⟨rfl, hy⟩
      cases t with
      | true =>
        go_wp2_with fail
        go_ret
        refine ⟨_, rfl, ?_, hb.trans (hy.mono hb.size)⟩
        rw [List.any_eq_true.2 ⟨x, HME.out, HTT.out⟩]
        exact decide_eq_true (by omega)
      | false =>
        go_wp2_with fail
        go_roundw
        case rel =>
          refine ⟨k + 1, by go_num, by omega, fun j hj => ?_, hb.trans (hy.mono hb.size)⟩
          by_cases hjk : j < k
          · exact HALL.out j hjk
          · obtain rfl : j = k := by omega
            rw [HXE.out]
            exact HTT.out
        case measure => simp [intOf]; omega
    · obtain rfl : k = L := by omega
      have hltI : ¬ (k : Int) < (k : Int) := by omega
      go_wp2_with fail
      go_ret
      refine ⟨_, rfl, ?_, hb⟩
      have hany : xs.any q = false := by
        rw [List.any_eq_false]
        intro x hxm
        obtain ⟨j, hj, he⟩ := List.mem_iff_getElem.1 hxm
        have h := HALL.out j (by rw [← HL.out]; exact hj)
        rw [List.getD_eq_getElem?_getD, List.getElem?_eq_getElem hj] at h
        rw [← he]
        simpa using h
      rw [hany]
      rfl
set_option maxRecDepth 100000 in
set_option maxHeartbeats 4000000 in
theorem containsI_any {F : Nat} {cap : Array Value} {q : Int → Bool} {u : Value} {xs : List Int} {a : Option Addr} {ca : Nat} {w : World} (A : ArgS w u xs a ca) (hx : xs.length ≤ 17592186044416) (heF : ∀ args w, (callFunc F args).run Try.prog w = .ok (.enter F args) w)
    (hdo : ∀ W x, Below w.heap.size w W → Calls Try.prog F (#[.int .i64 x] ++ cap) W fun e w' => e = .returned (.bool (q x)) ∧ Below W.heap.size W w') :
    Calls Try.prog 56 #[u, .func (.func F) #[] cap] w fun e w' => e = .returned (.bool (xs.any q)) ∧ Below w.heap.size w w' := by
  have hi := indexI_any A hx heF hdo
  obtain rfl := A.is
  obtain ⟨t, ht⟩ : ∃ t, xs.any q = t := ⟨_, rfl⟩
  rw [ht] at hi ⊢
  go_enter Try.func56, Try.ntmps56
  go_wp2_with fail
  refine hi.mono ?_
  rintro e y1 ⟨i, rfl, hd, hy⟩
  subst hd
  go_wp2_with fail
  go_ret
  exact ⟨rfl, hy⟩
set_option maxRecDepth 100000 in
set_option maxHeartbeats 4000000 in
theorem takes_any {B : Nat} {P : List Int → Bool} {n0 : Int} {nm : ByteArray} {vl vh al ah lo : Int} {F M : Value} {u : Value} {xs : List Int} {a : Option Addr} {ca : Nat} {w : World} (A : ArgS w u xs a ca) (na : a = none → ca = 0) (hx : xs.length ≤ 17592186044416) (hF : FitV B w F P) (hB : B ≤ w.heap.size) :
    Calls Try.prog 40 #[.agg #[.int .i64 n0, .string nm, .int .i64 vl, .int .i64 vh, .int .i64 al, .int .i64 ah, F, .int .i64 lo, M], u] w fun e w' => e = .returned (.bool (bndB xs && P xs)) ∧ Below w.heap.size w w' := by
  have HA := Lib.hid A
  have HFF := Lib.hid hF
  obtain ⟨F1, cap1, rfl, heF, hcF⟩ := id hF
  have HCF := Lib.hid hcF
  obtain rfl := A.is
  obtain ⟨t, ht⟩ : ∃ t, xs.any (fun x => !(decide (-2147483647 ≤ x ∧ x ≤ 2147483647))) = t := ⟨_, rfl⟩
  have htb : bndB xs = !t := by
    rw [← ht]
    unfold bndB
    rw [List.all_eq_not_any_not]
  have hbd : t = false → ∀ x ∈ xs, -2147483647 ≤ x ∧ x ≤ 2147483647 := fun h x hxm => by
    rw [h] at htb
    exact of_decide_eq_true (List.all_eq_true.1 htb x hxm)
  have HT := Lib.hid ht
  have HBD := Lib.hid hbd
  rw [htb]
  obtain ⟨W, hW⟩ : ∃ W, ((w.alloc (.cells #[.int .i64 n0, .string nm, .int .i64 vl, .int .i64 vh, .int .i64 al, .int .i64 ah, .func (.func F1) #[] cap1, .int .i64 lo, M] 52)).alloc (.cells #[.int .i64 (-2147483647), .int .i64 2147483647] 48)) = W := ⟨_, rfl⟩
  have R0 : Row W w.heap.size 52 #[.int .i64 n0, .string nm, .int .i64 vl, .int .i64 vh, .int .i64 al, .int .i64 ah, .func (.func F1) #[] cap1, .int .i64 lo, M] := by rw [← hW]; exact (Row.new _ _ _).alloc _
  have R1 : Row W (w.heap.size + 1) 48 #[.int .i64 (-2147483647), .int .i64 2147483647] := by rw [← hW]; have h := Row.new (w.alloc (.cells #[.int .i64 n0, .string nm, .int .i64 vl, .int .i64 vh, .int .i64 al, .int .i64 ah, .func (.func F1) #[] cap1, .int .i64 lo, M] 52)) 48 #[.int .i64 (-2147483647), .int .i64 2147483647]; (try simp only [World.size_alloc] at h); exact h
  have hbW : Below w.heap.size w W := by rw [← hW]; exact ((Below.refl _ _).alloc (by (try simp) <;> omega) _).alloc (by (try simp) <;> omega) _
  have hcon := containsI_any (w := W) (F := 55) (cap := #[.pointer (some ⟨w.heap.size + 1, 0, none⟩)]) (q := fun x => !(decide (-2147483647 ≤ x ∧ x ≤ 2147483647))) (HA.out.later hbW) hx (fun args w => enters_of Try.func55 (by kernel_rfl) rfl args w) (fun X x hX => takes1_any x (R1.later hX))
  rw [ht] at hcon
  have HCON := Lib.hid hcon
  clear hcF ht htb hbd hF A R1 hcon
  go_enter Try.func40, Try.ntmps40
  (try rw [hW])
  go_wp2_with fail
  (try rw [hW])
  clear hW
  refine (HCON.out).mono ?_
  rintro e y1 ⟨rfl, hy⟩
  have b1 : Below w.heap.size w y1 := hbW.trans (hy.mono hbW.size)
  have c6 := (R0.later hy).cell 6
  cases t with
  | true =>
    go_wp2_with fail
    go_ret
    exact ⟨rfl, b1⟩
  | false =>
    go_wp2_with fail
    refine (HCF.out y1 _ xs a ca (From.of b1) (HA.out.later b1) na hx (HBD.out (by first | rfl | trivial))).mono ?_
    rintro e y2 ⟨rfl, hy2⟩
    go_wp2_with fail
    go_ret
    refine ⟨?_, b1.trans (hy2.mono b1.size)⟩
    simp
end
section
open Go.RowKit
set_option linter.unusedVariables false
set_option linter.unusedSimpArgs false
theorem infoStr : (Try.prog.info? 9).map (fun i => (i.zero, i.size, i.bytes)) = some (some (.string ⟨#[]⟩), 1, 16) := by kernel_rfl
set_option maxRecDepth 100000 in
set_option maxHeartbeats 4000000 in
theorem namesR_any (w : World) : Calls Try.prog 26 #[] w fun e w' => ∃ b, e = .returned (.slice (some ⟨b, 0, none⟩) 21 21) ∧ (∀ k : Nat, k ≤ 20 → w'.cell? ⟨b, k, none⟩ = some (.string (opsO.getD k noO).name)) ∧ Below w.heap.size w w' := by
  obtain ⟨ie, hie, hz0, hz1, hz2⟩ := info_parts infoStr
  obtain ⟨r, hr, hrs, hrk⟩ := Great.fill_dense (s := 1) (by omega) ((List.range 21).map fun k : Nat => Value.string (opsO.getD k noO).name) 0 ((Array.range (21 * 1)).map ((Value.string ⟨#[]⟩).cells[· % (Value.string ⟨#[]⟩).cells.size]!))
    (fun v hv => by obtain ⟨k, _, rfl⟩ := List.mem_map.1 hv; rfl) (by simp)
  go_enter Try.func26, Try.ntmps26
  go_wp2_with (refine wpList_buildSlice rfl 56 9 21 _ rfl r ie _ Try.underlying56 hie hz0 (by rw [hz1]; decide) (by rw [hz1]; decide) (by rw [hz1]; refine Eq.trans ?_ hr; kernel_rfl) ?_)
  go_ret
  refine ⟨w.heap.size, rfl, fun k hk => ?_, (Below.refl _ _).alloc (Nat.le_refl _) _⟩
  rw [(Row.new w 9 r).cell k, hrk, if_pos (by simp; omega), show k / 1 - 0 = k by omega, show k % 1 = 0 by omega, List.getElem?_map, List.getElem?_range (by omega)]
  rfl
set_option maxRecDepth 100000 in
set_option maxHeartbeats 4000000 in
theorem nameR_any (o : Int) (w : World) : Calls Try.prog 12 #[.int .i64 o] w fun e w' => e = .returned (.string (rowO o).name) ∧ Below w.heap.size w w' := by
  obtain ⟨s, hs⟩ : ∃ s, (rowO o).name = s := ⟨_, rfl⟩
  rw [hs]
  have HS := Lib.hid hs
  clear hs
  have hempty : inO o = false → s = ⟨#[]⟩ := fun h => by rw [← HS.out, rowO_out h]; rfl
  have HEM := Lib.hid hempty
  clear hempty
  by_cases h1 : o < 1
  · obtain rfl := HEM.out (decide_eq_false (by omega))
    go_enter Try.func12, Try.ntmps12
    go_wp2_with fail
    go_ret
    exact ⟨rfl, Below.refl _ _⟩
  · by_cases h2 : o > 20
    · obtain rfl := HEM.out (decide_eq_false (by omega))
      go_enter Try.func12, Try.ntmps12
      go_wp2_with fail
      go_ret
      exact ⟨rfl, Below.refl _ _⟩
    · obtain ⟨n, hn⟩ : ∃ n : Nat, o = (n : Int) := ⟨o.toNat, by omega⟩
      subst hn
      have hnn : s = (opsO.getD n noO).name := by
        rw [← HS.out]
        have hi : inO (n : Int) = true := decide_eq_true ⟨by omega, by omega⟩
        unfold rowO
        rw [if_pos hi]
        rfl
      have HNN := Lib.hid hnn
      clear hnn
      have h0 : (0 : Int) ≤ (n : Int) := by omega
      have h21 : (n : Int) < 21 := by omega
      go_enter Try.func12, Try.ntmps12
      go_wp2_with fail
      refine (namesR_any _).mono ?_
      rintro e y1 ⟨b, rfl, hc, hy⟩
      have hk := hc n (by omega)
      rw [← HNN.out] at hk
      clear hc
      go_wp2_with fail
      go_ret
      exact ⟨rfl, hy⟩
set_option maxRecDepth 100000 in
set_option maxHeartbeats 4000000 in
theorem ofR_any (s : ByteArray) (w : World) : Calls Try.prog 10 #[.string s] w fun e w' => ∃ c d : Int, e = .returned (.tuple #[.int .i64 c, .int .i64 d]) ∧ OfIs s c d ∧ Below w.heap.size w w' := by
  go_enter Try.func10, Try.ntmps10
  go_wp2_with fail
  go_loopw [4] (fun i wr => ∃ k : Nat, i = .int .i64 (k : Int) ∧ 1 ≤ k ∧ k ≤ 21 ∧ (∀ j : Nat, j + 1 < k → ((rowO ((j : Int) + 1)).name.toList == s.toList) = false) ∧ Below w.heap.size w wr) (fun i _ => 21 - (intOf i).toNat)
  case atStart => exact ⟨1, rfl, by omega, by omega, fun j hj => by omega, Below.refl _ _⟩
  case round =>
    obtain ⟨k, rfl, hk1, hk, hall, hb⟩ := hrel
    have HALL := Lib.hid hall
    clear hall
    by_cases hlt : k ≤ 20
    · have hltI : (k : Int) ≤ 20 := by omega
      have hk0 : (0 : Int) ≤ (k : Int) := by omega
      have hk21 : (k : Int) < 21 := by omega
      obtain ⟨m, hm⟩ : ∃ m, m + 1 = k := ⟨k - 1, by omega⟩
      have HM := Lib.hid hm
      clear hm
      obtain ⟨nm, hnm⟩ : ∃ nm, (opsO.getD k noO).name = nm := ⟨_, rfl⟩
      have hname : (rowO ((m : Int) + 1)).name = nm := by rw [(rowO_nat (k := m) (by have := HM.out; omega)).2, HM.out, hnm]
      have HNM := Lib.hid hnm
      have HNA := Lib.hid hname
      obtain ⟨t, ht⟩ : ∃ t, (nm.toList == s.toList) = t := ⟨_, rfl⟩
      have HT := Lib.hid ht
      clear hnm hname
      go_wp2_with fail
      refine (namesR_any _).mono ?_
      rintro e y1 ⟨b, rfl, hc, hy⟩
      have hck := hc k hlt
      rw [HNM.out] at hck
      have hb1 := hb.trans (hy.mono hb.size)
      clear hc hy hb
      cases t with
      | true =>
        go_wp2_with fail
        go_ret2
        exact ⟨_, _, rfl, .inl ⟨m, by have := HM.out; omega, by rw [HNA.out]; exact HT.out, by have := HM.out; omega, rfl⟩, hb1⟩
      | false =>
        go_wp2_with fail
        go_roundw
        case rel =>
          refine ⟨k + 1, by go_num, by omega, by omega, fun j hj => ?_, hb1⟩
          by_cases hjk : j + 1 < k
          · exact HALL.out j hjk
          · obtain rfl : j = m := by have := HM.out; omega
            rw [HNA.out]
            exact HT.out
        case measure => simp [intOf]; omega
    · obtain rfl : k = 21 := by omega
      have hltI : ¬ ((21 : Nat) : Int) ≤ 20 := by omega
      go_wp2_with fail
      go_ret2
      exact ⟨_, _, rfl, .inr ⟨fun j hj => HALL.out j (by omega), rfl, rfl⟩, hb⟩
theorem ver_tab {k : Nat} (hk : k < 20) {v : Nat} (hv : v < 4) (h1 : 1 ≤ v) : verO ((k : Int) + 1) (v : Int) = if k + 1 = 18 then decide ((v : Int) = 1) else if k + 1 = 19 ∨ k + 1 = 20 then decide ((v : Int) < 3) else if k + 1 = 8 ∨ k + 1 = 9 then decide ((v : Int) = 3) else true := by
  revert h1
  exact (by decide +kernel : ∀ k : Nat, k < 20 → ∀ v : Nat, v < 4 → 1 ≤ v → verO ((k : Int) + 1) (v : Int) = if k + 1 = 18 then decide ((v : Int) = 1) else if k + 1 = 19 ∨ k + 1 = 20 then decide ((v : Int) < 3) else if k + 1 = 8 ∨ k + 1 = 9 then decide ((v : Int) = 3) else true) k hk v hv
theorem ver_is {o v : Int} (h : inO o = true) (h1 : 1 ≤ v) (h3 : v ≤ 3) : verO o v = if o = 18 then decide (v = 1) else if o = 19 ∨ o = 20 then decide (v < 3) else if o = 8 ∨ o = 9 then decide (v = 3) else true := by
  obtain ⟨k, hk, rfl⟩ := inO_nat h
  obtain ⟨m, rfl⟩ : ∃ m : Nat, v = (m : Int) := ⟨v.toNat, by omega⟩
  have e := ver_tab hk (v := m) (by omega) (by omega)
  rw [e]
  have c1 : ((k : Int) + 1 = 18) ↔ (k + 1 = 18) := by omega
  have c2 : ((k : Int) + 1 = 19 ∨ (k : Int) + 1 = 20) ↔ (k + 1 = 19 ∨ k + 1 = 20) := by omega
  have c3 : ((k : Int) + 1 = 8 ∨ (k : Int) + 1 = 9) ↔ (k + 1 = 8 ∨ k + 1 = 9) := by omega
  simp only [c1, c2, c3]
theorem ver_no {o v : Int} (h : inO o = true) (h1 : ¬ (1 ≤ v ∧ v ≤ 3)) : verO o v = false := by
  obtain ⟨k, hk, rfl⟩ := inO_nat h
  have hb : 1 ≤ (rowO ((k : Int) + 1)).vl ∧ (rowO ((k : Int) + 1)).vh ≤ 3 := (by decide +kernel : ∀ k : Nat, k < 20 → 1 ≤ (rowO ((k : Int) + 1)).vl ∧ (rowO ((k : Int) + 1)).vh ≤ 3) k hk
  unfold verO
  rw [h, Bool.true_and]
  exact decide_eq_false (by omega)
set_option maxRecDepth 100000 in
set_option maxHeartbeats 4000000 in
theorem inR_any (o v : Int) (w : World) : Calls Try.prog 17 #[.int .i64 o, .int .i64 v] w fun e w' => e = .returned (.bool (verO o v)) ∧ Below w.heap.size w w' := by
  obtain ⟨c, hc⟩ : ∃ c, verO o v = c := ⟨_, rfl⟩
  rw [hc]
  have HC := Lib.hid hc
  clear hc
  by_cases hin : 1 ≤ o ∧ o ≤ 20
  case neg =>
    obtain rfl : c = false := by rw [← HC.out]; unfold verO; rw [show inO o = false from decide_eq_false hin]; rfl
    by_cases h1 : o < 1
    · go_enter Try.func17, Try.ntmps17
      go_wp2_with fail
      go_ret
      exact ⟨rfl, Below.refl _ _⟩
    · have h2 : o > 20 := by omega
      go_enter Try.func17, Try.ntmps17
      go_wp2_with fail
      go_ret
      exact ⟨rfl, Below.refl _ _⟩
  case pos =>
    have hi : inO o = true := decide_eq_true hin
    have h1 : ¬ o < 1 := by omega
    have h2 : ¬ o > 20 := by omega
    by_cases hv1 : v < 1
    · obtain rfl : c = false := by rw [← HC.out]; exact ver_no hi (by omega)
      clear hi hin
      go_enter Try.func17, Try.ntmps17
      go_wp2_with fail
      go_ret
      exact ⟨rfl, Below.refl _ _⟩
    · by_cases hv3 : v > 3
      · obtain rfl : c = false := by rw [← HC.out]; exact ver_no hi (by omega)
        clear hi hin
        go_enter Try.func17, Try.ntmps17
        go_wp2_with fail
        go_ret
        exact ⟨rfl, Below.refl _ _⟩
      · have hver := ver_is (v := v) hi (by omega) (by omega)
        rw [HC.out] at hver
        clear hi hin
        by_cases hx18 : o = 18
        · subst hx18
          obtain rfl : c = decide (v = 1) := by rw [hver]; simp
          clear hver
          go_enter Try.func17, Try.ntmps17
          go_wp2_with fail
          go_ret
          exact ⟨rfl, Below.refl _ _⟩
        · skip
          by_cases hx19 : o = 19
          · subst hx19
            obtain rfl : c = decide (v < 3) := by rw [hver]; simp
            clear hver
            go_enter Try.func17, Try.ntmps17
            go_wp2_with fail
            go_ret
            exact ⟨rfl, Below.refl _ _⟩
          · skip
            by_cases hx20 : o = 20
            · subst hx20
              obtain rfl : c = decide (v < 3) := by rw [hver]; simp
              clear hver
              go_enter Try.func17, Try.ntmps17
              go_wp2_with fail
              go_ret
              exact ⟨rfl, Below.refl _ _⟩
            · skip
              by_cases hx8 : o = 8
              · subst hx8
                obtain rfl : c = decide (v = 3) := by rw [hver]; simp
                clear hver
                go_enter Try.func17, Try.ntmps17
                go_wp2_with fail
                go_ret
                exact ⟨rfl, Below.refl _ _⟩
              · skip
                by_cases hx9 : o = 9
                · subst hx9
                  obtain rfl : c = decide (v = 3) := by rw [hver]; simp
                  clear hver
                  go_enter Try.func17, Try.ntmps17
                  go_wp2_with fail
                  go_ret
                  exact ⟨rfl, Below.refl _ _⟩
                · skip
                  obtain rfl : c = true := by rw [hver, if_neg hx18, if_neg (show ¬ (o = 19 ∨ o = 20) by omega), if_neg (show ¬ (o = 8 ∨ o = 9) by omega)]
                  clear hver
                  go_enter Try.func17, Try.ntmps17
                  go_wp2_with fail
                  go_ret
                  exact ⟨rfl, Below.refl _ _⟩
theorem ar_tab {k : Nat} (hk : k < 20) : (rowO ((k : Int) + 1)).al = (if k + 1 = 1 ∨ k + 1 = 2 ∨ k + 1 = 3 ∨ k + 1 = 4 ∨ k + 1 = 10 then 2 else if k + 1 = 19 then 3 else 1) ∧ (rowO ((k : Int) + 1)).ah = (if k + 1 = 1 ∨ k + 1 = 2 ∨ k + 1 = 3 ∨ k + 1 = 4 ∨ k + 1 = 10 then 2 else if k + 1 = 19 then 3 else if k + 1 = 17 then 8 else 1) :=
  (by decide +kernel : ∀ k : Nat, k < 20 → (rowO ((k : Int) + 1)).al = (if k + 1 = 1 ∨ k + 1 = 2 ∨ k + 1 = 3 ∨ k + 1 = 4 ∨ k + 1 = 10 then 2 else if k + 1 = 19 then 3 else 1) ∧ (rowO ((k : Int) + 1)).ah = (if k + 1 = 1 ∨ k + 1 = 2 ∨ k + 1 = 3 ∨ k + 1 = 4 ∨ k + 1 = 10 then 2 else if k + 1 = 19 then 3 else if k + 1 = 17 then 8 else 1)) k hk
set_option maxRecDepth 100000 in
set_option maxHeartbeats 4000000 in
theorem arityR_any (o : Int) (w : World) : Calls Try.prog 16 #[.int .i64 o] w fun e w' => e = .returned (.tuple #[.int .i64 (rowO o).al, .int .i64 (rowO o).ah]) ∧ Below w.heap.size w w' := by
  obtain ⟨x, hx⟩ : ∃ b, (rowO o).al = b := ⟨_, rfl⟩
  obtain ⟨y, hy⟩ : ∃ b, (rowO o).ah = b := ⟨_, rfl⟩
  rw [hx, hy]
  by_cases hin : 1 ≤ o ∧ o ≤ 20
  case neg =>
    have hno := rowO_out (o := o) (decide_eq_false hin)
    rw [hno] at hx hy
    obtain rfl : x = 0 := hx.symm
    obtain rfl : y = 0 := hy.symm
    have e1 : ¬ o = 1 := by omega
    have e2 : ¬ o = 2 := by omega
    have e3 : ¬ o = 3 := by omega
    have e4 : ¬ o = 4 := by omega
    have e10 : ¬ o = 10 := by omega
    have e19 : ¬ o = 19 := by omega
    have e17 : ¬ o = 17 := by omega
    clear hx hy hno
    by_cases h1 : o < 1
    · clear hin
      go_enter Try.func16, Try.ntmps16
      go_wp2_with fail
      go_ret2
      exact ⟨rfl, Below.refl _ _⟩
    · have h2 : o > 20 := by omega
      clear hin
      go_enter Try.func16, Try.ntmps16
      go_wp2_with fail
      go_ret2
      exact ⟨rfl, Below.refl _ _⟩
  case pos =>
    obtain ⟨k, hk, hok⟩ := inO_nat (decide_eq_true hin)
    obtain ⟨t1, t2⟩ := ar_tab hk
    rw [← hok, hx] at t1
    rw [← hok, hy] at t2
    have h1 : ¬ o < 1 := by omega
    have h2 : ¬ o > 20 := by omega
    clear hx hy
    by_cases hx1 : o = 1
    · obtain rfl : x = 2 := by rw [t1]; simp only [show k + 1 = 1 by omega]; rfl
      obtain rfl : y = 2 := by rw [t2]; simp only [show k + 1 = 1 by omega]; rfl
      clear t1 t2 hok hin
      subst hx1
      go_enter Try.func16, Try.ntmps16
      go_wp2_with fail
      go_ret2
      exact ⟨rfl, Below.refl _ _⟩
    · skip
      by_cases hx2 : o = 2
      · obtain rfl : x = 2 := by rw [t1]; simp only [show k + 1 = 2 by omega]; rfl
        obtain rfl : y = 2 := by rw [t2]; simp only [show k + 1 = 2 by omega]; rfl
        clear t1 t2 hok hin
        subst hx2
        go_enter Try.func16, Try.ntmps16
        go_wp2_with fail
        go_ret2
        exact ⟨rfl, Below.refl _ _⟩
      · skip
        by_cases hx3 : o = 3
        · obtain rfl : x = 2 := by rw [t1]; simp only [show k + 1 = 3 by omega]; rfl
          obtain rfl : y = 2 := by rw [t2]; simp only [show k + 1 = 3 by omega]; rfl
          clear t1 t2 hok hin
          subst hx3
          go_enter Try.func16, Try.ntmps16
          go_wp2_with fail
          go_ret2
          exact ⟨rfl, Below.refl _ _⟩
        · skip
          by_cases hx4 : o = 4
          · obtain rfl : x = 2 := by rw [t1]; simp only [show k + 1 = 4 by omega]; rfl
            obtain rfl : y = 2 := by rw [t2]; simp only [show k + 1 = 4 by omega]; rfl
            clear t1 t2 hok hin
            subst hx4
            go_enter Try.func16, Try.ntmps16
            go_wp2_with fail
            go_ret2
            exact ⟨rfl, Below.refl _ _⟩
          · skip
            by_cases hx10 : o = 10
            · obtain rfl : x = 2 := by rw [t1]; simp only [show k + 1 = 10 by omega]; rfl
              obtain rfl : y = 2 := by rw [t2]; simp only [show k + 1 = 10 by omega]; rfl
              clear t1 t2 hok hin
              subst hx10
              go_enter Try.func16, Try.ntmps16
              go_wp2_with fail
              go_ret2
              exact ⟨rfl, Below.refl _ _⟩
            · skip
              by_cases hx19 : o = 19
              · obtain rfl : x = 3 := by rw [t1]; simp only [show k + 1 = 19 by omega]; rfl
                obtain rfl : y = 3 := by rw [t2]; simp only [show k + 1 = 19 by omega]; rfl
                clear t1 t2 hok hin
                subst hx19
                go_enter Try.func16, Try.ntmps16
                go_wp2_with fail
                go_ret2
                exact ⟨rfl, Below.refl _ _⟩
              · skip
                by_cases hx17 : o = 17
                · obtain rfl : x = 1 := by rw [t1]; simp only [show k + 1 = 17 by omega]; rfl
                  obtain rfl : y = 8 := by rw [t2]; simp only [show k + 1 = 17 by omega]; rfl
                  clear t1 t2 hok hin
                  subst hx17
                  go_enter Try.func16, Try.ntmps16
                  go_wp2_with fail
                  go_ret2
                  exact ⟨rfl, Below.refl _ _⟩
                · skip
                  obtain rfl : x = 1 := by rw [t1, if_neg (by omega), if_neg (by omega)]
                  obtain rfl : y = 1 := by rw [t2, if_neg (by omega), if_neg (by omega), if_neg (by omega)]
                  clear t1 t2 hok hin
                  go_enter Try.func16, Try.ntmps16
                  go_wp2_with fail
                  go_ret2
                  exact ⟨rfl, Below.refl _ _⟩
/-- may there be no attributes, in a version? -/
def noneB (v o : Int) : Bool := if o = 6 ∨ o = 11 ∨ o = 17 then decide (v = 1) else if o = 14 ∨ o = 20 then decide (v < 3) else false
theorem none_is {o v : Int} (h : inO o = true) (h1 : 1 ≤ v) (h3 : v ≤ 3) (xs : List Int) : leaveB o v xs = (decide (xs.length = 0) && noneB v o) := by
  obtain ⟨k, hk, rfl⟩ := inO_nat h
  obtain ⟨m, rfl⟩ : ∃ m : Nat, v = (m : Int) := ⟨v.toNat, by omega⟩
  have e : decide ((m : Int) ≤ (rowO ((k : Int) + 1)).lo) = noneB (m : Int) ((k : Int) + 1) :=
    (by decide +kernel : ∀ k : Nat, k < 20 → ∀ m : Nat, m < 4 → 1 ≤ m → decide ((m : Int) ≤ (rowO ((k : Int) + 1)).lo) = noneB (m : Int) ((k : Int) + 1)) k hk m (by omega) (by omega)
  unfold leaveB
  rw [← e, Bool.decide_and]
set_option maxRecDepth 100000 in
set_option maxHeartbeats 4000000 in
theorem noneR_any (v o : Int) (w : World) : Calls Try.prog 31 #[.int .i64 v, .int .i64 o] w fun e w' => e = .returned (.bool (noneB v o)) ∧ Below w.heap.size w w' := by
  obtain ⟨c, hc⟩ : ∃ c, noneB v o = c := ⟨_, rfl⟩
  rw [hc]
  by_cases hx6 : o = 6
  · subst hx6
    obtain rfl : c = decide (v = 1) := by rw [← hc]; rfl
    clear hc
    go_enter Try.func31, Try.ntmps31
    go_wp2_with fail
    go_ret
    exact ⟨rfl, Below.refl _ _⟩
  · skip
    by_cases hx11 : o = 11
    · subst hx11
      obtain rfl : c = decide (v = 1) := by rw [← hc]; rfl
      clear hc
      go_enter Try.func31, Try.ntmps31
      go_wp2_with fail
      go_ret
      exact ⟨rfl, Below.refl _ _⟩
    · skip
      by_cases hx17 : o = 17
      · subst hx17
        obtain rfl : c = decide (v = 1) := by rw [← hc]; rfl
        clear hc
        go_enter Try.func31, Try.ntmps31
        go_wp2_with fail
        go_ret
        exact ⟨rfl, Below.refl _ _⟩
      · skip
        by_cases hx14 : o = 14
        · subst hx14
          obtain rfl : c = decide (v < 3) := by rw [← hc]; rfl
          clear hc
          go_enter Try.func31, Try.ntmps31
          go_wp2_with fail
          go_ret
          exact ⟨rfl, Below.refl _ _⟩
        · skip
          by_cases hx20 : o = 20
          · subst hx20
            obtain rfl : c = decide (v < 3) := by rw [← hc]; rfl
            clear hc
            go_enter Try.func31, Try.ntmps31
            go_wp2_with fail
            go_ret
            exact ⟨rfl, Below.refl _ _⟩
          · skip
            obtain rfl : c = false := by rw [← hc]; unfold noneB; rw [if_neg (by omega), if_neg (by omega)]
            clear hc
            go_enter Try.func31, Try.ntmps31
            go_wp2_with fail
            go_ret
            exact ⟨rfl, Below.refl _ _⟩
set_option maxRecDepth 100000 in
set_option maxHeartbeats 4000000 in
theorem divisor_any {p q : Int} (hp0 : -2147483647 ≤ p) (hp1 : p ≤ 2147483647) (hq0 : 1 ≤ q) (hq1 : q ≤ 2147483647) (w : World) : Calls Try.prog 41 #[.int .i64 p, .int .i64 q] w fun e w' => e = .returned (.bool (!(copB p q))) ∧ Below w.heap.size w w' := by
  obtain ⟨c, hc⟩ : ∃ c, (!(copB p q)) = c := ⟨_, rfl⟩
  rw [hc]
  have HC := Lib.hid hc
  obtain ⟨P0, hP0⟩ : ∃ n : Nat, p.natAbs = n := ⟨_, rfl⟩
  have hg0 : Int.gcd (P0 : Int) q = Int.gcd p q := by rw [← hP0]; unfold Int.gcd; rw [Int.natAbs_natCast]
  have HG0 := Lib.hid hg0
  have hP4 : P0 ≤ 2147483647 := by omega
  have hneg : p < 0 → -p = (P0 : Int) := by omega
  have hpos : ¬ p < 0 → p = (P0 : Int) := by omega
  have HNEG := Lib.hid hneg
  have HPOS := Lib.hid hpos
  clear hc hg0 hneg hpos hP0
  by_cases hpn : p < 0
  · have hnp := HNEG.out hpn
    have hnw : IntKind.i64.wrap (-p) = -p := IntWalk.i64_in _ (by omega)
    go_enter Try.func41, Try.ntmps41
    go_wp2_with fail
    go_loopw [0, 1] (fun a b wr => ∃ P Q : Nat, a = .int .i64 (P : Int) ∧ b = .int .i64 (Q : Int) ∧ P ≤ 2147483647 ∧ Q ≤ 2147483647 ∧ Int.gcd (P : Int) (Q : Int) = Int.gcd p q ∧ Below w.heap.size w wr) (fun _ b _ => (intOf b).toNat)
    case atStart => exact ⟨P0, q.toNat, by first | rfl | (rw [hnp]), by first | (congr 1; omega) | (rw [show ((q.toNat : Nat) : Int) = q by omega]), hP4, by omega, by first | (rw [show ((q.toNat : Nat) : Int) = q by omega]; done) | (rw [show ((q.toNat : Nat) : Int) = q by omega]; exact HG0.out), Below.refl _ _⟩
    case round =>
      obtain ⟨P, Q, rfl, rfl, a1, b1, hg, hb⟩ := hrel
      have HG := Lib.hid hg
      clear hg
      by_cases hQ : Q = 0
      · subst hQ
        have hgP : Int.gcd p q = P := by rw [← HG.out]; simp
        have hcc : c = decide (P ≠ 1) := by
          rw [← HC.out]
          unfold copB
          rw [hgP, decide_not]
        by_cases h1 : P = 1
        · subst h1
          obtain rfl : c = false := hcc
          clear hgP
          go_wp2_with fail
          go_ret
          exact ⟨rfl, hb⟩
        · have h1I : ((P : Int) != 1) = true := by simp; omega
          obtain rfl : c = true := by rw [hcc]; exact decide_eq_true h1
          clear hgP hcc
          go_wp2_with fail
          go_ret
          exact ⟨rfl, hb⟩
      · have hQI : (Q : Int) > 0 := by omega
        have hQ0 : ¬ (Q : Int) = 0 := by omega
        obtain ⟨m, hm⟩ : ∃ m, P % Q = m := ⟨_, rfl⟩
        have hmlt : m < Q := by rw [← hm]; exact Nat.mod_lt _ (by omega)
        have hmod : (P : Int).tmod (Q : Int) = (m : Int) := by rw [← hm]; exact Int.ofNat_tmod P Q
        have hgc : Int.gcd (Q : Int) (m : Int) = Int.gcd p q := by
          rw [← HG.out, ← hm]
          unfold Int.gcd
          simp only [Int.natAbs_natCast]
          rw [Nat.gcd_comm Q, ← Nat.gcd_rec, Nat.gcd_comm]
        have HGC := Lib.hid hgc
        have hQw : Q ≤ 2147483647 := b1
        clear hgc hm
        go_wp2_with fail
        go_quiet (fail)
        go_wp2
        go_roundw
        case rel => exact ⟨Q, m, rfl, by first | rfl | (rw [hmod]), b1, by omega, HGC.out, below_drewN11 hb nq⟩
        case measure => simp [intOf, hmod]; omega
  · obtain rfl := HPOS.out hpn
    go_enter Try.func41, Try.ntmps41
    go_wp2_with fail
    go_loopw [0, 1] (fun a b wr => ∃ P Q : Nat, a = .int .i64 (P : Int) ∧ b = .int .i64 (Q : Int) ∧ P ≤ 2147483647 ∧ Q ≤ 2147483647 ∧ Int.gcd (P : Int) (Q : Int) = Int.gcd (P0 : Int) q ∧ Below w.heap.size w wr) (fun _ b _ => (intOf b).toNat)
    case atStart => exact ⟨P0, q.toNat, rfl, by first | (congr 1; omega) | (rw [show ((q.toNat : Nat) : Int) = q by omega]), hP4, by omega, by first | (rw [show ((q.toNat : Nat) : Int) = q by omega]; done) | (rw [show ((q.toNat : Nat) : Int) = q by omega]; exact HG0.out), Below.refl _ _⟩
    case round =>
      obtain ⟨P, Q, rfl, rfl, a1, b1, hg, hb⟩ := hrel
      have HG := Lib.hid hg
      clear hg
      by_cases hQ : Q = 0
      · subst hQ
        have hgP : Int.gcd (P0 : Int) q = P := by rw [← HG.out]; simp
        have hcc : c = decide (P ≠ 1) := by
          rw [← HC.out]
          unfold copB
          rw [hgP, decide_not]
        by_cases h1 : P = 1
        · subst h1
          obtain rfl : c = false := hcc
          clear hgP
          go_wp2_with fail
          go_ret
          exact ⟨rfl, hb⟩
        · have h1I : ((P : Int) != 1) = true := by simp; omega
          obtain rfl : c = true := by rw [hcc]; exact decide_eq_true h1
          clear hgP hcc
          go_wp2_with fail
          go_ret
          exact ⟨rfl, hb⟩
      · have hQI : (Q : Int) > 0 := by omega
        have hQ0 : ¬ (Q : Int) = 0 := by omega
        obtain ⟨m, hm⟩ : ∃ m, P % Q = m := ⟨_, rfl⟩
        have hmlt : m < Q := by rw [← hm]; exact Nat.mod_lt _ (by omega)
        have hmod : (P : Int).tmod (Q : Int) = (m : Int) := by rw [← hm]; exact Int.ofNat_tmod P Q
        have hgc : Int.gcd (Q : Int) (m : Int) = Int.gcd (P0 : Int) q := by
          rw [← HG.out, ← hm]
          unfold Int.gcd
          simp only [Int.natAbs_natCast]
          rw [Nat.gcd_comm Q, ← Nat.gcd_rec, Nat.gcd_comm]
        have HGC := Lib.hid hgc
        have hQw : Q ≤ 2147483647 := b1
        clear hgc hm
        go_wp2_with fail
        go_quiet (fail)
        go_wp2
        go_roundw
        case rel => exact ⟨Q, m, rfl, by first | rfl | (rw [hmod]), b1, by omega, HGC.out, below_drewN11 hb nq⟩
        case measure => simp [intOf, hmod]; omega
end
end Go.Proofs.Ytnhbngeipedplaa
