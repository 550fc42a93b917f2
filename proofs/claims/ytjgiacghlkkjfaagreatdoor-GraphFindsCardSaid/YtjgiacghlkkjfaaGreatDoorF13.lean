/-
  Part 13 of 29: contracts and what they rest on (SCode4, SCode5, OCode4).
-/
import Derived.Test.YtjgiacghlkkjfaaGreatDoorF1
import Derived.Test.YtjgiacghlkkjfaaGreatDoorF2
import Derived.Test.YtjgiacghlkkjfaaGreatDoorF4
import Derived.Test.YtjgiacghlkkjfaaGreatDoorF5
import Derived.Test.YtjgiacghlkkjfaaGreatDoorF7
import Derived.Test.YtjgiacghlkkjfaaGreatDoorF8
import Derived.Test.YtjgiacghlkkjfaaGreatDoorF9
import Derived.Test.YtjgiacghlkkjfaaGreatDoorF10
import Derived.WalkKit
import Derived.Test.YtjgiacghlkkjfaaGreatDoorRows
import Derived.OrdersHeld
import Derived.Deep.RegionHeld
import Derived.BigQuiet
import Derived.Deep.QuietTactic
import Derived.Lib.Hide
import Derived.Lib.Small
import Derived.Lib.Walk
import Derived.Lib.BitFns
import Derived.Maps.AppendAt
import Derived.RangeFuncNested
import Derived.RangeFuncBound
import Derived.RangeFuncCalls
import Derived.RangeFuncLeaves
import Derived.Shelf.Abstract
import Derived.OwnWalkIn
import Derived.TacticsInMore
import Derived.LoopNIn
import Derived.LoopIn
import Derived.RangeFuncBox
import Derived.Deep.RegionHeld3
import Derived.OrdersIn
import Derived.StillTailTactics
import Derived.RangeFuncFrom
import Derived.Laws.EntriesVeiled
import Derived.ProofKit
import Derived.OpenShut
import Derived.JoinedCond
import Derived.Carry
import Derived.Laws.AppendOwnNone
import Derived.Lib.ItoaNum
import Derived.Deep.RegionLaw
import Derived.WalkMore
import Derived.Lib.SmallJoins
import Derived.IntWalk
import Derived.Deep.DeepCutAuto
import Derived.Laws.OwnMore
import Derived.ArgAppend
import Derived.Deep.Slices
import Derived.Laws.CopyOwn
import Derived.Lib.SliceRun
import Derived.SizedLaws
namespace Go.Proofs.YtjgiacghlkkjfaaGreatDoor
set_option maxRecDepth 100000
section
open Go.RowKit
set_option linter.unusedVariables false
set_option linter.unusedSimpArgs false
/-- a block of marks, known whole -/
def MrkS (w : World) (g : Nat) (zs : List Bool) : Prop := w.heap[g]? = some (.cells (zs.map Value.bool).toArray 4 (0, 0))
theorem MrkS.cell {w : World} {g : Nat} {zs : List Bool} (h : MrkS w g zs) (i : Nat) (hi : i < zs.length) : w.cell? ⟨g, i, none⟩ = some (.bool (zs.getD i false)) := by
  have e : w.cell? ⟨g, i, none⟩ = ((zs.map Value.bool).toArray)[i]? := cell_of_row w g i _ 4 (0, 0) h
  rw [e]; simp [hi]
theorem MrkS.free {w : World} {g : Nat} {zs : List Bool} (h : MrkS w g zs) (i : Nat) : w.frozen? ⟨g, i, none⟩ = false := frozen_of_row w g i _ 4 h
theorem MrkS.lt {w : World} {g : Nat} {zs : List Bool} (h : MrkS w g zs) : g < w.heap.size := lt_of_block h
theorem MrkS.same {w w' : World} {g : Nat} {zs : List Bool} (h : MrkS w g zs) (e : w'.heap[g]? = w.heap[g]?) : MrkS w' g zs := e.trans h
theorem MrkS.alloc {w : World} {g : Nat} {zs : List Bool} (h : MrkS w g zs) (o : Obj) : MrkS (w.alloc o) g zs := h.same (Below.heap_alloc _ _ _ h.lt)
theorem MrkS.far {w : World} {g : Nat} {zs : List Bool} (h : MrkS w g zs) {p : Addr} (hne : g ≠ p.block) (u : Value) : MrkS (w.setCell p u) g zs := h.same (Below.heap_setCell _ _ _ _ hne)
theorem MrkS.set {w : World} {g : Nat} {zs : List Bool} (h : MrkS w g zs) (i : Nat) (x : Bool) : MrkS (w.setCell ⟨g, i, none⟩ (.bool x)) g (zs.set i x) := by
  have hh := heap_setCell_same w g i _ 4 (.bool x) h
  unfold MrkS
  rw [hh]
  congr 2
  simp [List.map_set]
theorem MrkS.made (w : World) (n : Nat) : MrkS (w.alloc (.cells (madeCells #[.bool false] n) 4)) w.heap.size (List.replicate n false) := by
  have h := heap_alloc_new w (.cells (madeCells #[.bool false] n) 4)
  unfold MrkS
  rw [h]
  congr 2
  apply Array.ext
  · simp [madeCells]
  · intro i h1 h2
    simp [madeCells, Nat.mod_one]
theorem infoM : (Tryz.prog.info? 4).map (fun i => (i.zero, i.size, i.bytes)) = some (some (.bool false), 1, 1) := by kernel_rfl
theorem make_runM (n : Nat) (hc : n ≤ 17592186044416) (w : World) :
    (Instr.makeSlice 301 (.int .i64 (n : Int)) (.int .i64 (n : Int))).run Tryz.prog w = .ok (.slice (some ⟨w.heap.size, 0, none⟩) n n) (w.alloc (.cells (madeCells #[.bool false] n) 4)) := by
  obtain ⟨i0, hi, hz0, hz1, hz2⟩ := info_parts infoM
  have h := run_make (P := Tryz.prog) w 301 4 i0 (.bool false) Tryz.underlying301 hi hz0 .i64 .i64 n n (by omega) (by omega) (by rw [hz2]; omega) (by omega)
  simpa [hz1, Value.cells] using h
theorem make_runH (n m : Nat) (hm : n ≤ m) (hc : m ≤ 17592186044416) (w : World) :
    (Instr.makeSlice 43 (.int .i64 (n : Int)) (.int .i64 (m : Int))).run Tryz.prog w = .ok (.slice (some ⟨w.heap.size, 0, none⟩) n m) (w.alloc (.cells (madeCells #[.int .i64 0] m) 3)) := by
  obtain ⟨i0, hi, hz0, hz1, hz2⟩ := info_parts infoS
  have h := run_make (P := Tryz.prog) w 43 3 i0 (.int .i64 0) Tryz.underlying43 hi hz0 .i64 .i64 n m (by omega) (by omega) (by rw [hz2]; omega) (by omega)
  simpa [hz1, Value.cells] using h
/-- a list's numbers are marked, below n -/
def MarkS (w : World) (p n : Nat) (l : List Int) : Prop := ∃ g, w.cell? ⟨p, 0, none⟩ = some (.slice (some ⟨g, 0, none⟩) n n) ∧ ∀ i, i < n → w.cell? ⟨g, i, none⟩ = some (.bool (decide ((i : Int) ∈ l)))
theorem MarkS.later {w w' : World} {p n : Nat} {l : List Int} (h : MarkS w p n l) (hb : Below w.heap.size w w') : MarkS w' p n l := by
  obtain ⟨g, h1, h2⟩ := h
  exact ⟨g, (hb.cell (World.block_lt_of_cell? w _ h1)).trans h1, fun i hi => (hb.cell (World.block_lt_of_cell? w _ (h2 i hi))).trans (h2 i hi)⟩
/-- the marks, when the first k numbers have been seen -/
def SeenM (l : List Int) (n k : Nat) (M : List Bool) : Prop := M.length = n ∧ ∀ i, i < n → M.getD i false = decide ((i : Int) ∈ l.take k)
theorem SeenM.nil (l : List Int) (n : Nat) : SeenM l n 0 (List.replicate n false) := ⟨by simp, fun i hi => by simp [List.getD_eq_getElem?_getD, hi]⟩
theorem mem_next {l : List Int} {k : Nat} {x y : Int} (hx : l[k]? = some x) : y ∈ l.take (k + 1) ↔ y ∈ l.take k ∨ y = x := by
  rw [List.take_add_one, hx, Option.toList_some, List.mem_append, List.mem_singleton]
theorem SeenM.skip {l : List Int} {n k : Nat} {M : List Bool} {x : Int} (h : SeenM l n k M) (hx : l[k]? = some x) (ho : x < 0 ∨ (n : Int) ≤ x) : SeenM l n (k + 1) M := by
  refine ⟨h.1, fun i hi => ?_⟩
  rw [h.2 i hi]
  apply decide_eq_decide.2
  rw [mem_next hx]
  exact ⟨.inl, fun h => h.elim id fun e => by omega⟩
theorem SeenM.mark {l : List Int} {n k j : Nat} {M : List Bool} (h : SeenM l n k M) (hx : l[k]? = some (j : Int)) (hj : j < n) : SeenM l n (k + 1) (M.set j true) := by
  refine ⟨by rw [List.length_set]; exact h.1, fun i hi => ?_⟩
  by_cases e : i = j
  · subst e
    rw [List.getD_eq_getElem?_getD, List.getElem?_set_self (by rw [h.1]; exact hi)]
    exact (decide_eq_true ((mem_next hx).2 (.inr rfl))).symm
  · rw [List.getD_eq_getElem?_getD, List.getElem?_set_ne (by omega), ← List.getD_eq_getElem?_getD, h.2 i hi]
    apply decide_eq_decide.2
    rw [mem_next hx]
    exact ⟨.inl, fun h => h.elim id fun e2 => by omega⟩
set_option maxRecDepth 100000 in
set_option maxHeartbeats 2000000 in
theorem amongL_any {p n i : Nat} {l : List Int} {w : World} (M : MarkS w p n l) (hi : i < n) :
    Calls Tryz.prog 259 #[.int .i64 (i : Int), .pointer (some ⟨p, 0, none⟩)] w fun e w' => e = .returned (.bool (decide ((i : Int) ∈ l))) ∧ w = w' := by
  obtain ⟨g, h1, h2⟩ := M
  have h3 := h2 i hi
  have hiI : (i : Int) < (n : Int) := by omega
  obtain ⟨b, hb⟩ : ∃ b, decide ((i : Int) ∈ l) = b := ⟨_, rfl⟩
  rw [hb] at h3 ⊢
  clear h2 hb
  go_enter Tryz.func259, Tryz.ntmps259
  go_wp2
  go_ret
  exact ⟨rfl, rfl⟩
set_option maxRecDepth 100000 in
set_option maxHeartbeats 2000000 in
theorem among_any {u : Value} {l : List Int} {a : Option Addr} {ca : Nat} {w : World} (n : Nat) (A : ArgS w u l a ca) (hn : n ≤ 17592186044416) (hl : l.length ≤ 17592186044416) :
    Calls Tryz.prog 229 #[u, .int .i64 (n : Int)] w fun e w' => ∃ p, e = .returned (.func (.func 259) #[] #[.pointer (some ⟨p, 0, none⟩)]) ∧ MarkS w' p n l ∧ Below w.heap.size w w' := by
  have HA := Lib.hid A
  obtain rfl := A.is
  obtain ⟨L, hL⟩ : ∃ L, l.length = L := ⟨_, rfl⟩
  have HL := Lib.hid hL
  have hmk := make_runM n hn
  have hmf : ∀ (fn : Fn) (first cap : Array Value) (w : World), (Instr.makeFunc fn first cap).run Tryz.prog w = .ok (.func fn first cap) w := fun _ _ _ _ => rfl
  rw [hL] at hl ⊢
  clear A hL
  go_enter Tryz.func229, Tryz.ntmps229
  go_wp2
  have hb0 : Below w.heap.size w ((w.alloc (.cells (madeCells #[.bool false] n) 4)).alloc (.cells #[.slice (some ⟨w.heap.size, 0, none⟩) n n] 301)) := ((Below.refl _ w).alloc (Nat.le_refl _) _).alloc (by simp) _
  have hm0 : MrkS ((w.alloc (.cells (madeCells #[.bool false] n) 4)).alloc (.cells #[.slice (some ⟨w.heap.size, 0, none⟩) n n] 301)) w.heap.size (List.replicate n false) := (MrkS.made w n).alloc _
  have hc0 : ((w.alloc (.cells (madeCells #[.bool false] n) 4)).alloc (.cells #[.slice (some ⟨w.heap.size, 0, none⟩) n n] 301)).cell? ⟨w.heap.size + 1, 0, none⟩ = some (.slice (some ⟨w.heap.size, 0, none⟩) n n) := by
    simp
  have HB0 := Lib.hid hb0
  have HM0 := Lib.hid hm0
  have HC0 := Lib.hid hc0
  clear hb0 hm0 hc0
  go_loopw [7, 12] (fun _ i wr => ∃ (k : Nat) (M : List Bool), i = .int .i64 (k : Int) ∧ k ≤ L ∧ MrkS wr w.heap.size M ∧ SeenM l n k M ∧ wr.cell? ⟨w.heap.size + 1, 0, none⟩ = some (.slice (some ⟨w.heap.size, 0, none⟩) n n) ∧ Below w.heap.size w wr) (fun _ i _ => L - (intOf i).toNat)
  case atStart => exact ⟨0, _, rfl, Nat.zero_le _, HM0.out, SeenM.nil l n, HC0.out, HB0.out⟩
  case round =>
    obtain ⟨k, M, rfl, hk, hM, hS, hc, hb⟩ := hrel
    have hsz := hb.size
    have HMK := Lib.hid hM
    have HS := Lib.hid hS
    have HCC := Lib.hid hc
    by_cases hlt : k < L
    · obtain ⟨b1, o1, rfl, c1⟩ := (HA.out.later hb).at (i := k) (by rw [HL.out]; exact hlt)
      have hxx := getD_some (xs := l) (k := k) (by rw [HL.out]; exact hlt)
      obtain ⟨x, hxe⟩ : ∃ x, l.getD k 0 = x := ⟨_, rfl⟩
      rw [hxe] at c1 hxx
      have HX := Lib.hid hxx
      have hbw := below_any x (n : Int) wr
      have hltI : (k : Int) < (L : Int) := by omega
      clear hxx hxe hS
      by_cases hg : 0 ≤ x ∧ x < n
      · obtain ⟨g0, g1⟩ := hg
        rw [belowB_yes g0 g1] at hbw
        obtain ⟨j, rfl⟩ : ∃ j : Nat, x = (j : Int) := ⟨x.toNat, by omega⟩
        have hj : j < n := by omega
        have hf := hM.free j
        have hcj := hM.cell j (by rw [HS.out.1]; exact hj)
        clear hM
        go_wp2_with (go_at_call 227; refine hbw.mono ?_; rintro e w1 ⟨rfl, rfl⟩)
        go_roundw
        case rel =>
          refine ⟨k + 1, _, by go_num, by omega, HMK.out.set j true, HS.out.mark HX.out hj, ?_, ?_⟩
          · rw [World.cell?_of_block (Below.heap_setCell _ _ _ _ (by show w.heap.size + 1 ≠ w.heap.size; omega))]; exact HCC.out
          · exact hb.setCell (Nat.le_refl _) _
        case measure => simp [intOf]; omega
      · rw [belowB_no (by omega)] at hbw
        clear hM
        go_wp2_with (go_at_call 227; refine hbw.mono ?_; rintro e w1 ⟨rfl, rfl⟩)
        go_roundw
        case rel => exact ⟨k + 1, M, by go_num, by omega, HMK.out, HS.out.skip HX.out (by omega), HCC.out, hb⟩
        case measure => simp [intOf]; omega
    · obtain rfl : k = L := by omega
      have hltI : ¬ (k : Int) < (k : Int) := by omega
      clear hM hS hc
      go_wp2
      go_ret
      refine ⟨_, rfl, ⟨_, HCC.out, fun i hi => ?_⟩, hb⟩
      have h1 := HMK.out.cell i (by rw [HS.out.1]; exact hi)
      have h2 := HS.out.2 i hi
      rw [take_all HL.out] at h2
      rw [h1, h2]
set_option maxRecDepth 100000 in
set_option maxHeartbeats 4000000 in
theorem dropC_any {u v : Value} {xs ys : List Int} {a b : Option Addr} {ca cb : Nat} {w : World} (A : ArgS w u xs a ca) (B : ArgS w v ys b cb) (ha : a = none → ca = 0) (hb : b = none → cb = 0) (hx : xs.length ≤ 17592186044416) (hy : ys.length ≤ 17592186044416) :
    Calls Tryz.prog 188 #[u, v] w fun e w' => ∃ r, e = .returned r ∧ ResS w.heap.size w' r (dropS xs ys) ∧ Below w.heap.size w w' := by
  obtain ⟨i0, hi, hz0, hz1, hz2⟩ := info_parts infoS
  have hms := among_any xs.length B hx hy
  have HA := Lib.hid A
  obtain rfl := A.is
  obtain rfl := B.is
  obtain ⟨L, hL⟩ : ∃ L, xs.length = L := ⟨_, rfl⟩
  obtain ⟨T, hT⟩ : ∃ T, ys.length = T := ⟨_, rfl⟩
  obtain ⟨r, hr⟩ : ∃ r, dropS xs ys = r := ⟨_, rfl⟩
  have HL := Lib.hid hL
  have hr2 : dropL xs ys L = r := by rw [← hr]; unfold dropS; rw [hL]
  have HR := Lib.hid hr2
  have hmk : ∀ w : World, (Instr.makeSlice 43 (.int .i64 0) (.int .i64 (L : Int))).run Tryz.prog w = .ok (.slice (some ⟨w.heap.size, 0, none⟩) 0 L) (w.alloc (.cells (madeCells #[.int .i64 0] L) 3)) := make_runH 0 L (Nat.zero_le _) (by omega)
  rw [hL] at hx hms
  rw [hT] at hms
  rw [hL, hT, hr]
  clear A B ha hb hL hT hr hr2 hy
  go_enter Tryz.func188, Tryz.ntmps188
  go_wp2_with (go_at_call 229; refine hms.mono ?_; rintro e w1 ⟨p, rfl, hM1, hb1⟩)
  have hbA : Below w1.heap.size w1 (w1.alloc (.cells (madeCells #[.int .i64 0] L) 3)) := (Below.refl _ w1).alloc (Nat.le_refl _) _
  have hRA : ResS w1.heap.size (w1.alloc (.cells (madeCells #[.int .i64 0] L) 3)) (.slice (some ⟨w1.heap.size, 0, none⟩) 0 L) [] := by
    have h := NumS.ofBlk (BlkS.made w1 L) (Nat.le_refl _) 0 (Nat.zero_le _) (by rw [List.length_replicate]; unfold maxLen; omega)
    rw [List.length_replicate, List.take_zero] at h
    exact ⟨h, Wid.nil⟩
  have HMA := Lib.hid hM1
  have HBA := Lib.hid hbA
  have HRA := Lib.hid hRA
  have hs1 := hb1.size
  clear hM1 hbA hRA hms hmk
  go_loopw [6, 7, 8, 18] (fun s _ _ i wr => ∃ (k : Nat) (zs : List Int), i = .int .i64 (k : Int) ∧ k ≤ L ∧ ResS w1.heap.size wr s zs ∧ zs.length ≤ k ∧ dropL xs ys k = zs ∧ Below w1.heap.size w1 wr) (fun _ _ _ i _ => L - (intOf i).toNat)
  case atStart => exact ⟨0, [], rfl, Nat.zero_le _, HRA.out, Nat.le_refl _, rfl, HBA.out⟩
  case round =>
    obtain ⟨k, zs, rfl, hkL, R, hzl, hz, hb⟩ := hrel
    have hsz := hb.size
    have HZ := Lib.hid hz
    clear hz
    by_cases hlt : k < L
    · have hk := amongL_any (HMA.out.later hb) hlt
      have hltI : (k : Int) < (L : Int) := by omega
      obtain ⟨b1, o1, rfl, hc1⟩ := (HA.out.later (hb1.trans (hb.mono hs1))).at (i := k) (by rw [HL.out]; exact hlt)
      have hwx := HA.out.wf.getD k
      obtain ⟨x, hxe⟩ : ∃ x, xs.getD k 0 = x := ⟨_, rfl⟩
      rw [hxe] at hc1 hwx
      have HW := Lib.hid hwx
      have HRES := Lib.hid R
      have hrow : wr.ownsRow w1.heap.size 3 1 _ zs.length (zs.map (Value.int .i64)) := R.num
      by_cases hm : (k : Int) ∈ ys
      · rw [decide_eq_true hm] at hk
        have hst : dropL xs ys (k + 1) = zs := by simp only [dropL]; rw [if_pos hm, HZ.out, List.append_nil]
        have HST := Lib.hid hst
        clear hm hst hxe hwx R
        go_wp2_with fail
        refine hk.mono ?_
        rintro e w3 ⟨rfl, rfl⟩
        go_wp2
        go_roundw
        case rel => exact ⟨k + 1, zs, by go_num, by omega, HRES.out, by omega, HST.out, hb⟩
        case measure => simp [intOf]; omega
      · rw [decide_eq_false hm] at hk
        have hst : dropL xs ys (k + 1) = zs ++ [x] := by simp only [dropL]; rw [if_neg hm, HZ.out, hxe]
        have HST := Lib.hid hst
        clear hm hst hxe hwx R
        go_wp2_with fail
        refine hk.mono ?_
        rintro e w3 ⟨rfl, rfl⟩
        go_wp2_with (at_builtin; refine wpList_append_own _ rfl _ _ 43 rfl w1.heap.size 3 i0 (.int .i64 0) 1 8 Tryz.underlying43 hi hz0 hz1 hz2 rfl (by decide) _ _ _ rfl (hrow.alloc _) ⟨wr.heap.size, 0, none⟩ 1 1 [.int .i64 x] rfl rfl (cell_one_new _ _ _) (by simp [Value.oneCell']) (by unfold maxLen; omega) (by omega) (by simp; omega) ?_; intro v' w4 hown' hgrow _)
        go_roundw
        case rel =>
          obtain ⟨hn, hbw⟩ := pushS hb hsz HRES.out.num hown' hgrow
          exact ⟨k + 1, zs ++ [x], by go_num, by omega, ⟨hn, HRES.out.wf.append (Wid.one HW.out)⟩, by rw [List.length_append]; simp only [List.length_cons, List.length_nil]; omega, HST.out, hbw⟩
        case measure => simp [intOf]; omega
    · obtain rfl : k = L := by omega
      have hltI : ¬ (k : Int) < (k : Int) := by omega
      have HRES := Lib.hid R
      clear R
      go_wp2
      go_ret
      exact ⟨_, rfl, by rw [← HR.out, HZ.out]; exact HRES.out.mono hs1, hb1.trans (hb.mono hs1)⟩
theorem set_midS {A : List Int} {L k : Nat} (h : A.length = k) (hk : k < L) (x : Int) : (A ++ List.replicate (L - k) 0).set k x = A ++ [x] ++ List.replicate (L - (k + 1)) 0 := by
  rw [show L - k = (L - (k + 1)) + 1 by omega, List.replicate_succ, List.set_append_right _ _ (by omega), h, Nat.sub_self, List.set_cons_zero, List.append_assoc]
  rfl
theorem onesL_wid {xs : List Int} (ys : List Int) (h : Wid xs) (j : Nat) : Wid (onesL xs ys j) := by
  induction j with
  | zero => exact Wid.nil
  | succ j ih =>
    simp only [onesL]
    refine ih.append (Wid.one ?_)
    by_cases hm : (j : Int) ∈ ys
    · rw [if_pos hm]; omega
    · rw [if_neg hm]; exact h.getD j
set_option maxRecDepth 100000 in
set_option maxHeartbeats 4000000 in
theorem onesC_any {u v : Value} {xs ys : List Int} {a b : Option Addr} {ca cb : Nat} {w : World} (A : ArgS w u xs a ca) (B : ArgS w v ys b cb) (ha : a = none → ca = 0) (hb : b = none → cb = 0) (hx : xs.length ≤ 17592186044416) (hy : ys.length ≤ 17592186044416) :
    Calls Tryz.prog 226 #[u, v] w fun e w' => ∃ r, e = .returned r ∧ ResS w.heap.size w' r (onesS xs ys) ∧ Below w.heap.size w w' := by
  have hms := among_any xs.length B hx hy
  have HA := Lib.hid A
  obtain rfl := A.is
  obtain rfl := B.is
  obtain ⟨L, hL⟩ : ∃ L, xs.length = L := ⟨_, rfl⟩
  obtain ⟨T, hT⟩ : ∃ T, ys.length = T := ⟨_, rfl⟩
  obtain ⟨r, hr⟩ : ∃ r, onesS xs ys = r := ⟨_, rfl⟩
  have HL := Lib.hid hL
  have hr2 : onesL xs ys L = r := by rw [← hr]; unfold onesS; rw [hL]
  have HR := Lib.hid hr2
  have hmk := make_runH L L (Nat.le_refl _) (by omega)
  rw [hL] at hx hms
  rw [hT] at hms
  rw [hL, hT, hr]
  clear A B ha hb hL hT hr hr2 hy
  go_enter Tryz.func226, Tryz.ntmps226
  go_wp2_with (go_at_call 229; refine hms.mono ?_; rintro e w1 ⟨p, rfl, hM1, hb1⟩)
  have hbA : Below w1.heap.size w1 (w1.alloc (.cells (madeCells #[.int .i64 0] L) 3)) := (Below.refl _ w1).alloc (Nat.le_refl _) _
  have hRA : PartS (w1.alloc (.cells (madeCells #[.int .i64 0] L) 3)) w1.heap.size L (List.replicate L 0) := by
    have h := BlkS.made w1 L
    exact ⟨_, h, by simp, by simp, by simp⟩
  have HMA := Lib.hid hM1
  have HBA := Lib.hid hbA
  have HRA := Lib.hid hRA
  have hs1 := hb1.size
  clear hM1 hbA hRA hms hmk
  go_loopw [7, 8, 18] (fun _ _ i wr => ∃ (k : Nat), i = .int .i64 (k : Int) ∧ k ≤ L ∧ PartS wr w1.heap.size L (onesL xs ys k ++ List.replicate (L - k) 0) ∧ Below w1.heap.size w1 wr) (fun _ _ i _ => L - (intOf i).toNat)
  case atStart => exact ⟨0, rfl, Nat.zero_le _, HRA.out, HBA.out⟩
  case round =>
    obtain ⟨k, rfl, hkL, hP, hb⟩ := hrel
    have hsz := hb.size
    have HP := Lib.hid hP
    have hPl := hP.lt
    by_cases hlt : k < L
    · have hltI : (k : Int) < (L : Int) := by omega
      obtain ⟨b1, o1, rfl, hc1⟩ := (HA.out.later (hb1.trans (hb.mono hs1))).at (i := k) (by rw [HL.out]; exact hlt)
      have hwx := HA.out.wf.getD k
      have hf := hP.free k
      have hck := hP.cell k (by rw [List.length_append, onesL_len, List.length_replicate]; omega)
      obtain ⟨x, hxe⟩ : ∃ x, xs.getD k 0 = x := ⟨_, rfl⟩
      rw [hxe] at hc1 hwx
      have HXE := Lib.hid hxe
      have HW := Lib.hid hwx
      have hP1 := hP.set k (by rw [List.length_append, onesL_len, List.length_replicate]; omega) x
      have hb2 : Below w1.heap.size w1 (wr.setCell ⟨w1.heap.size, k, none⟩ (.int .i64 x)) := hb.setCell (Nat.le_refl _) _
      have hk := amongL_any (HMA.out.later hb2) hlt
      have hf1 := hP1.free k
      have hck1 := hP1.cell k (by rw [List.length_set, List.length_append, onesL_len, List.length_replicate]; omega)
      have HP1 := Lib.hid hP1
      have HB2 := Lib.hid hb2
      clear hxe hwx hP hP1 hb2
      by_cases hm : (k : Int) ∈ ys
      · rw [decide_eq_true hm] at hk
        have hst : onesL xs ys (k + 1) = onesL xs ys k ++ [1] := by simp only [onesL]; rw [if_pos hm]
        have HST := Lib.hid hst
        clear hm hst
        go_wp2_with fail
        refine hk.mono ?_
        rintro e w3 ⟨rfl, rfl⟩
        go_wp2
        go_roundw
        case rel =>
          refine ⟨k + 1, by go_num, by omega, ?_, HB2.out.setCell (Nat.le_refl _) _⟩
          have h := HP1.out.set k (by rw [List.length_set, List.length_append, onesL_len, List.length_replicate]; omega) 1
          rw [List.set_set, set_midS (onesL_len _ _ _) hlt] at h
          rw [HST.out]
          exact h
        case measure => simp [intOf]; omega
      · rw [decide_eq_false hm] at hk
        have hst : onesL xs ys (k + 1) = onesL xs ys k ++ [x] := by simp only [onesL]; rw [if_neg hm, HXE.out]
        have HST := Lib.hid hst
        clear hm hst
        go_wp2_with fail
        refine hk.mono ?_
        rintro e w3 ⟨rfl, rfl⟩
        go_wp2
        go_roundw
        case rel =>
          refine ⟨k + 1, by go_num, by omega, ?_, HB2.out⟩
          have h := HP1.out
          rw [set_midS (onesL_len _ _ _) hlt] at h
          rw [HST.out]
          exact h
        case measure => simp [intOf]; omega
    · obtain rfl : k = L := by omega
      have hltI : ¬ (k : Int) < (k : Int) := by omega
      clear hP
      go_wp2
      go_ret
      have hp := HP.out
      rw [Nat.sub_self, List.replicate_zero, List.append_nil, HR.out] at hp
      have hrl : r.length = k := by rw [← HR.out]; exact onesL_len _ _ _
      have hn := hp.num (Nat.le_refl _) (by unfold maxLen; omega)
      rw [hrl] at hn
      refine ⟨_, rfl, ⟨hn.mono hs1, ?_⟩, hb1.trans (hb.mono hs1)⟩
      rw [← HR.out]
      exact onesL_wid ys HA.out.wf _
end
section
open Go.RowKit
set_option linter.unusedVariables false
set_option linter.unusedSimpArgs false
/-- the first k numbers of a list are different ones, below L; each one's place is told -/
def SeenP (p : List Int) (L k : Nat) (zs : List Int) : Prop := zs.length = L ∧ (p.take k).Nodup ∧ (∀ x, x ∈ p.take k → 0 ≤ x ∧ x < L) ∧ ∀ j, j < k → zs.getD (p.getD j 0).toNat 0 = (j : Int)
theorem SeenP.nil (p : List Int) (L : Nat) : SeenP p L 0 (List.replicate L 0) := ⟨by simp, by simp, fun x h => by simp at h, fun j hj => by omega⟩
theorem mem_takeS {p : List Int} {j k : Nat} (hj : j < k) (hl : j < p.length) : p.getD j 0 ∈ p.take k := by
  rw [getD_elem hl, List.mem_take_iff_getElem]
  exact ⟨j, by omega, rfl⟩
theorem SeenP.next {p : List Int} {L k m : Nat} {zs : List Int} (h : SeenP p L k zs) (hk : k < p.length) (hx : p[k]? = some (m : Int)) (hm : m < L) (hn : ¬ (m : Int) ∈ p.take k) : SeenP p L (k + 1) (zs.set m (k : Int)) := by
  obtain ⟨h1, h2, h3, h4⟩ := h
  have ht : p.take (k + 1) = p.take k ++ [(m : Int)] := by rw [List.take_add_one, hx]; rfl
  refine ⟨by rw [List.length_set]; exact h1, ?_, fun x hx2 => ?_, fun j hj => ?_⟩
  · rw [ht, List.nodup_append]
    refine ⟨h2, by simp, fun a ha b hb e => ?_⟩
    rw [List.mem_singleton] at hb
    subst hb
    subst e
    exact hn ha
  · rw [ht, List.mem_append, List.mem_singleton] at hx2
    rcases hx2 with g | g
    · exact h3 x g
    · omega
  · by_cases e : j = k
    · subst e
      have e2 : p.getD j 0 = (m : Int) := by rw [List.getD_eq_getElem?_getD, hx]; rfl
      rw [e2, List.getD_eq_getElem?_getD, show (m : Int).toNat = m by omega, List.getElem?_set_self (by omega)]
      rfl
    · have hmem := mem_takeS (p := p) (j := j) (k := k) (by omega) (by omega)
      have hr := h3 _ hmem
      have hne : m ≠ (p.getD j 0).toNat := fun e2 => hn (by rw [e2, show (((p.getD j 0).toNat : Nat) : Int) = p.getD j 0 by omega]; exact hmem)
      rw [List.getD_eq_getElem?_getD, List.getElem?_set_ne hne, ← List.getD_eq_getElem?_getD]
      exact h4 j (by omega)
theorem SeenP.full {p : List Int} {L : Nat} {zs : List Int} (h : SeenP p L L zs) (hL : p.length = L) : IsPerm p ∧ zs = invL p := by
  obtain ⟨h1, h2, h3, h4⟩ := h
  rw [take_all hL] at h2 h3
  have hp := perm_of_all (p := upS L) (q := p) h2 (fun x hx => mem_upS.2 (h3 x hx)) (by rw [upS_length, hL]; exact Nat.le_refl _)
  have ip : IsPerm p := ⟨h2, fun x => by rw [← hp.mem_iff, mem_upS, hL]⟩
  refine ⟨ip, ?_⟩
  apply List.ext_getElem
  · rw [h1, invL_length, hL]
  · intro i g1 g2
    rw [← getD_elem g1, ← getD_elem g2, invL_at p (by omega)]
    have hmem := (ip.mem (i : Int)).2 (by omega)
    have hlt := List.idxOf_lt_length_of_mem hmem
    have hget := List.getElem_idxOf hlt
    have h5 := h4 (p.idxOf (i : Int)) (by omega)
    rw [getD_elem hlt, hget, show ((i : Nat) : Int).toNat = i by omega] at h5
    exact h5
theorem permC_no {p : List Int} (h : ¬ IsPerm p) (r : Int) : permC p r = 11 := by
  unfold permC
  rw [if_neg]
  exact fun e => h (permB_is e).1
theorem permC_yes {p : List Int} (h : IsPerm p) : permC p p.length = 0 := by unfold permC; rw [if_pos (is_permB h)]
theorem invV_no {p : List Int} (h : ¬ IsPerm p) : invV p = [] := by
  unfold invV
  rw [if_neg]
  exact fun e => h (permB_is e).1
theorem invV_yes {p : List Int} (h : IsPerm p) : invV p = invL p := by unfold invV; rw [if_pos (is_permB h)]
theorem not_twice {p : List Int} {k : Nat} (hk : k < p.length) (h : p.getD k 0 ∈ p.take k) : ¬ IsPerm p := by
  intro ip
  have hn := ip.nodup
  rw [← List.take_append_drop k p, List.nodup_append] at hn
  refine hn.2.2 _ h (p.getD k 0) ?_ rfl
  rw [List.drop_eq_getElem_cons hk, getD_elem hk]
  exact List.mem_cons_self ..
set_option maxRecDepth 100000 in
set_option maxHeartbeats 4000000 in
theorem inverseS_any {u : Value} {p : List Int} {a : Option Addr} {ca : Nat} {w : World} (A : ArgS w u p a ca) (ha : a = none → ca = 0) (hx : p.length ≤ 1000) :
    Calls Tryz.prog 304 #[u] w fun e w' => ∃ r, e = .returned (.tuple #[r, .int .i64 (permC p p.length)]) ∧ ResS w.heap.size w' r (invV p) ∧ Below w.heap.size w w' := by
  have HA := Lib.hid A
  obtain rfl := A.is
  obtain ⟨c, hc⟩ : ∃ c, permC p p.length = c := ⟨_, rfl⟩
  obtain ⟨r, hr⟩ : ∃ r, invV p = r := ⟨_, rfl⟩
  have HC := Lib.hid hc
  have HR := Lib.hid hr
  rw [hc, hr]
  obtain ⟨L, hL⟩ : ∃ L, p.length = L := ⟨_, rfl⟩
  have HL := Lib.hid hL
  rw [hL] at hx ⊢
  have hmk1 := make_runM L (by omega)
  have hmk2 := make_runS L (by omega)
  clear A ha hc hr hL
  go_enter Tryz.func304, Tryz.ntmps304
  go_wp2
  have hb0 : Below w.heap.size w ((w.alloc (.cells (madeCells #[.bool false] L) 4)).alloc (.cells (madeCells #[.int .i64 0] L) 3)) := ((Below.refl _ w).alloc (Nat.le_refl _) _).alloc (by simp) _
  have hm0 : MrkS ((w.alloc (.cells (madeCells #[.bool false] L) 4)).alloc (.cells (madeCells #[.int .i64 0] L) 3)) w.heap.size (List.replicate L false) := (MrkS.made w L).alloc _
  have hp0 : PartS ((w.alloc (.cells (madeCells #[.bool false] L) 4)).alloc (.cells (madeCells #[.int .i64 0] L) 3)) (w.heap.size + 1) L (List.replicate L 0) := by
    have h := BlkS.made (w.alloc (.cells (madeCells #[.bool false] L) 4)) L
    simp only [World.size_alloc] at h
    exact ⟨_, h, by simp, by simp, by simp⟩
  have HB0 := Lib.hid hb0
  have HM0 := Lib.hid hm0
  have HP0 := Lib.hid hp0
  clear hb0 hm0 hp0 hmk1 hmk2
  go_loopw [6, 7, 16] (fun _ _ i wr => ∃ (k : Nat) (M : List Bool) (zs : List Int), i = .int .i64 (k : Int) ∧ k ≤ L ∧ MrkS wr w.heap.size M ∧ SeenM p L k M ∧ PartS wr (w.heap.size + 1) L zs ∧ SeenP p L k zs ∧ Below w.heap.size w wr) (fun _ _ i _ => L - (intOf i).toNat)
  case atStart => exact ⟨0, _, _, rfl, Nat.zero_le _, HM0.out, SeenM.nil p L, HP0.out, SeenP.nil p L, HB0.out⟩
  case round =>
    obtain ⟨k, M, zs, rfl, hk, hM, hS, hP, hQ, hb⟩ := hrel
    have hsz := hb.size
    have HMK := Lib.hid hM
    have HS := Lib.hid hS
    have HP := Lib.hid hP
    have HQ := Lib.hid hQ
    clear hS hQ
    by_cases hlt : k < L
    · obtain ⟨b1, o1, rfl, c1⟩ := (HA.out.later hb).at (i := k) (by rw [HL.out]; exact hlt)
      have hxx := getD_some (xs := p) (k := k) (by rw [HL.out]; exact hlt)
      obtain ⟨x, hxe⟩ : ∃ x, p.getD k 0 = x := ⟨_, rfl⟩
      rw [hxe] at c1 hxx
      have HX := Lib.hid hxx
      have HXE := Lib.hid hxe
      have hbw := below_any x (L : Int) wr
      have hltI : (k : Int) < (L : Int) := by omega
      clear hxx hxe
      by_cases hg : 0 ≤ x ∧ x < L
      · obtain ⟨g0, g1⟩ := hg
        rw [belowB_yes g0 g1] at hbw
        obtain ⟨j, rfl⟩ : ∃ j : Nat, x = (j : Int) := ⟨x.toNat, by omega⟩
        have hj : j < L := by omega
        have hf := hM.free j
        have hcj := hM.cell j (by rw [HS.out.1]; exact hj)
        rw [HS.out.2 j hj] at hcj
        by_cases hmem : (j : Int) ∈ p.take k
        · rw [decide_eq_true hmem] at hcj
          have hno : ¬ IsPerm p := not_twice (k := k) (by rw [HL.out]; exact hlt) (by rw [HXE.out]; exact hmem)
          obtain rfl : c = 11 := by rw [← HC.out]; exact permC_no hno _
          obtain rfl : r = [] := by rw [← HR.out]; exact invV_no hno
          clear hM hP hmem hno
          go_wp2_with (go_at_call 227; refine hbw.mono ?_; rintro e w1 ⟨rfl, rfl⟩)
          go_ret2
          exact ⟨_, rfl, ResS.nil _ _, hb⟩
        · rw [decide_eq_false hmem] at hcj
          have hP1 := hP.far (p := ⟨w.heap.size, j, none⟩) (by show w.heap.size + 1 ≠ w.heap.size; omega) (.bool true)
          have hf2 := hP1.free j
          have hc2 := hP1.cell j (by rw [HQ.out.1]; exact hj)
          have HP1 := Lib.hid hP1
          have HME := Lib.hid hmem
          have hkp : k < p.length := by rw [HL.out]; exact hlt
          have HKP := Lib.hid hkp
          clear hM hP hP1 hmem hkp
          go_wp2_with (go_at_call 227; refine hbw.mono ?_; rintro e w1 ⟨rfl, rfl⟩)
          go_roundw
          case rel =>
            refine ⟨k + 1, _, _, by go_num, by omega, ((HMK.out.set j true).far ?_ _), HS.out.mark HX.out hj, HP1.out.set j (by rw [HQ.out.1]; exact hj) (k : Int), HQ.out.next HKP.out HX.out hj HME.out, ?_⟩
            · show w.heap.size ≠ w.heap.size + 1
              omega
            · exact (hb.setCell (Nat.le_refl _) _).setCell (by show w.heap.size ≤ w.heap.size + 1; omega) _
          case measure => simp [intOf]; omega
      · rw [belowB_no (by omega)] at hbw
        have hno : ¬ IsPerm p := fun ip => by
          have h := (ip.mem x).1 (by rw [← HXE.out, getD_elem (by rw [HL.out]; exact hlt)]; exact List.getElem_mem _)
          rw [HL.out] at h
          exact hg h
        obtain rfl : c = 11 := by rw [← HC.out]; exact permC_no hno _
        obtain rfl : r = [] := by rw [← HR.out]; exact invV_no hno
        clear hM hP hno hg
        go_wp2_with (go_at_call 227; refine hbw.mono ?_; rintro e w1 ⟨rfl, rfl⟩)
        go_ret2
        exact ⟨_, rfl, ResS.nil _ _, hb⟩
    · obtain rfl : k = L := by omega
      obtain ⟨ip, hzs⟩ := HQ.out.full HL.out
      obtain rfl : c = 0 := by rw [← HC.out]; exact permC_yes ip
      have hzr : zs = r := by rw [← HR.out, invV_yes ip]; exact hzs
      have hltI : ¬ (k : Int) < (k : Int) := by omega
      have hwid : Wid zs := by
        rw [hzs]
        intro x hx2
        have := (ip.inv.mem x).1 hx2
        rw [invL_length, HL.out] at this
        omega
      have HW := Lib.hid hwid
      clear hM hP ip hzs hwid
      go_wp2
      go_ret2
      have hn := HP.out.num (base := w.heap.size) (by omega) (by unfold maxLen; omega)
      rw [HQ.out.1] at hn
      exact ⟨_, rfl, by rw [← hzr]; exact ⟨hn, HW.out⟩, hb⟩
set_option maxRecDepth 100000 in
set_option maxHeartbeats 2000000 in
theorem permS_any {u : Value} {p : List Int} {a : Option Addr} {ca : Nat} {w : World} (rank : Int) (A : ArgS w u p a ca) (ha : a = none → ca = 0) (hx : p.length ≤ 1000) (h0 : -9223372036854775808 ≤ rank) (h1 : rank ≤ 9223372036854775807) :
    Calls Tryz.prog 302 #[u, .int .i64 rank] w fun e w' => e = .returned (.int .i64 (permC p rank)) ∧ Below w.heap.size w w' := by
  have hv := inverseS_any A ha hx
  obtain rfl := A.is
  obtain ⟨c, hc⟩ : ∃ c, permC p rank = c := ⟨_, rfl⟩
  obtain ⟨d, hd⟩ : ∃ d, permC p p.length = d := ⟨_, rfl⟩
  obtain ⟨z, hz⟩ : ∃ z, invV p = z := ⟨_, rfl⟩
  obtain ⟨m, hm⟩ : ∃ m, max rank 0 = m := ⟨_, rfl⟩
  have h2 : (p.length : Int) ≠ m → c = 11 := fun h => by
    rw [← hc]
    unfold permC
    rw [if_neg]
    intro e
    unfold permB at e
    rw [Bool.and_eq_true, decide_eq_true_iff, decide_eq_true_iff] at e
    exact h (e.2.trans hm)
  have h3 : (p.length : Int) = m → c = d := fun h => by
    rw [← hc, ← hd]
    unfold permC permB
    rw [show max rank 0 = max (p.length : Int) 0 by omega]
  rw [hd, hz] at hv
  rw [hc]
  obtain ⟨L, hL⟩ : ∃ L, p.length = L := ⟨_, rfl⟩
  rw [hL] at hv h2 h3 ⊢
  clear A ha hx hc hd hz hL
  by_cases h : (L : Int) = m
  · obtain rfl := h3 h
    have hne : ((L : Int) != m) = false := by simpa using h
    clear h h2 h3
    go_enter Tryz.func302, Tryz.ntmps302
    go_wp2_with (go_at_call 304; refine hv.mono ?_; rintro e w1 ⟨r, rfl, R, hb⟩)
    all_goals (go_ret; exact ⟨rfl, hb⟩)
  · obtain rfl := h2 h
    have hne : ((L : Int) != m) = true := by simpa using h
    clear h h2 h3
    go_enter Tryz.func302, Tryz.ntmps302
    go_wp2
    all_goals (go_ret; exact ⟨rfl, Below.refl _ _⟩)
end
section
open Go.RowKit
set_option linter.unusedVariables false
set_option linter.unusedSimpArgs false
set_option maxRecDepth 100000 in
set_option maxHeartbeats 4000000 in
theorem slice1_any (a b : Int) (w : World) : Calls Tryz.prog 288 #[.int .i64 a, .int .i64 b] w fun e w' => e = .returned (.bool (slB a b)) ∧ w = w' := by
  obtain ⟨c, hc⟩ : ∃ c, slB a b = c := ⟨_, rfl⟩
  rw [hc]
  by_cases h1 : 0 ≤ a
  · by_cases h2 : a < b
    · obtain rfl : c = true := by rw [← hc]; exact decide_eq_true ⟨h1, h2⟩
      clear hc
      go_enter Tryz.func288, Tryz.ntmps288
      go_wp2_with fail
      go_ret
      exact ⟨rfl, rfl⟩
    · obtain rfl : c = false := by rw [← hc]; exact decide_eq_false (fun h => h2 h.2)
      clear hc
      go_enter Tryz.func288, Tryz.ntmps288
      go_wp2_with fail
      go_ret
      exact ⟨rfl, rfl⟩
  · obtain rfl : c = false := by rw [← hc]; exact decide_eq_false (fun h => h1 h.1)
    clear hc
    go_enter Tryz.func288, Tryz.ntmps288
    go_wp2_with fail
    go_ret
    exact ⟨rfl, rfl⟩
set_option maxRecDepth 100000 in
set_option maxHeartbeats 4000000 in
theorem pad1_any (a b : Int) (w : World) : Calls Tryz.prog 289 #[.int .i64 a, .int .i64 b] w fun e w' => e = .returned (.bool (paB a b)) ∧ w = w' := by
  obtain ⟨c, hc⟩ : ∃ c, paB a b = c := ⟨_, rfl⟩
  rw [hc]
  by_cases h1 : 0 ≤ a
  · by_cases h2 : 0 ≤ b
    · obtain rfl : c = true := by rw [← hc]; exact decide_eq_true ⟨h1, h2⟩
      clear hc
      go_enter Tryz.func289, Tryz.ntmps289
      go_wp2_with fail
      go_ret
      exact ⟨rfl, rfl⟩
    · obtain rfl : c = false := by rw [← hc]; exact decide_eq_false (fun h => h2 h.2)
      clear hc
      go_enter Tryz.func289, Tryz.ntmps289
      go_wp2_with fail
      go_ret
      exact ⟨rfl, rfl⟩
  · obtain rfl : c = false := by rw [← hc]; exact decide_eq_false (fun h => h1 h.1)
    clear hc
    go_enter Tryz.func289, Tryz.ntmps289
    go_wp2_with fail
    go_ret
    exact ⟨rfl, rfl⟩
set_option maxRecDepth 100000 in
set_option maxHeartbeats 4000000 in
theorem pairs_any (v : Value) (F : Nat) (hv : v = .func (.func F) #[] #[]) (w : World) : Calls Tryz.prog 287 #[v] w fun e w' => e = .returned (.func (.func 303) #[] #[.pointer (some ⟨w.heap.size, 0, none⟩)]) ∧ w' = w.alloc (.cells #[v] 146) := by
  subst hv
  go_enter Tryz.func287, Tryz.ntmps287
  go_wp2_with fail
  go_ret
  simp
set_option maxRecDepth 100000 in
set_option maxHeartbeats 4000000 in
theorem pairs1_any {u : Value} {xs : List Int} {a : Option Addr} {ca : Nat} {w : World} (A : ArgS w u xs a ca) (hx : xs.length ≤ 17592186044416) {g F : Nat} (f : Int → Int → Bool) (R : Row w g 146 #[.func (.func F) #[] #[]]) (heF : ∀ args w, (callFunc F args).run Tryz.prog w = .ok (.enter F args) w)
    (hdo : ∀ x y W, Calls Tryz.prog F #[.int .i64 x, .int .i64 y] W fun e w' => e = .returned (.bool (f x y)) ∧ Below W.heap.size W w') : Calls Tryz.prog 303 #[u, .pointer (some ⟨g, 0, none⟩)] w fun e w' => e = .returned (.bool (pairsB f xs)) ∧ Below w.heap.size w w' := by
  have HA := Lib.hid A
  have HDO := Lib.hid hdo
  have HR := Lib.hid R
  obtain rfl := A.is
  obtain ⟨c, hc⟩ : ∃ c, pairsB f xs = c := ⟨_, rfl⟩
  rw [hc]
  obtain ⟨L, hL⟩ : ∃ L, xs.length = L := ⟨_, rfl⟩
  have HL := Lib.hid hL
  have HC := Lib.hid hc
  rw [hL] at hx ⊢
  have hrem : (L : Int).tmod 2 = ((L % 2 : Nat) : Int) := by rw [Int.tmod_eq_emod_of_nonneg (by omega)]; omega
  obtain ⟨d, hd⟩ : ∃ d, L % 2 = d := ⟨_, rfl⟩
  rw [hd] at hrem
  clear A R hdo hc hL
  by_cases h1 : d = 0
  case neg =>
    obtain rfl : c = false := by rw [← HC.out]; unfold pairsB; rw [HL.out]; exact decide_eq_false (fun h => h1 (by omega))
    have h1I : ((d : Int) != 0) = true := by simp [h1]
    clear hd
    go_enter Tryz.func303, Tryz.ntmps303
    go_wp2_with fail
    go_ret
    exact ⟨rfl, Below.refl _ _⟩
  case pos =>
    subst h1
    by_cases h8 : L ≤ 8
    case neg =>
      obtain rfl : c = false := by rw [← HC.out]; unfold pairsB; rw [HL.out]; exact decide_eq_false (fun h => h8 h.2.1)
      have h8I : (L : Int) > 8 := by omega
      clear hd
      go_enter Tryz.func303, Tryz.ntmps303
      go_wp2_with fail
      go_ret
      exact ⟨rfl, Below.refl _ _⟩
    case pos =>
      have h8I : ¬ (L : Int) > 8 := by omega
      have HD := Lib.hid hd
      clear hd
      go_enter Tryz.func303, Tryz.ntmps303
      go_wp2_with fail
      clear hrem h8I
      go_loopw [4] (fun i wr => ∃ k : Nat, i = .int .i64 ((2 * k : Nat) : Int) ∧ 2 * k ≤ L ∧ (∀ j, j < k → f (xs.getD (2 * j) 0) (xs.getD (2 * j + 1) 0) = true) ∧ Below w.heap.size w wr) (fun i _ => L - (intOf i).toNat)
      case atStart => exact ⟨0, rfl, by omega, fun j hj => by omega, Below.refl _ _⟩
      case round =>
        obtain ⟨k, rfl, hk, hall, hbr⟩ := hrel
        have HALL := Lib.hid hall
        have HBR := Lib.hid hbr
        obtain ⟨p, hp⟩ : ∃ p, 2 * k = p := ⟨_, rfl⟩
        have HP := Lib.hid hp
        rw [hp] at hk ⊢
        clear hall hbr hp
        by_cases hlt : p < L
        · have hltI : (p : Int) < (L : Int) := by omega
          obtain ⟨s, hs⟩ : ∃ s, p + 1 = s := ⟨_, rfl⟩
          have hsL : s < L := by have h1 := HD.out; have h2 := HP.out; omega
          have hsI : (p : Int) + 1 = (s : Int) := by omega
          have hsLI : (s : Int) < (L : Int) := by omega
          have hp0 : (0 : Int) ≤ (p : Int) := by omega
          have hs0 : (0 : Int) ≤ (s : Int) := by omega
          obtain ⟨b, o, rfl, c0⟩ := (HA.out.later HBR.out).at (i := p) (by rw [HL.out]; omega)
          obtain ⟨b', o', he, c1⟩ := (HA.out.later HBR.out).at (i := s) (by rw [HL.out]; omega)
          simp only [Option.some.injEq, Addr.mk.injEq, and_true] at he
          obtain ⟨rfl, rfl⟩ := he
          obtain ⟨x, hxe⟩ : ∃ x, xs.getD p 0 = x := ⟨_, rfl⟩
          obtain ⟨y, hye⟩ : ∃ y, xs.getD s 0 = y := ⟨_, rfl⟩
          rw [hxe] at c0
          rw [hye] at c1
          have l0 := World.block_lt_of_cell? _ _ c0
          have l1 := World.block_lt_of_cell? _ _ c1
          have MK := Lib.hid (show ∀ X, Below wr.heap.size wr X → X.cell? ⟨g, 0, none⟩ = some (.func (.func F) #[] #[]) ∧ X.cell? ⟨b, o + p, none⟩ = some (.int .i64 x) ∧ X.cell? ⟨b, o + s, none⟩ = some (.int .i64 y) from fun X h => ⟨((HR.out.later HBR.out).later h).cell 0, (h.cell l0).trans c0, (h.cell l1).trans c1⟩)
          have HXE := Lib.hid hxe
          have HYE := Lib.hid hye
          have HS := Lib.hid hs
          obtain ⟨t, ht⟩ : ∃ t, f x y = t := ⟨_, rfl⟩
          have HT := Lib.hid ht
          have B0 : Below wr.heap.size wr wr.drew := (Below.refl _ _).drew
          have wp4 : p ≤ 4096 := by omega
          have ws : IntKind.i64.wrap (s : Int) = (s : Int) := IntWalk.i64_in _ (by omega)
          clear c0 c1 hxe hye l0 l1 hs ht
          go_wp2_with fail
          refine wp_region_held_drew (S := fun X => X.cell? ⟨g, 0, none⟩ = some (.func (.func F) #[] #[]) ∧ X.cell? ⟨b, o + p, none⟩ = some (.int .i64 x) ∧ X.cell? ⟨b, o + s, none⟩ = some (.int .i64 y)) (by kernel_rfl) (MK.out _ B0) (fun hHeld => ?_)
          obtain ⟨y0, hdrh⟩ : ∃ Y, wr.drew = Y := ⟨_, rfl⟩
          rw [hdrh] at B0 hHeld ⊢
          clear hdrh
          refine todo [0, 1, 2, 3, 4, 5, 6, 7, 8, 9] ?_
          iterate 10
           first
           | (refine todoH (v := ?_) rfl (by kernel_rfl) (fun _ _ _ h => h) (by assumption) (Or.inl ⟨by rfl, ?_⟩) ?_
              rotate_left
              · intro w hSw; (try dsimp only at hSw); go_simp; (try with_reducible rfl)
              try simp only [Act.put, List.getElem_toArray, List.getElem_cons_succ, List.getElem_cons_zero, List.setIfInBounds_toArray, List.set_cons_zero, List.set_cons_succ])
           | (refine todoH (v := undef) rfl (by kernel_rfl) (fun _ _ _ h => h) (by assumption) (Or.inr ⟨by rfl, rfl⟩) ?_
              try simp only [Act.put, List.getElem_toArray, List.getElem_cons_succ, List.getElem_cons_zero, List.setIfInBounds_toArray, List.set_cons_zero, List.set_cons_succ])
          refine todone ?_
          refine wpAnyH_ready (rs := [10]) (by kernel_rfl) (by simp) ?_
          refine AllReadyH.cons rfl (fun K hK => ?sh_10) AllReadyH.nil
          go_simp
          refine (HDO.out x y _).mono ?_
          rintro e y1 ⟨rfl, hy⟩
          have B1 : Below wr.heap.size wr y1 := B0.trans (hy.mono B0.size)
          have Dh1 := hy
          clear hy
          go_simp
          refine hK.out _ _ (MK.out _ B1) (fun hHeld2 => ?mh_10)
          clear hK K hHeld
          have hHeld := hHeld2
          clear hHeld2
          try simp only [Act.put, List.getElem_toArray, List.getElem_cons_succ, List.getElem_cons_zero, List.setIfInBounds_toArray, List.set_cons_zero, List.set_cons_succ]
          refine todo [11] ?_
          iterate 1
           first
           | (refine todoH (v := ?_) rfl (by kernel_rfl) (fun _ _ _ h => h) (by assumption) (Or.inl ⟨by rfl, ?_⟩) ?_
              rotate_left
              · intro w hSw; (try dsimp only at hSw); go_simp; (try with_reducible rfl)
              try simp only [Act.put, List.getElem_toArray, List.getElem_cons_succ, List.getElem_cons_zero, List.setIfInBounds_toArray, List.set_cons_zero, List.set_cons_succ])
           | (refine todoH (v := undef) rfl (by kernel_rfl) (fun _ _ _ h => h) (by assumption) (Or.inr ⟨by rfl, rfl⟩) ?_
              try simp only [Act.put, List.getElem_toArray, List.getElem_cons_succ, List.getElem_cons_zero, List.setIfInBounds_toArray, List.set_cons_zero, List.set_cons_succ])
          refine todone ?_
          refine wpAnyH_done (by kernel_rfl) ?_ _
          (try dsimp only [Straight])
          rw [HT.out]
          cases t with
          | false =>
            obtain rfl : c = false := by
              rw [← HC.out]
              unfold pairsB
              refine decide_eq_false (fun h => ?_)
              have h3 := h.2.2 k (by rw [HL.out]; have h2 := HP.out; omega) (by rw [HL.out]; have h2 := HP.out; have h4 := HS.out; omega)
              rw [HP.out, HS.out, HXE.out, HYE.out, HT.out] at h3
              cases h3
            go_wp2_with fail
            go_ret
            exact ⟨rfl, HBR.out.trans (B1.mono HBR.out.size)⟩
          | true =>
            have wp2 : IntKind.i64.wrap ((p : Int) + 2) = (p : Int) + 2 := IntWalk.i64_in _ (by omega)
            go_wp2_with fail
            go_roundw
            case rel =>
              refine ⟨k + 1, by have h2 := HP.out; first | (congr 1; omega) | (refine congrArg (Value.int .i64) ?_; omega), by have h2 := HP.out; have h3 := HS.out; omega, fun j hj => ?_, HBR.out.trans (B1.mono HBR.out.size)⟩
              by_cases hjk : j < k
              · exact HALL.out j hjk
              · obtain rfl : j = k := by omega
                rw [HP.out, HS.out, HXE.out, HYE.out, HT.out]
            case measure => simp [intOf]; omega
        · obtain rfl : p = L := by omega
          have hltI : ¬ (p : Int) < (p : Int) := by omega
          obtain rfl : c = true := by
            rw [← HC.out]
            unfold pairsB
            exact decide_eq_true ⟨by rw [HL.out]; exact HD.out, by rw [HL.out]; omega, fun j _ hj => HALL.out j (by rw [HL.out] at hj; have h2 := HP.out; omega)⟩
          go_wp2_with fail
          go_ret
          exact ⟨rfl, HBR.out⟩
theorem set_mid11 {A : List Int} {k n : Nat} {x : Int} (hA : A.length = k) (hk : k < n) : (A ++ List.replicate (n - k) 0).set k x = (A ++ [x]) ++ List.replicate (n - (k + 1)) 0 := by
  subst hA
  obtain ⟨m, rfl⟩ : ∃ m, n = A.length + 1 + m := ⟨n - (A.length + 1), by omega⟩
  rw [show A.length + 1 + m - A.length = m + 1 by omega, show A.length + 1 + m - (A.length + 1) = m by omega, List.replicate_succ]
  simp
set_option maxRecDepth 100000 in
set_option maxHeartbeats 4000000 in
theorem forward_any {n : Nat} (hn : n ≤ 4) (w : World) : Calls Tryz.prog 286 #[.int .i64 (n : Int)] w fun e w' => ∃ r, e = .returned r ∧ ResS w.heap.size w' r (fwdI (n : Int)) ∧ Below w.heap.size w w' := by
  obtain ⟨r, hr⟩ : ∃ r, (List.range n).map (fun k : Nat => (k : Int)) = r := ⟨_, rfl⟩
  have hr2 : fwdI (n : Int) = r := by rw [← hr]; unfold fwdI; rw [Int.toNat_natCast]
  rw [hr2]
  have hwr : Wid r := by
    rw [← hr]
    intro x hx
    obtain ⟨i, hi, rfl⟩ := List.mem_map.1 hx
    have := List.mem_range.1 hi
    (try dsimp only)
    omega
  have hrl : r.length = n := by rw [← hr]; simp
  have HR := Lib.hid hr
  have HWR := Lib.hid hwr
  have HRL := Lib.hid hrl
  have hmk := make_runS n (by omega)
  clear hr hr2 hwr hrl
  go_enter Tryz.func286, Tryz.ntmps286
  go_wp2_with fail
  have hbA : Below w.heap.size w (w.alloc (.cells (madeCells #[.int .i64 0] n) 3)) := (Below.refl _ w).alloc (Nat.le_refl _) _
  have hRA : PartS (w.alloc (.cells (madeCells #[.int .i64 0] n) 3)) w.heap.size n (List.replicate n 0) := by
    have h := BlkS.made w n
    exact ⟨_, h, by simp, by simp, by simp⟩
  have HBA := Lib.hid hbA
  have HRA := Lib.hid hRA
  clear hbA hRA hmk
  go_loopw [4, 9] (fun _ i wr => ∃ (k : Nat), i = .int .i64 (k : Int) ∧ k ≤ n ∧ PartS wr w.heap.size n ((List.range k).map (fun k : Nat => (k : Int)) ++ List.replicate (n - k) 0) ∧ Below w.heap.size w wr) (fun _ i _ => n - (intOf i).toNat)
  case atStart => exact ⟨0, rfl, Nat.zero_le _, HRA.out, HBA.out⟩
  case round =>
    obtain ⟨k, rfl, hkn, hP, hb⟩ := hrel
    have HP := Lib.hid hP
    by_cases hlt : k < n
    · have hltI : (k : Int) < (n : Int) := by omega
      have hf := hP.free k
      have hck := hP.cell k (by rw [List.length_append, List.length_map, List.length_range, List.length_replicate]; omega)
      have hst : (List.range (k + 1)).map (fun k : Nat => (k : Int)) = (List.range k).map (fun k : Nat => (k : Int)) ++ [(k : Int)] := by rw [List.range_succ, List.map_append]; rfl
      have HST := Lib.hid hst
      have hlk : ((List.range k).map (fun k : Nat => (k : Int))).length = k := by simp
      have HLK := Lib.hid hlk
      have h1 := HP.out.set k (by rw [List.length_append, hlk, List.length_replicate]; omega) ((k : Int))
      rw [set_mid11 hlk hlt, ← hst] at h1
      have H1 := Lib.hid h1
      clear hst hlk h1 hP
      go_wp2_with fail
      go_roundw
      case rel => exact ⟨k + 1, by go_num, by omega, H1.out, hb.setCell (Nat.le_refl _) _⟩
      case measure => simp [intOf]; omega
    · obtain rfl : k = n := by omega
      have hltI : ¬ (k : Int) < (k : Int) := by omega
      rw [Nat.sub_self, HR.out] at hP
      simp only [List.replicate_zero, List.append_nil] at hP
      have hN := hP.num (base := w.heap.size) (Nat.le_refl _) (by unfold maxLen; omega)
      rw [HRL.out] at hN
      have HN := Lib.hid hN
      clear hN hP
      go_wp2_with fail
      go_ret
      exact ⟨_, rfl, ⟨HN.out, HWR.out⟩, hb⟩
set_option maxRecDepth 100000 in
set_option maxHeartbeats 4000000 in
theorem backward_any {n : Nat} (hn : n ≤ 4) (w : World) : Calls Tryz.prog 283 #[.int .i64 (n : Int)] w fun e w' => ∃ r, e = .returned r ∧ ResS w.heap.size w' r (bwdI (n : Int)) ∧ Below w.heap.size w w' := by
  obtain ⟨r, hr⟩ : ∃ r, (List.range n).map (fun k : Nat => (n : Int) - 1 - (k : Int)) = r := ⟨_, rfl⟩
  have hr2 : bwdI (n : Int) = r := by rw [← hr]; unfold bwdI; rw [Int.toNat_natCast]
  rw [hr2]
  have hwr : Wid r := by
    rw [← hr]
    intro x hx
    obtain ⟨i, hi, rfl⟩ := List.mem_map.1 hx
    have := List.mem_range.1 hi
    (try dsimp only)
    omega
  have hrl : r.length = n := by rw [← hr]; simp
  have HR := Lib.hid hr
  have HWR := Lib.hid hwr
  have HRL := Lib.hid hrl
  have hmk := make_runS n (by omega)
  clear hr hr2 hwr hrl
  go_enter Tryz.func283, Tryz.ntmps283
  go_wp2_with fail
  have hbA : Below w.heap.size w (w.alloc (.cells (madeCells #[.int .i64 0] n) 3)) := (Below.refl _ w).alloc (Nat.le_refl _) _
  have hRA : PartS (w.alloc (.cells (madeCells #[.int .i64 0] n) 3)) w.heap.size n (List.replicate n 0) := by
    have h := BlkS.made w n
    exact ⟨_, h, by simp, by simp, by simp⟩
  have HBA := Lib.hid hbA
  have HRA := Lib.hid hRA
  clear hbA hRA hmk
  go_loopw [4, 9] (fun _ i wr => ∃ (k : Nat), i = .int .i64 (k : Int) ∧ k ≤ n ∧ PartS wr w.heap.size n ((List.range k).map (fun k : Nat => (n : Int) - 1 - (k : Int)) ++ List.replicate (n - k) 0) ∧ Below w.heap.size w wr) (fun _ i _ => n - (intOf i).toNat)
  case atStart => exact ⟨0, rfl, Nat.zero_le _, HRA.out, HBA.out⟩
  case round =>
    obtain ⟨k, rfl, hkn, hP, hb⟩ := hrel
    have HP := Lib.hid hP
    by_cases hlt : k < n
    · have hltI : (k : Int) < (n : Int) := by omega
      have hf := hP.free k
      have hck := hP.cell k (by rw [List.length_append, List.length_map, List.length_range, List.length_replicate]; omega)
      have hst : (List.range (k + 1)).map (fun k : Nat => (n : Int) - 1 - (k : Int)) = (List.range k).map (fun k : Nat => (n : Int) - 1 - (k : Int)) ++ [(n : Int) - 1 - (k : Int)] := by rw [List.range_succ, List.map_append]; rfl
      have HST := Lib.hid hst
      have hlk : ((List.range k).map (fun k : Nat => (n : Int) - 1 - (k : Int))).length = k := by simp
      have HLK := Lib.hid hlk
      have h1 := HP.out.set k (by rw [List.length_append, hlk, List.length_replicate]; omega) ((n : Int) - 1 - (k : Int))
      rw [set_mid11 hlk hlt, ← hst] at h1
      have H1 := Lib.hid h1
      clear hst hlk h1 hP
      go_wp2_with fail
      go_roundw
      case rel => exact ⟨k + 1, by go_num, by omega, H1.out, hb.setCell (Nat.le_refl _) _⟩
      case measure => simp [intOf]; omega
    · obtain rfl : k = n := by omega
      have hltI : ¬ (k : Int) < (k : Int) := by omega
      rw [Nat.sub_self, HR.out] at hP
      simp only [List.replicate_zero, List.append_nil] at hP
      have hN := hP.num (base := w.heap.size) (Nat.le_refl _) (by unfold maxLen; omega)
      rw [HRL.out] at hN
      have HN := Lib.hid hN
      clear hN hP
      go_wp2_with fail
      go_ret
      exact ⟨_, rfl, ⟨HN.out, HWR.out⟩, hb⟩
end
end Go.Proofs.YtjgiacghlkkjfaaGreatDoor
