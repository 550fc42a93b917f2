/-
  Package shape as it landed: rows of marks; among, Drop, Ones.
-/
import Derived.Test.YthlohkehacnolaaSCode3
import Derived.Test.YthlohkehacnolaaSCellz
namespace Go.Proofs.Ythlohkehacnolaa
open Go.RowKit
set_option linter.unusedVariables false
set_option linter.unusedSimpArgs false

/-- a block of marks, known whole -/
def MrkS (w : World) (g : Nat) (zs : List Bool) : Prop := w.heap[g]? = some (.cells (zs.map Value.bool).toArray 4 (0, 0))
theorem MrkS.cell {w : World} {g : Nat} {zs : List Bool} (h : MrkS w g zs) (i : Nat) (hi : i < zs.length) : w.cell? ⟨g, i, none⟩ = some (.bool (zs.getD i false)) := by
  have e : w.cell? ⟨g, i, none⟩ = ((zs.map Value.bool).toArray)[i]? := cell_of_row w g i _ 4 (0, 0) h
  rw [e]; simp [hi]
theorem MrkS.free {w : World} {g : Nat} {zs : List Bool} (h : MrkS w g zs) (i : Nat) : w.frozen? ⟨g, i, none⟩ = false := frozen_of_row w g i _ 4 h
theorem MrkS.lt {w : World} {g : Nat} {zs : List Bool} (h : MrkS w g zs) : g < w.heap.size := lt_of_block h
theorem MrkS.same {w w' : World} {g : Nat} {zs : List Bool} (h : MrkS w g zs) (e : w'.heap[g]? = w.heap[g]?) : MrkS w' g zs := e.trans h
theorem MrkS.alloc {w : World} {g : Nat} {zs : List Bool} (h : MrkS w g zs) (o : Obj) : MrkS (w.alloc o) g zs := h.same (Below.heap_alloc _ _ _ h.lt)
theorem MrkS.below {w w' : World} {g B : Nat} {zs : List Bool} (h : MrkS w g zs) (k : Below B w w') (hb : g < B) : MrkS w' g zs := h.same (k.block g hb)
theorem MrkS.far {w : World} {g : Nat} {zs : List Bool} (h : MrkS w g zs) {p : Addr} (hne : g ≠ p.block) (u : Value) : MrkS (w.setCell p u) g zs := h.same (Below.heap_setCell _ _ _ _ hne)
theorem MrkS.set {w : World} {g : Nat} {zs : List Bool} (h : MrkS w g zs) (i : Nat) (x : Bool) : MrkS (w.setCell ⟨g, i, none⟩ (.bool x)) g (zs.set i x) := by
  have hh := heap_setCell_same w g i _ 4 (.bool x) h
  unfold MrkS
  rw [hh]
  congr 2
  simp [List.map_set]
theorem MrkS.made (w : World) (n : Nat) : MrkS (w.alloc (.cells (madeCells #[.bool false] n) 4)) w.heap.size (List.replicate n false) := by
  have h := heap_alloc_new w (.cells (madeCells #[.bool false] n) 4)
  unfold MrkS
  rw [h]
  congr 2
  apply Array.ext
  · simp [madeCells]
  · intro i h1 h2
    simp [madeCells, Nat.mod_one]
theorem infoM : (Try.prog.info? 4).map (fun i => (i.zero, i.size, i.bytes)) = some (some (.bool false), 1, 1) := by kernel_rfl
theorem make_runM (n : Nat) (hc : n ≤ 17592186044416) (w : World) :
    (Instr.makeSlice 61 (.int .i64 (n : Int)) (.int .i64 (n : Int))).run Try.prog w = .ok (.slice (some ⟨w.heap.size, 0, none⟩) n n) (w.alloc (.cells (madeCells #[.bool false] n) 4)) := by
  obtain ⟨i0, hi, hz0, hz1, hz2⟩ := info_parts infoM
  have h := run_make (P := Try.prog) w 61 4 i0 (.bool false) Try.underlying61 hi hz0 .i64 .i64 n n (by omega) (by omega) (by rw [hz2]; omega) (by omega)
  simpa [hz1, Value.cells] using h
theorem make_runH (n m : Nat) (hm : n ≤ m) (hc : m ≤ 17592186044416) (w : World) :
    (Instr.makeSlice 23 (.int .i64 (n : Int)) (.int .i64 (m : Int))).run Try.prog w = .ok (.slice (some ⟨w.heap.size, 0, none⟩) n m) (w.alloc (.cells (madeCells #[.int .i64 0] m) 3)) := by
  obtain ⟨i0, hi, hz0, hz1, hz2⟩ := info_parts infoS
  have h := run_make (P := Try.prog) w 23 3 i0 (.int .i64 0) Try.underlying23 hi hz0 .i64 .i64 n m (by omega) (by omega) (by rw [hz2]; omega) (by omega)
  simpa [hz1, Value.cells] using h

/-- a list's numbers are marked, below n -/
def MarkS (w : World) (p n : Nat) (l : List Int) : Prop := ∃ g, w.cell? ⟨p, 0, none⟩ = some (.slice (some ⟨g, 0, none⟩) n n) ∧ ∀ i, i < n → w.cell? ⟨g, i, none⟩ = some (.bool (decide ((i : Int) ∈ l)))
theorem MarkS.later {w w' : World} {p n : Nat} {l : List Int} (h : MarkS w p n l) (hb : Below w.heap.size w w') : MarkS w' p n l := by
  obtain ⟨g, h1, h2⟩ := h
  exact ⟨g, (hb.cell (World.block_lt_of_cell? w _ h1)).trans h1, fun i hi => (hb.cell (World.block_lt_of_cell? w _ (h2 i hi))).trans (h2 i hi)⟩
/-- the marks, when the first k numbers have been seen -/
def SeenM (l : List Int) (n k : Nat) (M : List Bool) : Prop := M.length = n ∧ ∀ i, i < n → M.getD i false = decide ((i : Int) ∈ l.take k)
theorem SeenM.nil (l : List Int) (n : Nat) : SeenM l n 0 (List.replicate n false) := ⟨by simp, fun i hi => by simp [List.getD_eq_getElem?_getD, hi]⟩
theorem mem_next {l : List Int} {k : Nat} {x y : Int} (hx : l[k]? = some x) : y ∈ l.take (k + 1) ↔ y ∈ l.take k ∨ y = x := by
  rw [List.take_add_one, hx, Option.toList_some, List.mem_append, List.mem_singleton]
theorem SeenM.skip {l : List Int} {n k : Nat} {M : List Bool} {x : Int} (h : SeenM l n k M) (hx : l[k]? = some x) (ho : x < 0 ∨ (n : Int) ≤ x) : SeenM l n (k + 1) M := by
  refine ⟨h.1, fun i hi => ?_⟩
  rw [h.2 i hi]
  apply decide_eq_decide.2
  rw [mem_next hx]
  exact ⟨.inl, fun h => h.elim id fun e => by omega⟩
theorem SeenM.mark {l : List Int} {n k j : Nat} {M : List Bool} (h : SeenM l n k M) (hx : l[k]? = some (j : Int)) (hj : j < n) : SeenM l n (k + 1) (M.set j true) := by
  refine ⟨by rw [List.length_set]; exact h.1, fun i hi => ?_⟩
  by_cases e : i = j
  · subst e
    rw [List.getD_eq_getElem?_getD, List.getElem?_set_self (by rw [h.1]; exact hi)]
    exact (decide_eq_true ((mem_next hx).2 (.inr rfl))).symm
  · rw [List.getD_eq_getElem?_getD, List.getElem?_set_ne (by omega), ← List.getD_eq_getElem?_getD, h.2 i hi]
    apply decide_eq_decide.2
    rw [mem_next hx]
    exact ⟨.inl, fun h => h.elim id fun e2 => by omega⟩

set_option maxRecDepth 100000 in
set_option maxHeartbeats 2000000 in
theorem amongL_any {p n i : Nat} {l : List Int} {w : World} (M : MarkS w p n l) (hi : i < n) :
    Calls Try.prog 50 #[.int .i64 (i : Int), .pointer (some ⟨p, 0, none⟩)] w fun e w' => e = .returned (.bool (decide ((i : Int) ∈ l))) ∧ w = w' := by
  obtain ⟨g, h1, h2⟩ := M
  have h3 := h2 i hi
  have hiI : (i : Int) < (n : Int) := by omega
  obtain ⟨b, hb⟩ : ∃ b, decide ((i : Int) ∈ l) = b := ⟨_, rfl⟩
  rw [hb] at h3 ⊢
  clear h2 hb
  go_enter Try.func50, Try.ntmps50
  go_wp2
  go_ret
  exact ⟨rfl, rfl⟩

set_option maxRecDepth 100000 in
set_option maxHeartbeats 2000000 in
theorem among_any {u : Value} {l : List Int} {a : Option Addr} {ca : Nat} {w : World} (n : Nat) (A : ArgS w u l a ca) (hn : n ≤ 17592186044416) (hl : l.length ≤ 17592186044416) :
    Calls Try.prog 48 #[u, .int .i64 (n : Int)] w fun e w' => ∃ p, e = .returned (.func (.func 50) #[] #[.pointer (some ⟨p, 0, none⟩)]) ∧ MarkS w' p n l ∧ Below w.heap.size w w' := by
  have HA := Lib.hid A
  obtain rfl := A.is
  obtain ⟨L, hL⟩ : ∃ L, l.length = L := ⟨_, rfl⟩
  have HL := Lib.hid hL
  have hmk := make_runM n hn
  have hmf : ∀ (fn : Fn) (first cap : Array Value) (w : World), (Instr.makeFunc fn first cap).run Try.prog w = .ok (.func fn first cap) w := fun _ _ _ _ => rfl
  rw [hL] at hl ⊢
  clear A hL
  go_enter Try.func48, Try.ntmps48
  go_wp2
  have hb0 : Below w.heap.size w ((w.alloc (.cells (madeCells #[.bool false] n) 4)).alloc (.cells #[.slice (some ⟨w.heap.size, 0, none⟩) n n] 61)) := ((Below.refl _ w).alloc (Nat.le_refl _) _).alloc (by simp) _
  have hm0 : MrkS ((w.alloc (.cells (madeCells #[.bool false] n) 4)).alloc (.cells #[.slice (some ⟨w.heap.size, 0, none⟩) n n] 61)) w.heap.size (List.replicate n false) := (MrkS.made w n).alloc _
  have hc0 : ((w.alloc (.cells (madeCells #[.bool false] n) 4)).alloc (.cells #[.slice (some ⟨w.heap.size, 0, none⟩) n n] 61)).cell? ⟨w.heap.size + 1, 0, none⟩ = some (.slice (some ⟨w.heap.size, 0, none⟩) n n) := by
    simp
  have HB0 := Lib.hid hb0
  have HM0 := Lib.hid hm0
  have HC0 := Lib.hid hc0
  clear hb0 hm0 hc0
  go_loopw [7, 12] (fun _ i wr => ∃ (k : Nat) (M : List Bool), i = .int .i64 (k : Int) ∧ k ≤ L ∧ MrkS wr w.heap.size M ∧ SeenM l n k M ∧ wr.cell? ⟨w.heap.size + 1, 0, none⟩ = some (.slice (some ⟨w.heap.size, 0, none⟩) n n) ∧ Below w.heap.size w wr) (fun _ i _ => L - (intOf i).toNat)
  case atStart => exact ⟨0, _, rfl, Nat.zero_le _, HM0.out, SeenM.nil l n, HC0.out, HB0.out⟩
  case round =>
    obtain ⟨k, M, rfl, hk, hM, hS, hc, hb⟩ := hrel
    have hsz := hb.size
    have HMK := Lib.hid hM
    have HS := Lib.hid hS
    have HCC := Lib.hid hc
    by_cases hlt : k < L
    · obtain ⟨b1, o1, rfl, c1⟩ := (HA.out.later hb).at (i := k) (by rw [HL.out]; exact hlt)
      have hxx := getD_some (xs := l) (k := k) (by rw [HL.out]; exact hlt)
      obtain ⟨x, hxe⟩ : ∃ x, l.getD k 0 = x := ⟨_, rfl⟩
      rw [hxe] at c1 hxx
      have HX := Lib.hid hxx
      have hbw := below_any x (n : Int) wr
      have hltI : (k : Int) < (L : Int) := by omega
      clear hxx hxe hS
      by_cases hg : 0 ≤ x ∧ x < n
      · obtain ⟨g0, g1⟩ := hg
        rw [belowB_yes g0 g1] at hbw
        obtain ⟨j, rfl⟩ : ∃ j : Nat, x = (j : Int) := ⟨x.toNat, by omega⟩
        have hj : j < n := by omega
        have hf := hM.free j
        have hcj := hM.cell j (by rw [HS.out.1]; exact hj)
        clear hM
        go_wp2_with (go_at_call 42; refine hbw.mono ?_; rintro e w1 ⟨rfl, rfl⟩)
        go_roundw
        case rel =>
          refine ⟨k + 1, _, by go_num, by omega, HMK.out.set j true, HS.out.mark HX.out hj, ?_, ?_⟩
          · rw [World.cell?_of_block (Below.heap_setCell _ _ _ _ (by show w.heap.size + 1 ≠ w.heap.size; omega))]; exact HCC.out
          · exact hb.setCell (Nat.le_refl _) _
        case measure => simp [intOf]; omega
      · rw [belowB_no (by omega)] at hbw
        clear hM
        go_wp2_with (go_at_call 42; refine hbw.mono ?_; rintro e w1 ⟨rfl, rfl⟩)
        go_roundw
        case rel => exact ⟨k + 1, M, by go_num, by omega, HMK.out, HS.out.skip HX.out (by omega), HCC.out, hb⟩
        case measure => simp [intOf]; omega
    · obtain rfl : k = L := by omega
      have hltI : ¬ (k : Int) < (k : Int) := by omega
      clear hM hS hc
      go_wp2
      go_ret
      refine ⟨_, rfl, ⟨_, HCC.out, fun i hi => ?_⟩, hb⟩
      have h1 := HMK.out.cell i (by rw [HS.out.1]; exact hi)
      have h2 := HS.out.2 i hi
      rw [take_all HL.out] at h2
      rw [h1, h2]

set_option maxRecDepth 100000 in
set_option maxHeartbeats 4000000 in
theorem dropC_any {u v : Value} {xs ys : List Int} {a b : Option Addr} {ca cb : Nat} {w : World} (A : ArgS w u xs a ca) (B : ArgS w v ys b cb) (ha : a = none → ca = 0) (hb : b = none → cb = 0) (hx : xs.length ≤ 17592186044416) (hy : ys.length ≤ 17592186044416) :
    Calls Try.prog 36 #[u, v] w fun e w' => ∃ r, e = .returned r ∧ ResS w.heap.size w' r (dropS xs ys) ∧ Below w.heap.size w w' := by
  obtain ⟨i0, hi, hz0, hz1, hz2⟩ := info_parts infoS
  have hms := among_any xs.length B hx hy
  have HA := Lib.hid A
  obtain rfl := A.is
  obtain rfl := B.is
  obtain ⟨L, hL⟩ : ∃ L, xs.length = L := ⟨_, rfl⟩
  obtain ⟨T, hT⟩ : ∃ T, ys.length = T := ⟨_, rfl⟩
  obtain ⟨r, hr⟩ : ∃ r, dropS xs ys = r := ⟨_, rfl⟩
  have HL := Lib.hid hL
  have hr2 : dropL xs ys L = r := by rw [← hr]; unfold dropS; rw [hL]
  have HR := Lib.hid hr2
  have hmk : ∀ w : World, (Instr.makeSlice 23 (.int .i64 0) (.int .i64 (L : Int))).run Try.prog w = .ok (.slice (some ⟨w.heap.size, 0, none⟩) 0 L) (w.alloc (.cells (madeCells #[.int .i64 0] L) 3)) := make_runH 0 L (Nat.zero_le _) (by omega)
  rw [hL] at hx hms
  rw [hT] at hms
  rw [hL, hT, hr]
  clear A B ha hb hL hT hr hr2 hy
  go_enter Try.func36, Try.ntmps36
  go_wp2_with (go_at_call 48; refine hms.mono ?_; rintro e w1 ⟨p, rfl, hM1, hb1⟩)
  have hbA : Below w1.heap.size w1 (w1.alloc (.cells (madeCells #[.int .i64 0] L) 3)) := (Below.refl _ w1).alloc (Nat.le_refl _) _
  have hRA : ResS w1.heap.size (w1.alloc (.cells (madeCells #[.int .i64 0] L) 3)) (.slice (some ⟨w1.heap.size, 0, none⟩) 0 L) [] := by
    have h := NumS.ofBlk (BlkS.made w1 L) (Nat.le_refl _) 0 (Nat.zero_le _) (by rw [List.length_replicate]; unfold maxLen; omega)
    rw [List.length_replicate, List.take_zero] at h
    exact ⟨h, Wid.nil⟩
  have HMA := Lib.hid hM1
  have HBA := Lib.hid hbA
  have HRA := Lib.hid hRA
  have hs1 := hb1.size
  clear hM1 hbA hRA hms hmk
  go_loopw [6, 7, 8, 18] (fun s _ _ i wr => ∃ (k : Nat) (zs : List Int), i = .int .i64 (k : Int) ∧ k ≤ L ∧ ResS w1.heap.size wr s zs ∧ zs.length ≤ k ∧ dropL xs ys k = zs ∧ Below w1.heap.size w1 wr) (fun _ _ _ i _ => L - (intOf i).toNat)
  case atStart => exact ⟨0, [], rfl, Nat.zero_le _, HRA.out, Nat.le_refl _, rfl, HBA.out⟩
  case round =>
    obtain ⟨k, zs, rfl, hkL, R, hzl, hz, hb⟩ := hrel
    have hsz := hb.size
    have HZ := Lib.hid hz
    clear hz
    by_cases hlt : k < L
    · have hk := amongL_any (HMA.out.later hb) hlt
      have hltI : (k : Int) < (L : Int) := by omega
      obtain ⟨b1, o1, rfl, hc1⟩ := (HA.out.later (hb1.trans (hb.mono hs1))).at (i := k) (by rw [HL.out]; exact hlt)
      have hwx := HA.out.wf.getD k
      obtain ⟨x, hxe⟩ : ∃ x, xs.getD k 0 = x := ⟨_, rfl⟩
      rw [hxe] at hc1 hwx
      have HW := Lib.hid hwx
      have HRES := Lib.hid R
      have hrow : wr.ownsRow w1.heap.size 3 1 _ zs.length (zs.map (Value.int .i64)) := R.num
      by_cases hm : (k : Int) ∈ ys
      · rw [decide_eq_true hm] at hk
        have hst : dropL xs ys (k + 1) = zs := by simp only [dropL]; rw [if_pos hm, HZ.out, List.append_nil]
        have HST := Lib.hid hst
        clear hm hst hxe hwx R
        go_wp2_with fail
        refine hk.mono ?_
        rintro e w3 ⟨rfl, rfl⟩
        go_wp2
        go_roundw
        case rel => exact ⟨k + 1, zs, by go_num, by omega, HRES.out, by omega, HST.out, hb⟩
        case measure => simp [intOf]; omega
      · rw [decide_eq_false hm] at hk
        have hst : dropL xs ys (k + 1) = zs ++ [x] := by simp only [dropL]; rw [if_neg hm, HZ.out, hxe]
        have HST := Lib.hid hst
        clear hm hst hxe hwx R
        go_wp2_with fail
        refine hk.mono ?_
        rintro e w3 ⟨rfl, rfl⟩
        go_wp2_with (at_builtin; refine wpList_append_own _ rfl _ _ 23 rfl w1.heap.size 3 i0 (.int .i64 0) 1 8 Try.underlying23 hi hz0 hz1 hz2 rfl (by decide) _ _ _ rfl (hrow.alloc _) ⟨wr.heap.size, 0, none⟩ 1 1 [.int .i64 x] rfl rfl (cell_one_new _ _ _) (by simp [Value.oneCell']) (by unfold maxLen; omega) (by omega) (by simp; omega) ?_; intro v' w4 hown' hgrow _)
        go_roundw
        case rel =>
          obtain ⟨hn, hbw⟩ := pushS hb hsz HRES.out.num hown' hgrow
          exact ⟨k + 1, zs ++ [x], by go_num, by omega, ⟨hn, HRES.out.wf.append (Wid.one HW.out)⟩, by rw [List.length_append]; simp only [List.length_cons, List.length_nil]; omega, HST.out, hbw⟩
        case measure => simp [intOf]; omega
    · obtain rfl : k = L := by omega
      have hltI : ¬ (k : Int) < (k : Int) := by omega
      have HRES := Lib.hid R
      clear R
      go_wp2
      go_ret
      exact ⟨_, rfl, by rw [← HR.out, HZ.out]; exact HRES.out.mono hs1, hb1.trans (hb.mono hs1)⟩

theorem set_midS {A : List Int} {L k : Nat} (h : A.length = k) (hk : k < L) (x : Int) : (A ++ List.replicate (L - k) 0).set k x = A ++ [x] ++ List.replicate (L - (k + 1)) 0 := by
  rw [show L - k = (L - (k + 1)) + 1 by omega, List.replicate_succ, List.set_append_right _ _ (by omega), h, Nat.sub_self, List.set_cons_zero, List.append_assoc]
  rfl
theorem onesL_wid {xs : List Int} (ys : List Int) (h : Wid xs) (j : Nat) : Wid (onesL xs ys j) := by
  induction j with
  | zero => exact Wid.nil
  | succ j ih =>
    simp only [onesL]
    refine ih.append (Wid.one ?_)
    by_cases hm : (j : Int) ∈ ys
    · rw [if_pos hm]; omega
    · rw [if_neg hm]; exact h.getD j

set_option maxRecDepth 100000 in
set_option maxHeartbeats 4000000 in
theorem onesC_any {u v : Value} {xs ys : List Int} {a b : Option Addr} {ca cb : Nat} {w : World} (A : ArgS w u xs a ca) (B : ArgS w v ys b cb) (ha : a = none → ca = 0) (hb : b = none → cb = 0) (hx : xs.length ≤ 17592186044416) (hy : ys.length ≤ 17592186044416) :
    Calls Try.prog 37 #[u, v] w fun e w' => ∃ r, e = .returned r ∧ ResS w.heap.size w' r (onesS xs ys) ∧ Below w.heap.size w w' := by
  have hms := among_any xs.length B hx hy
  have HA := Lib.hid A
  obtain rfl := A.is
  obtain rfl := B.is
  obtain ⟨L, hL⟩ : ∃ L, xs.length = L := ⟨_, rfl⟩
  obtain ⟨T, hT⟩ : ∃ T, ys.length = T := ⟨_, rfl⟩
  obtain ⟨r, hr⟩ : ∃ r, onesS xs ys = r := ⟨_, rfl⟩
  have HL := Lib.hid hL
  have hr2 : onesL xs ys L = r := by rw [← hr]; unfold onesS; rw [hL]
  have HR := Lib.hid hr2
  have hmk := make_runH L L (Nat.le_refl _) (by omega)
  rw [hL] at hx hms
  rw [hT] at hms
  rw [hL, hT, hr]
  clear A B ha hb hL hT hr hr2 hy
  go_enter Try.func37, Try.ntmps37
  go_wp2_with (go_at_call 48; refine hms.mono ?_; rintro e w1 ⟨p, rfl, hM1, hb1⟩)
  have hbA : Below w1.heap.size w1 (w1.alloc (.cells (madeCells #[.int .i64 0] L) 3)) := (Below.refl _ w1).alloc (Nat.le_refl _) _
  have hRA : PartS (w1.alloc (.cells (madeCells #[.int .i64 0] L) 3)) w1.heap.size L (List.replicate L 0) := by
    have h := BlkS.made w1 L
    exact ⟨_, h, by simp, by simp, by simp⟩
  have HMA := Lib.hid hM1
  have HBA := Lib.hid hbA
  have HRA := Lib.hid hRA
  have hs1 := hb1.size
  clear hM1 hbA hRA hms hmk
  go_loopw [7, 8, 18] (fun _ _ i wr => ∃ (k : Nat), i = .int .i64 (k : Int) ∧ k ≤ L ∧ PartS wr w1.heap.size L (onesL xs ys k ++ List.replicate (L - k) 0) ∧ Below w1.heap.size w1 wr) (fun _ _ i _ => L - (intOf i).toNat)
  case atStart => exact ⟨0, rfl, Nat.zero_le _, HRA.out, HBA.out⟩
  case round =>
    obtain ⟨k, rfl, hkL, hP, hb⟩ := hrel
    have hsz := hb.size
    have HP := Lib.hid hP
    have hPl := hP.lt
    by_cases hlt : k < L
    · have hltI : (k : Int) < (L : Int) := by omega
      obtain ⟨b1, o1, rfl, hc1⟩ := (HA.out.later (hb1.trans (hb.mono hs1))).at (i := k) (by rw [HL.out]; exact hlt)
      have hwx := HA.out.wf.getD k
      have hf := hP.free k
      have hck := hP.cell k (by rw [List.length_append, onesL_len, List.length_replicate]; omega)
      obtain ⟨x, hxe⟩ : ∃ x, xs.getD k 0 = x := ⟨_, rfl⟩
      rw [hxe] at hc1 hwx
      have HXE := Lib.hid hxe
      have HW := Lib.hid hwx
      have hP1 := hP.set k (by rw [List.length_append, onesL_len, List.length_replicate]; omega) x
      have hb2 : Below w1.heap.size w1 (wr.setCell ⟨w1.heap.size, k, none⟩ (.int .i64 x)) := hb.setCell (Nat.le_refl _) _
      have hk := amongL_any (HMA.out.later hb2) hlt
      have hf1 := hP1.free k
      have hck1 := hP1.cell k (by rw [List.length_set, List.length_append, onesL_len, List.length_replicate]; omega)
      have HP1 := Lib.hid hP1
      have HB2 := Lib.hid hb2
      clear hxe hwx hP hP1 hb2
      by_cases hm : (k : Int) ∈ ys
      · rw [decide_eq_true hm] at hk
        have hst : onesL xs ys (k + 1) = onesL xs ys k ++ [1] := by simp only [onesL]; rw [if_pos hm]
        have HST := Lib.hid hst
        clear hm hst
        go_wp2_with fail
        refine hk.mono ?_
        rintro e w3 ⟨rfl, rfl⟩
        go_wp2
        go_roundw
        case rel =>
          refine ⟨k + 1, by go_num, by omega, ?_, HB2.out.setCell (Nat.le_refl _) _⟩
          have h := HP1.out.set k (by rw [List.length_set, List.length_append, onesL_len, List.length_replicate]; omega) 1
          rw [List.set_set, set_midS (onesL_len _ _ _) hlt] at h
          rw [HST.out]
          exact h
        case measure => simp [intOf]; omega
      · rw [decide_eq_false hm] at hk
        have hst : onesL xs ys (k + 1) = onesL xs ys k ++ [x] := by simp only [onesL]; rw [if_neg hm, HXE.out]
        have HST := Lib.hid hst
        clear hm hst
        go_wp2_with fail
        refine hk.mono ?_
        rintro e w3 ⟨rfl, rfl⟩
        go_wp2
        go_roundw
        case rel =>
          refine ⟨k + 1, by go_num, by omega, ?_, HB2.out⟩
          have h := HP1.out
          rw [set_midS (onesL_len _ _ _) hlt] at h
          rw [HST.out]
          exact h
        case measure => simp [intOf]; omega
    · obtain rfl : k = L := by omega
      have hltI : ¬ (k : Int) < (k : Int) := by omega
      clear hP
      go_wp2
      go_ret
      have hp := HP.out
      rw [Nat.sub_self, List.replicate_zero, List.append_nil, HR.out] at hp
      have hrl : r.length = k := by rw [← HR.out]; exact onesL_len _ _ _
      have hn := hp.num (Nat.le_refl _) (by unfold maxLen; omega)
      rw [hrl] at hn
      refine ⟨_, rfl, ⟨hn.mono hs1, ?_⟩, hb1.trans (hb.mono hs1)⟩
      rw [← HR.out]
      exact onesL_wid ys HA.out.wf _
end Go.Proofs.Ythlohkehacnolaa
