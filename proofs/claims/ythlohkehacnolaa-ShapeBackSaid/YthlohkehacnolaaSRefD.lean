/-
  The reference of layer 6: Grown, Drop, Ones. (Made by wip/gen/gen_srefd.py.)
-/
import Derived.Test.YthlohkehacnolaaSRefC
namespace Go.Proofs.Ythlohkehacnolaa
open Go.RowKit
set_option linter.unusedVariables false
set_option linter.unusedSimpArgs false

/-- the axes that are grown, among the first j -/
def grownL (f t : List Int) : Nat → List Int
  | 0 => []
  | j + 1 => grownL f t j ++ (if backS f (t.length - j) = backS t (t.length - j) then [] else [(j : Int)])
def grownS (f t : List Int) : List Int := if fitC f t = 0 then grownL f t t.length else []
/-- a shape without some dimensions -/
def dropL (s axes : List Int) : Nat → List Int
  | 0 => []
  | j + 1 => dropL s axes j ++ (if (j : Int) ∈ axes then [] else [s.getD j 0])
def dropS (s axes : List Int) : List Int := dropL s axes s.length
/-- a shape with 1 for some dimensions -/
def onesL (s axes : List Int) : Nat → List Int
  | 0 => []
  | j + 1 => onesL s axes j ++ [if (j : Int) ∈ axes then 1 else s.getD j 0]
def onesS (s axes : List Int) : List Int := onesL s axes s.length
theorem grownL_le (f t : List Int) (j : Nat) : (grownL f t j).length ≤ j := by
  induction j with
  | zero => simp [grownL]
  | succ j ih =>
    simp only [grownL, List.length_append]
    by_cases h : backS f (t.length - j) = backS t (t.length - j)
    · rw [if_pos h]; simp only [List.length_nil]; omega
    · rw [if_neg h]; simp only [List.length_cons, List.length_nil]; omega
theorem dropL_le (s axes : List Int) (j : Nat) : (dropL s axes j).length ≤ j := by
  induction j with
  | zero => simp [dropL]
  | succ j ih =>
    simp only [dropL, List.length_append]
    by_cases h : (j : Int) ∈ axes
    · rw [if_pos h]; simp only [List.length_nil]; omega
    · rw [if_neg h]; simp only [List.length_cons, List.length_nil]; omega
theorem onesL_len (s axes : List Int) (j : Nat) : (onesL s axes j).length = j := by
  induction j with
  | zero => rfl
  | succ j ih => simp only [onesL, List.length_append, ih]; rfl
theorem Wid.small {x : Int} (h0 : 0 ≤ x) (h1 : x ≤ 9223372036854775807) : Wid [x] := Wid.one (by omega)

set_option maxRecDepth 100000 in
set_option maxHeartbeats 4000000 in
theorem dropR_any {u v : Value} {xs ys : List Int} {a b : Option Addr} {ca cb : Nat} {w : World} (A : ArgS w u xs a ca) (B : ArgS w v ys b cb) (hx : xs.length ≤ 17592186044416) (hy : ys.length ≤ 140737488355328) :
    Calls Try.prog 38 #[u, v] w fun e w' => ∃ r, e = .returned r ∧ ResS w.heap.size w' r (dropS xs ys) ∧ Below w.heap.size w w' := by
  obtain ⟨i0, hi, hz0, hz1, hz2⟩ := info_parts infoS
  have HA := Lib.hid A
  have HB := Lib.hid B
  obtain rfl := A.is
  obtain rfl := B.is
  obtain ⟨L, hL⟩ : ∃ L, xs.length = L := ⟨_, rfl⟩
  obtain ⟨r, hr⟩ : ∃ r, dropS xs ys = r := ⟨_, rfl⟩
  have HL := Lib.hid hL
  have hr2 : dropL xs ys L = r := by rw [← hr]; unfold dropS; rw [hL]
  have HR := Lib.hid hr2
  rw [hL] at hx
  rw [hL, hr]
  clear A B hL hr hr2
  go_enter Try.func38, Try.ntmps38
  go_wp2
  go_loopw [5, 6] (fun s i wr => ∃ (k : Nat) (zs : List Int), i = .int .i64 (k : Int) ∧ k ≤ L ∧ ResS w.heap.size wr s zs ∧ zs.length ≤ k ∧ dropL xs ys k = zs ∧ Below w.heap.size w wr) (fun _ i _ => L - (intOf i).toNat)
  case atStart => exact ⟨0, [], rfl, Nat.zero_le _, ResS.nil _ _, Nat.le_refl _, rfl, Below.refl _ _⟩
  case round =>
    obtain ⟨k, zs, rfl, hkL, R, hzl, hz, hb⟩ := hrel
    have hsz := hb.size
    have HZ := Lib.hid hz
    clear hz
    by_cases hlt : k < L
    · have hk := hasR_any (k : Int) (HB.out.later hb) hy
      have hltI : (k : Int) < (L : Int) := by omega
      by_cases hm : (k : Int) ∈ ys
      · rw [decide_eq_true hm] at hk
        have hst : dropL xs ys (k + 1) = zs := by simp only [dropL]; rw [if_pos hm, HZ.out, List.append_nil]
        have HST := Lib.hid hst
        have HRES := Lib.hid R
        clear hm hst R
        go_wp2_with (go_at_call 44; (with_reducible refine hk.mono ?_); rintro e w3 ⟨rfl, rfl⟩)
        go_roundw
        case rel => exact ⟨k + 1, zs, by go_num, by omega, HRES.out, by omega, HST.out, hb⟩
        case measure => simp [intOf]; omega
      · rw [decide_eq_false hm] at hk
        obtain ⟨b1, o1, rfl, hc1⟩ := (HA.out.later hb).at (i := k) (by rw [HL.out]; exact hlt)
        have hwx := HA.out.wf.getD k
        obtain ⟨x, hxe⟩ : ∃ x, xs.getD k 0 = x := ⟨_, rfl⟩
        rw [hxe] at hc1 hwx
        have hst : dropL xs ys (k + 1) = zs ++ [x] := by simp only [dropL]; rw [if_neg hm, HZ.out, hxe]
        have HST := Lib.hid hst
        have HW := Lib.hid hwx
        have HRES := Lib.hid R
        have hrow : wr.ownsRow w.heap.size 3 1 _ zs.length (zs.map (Value.int .i64)) := R.num
        clear hm hst hxe hwx R
        go_wp2_with (first | (go_at_call 44; (with_reducible refine hk.mono ?_); rintro e w3 ⟨rfl, rfl⟩) | (at_builtin; refine wpList_append_own _ rfl _ _ 22 rfl w.heap.size 3 i0 (.int .i64 0) 1 8 Try.underlying22 hi hz0 hz1 hz2 rfl (by decide) _ _ _ rfl (hrow.alloc _) ⟨wr.heap.size, 0, none⟩ 1 1 [.int .i64 x] rfl rfl (cell_one_new _ _ _) (by simp [Value.oneCell']) (by unfold maxLen; omega) (by omega) (by simp; omega) ?_; intro v' w1 hown' hgrow _))
        go_roundw
        case rel =>
          obtain ⟨hn, hbw⟩ := pushS hb hsz HRES.out.num hown' hgrow
          exact ⟨k + 1, zs ++ [x], by go_num, by omega, ⟨hn, HRES.out.wf.append (Wid.one HW.out)⟩, by rw [List.length_append]; simp only [List.length_cons, List.length_nil]; omega, HST.out, hbw⟩
        case measure => simp [intOf]; omega
    · obtain rfl : k = L := by omega
      have hltI : ¬ (k : Int) < (k : Int) := by omega
      have HRES := Lib.hid R
      clear R
      go_wp2
      go_ret
      exact ⟨_, rfl, by rw [← HR.out, HZ.out]; exact HRES.out, hb⟩

set_option maxRecDepth 100000 in
set_option maxHeartbeats 4000000 in
theorem onesR_any {u v : Value} {xs ys : List Int} {a b : Option Addr} {ca cb : Nat} {w : World} (A : ArgS w u xs a ca) (B : ArgS w v ys b cb) (hx : xs.length ≤ 17592186044416) (hy : ys.length ≤ 140737488355328) :
    Calls Try.prog 39 #[u, v] w fun e w' => ∃ r, e = .returned r ∧ ResS w.heap.size w' r (onesS xs ys) ∧ Below w.heap.size w w' := by
  obtain ⟨i0, hi, hz0, hz1, hz2⟩ := info_parts infoS
  have HA := Lib.hid A
  have HB := Lib.hid B
  obtain rfl := A.is
  obtain rfl := B.is
  obtain ⟨L, hL⟩ : ∃ L, xs.length = L := ⟨_, rfl⟩
  obtain ⟨r, hr⟩ : ∃ r, onesS xs ys = r := ⟨_, rfl⟩
  have HL := Lib.hid hL
  have hr2 : onesL xs ys L = r := by rw [← hr]; unfold onesS; rw [hL]
  have HR := Lib.hid hr2
  rw [hL] at hx
  rw [hL, hr]
  clear A B hL hr hr2
  go_enter Try.func39, Try.ntmps39
  go_wp2
  go_loopw [5, 6] (fun s i wr => ∃ (k : Nat) (zs : List Int), i = .int .i64 (k : Int) ∧ k ≤ L ∧ ResS w.heap.size wr s zs ∧ zs.length = k ∧ onesL xs ys k = zs ∧ Below w.heap.size w wr) (fun _ i _ => L - (intOf i).toNat)
  case atStart => exact ⟨0, [], rfl, Nat.zero_le _, ResS.nil _ _, rfl, rfl, Below.refl _ _⟩
  case round =>
    obtain ⟨k, zs, rfl, hkL, R, hzl, hz, hb⟩ := hrel
    have hsz := hb.size
    have HZ := Lib.hid hz
    have HZL := Lib.hid hzl
    have hzl2 : zs.length ≤ k := by omega
    clear hz hzl
    by_cases hlt : k < L
    · have hk := hasR_any (k : Int) (HB.out.later hb) hy
      have hltI : (k : Int) < (L : Int) := by omega
      by_cases hm : (k : Int) ∈ ys
      · rw [decide_eq_true hm] at hk
        have hst : onesL xs ys (k + 1) = zs ++ [1] := by simp only [onesL]; rw [if_pos hm, HZ.out]
        have HST := Lib.hid hst
        have HRES := Lib.hid R
        have hrow : wr.ownsRow w.heap.size 3 1 _ zs.length (zs.map (Value.int .i64)) := R.num
        clear hm hst R
        go_wp2_with (first | (go_at_call 44; (with_reducible refine hk.mono ?_); rintro e w3 ⟨rfl, rfl⟩) | (at_builtin; refine wpList_append_own _ rfl _ _ 22 rfl w.heap.size 3 i0 (.int .i64 0) 1 8 Try.underlying22 hi hz0 hz1 hz2 rfl (by decide) _ _ _ rfl (hrow.alloc _) ⟨wr.heap.size, 0, none⟩ 1 1 [.int .i64 1] rfl rfl (cell_one_new _ _ _) (by simp [Value.oneCell']) (by unfold maxLen; omega) (by omega) (by simp; omega) ?_; intro v' w1 hown' hgrow _))
        go_roundw
        case rel =>
          obtain ⟨hn, hbw⟩ := pushS hb hsz HRES.out.num hown' hgrow
          exact ⟨k + 1, zs ++ [1], by go_num, by omega, ⟨hn, HRES.out.wf.append (Wid.one (by omega))⟩, by rw [List.length_append, HZL.out]; rfl, HST.out, hbw⟩
        case measure => simp [intOf]; omega
      · rw [decide_eq_false hm] at hk
        obtain ⟨b1, o1, rfl, hc1⟩ := (HA.out.later hb).at (i := k) (by rw [HL.out]; exact hlt)
        have hwx := HA.out.wf.getD k
        obtain ⟨x, hxe⟩ : ∃ x, xs.getD k 0 = x := ⟨_, rfl⟩
        rw [hxe] at hc1 hwx
        have hst : onesL xs ys (k + 1) = zs ++ [x] := by simp only [onesL]; rw [if_neg hm, HZ.out, hxe]
        have HST := Lib.hid hst
        have HW := Lib.hid hwx
        have HRES := Lib.hid R
        have hrow : wr.ownsRow w.heap.size 3 1 _ zs.length (zs.map (Value.int .i64)) := R.num
        clear hm hst hxe hwx R
        go_wp2_with (first | (go_at_call 44; (with_reducible refine hk.mono ?_); rintro e w3 ⟨rfl, rfl⟩) | (at_builtin; refine wpList_append_own _ rfl _ _ 22 rfl w.heap.size 3 i0 (.int .i64 0) 1 8 Try.underlying22 hi hz0 hz1 hz2 rfl (by decide) _ _ _ rfl (hrow.alloc _) ⟨wr.heap.size, 0, none⟩ 1 1 [.int .i64 x] rfl rfl (cell_one_new _ _ _) (by simp [Value.oneCell']) (by unfold maxLen; omega) (by omega) (by simp; omega) ?_; intro v' w1 hown' hgrow _))
        go_roundw
        case rel =>
          obtain ⟨hn, hbw⟩ := pushS hb hsz HRES.out.num hown' hgrow
          exact ⟨k + 1, zs ++ [x], by go_num, by omega, ⟨hn, HRES.out.wf.append (Wid.one HW.out)⟩, by rw [List.length_append, HZL.out]; rfl, HST.out, hbw⟩
        case measure => simp [intOf]; omega
    · obtain rfl : k = L := by omega
      have hltI : ¬ (k : Int) < (k : Int) := by omega
      have HRES := Lib.hid R
      clear R
      go_wp2
      go_ret
      exact ⟨_, rfl, by rw [← HR.out, HZ.out]; exact HRES.out, hb⟩

set_option maxRecDepth 100000 in
set_option maxHeartbeats 4000000 in
theorem grownR_any {u v : Value} {xs ys : List Int} {a b : Option Addr} {ca cb : Nat} {w : World} (A : ArgS w u xs a ca) (B : ArgS w v ys b cb) :
    Calls Try.prog 34 #[u, v] w fun e w' => ∃ r, e = .returned r ∧ ResS w.heap.size w' r (grownS xs ys) ∧ Below w.heap.size w w' := by
  obtain ⟨i0, hi, hz0, hz1, hz2⟩ := info_parts infoS
  have hf := fitsR_any A B
  have HA := Lib.hid A
  have HB := Lib.hid B
  obtain ⟨r, hr⟩ : ∃ r, grownS xs ys = r := ⟨_, rfl⟩
  by_cases h0 : fitC xs ys = 0
  · have hm1 : mayC xs = 0 := by
      apply Classical.byContradiction
      intro h
      rw [fitC_from h] at h0
      exact h h0
    have hm2 : mayC ys = 0 := by
      apply Classical.byContradiction
      intro h
      rw [fitC_to hm1 h] at h0
      exact h h0
    have l1 := (mayC_zero.1 hm1).rank
    have l2 := (mayC_zero.1 hm2).rank
    rw [h0] at hf
    have hr2 : grownL xs ys ys.length = r := by rw [← hr]; unfold grownS; rw [if_pos h0]
    obtain rfl := A.is
    obtain rfl := B.is
    obtain ⟨L, hL⟩ : ∃ L, ys.length = L := ⟨_, rfl⟩
    obtain ⟨M, hM⟩ : ∃ M, xs.length = M := ⟨_, rfl⟩
    have HL := Lib.hid hL
    have HM := Lib.hid hM
    rw [hL] at hr2 hf l2
    rw [hM] at hf l1
    have HR := Lib.hid hr2
    rw [hL, hM, hr]
    clear A B hL hM hr hr2 h0 hm1 hm2
    go_enter Try.func34, Try.ntmps34
    go_wp2_with fail
    refine hf.mono ?_
    rintro e w1 ⟨rfl, rfl⟩
    clear hf
    go_wp2
    go_loopw [5, 6] (fun s i wr => ∃ (k q : Nat) (zs : List Int), i = .int .i64 (q : Int) ∧ k + q = L ∧ ResS w.heap.size wr s zs ∧ zs.length ≤ k ∧ grownL xs ys k = zs ∧ Below w.heap.size w wr) (fun _ i _ => (intOf i).toNat)
    case atStart => exact ⟨0, L, [], rfl, by omega, ResS.nil _ _, Nat.le_refl _, rfl, Below.refl _ _⟩
    case round =>
      obtain ⟨k, q, zs, rfl, hkL, R, hzl, hz, hb⟩ := hrel
      have hsz := hb.size
      have HZ := Lib.hid hz
      clear hz
      by_cases hlt : 1 ≤ q
      · have kf := backR_any (k := q) (HA.out.later hb) hlt (by rw [HM.out]; exact l1) (by omega)
        have kt := backR_any (k := q) (HB.out.later hb) hlt (by rw [HL.out]; exact l2) (by omega)
        rw [HM.out] at kf
        rw [HL.out] at kt
        have hq : ys.length - k = q := by rw [HL.out]; omega
        obtain ⟨x, hx⟩ : ∃ x, backS xs q = x := ⟨_, rfl⟩
        obtain ⟨y, hy⟩ : ∃ y, backS ys q = y := ⟨_, rfl⟩
        have hst : grownL xs ys (k + 1) = zs ++ (if x = y then [] else [(k : Int)]) := by simp only [grownL]; rw [hq, hx, hy, HZ.out]
        rw [hx] at kf
        rw [hy] at kt
        have hltI : (1 : Int) ≤ (q : Int) := by omega
        have hLq : (L : Int) - (q : Int) = (k : Int) := by omega
        have HRES := Lib.hid R
        have hrow : wr.ownsRow w.heap.size 3 1 _ zs.length (zs.map (Value.int .i64)) := R.num
        clear hx hy R hq
        by_cases hxy : x = y
        · subst hxy
          rw [if_pos rfl, List.append_nil] at hst
          have HST := Lib.hid hst
          have hn : (x != x) = false := by simp
          clear hst
          go_wp2_with (go_at_call 46; first | ((with_reducible refine kf.mono ?_); rintro e w3 ⟨rfl, rfl⟩) | ((with_reducible refine kt.mono ?_); rintro e w3 ⟨rfl, rfl⟩))
          go_roundw
          case rel => exact ⟨k + 1, q - 1, zs, by go_num, by omega, HRES.out, by omega, HST.out, hb⟩
          case measure => simp [intOf]; omega
        · rw [if_neg hxy] at hst
          have HST := Lib.hid hst
          have hn : (x != y) = true := by simpa using hxy
          clear hst hxy
          go_wp2_with (first | (go_at_call 46; first | ((with_reducible refine kf.mono ?_); rintro e w3 ⟨rfl, rfl⟩) | ((with_reducible refine kt.mono ?_); rintro e w3 ⟨rfl, rfl⟩)) | (at_builtin; refine wpList_append_own _ rfl _ _ 22 rfl w.heap.size 3 i0 (.int .i64 0) 1 8 Try.underlying22 hi hz0 hz1 hz2 rfl (by decide) _ _ _ rfl (hrow.alloc _) ⟨wr.heap.size, 0, none⟩ 1 1 [.int .i64 (k : Int)] rfl rfl (cell_one_new _ _ _) (by simp [Value.oneCell']) (by unfold maxLen; omega) (by omega) (by simp; omega) ?_; intro v' w1 hown' hgrow _))
          go_roundw
          case rel =>
            obtain ⟨hn, hbw⟩ := pushS hb hsz HRES.out.num hown' hgrow
            exact ⟨k + 1, q - 1, zs ++ [(k : Int)], by go_num, by omega, ⟨hn, HRES.out.wf.append (Wid.one (by omega))⟩, by rw [List.length_append]; simp only [List.length_cons, List.length_nil]; omega, HST.out, hbw⟩
          case measure => simp [intOf]; omega
      · obtain rfl : q = 0 := by omega
        obtain rfl : k = L := by omega
        have hltI : ¬ (1 : Int) ≤ ((0 : Nat) : Int) := by omega
        have HRES := Lib.hid R
        clear R
        go_wp2
        go_ret
        exact ⟨_, rfl, by rw [← HR.out, HZ.out]; exact HRES.out, hb⟩
  · obtain rfl : r = [] := by rw [← hr]; unfold grownS; rw [if_neg h0]
    rw [hr]
    obtain ⟨c, hc⟩ : ∃ c, fitC xs ys = c := ⟨_, rfl⟩
    rw [hc] at hf h0
    have hne : (c != 0) = true := by simpa using h0
    clear h0 hc hr A B
    go_enter Try.func34, Try.ntmps34
    go_wp2_with fail
    refine hf.mono ?_
    rintro e w1 ⟨rfl, rfl⟩
    clear hf
    go_wp2
    go_ret
    exact ⟨_, rfl, ResS.nil _ _, Below.refl _ _⟩
end Go.Proofs.Ythlohkehacnolaa
