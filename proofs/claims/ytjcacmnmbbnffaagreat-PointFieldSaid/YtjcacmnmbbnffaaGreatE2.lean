/-
  A row of limbs in memory, with room behind it: reading it, storing into it.
-/
import Derived.Test.YtjcacmnmbbnffaaGreatE1
import Derived.Lib.ItoaNum
import Derived.Deep.RegionLaw
namespace Go.Proofs.YtjcacmnmbbnffaaGreat
set_option maxRecDepth 100000
section
open Go.RowKit
/-- an argument of the reference: the digits xs -/
structure ArgD (w : World) (u : Value) (xs : List Int) (ad : Option Addr) (cap : Nat) : Prop where
  is : u = .slice ad xs.length cap
  lim : LimI w ad xs
  le : xs.length ≤ cap
  wf : WfD xs
  full : trimN xs xs.length = xs.length
theorem ArgD.later {w w' : World} {u : Value} {xs : List Int} {ad : Option Addr} {cap : Nat} (h : ArgD w u xs ad cap) (hb : Below w.heap.size w w') : ArgD w' u xs ad cap := ⟨h.is, h.lim.later hb, h.le, h.wf, h.full⟩
theorem ResD.arg {base : Nat} {w : World} {u : Value} {zs : List Int} {n : Int} (h : ResD base w u zs n) : ∃ ad cap, ArgD w u zs ad cap := by
  obtain ⟨ad, cap, h1, h2, h3, _, _⟩ := h.num.read
  exact ⟨ad, cap, h1, h2, h3, h.wf, h.full⟩
theorem mod_divD (s : Int) : s % 10000 + 10000 * (s / 10000) = s := by omega
def addToD (xs ys : List Int) : Nat → List Int × Int
  | 0 => ([], 0)
  | k + 1 => ((addToD xs ys k).1 ++ [(xs.getD k 0 + ys.getD k 0 + (addToD xs ys k).2) % 10000], (xs.getD k 0 + ys.getD k 0 + (addToD xs ys k).2) / 10000)
theorem addToD_length (xs ys : List Int) (k : Nat) : (addToD xs ys k).1.length = k := by
  induction k with
  | zero => rfl
  | succ k ih => simp [addToD, ih]
theorem addToD_carry (xs ys : List Int) (hx : WfD xs) (hy : WfD ys) (k : Nat) : 0 ≤ (addToD xs ys k).2 ∧ (addToD xs ys k).2 ≤ 1 := by
  induction k with
  | zero => simp [addToD]
  | succ k ih => have h1 := hx.getD k; have h2 := hy.getD k; simp only [addToD]; omega
theorem addToD_wf (xs ys : List Int) (k : Nat) : WfD (addToD xs ys k).1 := by
  induction k with
  | zero => exact WfD.nil
  | succ k ih => exact ih.append (WfD.cons (by omega) WfD.nil)
theorem val_addToD (xs ys : List Int) (k : Nat) : valD (addToD xs ys k).1 + 10000 ^ k * (addToD xs ys k).2 = valD (xs.take k) + valD (ys.take k) := by
  induction k with
  | zero => simp [addToD, valD]
  | succ k ih =>
    rw [val_take_succD, val_take_succD]
    simp only [addToD]
    rw [valD_snoc, addToD_length]
    simp only [Int.pow_succ]
    have hm := mod_divD (xs.getD k 0 + ys.getD k 0 + (addToD xs ys k).2)
    generalize (addToD xs ys k).2 = c at *
    generalize ((xs.getD k 0 + ys.getD k 0 + c) % 10000) = r at *
    generalize ((xs.getD k 0 + ys.getD k 0 + c) / 10000) = q at *
    generalize (10000 : Int) ^ k = P at *
    grind
theorem beyond {xs : List Int} {k : Nat} (h : xs.length ≤ k) : xs.getD k 0 = 0 := by simp [List.getElem?_eq_none h]
theorem top_pos {xs : List Int} {j : Nat} (hx : WfD xs) (fx : trimN xs xs.length = xs.length) (hj : xs.length = j + 1) : 0 < xs.getD j 0 := by
  have h1 := trimN_last xs xs.length (by omega)
  rw [fx, hj, Nat.add_sub_cancel] at h1
  have h2 := hx.getD j
  omega
theorem addD_full {xs ys : List Int} (hx : WfD xs) (hy : WfD ys) (fx : trimN xs xs.length = xs.length) (fy : trimN ys ys.length = ys.length) (k : Nat) (h1 : max xs.length ys.length ≤ k) (h2 : k ≤ max xs.length ys.length + 1)
    (h3 : max xs.length ys.length < k → 0 < (addToD xs ys (k - 1)).2) (h4 : (addToD xs ys k).2 = 0) : trimN (addToD xs ys k).1 (addToD xs ys k).1.length = (addToD xs ys k).1.length := by
  cases k with
  | zero => rfl
  | succ j =>
    simp only [addToD] at h4 ⊢
    have hc := addToD_carry xs ys hx hy j
    have bx := hx.getD j
    have by' := hy.getD j
    refine full_snoc _ ?_
    rw [Nat.add_sub_cancel] at h3
    rcases Nat.lt_or_ge j (max xs.length ys.length) with h | h
    · have hm : max xs.length ys.length = j + 1 := by omega
      rcases (show xs.length = j + 1 ∨ ys.length = j + 1 by omega) with e | e
      · have := top_pos hx fx e; omega
      · have := top_pos hy fy e; omega
    · have := h3 (by omega); omega
set_option maxHeartbeats 1000000 in
theorem addD_any {u v : Value} {xs ys : List Int} {a b : Option Addr} {capa capb : Nat} {w : World} (h1 : ArgD w u xs a capa) (h2 : ArgD w v ys b capb) (hx : xs.length ≤ 68719476736) (hy : ys.length ≤ 68719476736) :
    Calls Tryz.prog 100 #[u, v] w fun e w' => ∃ r, e = .returned r ∧ ∃ zs, ResD w.heap.size w' r zs (valD xs + valD ys) ∧ zs.length ≤ max xs.length ys.length + 1 ∧ Below w.heap.size w w' := by
  obtain ⟨i0, hi, hz0, hz1, hz2⟩ := info_parts infoInt
  obtain ⟨rfl, lx, _, wx, fx⟩ := h1
  obtain ⟨rfl, ly, _, wy, fy⟩ := h2
  have FX := Lib.hid fx
  have FY := Lib.hid fy
  clear fx fy
  go_enter Tryz.func100, Tryz.ntmps100
  go_wp2
  go_loopw [5, 6, 7, 8] (fun s c i _ wr => ∃ (k : Nat) (q : Value), k ≤ max xs.length ys.length + 1 ∧ q = s ∧ c = .int .i64 (addToD xs ys k).2 ∧ i = .int .i64 k ∧ NumI w.heap.size wr q (addToD xs ys k).1 ∧
      (max xs.length ys.length < k → 0 < (addToD xs ys (k - 1)).2) ∧ Below w.heap.size w wr) (fun _ _ i _ _ => max xs.length ys.length + 2 - (intOf i).toNat)
  case atStart => exact ⟨0, _, Nat.zero_le _, rfl, rfl, rfl, World.ownsRow_nil _ _ _ _, fun h => by omega, Below.refl _ _⟩
  case round =>
    obtain ⟨k, q, hk, rfl, rfl, rfl, hown, hprev, hb⟩ := hrel
    have hsz := hb.size
    obtain ⟨c, hck⟩ : ∃ c, (addToD xs ys k).2 = c := ⟨_, rfl⟩
    have bc := addToD_carry xs ys wx wy k
    rw [hck] at bc ⊢
    obtain ⟨bc0, bc1⟩ := bc
    have hrow : wr.ownsRow w.heap.size 3 1 q k ((addToD xs ys k).1.map (Value.int .i64)) := by
      have h := hown; unfold NumI at h; rw [addToD_length] at h; exact h
    have HO := Lib.hid hown
    have HP := Lib.hid hprev
    have HC := Lib.hid hck
    have HK := Lib.hid hk
    clear hown hprev hck
    by_cases hgo : k < max xs.length ys.length ∨ 0 < c
    · obtain ⟨x, hxk⟩ : ∃ x, xs.getD k 0 = x := ⟨_, rfl⟩
      obtain ⟨y, hyk⟩ : ∃ y, ys.getD k 0 = y := ⟨_, rfl⟩
      obtain ⟨bx0, bx1⟩ : 0 ≤ x ∧ x < 10000 := hxk ▸ wx.getD k
      obtain ⟨by0, by1⟩ : 0 ≤ y ∧ y < 10000 := hyk ▸ wy.getD k
      have hk1 : k ≤ max xs.length ys.length := by
        rcases hgo with h | h
        · omega
        · rcases Nat.lt_or_ge (max xs.length ys.length) k with h5 | h5
          · exfalso
            have e : k = max xs.length ys.length + 1 := by omega
            have h6 := HC.out
            rw [e] at h6
            simp only [addToD] at h6
            rw [beyond (Nat.le_max_left _ _), beyond (Nat.le_max_right _ _)] at h6
            have h7 := addToD_carry xs ys wx wy (max xs.length ys.length)
            omega
          · exact h5
      have HX := Lib.hid hxk
      have HY := Lib.hid hyk
      have HG := Lib.hid hgo
      have lx' := lx.later hb
      have ly' := ly.later hb
      clear hxk hyk
      have done : ∀ (w1 : World) (v' : Value) (o : Obj), w1.ownsRow w.heap.size 3 1 v' (k + 1) ((addToD xs ys k).1.map (Value.int .i64) ++ [Value.int .i64 ((x + y + c) % 10000)]) → (wr.alloc o).grownBy w1 q.ownBlock →
          ∃ (j : Nat) (p : Value), j ≤ max xs.length ys.length + 1 ∧ p = v' ∧ Value.int .i64 ((x + y + c) / 10000) = .int .i64 (addToD xs ys j).2 ∧ Value.int .i64 ((k : Int) + 1) = .int .i64 j ∧ NumI w.heap.size w1 p (addToD xs ys j).1 ∧
            (max xs.length ys.length < j → 0 < (addToD xs ys (j - 1)).2) ∧ Below w.heap.size w w1 := fun w1 v' o ho hg => by
        have hown' : w1.ownsRow w.heap.size 3 1 v' ((addToD xs ys k).1.length + 1) ((addToD xs ys k).1.map (Value.int .i64) ++ [Value.int .i64 ((x + y + c) % 10000)]) := by rw [addToD_length]; exact ho
        obtain ⟨hn, hbw⟩ := push_num hb hsz HO.out hown' hg
        refine ⟨k + 1, v', by omega, rfl, by simp only [addToD]; rw [HX.out, HY.out, HC.out], by go_num, by simp only [addToD]; rw [HX.out, HY.out, HC.out]; exact hn, fun h => ?_, hbw⟩
        rw [Nat.add_sub_cancel, HC.out]
        rcases HG.out with h5 | h5
        · omega
        · exact h5
      have DONE := Lib.hid done
      clear done hgo
      by_cases hx1 : k < xs.length
      · go_wp2_with (first | (go_at_call 134; first | ((with_reducible refine (digit_any a xs capa k x _ lx' (by omega) HX.out).mono ?_); rintro e w' ⟨rfl, rfl⟩) | ((with_reducible refine (digit_any b ys capb k y _ ly' (by omega) HY.out).mono ?_); rintro e w' ⟨rfl, rfl⟩)) | (at_builtin; refine wpList_append_own _ rfl _ _ 54 rfl w.heap.size 3 i0 (.int .i64 0) 1 8 Tryz.underlying54 hi hz0 hz1 hz2 rfl (by decide) _ _ _ rfl (hrow.alloc _) ⟨wr.heap.size, 0, none⟩ 1 1 [.int .i64 ((x + y + c) % 10000)] rfl rfl (cell_one_new _ _ _) (by simp [Value.oneCell']) (by unfold maxLen; omega) (by omega) (by simp; omega) ?_; intro v' w1 hown' hgrow _))
        go_roundw
        case rel => exact DONE.out _ _ _ hown' hgrow
        case measure => simp [intOf]; omega
      · by_cases hy1 : k < ys.length
        · go_wp2_with (first | (go_at_call 134; first | ((with_reducible refine (digit_any a xs capa k x _ lx' (by omega) HX.out).mono ?_); rintro e w' ⟨rfl, rfl⟩) | ((with_reducible refine (digit_any b ys capb k y _ ly' (by omega) HY.out).mono ?_); rintro e w' ⟨rfl, rfl⟩)) | (at_builtin; refine wpList_append_own _ rfl _ _ 54 rfl w.heap.size 3 i0 (.int .i64 0) 1 8 Tryz.underlying54 hi hz0 hz1 hz2 rfl (by decide) _ _ _ rfl (hrow.alloc _) ⟨wr.heap.size, 0, none⟩ 1 1 [.int .i64 ((x + y + c) % 10000)] rfl rfl (cell_one_new _ _ _) (by simp [Value.oneCell']) (by unfold maxLen; omega) (by omega) (by simp; omega) ?_; intro v' w1 hown' hgrow _))
          go_roundw
          case rel => exact DONE.out _ _ _ hown' hgrow
          case measure => simp [intOf]; omega
        · have hcp : 0 < c := by rcases HG.out with h5 | h5; (· omega); exact h5
          go_wp2_with (first | (go_at_call 134; first | ((with_reducible refine (digit_any a xs capa k x _ lx' (by omega) HX.out).mono ?_); rintro e w' ⟨rfl, rfl⟩) | ((with_reducible refine (digit_any b ys capb k y _ ly' (by omega) HY.out).mono ?_); rintro e w' ⟨rfl, rfl⟩)) | (at_builtin; refine wpList_append_own _ rfl _ _ 54 rfl w.heap.size 3 i0 (.int .i64 0) 1 8 Tryz.underlying54 hi hz0 hz1 hz2 rfl (by decide) _ _ _ rfl (hrow.alloc _) ⟨wr.heap.size, 0, none⟩ 1 1 [.int .i64 ((x + y + c) % 10000)] rfl rfl (cell_one_new _ _ _) (by simp [Value.oneCell']) (by unfold maxLen; omega) (by omega) (by simp; omega) ?_; intro v' w1 hown' hgrow _))
          go_roundw
          case rel => exact DONE.out _ _ _ hown' hgrow
          case measure => simp [intOf]; omega
    · have hx1 : ¬ k < xs.length := by omega
      have hy1 : ¬ k < ys.length := by omega
      have hc0 : c = 0 := by omega
      subst hc0
      clear hgo
      go_wp2
      go_ret
      have hv := val_addToD xs ys k
      rw [List.take_of_length_le (by omega), List.take_of_length_le (by omega)] at hv
      have h6 : (addToD xs ys k).2 = 0 := (by have h := HC.out; simpa using h)
      rw [h6] at hv
      have hk2 : k ≤ max xs.length ys.length + 1 := HK.out
      exact ⟨_, rfl, (addToD xs ys k).1, ⟨HO.out, addToD_wf xs ys k, addD_full wx wy FX.out FY.out k (by omega) hk2 HP.out h6, by simpa using hv⟩, by rw [addToD_length]; exact hk2, hb⟩
def timesTo (xs : List Int) (d : Int) : Nat → List Int × Int
  | 0 => ([], 0)
  | k + 1 => ((timesTo xs d k).1 ++ [(xs.getD k 0 * d + (timesTo xs d k).2) % 10000], (xs.getD k 0 * d + (timesTo xs d k).2) / 10000)
theorem timesTo_length (xs : List Int) (d : Int) (k : Nat) : (timesTo xs d k).1.length = k := by
  induction k with
  | zero => rfl
  | succ k ih => simp [timesTo, ih]
theorem digit_prod {x d : Int} (hx : 0 ≤ x ∧ x < 10000) (hd : 0 ≤ d ∧ d ≤ 65536) : 0 ≤ x * d ∧ x * d ≤ 9999 * d := by
  constructor
  · exact Int.mul_nonneg hx.1 hd.1
  · exact Int.mul_le_mul_of_nonneg_right (by omega) hd.1
theorem timesTo_carry (xs : List Int) (d : Int) (hx : WfD xs) (hd : 0 ≤ d ∧ d ≤ 65536) (k : Nat) : 0 ≤ (timesTo xs d k).2 ∧ (timesTo xs d k).2 ≤ d := by
  induction k with
  | zero => simp [timesTo]; omega
  | succ k ih => have h1 := digit_prod (hx.getD k) hd; simp only [timesTo]; omega
theorem timesTo_wf (xs : List Int) (d : Int) (k : Nat) : WfD (timesTo xs d k).1 := by
  induction k with
  | zero => exact WfD.nil
  | succ k ih => exact ih.append (WfD.cons (by omega) WfD.nil)
theorem val_timesTo (xs : List Int) (d : Int) (k : Nat) : valD (timesTo xs d k).1 + 10000 ^ k * (timesTo xs d k).2 = valD (xs.take k) * d := by
  induction k with
  | zero => simp [timesTo, valD]
  | succ k ih =>
    rw [val_take_succD]
    simp only [timesTo]
    rw [valD_snoc, timesTo_length]
    simp only [Int.pow_succ]
    have hm := mod_divD (xs.getD k 0 * d + (timesTo xs d k).2)
    generalize (timesTo xs d k).2 = c at *
    generalize ((xs.getD k 0 * d + c) % 10000) = r at *
    generalize ((xs.getD k 0 * d + c) / 10000) = q at *
    generalize (10000 : Int) ^ k = P at *
    grind
theorem timesTo_far (xs : List Int) (d : Int) (hx : WfD xs) (hd : 0 ≤ d ∧ d ≤ 65536) : (timesTo xs d (xs.length + 1)).2 ≤ 6 ∧ (timesTo xs d (xs.length + 2)).2 = 0 := by
  have h0 := timesTo_carry xs d hx hd xs.length
  have h1 : (timesTo xs d (xs.length + 1)).2 = (timesTo xs d xs.length).2 / 10000 := by simp only [timesTo]; rw [beyond (Nat.le_refl _)]; simp
  have h2 : (timesTo xs d (xs.length + 2)).2 = (timesTo xs d (xs.length + 1)).2 / 10000 := by
    show (xs.getD (xs.length + 1) 0 * d + (timesTo xs d (xs.length + 1)).2) / 10000 = _
    rw [beyond (Nat.le_succ _)]; simp
  omega
set_option maxHeartbeats 1000000 in
theorem times_any {u : Value} {xs : List Int} {a : Option Addr} {capa : Nat} {w : World} (d : Int) (h1 : ArgD w u xs a capa) (hx : xs.length ≤ 68719476736) (hd : 0 ≤ d ∧ d ≤ 65536) :
    Calls Tryz.prog 117 #[u, .int .i64 d] w fun e w' => ∃ r, e = .returned r ∧ ∃ zs, ResD w.heap.size w' r zs (valD xs * d) ∧ zs.length ≤ xs.length + 2 ∧ Below w.heap.size w w' := by
  obtain ⟨i0, hi, hz0, hz1, hz2⟩ := info_parts infoInt
  obtain ⟨rfl, lx, _, wx, _⟩ := h1
  have hd2 := hd
  obtain ⟨hd0, hd1⟩ := hd
  go_enter Tryz.func117, Tryz.ntmps117
  go_wp2
  go_loopw [5, 6, 7, 8] (fun s c i _ wr => ∃ (k : Nat) (q : Value), k ≤ xs.length + 2 ∧ q = s ∧ c = .int .i64 (timesTo xs d k).2 ∧ i = .int .i64 k ∧ NumI w.heap.size wr q (timesTo xs d k).1 ∧ Below w.heap.size w wr) (fun _ _ i _ _ => xs.length + 3 - (intOf i).toNat)
  case atStart => exact ⟨0, _, Nat.zero_le _, rfl, rfl, rfl, World.ownsRow_nil _ _ _ _, Below.refl _ _⟩
  case round =>
    obtain ⟨k, q, hk, rfl, rfl, rfl, hown, hb⟩ := hrel
    have hsz := hb.size
    obtain ⟨c, hck⟩ : ∃ c, (timesTo xs d k).2 = c := ⟨_, rfl⟩
    have bc := timesTo_carry xs d wx hd2 k
    rw [hck] at bc ⊢
    obtain ⟨bc0, bc1⟩ := bc
    have hrow : wr.ownsRow w.heap.size 3 1 q k ((timesTo xs d k).1.map (Value.int .i64)) := by
      have h := hown; unfold NumI at h; rw [timesTo_length] at h; exact h
    have HO := Lib.hid hown
    have HC := Lib.hid hck
    have HK := Lib.hid hk
    clear hown hck
    by_cases hgo : k < xs.length ∨ 0 < c
    · obtain ⟨x, hxk⟩ : ∃ x, xs.getD k 0 = x := ⟨_, rfl⟩
      have bx := hxk ▸ wx.getD k
      have bp := digit_prod bx hd2
      obtain ⟨bp0, bp1⟩ := bp
      have bp2 : x * d ≤ 655294464 := by omega
      obtain ⟨bx0, bx1⟩ := bx
      have hk1 : k ≤ xs.length + 1 := by
        rcases hgo with h | h
        · omega
        · rcases Nat.lt_or_ge (xs.length + 1) k with h5 | h5
          · exfalso
            have e : k = xs.length + 2 := by omega
            have h6 := HC.out
            rw [e, (timesTo_far xs d wx hd2).2] at h6
            omega
          · exact h5
      have HX := Lib.hid hxk
      have lx' := lx.later hb
      clear hxk
      have done : ∀ (w1 : World) (v' : Value) (o : Obj), w1.ownsRow w.heap.size 3 1 v' (k + 1) ((timesTo xs d k).1.map (Value.int .i64) ++ [Value.int .i64 ((x * d + c) % 10000)]) → (wr.alloc o).grownBy w1 q.ownBlock →
          ∃ (j : Nat) (p : Value), j ≤ xs.length + 2 ∧ p = v' ∧ Value.int .i64 ((x * d + c) / 10000) = .int .i64 (timesTo xs d j).2 ∧ Value.int .i64 ((k : Int) + 1) = .int .i64 j ∧ NumI w.heap.size w1 p (timesTo xs d j).1 ∧ Below w.heap.size w w1 := fun w1 v' o ho hg => by
        have hown' : w1.ownsRow w.heap.size 3 1 v' ((timesTo xs d k).1.length + 1) ((timesTo xs d k).1.map (Value.int .i64) ++ [Value.int .i64 ((x * d + c) % 10000)]) := by rw [timesTo_length]; exact ho
        obtain ⟨hn, hbw⟩ := push_num hb hsz HO.out hown' hg
        exact ⟨k + 1, v', by omega, rfl, by simp only [timesTo]; rw [HX.out, HC.out], by go_num, by simp only [timesTo]; rw [HX.out, HC.out]; exact hn, hbw⟩
      have DONE := Lib.hid done
      have HG := Lib.hid hgo
      clear done hgo hd2
      by_cases hx1 : k < xs.length
      · go_wp2_with (first | (go_at_call 134; refine (digit_any a xs capa k x _ lx' (by omega) HX.out).mono ?_; rintro e w' ⟨rfl, rfl⟩) | (at_builtin; refine wpList_append_own _ rfl _ _ 54 rfl w.heap.size 3 i0 (.int .i64 0) 1 8 Tryz.underlying54 hi hz0 hz1 hz2 rfl (by decide) _ _ _ rfl (hrow.alloc _) ⟨wr.heap.size, 0, none⟩ 1 1 [.int .i64 ((x * d + c) % 10000)] rfl rfl (cell_one_new _ _ _) (by simp [Value.oneCell']) (by unfold maxLen; omega) (by omega) (by simp; omega) ?_; intro v' w1 hown' hgrow _))
        go_roundw
        case rel => exact DONE.out _ _ _ hown' hgrow
        case measure => simp [intOf]; omega
      · have hcp : 0 < c := by rcases HG.out with h5 | h5; (· omega); exact h5
        go_wp2_with (first | (go_at_call 134; refine (digit_any a xs capa k x _ lx' (by omega) HX.out).mono ?_; rintro e w' ⟨rfl, rfl⟩) | (at_builtin; refine wpList_append_own _ rfl _ _ 54 rfl w.heap.size 3 i0 (.int .i64 0) 1 8 Tryz.underlying54 hi hz0 hz1 hz2 rfl (by decide) _ _ _ rfl (hrow.alloc _) ⟨wr.heap.size, 0, none⟩ 1 1 [.int .i64 ((x * d + c) % 10000)] rfl rfl (cell_one_new _ _ _) (by simp [Value.oneCell']) (by unfold maxLen; omega) (by omega) (by simp; omega) ?_; intro v' w1 hown' hgrow _))
        go_roundw
        case rel => exact DONE.out _ _ _ hown' hgrow
        case measure => simp [intOf]; omega
    · have hx1 : ¬ k < xs.length := by omega
      have hc0 : c = 0 := by omega
      subst hc0
      clear hgo
      have hv := val_timesTo xs d k
      rw [List.take_of_length_le (by omega)] at hv
      have h6 : (timesTo xs d k).2 = 0 := (by have h := HC.out; simpa using h)
      rw [h6] at hv
      have hk2 : k ≤ xs.length + 2 := HK.out
      have HVL := Lib.hid hv
      clear hv h6
      go_wp2_with fail
      refine (trimD_num HO.out (by rw [timesTo_length]; omega)).mono ?_
      rintro e w' ⟨r, rfl, hr, rfl⟩
      go_wp2_with fail
      go_ret
      have hlen : (trim (timesTo xs d k).1).length ≤ k := by have h := Nat.le_trans (Nat.le_of_eq (trim_length _)) (trim_le (timesTo xs d k).1); rw [timesTo_length] at h; exact h
      exact ⟨_, rfl, trim (timesTo xs d k).1, ⟨hr, (timesTo_wf xs d k).trim, trim_full _, by rw [val_trimD]; have h := HVL.out; simpa using h⟩, Nat.le_trans hlen hk2, hb⟩
end
section
open Go.RowKit
theorem val_drop (xs : List Int) (j : Nat) (h : j < xs.length) : val (xs.drop j) = xs.getD j 0 + 4294967296 * val (xs.drop (j + 1)) := by
  rw [List.drop_eq_getElem_cons h]
  simp [val, h]
set_option maxHeartbeats 2000000 in
theorem of_any {u : Value} {xs : List Int} {a : Option Addr} {capa : Nat} {w : World} (h1 : Arg w u xs a capa) (hx : xs.length ≤ 134217728) :
    Calls Tryz.prog 77 #[u] w fun e w' => ∃ r, e = .returned r ∧ ∃ zs, ResD w.heap.size w' r zs (val xs) ∧ zs.length ≤ 5 * xs.length ∧ Below w.heap.size w w' := by
  obtain ⟨rfl, lx, _, wx⟩ := h1
  go_enter Tryz.func77, Tryz.ntmps77
  go_wp2
  go_loopw [3, 4] (fun s i wr => ∃ (k : Nat) (q : Value) (ds : List Int), k ≤ xs.length ∧ q = s ∧ i = .int .i64 ((xs.length : Int) - 1 - k) ∧ ResD w.heap.size wr q ds (val (xs.drop (xs.length - k))) ∧ ds.length ≤ 5 * k ∧ Below w.heap.size w wr) (fun _ i _ => (intOf i + 1).toNat)
  case atStart => exact ⟨0, _, [], Nat.zero_le _, rfl, by simp, ⟨World.ownsRow_nil _ _ _ _, WfD.nil, rfl, by simp [val, valD]⟩, by simp, Below.refl _ _⟩
  case round =>
    obtain ⟨k, q, ds, hk, rfl, rfl, hres, hlen, hb⟩ := hrel
    have hsz := hb.size
    by_cases hlt : k < xs.length
    · rcases lx with rfl | ⟨b, off, rfl, hc⟩
      · simp at hlt
      · obtain ⟨j, hj⟩ : ∃ j, j + k + 1 = xs.length := ⟨xs.length - k - 1, by omega⟩
        have hji : ((xs.length : Int) - 1 - k) = (j : Int) := by omega
        obtain ⟨x, hxk⟩ : ∃ x, xs.getD j 0 = x := ⟨_, rfl⟩
        obtain ⟨bx0, bx1⟩ : 0 ≤ x ∧ x < 4294967296 := hxk ▸ wx.getD j
        have hjl : j < xs.length := by omega
        have hcj := hc j hjl
        rw [hxk] at hcj
        have hc0 : wr.drew.cell? ⟨b, off + j, none⟩ = some (.int .u32 x) := (hb.cell (p := ⟨b, off + j, none⟩) (World.block_lt_of_cell? w _ hcj)).trans hcj
        have hc00 : wr.cell? ⟨b, off + j, none⟩ = some (.int .u32 x) := hc0
        rw [hji]
        obtain ⟨ad0, cap0, A0'⟩ := hres.arg
        have A0 : ArgD wr.drew q ds ad0 cap0 := A0'.later ((Below.refl wr.heap.size wr).drew)
        have hval : val (xs.drop (xs.length - (k + 1))) = valD ds * 65536 * 65536 + x := by
          rw [show xs.length - (k + 1) = j from by omega, val_drop xs j hjl, hxk, hres.eq, show xs.length - k = j + 1 from by omega]
          omega
        have hwx : IntKind.i64.wrap x = x := IntWalk.i64_in _ (by omega)
        have HV := Lib.hid hval
        have HJ := Lib.hid hj
        clear hj hxk hc hcj hji hval A0'
        have hge : (0 : Int) ≤ (j : Int) := by omega
        go_wp2_with fail
        go_region_held3 (fun w' => w'.cell? ⟨b, off + j, none⟩ = some (.int .u32 x)) (first | exact hc4 | exact hc3 | exact hc2 | exact hc1 | exact hc0 | go_keep)
          (first
            | (go_at_call 100; refine (addD_any A2s A3 (by omega) (by omega)).mono ?_; rintro e w4 ⟨r4, rfl, z4, q4, n4, hb4⟩; have hc4 := (hb4.cell (p := ⟨b, off + j, none⟩) (World.block_lt_of_cell? w3 _ hc3)).trans hc3)
            | (go_at_call 118; refine (small_any x _ bx0 (by omega)).mono ?_; rintro e w3 ⟨r3, rfl, z3, q3, n3, hb3⟩; obtain ⟨ad3, cap3, A3⟩ := q3.arg; have A2s := A2.later hb3; have hc3 := (hb3.cell (p := ⟨b, off + j, none⟩) (World.block_lt_of_cell? w2 _ hc2)).trans hc2)
            | (go_at_call 117; first
                | (refine (times_any 65536 A1 (by omega) (by omega)).mono ?_; rintro e w2 ⟨r2, rfl, z2, q2, n2, hb2⟩; obtain ⟨ad2, cap2, A2⟩ := q2.arg; have hc2 := (hb2.cell (p := ⟨b, off + j, none⟩) (World.block_lt_of_cell? w1 _ hc1)).trans hc1)
                | (refine (times_any 65536 A0 (by omega) (by omega)).mono ?_; rintro e w1 ⟨r1, rfl, z1, q1, n1, hb1⟩; obtain ⟨ad1, cap1, A1⟩ := q1.arg; have hc1 := (hb1.cell (p := ⟨b, off + j, none⟩) (World.block_lt_of_cell? _ _ hc0)).trans hc0)))
        have hs1 : wr.heap.size ≤ w1.heap.size := hb1.size
        have hs2 := hb2.size
        have hs3 := hb3.size
        have hB4 : Below w.heap.size w w4 := (((hb.trans (Below.mono (show Below wr.heap.size wr w1 from ⟨hb1.os, hb1.tape, hb1.output, hb1.size, hb1.block⟩) hsz)).trans (hb2.mono (by omega))).trans (hb3.mono (by omega))).trans (hb4.mono (by omega))
        have hv4 : valD z4 = val (xs.drop (xs.length - (k + 1))) := by rw [q4.eq, q2.eq, q1.eq, q3.eq, HV.out]
        have HV4 := Lib.hid hv4
        clear hv4
        go_wp2
        go_roundw
        case rel => exact ⟨k + 1, r4, z4, by omega, rfl, by have := HJ.out; congr 1; omega, ⟨q4.num.mono (by omega), q4.wf, q4.full, HV4.out⟩, by omega, hB4⟩
        case measure => simp [intOf]
    · obtain rfl : k = xs.length := by omega
      have hji : ((xs.length : Int) - 1 - xs.length) = -1 := by omega
      rw [hji]
      clear hji
      have hv : valD ds = val xs := by have h := hres.eq; rwa [Nat.sub_self, List.drop_zero] at h
      go_wp2
      go_ret
      exact ⟨_, rfl, ds, ⟨hres.num, hres.wf, hres.full, hv⟩, hlen, hb⟩
set_option maxHeartbeats 1000000 in
theorem cmpD_any {u v : Value} {us vs : List Int} {a b : Option Addr} {capa capb : Nat} {w : World} (h1 : ArgD w u us a capa) (h2 : ArgD w v vs b capb) (hx : us.length ≤ 68719476736) (hy : vs.length ≤ 68719476736) :
    Calls Tryz.prog 101 #[u, v] w fun e w' => e = .returned (.int .i64 (sign (valD us) (valD vs))) ∧ Below w.heap.size w w' := by
  obtain ⟨rfl, lx, _, wx, fx⟩ := h1
  obtain ⟨rfl, ly, _, wy, fy⟩ := h2
  have key : ∀ r, CmpT us vs r → r = sign (valD us) (valD vs) := fun r h => (cmp_valD wx wy fx fy h).1
  have KEY := Lib.hid key
  clear key fx fy
  by_cases hne : us.length = vs.length
  · have hne2 : ((us.length : Int) != (vs.length : Int)) = false := by simp; omega
    have HE := Lib.hid hne
    clear hne
    go_enter Tryz.func101, Tryz.ntmps101
    go_wp2
    go_loopw [5] (fun i wr => ∃ k : Nat, k ≤ us.length ∧ i = .int .i64 ((us.length : Int) - 1 - k) ∧ (∀ j, us.length - k ≤ j → j < us.length → us.getD j 0 = vs.getD j 0) ∧ Below w.heap.size w wr) (fun i _ => (intOf i + 1).toNat)
    case atStart => exact ⟨0, Nat.zero_le _, by simp, fun j h1 h2 => by omega, Below.refl _ _⟩
    case round =>
      obtain ⟨k, hk, rfl, hall, hb⟩ := hrel
      have hE := HE.out
      by_cases hlt : k < us.length
      · rcases lx with rfl | ⟨ba, offa, rfl, hca⟩
        · simp at hlt
        rcases ly with rfl | ⟨bb, offb, rfl, hcb⟩
        · simp only [List.length_nil] at hE; omega
        obtain ⟨j, hj⟩ : ∃ j, j + k + 1 = us.length := ⟨us.length - k - 1, by omega⟩
        have hji : ((us.length : Int) - 1 - k) = (j : Int) := by omega
        obtain ⟨x, hxk⟩ : ∃ x, us.getD j 0 = x := ⟨_, rfl⟩
        obtain ⟨y, hyk⟩ : ∃ y, vs.getD j 0 = y := ⟨_, rfl⟩
        have cx := hca j (by omega)
        have cy := hcb j (by omega)
        rw [hxk] at cx
        rw [hyk] at cy
        have cx0 := (hb.cell (p := ⟨ba, offa + j, none⟩) (World.block_lt_of_cell? w _ cx)).trans cx
        have cy0 := (hb.cell (p := ⟨bb, offb + j, none⟩) (World.block_lt_of_cell? w _ cy)).trans cy
        have hju : (j : Int) < (us.length : Int) := by omega
        have hjv : (j : Int) < (vs.length : Int) := by omega
        have hj0 : (0 : Int) ≤ (j : Int) := by omega
        rw [hji]
        have HJ := Lib.hid hj
        have HX := Lib.hid hxk
        have HY := Lib.hid hyk
        have HA := Lib.hid hall
        clear hj hji hxk hyk hall hca hcb cx cy hE hlt hk
        have dif : x ≠ y → CmpT us vs (sign x y) := fun h => by
          refine .inr (.inr ⟨HE.out, j, by omega, ?_, fun i hi1 hi2 => HA.out i (by have := HJ.out; omega) hi2, ?_⟩)
          · show us.getD j 0 ≠ vs.getD j 0
            rw [HX.out, HY.out]; exact h
          · show _ = sign (us.getD j 0) (vs.getD j 0)
            rw [HX.out, HY.out]
        have DIF := Lib.hid dif
        clear dif
        rcases Int.lt_trichotomy x y with h | h | h
        · have hd : decide (x < y) = true := by simp [h]
          go_wp2
          go_quiet (fail)
          go_wp2
          go_ret
          refine ⟨?_, ?_⟩
          · rw [← KEY.out _ (DIF.out (by omega)), sign_lt h]; rfl
          · exact ⟨hb.os, hb.tape, hb.output, hb.size, hb.block⟩
        · subst h
          have hd : decide (x < x) = false := by simp
          go_wp2
          go_quiet (fail)
          go_wp2
          go_quiet (fail)
          go_wp2
          go_roundw
          case rel =>
            refine ⟨k + 1, by have := HJ.out; omega, by have := HJ.out; congr 1; omega, fun i hi1 hi2 => ?_, ⟨hb.os, hb.tape, hb.output, hb.size, hb.block⟩⟩
            by_cases e : i = j
            · subst e; rw [HX.out, HY.out]
            · exact HA.out i (by have := HJ.out; omega) hi2
          case measure => simp [intOf]
        · have hd : decide (x < y) = false := by simp; omega
          have hd2 : decide (y < x) = true := by simp [h]
          go_wp2
          go_quiet (fail)
          go_wp2
          go_quiet (fail)
          go_wp2
          go_ret
          refine ⟨?_, ⟨hb.os, hb.tape, hb.output, hb.size, hb.block⟩⟩
          rw [← KEY.out _ (DIF.out (by omega)), sign_gt h]; rfl
      · obtain rfl : k = us.length := by omega
        have hji : ((us.length : Int) - 1 - us.length) = -1 := by omega
        rw [hji]
        clear hji
        have HA := Lib.hid hall
        clear hall hE
        go_wp2
        go_ret
        refine ⟨?_, hb⟩
        rw [← KEY.out 0 (.inr (.inl ⟨HE.out, fun i hi => HA.out i (by omega) hi, rfl⟩))]
        rfl
  · have hne2 : ((us.length : Int) != (vs.length : Int)) = true := by simp; omega
    have HN := Lib.hid hne
    by_cases h : us.length < vs.length
    · have hd : (us.length : Int) < (vs.length : Int) := by omega
      clear hne
      go_enter Tryz.func101, Tryz.ntmps101
      go_wp2
      go_ret
      refine ⟨?_, Below.refl _ _⟩
      rw [← KEY.out _ (.inl ⟨HN.out, rfl⟩), sign_lt hd]; rfl
    · have hd : (vs.length : Int) < (us.length : Int) := by omega
      clear hne h
      go_enter Tryz.func101, Tryz.ntmps101
      go_wp2
      go_ret
      refine ⟨?_, Below.refl _ _⟩
      rw [← KEY.out _ (.inl ⟨HN.out, rfl⟩), sign_gt hd]; rfl
end
section
open Go.RowKit
set_option maxHeartbeats 400000 in
theorem canonical_true {u : Value} {xs : List Int} {a : Option Addr} {capa : Nat} {w : World} (h1 : Arg w u xs a capa) (hx : xs.length ≤ 70368744177664) (hf : trimN xs xs.length = xs.length) :
    Calls Tryz.prog 162 #[u] w fun e w' => e = .returned (.bool true) ∧ w = w' := by
  obtain ⟨rfl, lx, _, _⟩ := h1
  have hl := trimN_last xs xs.length
  rw [hf] at hl
  have HF := Lib.hid hf
  clear hf
  rcases lx with rfl | ⟨b, off, rfl, hc⟩
  · clear hl
    go_enter Tryz.func162, Tryz.ntmps162
    have h0 : ((0 : Int) == 0) = true := by decide
    go_wp2
    go_ret
    exact ⟨rfl, rfl⟩
  · obtain ⟨m, hm⟩ : ∃ m, xs.length = m := ⟨_, rfl⟩
    rw [hm] at hl hc hx
    rw [hm]
    cases m with
    | zero =>
      clear hl hc
      have h0 : ((0 : Int) == 0) = true := by decide
      go_enter Tryz.func162, Tryz.ntmps162
      go_wp2
      go_ret
      exact ⟨rfl, rfl⟩
    | succ j =>
      have hj := hc j (by omega)
      have hne := hl (by omega)
      rw [Nat.add_sub_cancel] at hne
      obtain ⟨x, hxk⟩ : ∃ x, xs.getD j 0 = x := ⟨_, rfl⟩
      rw [hxk] at hj hne
      have hne2 : (x != 0) = true := by simp [hne]
      have h1 : ((j : Int) + 1 == 0) = false := by simp; omega
      clear hl hc hne hxk hm
      go_enter Tryz.func162, Tryz.ntmps162
      go_wp2
      go_ret
      exact ⟨rfl, rfl⟩
set_option maxHeartbeats 400000 in
theorem is_true {u v : Value} {ds zs : List Int} {a b : Option Addr} {capa capb : Nat} {w : World} (h1 : ArgD w u ds a capa) (h2 : Arg w v zs b capb) (hx : ds.length ≤ 68719476736) (hy : zs.length ≤ 134217728)
    (hf : trimN zs zs.length = zs.length) (h : valD ds = val zs) :
    Calls Tryz.prog 140 #[u, v] w fun e w' => e = .returned (.bool true) ∧ Below w.heap.size w w' := by
  go_enter Tryz.func140, Tryz.ntmps140
  go_wp2_with fail
  refine (canonical_true h2 (by omega) hf).mono ?_
  rintro e w' ⟨rfl, rfl⟩
  go_wp2_with fail
  refine (of_any h2 hy).mono ?_
  rintro e w1 ⟨r, rfl, qs, hq, hl, hb⟩
  obtain ⟨ad, cap, A⟩ := hq.arg
  have h1' := h1.later hb
  go_wp2_with fail
  refine (cmpD_any A h1' (by omega) hx).mono ?_
  rintro e w2 ⟨rfl, hb2⟩
  rw [hq.eq, h, sign_self]
  have h0 : ((0 : Int) == 0) = true := by decide
  go_wp2_with fail
  go_ret
  exact ⟨rfl, hb.trans (hb2.mono hb.size)⟩
end
section
open Go.RowKit
theorem cmp_res {u v : Value} {xs ys : List Int} {a b : Option Addr} {capa capb : Nat} {w : World} (h1 : Arg w u xs a capa) (h2 : Arg w v ys b capb) (hx : xs.length ≤ 35184372088832) (hy : ys.length ≤ 35184372088832) :
    Calls Tryz.prog 132 #[u, v] w fun e w' => e = .returned (.int .i64 (sign (val xs) (val ys))) ∧ Below w.heap.size w w' := by
  rw [h1.is, h2.is]
  refine (cmp_any a b xs ys capa capb w h1.lim h2.lim hx hy h1.le h2.le).mono fun e w' ⟨r, he, hr, hb⟩ => ⟨?_, hb⟩
  have h := (cmp_val h1.wf.trim h2.wf.trim (trim_full xs) (trim_full ys) hr).1
  rw [val_trim, val_trim] at h
  rw [he, h]
end
section
open Go.RowKit
theorem NumI.lit {base : Nat} {w : World} (h : base ≤ w.heap.size) (zs : List Int) (hm : zs.length ≤ maxLen) :
    NumI base (w.alloc (.cells (zs.map (Value.int .i64)).toArray 3)) (.slice (some ⟨w.heap.size, 0, none⟩) zs.length zs.length) zs := by
  unfold NumI
  exact ⟨by simp, .inr ⟨w.heap.size, zs.length, _, rfl, h, heap_alloc_new w _, Nat.le_refl _, hm, by simp, by simp [List.take_of_length_le]⟩⟩
theorem LimI.news {w : World} {ad : Addr} {xs : List Int} (h : LimI w (some ad) xs) : ∀ j u, (xs.map (Value.int .i64))[j]? = some u → w.cell? (ad.add j) = some u := by
  intro j u hj
  rcases h with rfl | ⟨b, off, e, hc⟩
  · simp at hj
  · cases e
    rw [List.getElem?_map] at hj
    have hjl : j < xs.length := by
      rcases Nat.lt_or_ge j xs.length with h | h
      · exact h
      · rw [List.getElem?_eq_none h] at hj; cases hj
    rw [show (⟨b, off, none⟩ : Addr).add j = ⟨b, off + j, none⟩ from (by unfold Addr.add; split <;> simp_all), hc j hjl, ← hj]
    simp [hjl]
theorem full_cons {x : Int} {l : List Int} (hl : 0 < l.length) (h : trimN l l.length = l.length) : trimN (x :: l) (x :: l).length = (x :: l).length := by
  obtain ⟨m, hm⟩ : ∃ m, l.length = m + 1 := ⟨l.length - 1, by omega⟩
  have h1 := trimN_last l l.length (by omega)
  rw [h, hm, Nat.add_sub_cancel] at h1
  rw [List.length_cons]
  unfold trimN
  rw [if_neg]
  rw [hm]
  simpa using h1
theorem valD_drop (xs : List Int) (j : Nat) (h : j < xs.length) : valD (xs.drop j) = xs.getD j 0 + 10000 * valD (xs.drop (j + 1)) := by
  rw [List.drop_eq_getElem_cons h]
  simp [valD, h]
set_option maxHeartbeats 2000000 in
set_option maxRecDepth 100000 in
theorem mulD_any {u v : Value} {xs ys : List Int} {a b : Option Addr} {capa capb : Nat} {w : World} (h1 : ArgD w u xs a capa) (h2 : ArgD w v ys b capb) (hx : xs.length ≤ 17179869184) (hy : ys.length ≤ 17179869184) :
    Calls Tryz.prog 99 #[u, v] w fun e w' => ∃ r, e = .returned r ∧ ∃ zs, ResD w.heap.size w' r zs (valD xs * valD ys) ∧ zs.length ≤ xs.length + 2 * ys.length + 3 ∧ Below w.heap.size w w' := by
  obtain ⟨i0, hi, hz0, hz1, hz2⟩ := info_parts infoInt
  obtain ⟨rfl, ly, _, wy, _⟩ := h2
  go_enter Tryz.func99, Tryz.ntmps99
  go_wp2
  go_loopw [5, 6, 7] (fun s i _ wr => ∃ (k : Nat) (q : Value) (ds : List Int), k ≤ ys.length ∧ q = s ∧ i = .int .i64 ((ys.length : Int) - 1 - k) ∧ ResD w.heap.size wr q ds (valD xs * valD (ys.drop (ys.length - k))) ∧ ds.length ≤ xs.length + 2 * k + 3 ∧ Below w.heap.size w wr) (fun _ i _ _ => (intOf i + 1).toNat)
  case atStart => exact ⟨0, _, [], Nat.zero_le _, rfl, by simp, ⟨World.ownsRow_nil _ _ _ _, WfD.nil, rfl, by simp [valD]⟩, by simp, Below.refl _ _⟩
  case round =>
    obtain ⟨k, q, ds, hk, rfl, rfl, hres, hlen, hb⟩ := hrel
    have hsz := hb.size
    by_cases hlt : k < ys.length
    · rcases ly with rfl | ⟨b, off, rfl, hc⟩
      · simp at hlt
      · obtain ⟨j, hj⟩ : ∃ j, j + k + 1 = ys.length := ⟨ys.length - k - 1, by omega⟩
        have hji : ((ys.length : Int) - 1 - k) = (j : Int) := by omega
        obtain ⟨x, hxk⟩ : ∃ x, ys.getD j 0 = x := ⟨_, rfl⟩
        obtain ⟨bx0, bx1⟩ : 0 ≤ x ∧ x < 10000 := hxk ▸ wy.getD j
        have hjl : j < ys.length := by omega
        have hcj := hc j hjl
        rw [hxk] at hcj
        have hge : (0 : Int) ≤ (j : Int) := by omega
        rw [hji]
        have hval : valD xs * valD (ys.drop (ys.length - (k + 1))) = 10000 * valD ds + valD xs * x := by
          rw [show ys.length - (k + 1) = j from by omega, valD_drop ys j hjl, hxk, hres.eq, show ys.length - k = j + 1 from by omega, Int.mul_add]
          have e : valD xs * (10000 * valD (List.drop (j + 1) ys)) = 10000 * (valD xs * valD (List.drop (j + 1) ys)) := by rw [← Int.mul_assoc, ← Int.mul_assoc, Int.mul_comm 10000]
          rw [e]
          omega
        have A1 := h1.later hb
        have HV := Lib.hid hval
        have HJ := Lib.hid hj
        clear hj hxk hc hji hval
        by_cases h0 : ds.length = 0
        · have hds : ds = [] := List.eq_nil_of_length_eq_zero h0
          subst hds
          have hq : ∃ ad cap, q = .slice ad 0 cap := by obtain ⟨ad, cap, h, _⟩ := hres.num.read; exact ⟨ad, cap, h⟩
          obtain ⟨adq, capq, rfl⟩ := hq
          have hc0 : wr.cell? ⟨b, off + j, none⟩ = some (.int .i64 x) := (hb.cell (p := ⟨b, off + j, none⟩) (World.block_lt_of_cell? w _ hcj)).trans hcj
          go_wp2_with fail
          refine (times_any x A1 (by omega) (by omega)).mono ?_
          rintro e w2 ⟨r2, rfl, z2, q2, n2, hb2⟩
          obtain ⟨ad2, cap2, A2⟩ := q2.arg
          have A0 : ArgD w2 (.slice none 0 0) [] none 0 := ⟨rfl, .inl rfl, Nat.le_refl _, WfD.nil, rfl⟩
          go_wp2_with fail
          refine (addD_any A0 A2 (by simp) (by omega)).mono ?_
          rintro e w3 ⟨r3, rfl, z3, q3, n3, hb3⟩
          have hB3 : Below w.heap.size w w3 := (hb.trans (hb2.mono hsz)).trans (hb3.mono (by have := hb2.size; omega))
          have hv3 : valD z3 = valD xs * valD (ys.drop (ys.length - (k + 1))) := by rw [q3.eq, q2.eq, HV.out]; simp [valD]
          have HV3 := Lib.hid hv3
          simp only [List.length_nil] at n3
          have hs2 := hb2.size
          clear hv3
          go_wp2
          go_roundw
          case rel => exact ⟨k + 1, r3, z3, by omega, rfl, by have := HJ.out; congr 1; omega, ⟨q3.num.mono (by omega), q3.wf, q3.full, HV3.out⟩, by omega, hB3⟩
          case measure => simp [intOf]
        · have hpos : 0 < ds.length := by omega
          have hres' := hres
          obtain ⟨⟨ad, cap, h1q, h2q, h3q, _, _⟩, wds, fds, eds⟩ := (⟨hres.num.read, hres.wf, hres.full, hres.eq⟩ : (_ ∧ _ ∧ _ ∧ _))
          subst h1q
          obtain ⟨p, o, rfl, hcd⟩ : ∃ p o, ad = some ⟨p, o, none⟩ ∧ True := by
            rcases h2q with e | ⟨p, o, e, _⟩
            · rw [e] at hpos; simp at hpos
            · exact ⟨p, o, e, trivial⟩
          have hlit := NumI.lit (base := w.heap.size) (w := wr) hsz [0] (by unfold maxLen; simp)
          have hrow : (wr.alloc (.cells #[.int .i64 0] 3)).ownsRow w.heap.size 3 1 (.slice (some ⟨wr.heap.size, 0, none⟩) 1 1) 1 [.int .i64 0] := hlit
          have hnews := (h2q.later ((Below.refl wr.heap.size wr).alloc (Nat.le_refl _) (.cells #[.int .i64 0] 3))).news
          have hal : Below w.heap.size w (wr.alloc (.cells #[.int .i64 0] 3)) := hb.alloc hsz _
          clear hlit hcd
          have hgt : (0 : Int) < (ds.length : Int) := by omega
          go_wp2_with (at_builtin; refine wpList_append_own _ rfl _ _ 54 rfl w.heap.size 3 i0 (.int .i64 0) 1 8 Tryz.underlying54 hi hz0 hz1 hz2 rfl (by decide) _ 1 [.int .i64 0] rfl hrow ⟨p, o, none⟩ ds.length cap (ds.map (Value.int .i64)) rfl (by simp) hnews (ints_oneCell _ _) (by unfold maxLen; omega) (by omega) (by simp; omega) ?_; intro v' w1 hown' hgrow _; have hb1 : Below w.heap.size w w1 := hal.grown hgrow (by simp; omega) (fun k hk => by cases hk; exact hsz); have hc0 : w1.cell? ⟨b, off + j, none⟩ = some (.int .i64 x) := (hb1.cell (p := ⟨b, off + j, none⟩) (World.block_lt_of_cell? w _ hcj)).trans hcj)
          have hup : NumI w.heap.size w1 v' (0 :: ds) := by
            unfold NumI
            rw [List.length_cons, List.map_cons, Nat.add_comm]
            exact hown'
          obtain ⟨adu, capu, hu1, hu2, hu3, _, _⟩ := hup.read
          have U1 : ArgD w1 v' (0 :: ds) adu capu := ⟨hu1, hu2, hu3, WfD.cons (by omega) wds, full_cons hpos fds⟩
          have A1' := h1.later hb1
          clear hown' hgrow hnews hrow hal h2q hup hu1 hu2 hu3
          have hs1 := hb1.size
          go_wp2_with fail
          refine (times_any x A1' (by omega) (by omega)).mono ?_
          rintro e w2 ⟨r2, rfl, z2, q2, n2, hb2⟩
          obtain ⟨ad2, cap2, A2⟩ := q2.arg
          have U2 := U1.later hb2
          go_wp2_with fail
          refine (addD_any U2 A2 (by simp only [List.length_cons]; omega) (by omega)).mono ?_
          rintro e w3 ⟨r3, rfl, z3, q3, n3, hb3⟩
          have hs2 := hb2.size
          have hB3 : Below w.heap.size w w3 := (hb1.trans (hb2.mono hs1)).trans (hb3.mono (by omega))
          have hv3 : valD z3 = valD xs * valD (ys.drop (ys.length - (k + 1))) := by rw [q3.eq, q2.eq, HV.out]; simp [valD]
          have HV3 := Lib.hid hv3
          simp only [List.length_cons] at n3
          clear hv3
          go_wp2
          go_roundw
          case rel => exact ⟨k + 1, r3, z3, by omega, rfl, by have := HJ.out; congr 1; omega, ⟨q3.num.mono (by omega), q3.wf, q3.full, HV3.out⟩, by omega, hB3⟩
          case measure => simp [intOf]
    · obtain rfl : k = ys.length := by omega
      have hji : ((ys.length : Int) - 1 - ys.length) = -1 := by omega
      rw [hji]
      clear hji
      have hv : valD ds = valD xs * valD ys := by have h := hres.eq; rwa [Nat.sub_self, List.drop_zero] at h
      go_wp2
      go_ret
      exact ⟨_, rfl, ds, ⟨hres.num, hres.wf, hres.full, hv⟩, hlen, hb⟩
end
section
open Go.RowKit
theorem Calls.quiet_eq {P : Program} {f : FuncId} {args : Array Value} {w : World} {n : Nat} {v : Value} (h : Calls P f args (w.drewN n) fun e w' => e = .returned v ∧ w.drewN n = w') :
    Calls P f args (w.drewN n) fun e w'' => e = .returned v ∧ ∃ m, w'' = w.drewN m := h.mono fun _ _ ⟨he, hm⟩ => ⟨he, n, hm.symm⟩
def subToD (xs ys : List Int) : Nat → List Int × Int
  | 0 => ([], 0)
  | k + 1 => ((subToD xs ys k).1 ++ [(xs.getD k 0 - ys.getD k 0 + (subToD xs ys k).2) % 10000], (xs.getD k 0 - ys.getD k 0 + (subToD xs ys k).2) / 10000)
theorem subToD_length (xs ys : List Int) (k : Nat) : (subToD xs ys k).1.length = k := by
  induction k with
  | zero => rfl
  | succ k ih => simp [subToD, ih]
theorem subToD_carry (xs ys : List Int) (hx : WfD xs) (hy : WfD ys) (k : Nat) : -1 ≤ (subToD xs ys k).2 ∧ (subToD xs ys k).2 ≤ 0 := by
  induction k with
  | zero => simp [subToD]
  | succ k ih => have h1 := hx.getD k; have h2 := hy.getD k; simp only [subToD]; omega
theorem subToD_wf (xs ys : List Int) (k : Nat) : WfD (subToD xs ys k).1 := by
  induction k with
  | zero => exact WfD.nil
  | succ k ih => exact ih.append (WfD.cons (by omega) WfD.nil)
theorem val_subToD (xs ys : List Int) (k : Nat) : valD (subToD xs ys k).1 + 10000 ^ k * (subToD xs ys k).2 = valD (xs.take k) - valD (ys.take k) := by
  induction k with
  | zero => simp [subToD, valD]
  | succ k ih =>
    rw [val_take_succD, val_take_succD]
    simp only [subToD]
    rw [valD_snoc, subToD_length]
    simp only [Int.pow_succ]
    have hm := mod_divD (xs.getD k 0 - ys.getD k 0 + (subToD xs ys k).2)
    generalize (subToD xs ys k).2 = c at *
    generalize ((xs.getD k 0 - ys.getD k 0 + c) % 10000) = r at *
    generalize ((xs.getD k 0 - ys.getD k 0 + c) / 10000) = q at *
    generalize (10000 : Int) ^ k = P at *
    grind
theorem val_subD {xs ys : List Int} (hx : WfD xs) (hy : WfD ys) (hl : ys.length ≤ xs.length) (h : valD ys ≤ valD xs) : valD (subToD xs ys xs.length).1 = valD xs - valD ys := by
  have h1 := val_subToD xs ys xs.length
  rw [List.take_length, List.take_of_length_le hl] at h1
  have h2 := subToD_carry xs ys hx hy xs.length
  have h3 := val_ltD (subToD_wf xs ys xs.length)
  rw [subToD_length] at h3
  rcases (show (subToD xs ys xs.length).2 = 0 ∨ (subToD xs ys xs.length).2 = -1 by omega) with e | e
  · rw [e] at h1; simpa using h1
  · rw [e] at h1; omega
set_option maxHeartbeats 2000000 in
theorem subD_any {u v : Value} {xs ys : List Int} {a b : Option Addr} {capa capb : Nat} {w : World} (h1 : ArgD w u xs a capa) (h2 : ArgD w v ys b capb) (hx : xs.length ≤ 68719476736) (hy : ys.length ≤ 68719476736) :
    Calls Tryz.prog 102 #[u, v] w fun e w' => ∃ r f, e = .returned (.tuple #[r, .bool f]) ∧ Below w.heap.size w w' ∧ (valD xs < valD ys → r = .slice none 0 0 ∧ f = false) ∧
      (valD ys ≤ valD xs → f = true ∧ ∃ zs, ResD w.heap.size w' r zs (valD xs - valD ys) ∧ zs.length ≤ xs.length) := by
  obtain ⟨i0, hi, hz0, hz1, hz2⟩ := info_parts infoInt
  have cmp := cmpD_any h1 h2 hx hy
  obtain ⟨rfl, lx, _, wx, fx⟩ := h1
  obtain ⟨rfl, ly, _, wy, fy⟩ := h2
  have hlen : valD ys ≤ valD xs → ys.length ≤ xs.length := fun h => by
    rcases Nat.lt_or_ge xs.length ys.length with h3 | h3
    · have := len_ltD wx wy fy h3; omega
    · exact h3
  have HL := Lib.hid hlen
  clear fx fy hlen
  go_enter Tryz.func102, Tryz.ntmps102
  go_wp2_with fail
  refine cmp.mono ?_
  rintro e V ⟨rfl, hV⟩
  clear cmp
  by_cases hlt : valD xs < valD ys
  · rw [sign_lt hlt]
    have hd : decide ((-1 : Int) < 0) = true := by decide
    go_wp2
    go_ret2
    exact ⟨_, _, rfl, hV, fun _ => ⟨rfl, rfl⟩, fun h => by omega⟩
  · have hd : decide (sign (valD xs) (valD ys) < 0) = false := decide_eq_false (by unfold sign; rw [if_neg hlt]; split <;> omega)
    have hL := HL.out (by omega)
    go_wp2
    go_loopw [6, 7, 8, 9] (fun s c i _ wr => ∃ (k : Nat) (q : Value), k ≤ xs.length ∧ q = s ∧ c = .int .i64 (-(subToD xs ys k).2) ∧ i = .int .i64 k ∧ NumI w.heap.size wr q (subToD xs ys k).1 ∧ Below w.heap.size w wr) (fun _ _ i _ _ => xs.length + 1 - (intOf i).toNat)
    case atStart => exact ⟨0, _, Nat.zero_le _, rfl, rfl, rfl, World.ownsRow_nil _ _ _ _, hV⟩
    case round =>
      obtain ⟨k, q, hk, rfl, rfl, rfl, hown, hb⟩ := hrel
      have hsz := hb.size
      obtain ⟨c, hck⟩ : ∃ c, (subToD xs ys k).2 = c := ⟨_, rfl⟩
      have bc := subToD_carry xs ys wx wy k
      rw [hck] at bc ⊢
      obtain ⟨bc0, bc1⟩ := bc
      have hrow : wr.ownsRow w.heap.size 3 1 q k ((subToD xs ys k).1.map (Value.int .i64)) := by
        have h := hown; unfold NumI at h; rw [subToD_length] at h; exact h
      have HO := Lib.hid hown
      have HC := Lib.hid hck
      have HK := Lib.hid hk
      clear hown hck
      by_cases hgo : k < xs.length
      · obtain ⟨x, hxk⟩ : ∃ x, xs.getD k 0 = x := ⟨_, rfl⟩
        obtain ⟨y, hyk⟩ : ∃ y, ys.getD k 0 = y := ⟨_, rfl⟩
        obtain ⟨bx0, bx1⟩ : 0 ≤ x ∧ x < 10000 := hxk ▸ wx.getD k
        obtain ⟨by0, by1⟩ : 0 ≤ y ∧ y < 10000 := hyk ▸ wy.getD k
        rcases lx with rfl | ⟨ba, offa, rfl, hca⟩
        · simp at hgo
        have cx := hca k hgo
        rw [hxk] at cx
        have cx0 := (hb.cell (p := ⟨ba, offa + k, none⟩) (World.block_lt_of_cell? w _ cx)).trans cx
        have ly' := ly.later hb
        have HX := Lib.hid hxk
        have HY := Lib.hid hyk
        clear hxk cx hca
        have done : ∀ (W : World) (D C : Int) (w1 : World) (v' : Value) (o : Obj), Below w.heap.size w W → wr.heap.size ≤ W.heap.size → D = (x - y + c) % 10000 → C = -((x - y + c) / 10000) → w1.ownsRow w.heap.size 3 1 v' (k + 1) ((subToD xs ys k).1.map (Value.int .i64) ++ [Value.int .i64 D]) → (W.alloc o).grownBy w1 q.ownBlock →
            ∃ (j : Nat) (p : Value), j ≤ xs.length ∧ p = v' ∧ Value.int .i64 C = .int .i64 (-(subToD xs ys j).2) ∧ Value.int .i64 ((k : Int) + 1) = .int .i64 j ∧ NumI w.heap.size w1 p (subToD xs ys j).1 ∧ Below w.heap.size w w1 := fun W D C w1 v' o hbW hsW eD eC ho hg => by
          subst eD
          subst eC
          have hown' : w1.ownsRow w.heap.size 3 1 v' ((subToD xs ys k).1.length + 1) ((subToD xs ys k).1.map (Value.int .i64) ++ [Value.int .i64 ((x - y + c) % 10000)]) := by rw [subToD_length]; exact ho
          refine ⟨k + 1, v', by omega, rfl, by simp only [subToD]; rw [HX.out, HY.out, HC.out], by go_num, ?_, ?_⟩
          · simp only [subToD]; rw [HX.out, HY.out, HC.out]
            unfold NumI
            rw [List.length_append, List.map_append]
            exact hown'
          · exact (hbW.alloc (by omega) o).grown hg (by simp; omega) (fun k hk => (HO.out.lt k hk).1)
        have DONE := Lib.hid done
        have hwr2 : ∀ nq, Below w.heap.size w (wr.drewN nq) := fun nq => ⟨hb.os, hb.tape, hb.output, hb.size, hb.block⟩
        have HWR2 := Lib.hid hwr2
        clear done hwr2
        obtain ⟨l, hl⟩ : ∃ l, -c = l := ⟨_, rfl⟩
        obtain rfl : c = -l := by omega
        rw [hl]
        clear hl
        by_cases hn : x - y - l < 0
        · have hdd : decide (x - y - l < 0) = true := decide_eq_true hn
          go_wp2
          go_quiet ((go_at_call 134; refine Calls.quiet_eq (digit_any b ys capb k y _ ?_ (by omega) HY.out); exact ly.later (HWR2.out _)))
          have hWR := HWR2.out nq
          have hsR : wr.heap.size ≤ (wr.drewN nq).heap.size := Nat.le_refl _
          have hrowR : (wr.drewN nq).ownsRow w.heap.size 3 1 q k ((subToD xs ys k).1.map (Value.int .i64)) := hrow
          generalize wr.drewN nq = WR at *
          go_wp2_with (at_builtin; refine wpList_append_own _ rfl _ _ 54 rfl w.heap.size 3 i0 (.int .i64 0) 1 8 Tryz.underlying54 hi hz0 hz1 hz2 rfl (by decide) _ _ _ rfl (hrowR.alloc _) ⟨WR.heap.size, 0, none⟩ 1 1 [.int .i64 (x - y - l + 10000)] rfl rfl (cell_one_new _ _ _) (by simp [Value.oneCell']) (by unfold maxLen; omega) (by omega) (by simp; omega) ?_; intro v' w1 hown' hgrow _)
          go_roundw
          case rel => exact DONE.out _ _ _ _ _ _ hWR hsR (by omega) (by omega) hown' hgrow
          case measure => simp [intOf]; omega
        · have hdd : decide (x - y - l < 0) = false := decide_eq_false hn
          go_wp2
          go_quiet ((go_at_call 134; refine Calls.quiet_eq (digit_any b ys capb k y _ ?_ (by omega) HY.out); exact ly.later (HWR2.out _)))
          have hWR := HWR2.out nq
          have hsR : wr.heap.size ≤ (wr.drewN nq).heap.size := Nat.le_refl _
          have hrowR : (wr.drewN nq).ownsRow w.heap.size 3 1 q k ((subToD xs ys k).1.map (Value.int .i64)) := hrow
          generalize wr.drewN nq = WR at *
          go_wp2_with (at_builtin; refine wpList_append_own _ rfl _ _ 54 rfl w.heap.size 3 i0 (.int .i64 0) 1 8 Tryz.underlying54 hi hz0 hz1 hz2 rfl (by decide) _ _ _ rfl (hrowR.alloc _) ⟨WR.heap.size, 0, none⟩ 1 1 [.int .i64 (x - y - l)] rfl rfl (cell_one_new _ _ _) (by simp [Value.oneCell']) (by unfold maxLen; omega) (by omega) (by simp; omega) ?_; intro v' w1 hown' hgrow _)
          go_roundw
          case rel => exact DONE.out _ _ _ _ _ _ hWR hsR (by omega) (by omega) hown' hgrow
          case measure => simp [intOf]; omega
      · obtain rfl : k = xs.length := by omega
        have hv := val_subD wx wy hL (by omega)
        have HV := Lib.hid hv
        clear hv
        go_wp2_with fail
        refine (trimD_num HO.out (by rw [subToD_length]; omega)).mono ?_
        rintro e w' ⟨r, rfl, hr, rfl⟩
        go_wp2_with fail
        go_ret2
        have hlen : (trim (subToD xs ys xs.length).1).length ≤ xs.length := by have h := Nat.le_trans (Nat.le_of_eq (trim_length _)) (trim_le (subToD xs ys xs.length).1); rw [subToD_length] at h; exact h
        exact ⟨_, _, rfl, hb, fun h => by omega, fun _ => ⟨rfl, trim (subToD xs ys xs.length).1, ⟨hr, (subToD_wf xs ys _).trim, trim_full _, by rw [val_trimD, HV.out]⟩, hlen⟩⟩
end
section
open Go.RowKit
/-- a block of limbs, known whole -/
def BlkI (w : World) (g : Nat) (zs : List Int) : Prop := w.heap[g]? = some (.cells (zs.map (Value.int .i64)).toArray 3 (0, 0))
theorem BlkI.cell {w : World} {g : Nat} {zs : List Int} (h : BlkI w g zs) (i : Nat) (hi : i < zs.length) : w.cell? ⟨g, i, none⟩ = some (.int .i64 (zs.getD i 0)) := by
  have e : w.cell? ⟨g, i, none⟩ = ((zs.map (Value.int .i64)).toArray)[i]? := cell_of_row w g i _ 3 (0, 0) h
  rw [e]; simp [hi]
theorem BlkI.free {w : World} {g : Nat} {zs : List Int} (h : BlkI w g zs) (i : Nat) : w.frozen? ⟨g, i, none⟩ = false := by
  exact frozen_of_row w g i _ 3 h
theorem BlkI.lt {w : World} {g : Nat} {zs : List Int} (h : BlkI w g zs) : g < w.heap.size := lt_of_block h
theorem BlkI.same {w w' : World} {g : Nat} {zs : List Int} (h : BlkI w g zs) (e : w'.heap[g]? = w.heap[g]?) : BlkI w' g zs := e.trans h
theorem BlkI.alloc {w : World} {g : Nat} {zs : List Int} (h : BlkI w g zs) (o : Obj) : BlkI (w.alloc o) g zs := h.same (Below.heap_alloc _ _ _ h.lt)
theorem BlkI.only {w w' : World} {g b : Nat} {zs : List Int} (h : BlkI w g zs) (k : Only b w w') (hb : g ≠ b) : BlkI w' g zs := h.same (k.block g hb)
theorem BlkI.below {w w' : World} {g B : Nat} {zs : List Int} (h : BlkI w g zs) (k : Below B w w') (hb : g < B) : BlkI w' g zs := h.same (k.block g hb)
theorem BlkI.set {w : World} {g : Nat} {zs : List Int} (h : BlkI w g zs) (i : Nat) (x : Int) : BlkI (w.setCell ⟨g, i, none⟩ (.int .i64 x)) g (zs.set i x) := by
  have hh := heap_setCell_same w g i _ 3 (.int .i64 x) h
  unfold BlkI
  rw [hh]
  congr 2
  simp [List.map_set]
theorem BlkI.made (w : World) (n : Nat) : BlkI (w.alloc (.cells (madeCells #[.int .i64 0] n) 3)) w.heap.size (List.replicate n 0) := by
  have h := heap_alloc_new w (.cells (madeCells #[.int .i64 0] n) 3)
  unfold BlkI
  rw [h]
  congr 2
  apply Array.ext
  · simp [madeCells]
  · intro i h1 h2
    simp [madeCells, Nat.mod_one]
theorem NumI.ofBlk {base g : Nat} {w : World} {zs : List Int} (h : BlkI w g zs) (hb : base ≤ g) (n : Nat) (hn : n ≤ zs.length) (hm : zs.length ≤ maxLen) : NumI base w (.slice (some ⟨g, 0, none⟩) n zs.length) (zs.take n) := by
  have e : (zs.take n).length = n := by rw [List.length_take]; omega
  unfold NumI
  rw [e]
  refine ⟨by rw [List.length_map, e, Nat.mul_one], .inr ⟨g, zs.length, _, rfl, hb, h, hn, hm, by simp, ?_⟩⟩
  simp [List.map_take]
theorem BlkI.grown {w w' : World} {g : Nat} {row : Option Nat} {zs : List Int} (h : BlkI w g zs) (k : w.grownBy w' row) (hb : some g ≠ row) : BlkI w' g zs := h.same (k.block g h.lt hb)
/-- make([]limb, n, c) -/
theorem makeI_run (n c : Int) (h0 : 0 ≤ n) (hnc : n ≤ c) (hc : c ≤ 17592186044416) (w : World) :
    (Instr.makeSlice 54 (.int .i64 n) (.int .i64 c)).run Tryz.prog w = .ok (.slice (some ⟨w.heap.size, 0, none⟩) n.toNat c.toNat) (w.alloc (.cells (madeCells #[.int .i64 0] c.toNat) 3)) := by
  obtain ⟨i0, hi, hz0, hz1, hz2⟩ := info_parts infoInt
  have h := run_make (P := Tryz.prog) w 54 3 i0 (.int .i64 0) Tryz.underlying54 hi hz0 .i64 .i64 n c h0 hnc (by rw [hz2]; omega) (by omega)
  simpa [hz1, Value.cells] using h
theorem makeI_runN (n c : Nat) (hnc : n ≤ c) (hc : c ≤ 17592186044416) (w : World) :
    (Instr.makeSlice 54 (.int .i64 n) (.int .i64 c)).run Tryz.prog w = .ok (.slice (some ⟨w.heap.size, 0, none⟩) n c) (w.alloc (.cells (madeCells #[.int .i64 0] c) 3)) := by
  simpa using makeI_run n c (by omega) (by omega) (by omega) w
end
section
open Go.RowKit
/-- a quotient's digits and the rest, by a small one -/
def shortD (d : Int) : List Int → List Int × Int
  | [] => ([], 0)
  | x :: xs => (((shortD d xs).2 * 10000 + x) / d :: (shortD d xs).1, ((shortD d xs).2 * 10000 + x) % d)
theorem shortD_length (d : Int) (xs : List Int) : (shortD d xs).1.length = xs.length := by
  induction xs with
  | nil => rfl
  | cons x xs ih => simp [shortD, ih]
theorem shortD_rest {d : Int} (hd : 0 < d) (xs : List Int) : 0 ≤ (shortD d xs).2 ∧ (shortD d xs).2 < d := by
  cases xs with
  | nil => simp [shortD, hd]
  | cons x xs => exact ⟨Int.emod_nonneg _ (by omega), Int.emod_lt_of_pos _ hd⟩
theorem short_digit {d r x : Int} (hd : 0 < d) (hr : 0 ≤ r ∧ r < d) (hx : 0 ≤ x ∧ x < 10000) : 0 ≤ (r * 10000 + x) / d ∧ (r * 10000 + x) / d < 10000 := by
  constructor
  · exact Int.ediv_nonneg (by omega) (by omega)
  · exact Int.ediv_lt_of_lt_mul hd (by omega)
theorem shortD_wf {d : Int} (hd : 0 < d) {xs : List Int} (hx : WfD xs) : WfD (shortD d xs).1 := by
  induction xs with
  | nil => exact WfD.nil
  | cons x xs ih => exact WfD.cons (short_digit hd (shortD_rest hd xs) hx.head) (ih hx.tail)
theorem val_shortD (d : Int) (xs : List Int) : valD (shortD d xs).1 * d + (shortD d xs).2 = valD xs := by
  induction xs with
  | nil => simp [shortD, valD]
  | cons x xs ih =>
    simp only [shortD, valD]
    have hm := Int.mul_ediv_add_emod ((shortD d xs).2 * 10000 + x) d
    generalize ((shortD d xs).2 * 10000 + x) / d = q at *
    generalize ((shortD d xs).2 * 10000 + x) % d = r at *
    generalize valD (shortD d xs).1 = V at *
    generalize (shortD d xs).2 = s at *
    grind
theorem quo_eq {V d r N : Int} (hd : 0 < d) (h : V * d + r = N) (hr : 0 ≤ r ∧ r < d) : V = N / d ∧ r = N % d := by
  subst h
  rw [Int.add_comm]
  constructor
  · rw [Int.add_mul_ediv_right _ _ (by omega), Int.ediv_eq_zero_of_lt hr.1 hr.2, Int.zero_add]
  · rw [Int.add_mul_emod_self_right, Int.emod_eq_of_lt hr.1 hr.2]
theorem set_front (j : Nat) (L : List Int) (v : Int) : (List.replicate (j + 1) 0 ++ L).set j v = List.replicate j 0 ++ v :: L := by
  rw [List.replicate_succ', List.append_assoc, List.set_append_right _ _ (by simp)]
  simp
set_option maxHeartbeats 2000000 in
theorem short_any {u : Value} {xs : List Int} {a : Option Addr} {capa : Nat} {w : World} (d : Int) (h1 : ArgD w u xs a capa) (hx : xs.length ≤ 1099511627776) (hd : 1 ≤ d ∧ d ≤ 4294967296) :
    Calls Tryz.prog 122 #[u, .int .i64 d] w fun e w' => ∃ r, e = .returned (.tuple #[r, .int .i64 (valD xs % d)]) ∧ ∃ zs, ResD w.heap.size w' r zs (valD xs / d) ∧ zs.length ≤ xs.length ∧ Below w.heap.size w w' := by
  obtain ⟨rfl, lx, _, wx, _⟩ := h1
  obtain ⟨hd0, hd1⟩ := hd
  obtain ⟨n, hn⟩ : ∃ n, xs.length = n := ⟨_, rfl⟩
  have hmk := makeI_runN n n (Nat.le_refl _) (by omega)
  rw [hn]
  have HN := Lib.hid hn
  rw [hn] at hx
  clear hn
  go_enter Tryz.func122, Tryz.ntmps122
  go_wp2
  go_loopw [7, 8, 9] (fun s i _ wr => ∃ (k : Nat), k ≤ n ∧ s = .int .i64 (shortD d (xs.drop (n - k))).2 ∧ i = .int .i64 ((n : Int) - 1 - k) ∧ BlkI wr w.heap.size (List.replicate (n - k) 0 ++ (shortD d (xs.drop (n - k))).1) ∧ Below w.heap.size w wr) (fun _ i _ _ => (intOf i + 1).toNat)
  case atStart =>
    have e : xs.drop (n - 0) = [] := by rw [Nat.sub_zero, ← HN.out, List.drop_length]
    refine ⟨0, Nat.zero_le _, by rw [e]; rfl, by simp, ?_, ((Below.refl _ w).alloc (Nat.le_refl _) _)⟩
    rw [e]
    simpa [shortD] using BlkI.made w n
  case round =>
    obtain ⟨k, hk, rfl, rfl, hblk, hb⟩ := hrel
    have hsz := hb.size
    by_cases hlt : k < n
    · rcases lx with rfl | ⟨b, off, rfl, hc⟩
      · have := HN.out; simp at this; omega
      · obtain ⟨j, hj⟩ : ∃ j, j + k + 1 = n := ⟨n - k - 1, by omega⟩
        have hji : ((n : Int) - 1 - k) = (j : Int) := by omega
        obtain ⟨x, hxk⟩ : ∃ x, xs.getD j 0 = x := ⟨_, rfl⟩
        obtain ⟨bx0, bx1⟩ : 0 ≤ x ∧ x < 10000 := hxk ▸ wx.getD j
        have hjl : j < xs.length := by have := HN.out; omega
        have hcj := hc j hjl
        rw [hxk] at hcj
        have hc0 : wr.cell? ⟨b, off + j, none⟩ = some (.int .i64 x) := (hb.cell (p := ⟨b, off + j, none⟩) (World.block_lt_of_cell? w _ hcj)).trans hcj
        have hge : (0 : Int) ≤ (j : Int) := by omega
        have hjn : (j : Int) < (n : Int) := by omega
        obtain ⟨r, hr⟩ : ∃ r, (shortD d (xs.drop (n - k))).2 = r := ⟨_, rfl⟩
        obtain ⟨br0, br1⟩ := shortD_rest (show 0 < d by omega) (xs.drop (n - k))
        have hst : shortD d (xs.drop (n - (k + 1))) = ((r * 10000 + x) / d :: (shortD d (xs.drop (n - k))).1, (r * 10000 + x) % d) := by
          rw [show n - (k + 1) = j from by omega, show n - k = j + 1 from by omega, List.drop_eq_getElem_cons hjl]
          have e : xs[j] = x := by rw [← hxk]; simp [hjl]
          simp only [shortD]
          rw [e, show j + 1 = n - k from by omega, hr]
        rw [hr] at br0 br1
        rw [hji, hr]
        rw [show n - k = j + 1 from by omega] at hblk hr hst
        have hset := hblk.set j ((r * 10000 + x) / d)
        rw [set_front] at hset
        have hlen : (List.replicate (j + 1) 0 ++ (shortD d (xs.drop (j + 1))).1).length = n := by rw [List.length_append, List.length_replicate, shortD_length, List.length_drop, HN.out]; omega
        have hcell := hblk.cell j (by omega)
        have hfree := hblk.free j
        obtain ⟨bq0, bq1⟩ := short_digit (show 0 < d by omega) ⟨br0, br1⟩ ⟨bx0, bx1⟩
        have bm0 : 0 ≤ (r * 10000 + x) % d := Int.emod_nonneg _ (by omega)
        have bm1 : (r * 10000 + x) % d < d := Int.emod_lt_of_pos _ (by omega)
        have hq : Int.tdiv (r * 10000 + x) d = (r * 10000 + x) / d := Int.tdiv_eq_ediv_of_nonneg (by omega)
        have hm : Int.tmod (r * 10000 + x) d = (r * 10000 + x) % d := Int.tmod_eq_emod_of_nonneg (by omega)
        have hdz : (d == 0) = false := by simp; omega
        have HST := Lib.hid hst
        have HJ := Lib.hid hj
        have HSET := Lib.hid hset
        clear hst hj hset hblk hr hxk hc hcj hji hlen
        go_wp2
        go_roundw
        case rel =>
          refine ⟨k + 1, by omega, by rw [HST.out], by have := HJ.out; congr 1; omega, ?_, hb.setCell (p := ⟨w.heap.size, j, none⟩) (Nat.le_refl _) _⟩
          rw [HST.out, show n - (k + 1) = j from by have := HJ.out; omega]
          exact HSET.out
        case measure => simp [intOf]
    · obtain rfl : k = n := by omega
      have hji : ((k : Int) - 1 - k) = -1 := by omega
      rw [hji]
      clear hji
      obtain ⟨r, hr⟩ : ∃ r, (shortD d (xs.drop (k - k))).2 = r := ⟨_, rfl⟩
      rw [hr]
      rw [Nat.sub_self] at hblk hr
      rw [List.drop_zero] at hblk hr
      rw [List.replicate_zero, List.nil_append] at hblk
      have hl := shortD_length d xs
      rw [HN.out] at hl
      have hnum := NumI.ofBlk hblk (Nat.le_refl _) k (by omega) (by rw [hl]; unfold maxLen; omega)
      rw [hl, List.take_of_length_le (by omega)] at hnum
      obtain ⟨e1, e2⟩ := quo_eq (show 0 < d by omega) (val_shortD d xs) (shortD_rest (by omega) xs)
      have wq := shortD_wf (show 0 < d by omega) wx
      rw [hr] at e2
      have E1 := Lib.hid e1
      have E2 := Lib.hid e2
      clear hblk hr e1 e2
      go_wp2_with fail
      refine (trimD_num hnum (by omega)).mono ?_
      rintro e w' ⟨q, rfl, hq, rfl⟩
      go_wp2_with fail
      go_ret2
      have hlen : (trim (shortD d xs).1).length ≤ xs.length := by have h := Nat.le_trans (Nat.le_of_eq (trim_length _)) (trim_le (shortD d xs).1); rw [shortD_length] at h; exact h
      refine ⟨q, by rw [← E2.out]; rfl, trim (shortD d xs).1, ⟨hq, wq.trim, trim_full _, by rw [val_trimD, E1.out]⟩, by rw [← HN.out]; exact hlen, hb⟩
/-- N has k bits -/
def IsBits (N : Int) (k : Nat) : Prop := (k = 0 ∧ N = 0) ∨ ∃ j : Nat, k = j + 1 ∧ 2 ^ j ≤ N ∧ N < 2 ^ (j + 1)
theorem two_pos (k : Nat) : (0 : Int) < 2 ^ k := Int.pow_pos (by omega)
theorem two_mono {j k : Nat} (h : j ≤ k) : (2 : Int) ^ j ≤ 2 ^ k := by
  rw [show k = j + (k - j) from by omega, Int.pow_add]
  have h4 : (2 : Int) ^ j * 1 ≤ 2 ^ j * 2 ^ (k - j) := Int.mul_le_mul_of_nonneg_left (by have := two_pos (k - j); omega) (Int.le_of_lt (two_pos _))
  omega
theorem IsBits.unique {N : Int} {k l : Nat} (h : IsBits N k) (g : IsBits N l) : k = l := by
  rcases h with ⟨rfl, rfl⟩ | ⟨j, rfl, h1, h2⟩
  · rcases g with ⟨rfl, _⟩ | ⟨i, rfl, g1, g2⟩
    · rfl
    · have := two_pos i; omega
  · rcases g with ⟨rfl, rfl⟩ | ⟨i, rfl, g1, g2⟩
    · have := two_pos j; omega
    · rcases Nat.lt_trichotomy j i with e | e | e
      · have := two_mono (show j + 1 ≤ i by omega); omega
      · rw [e]
      · have := two_mono (show i + 1 ≤ j by omega); omega
theorem IsBits.le {N : Int} {k m : Nat} (h : IsBits N k) (hm : N < 2 ^ m) : k ≤ m := by
  rcases h with ⟨rfl, _⟩ | ⟨j, rfl, h1, _⟩
  · omega
  · rcases Nat.lt_or_ge j m with e | e
    · omega
    · have := two_mono e; omega
theorem IsBits.lt {N : Int} {k m : Nat} (h : IsBits N k) (hm : k ≤ m) : N < 2 ^ m := by
  rcases h with ⟨rfl, rfl⟩ | ⟨j, rfl, _, h2⟩
  · exact two_pos m
  · have := two_mono hm; omega
theorem valD_zero {ds : List Int} (h : WfD ds) (f : trimN ds ds.length = ds.length) (e : valD ds = 0) : ds.length = 0 := by
  rcases Nat.eq_zero_or_pos ds.length with h0 | h0
  · exact h0
  · have h1 := full_geD h f (ds.length - 1) (by omega)
    have h2 := pow_posD (ds.length - 1)
    omega
end
section
open Go.RowKit
theorem bitLen_is {t : Int} (h0 : 0 < t) (h1 : t < 18446744073709551616) : ∃ j : Nat, Lib.bitLen t.toNat = j + 1 ∧ 2 ^ j ≤ t ∧ t < 2 ^ (j + 1) := by
  obtain ⟨n, rfl⟩ := Int.eq_ofNat_of_zero_le (Int.le_of_lt h0)
  obtain ⟨a, b, c⟩ := Lib.bitLenAux_bounds 64 n (by omega) (by omega)
  rw [Int.toNat_natCast]
  unfold Lib.bitLen
  refine ⟨Lib.bitLenAux 64 n - 1, by omega, ?_, ?_⟩
  · exact_mod_cast b
  · rw [show Lib.bitLenAux 64 n - 1 + 1 = Lib.bitLenAux 64 n from by omega]; exact_mod_cast c
theorem pow_limb (m : Nat) : (4294967296 : Int) ^ m = 2 ^ (m * 32) := by rw [Nat.mul_comm, Int.pow_mul, show (2 : Int) ^ 32 = 4294967296 from rfl]
theorem bitsN_is {xs : List Int} (hx : Wf xs) : IsBits (val xs) (bitsN xs) := by
  unfold bitsN
  split
  · rename_i h
    refine .inl ⟨rfl, ?_⟩
    rw [← val_trim xs]
    unfold trim
    rw [h]
    rfl
  · rename_i h
    obtain ⟨m, hm⟩ : ∃ m, trimN xs xs.length = m + 1 := ⟨trimN xs xs.length - 1, by omega⟩
    have hne := trimN_last xs xs.length (by omega)
    have hv := val_take_ge xs (m + 1) (by omega)
    rw [hm, Nat.add_sub_cancel] at hne ⊢
    rw [val_take_succ] at hv
    have b1 := hx.getD m
    have b2 := val_nonneg (hx.take m)
    have b3 := val_lt (hx.take m)
    have b4 : (4294967296 : Int) ^ (xs.take m).length = 4294967296 ^ m := by rw [List.length_take, Nat.min_eq_left (by have := trim_le xs; omega)]
    rw [b4] at b3
    obtain ⟨j, hj, h1, h2⟩ := bitLen_is (show 0 < xs.getD m 0 by omega) (by omega)
    rw [hj]
    refine .inr ⟨m * 32 + j, rfl, ?_⟩
    rw [show m * 32 + j + 1 = m * 32 + (j + 1) from rfl, Int.pow_add, Int.pow_add, ← pow_limb]
    have hp := pow_pos' m
    generalize xs.getD m 0 = x at *
    generalize (4294967296 : Int) ^ m = P at *
    generalize val (xs.take m) = V at *
    have c1 : P * 2 ^ j ≤ P * x := Int.mul_le_mul_of_nonneg_left h1 (by omega)
    have c2 : P * (x + 1) ≤ P * 2 ^ (j + 1) := Int.mul_le_mul_of_nonneg_left (by omega) (by omega)
    rw [Int.mul_add, Int.mul_one] at c2
    omega
theorem two_limbs {xs : List Int} (hx : Wf xs) (h : bitsN xs ≤ 64) : 4294967296 * xs.getD 1 0 + xs.getD 0 0 = val xs := by
  have hb := (bitsN_is hx).lt (m := 64) h
  have ht : trimN xs xs.length ≤ 2 := by
    rcases Nat.lt_or_ge 2 (trimN xs xs.length) with e | e
    · exfalso
      have h1 := full_ge hx.trim (trim_full xs) (trimN xs xs.length - 1) (by rw [trim_length]; omega)
      rw [val_trim] at h1
      have h2 : (2 : Int) ^ 64 ≤ 4294967296 ^ (trimN xs xs.length - 1) := by rw [pow_limb]; exact two_mono (by omega)
      omega
    · exact e
  rw [← val_take_ge xs 2 ht, val_take_succ, val_take_succ]
  simp [val]
  omega
theorem bits_res {u : Value} {xs : List Int} {a : Option Addr} {capa : Nat} {w : World} {n : Nat} (h1 : Arg w u xs a capa) (hx : xs.length ≤ 35184372088832) (hn : IsBits (val xs) n) :
    Calls Tryz.prog 130 #[u] w fun e w' => e = .returned (.int .i64 n) ∧ w = w' := by
  rw [h1.is]
  refine (bits_any a xs capa w h1.lim hx h1.le h1.wf).mono fun e w' ⟨he, hw⟩ => ⟨?_, hw⟩
  rw [he, hn.unique (bitsN_is h1.wf)]
theorem uint_small {u : Value} {xs : List Int} {a : Option Addr} {capa : Nat} {w : World} (h1 : Arg w u xs a capa) (hx : xs.length ≤ 35184372088832) (hn : val xs < 18446744073709551616) :
    Calls Tryz.prog 143 #[u] w fun e w' => e = .returned (.tuple #[.int .u64 (val xs), .bool true]) ∧ w = w' := by
  rw [h1.is]
  have hb : bitsN xs ≤ 64 := (bitsN_is h1.wf).le (m := 64) hn
  refine (uint_any a xs capa w h1.lim hx h1.le h1.wf).mono fun e w' ⟨he, hw⟩ => ⟨?_, hw⟩
  rw [he, if_pos hb, two_limbs h1.wf hb]
theorem uint_big {u : Value} {xs : List Int} {a : Option Addr} {capa : Nat} {w : World} (h1 : Arg w u xs a capa) (hx : xs.length ≤ 35184372088832) (hn : 18446744073709551616 ≤ val xs) :
    Calls Tryz.prog 143 #[u] w fun e w' => e = .returned (.tuple #[.int .u64 0, .bool false]) ∧ w = w' := by
  rw [h1.is]
  have hb : ¬ bitsN xs ≤ 64 := fun h => by have := (bitsN_is h1.wf).lt (m := 64) h; omega
  refine (uint_any a xs capa w h1.lim hx h1.le h1.wf).mono fun e w' ⟨he, hw⟩ => ⟨?_, hw⟩
  rw [he, if_neg hb]
set_option maxHeartbeats 400000 in
theorem ofN_any (n : Int) (w : World) (h0 : 0 ≤ n) (h1 : n < 18446744073709551616) :
    Calls Tryz.prog 136 #[.int .u64 n] w fun e w' => ∃ r zs, e = .returned r ∧ Res w.heap.size w' r zs n ∧ zs.length ≤ 2 ∧ Below w.heap.size w w' := by
  have hwf : Wf [n % 4294967296, n / 4294967296] := wf2 (by omega) (by omega)
  have hnum := Num.ofBlk (base := w.heap.size) (g := w.heap.size) (Blk.lit w [n % 4294967296, n / 4294967296]) (Nat.le_refl _) 2 (by simp) (by unfold maxLen; simp)
  go_enter Tryz.func136, Tryz.ntmps136
  go_wp2_with fail
  refine (cut_num hnum).mono ?_
  rintro e w' ⟨u, rfl, hu, rfl⟩
  go_wp2_with fail
  go_ret
  refine ⟨_, _, rfl, ⟨hu, hwf.trim, trim_full _, by rw [val_trim]; simp [val]; omega⟩, ?_, (Below.refl _ w).alloc (Nat.le_refl _) _⟩
  exact trim_len_le [n % 4294967296, n / 4294967296]
end
section
open Go.RowKit
/-- limbs, shifted down by fewer than 32 places -/
def shrW (q : Nat) : List Int → List Int
  | [] => []
  | x :: L => ((4294967296 * L.getD 0 0 + x) / 2 ^ q) % 4294967296 :: shrW q L
theorem shrW_length (q : Nat) (L : List Int) : (shrW q L).length = L.length := by
  induction L with
  | nil => rfl
  | cons x L ih => simp [shrW, ih]
theorem shrW_wf (q : Nat) (L : List Int) : Wf (shrW q L) := by
  induction L with
  | nil => exact Wf.nil
  | cons x L ih => exact Wf.cons (by omega) ih
theorem shrW_at (q : Nat) (L : List Int) (i : Nat) (h : i < L.length) : (shrW q L).getD i 0 = ((4294967296 * L.getD (i + 1) 0 + L.getD i 0) / 2 ^ q) % 4294967296 := by
  induction L generalizing i with
  | nil => simp at h
  | cons x L ih =>
    cases i with
    | zero => simp [shrW]
    | succ i =>
      have := ih i (by simpa using h)
      simpa [shrW] using this
theorem val_head (L : List Int) : val L = L.getD 0 0 + 4294967296 * val L.tail := by
  cases L with
  | nil => simp [val]
  | cons x L => simp [val]
theorem val_shrW (q : Nat) (hq : q < 32) {L : List Int} (hw : Wf L) : val (shrW q L) = val L / 2 ^ q := by
  induction L with
  | nil => simp [shrW, val]
  | cons x L ih =>
    simp only [shrW, val]
    rw [ih hw.tail]
    have hx := hw.head
    have hy := hw.tail.getD 0
    have hP := two_pos q
    have hB : (4294967296 : Int) = 2 ^ q * 2 ^ (32 - q) := by rw [← Int.pow_add, show q + (32 - q) = 32 from by omega]; rfl
    have hv := val_head L
    generalize val L.tail = z at hv
    generalize L.getD 0 0 = y at *
    rw [hv]
    generalize hPd : (2 : Int) ^ q = P at *
    generalize hQd : (2 : Int) ^ (32 - q) = Q at *
    have e1 : (y + 4294967296 * z) / P = y / P + Q * z := by
      rw [show y + 4294967296 * z = y + P * (Q * z) from by rw [← Int.mul_assoc, ← hB], Int.add_mul_ediv_left _ _ (by omega)]
    have e2 : (x + 4294967296 * (y + 4294967296 * z)) / P = (4294967296 * y + x) / P + 4294967296 * (Q * z) := by
      rw [show x + 4294967296 * (y + 4294967296 * z) = 4294967296 * y + x + P * (4294967296 * (Q * z)) from by
        rw [show P * (4294967296 * (Q * z)) = 4294967296 * (P * Q * z) from by rw [Int.mul_assoc P Q z, Int.mul_left_comm], ← hB]; omega]
      rw [Int.add_mul_ediv_left _ _ (by omega)]
    have e3 : (4294967296 * y + x) / P / 4294967296 = y / P := by
      rw [Int.ediv_ediv_of_nonneg (by omega), Int.mul_comm P, ← Int.ediv_ediv_of_nonneg (by omega)]
      congr 1
      omega
    have e4 := Int.mul_ediv_add_emod ((4294967296 * y + x) / P) 4294967296
    rw [e3] at e4
    rw [e1, e2]
    generalize y / P = Y at *
    generalize (4294967296 * y + x) / P = D at *
    generalize Q * z = S at *
    omega
theorem shift_parts (n : Int) (h : n ≤ 9223372036854775807) : ∃ wh q : Nat, max n 0 / 32 = wh ∧ max n 0 % 32 = q ∧ n.toNat = wh * 32 + q ∧ q < 32 ∧ wh ≤ 288230376151711744 :=
  ⟨n.toNat / 32, n.toNat % 32, by omega, by omega, by omega, by omega, by omega⟩
theorem val_shr {xs : List Int} (wh q : Nat) (hw : Wf xs) : val xs / 2 ^ (wh * 32 + q) = val (xs.drop wh) / 2 ^ q := by
  rw [Int.pow_add, ← pow_limb, ← Int.ediv_ediv_of_nonneg (Int.le_of_lt (pow_pos' _))]
  congr 1
  rcases Nat.lt_or_ge wh xs.length with h | h
  · have e := val_append (xs.take wh) (xs.drop wh)
    rw [List.take_append_drop, List.length_take, Nat.min_eq_left (by omega)] at e
    have h1 := val_nonneg (hw.take wh)
    have h2 := val_lt (hw.take wh)
    rw [List.length_take, Nat.min_eq_left (by omega)] at h2
    rw [e, Int.add_mul_ediv_left _ _ (by have := pow_pos' wh; omega), Int.ediv_eq_zero_of_lt h1 h2, Int.zero_add]
  · rw [List.drop_of_length_le h]
    have h2 := val_lt hw
    have h4 : (4294967296 : Int) ^ xs.length ≤ 4294967296 ^ wh := by rw [pow_limb, pow_limb]; exact two_mono (by omega)
    rw [Int.ediv_eq_zero_of_lt (val_nonneg hw) (by omega)]
    rfl
set_option maxHeartbeats 2000000 in
theorem shr_any {u : Value} {xs : List Int} {a : Option Addr} {capa : Nat} {w : World} (n : Int) (h1 : Arg w u xs a capa) (hx : xs.length ≤ 35184372088832) (hn1 : -9223372036854775808 ≤ n) (hn2 : n ≤ 9223372036854775807) :
    Calls Tryz.prog 167 #[u, .int .i64 n] w fun e w' => ∃ r zs, e = .returned r ∧ Res w.heap.size w' r zs (val xs / 2 ^ n.toNat) ∧ zs.length ≤ xs.length ∧ Below w.heap.size w w' := by
  obtain ⟨rfl, hl, hcap, hwf⟩ := h1
  obtain ⟨wh, q, e1, e2, e3, hq, hwh⟩ := shift_parts n hn2
  have hta := trim_le xs
  have hval : val xs / 2 ^ n.toNat = val ((trim xs).drop wh) / 2 ^ q := by rw [e3, ← val_shr wh q hwf.trim, val_trim]
  have hwt := hwf.trim
  have htl := trim_length xs
  have hlt : Lim w a (trim xs) := hl.take _
  rw [hval]
  have sp := split_any n w hn1 hn2
  rw [e1, e2] at sp
  obtain ⟨t, ht⟩ : ∃ t, trimN xs xs.length = t := ⟨_, rfl⟩
  rw [ht] at hta htl
  generalize trim xs = ys at *
  have HT := Lib.hid htl
  have HTT := Lib.hid ht
  clear hval e1 e2 e3 htl ht hwf
  go_enter Tryz.func167, Tryz.ntmps167
  go_wp2_with fail
  refine sp.mono ?_
  rintro e w' ⟨rfl, rfl⟩
  clear sp
  go_wp2_with fail
  refine (cut_any a xs capa _ hl (by unfold maxLen; omega) hcap).mono ?_
  rintro e w' ⟨rfl, rfl⟩
  rw [HTT.out]
  by_cases hge : t ≤ wh
  · have hge2 : (t : Int) ≤ (wh : Int) := by omega
    go_wp2
    go_ret
    exact ⟨_, [], rfl, ⟨World.ownsRow_nil _ _ _ _, Wf.nil, rfl, by rw [List.drop_of_length_le (by rw [HT.out]; exact hge)]; simp [val]⟩, by simp, Below.refl _ _⟩
  · obtain ⟨m, hm⟩ : ∃ m, wh + m = t := ⟨t - wh, by omega⟩
    have hlt2 : ¬ (t : Int) ≤ (wh : Int) := by omega
    have hsub : (t : Int) - (wh : Int) = (m : Int) := by omega
    have hmk := make_runN m m (Nat.le_refl _) (by omega)
    obtain ⟨L, hL⟩ : ∃ L, shrW q (ys.drop wh) = L := ⟨_, rfl⟩
    have hLl : L.length = m := by rw [← hL, shrW_length, List.length_drop, HT.out]; omega
    have HL := Lib.hid hL
    have HLL := Lib.hid hLl
    have hcapt : t ≤ capa := by omega
    clear hL hLl
    go_wp2
    go_loopw [8, 27] (fun _ i wr => ∃ k : Nat, k ≤ m ∧ i = .int .i64 k ∧ Blk wr w.heap.size (L.take k ++ List.replicate (m - k) 0) ∧ Below w.heap.size w wr) (fun _ i _ => m - (intOf i).toNat)
    case atStart => exact ⟨0, Nat.zero_le _, rfl, by simpa using Blk.made w m, (Below.refl _ w).alloc (Nat.le_refl _) _⟩
    case round =>
      obtain ⟨k, hk, rfl, hblk, hb⟩ := hrel
      by_cases hkm : k < m
      · have hkm2 : (k : Int) < (m : Int) := by omega
        have hlz : (L.take k ++ List.replicate (m - k) 0).length = m := by rw [List.length_append, List.length_take, HLL.out, List.length_replicate]; omega
        have hcell := hblk.cell k (by omega)
        have hfree := hblk.free k
        have hset := hblk.set k (L.getD k 0)
        rw [set_mid _ _ _ _ (by rw [List.length_take, HLL.out]; omega) hkm] at hset
        have hpr := pair_any a ys capa ((wh : Int) + k) wr (hlt.later hb) (by rw [HT.out]; unfold maxLen; omega) (by omega) (by omega) hwt
        have ei : ((wh : Int) + k).toNat = wh + k := by omega
        rw [ei, HT.out] at hpr
        have hLk : L.getD k 0 = ((4294967296 * ys.getD (wh + k + 1) 0 + ys.getD (wh + k) 0) / 2 ^ q) % 4294967296 := by
          rw [← HL.out, shrW_at _ _ _ (by rw [List.length_drop, HT.out]; omega)]
          simp [List.getElem?_drop, Nat.add_assoc]
        obtain ⟨p0, p1⟩ : 0 ≤ 4294967296 * ys.getD (wh + k + 1) 0 + ys.getD (wh + k) 0 ∧ 4294967296 * ys.getD (wh + k + 1) 0 + ys.getD (wh + k) 0 < 18446744073709551616 := by have b1 := hwt.getD (wh + k + 1); have b0 := hwt.getD (wh + k); omega
        obtain ⟨d, hd⟩ : ∃ d, 4294967296 * ys.getD (wh + k + 1) 0 + ys.getD (wh + k) 0 = d := ⟨_, rfl⟩
        rw [hd] at hpr hLk p0 p1
        have hp := two_pos q
        have d0 : 0 ≤ d / 2 ^ q := Int.ediv_nonneg p0 (by omega)
        have d1 : d / 2 ^ q ≤ d := Int.ediv_le_self _ p0
        have HSET := Lib.hid hset
        have HLK := Lib.hid hLk
        clear hset hLk hlz hd ei hblk
        go_wp2_with fail
        refine hpr.mono ?_
        rintro e w' ⟨rfl, rfl⟩
        go_wp2
        go_roundw
        case rel =>
          refine ⟨k + 1, by omega, by go_num, ?_, hb.setCell (p := ⟨w.heap.size, k, none⟩) (Nat.le_refl _) _⟩
          have e : L.take (k + 1) = L.take k ++ [L.getD k 0] := by
            have hl := HLL.out
            rw [List.take_succ_eq_append_getElem (by omega)]
            simp [show k < L.length by omega]
          rw [e, ← HLK.out]
          exact HSET.out
        case measure => simp [intOf]; omega
      · obtain rfl : k = m := by omega
        have hl := HLL.out
        rw [Nat.sub_self, List.replicate_zero, List.append_nil, List.take_of_length_le (by omega)] at hblk
        have hnum := Num.ofBlk hblk (Nat.le_refl _) k (by omega) (by rw [hl]; unfold maxLen; omega)
        rw [hl, List.take_of_length_le (by omega)] at hnum
        have hv : val L = val (ys.drop wh) / 2 ^ q := by rw [← HL.out]; exact val_shrW q hq (hwt.drop wh)
        have wL : Wf L := by rw [← HL.out]; exact shrW_wf _ _
        have HV := Lib.hid hv
        clear hv hblk
        go_wp2_with fail
        refine (cut_num hnum).mono ?_
        rintro e w' ⟨z, rfl, hz, rfl⟩
        go_wp2_with fail
        go_ret
        exact ⟨_, _, rfl, ⟨hz, wL.trim, trim_full _, by rw [val_trim, HV.out]⟩, by have := trim_len_le L; have h2 := HLL.out; omega, hb⟩
end
section
open Go.RowKit Go.Shelf
attribute [local go_sem] Oper.semAt_some
/-- limbs that are shifted up one by one: what is written, the carry -/
def shlStep (q : Nat) (xs : List Int) (s : List Int × Int) (k : Nat) : List Int × Int :=
  (s.1 ++ [(s.2 + xs.getD k 0 * 2 ^ q) % 4294967296], (s.2 + xs.getD k 0 * 2 ^ q) / 4294967296)
def shlOf (q : Nat) (xs : List Int) (ks : List Nat) : List Int × Int := ks.foldl (shlStep q xs) ([], 0)
theorem shlOf_snoc (q : Nat) (xs : List Int) (ks : List Nat) (k : Nat) : shlOf q xs (ks ++ [k]) = shlStep q xs (shlOf q xs ks) k := by simp [shlOf]
theorem shl_part {x : Int} {q : Nat} (hx : 0 ≤ x ∧ x < 4294967296) (hq : q < 32) : 0 ≤ x * 2 ^ q ∧ x * 2 ^ q ≤ 4294967295 * 2 ^ q ∧ (2 : Int) ^ q ≤ 2147483648 := by
  have hp := two_pos q
  refine ⟨Int.mul_nonneg hx.1 (by omega), Int.mul_le_mul_of_nonneg_right (by omega) (by omega), ?_⟩
  exact two_mono (show q ≤ 31 by omega)
theorem shlOf_ok (q : Nat) (xs : List Int) (hx : Wf xs) (hq : q < 32) (ks : List Nat) : (shlOf q xs ks).1.length = ks.length ∧ Wf (shlOf q xs ks).1 ∧ 0 ≤ (shlOf q xs ks).2 ∧ (shlOf q xs ks).2 < 2 ^ q := by
  suffices h : ∀ (ks : List Nat) (s : List Int × Int), Wf s.1 ∧ 0 ≤ s.2 ∧ s.2 < 2 ^ q → ((ks.foldl (shlStep q xs) s).1.length = s.1.length + ks.length ∧ Wf (ks.foldl (shlStep q xs) s).1 ∧ 0 ≤ (ks.foldl (shlStep q xs) s).2 ∧ (ks.foldl (shlStep q xs) s).2 < 2 ^ q) from by
    have h2 := h ks ([], 0) ⟨Wf.nil, by simp, two_pos q⟩
    simpa [shlOf] using h2
  intro ks
  induction ks with
  | nil => intro s h; exact ⟨by simp, h⟩
  | cons k ks ih =>
    intro s ⟨g1, g2, g3⟩
    have hp := shl_part (hx.getD k) hq
    have h := ih (shlStep q xs s k) ⟨g1.append (Wf.cons (by omega) Wf.nil), by simp only [shlStep]; omega, by simp only [shlStep]; omega⟩
    refine ⟨?_, h.2⟩
    rw [List.foldl_cons, h.1]
    simp [shlStep]
    omega
theorem val_shlOf (q : Nat) (xs : List Int) (k : Nat) : (shlOf q xs (List.range k)).1.length = k ∧ val (shlOf q xs (List.range k)).1 + 4294967296 ^ k * (shlOf q xs (List.range k)).2 = val (xs.take k) * 2 ^ q := by
  induction k with
  | zero => simp [shlOf, val]
  | succ k ih =>
    obtain ⟨il, ih⟩ := ih
    rw [List.range_succ, shlOf_snoc, val_take_succ]
    simp only [shlStep]
    refine ⟨by simp [il], ?_⟩
    rw [val_append, il]
    have hm : ∀ s : Int, s % 4294967296 + 4294967296 * (s / 4294967296) = s := fun s => by omega
    have hm := hm ((shlOf q xs (List.range k)).2 + xs.getD k 0 * 2 ^ q)
    simp only [Int.pow_succ, val]
    rw [Int.add_mul, ← ih, Int.mul_assoc, Int.mul_assoc]
    generalize (shlOf q xs (List.range k)).2 = c at *
    generalize xs.getD k 0 * 2 ^ q = y at *
    generalize (4294967296 : Int) ^ k = P at *
    generalize (c + y) % 4294967296 = r at *
    generalize (c + y) / 4294967296 = t at *
    have h2 : P * (r + 4294967296 * t) = P * (c + y) := by rw [hm]
    rw [Int.mul_add, Int.mul_add] at h2
    simp only [Int.mul_zero, Int.add_zero]
    omega
/-- one limb behind a row that has room -/
theorem step_append_limb {ops : Array Oper} {o : Oper} {a : Act} {w : World} {K : Act → World → Prop} {Q : Exit → Act → World → Prop} {E : Prop} (hg : o.guard = none) (s x : Operand)
    (hop : o.op = Op.call { callee := Callee.builtin Builtin.append, args := #[s, x], argTypes := #[49, 49] }) (g n cap p : Nat) (zs : List Int) (d : Int) (h : Blk w g zs) (hc : zs.length = cap) (hn : n < cap)
    (hs : a.eval s = .slice (some ⟨g, 0, none⟩) n cap) (hx : a.eval x = .slice (some ⟨p, 0, none⟩) 1 1) (hp : w.cell? ⟨p, 0, none⟩ = some (.int .u32 d))
    (hK : K (a.put o.dst (.slice (some ⟨g, 0, none⟩) (n + 1) cap)) (w.setCell ⟨g, n, none⟩ (.int .u32 d))) :
    if Region.wanted o (yielded ops a.tmps) = true then Oper.wp Tryz.prog o a w K Q else E := by
  obtain ⟨i0, hi, hz0, hz1, hz2⟩ := info_parts infoLimb
  refine step_append_room hg s x 49 hop 64 i0 1 Tryz.underlying49 hi hz1 g 0 n cap hs ⟨p, 0, none⟩ 1 1 [.int .u32 d] hx rfl ?_ (by simp [Value.oneCell']) (by omega) ?_ ?_
  · intro j u hj
    match j, hj with
    | 0, hj =>
      simp at hj
      subst hj
      exact hp
    | j + 1, hj => simp at hj
  · intro j hj
    have hj0 : j = 0 := by simpa using hj
    subst hj0
    rw [show (0 : Nat) + n * 1 + 0 = n from by omega]
    exact ⟨by rw [h.cell n (by omega)]; rfl, h.free n⟩
  · rw [show (0 : Nat) + n * 1 = n from by omega]
    exact hK
theorem wpIn_of_wp_wide {n : Nat} {P : Program} {o : Oper} {a : Act} {w : World} {K : Act → World → Prop} {Q : Exit → Act → World → Prop} (hnd : ∀ c, o.op ≠ .defer c)
    (h : o.wp P a w K Q) : o.wpIn Fence.wide n P a w K Q := by
  unfold Oper.wpIn
  refine ⟨fun _ _ => trivial, ?_⟩
  rw [Oper.semAt_eq _ _ _ hnd]
  unfold Oper.wp at h
  generalize (execOp a.eval o).run P w = r at *
  cases r with
  | ok x w' =>
    cases x with
    | value v => exact h
    | skip => exact h
    | defer d => exact h
    | enter f args => exact ⟨(fun h => by cases h), callsIn_wide.2 h⟩
    | row r args => exact ⟨(fun h => by cases h), fun c cs _ => let ⟨v, w', r, s⟩ := h c cs; ⟨v, w', r, stepsIn_wide.2 s⟩⟩
    | _ => exact h.elim
  | halt x w' => cases x <;> exact h
theorem wpAnyIn_of_wide {n : Nat} {P : Program} {md : Region.Mode} {ops : Array Oper} {Q : Exit → Act → World → Prop} (hnd : noDefer ops = true) (hLO : ¬ LetsOut Q) :
    ∀ (fuel : Nat) (listed : Array Bool) (a : Act) (w : World), wpAny P md ops Q fuel listed a w → wpAnyIn Fence.wide n P md ops Q fuel listed a w
  | 0, _, _, _, h => h
  | fuel + 1, _, _, _, h => ⟨h.1, fun i hi => by
    have h2 := h.2 i hi
    unfold wpOp at h2
    unfold wpOpIn
    split
    · rename_i he
      rw [he] at h2
      exact wpAnyIn_of_wide hnd hLO fuel _ _ _ h2
    · rename_i o ho
      simp only [ho] at h2
      split
      · rename_i hw
        simp only [hw, if_true] at h2
        rcases h2 with h2 | h2
        · exact wpIn_of_wp_wide (fun c => noDefer_spec hnd ho c) (Oper.wp_mono (fun a w ha => wpAnyIn_of_wide hnd hLO fuel _ a w ha) h2)
        · exact absurd h2.2 hLO
      · rename_i hw
        simp only [hw] at h2
        exact ⟨fun _ _ => trivial, wpAnyIn_of_wide hnd hLO fuel _ _ _ h2⟩⟩
/-- only the normal way out -/
def Straight (Q : Exit → Act → World → Prop) : Exit → Act → World → Prop
  | .normal, a, w => Q .normal a w
  | _, _, _ => False
theorem straight_mono {Q : Exit → Act → World → Prop} : ∀ e a w, Straight Q e a w → Q e a w := by
  intro e a w h
  cases e with
  | normal => exact h
  | _ => exact h.elim
theorem region_wide {n id : Nat} {P : Program} {ops : Array Oper} {Q : Exit → Act → World → Prop} {a : Act} {w : World} (S : World → Prop) (hm : P.follows .mixedOrders = true) (hnd : noDefer ops = true)
    (hS : S w.drew) (h : S w.drew → wpAnyH P .any ops (Straight Q) S ops.size (Array.replicate ops.size false) a w.drew) : (Code.region id ops true).wpIn Fence.wide n P Q a w :=
  Code.wpIn_mono straight_mono (wpIn_region_any hm (wpAnyIn_of_wide hnd (by rintro ⟨a', w', h⟩; exact h) _ _ _ _ (wpAny_of_held _ _ _ _ (h hS))))
set_option maxRecDepth 100000 in
set_option maxHeartbeats 4000000 in
set_option linter.unusedSimpArgs false in
theorem shl_any {u : Value} {xs : List Int} {a : Option Addr} {capa : Nat} {w : World} (n₀ : Int) (h1 : Arg w u xs a capa) (hx : xs.length ≤ 268435455) (hn1 : -9223372036854775808 ≤ n₀) (hn2 : n₀ ≤ 8589934592) :
    Calls Tryz.prog 165 #[u, .int .i64 n₀] w fun e w' => ∃ r zs, e = .returned r ∧ Res w.heap.size w' r zs (val xs * 2 ^ n₀.toNat) ∧ zs.length ≤ xs.length + n₀.toNat / 32 + 1 ∧ Below w.heap.size w w' := by
  obtain ⟨rfl, hl, hcap, hwf⟩ := h1
  obtain ⟨wh, q, e1, e2, e3, hq, _⟩ := shift_parts n₀ (by omega)
  have hwh : wh ≤ 268435456 := by omega
  have hta := trim_le xs
  have hdiv : n₀.toNat / 32 = wh := by omega
  have sp := split_any n₀ w hn1 (by omega)
  rw [e1, e2] at sp
  have hval : val xs * 2 ^ n₀.toNat = 4294967296 ^ wh * (val (trim xs) * 2 ^ q) := by rw [e3, Int.pow_add, ← pow_limb, val_trim]; exact Int.mul_left_comm _ _ _
  rw [hval, hdiv]
  have htr := trim_full xs
  have htl := trim_length xs
  have hwt := hwf.trim
  have hlt : Lim w a (trim xs) := hl.take _
  generalize trim xs = ys at *
  have hta2 : ys.length ≤ xs.length := by omega
  have HM := Lib.hid htl
  have hcapy : ys.length ≤ capa := by omega
  clear hval hdiv e1 e2 e3 htl hta
  obtain ⟨n, hn⟩ : ∃ n : Nat, Hid (3 ≤ n) := ⟨3, Nat.le_refl 3⟩
  refine (callsIn_wide (n := n)).1 ?_
  refine callsIn_of_wp_marks Tryz.func165 rfl trivial ?_ rfl
  simp only [Tryz.ntmps165, List.size_toArray, List.length_cons, List.length_nil, Nat.reduceAdd, Nat.reduceSub, Array.replicate_succ, Array.replicate_zero, List.push_toArray, List.append_toArray, List.nil_append, List.cons_append]
  gi_wp2_with fail
  refine wideCall (sp.mono ?_)
  rintro e w' ⟨rfl, rfl⟩
  clear sp
  have bB0 := Boxed.new w 3 (.int .i64 (0 : Int))
  have bC0 := bB0.cell
  have bF0 := bB0.frozen
  gi_wp2_with fail
  clear bB0 bC0 bF0
  have bQ := Boxed.new w 3 (.int .i64 (q : Int))
  have hV : Below w.heap.size w (w.alloc (Obj.cells #[Value.int IntKind.i64 (q : Int)] 3)) := (Below.refl _ w).alloc (Nat.le_refl _) _
  have hsV : (w.alloc (Obj.cells #[Value.int IntKind.i64 (q : Int)] 3)).heap.size = w.heap.size + 1 := by simp
  generalize w.alloc (Obj.cells #[Value.int IntKind.i64 (q : Int)] 3) = V at *
  have hlV := hl.later hV
  have hltV := hlt.later hV
  refine wideCall ((cut_any a xs capa _ hlV (by unfold maxLen; omega) hcap).mono ?_)
  rintro e w' ⟨rfl, rfl⟩
  rw [← HM.out]
  by_cases hz : ys.length = 0
  · have he := List.eq_nil_of_length_eq_zero hz
    subst he
    gi_wp2_with fail
    refine ⟨_, results_tmp rfl _ _ _, .slice none 0 0, [], rfl, ⟨World.ownsRow_nil _ _ _ _, Wf.nil, rfl, by simp [val]⟩, by simp, hV⟩
  · have hmz : ((ys.length : Int) == 0) = false := by simp; intro h; subst h; exact hz rfl
    have hbig : decide (536870911 - (ys.length : Int) < (wh : Int)) = false := decide_eq_false (by omega)
    obtain ⟨cp, hcp⟩ : ∃ cp, wh + ys.length + 1 = cp := ⟨_, rfl⟩
    have hcpi : (wh : Int) + (ys.length : Int) + 1 = (cp : Int) := by omega
    have hmk := make_runN wh cp (by omega) (by omega)
    gi_wp2_with fail
    refine wideCall ((carrier_any _ _).mono ?_)
    rintro e w' ⟨rfl, rfl⟩
    have k1 := (((Blk.made V cp).alloc (Obj.cells #[Value.slice (some ⟨w.heap.size + 1, 0, none⟩) wh cp] 49)).alloc (Obj.cells #[Value.int .u64 0] 152))
    have k2 := (Boxed.new (V.alloc (Obj.cells (madeCells #[Value.int .u32 0] cp) 64)) 49 (Value.slice (some ⟨w.heap.size + 1, 0, none⟩) wh cp)).alloc (Obj.cells #[Value.int .u64 0] 152)
    have k3 := Boxed.new ((V.alloc (Obj.cells (madeCells #[Value.int .u32 0] cp) 64)).alloc (Obj.cells #[Value.slice (some ⟨w.heap.size + 1, 0, none⟩) wh cp] 49)) 152 (.int .u64 0)
    have k4 : Below V.heap.size V (((V.alloc (Obj.cells (madeCells #[Value.int .u32 0] cp) 64)).alloc (Obj.cells #[Value.slice (some ⟨w.heap.size + 1, 0, none⟩) wh cp] 49)).alloc (Obj.cells #[Value.int .u64 0] 152)) := (((Below.refl _ V).alloc (Nat.le_refl _) _).alloc (by simp) _).alloc (by simp; omega) _
    have k5 : (((V.alloc (Obj.cells (madeCells #[Value.int .u32 0] cp) 64)).alloc (Obj.cells #[Value.slice (some ⟨w.heap.size + 1, 0, none⟩) wh cp] 49)).alloc (Obj.cells #[Value.int .u64 0] 152)).heap.size = w.heap.size + 1 + 1 + 1 + 1 := by simp [hsV]
    simp only [World.size_alloc, hsV] at k1 k2 k3 k4
    simp only [World.size_alloc, hsV]
    generalize (((V.alloc (Obj.cells (madeCells #[Value.int .u32 0] cp) 64)).alloc (Obj.cells #[Value.slice (some ⟨w.heap.size + 1, 0, none⟩) wh cp] 49)).alloc (Obj.cells #[Value.int .u64 0] 152)) = W3 at *
    have k6 := Boxed.new W3 169 .nilFunc
    rw [k5] at k6
    have k6c := k6.cell
    have k6f := k6.frozen
    have K5 := Lib.hid k5
    have k5' := k5
    clear k5
    gi_wp2_with fail
    refine wideCall ((limbs_any a ys.length capa _).mono ?_)
    rintro e w' ⟨rfl, rfl⟩
    gi_wp2_with fail
    have j1 := (k1.alloc (Obj.cells #[Value.func (.func 168) #[] #[.pointer (some ⟨w.heap.size + 1 + 1 + 1, 0, none⟩)]] 169)).alloc (Obj.cells #[Value.slice a ys.length capa] 49)
    have j2 := (k2.alloc (Obj.cells #[Value.func (.func 168) #[] #[.pointer (some ⟨w.heap.size + 1 + 1 + 1, 0, none⟩)]] 169)).alloc (Obj.cells #[Value.slice a ys.length capa] 49)
    have j3 := (k3.alloc (Obj.cells #[Value.func (.func 168) #[] #[.pointer (some ⟨w.heap.size + 1 + 1 + 1, 0, none⟩)]] 169)).alloc (Obj.cells #[Value.slice a ys.length capa] 49)
    have j4 := (Boxed.new W3 169 (Value.func (.func 168) #[] #[.pointer (some ⟨w.heap.size + 1 + 1 + 1, 0, none⟩)])).alloc (Obj.cells #[Value.slice a ys.length capa] 49)
    have j5 := Boxed.new (W3.alloc (Obj.cells #[Value.func (.func 168) #[] #[.pointer (some ⟨w.heap.size + 1 + 1 + 1, 0, none⟩)]] 169)) 49 (Value.slice a ys.length capa)
    have j6 : Below (w.heap.size + 1) V ((W3.alloc (Obj.cells #[Value.func (.func 168) #[] #[.pointer (some ⟨w.heap.size + 1 + 1 + 1, 0, none⟩)]] 169)).alloc (Obj.cells #[Value.slice a ys.length capa] 49)) := (k4.alloc (by omega) _).alloc (by simp; omega) _
    have j7 : ((W3.alloc (Obj.cells #[Value.func (.func 168) #[] #[.pointer (some ⟨w.heap.size + 1 + 1 + 1, 0, none⟩)]] 169)).alloc (Obj.cells #[Value.slice a ys.length capa] 49)).heap.size = w.heap.size + 6 := by simp; omega
    rw [k5'] at j4
    rw [World.size_alloc, k5'] at j5
    generalize ((W3.alloc (Obj.cells #[Value.func (.func 168) #[] #[.pointer (some ⟨w.heap.size + 1 + 1 + 1, 0, none⟩)]] 169)).alloc (Obj.cells #[Value.slice a ys.length capa] 49)) = W5 at *
    clear k1 k2 k3 k4 k6 k6c k6f K5 k5' hmk
    have h3 : 3 ≤ n := hn
    refine wpIn_rangeFunc_ownF rfl (by omega) (gf := 172) (lb := #[.pointer (some ⟨w.heap.size + 1 + 1 + 1 + 1 + 1, 0, none⟩)]) rfl trivial (enters_of Tryz.func172 (by kernel_rfl) rfl)
      (limbs_stops (n - 1) (w.heap.size + 1 + 1 + 1 + 1 + 1) (w.heap.size + 1) a ys capa (by omega) hcapy (fun hne p hp => by have := hlt.lt hne p hp; omega) _ (by omega) j5.cell (hltV.later (hsV ▸ j6))) belowK_t (belowK_b (by omega)) (Below.refl _ _) (fun _ => rfl)
      (fun (pre : List (Fin (trimN ys ys.length))) X => (((((Blk X (w.heap.size + 1) (List.replicate wh 0 ++ (shlOf q ys (pre.map Fin.val)).1 ++ List.replicate (cp - (wh + pre.length)) 0) ∧ Boxed X (w.heap.size + 1 + 1) 49 (.slice (some ⟨w.heap.size + 1, 0, none⟩) (wh + pre.length) cp)) ∧ Boxed X (w.heap.size + 1 + 1 + 1) 152 (.int .u64 (shlOf q ys (pre.map Fin.val)).2)) ∧
        Boxed X (w.heap.size + 1 + 1 + 1 + 1) 169 (Value.func (.func 168) #[] #[.pointer (some ⟨w.heap.size + 1 + 1 + 1, 0, none⟩)])) ∧ Below (w.heap.size + 1) V X)))
      (fun _ _ _ => False)
      (OwnFrom.and (Own.from (Own.and2 (Own.and2 (Own.and2 (blk_own _ _) (boxed_own _ _ _)) (boxed_own _ _ _)) (boxed_own _ _ _)) _) (ownFrom_below (by omega) (by omega)))
      (fun _ _ _ _ _ hs _ _ => hs)
      ⟨⟨⟨⟨by simpa [shlOf, ← hcp, List.replicate_append_replicate, Nat.add_assoc] using j1, by simpa using j2⟩, j3⟩, j4⟩, j6⟩
      (fun (y : Fin (trimN ys ys.length)) => { tmps := #[.slice a ys.length capa, .int .i64 n₀, undef, undef, .slice none 0 0, .int .i64 (wh : Int), .pointer (some ⟨w.heap.size, 0, none⟩), .pointer (some ⟨w.heap.size + 1 + 1, 0, none⟩), .pointer (some ⟨w.heap.size + 1 + 1 + 1 + 1, 0, none⟩), undef, .int .u32 (ys[y.val]?.getD 0), .tuple #[.int .i64 (wh : Int), .int .i64 (q : Int)], .int .i64 n₀, .tuple #[.int .i64 (wh : Int), .int .i64 (q : Int)], .int .i64 (wh : Int), .int .i64 (q : Int), .slice a xs.length capa, .slice a ys.length capa, .slice a ys.length capa, .int .i64 (ys.length : Int), .bool false, .bool false, .int .i64 (wh : Int), .slice a ys.length capa, .int .i64 (ys.length : Int), .int .i64 (536870911 - (ys.length : Int)), .bool false, .bool false, .int .i64 (wh : Int), .int .i64 (wh : Int), .slice a ys.length capa, .int .i64 (ys.length : Int), .int .i64 ((wh : Int) + (ys.length : Int)), .int .i64 (cp : Int), .slice (some ⟨w.heap.size + 1, 0, none⟩) wh cp, (Value.func (.func 168) #[] #[.pointer (some ⟨w.heap.size + 1 + 1 + 1, 0, none⟩)]), .slice a ys.length capa, .func (.func 172) #[] #[.pointer (some ⟨w.heap.size + 1 + 1 + 1 + 1 + 1, 0, none⟩)], .int .i64 (y.val : Int), .int .u32 (ys[y.val]?.getD 0), undef, undef, undef, undef, undef, undef, undef, undef, undef, undef, undef, undef, undef, undef, undef, undef], defers := [] }) ?assign ?body ?done ?stop
    case assign =>
      intro l y X K hK
      simp only [limbAt]
      gi_wp2
      exact hK
    case body =>
      rintro l pre ⟨k, hk⟩ X ⟨⟨⟨⟨hblk, q1⟩, q2⟩, q3⟩, hB⟩ hlen
      have hkm : k < ys.length := by omega
      obtain ⟨ok1, okw, ok2, ok3⟩ := shlOf_ok q ys hwt hq (pre.map Fin.val)
      obtain ⟨st, hst⟩ : ∃ st, shlOf q ys (pre.map Fin.val) = st := ⟨_, rfl⟩
      rw [hst] at hblk q2 ok1 okw ok2 ok3
      obtain ⟨zs, c⟩ := st
      obtain ⟨ln, hln⟩ : ∃ ln, pre.length = ln := ⟨_, rfl⟩
      rw [hln] at hblk q1
      have hlnm : ln < ys.length := by omega
      obtain ⟨x, hxk⟩ : ∃ x, ys.getD k 0 = x := ⟨_, rfl⟩
      have bx : 0 ≤ x ∧ x < 4294967296 := hxk ▸ hwt.getD k
      have hp := shl_part bx hq
      obtain ⟨y, hy⟩ : ∃ y, x * 2 ^ q = y := ⟨_, rfl⟩
      rw [hy] at hp
      obtain ⟨p0, p1, p2⟩ := hp
      obtain ⟨bx0, bx1⟩ := bx
      have hyb : y < 18446744069414584320 := by omega
      have hxk2 : ys[k]?.getD 0 = x := hxk
      simp only [hxk2]
      simp only [List.length_map] at ok1
      simp only at hblk q2 ok1 okw ok2 ok3
      have zl : zs.length = ln := by omega
      have hwr : IntKind.u64.wrap (IntKind.u64.wrap x * 2 ^ q) = y := by rw [wrap_u64 bx0 (by omega), hy, wrap_u64 p0 (by omega)]
      have HWR := Lib.hid hwr
      have hset := hblk.set (wh + ln) ((c + y) % 4294967296)
      have eset : (List.replicate wh 0 ++ zs ++ List.replicate (cp - (wh + ln)) 0).set (wh + ln) ((c + y) % 4294967296) = List.replicate wh 0 ++ (zs ++ [(c + y) % 4294967296]) ++ List.replicate (cp - (wh + (ln + 1))) 0 := by
        rw [set_mid _ _ _ _ (by simp [zl]) (by omega), List.append_assoc (List.replicate wh 0) zs]; rfl
      obtain ⟨zz, hzz⟩ : ∃ zz, List.replicate wh 0 ++ zs ++ List.replicate (cp - (wh + ln)) 0 = zz := ⟨_, rfl⟩
      have hzl : zz.length = cp := by rw [← hzz]; simp [zl]; omega
      rw [hzz] at hblk eset
      have c1 := q1.cell
      have c3 := q3.cell
      have bX : Boxed X w.heap.size 3 (.int .i64 (q : Int)) := (hB.block w.heap.size (by omega)).trans bQ
      have c0 := bX.cell
      have hsX := hB.size
      have es : shlOf q ys ((pre ++ [(⟨k, hk⟩ : Fin (trimN ys ys.length))]).map Fin.val) = (zs ++ [(c + y) % 4294967296], (c + y) / 4294967296) := by
        rw [List.map_append, List.map_cons, List.map_nil, shlOf_snoc, hst]
        simp only [shlStep, hxk, hy]
      have fin : ∀ w2 : World, X.drew.grownBy w2 (some (w.heap.size + 1 + 1 + 1)) → w2.heap[w.heap.size + 1 + 1 + 1]? = some (.cells #[.int .u64 ((c + y) / 4294967296)] 152 (0, 0)) →
          KeepsOthers X (((w2.alloc (Obj.cells #[Value.int .u32 ((c + y) % 4294967296)] 64)).setCell ⟨w.heap.size + 1, wh + ln, none⟩ (.int .u32 ((c + y) % 4294967296))).setCell ⟨w.heap.size + 1 + 1, 0, none⟩ (.slice (some ⟨w.heap.size + 1, 0, none⟩) (wh + ln + 1) cp)) ∧ Below (w.heap.size + 1) X (((w2.alloc (Obj.cells #[Value.int .u32 ((c + y) % 4294967296)] 64)).setCell ⟨w.heap.size + 1, wh + ln, none⟩ (.int .u32 ((c + y) % 4294967296))).setCell ⟨w.heap.size + 1 + 1, 0, none⟩ (.slice (some ⟨w.heap.size + 1, 0, none⟩) (wh + ln + 1) cp)) ∧
          ((((Blk (((w2.alloc (Obj.cells #[Value.int .u32 ((c + y) % 4294967296)] 64)).setCell ⟨w.heap.size + 1, wh + ln, none⟩ (.int .u32 ((c + y) % 4294967296))).setCell ⟨w.heap.size + 1 + 1, 0, none⟩ (.slice (some ⟨w.heap.size + 1, 0, none⟩) (wh + ln + 1) cp)) (w.heap.size + 1) (List.replicate wh 0 ++ (shlOf q ys ((pre ++ [(⟨k, hk⟩ : Fin (trimN ys ys.length))]).map Fin.val)).1 ++ List.replicate (cp - (wh + (pre ++ [(⟨k, hk⟩ : Fin (trimN ys ys.length))]).length)) 0) ∧
            Boxed (((w2.alloc (Obj.cells #[Value.int .u32 ((c + y) % 4294967296)] 64)).setCell ⟨w.heap.size + 1, wh + ln, none⟩ (.int .u32 ((c + y) % 4294967296))).setCell ⟨w.heap.size + 1 + 1, 0, none⟩ (.slice (some ⟨w.heap.size + 1, 0, none⟩) (wh + ln + 1) cp)) (w.heap.size + 1 + 1) 49 (.slice (some ⟨w.heap.size + 1, 0, none⟩) (wh + (pre ++ [(⟨k, hk⟩ : Fin (trimN ys ys.length))]).length) cp)) ∧
            Boxed (((w2.alloc (Obj.cells #[Value.int .u32 ((c + y) % 4294967296)] 64)).setCell ⟨w.heap.size + 1, wh + ln, none⟩ (.int .u32 ((c + y) % 4294967296))).setCell ⟨w.heap.size + 1 + 1, 0, none⟩ (.slice (some ⟨w.heap.size + 1, 0, none⟩) (wh + ln + 1) cp)) (w.heap.size + 1 + 1 + 1) 152 (.int .u64 (shlOf q ys ((pre ++ [(⟨k, hk⟩ : Fin (trimN ys ys.length))]).map Fin.val)).2)) ∧
            Boxed (((w2.alloc (Obj.cells #[Value.int .u32 ((c + y) % 4294967296)] 64)).setCell ⟨w.heap.size + 1, wh + ln, none⟩ (.int .u32 ((c + y) % 4294967296))).setCell ⟨w.heap.size + 1 + 1, 0, none⟩ (.slice (some ⟨w.heap.size + 1, 0, none⟩) (wh + ln + 1) cp)) (w.heap.size + 1 + 1 + 1 + 1) 169 (Value.func (.func 168) #[] #[.pointer (some ⟨w.heap.size + 1 + 1 + 1, 0, none⟩)])) ∧ Below (w.heap.size + 1) V (((w2.alloc (Obj.cells #[Value.int .u32 ((c + y) % 4294967296)] 64)).setCell ⟨w.heap.size + 1, wh + ln, none⟩ (.int .u32 ((c + y) % 4294967296))).setCell ⟨w.heap.size + 1 + 1, 0, none⟩ (.slice (some ⟨w.heap.size + 1, 0, none⟩) (wh + ln + 1) cp))) := fun w2 hgr hcar => by
        have hko : KeepsOthers X w2 := (KeepsOthers.drew X).trans (KeepsOthers.of_grownBy hgr (fun j o ej hj => by cases ej; rw [show X.drew.heap[w.heap.size + 1 + 1 + 1]? = _ from q2] at hj; cases hj; rfl))
        have hbo : Below (w.heap.size + 1) X w2 := (Below.refl _ X).drew.grown hgr (by have := hgr.size; show w.heap.size + 1 ≤ X.heap.size; omega) (fun j ej => by cases ej; omega)
        have hsz2 : X.heap.size ≤ w2.heap.size := hgr.size
        have hbo5 : Below (w.heap.size + 1) X (((w2.alloc (Obj.cells #[Value.int .u32 ((c + y) % 4294967296)] 64)).setCell ⟨w.heap.size + 1, wh + ln, none⟩ (.int .u32 ((c + y) % 4294967296))).setCell ⟨w.heap.size + 1 + 1, 0, none⟩ (.slice (some ⟨w.heap.size + 1, 0, none⟩) (wh + ln + 1) cp)) := ((hbo.alloc (by omega) _).setCell (p := ⟨w.heap.size + 1, wh + ln, none⟩) (Nat.le_refl _) _).setCell (p := ⟨w.heap.size + 1 + 1, 0, none⟩) (by simp <;> omega) _
        refine ⟨((hko.trans (KeepsOthers.alloc _ _)).trans (KeepsOthers.setCell _ _ _)).trans (KeepsOthers.setCell _ _ _), hbo5, ?_⟩
        have hb3 : Blk (w2.alloc (Obj.cells #[Value.int .u32 ((c + y) % 4294967296)] 64)) (w.heap.size + 1) zz := (Blk.grown (w := X.drew) hblk hgr (by simp <;> omega)).alloc _
        have hb4 := hb3.set (wh + ln) ((c + y) % 4294967296)
        rw [eset] at hb4
        have b7 : Boxed ((w2.alloc (Obj.cells #[Value.int .u32 ((c + y) % 4294967296)] 64)).setCell ⟨w.heap.size + 1, wh + ln, none⟩ (.int .u32 ((c + y) % 4294967296))) (w.heap.size + 1 + 1) 49 (.slice (some ⟨w.heap.size + 1, 0, none⟩) (wh + ln) cp) := Boxed.far ((Boxed.kept (W := X.drew) q1 hgr (by simp <;> omega)).alloc _) (by simp <;> omega) _
        rw [es]
        have el : (pre ++ [(⟨k, hk⟩ : Fin (trimN ys ys.length))]).length = ln + 1 := by simp [hln]
        rw [el]
        refine ⟨⟨⟨⟨?_, Boxed.set _ b7⟩, ?_⟩, ?_⟩, hB.trans hbo5⟩
        · exact (Below.heap_setCell _ _ _ _ (by simp <;> omega)).trans hb4
        · exact Boxed.far (Boxed.far (Boxed.alloc hcar _) (by simp <;> omega) _) (by simp <;> omega) _
        · exact Boxed.far (Boxed.far (Boxed.alloc (Boxed.kept (W := X.drew) q3 hgr (by simp <;> omega)) _) (by simp <;> omega) _) (by simp <;> omega) _
      have FIN := Lib.hid fin
      have HX := Lib.hid hxk
      have HY := Lib.hid hy
      have HS := Lib.hid hst
      clear fin hxk hxk2 hy hst hset eset hzz es hwr
      refine wpIn_block ?_
      refine region_round (fun X' => X'.cell? ⟨w.heap.size + 1 + 1 + 1 + 1, 0, none⟩ = some (Value.func (.func 168) #[] #[.pointer (some ⟨w.heap.size + 1 + 1 + 1, 0, none⟩)]) ∧ X'.cell? ⟨w.heap.size, 0, none⟩ = some (.int .i64 (q : Int)))
        (by kernel_rfl) (by kernel_rfl) (by rintro ⟨a', w', h⟩; exact h) ⟨c3, c0⟩ (fun hHeld => ?_)
      refine wpAnyH_take (i := 1) (v := ?va1) rfl (by kernel_rfl) (by kernel_rfl) (by kernel_rfl) (fun _ _ _ h => h) (Or.inl ⟨by rfl, ?ha1⟩) (by assumption) ?ra1
      case ha1 =>
        intro w hSw
        try dsimp only at hSw
        go_simp
        try with_reducible rfl
      try simp only [Act.put, List.setIfInBounds_toArray, List.set_cons_zero, List.set_cons_succ]
      refine wpAnyH_take (i := 2) (v := ?va2) rfl (by kernel_rfl) (by kernel_rfl) (by kernel_rfl) (fun _ _ _ h => h) (Or.inl ⟨by rfl, ?ha2⟩) (by assumption) ?ra2
      case ha2 =>
        intro w hSw
        try dsimp only at hSw
        go_simp
        try with_reducible rfl
      try simp only [Act.put, List.setIfInBounds_toArray, List.set_cons_zero, List.set_cons_succ]
      refine wpAnyH_take (i := 3) (v := ?va3) rfl (by kernel_rfl) (by kernel_rfl) (by kernel_rfl) (fun _ _ _ h => h) (Or.inl ⟨by rfl, ?ha3⟩) (by assumption) ?ra3
      case ha3 =>
        intro w hSw
        try dsimp only at hSw
        go_simp
        try with_reducible rfl
      try simp only [Act.put, List.setIfInBounds_toArray, List.set_cons_zero, List.set_cons_succ]
      refine wpAnyH_take (i := 4) (v := ?va4) rfl (by kernel_rfl) (by kernel_rfl) (by kernel_rfl) (fun _ _ _ h => h) (Or.inl ⟨by rfl, ?ha4⟩) (by assumption) ?ra4
      case ha4 =>
        intro w hSw
        try dsimp only at hSw
        go_simp
        try with_reducible rfl
      try simp only [Act.put, List.setIfInBounds_toArray, List.set_cons_zero, List.set_cons_succ]
      refine wpAnyH_take (i := 5) (v := ?va5) rfl (by kernel_rfl) (by kernel_rfl) (by kernel_rfl) (fun _ _ _ h => h) (Or.inl ⟨by rfl, ?ha5⟩) (by assumption) ?ra5
      case ha5 =>
        intro w hSw
        try dsimp only at hSw
        go_simp
        try with_reducible rfl
      try simp only [Act.put, List.setIfInBounds_toArray, List.set_cons_zero, List.set_cons_succ]
      rw [HWR.out]
      refine wpAnyH_ready (rs := [0, 6]) (by kernel_rfl) (by simp) ?_
      refine AllReadyH.cons rfl (fun K hK => ?x1) (AllReadyH.cons rfl (fun K hK => ?y1) AllReadyH.nil)
      case x1 =>
        go_simp
        refine hK.out _ _ ?kc2 (fun hHeld => ?mc2)
        case kc2 =>
          try dsimp only
          exact hHeld
        clear hK K
        try simp only [Act.put, List.setIfInBounds_toArray, List.set_cons_zero, List.set_cons_succ]
        refine wpAnyH_ready (rs := [6]) (by kernel_rfl) (by simp) ?_
        refine AllReadyH.cons rfl (fun K hK => ?s2) AllReadyH.nil
        go_simp
        refine hK.out _ _ ?kc3 (fun hHeld => ?mc3)
        case kc3 =>
          try dsimp only
          simp [*, World.cell?_alloc_some]
        clear hK K
        try simp only [Act.put, List.setIfInBounds_toArray, List.set_cons_zero, List.set_cons_succ]
        refine wpAnyH_ready (rs := [7]) (by kernel_rfl) (by simp) ?_
        refine AllReadyH.cons rfl (fun K hK => ?s3) AllReadyH.nil
        go_simp
        refine (carry1 c y (w.heap.size + 1 + 1 + 1) X.drew ok2 p0 (by omega) q2).mono ?_
        rintro e w2 ⟨rfl, hcar2, hgr⟩
        go_simp
        refine hK.out _ _ ?kc4 (fun hHeld => ?mc4)
        case kc4 =>
          try dsimp only
          exact ⟨hgr.cell c3 (by simp <;> omega), hgr.cell c0 (by simp <;> omega)⟩
        clear hK K
        try simp only [Act.put, List.setIfInBounds_toArray, List.set_cons_zero, List.set_cons_succ]
        refine wpAnyH_ready (rs := [8]) (by kernel_rfl) (by simp) ?_
        refine AllReadyH.cons rfl (fun K hK => ?s4) AllReadyH.nil
        go_simp
        refine hK.out _ _ ?kc5 (fun hHeld => ?mc5)
        case kc5 =>
          try dsimp only
          simp [*, World.cell?_alloc_some]
        clear hK K
        try simp only [Act.put, List.setIfInBounds_toArray, List.set_cons_zero, List.set_cons_succ]
        refine wpAnyH_ready (rs := [9]) (by kernel_rfl) (by simp) ?_
        refine AllReadyH.cons rfl (fun K hK => ?s5) AllReadyH.nil
        have hblk3 : Blk (w2.alloc (Obj.cells #[Value.int .u32 ((c + y) % 4294967296)] 64)) (w.heap.size + 1) zz := (Blk.grown (w := X.drew) hblk hgr (by simp <;> omega)).alloc _
        refine step_append_limb rfl (.tmp 40) (.tmp 48) rfl (w.heap.size + 1) (wh + ln) cp w2.heap.size zz ((c + y) % 4294967296) hblk3 hzl (by omega) rfl rfl (Boxed.new w2 64 (.int .u32 ((c + y) % 4294967296))).cell ?_
        refine hK.out _ _ ?kc6 (fun hHeld => ?mc6)
        case kc6 =>
          try dsimp only
          exact ⟨(World.cell?_setCell_far _ _ _ _ (by simp <;> omega)).trans hHeld.1, (World.cell?_setCell_far _ _ _ _ (by simp <;> omega)).trans hHeld.2⟩
        clear hK K
        try simp only [Act.put, List.setIfInBounds_toArray, List.set_cons_zero, List.set_cons_succ]
        refine wpAnyH_ready (rs := [10]) (by kernel_rfl) (by simp) ?_
        refine AllReadyH.cons rfl (fun K hK => ?s6) AllReadyH.nil
        have b7 : Boxed ((w2.alloc (Obj.cells #[Value.int .u32 ((c + y) % 4294967296)] 64)).setCell ⟨w.heap.size + 1, wh + ln, none⟩ (.int .u32 ((c + y) % 4294967296))) (w.heap.size + 1 + 1) 49 (Value.slice (some ⟨w.heap.size + 1, 0, none⟩) (wh + ln) cp) := Boxed.far ((Boxed.kept (W := X.drew) q1 hgr (by simp <;> omega)).alloc _) (by simp <;> omega) _
        have b7c := b7.cell
        have b7f := b7.frozen
        go_simp
        refine hK.out _ _ ?kc7 (fun hHeld => ?mc7)
        case kc7 =>
          try dsimp only
          exact ⟨(World.cell?_setCell_far _ _ _ _ (by simp <;> omega)).trans hHeld.1, (World.cell?_setCell_far _ _ _ _ (by simp <;> omega)).trans hHeld.2⟩
        clear hK K
        try simp only [Act.put, List.setIfInBounds_toArray, List.set_cons_zero, List.set_cons_succ]
        refine wpAnyH_done (by kernel_rfl) ?_ _
        exact FIN.out w2 hgr hcar2
      case y1 =>
        go_simp
        refine hK.out _ _ ?kc8 (fun hHeld => ?mc8)
        case kc8 =>
          try dsimp only
          simp [*, World.cell?_alloc_some]
        clear hK K
        try simp only [Act.put, List.setIfInBounds_toArray, List.set_cons_zero, List.set_cons_succ]
        refine wpAnyH_ready (rs := [0, 7]) (by kernel_rfl) (by simp) ?_
        refine AllReadyH.cons rfl (fun K hK => ?x9) (AllReadyH.cons rfl (fun K hK => ?y9) AllReadyH.nil)
        case x9 =>
          have c1a : (X.alloc (Obj.cells #[Value.int .u64 y] 152)).drew.cell? ⟨w.heap.size + 1 + 1, 0, none⟩ = some (Value.slice (some ⟨w.heap.size + 1, 0, none⟩) (wh + ln) cp) := (Boxed.alloc q1 _).cell
          go_simp
          refine hK.out _ _ ?kc10 (fun hHeld => ?mc10)
          case kc10 =>
            try dsimp only
            exact hHeld
          clear hK K
          try simp only [Act.put, List.setIfInBounds_toArray, List.set_cons_zero, List.set_cons_succ]
          refine wpAnyH_ready (rs := [7]) (by kernel_rfl) (by simp) ?_
          refine AllReadyH.cons rfl (fun K hK => ?s10) AllReadyH.nil
          go_simp
          refine (carry1 c y (w.heap.size + 1 + 1 + 1) X.drew ok2 p0 (by omega) q2).mono ?_
          rintro e w2 ⟨rfl, hcar2, hgr⟩
          go_simp
          refine hK.out _ _ ?kc11 (fun hHeld => ?mc11)
          case kc11 =>
            try dsimp only
            exact ⟨hgr.cell c3 (by simp <;> omega), hgr.cell c0 (by simp <;> omega)⟩
          clear hK K
          try simp only [Act.put, List.setIfInBounds_toArray, List.set_cons_zero, List.set_cons_succ]
          refine wpAnyH_ready (rs := [8]) (by kernel_rfl) (by simp) ?_
          refine AllReadyH.cons rfl (fun K hK => ?s11) AllReadyH.nil
          go_simp
          refine hK.out _ _ ?kc12 (fun hHeld => ?mc12)
          case kc12 =>
            try dsimp only
            simp [*, World.cell?_alloc_some]
          clear hK K
          try simp only [Act.put, List.setIfInBounds_toArray, List.set_cons_zero, List.set_cons_succ]
          refine wpAnyH_ready (rs := [9]) (by kernel_rfl) (by simp) ?_
          refine AllReadyH.cons rfl (fun K hK => ?s12) AllReadyH.nil
          have hblk3 : Blk (w2.alloc (Obj.cells #[Value.int .u32 ((c + y) % 4294967296)] 64)) (w.heap.size + 1) zz := (Blk.grown (w := X.drew) hblk hgr (by simp <;> omega)).alloc _
          refine step_append_limb rfl (.tmp 40) (.tmp 48) rfl (w.heap.size + 1) (wh + ln) cp w2.heap.size zz ((c + y) % 4294967296) hblk3 hzl (by omega) rfl rfl (Boxed.new w2 64 (.int .u32 ((c + y) % 4294967296))).cell ?_
          refine hK.out _ _ ?kc13 (fun hHeld => ?mc13)
          case kc13 =>
            try dsimp only
            exact ⟨(World.cell?_setCell_far _ _ _ _ (by simp <;> omega)).trans hHeld.1, (World.cell?_setCell_far _ _ _ _ (by simp <;> omega)).trans hHeld.2⟩
          clear hK K
          try simp only [Act.put, List.setIfInBounds_toArray, List.set_cons_zero, List.set_cons_succ]
          refine wpAnyH_ready (rs := [10]) (by kernel_rfl) (by simp) ?_
          refine AllReadyH.cons rfl (fun K hK => ?s13) AllReadyH.nil
          have b7 : Boxed ((w2.alloc (Obj.cells #[Value.int .u32 ((c + y) % 4294967296)] 64)).setCell ⟨w.heap.size + 1, wh + ln, none⟩ (.int .u32 ((c + y) % 4294967296))) (w.heap.size + 1 + 1) 49 (Value.slice (some ⟨w.heap.size + 1, 0, none⟩) (wh + ln) cp) := Boxed.far ((Boxed.kept (W := X.drew) q1 hgr (by simp <;> omega)).alloc _) (by simp <;> omega) _
          have b7c := b7.cell
          have b7f := b7.frozen
          go_simp
          refine hK.out _ _ ?kc14 (fun hHeld => ?mc14)
          case kc14 =>
            try dsimp only
            exact ⟨(World.cell?_setCell_far _ _ _ _ (by simp <;> omega)).trans hHeld.1, (World.cell?_setCell_far _ _ _ _ (by simp <;> omega)).trans hHeld.2⟩
          clear hK K
          try simp only [Act.put, List.setIfInBounds_toArray, List.set_cons_zero, List.set_cons_succ]
          refine wpAnyH_done (by kernel_rfl) ?_ _
          exact FIN.out w2 hgr hcar2
        case y9 =>
          go_simp
          refine (carry1 c y (w.heap.size + 1 + 1 + 1) X.drew ok2 p0 (by omega) q2).mono ?_
          rintro e w2 ⟨rfl, hcar2, hgr⟩
          go_simp
          refine hK.out _ _ ?kc15 (fun hHeld => ?mc15)
          case kc15 =>
            try dsimp only
            exact ⟨hgr.cell c3 (by simp <;> omega), hgr.cell c0 (by simp <;> omega)⟩
          clear hK K
          try simp only [Act.put, List.setIfInBounds_toArray, List.set_cons_zero, List.set_cons_succ]
          refine wpAnyH_ready (rs := [0, 8]) (by kernel_rfl) (by simp) ?_
          refine AllReadyH.cons rfl (fun K hK => ?x16) (AllReadyH.cons rfl (fun K hK => ?y16) AllReadyH.nil)
          case x16 =>
            have c1a := hgr.cell c1 (by simp <;> omega)
            go_simp
            refine hK.out _ _ ?kc17 (fun hHeld => ?mc17)
            case kc17 =>
              try dsimp only
              exact hHeld
            clear hK K
            try simp only [Act.put, List.setIfInBounds_toArray, List.set_cons_zero, List.set_cons_succ]
            refine wpAnyH_ready (rs := [8]) (by kernel_rfl) (by simp) ?_
            refine AllReadyH.cons rfl (fun K hK => ?s17) AllReadyH.nil
            go_simp
            refine hK.out _ _ ?kc18 (fun hHeld => ?mc18)
            case kc18 =>
              try dsimp only
              simp [*, World.cell?_alloc_some]
            clear hK K
            try simp only [Act.put, List.setIfInBounds_toArray, List.set_cons_zero, List.set_cons_succ]
            refine wpAnyH_ready (rs := [9]) (by kernel_rfl) (by simp) ?_
            refine AllReadyH.cons rfl (fun K hK => ?s18) AllReadyH.nil
            have hblk3 : Blk (w2.alloc (Obj.cells #[Value.int .u32 ((c + y) % 4294967296)] 64)) (w.heap.size + 1) zz := (Blk.grown (w := X.drew) hblk hgr (by simp <;> omega)).alloc _
            refine step_append_limb rfl (.tmp 40) (.tmp 48) rfl (w.heap.size + 1) (wh + ln) cp w2.heap.size zz ((c + y) % 4294967296) hblk3 hzl (by omega) rfl rfl (Boxed.new w2 64 (.int .u32 ((c + y) % 4294967296))).cell ?_
            refine hK.out _ _ ?kc19 (fun hHeld => ?mc19)
            case kc19 =>
              try dsimp only
              exact ⟨(World.cell?_setCell_far _ _ _ _ (by simp <;> omega)).trans hHeld.1, (World.cell?_setCell_far _ _ _ _ (by simp <;> omega)).trans hHeld.2⟩
            clear hK K
            try simp only [Act.put, List.setIfInBounds_toArray, List.set_cons_zero, List.set_cons_succ]
            refine wpAnyH_ready (rs := [10]) (by kernel_rfl) (by simp) ?_
            refine AllReadyH.cons rfl (fun K hK => ?s19) AllReadyH.nil
            have b7 : Boxed ((w2.alloc (Obj.cells #[Value.int .u32 ((c + y) % 4294967296)] 64)).setCell ⟨w.heap.size + 1, wh + ln, none⟩ (.int .u32 ((c + y) % 4294967296))) (w.heap.size + 1 + 1) 49 (Value.slice (some ⟨w.heap.size + 1, 0, none⟩) (wh + ln) cp) := Boxed.far ((Boxed.kept (W := X.drew) q1 hgr (by simp <;> omega)).alloc _) (by simp <;> omega) _
            have b7c := b7.cell
            have b7f := b7.frozen
            go_simp
            refine hK.out _ _ ?kc20 (fun hHeld => ?mc20)
            case kc20 =>
              try dsimp only
              exact ⟨(World.cell?_setCell_far _ _ _ _ (by simp <;> omega)).trans hHeld.1, (World.cell?_setCell_far _ _ _ _ (by simp <;> omega)).trans hHeld.2⟩
            clear hK K
            try simp only [Act.put, List.setIfInBounds_toArray, List.set_cons_zero, List.set_cons_succ]
            refine wpAnyH_done (by kernel_rfl) ?_ _
            exact FIN.out w2 hgr hcar2
          case y16 =>
            go_simp
            refine hK.out _ _ ?kc21 (fun hHeld => ?mc21)
            case kc21 =>
              try dsimp only
              simp [*, World.cell?_alloc_some]
            clear hK K
            try simp only [Act.put, List.setIfInBounds_toArray, List.set_cons_zero, List.set_cons_succ]
            refine wpAnyH_ready (rs := [0]) (by kernel_rfl) (by simp) ?_
            refine AllReadyH.cons rfl (fun K hK => ?s21) AllReadyH.nil
            have c1a : (w2.alloc (Obj.cells #[Value.int .u32 ((c + y) % 4294967296)] 64)).cell? ⟨w.heap.size + 1 + 1, 0, none⟩ = some (Value.slice (some ⟨w.heap.size + 1, 0, none⟩) (wh + ln) cp) := (Boxed.alloc (Boxed.kept (W := X.drew) q1 hgr (by simp <;> omega)) _).cell
            go_simp
            refine hK.out _ _ ?kc22 (fun hHeld => ?mc22)
            case kc22 =>
              try dsimp only
              exact hHeld
            clear hK K
            try simp only [Act.put, List.setIfInBounds_toArray, List.set_cons_zero, List.set_cons_succ]
            refine wpAnyH_ready (rs := [9]) (by kernel_rfl) (by simp) ?_
            refine AllReadyH.cons rfl (fun K hK => ?s22) AllReadyH.nil
            have hblk3 : Blk (w2.alloc (Obj.cells #[Value.int .u32 ((c + y) % 4294967296)] 64)) (w.heap.size + 1) zz := (Blk.grown (w := X.drew) hblk hgr (by simp <;> omega)).alloc _
            refine step_append_limb rfl (.tmp 40) (.tmp 48) rfl (w.heap.size + 1) (wh + ln) cp w2.heap.size zz ((c + y) % 4294967296) hblk3 hzl (by omega) rfl rfl (Boxed.new w2 64 (.int .u32 ((c + y) % 4294967296))).cell ?_
            refine hK.out _ _ ?kc23 (fun hHeld => ?mc23)
            case kc23 =>
              try dsimp only
              exact ⟨(World.cell?_setCell_far _ _ _ _ (by simp <;> omega)).trans hHeld.1, (World.cell?_setCell_far _ _ _ _ (by simp <;> omega)).trans hHeld.2⟩
            clear hK K
            try simp only [Act.put, List.setIfInBounds_toArray, List.set_cons_zero, List.set_cons_succ]
            refine wpAnyH_ready (rs := [10]) (by kernel_rfl) (by simp) ?_
            refine AllReadyH.cons rfl (fun K hK => ?s23) AllReadyH.nil
            have b7 : Boxed ((w2.alloc (Obj.cells #[Value.int .u32 ((c + y) % 4294967296)] 64)).setCell ⟨w.heap.size + 1, wh + ln, none⟩ (.int .u32 ((c + y) % 4294967296))) (w.heap.size + 1 + 1) 49 (Value.slice (some ⟨w.heap.size + 1, 0, none⟩) (wh + ln) cp) := Boxed.far ((Boxed.kept (W := X.drew) q1 hgr (by simp <;> omega)).alloc _) (by simp <;> omega) _
            have b7c := b7.cell
            have b7f := b7.frozen
            go_simp
            refine hK.out _ _ ?kc24 (fun hHeld => ?mc24)
            case kc24 =>
              try dsimp only
              exact ⟨(World.cell?_setCell_far _ _ _ _ (by simp <;> omega)).trans hHeld.1, (World.cell?_setCell_far _ _ _ _ (by simp <;> omega)).trans hHeld.2⟩
            clear hK K
            try simp only [Act.put, List.setIfInBounds_toArray, List.set_cons_zero, List.set_cons_succ]
            refine wpAnyH_done (by kernel_rfl) ?_ _
            exact FIN.out w2 hgr hcar2
    case done =>
      rintro D ks X hD hup ⟨⟨⟨⟨hblk, q1⟩, q2⟩, q3⟩, hB⟩ hK
      have hkl : ks.length = ys.length := by have := hup.length; omega
      obtain ⟨ok1, okw, ok2, ok3⟩ := shlOf_ok q ys hwt hq (ks.map Fin.val)
      have hv := val_shlOf q ys ys.length
      rw [show ks.map Fin.val = List.range ys.length from by rw [hup, htr]] at ok1 okw ok2 ok3 hblk q2
      rw [hkl] at hblk q1
      obtain ⟨st, hst⟩ : ∃ st, shlOf q ys (List.range ys.length) = st := ⟨_, rfl⟩
      rw [hst] at hblk q2 ok1 okw ok2 ok3 hv
      obtain ⟨zs, c⟩ := st
      simp only [List.take_length] at hv
      simp only at hblk q2 okw ok2 ok3
      obtain ⟨zl, hv⟩ := hv
      have hc := (shl_part (x := 0) (by omega) hq).2.2
      have hzl : (List.replicate wh 0 ++ zs ++ List.replicate (cp - (wh + ys.length)) 0).length = cp := by simp [zl]; omega
      have eset : (List.replicate wh 0 ++ zs ++ List.replicate (cp - (wh + ys.length)) 0).set (wh + ys.length) (c % 4294967296) = List.replicate wh 0 ++ zs ++ [c % 4294967296] := by
        rw [set_mid _ _ _ _ (by simp [zl]) (by omega), show cp - (wh + ys.length + 1) = 0 from by omega]; simp
      obtain ⟨zz, hzz⟩ : ∃ zz, List.replicate wh 0 ++ zs ++ List.replicate (cp - (wh + ys.length)) 0 = zz := ⟨_, rfl⟩
      rw [hzz] at hblk hzl eset
      have hL : val (List.replicate wh 0 ++ zs ++ [c % 4294967296]) = 4294967296 ^ wh * (val ys * 2 ^ q) := by
        rw [← hv, val_append, val_append, val_zeros, List.length_append, List.length_replicate, zl, Int.pow_add, Int.emod_eq_of_lt ok2 (by omega), Int.mul_add]
        simp only [val, Int.mul_zero, Int.add_zero, Int.zero_add, Int.mul_assoc]
      have wL : Wf (List.replicate wh 0 ++ zs ++ [c % 4294967296]) := ((Wf.zeros wh).append okw).append (wf1 (by omega))
      have c1 := q1.cell
      have c3 := q3.cell
      have num : ∀ w2 : World, X.drew.grownBy w2 (some (w.heap.size + 1 + 1 + 1)) → Num w.heap.size ((w2.alloc (Obj.cells #[Value.int .u32 (c % 4294967296)] 64)).setCell ⟨w.heap.size + 1, wh + ys.length, none⟩ (.int .u32 (c % 4294967296))) (.slice (some ⟨w.heap.size + 1, 0, none⟩) (wh + ys.length + 1) cp) (List.replicate wh 0 ++ zs ++ [c % 4294967296]) ∧ Below w.heap.size w ((w2.alloc (Obj.cells #[Value.int .u32 (c % 4294967296)] 64)).setCell ⟨w.heap.size + 1, wh + ys.length, none⟩ (.int .u32 (c % 4294967296))) ∧ KeepsOthers X ((w2.alloc (Obj.cells #[Value.int .u32 (c % 4294967296)] 64)).setCell ⟨w.heap.size + 1, wh + ys.length, none⟩ (.int .u32 (c % 4294967296))) := fun w2 hgr => by
        have hb3 : Blk (w2.alloc (Obj.cells #[Value.int .u32 (c % 4294967296)] 64)) (w.heap.size + 1) zz := (Blk.grown (w := X.drew) hblk hgr (by simp <;> omega)).alloc _
        have hb4 := hb3.set (wh + ys.length) (c % 4294967296)
        have hl4 : (zz.set (wh + ys.length) (c % 4294967296)).length = cp := by rw [List.length_set]; exact hzl
        have h := Num.ofBlk (base := w.heap.size) hb4 (by omega) (wh + ys.length + 1) (by omega) (by rw [hl4]; unfold maxLen; omega)
        rw [hl4, List.take_of_length_le (by omega), eset] at h
        have hsz2 : X.heap.size ≤ w2.heap.size := hgr.size
        have hsX := hB.size
        have hko : KeepsOthers X w2 := (KeepsOthers.drew X).trans (KeepsOthers.of_grownBy hgr (fun j o ej hj => by cases ej; rw [show X.drew.heap[w.heap.size + 1 + 1 + 1]? = _ from q2] at hj; cases hj; rfl))
        have hbo : Below (w.heap.size + 1) X w2 := (Below.refl _ X).drew.grown hgr (by show w.heap.size + 1 ≤ X.heap.size; omega) (fun j ej => by cases ej; omega)
        refine ⟨h, (hV.trans (hB.mono (by omega))).trans (Below.mono ((hbo.alloc (by omega) _).setCell (p := ⟨w.heap.size + 1, wh + ys.length, none⟩) (Nat.le_refl _) _) (by omega)), (hko.trans (KeepsOthers.alloc _ _)).trans (KeepsOthers.setCell _ _ _)⟩
      have NUM := Lib.hid num
      have HV := Lib.hid hv
      have HLL := Lib.hid hL
      clear num hv hL eset hzz hst
      gi_wp2_with fail
      refine region_wide (fun X' => X'.cell? ⟨w.heap.size + 1 + 1 + 1 + 1, 0, none⟩ = some (Value.func (.func 168) #[] #[.pointer (some ⟨w.heap.size + 1 + 1 + 1, 0, none⟩)]) ∧ X'.cell? ⟨w.heap.size + 1 + 1, 0, none⟩ = some (.slice (some ⟨w.heap.size + 1, 0, none⟩) (wh + ys.length) cp))
        (by kernel_rfl) (by kernel_rfl) ⟨c3, c1⟩ (fun hHeld => ?_)
      refine wpAnyH_take (i := 0) (v := ?ve0) rfl (by kernel_rfl) (by kernel_rfl) (by kernel_rfl) (fun _ _ _ h => h) (Or.inl ⟨by rfl, ?he0⟩) (by assumption) ?re0
      case he0 =>
        intro w hSw
        try dsimp only at hSw
        go_simp
        try with_reducible rfl
      try simp only [Act.put, List.setIfInBounds_toArray, List.set_cons_zero, List.set_cons_succ]
      refine wpAnyH_take (i := 1) (v := ?ve1) rfl (by kernel_rfl) (by kernel_rfl) (by kernel_rfl) (fun _ _ _ h => h) (Or.inl ⟨by rfl, ?he1⟩) (by assumption) ?re1
      case he1 =>
        intro w hSw
        try dsimp only at hSw
        go_simp
        try with_reducible rfl
      try simp only [Act.put, List.setIfInBounds_toArray, List.set_cons_zero, List.set_cons_succ]
      refine wpAnyH_ready (rs := [2]) (by kernel_rfl) (by simp) ?_
      refine AllReadyH.cons rfl (fun K hK => ?sd25) AllReadyH.nil
      go_simp
      refine (carry0 c (w.heap.size + 1 + 1 + 1) X.drew ok2 (by omega) q2).mono ?_
      rintro e w2 ⟨rfl, hcar2, hgr⟩
      go_simp
      refine hK.out _ _ ?kd25 (fun hHeld => ?md25)
      case kd25 =>
        try dsimp only
        exact ⟨hgr.cell c3 (by simp <;> omega), hgr.cell c1 (by simp <;> omega)⟩
      clear hK K
      try simp only [Act.put, List.setIfInBounds_toArray, List.set_cons_zero, List.set_cons_succ]
      refine wpAnyH_ready (rs := [3]) (by kernel_rfl) (by simp) ?_
      refine AllReadyH.cons rfl (fun K hK => ?sd26) AllReadyH.nil
      go_simp
      refine hK.out _ _ ?kd26 (fun hHeld => ?md26)
      case kd26 =>
        try dsimp only
        simp [*, World.cell?_alloc_some]
      clear hK K
      try simp only [Act.put, List.setIfInBounds_toArray, List.set_cons_zero, List.set_cons_succ]
      refine wpAnyH_ready (rs := [4]) (by kernel_rfl) (by simp) ?_
      refine AllReadyH.cons rfl (fun K hK => ?sd27) AllReadyH.nil
      have hblk3 : Blk (w2.alloc (Obj.cells #[Value.int .u32 (c % 4294967296)] 64)) (w.heap.size + 1) zz := (Blk.grown (w := X.drew) hblk hgr (by simp <;> omega)).alloc _
      refine step_append_limb rfl (.tmp 50) (.tmp 53) rfl (w.heap.size + 1) (wh + ys.length) cp w2.heap.size zz (c % 4294967296) hblk3 hzl (by omega) rfl rfl (Boxed.new w2 64 (.int .u32 (c % 4294967296))).cell ?_
      refine hK.out _ _ ?kd27 (fun hHeld => ?md27)
      case kd27 =>
        try dsimp only
        exact ⟨(World.cell?_setCell_far _ _ _ _ (by simp <;> omega)).trans hHeld.1, (World.cell?_setCell_far _ _ _ _ (by simp <;> omega)).trans hHeld.2⟩
      clear hK K
      try simp only [Act.put, List.setIfInBounds_toArray, List.set_cons_zero, List.set_cons_succ]
      refine wpAnyH_ready (rs := [5]) (by kernel_rfl) (by simp) ?_
      refine AllReadyH.cons rfl (fun K hK => ?sd28) AllReadyH.nil
      obtain ⟨hnum, hbl, hko⟩ := NUM.out w2 hgr
      rw [hcp] at hnum
      go_simp
      refine (cut_num hnum).mono ?_
      rintro e w3 ⟨u, rfl, hu, rfl⟩
      go_simp
      refine hK.out _ _ ?kd28 (fun hHeld => ?md28)
      case kd28 =>
        try dsimp only
        exact hHeld
      clear hK K
      try simp only [Act.put, List.setIfInBounds_toArray, List.set_cons_zero, List.set_cons_succ]
      refine wpAnyH_ready (rs := [6]) (by kernel_rfl) (by simp) ?_
      refine AllReadyH.cons rfl (fun K hK => ?sd29) AllReadyH.nil
      go_simp
      refine hK.out _ _ ?kd29 (fun hHeld => ?md29)
      case kd29 =>
        try dsimp only
        exact hHeld
      clear hK K
      try simp only [Act.put, List.setIfInBounds_toArray, List.set_cons_zero, List.set_cons_succ]
      refine wpAnyH_done (by kernel_rfl) ?_ _
      dsimp only [Straight]
      gi_wp2_with fail
      have hK2 := hko.same D _ hK rfl
      clear hnum hblk3 hHeld hgr
      generalize ((w2.alloc (Obj.cells #[Value.int .u32 (c % 4294967296)] 64)).setCell ⟨w.heap.size + 1, wh + ys.length, none⟩ (.int .u32 (c % 4294967296))) = U at *
      refine ⟨by simp, .inl ⟨_, _, rfl, run_takeDeferred hK2, ?_⟩⟩
      refine ⟨_, results_tmp rfl _ _ _, u, trim (List.replicate wh 0 ++ zs ++ [c % 4294967296]), rfl, ⟨?_, wL.trim, trim_full _, by rw [val_trim, HLL.out]⟩, ?_, hbl.trans (belowK_b (w := w) (Nat.le_refl _) U D _ _ (by omega) hK2 rfl rfl)⟩
      · exact ownsRow_putObj hu (.deferred none) hK2 rfl
      · have h := trim_len_le (List.replicate wh 0 ++ zs ++ [c % 4294967296])
        simp only [List.length_append, List.length_replicate, List.length_cons, List.length_nil] at h
        omega
    case stop =>
      rintro D c pre X _ _ h _
      exact h.elim
end
section
open Go.RowKit
/-- a slice of limbs, in a block from lo on, that is not block g -/
def Cellz (lo g : Nat) (w : World) (v : Value) : Prop :=
  ∃ ad n cap, v = .slice ad n cap ∧ n ≤ maxLen ∧ (n = 0 ∨ ∃ b cur, ad = some ⟨b, 0, none⟩ ∧ lo ≤ b ∧ b < g ∧ w.heap[b]? = some (.cells cur 64 (0, 0)) ∧ ∀ k, k < n → ∃ z, cur[k]? = some (.int .u32 z))
theorem Cellz.nil (lo g : Nat) (w : World) : Cellz lo g w (.slice none 0 0) := ⟨none, 0, 0, rfl, by unfold maxLen; omega, .inl rfl⟩
theorem Cellz.later {lo g : Nat} {w w' : World} {v : Value} (h : Cellz lo g w v) (hb : Below g w w') : Cellz lo g w' v := by
  obtain ⟨ad, n, cap, rfl, hm, h⟩ := h
  refine ⟨ad, n, cap, rfl, hm, ?_⟩
  rcases h with h | ⟨b, cur, rfl, h1, h2, h3, h4⟩
  · exact .inl h
  · exact .inr ⟨b, cur, rfl, h1, h2, (hb.block b h2).trans h3, h4⟩
theorem Cellz.mono {lo g g' : Nat} {w : World} {v : Value} (h : Cellz lo g w v) (hg : g ≤ g') : Cellz lo g' w v := by
  obtain ⟨ad, n, cap, rfl, hm, h⟩ := h
  refine ⟨ad, n, cap, rfl, hm, ?_⟩
  rcases h with h | ⟨b, cur, rfl, h1, h2, h3, h4⟩
  · exact .inl h
  · exact .inr ⟨b, cur, rfl, h1, by omega, h3, h4⟩
theorem Cellz.next {lo : Nat} {w w' : World} {v : Value} (h : Cellz lo w.heap.size w v) (hb : Below w.heap.size w w') : Cellz lo w'.heap.size w' v := (h.later hb).mono hb.size
theorem Cellz.set {lo g : Nat} {w : World} {v : Value} (h : Cellz lo g w v) (b' k' : Nat) (z' : Int) : Cellz lo g (w.setCell ⟨b', k', none⟩ (.int .u32 z')) v := by
  obtain ⟨ad, n, cap, rfl, hm, h⟩ := h
  refine ⟨ad, n, cap, rfl, hm, ?_⟩
  rcases h with h | ⟨b, cur, rfl, h1, h2, h3, h4⟩
  · exact .inl h
  · by_cases e : b = b'
    · subst e
      refine .inr ⟨b, _, rfl, h1, h2, heap_setCell_same w b k' cur 64 (.int .u32 z') h3, fun k hk => ?_⟩
      obtain ⟨z, hz⟩ := h4 k hk
      rw [Array.getElem?_setIfInBounds]
      by_cases ek : k' = k
      · subst ek
        rw [if_pos rfl, if_pos (Array.getElem?_eq_some_iff.1 hz).1]
        exact ⟨z', rfl⟩
      · rw [if_neg ek]
        exact ⟨z, hz⟩
    · exact .inr ⟨b, cur, rfl, h1, h2, (Below.heap_setCell _ _ _ _ e).trans h3, h4⟩
end
section
open Go.RowKit
set_option linter.unusedVariables false
set_option linter.unusedSimpArgs false
/-- what an estimate is held against: the three highest limbs, what is below them, and the divisor's -/
structure Est (U V high low v1 v2 P U2 V2 : Int) : Prop where
  u : U = high * (4294967296 * P) + low * P + U2
  v : V = v1 * (4294967296 * P) + v2 * P + V2
  p : 1 ≤ P
  u0 : 0 ≤ U2
  u1 : U2 < P
  w0 : 0 ≤ V2
  w1 : V2 < P
  a0 : 2147483648 ≤ v1
  a1 : v1 < 4294967296
  b0 : 0 ≤ v2
  b1 : v2 < 4294967296
  l0 : 0 ≤ low
  l1 : low < 4294967296
  h0 : 0 ≤ high
  lt : U < 4294967296 * V
theorem Est.diff {U V high low v1 v2 P U2 V2 q r : Int} (h : Est U V high low v1 v2 P U2 V2) (hq : q * v1 + r = high) : U - q * V = (r * 4294967296 + low - q * v2) * P + U2 - q * V2 := by
  rw [h.u, h.v, ← hq]
  grind
theorem mul_le_l {a b c : Int} (hc : 0 ≤ c) (h : a ≤ b) : c * a ≤ c * b := Int.mul_le_mul_of_nonneg_left h hc
theorem mul_le_r {a b c : Int} (hc : 0 ≤ c) (h : a ≤ b) : a * c ≤ b * c := Int.mul_le_mul_of_nonneg_right h hc
/-- the high limbs are below those of the divisor and one more -/
theorem Est.high {U V high low v1 v2 P U2 V2 : Int} (h : Est U V high low v1 v2 P U2 V2) : high < (v1 + 1) * 4294967296 := by
  rcases Int.lt_or_le high ((v1 + 1) * 4294967296) with k | k
  · exact k
  · exfalso
    have h1 := mul_le_r (c := 4294967296 * P) (by have := h.p; omega) k
    have h2 : 0 ≤ low * P := Int.mul_nonneg h.l0 (by have := h.p; omega)
    have h3 : v2 * P ≤ 4294967295 * P := mul_le_r (by have := h.p; omega) (by have := h.b1; omega)
    have h4 := h.u; have h5 := h.v; have h6 := h.lt; have h7 := h.w1; have h8 := h.u0
    have e : (v1 + 1) * 4294967296 * (4294967296 * P) = 4294967296 * (v1 * (4294967296 * P)) + 4294967296 * (4294967296 * P) := by grind
    rw [e] at h1
    omega
/-- the first estimate is not too small -/
theorem Est.first {U V high low v1 v2 P U2 V2 : Int} (h : Est U V high low v1 v2 P U2 V2) : U < (high / v1 + 1) * V := by
  have hv : 0 < v1 := by have := h.a0; omega
  have h1 : high < (high / v1 + 1) * v1 := Int.lt_mul_of_ediv_lt hv (by omega)
  have h2 := mul_le_r (a := high + 1) (b := (high / v1 + 1) * v1) (c := 4294967296 * P) (by have := h.p; omega) (by omega)
  have hq : 0 ≤ high / v1 := Int.ediv_nonneg h.h0 (by omega)
  generalize high / v1 = q at *
  have h3 : (q + 1) * v1 * (4294967296 * P) ≤ (q + 1) * V := by
    rw [Int.mul_assoc]
    refine mul_le_l (by omega) ?_
    have h4 : 0 ≤ v2 * P := Int.mul_nonneg h.b0 (by have := h.p; omega)
    have h5 := h.v; have h6 := h.w0
    omega
  have h4 : low * P ≤ 4294967295 * P := mul_le_r (by have := h.p; omega) (by have := h.l1; omega)
  have h5 := h.u; have h6 := h.u1
  rw [Int.add_mul, Int.one_mul] at h2
  omega
/-- an estimate that is too great is lowered -/
theorem Est.step {U V high low v1 v2 P U2 V2 q r : Int} (h : Est U V high low v1 v2 P U2 V2) (hq : q * v1 + r = high) (h0 : 0 ≤ q) (hc : 4294967295 < q ∨ r * 4294967296 + low < q * v2) : U < (q - 1 + 1) * V := by
  rw [Int.sub_add_cancel]
  have hV : 0 ≤ V := by
    have h4 : 0 ≤ v2 * P := Int.mul_nonneg h.b0 (by have := h.p; omega)
    have h7 : 0 ≤ v1 * (4294967296 * P) := Int.mul_nonneg (by have := h.a0; omega) (by have := h.p; omega)
    have h5 := h.v; have h6 := h.w0
    omega
  rcases hc with hc | hc
  · have h1 := mul_le_r (a := 4294967296) (b := q) hV (by omega)
    have h2 := h.lt
    omega
  · have h1 := h.diff hq
    have h2 := mul_le_r (a := r * 4294967296 + low - q * v2) (b := -1) (c := P) (by have := h.p; omega) (by omega)
    have h3 : 0 ≤ q * V2 := Int.mul_nonneg h0 h.w0
    have h4 := h.u1
    omega
/-- where it is left, it is the quotient, or 1 more -/
theorem Est.done {U V high low v1 v2 P U2 V2 q r : Int} (h : Est U V high low v1 v2 P U2 V2) (hq : q * v1 + r = high) (h0 : 0 ≤ q) (hr0 : 0 ≤ r)
    (hc : 4294967295 < r ∨ (q ≤ 4294967295 ∧ q * v2 ≤ r * 4294967296 + low)) : q ≤ 4294967295 ∧ 0 ≤ U - q * V + V := by
  have hv : 0 < v1 := by have := h.a0; omega
  have hb := h.b0; have hb1 := h.b1
  have hq1 : q ≤ 4294967295 := by
    rcases hc with hc | hc
    · rcases Int.lt_or_le 4294967295 q with k | k
      · exfalso
        have h1 := mul_le_r (a := 4294967296) (b := q) (c := v1) (by omega) (by omega)
        have h2 := h.high
        omega
      · exact k
    · exact hc.1
  have hq2 : q * v2 ≤ r * 4294967296 + low := by
    rcases hc with hc | hc
    · have h1 := mul_le_r (a := q) (b := 4294967295) hb hq1
      have h2 := h.l0
      omega
    · exact hc.2
  refine ⟨hq1, ?_⟩
  have h1 := h.diff hq
  have h2 := Int.mul_nonneg (show 0 ≤ r * 4294967296 + low - q * v2 by omega) (show 0 ≤ P by have := h.p; omega)
  have h3 := mul_le_r (a := q) (b := 4294967295) h.w0 hq1
  have h4 : 0 ≤ v2 * P := Int.mul_nonneg h.b0 (by have := h.p; omega)
  have h5 := mul_le_r (a := 1) (b := v1) (c := 4294967296 * P) (by have := h.p; omega) (by omega)
  have h6 := h.v; have h7 := h.w1; have h8 := h.w0; have h9 := h.u0
  omega
/-- the state behind k limbs: the limbs, what is owed -/
def takeTo (ps ys : List Int) (q : Int) : Nat → List Int × Int
  | 0 => ([], 0)
  | k + 1 => ((takeTo ps ys q k).1 ++ [(ps.getD k 0 - ((takeTo ps ys q k).2 + q * ys.getD k 0) % 4294967296) % 4294967296],
      ((takeTo ps ys q k).2 + q * ys.getD k 0) / 4294967296 + (if ps.getD k 0 < ((takeTo ps ys q k).2 + q * ys.getD k 0) % 4294967296 then 1 else 0))
theorem takeTo_length (ps ys : List Int) (q : Int) (k : Nat) : (takeTo ps ys q k).1.length = k := by
  induction k with
  | zero => rfl
  | succ k ih => simp [takeTo, ih]
theorem limb_prod {q y : Int} (hq : 0 ≤ q ∧ q ≤ 4294967295) (hy : 0 ≤ y ∧ y < 4294967296) : 0 ≤ q * y ∧ q * y ≤ 18446744065119617025 := by
  have h1 := Int.mul_nonneg hq.1 hy.1
  have h2 := mul_le_r (a := q) (b := 4294967295) hy.1 hq.2
  omega
theorem takeTo_owed (ps ys : List Int) (q : Int) (hy : Wf ys) (hq : 0 ≤ q ∧ q ≤ 4294967295) (k : Nat) : 0 ≤ (takeTo ps ys q k).2 ∧ (takeTo ps ys q k).2 ≤ 4294967296 := by
  induction k with
  | zero => simp [takeTo]
  | succ k ih =>
    have h1 := limb_prod hq (hy.getD k)
    simp only [takeTo]
    split <;> omega
theorem takeTo_wf (ps ys : List Int) (q : Int) (k : Nat) : Wf (takeTo ps ys q k).1 := by
  induction k with
  | zero => exact Wf.nil
  | succ k ih => exact ih.append (Wf.cons (by omega) Wf.nil)
theorem val_takeTo (ps ys : List Int) (q : Int) (hp : Wf ps) (k : Nat) : val (takeTo ps ys q k).1 - 4294967296 ^ k * (takeTo ps ys q k).2 = val (ps.take k) - q * val (ys.take k) := by
  induction k with
  | zero => simp [takeTo, val]
  | succ k ih =>
    rw [val_take_succ, val_take_succ]
    simp only [takeTo]
    rw [val_append, takeTo_length]
    simp only [val, Int.pow_succ]
    have hb := hp.getD k
    generalize (takeTo ps ys q k).2 = o at *
    generalize val (takeTo ps ys q k).1 = L at *
    generalize ps.getD k 0 = p at *
    generalize ys.getD k 0 = y at *
    generalize val (ps.take k) = A at *
    generalize val (ys.take k) = B at *
    have hm := mod_div (o + q * y)
    have hl : 0 ≤ (o + q * y) % 4294967296 ∧ (o + q * y) % 4294967296 < 4294967296 := by omega
    generalize (o + q * y) % 4294967296 = low at *
    generalize (o + q * y) / 4294967296 = hi at *
    have hs : (p - low) % 4294967296 = p - low + 4294967296 * (if p < low then 1 else 0) := by split <;> omega
    rw [hs]
    generalize (if p < low then (1 : Int) else 0) = c at *
    generalize (4294967296 : Int) ^ k = Q at *
    grind
theorem val_cat3 (xs ys zs : List Int) : val (xs ++ ys ++ zs) = val xs + 4294967296 ^ xs.length * (val ys + 4294967296 ^ ys.length * val zs) := by
  rw [List.append_assoc, val_append, val_append]
theorem val_drop0 {xs : List Int} (hx : Wf xs) (k : Nat) (h : val xs < 4294967296 ^ k) : val (xs.drop k) = 0 := by
  by_cases hk : k < xs.length
  · have h1 := val_append (xs.take k) (xs.drop k)
    rw [List.take_append_drop, List.length_take, Nat.min_eq_left (by omega)] at h1
    have h2 := val_nonneg (hx.take k)
    have h3 := val_nonneg (hx.drop k)
    rcases Int.lt_or_le 0 (val (xs.drop k)) with h4 | h4
    · exfalso
      have h5 := mul_le_l (a := 1) (b := val (xs.drop k)) (c := 4294967296 ^ k) (Int.le_of_lt (pow_pos' k)) (by omega)
      omega
    · omega
  · rw [List.drop_of_length_le (by omega)]; rfl
/-- the part of limbs from i on -/
theorem val_split {xs : List Int} (i : Nat) (h : i ≤ xs.length) : val xs = val (xs.take i) + 4294967296 ^ i * val (xs.drop i) := by
  have h1 := val_append (xs.take i) (xs.drop i)
  rwa [List.take_append_drop, List.length_take, Nat.min_eq_left h] at h1
end
section
open Go.RowKit
set_option linter.unusedVariables false
set_option linter.unusedSimpArgs false
set_option maxHeartbeats 400000 in
theorem trimQ_any (ad : Option Addr) (xs : List Int) (cap : Nat) (w : World) (hl : LimI w ad xs) (hm : xs.length ≤ 1099511627776) (hcap : xs.length ≤ cap) :
    Calls Tryz.prog 149 #[.slice ad xs.length cap] w fun e w' => e = .returned (.slice ad (trimN xs xs.length) cap) ∧ w = w' := by
  go_enter Tryz.func149, Tryz.ntmps149
  go_wp2
  go_loop [3] (fun n => ∃ j : Nat, j ≤ xs.length ∧ n = .int .i64 j ∧ trimN xs j = trimN xs xs.length) (fun n => (intOf n).toNat)
  case atStart => exact ⟨xs.length, Nat.le_refl _, rfl, rfl⟩
  case round =>
    obtain ⟨j, hj, rfl, ht⟩ := hrel
    have HT := Lib.hid ht
    clear ht
    rcases j with _ | m
    · have h0 : trimN xs xs.length = 0 := HT.out.symm
      go_wp2
      go_ret
      exact ⟨rfl, rfl⟩
    · rcases hl with rfl | ⟨b, off, rfl, hc⟩
      · simp at hj
      · have hck := hc m (by omega)
        clear hc
        go_wp2
        · have hz : xs.getD m 0 = 0 := by
            have h : (xs[m]?.getD 0 == 0) = true := by assumption
            simpa using h
          go_round
          case rel => exact ⟨m, by omega, by go_num, by rw [← HT.out]; simp only [trimN]; rw [if_pos hz]⟩
          case measure => simp [intOf]
        · have hz : xs.getD m 0 ≠ 0 := by
            have h : (xs[m]?.getD 0 == 0) = false := by assumption
            simpa using h
          have ht : trimN xs xs.length = m + 1 := by rw [← HT.out]; simp only [trimN]; rw [if_neg hz]
          go_ret
          exact ⟨by rw [ht]; simp, rfl⟩
theorem trimQ_num {base : Nat} {v : Value} {xs : List Int} {w : World} (h : NumI base w v xs) (hm : xs.length ≤ 1099511627776) :
    Calls Tryz.prog 149 #[v] w fun e w' => ∃ u, e = .returned u ∧ NumI base w u (trim xs) ∧ w = w' := by
  obtain ⟨ad, cap, rfl, hl, hc, _, _⟩ := h.read
  exact (trimQ_any ad xs cap w hl hm hc).mono fun e w' ⟨he, hw⟩ => ⟨_, he, h.cut, hw⟩
theorem sign_le {x y : Int} : sign x y ≤ 0 ↔ x ≤ y := by unfold sign; split <;> (try split) <;> omega
set_option maxHeartbeats 1000000 in
/-- how often ys goes into rs -/
theorem digitQ_any {u v : Value} {rs ys : List Int} {a b : Option Addr} {capa capb : Nat} {w : World} (h1 : ArgD w u rs a capa) (h2 : ArgD w v ys b capb) (hx : rs.length ≤ 17179869184) (hy : ys.length ≤ 17179869184)
    (hlt : valD rs < valD ys * 10000) :
    Calls Tryz.prog 150 #[u, v] w fun e w' => ∃ d : Int, e = .returned (.int .i64 d) ∧ 0 ≤ d ∧ d < 10000 ∧ valD ys * d ≤ valD rs ∧ valD rs < valD ys * (d + 1) ∧ Below w.heap.size w w' := by
  have hr0 := val_nonnegD h1.wf
  go_enter Tryz.func150, Tryz.ntmps150
  go_wp2
  go_loopw [5, 6, 7] (fun lo hi _ wr => ∃ l h : Int, lo = .int .i64 l ∧ hi = .int .i64 h ∧ 0 ≤ l ∧ l < h ∧ h ≤ 10000 ∧ valD ys * l ≤ valD rs ∧ valD rs < valD ys * h ∧ Below w.heap.size w wr) (fun lo hi _ _ => (intOf hi - intOf lo).toNat)
  case atStart => exact ⟨0, 10000, rfl, rfl, by omega, by omega, by omega, by simpa using hr0, hlt, Below.refl _ _⟩
  case round =>
    obtain ⟨l, h, rfl, rfl, hl0, hlh, hh, hlo, hhi, hb⟩ := hrel
    have hsz := hb.size
    have HLO := Lib.hid hlo
    have HHI := Lib.hid hhi
    clear hlo hhi
    by_cases hgo : 1 < h - l
    · have hq : Int.tdiv (l + h) 2 = (l + h) / 2 := Int.tdiv_eq_ediv_of_nonneg (by omega)
      obtain ⟨m, hm⟩ : ∃ m, (l + h) / 2 = m := ⟨_, rfl⟩
      rw [hm] at hq
      have hm1 : l < m := by omega
      have hm2 : m < h := by omega
      clear hm
      have A1 := h1.later hb
      have A2 := h2.later hb
      go_wp2_with fail
      refine (times_any m A2 (by omega) (by omega)).mono ?_
      rintro e w2 ⟨r2, rfl, z2, q2, n2, hb2⟩
      obtain ⟨ad2, cap2, A3⟩ := q2.arg
      have A1' := A1.later hb2
      have hs2 := hb2.size
      go_wp2_with fail
      refine (cmpD_any A3 A1' (by omega) (by omega)).mono ?_
      rintro e w3 ⟨rfl, hb3⟩
      have hB3 : Below w.heap.size w w3 := (hb.trans (hb2.mono hsz)).trans (hb3.mono (by omega))
      have hv := q2.eq
      rw [hv]
      clear A1 A2 A3 A1' hb2 hb3 q2 hv
      by_cases hle : valD ys * m ≤ valD rs
      · have hd : decide (sign (valD ys * m) (valD rs) ≤ 0) = true := decide_eq_true (sign_le.2 hle)
        have HLE := Lib.hid hle
        clear hle
        go_wp2
        go_roundw
        case rel => exact ⟨m, h, rfl, rfl, by omega, hm2, hh, HLE.out, HHI.out, hB3⟩
        case measure => simp [intOf]; omega
      · have hd : decide (sign (valD ys * m) (valD rs) ≤ 0) = false := decide_eq_false (fun h => hle (sign_le.1 h))
        have HLE := Lib.hid (Int.not_le.1 hle)
        clear hle
        go_wp2
        go_roundw
        case rel => exact ⟨l, m, rfl, rfl, hl0, hm1, by omega, HLO.out, HLE.out, hB3⟩
        case measure => simp [intOf]; omega
    · obtain rfl : h = l + 1 := by omega
      go_wp2
      go_ret
      exact ⟨l, rfl, hl0, by omega, HLO.out, HHI.out, hb⟩
end
section
open Go.RowKit
set_option linter.unusedVariables false
set_option linter.unusedSimpArgs false
theorem ArgD.lenLe {w w' : World} {u v : Value} {xs ys : List Int} {a b : Option Addr} {capa capb : Nat} (h1 : ArgD w u xs a capa) (h2 : ArgD w' v ys b capb) (h : valD xs ≤ valD ys) : xs.length ≤ ys.length := by
  rcases Nat.lt_or_ge ys.length xs.length with k | k
  · have := len_ltD h2.wf h1.wf h1.full k; omega
  · exact k
theorem NumI.only {base b : Nat} {w w' : World} {v : Value} {xs : List Int} (h : NumI base w v xs) (k : Only b w w') (hb : b < base) : NumI base w' v xs := by
  obtain ⟨h1, h2⟩ := h
  refine ⟨h1, ?_⟩
  rcases h2 with h2 | ⟨g, cap, cur, rfl, hg0, hg, hc, hm, hs, ht⟩
  · exact .inl h2
  · exact .inr ⟨g, cap, cur, rfl, hg0, (k.block g (by omega)).trans hg, hc, hm, hs, ht⟩
theorem ResD.only {base b : Nat} {w w' : World} {u : Value} {zs : List Int} {n : Int} (h : ResD base w u zs n) (k : Only b w w') (hb : b < base) : ResD base w' u zs n := ⟨h.num.only k hb, h.wf, h.full, h.eq⟩
theorem ResD.mono {base base' : Nat} {w : World} {u : Value} {zs : List Int} {n : Int} (h : ResD base w u zs n) (hb : base' ≤ base) : ResD base' w u zs n := ⟨h.num.mono hb, h.wf, h.full, h.eq⟩
theorem NumI.nilCap {base : Nat} {w : World} {n cap : Nat} {xs : List Int} (h : NumI base w (.slice none n cap) xs) : xs = [] ∧ n = 0 ∧ cap = 0 := by
  obtain ⟨_, h2⟩ := h
  rcases h2 with ⟨e, hn⟩ | ⟨g, cap', cur, e, _⟩
  · simp only [Value.slice.injEq] at e
    exact ⟨List.eq_nil_of_length_eq_zero hn, e.2.1, e.2.2⟩
  · simp at e
set_option maxHeartbeats 4000000 in
theorem divD_any {u v : Value} {xs ys : List Int} {a b : Option Addr} {capa capb : Nat} {w : World} (h1 : ArgD w u xs a capa) (h2 : ArgD w v ys b capb) (hx : xs.length ≤ 8589934592) (hy : ys.length ≤ 8589934592) (hpos : 0 < valD ys) :
    Calls Tryz.prog 116 #[u, v] w fun e w' => ∃ r s, e = .returned (.tuple #[r, s]) ∧ Below w.heap.size w w' ∧ (∃ zs, ResD w.heap.size w' r zs (valD xs / valD ys) ∧ zs.length ≤ xs.length) ∧
      (∃ zs, ResD w.heap.size w' s zs (valD xs % valD ys) ∧ zs.length ≤ ys.length) := by
  obtain ⟨rfl, lx, _, wx, _⟩ := h1
  obtain ⟨i0, hi, hz0, hz1, hz2⟩ := info_parts infoInt
  obtain ⟨n, hn⟩ : ∃ n, xs.length = n := ⟨_, rfl⟩
  have hmk := makeI_runN n n (Nat.le_refl _) (by omega)
  rw [hn]
  have HN := Lib.hid hn
  rw [hn] at hx
  clear hn
  go_enter Tryz.func116, Tryz.ntmps116
  go_wp2
  go_loopw [7, 8, 9, 10, 11] (fun s i _ _ _ wr => ∃ (k : Nat) (q : Value) (rs qs : List Int), k ≤ n ∧ q = s ∧ i = .int .i64 ((n : Int) - 1 - k) ∧ BlkI wr w.heap.size (List.replicate (n - k) 0 ++ qs) ∧ qs.length = k ∧ WfD qs ∧
      ResD (w.heap.size + 1) wr q rs (valD rs) ∧ valD (xs.drop (n - k)) = valD ys * valD qs + valD rs ∧ valD rs < valD ys ∧ Below w.heap.size w wr) (fun _ i _ _ _ _ => (intOf i + 1).toNat)
  case atStart =>
    have e : xs.drop (n - 0) = [] := by rw [Nat.sub_zero, ← HN.out, List.drop_length]
    refine ⟨0, _, [], [], Nat.zero_le _, rfl, by simp, ?_, rfl, WfD.nil, ⟨World.ownsRow_nil _ _ _ _, WfD.nil, rfl, rfl⟩, by rw [e]; simp [valD], by simpa [valD] using hpos, ((Below.refl _ w).alloc (Nat.le_refl _) _)⟩
    simpa using BlkI.made w n
  case round =>
    obtain ⟨k, q, rs, qs, hk, rfl, rfl, hblk, hql, hqw, hres, hval, hlt, hb⟩ := hrel
    have hsz := hb.size
    by_cases hgo : k < n
    · rcases lx with rfl | ⟨bx, off, rfl, hc⟩
      · have := HN.out; simp at this; omega
      obtain ⟨j, hj⟩ : ∃ j, j + k + 1 = n := ⟨n - k - 1, by omega⟩
      have hji : ((n : Int) - 1 - k) = (j : Int) := by omega
      obtain ⟨x, hxk⟩ : ∃ x, xs.getD j 0 = x := ⟨_, rfl⟩
      obtain ⟨bx0, bx1⟩ : 0 ≤ x ∧ x < 10000 := hxk ▸ wx.getD j
      have hjl : j < xs.length := by have := HN.out; omega
      have hcj := hc j hjl
      rw [hxk] at hcj
      have hc0 : wr.cell? ⟨bx, off + j, none⟩ = some (.int .i64 x) := (hb.cell (p := ⟨bx, off + j, none⟩) (World.block_lt_of_cell? w _ hcj)).trans hcj
      have hge : (0 : Int) ≤ (j : Int) := by omega
      have hjn : (j : Int) < (n : Int) := by omega
      have hstep : valD (xs.drop (n - (k + 1))) = x + 10000 * valD (xs.drop (n - k)) := by
        rw [show n - (k + 1) = j from by omega, valD_drop xs j hjl, hxk, show n - k = j + 1 from by omega]
      rw [show n - k = j + 1 from by omega] at hblk
      rw [hji]
      have hrl : rs.length ≤ ys.length := by
        obtain ⟨ad, cap, A⟩ := hres.arg
        exact A.lenLe h2 (by omega)
      have hgb : w.heap.size < wr.heap.size := hblk.lt
      have HST := Lib.hid hstep
      have HV := Lib.hid hval
      have HJ := Lib.hid hj
      have HL := Lib.hid hlt
      have HB := Lib.hid hblk
      have HQ := Lib.hid hql
      clear hstep hval hj hji hxk hc hlt hblk hql
      have hs1 : w.heap.size + 1 ≤ wr.heap.size := hgb
      have hlit := NumI.lit (base := w.heap.size + 1) (w := wr) hs1 [x] (by unfold maxLen; simp)
      have hrow : (wr.alloc (.cells #[.int .i64 x] 3)).ownsRow (w.heap.size + 1) 3 1 (.slice (some ⟨wr.heap.size, 0, none⟩) 1 1) 1 [.int .i64 x] := hlit
      have hal : Below w.heap.size w (wr.alloc (.cells #[.int .i64 x] 3)) := hb.alloc hsz _
      have hba := HB.out.alloc (.cells #[.int .i64 x] 3)
      obtain ⟨ad, cap, h1q, h2q, h3q, h4q, h5q⟩ := hres.num.read
      clear h5q
      have wrs := hres.wf
      have hnumq := hres.num
      subst h1q
      clear hres
      have HN2 := Lib.hid hnumq
      clear hnumq
      cases ad
      case' none =>
        obtain ⟨hrs, hr0, hcap⟩ := HN2.out.nilCap
        subst hcap
        rw [hr0]
        have HRS := Lib.hid hrs
        clear hrs hr0
        have hrun := run_append_owned_none (P := Tryz.prog) (wr.alloc (.cells #[.int .i64 x] 3)) (w.heap.size + 1) 54 54 3 i0 1 Tryz.underlying54 hi (.slice (some ⟨wr.heap.size, 0, none⟩) 1 1) 1 [.int .i64 x] hrow
        go_wp2_with fail
        have hup : NumI (w.heap.size + 1) (wr.alloc (.cells #[.int .i64 x] 3)) (.slice (some ⟨wr.heap.size, 0, none⟩) 1 1) (x :: rs) := by rw [HRS.out]; exact hlit
        have hB1 := hal
        have hb1 := hba
        clear hrun hlit hrow hal hba h2q hc0
        generalize wr.alloc (.cells #[.int .i64 x] 3) = w1 at *
        generalize Value.slice (some ⟨wr.heap.size, 0, none⟩) 1 1 = v' at *
      case' some ad =>
        have hnews := (h2q.later ((Below.refl wr.heap.size wr).alloc (Nat.le_refl _) (.cells #[.int .i64 x] 3))).news
        go_wp2_with (at_builtin; refine wpList_append_own _ rfl _ _ 54 rfl (w.heap.size + 1) 3 i0 (.int .i64 0) 1 8 Tryz.underlying54 hi hz0 hz1 hz2 rfl (by decide) _ 1 [.int .i64 x] rfl hrow ad rs.length cap (rs.map (Value.int .i64)) rfl (by simp) hnews (ints_oneCell _ _) (by unfold maxLen; omega) (by omega) (by simp; omega) ?_; intro v' w1 hown' hgrow _)
        have hB1 : Below w.heap.size w w1 := hal.grown hgrow (by simp; omega) (fun k hk => by cases hk; exact hsz)
        have hb1 := hba.grown hgrow (fun e => by have h : w.heap.size = wr.heap.size := Option.some.inj e; omega)
        have hup : NumI (w.heap.size + 1) w1 v' (x :: rs) := by
          unfold NumI
          rw [List.length_cons, List.map_cons, Nat.add_comm rs.length 1]
          exact hown'
        clear hown' hgrow hnews hlit hrow hal hba h2q hc0
      all_goals
        have hs2 := hb1.lt
        have hR1 : ResD (w.heap.size + 1) w1 v' (x :: rs) 0 → True := fun _ => trivial
        clear hR1
        go_wp2_with fail
        refine (trimQ_num hup (by simp only [List.length_cons]; omega)).mono ?_
        rintro e w' ⟨q1, rfl, hq1, rfl⟩
        have R1 : ResD (w.heap.size + 1) w1 q1 (trim (x :: rs)) (x + 10000 * valD rs) := ⟨hq1, (WfD.cons ⟨bx0, bx1⟩ wrs).trim, trim_full _, by rw [val_trimD]; rfl⟩
        have hl1 : (trim (x :: rs)).length ≤ rs.length + 1 := Nat.le_trans (Nat.le_of_eq (trim_length _)) (trim_le (x :: rs))
        generalize trim (x :: rs) = rs1 at *
        clear hup hq1
        obtain ⟨ad1, cap1, A1⟩ := R1.arg
        have A2 := h2.later hB1
        have hV := HL.out
        go_wp2_with fail
        refine (digitQ_any A1 A2 (by omega) (by omega) (by rw [R1.eq]; omega)).mono ?_
        rintro e w2 ⟨d, rfl, d0, d1, dlo, dhi, hb2⟩
        rw [R1.eq] at dlo dhi
        have hB2 := hB1.trans (hb2.mono (by omega))
        have R2 := R1.later hb2
        have hblk2 := hb1.below hb2 (by omega)
        have hlz : (List.replicate (j + 1) 0 ++ qs).length = n := by rw [List.length_append, List.length_replicate, HQ.out]; have := HJ.out; omega
        have hcell := hblk2.cell j (by omega)
        have hfree := hblk2.free j
        have hset := hblk2.set j d
        rw [set_front] at hset
        have hO : Only w.heap.size w2 (w2.setCell ⟨w.heap.size, j, none⟩ (.int .i64 d)) := Only.set _ _ _ _
        have R3 := R2.only hO (Nat.lt_succ_self _)
        have hB3 : Below w.heap.size w (w2.setCell ⟨w.heap.size, j, none⟩ (.int .i64 d)) := hB2.setCell (p := ⟨w.heap.size, j, none⟩) (Nat.le_refl _) _
        have hs3 : w.heap.size + 1 ≤ w2.heap.size := hblk2.lt
        have hs3' : w2.heap.size = (w2.setCell ⟨w.heap.size, j, none⟩ (.int .i64 d)).heap.size := hO.size.symm
        have DLO := Lib.hid dlo
        have DHI := Lib.hid dhi
        clear A1 A2 hB1 hb1 hb2 hB2 R1 R2 hblk2 dlo dhi hO hs2 hlz
        go_wp2_with fail
        generalize w2.setCell ⟨w.heap.size, j, none⟩ (.int .i64 d) = w3 at *
        clear hcell hfree
        have A3 := h2.later hB3
        refine (times_any d A3 (by omega) (by omega)).mono ?_
        rintro e w4 ⟨r4, rfl, z4, q4, n4, hb4⟩
        have hB4 := hB3.trans (hb4.mono (by omega))
        have R4 := R3.later hb4
        have hset4 := hset.below hb4 (by omega)
        have hs4 := hb4.size
        obtain ⟨ad4, cap4, A4⟩ := R4.arg
        obtain ⟨ad5, cap5, A5⟩ := q4.arg
        clear hB3 hb4 R3 A3 hset
        go_wp2_with fail
        refine (subD_any A4 A5 (by omega) (by omega)).mono ?_
        rintro e w5 ⟨r5, f5, rfl, hb5, _, hsub⟩
        obtain ⟨rfl, z5, q5, n5⟩ := hsub (by rw [R4.eq, q4.eq]; exact DLO.out)
        have hB5 := hB4.trans (hb5.mono (by omega))
        have hset5 := hset4.below hb5 (by omega)
        have hs5 := hb5.size
        have hv5 : valD z5 = x + 10000 * valD rs - valD ys * d := by rw [q5.eq, R4.eq, q4.eq]
        have fin : ∃ (k' : Nat) (q' : Value) (rs' qs' : List Int), k' ≤ n ∧ q' = r5 ∧ Value.int .i64 ((j : Int) - 1) = .int .i64 ((n : Int) - 1 - k') ∧ BlkI w5 w.heap.size (List.replicate (n - k') 0 ++ qs') ∧ qs'.length = k' ∧ WfD qs' ∧
            ResD (w.heap.size + 1) w5 q' rs' (valD rs') ∧ valD (xs.drop (n - k')) = valD ys * valD qs' + valD rs' ∧ valD rs' < valD ys ∧ Below w.heap.size w w5 := by
          have hj := HJ.out
          refine ⟨k + 1, r5, z5, d :: qs, by omega, rfl, by congr 1; omega, ?_, by rw [List.length_cons, HQ.out], WfD.cons ⟨d0, d1⟩ hqw, ⟨q5.num.mono (by omega), q5.wf, q5.full, rfl⟩, ?_, ?_, hB5⟩
          · rw [show n - (k + 1) = j from by omega]; exact hset5
          · rw [HST.out, HV.out, hv5]
            have e : valD (d :: qs) = d + 10000 * valD qs := rfl
            have e2 : valD ys * (d + 10000 * valD qs) = valD ys * d + 10000 * (valD ys * valD qs) := by rw [Int.mul_add, Int.mul_left_comm]
            rw [e, e2]
            omega
          · rw [hv5]
            have h := DHI.out
            rw [Int.mul_add, Int.mul_one] at h
            omega
        have FIN := Lib.hid fin
        clear fin hset5 hset4 hB5 hB4 hb5 A4 A5 R4 q4 q5 hv5
        go_wp2
        go_roundw
        case rel => exact FIN.out
        case measure => simp [intOf]
    · obtain rfl : k = n := by omega
      have hji : ((k : Int) - 1 - k) = -1 := by omega
      rw [hji]
      clear hji
      rw [Nat.sub_self] at hblk hval
      rw [List.drop_zero] at hval
      rw [List.replicate_zero, List.nil_append] at hblk
      have hnum := NumI.ofBlk hblk (Nat.le_refl _) k (by omega) (by rw [hql]; unfold maxLen; omega)
      rw [hql, List.take_of_length_le (by omega)] at hnum
      have hr0 := val_nonnegD hres.wf
      obtain ⟨e1, e2⟩ := quo_eq (V := valD qs) (d := valD ys) (r := valD rs) (N := valD xs) hpos (by rw [hval, Int.mul_comm]) ⟨hr0, hlt⟩
      have hrl : rs.length ≤ ys.length := by
        obtain ⟨ad, cap, A⟩ := hres.arg
        exact A.lenLe h2 (by omega)
      have hlen : (trim qs).length ≤ k := by have h := Nat.le_trans (Nat.le_of_eq (trim_length _)) (trim_le qs); omega
      have E1 := Lib.hid e1
      have E2 := Lib.hid e2
      clear hblk e1 e2 hval hlt
      go_wp2_with fail
      refine (trimQ_num hnum (by omega)).mono ?_
      rintro e w' ⟨p, rfl, hp, rfl⟩
      go_wp2_with fail
      go_ret2
      exact ⟨p, q, rfl, hb, ⟨trim qs, ⟨hp, hqw.trim, trim_full _, by rw [val_trimD, E1.out]⟩, hlen⟩, ⟨rs, ⟨hres.num.mono (Nat.le_succ _), hres.wf, hres.full, E2.out⟩, hrl⟩⟩
end
section
open Go.RowKit
set_option linter.unusedVariables false
set_option linter.unusedSimpArgs false
theorem gcd_step (a b : Int) : Int.gcd b (a % b) = Int.gcd a b := by
  have h := Int.gcd_add_mul_right_right b (a % b) (a / b)
  rw [Int.emod_add_ediv_mul] at h
  rw [← h, Int.gcd_comm]
theorem gcd_end {a : Int} (h : 0 ≤ a) : (Int.gcd a 0 : Int) = a := by rw [Int.gcd_zero_right]; omega
theorem posD {ds : List Int} {a : Option Addr} {cap : Nat} {w : World} {u : Value} (h : ArgD w u ds a cap) (hl : 0 < ds.length) : 0 < valD ds := by
  have h1 := full_geD h.wf h.full (ds.length - 1) (by omega)
  have h2 := pow_posD (ds.length - 1)
  omega
/-- what a slice of numbers reads: for a loop's measure -/
def readV (w : World) : Value → List Int
  | .slice (some ad) n _ => (List.range n).map fun i => match w.cell? ⟨ad.block, ad.off + i, none⟩ with | some (.int _ x) => x | _ => 0
  | _ => []
theorem readV_limI {w : World} {ad : Option Addr} {xs : List Int} {cap : Nat} (h : LimI w ad xs) : readV w (.slice ad xs.length cap) = xs := by
  rcases h with rfl | ⟨b, off, rfl, hc⟩
  · cases ad <;> simp [readV]
  · simp only [readV]
    apply List.ext_getElem
    · simp
    · intro i h1 h2
      rw [List.getElem_map, List.getElem_range, hc i h2]
      simp [h2]
theorem readV_lim {w : World} {ad : Option Addr} {xs : List Int} {cap : Nat} (h : Lim w ad xs) : readV w (.slice ad xs.length cap) = xs := by
  rcases h with rfl | ⟨b, off, rfl, hc⟩
  · cases ad <;> simp [readV]
  · simp only [readV]
    apply List.ext_getElem
    · simp
    · intro i h1 h2
      rw [List.getElem_map, List.getElem_range, hc i h2]
      simp [h2]
theorem ArgD.read {w : World} {u : Value} {xs : List Int} {a : Option Addr} {cap : Nat} (h : ArgD w u xs a cap) : readV w u = xs := by rw [h.is]; exact readV_limI h.lim
theorem Arg.read {w : World} {u : Value} {xs : List Int} {a : Option Addr} {cap : Nat} (h : Arg w u xs a cap) : readV w u = xs := by rw [h.is]; exact readV_lim h.lim
/-- loops over pairs: how much is left -/
def leftD (w : World) (v : Value) : Nat := (valD (readV w v)).toNat
theorem ArgD.left {w : World} {u : Value} {xs : List Int} {a : Option Addr} {cap : Nat} (h : ArgD w u xs a cap) : leftD w u = (valD xs).toNat := by unfold leftD; rw [h.read]
set_option maxHeartbeats 4000000 in
theorem gcdD_any {u v : Value} {xs ys : List Int} {a b : Option Addr} {capa capb : Nat} {w : World} (h1 : ArgD w u xs a capa) (h2 : ArgD w v ys b capb) (hx : xs.length ≤ 8589934592) (hy : ys.length ≤ 8589934592) :
    Calls Tryz.prog 115 #[u, v] w fun e w' => ∃ r, e = .returned r ∧ ∃ zs ad cap, ArgD w' r zs ad cap ∧ valD zs = (Int.gcd (valD xs) (valD ys) : Int) ∧ zs.length ≤ max xs.length ys.length ∧ Below w.heap.size w w' := by
  obtain ⟨m, hm⟩ : ∃ m, max xs.length ys.length = m := ⟨_, rfl⟩
  have hm2 : m ≤ 8589934592 := by omega
  have hmx : xs.length ≤ m := by omega
  have hmy : ys.length ≤ m := by omega
  rw [hm]
  clear hm hx hy
  go_enter Tryz.func115, Tryz.ntmps115
  go_wp2
  go_loopw [0, 1, 5, 6] (fun p q _ _ wr => ∃ (p' q' : Value) (us vs : List Int) (ad bd : Option Addr) (cp cq : Nat), p' = p ∧ q' = q ∧ ArgD wr p' us ad cp ∧ ArgD wr q' vs bd cq ∧ us.length ≤ m ∧ vs.length ≤ m ∧ Int.gcd (valD us) (valD vs) = Int.gcd (valD xs) (valD ys) ∧ Below w.heap.size w wr) (fun _ q _ _ wr => leftD wr q)
  case atStart => exact ⟨u, v, xs, ys, a, b, capa, capb, rfl, rfl, h1, h2, hmx, hmy, rfl, Below.refl _ _⟩
  case round =>
    obtain ⟨p, q, us, vs, ad, bd, cp, cq, rfl, rfl, A1, A2, hu, hv, hg, hb⟩ := hrel
    have hsz := hb.size
    have HG := Lib.hid hg
    clear hg
    have hq := A2.is
    by_cases hgo : 0 < vs.length
    · have hgo2 : (0 : Int) < (vs.length : Int) := by omega
      have hpos := posD A2 hgo
      have hleft := A2.left
      subst hq
      go_wp2_with fail
      refine (divD_any A1 A2 (by omega) (by omega) hpos).mono ?_
      rintro e w2 ⟨r2, s2, rfl, hb2, _, ⟨z2, q2, n2⟩⟩
      obtain ⟨ad2, cap2, A3⟩ := q2.arg
      have A2' := A2.later hb2
      have hB2 := hb.trans (hb2.mono hsz)
      have hl2 := A3.left
      have hr1 := Int.emod_lt_of_pos (valD us) hpos
      have hr2 := Int.emod_nonneg (valD us) (show valD vs ≠ 0 by omega)
      have hm3 : leftD w2 s2 < leftD wr (.slice bd vs.length cq) := by rw [hleft, hl2, q2.eq]; omega
      have hg3 : Int.gcd (valD vs) (valD z2) = Int.gcd (valD xs) (valD ys) := by rw [q2.eq, gcd_step]; exact HG.out
      have HG3 := Lib.hid hg3
      have HM3 := Lib.hid hm3
      clear hg3 hm3 hr1 hr2 hl2 hleft q2 A1 A2 hb2
      go_wp2
      go_roundw
      case rel => exact ⟨_, _, vs, z2, bd, ad2, cq, cap2, rfl, rfl, A2', A3, hv, by omega, HG3.out, hB2⟩
      case measure => exact HM3.out
    · have h0 : vs.length = 0 := by omega
      have hvs : vs = [] := List.eq_nil_of_length_eq_zero h0
      have hg := HG.out
      rw [hvs] at hg
      have hfin : valD us = (Int.gcd (valD xs) (valD ys) : Int) := by rw [← hg]; simp only [valD]; exact (gcd_end (val_nonnegD A1.wf)).symm
      have HF := Lib.hid hfin
      rw [h0] at hq
      subst hq
      clear hfin hg A2 hvs h0 hgo
      go_wp2
      go_ret
      exact ⟨_, rfl, us, ad, cp, A1, HF.out, hu, hb⟩
end
section
open Go.RowKit Go.Shelf
set_option linter.unusedVariables false
set_option linter.unusedSimpArgs false
set_option maxHeartbeats 1000000 in
theorem range_seen {α : Type} {n : Nat} {P : Program} {g : Operand} {ps : Array Tmp} {assign body : Code} {Q : Exit → Act → World → Prop} {a : Act} {w : World}
    {gf : Nat} {lb : Array Value} (hg : a.eval g = .func (.func gf) #[] lb) (eg : ∀ args w, (callFunc gf args).run P w = .ok (.enter gf args) w)
    {encs : α → Array Value} (hps : ∀ x, (encs x).size = ps.size) (I : List α → World → Prop) (Nx : List α → α → Prop) (S : List α → Prop) (hI : OwnFrom w.heap.size I) (h0 : I [] w) (a₁ : α → Act)
    (hseq : ∀ (l : Nat) (J : List α → World → Prop), (∀ pre W, J pre W → I pre W) →
      (∀ pre x W, J pre W → Nx pre x → YieldAt Fence.wide (n - 1 - 1) P l (encs x) W fun e W' => e = .returned (.bool true) ∧ J (pre ++ [x]) W') → ∀ W, J [] W →
      CallsIn Fence.wide (n - 1) P gf (#[.func (.yield l) #[] #[]] ++ lb) W fun e W' => (∃ v, e = .returned v) ∧ ∃ xs, S xs ∧ J xs W')
    (hassign : ∀ (l : Nat) (x : α) (W : World) (K : Act → World → Prop), K (a₁ x) W →
      assign.wpIn (Fence.wide.inRound l) (n - 1 - 1) P (Exit.then K (fun _ _ _ => False)) { tmps := (ps.zip (encs x)).foldl (fun t (p, v) => t.setIfInBounds p v) a.tmps, defers := [] } W)
    (hbody : ∀ (l : Nat) (pre : List α) (x : α) (W : World), I pre W → Nx pre x →
      body.wpIn (Fence.wide.inRound l) (n - 1 - 1) P (fun e _ W' => e = .normal ∧ KeepsFrom w.heap.size W W' ∧ I (pre ++ [x]) W') (a₁ x) W)
    (hdone : ∀ (D : Nat) (xs : List α) (W : World), w.heap.size ≤ D → S xs → I xs W → W.heap[D]? = some (.deferred (some [])) → Q .normal { a with defers := { target := .collected D, args := #[] } :: a.defers } W) :
    (Code.rangeFunc g ps assign body).wpIn Fence.wide n P Q a w := by
  refine wpIn_rangeFunc fun fn hfn => ?_
  obtain ⟨lp, hlp⟩ : ∃ lp : LoopState → Option Code → Loop, lp = fun s p => { state := s, pending := p, fn, tmps := a.tmps, params := ps, assign, body, defers := w.heap.size } := ⟨_, rfl⟩
  obtain ⟨V, hV⟩ : ∃ V, (w.alloc (.deferred (some []))).alloc (.loop (lp .ready none)) = V := ⟨_, rfl⟩
  -- the two blocks of the loop's own
  have vl : V.heap[w.heap.size + 1]? = some (.loop (lp .ready none)) := by
    have h := World.alloc_heap_new (w.alloc (.deferred (some []))) (.loop (lp .ready none))
    rw [World.size_alloc, hV] at h
    exact h
  have vd : V.heap[w.heap.size]? = some (.deferred (some [])) := by
    rw [← hV]
    exact (Below.heap_alloc _ _ _ (by simp)).trans (World.alloc_heap_new w _)
  have vi : I [] V := by rw [← hV]; exact hI.alloc _ (hI.alloc _ h0)
  have enter := run_enterLoop_outer (P := P) (w := w) fn a.tmps ps assign body
  rw [show ({ state := LoopState.ready, pending := none, fn := fn, tmps := a.tmps, params := ps, assign := assign, body := body, defers := w.heap.size } : Loop) = lp .ready none by rw [hlp], hV] at enter
  refine ⟨_, _, V, { target := .fn (.func gf) lb, args := #[.func (.yield (w.heap.size + 1)) #[] #[]] }, V, gf, #[.func (.yield (w.heap.size + 1)) #[] #[]] ++ lb, V, enter, ?_, fun _ _ => trivial, ?_, (fun h => by cases h), ?_⟩
  · simp only [resolve, hg]
    simp [go_sem]
  · simp [invoke, go_sem, eg]
  refine (hseq (w.heap.size + 1) (fun pre W => I pre W ∧ W.heap[w.heap.size + 1]? = some (.loop (lp .ready none)) ∧ W.heap[w.heap.size]? = some (.deferred (some [])))
    (fun _ _ h => h.1) ?_ V ⟨vi, vl, vd⟩).mono ?_
  · -- a round
    rintro pre x W ⟨wi, wl, wd⟩ hx
    have hlt : w.heap.size + 1 < W.heap.size := (Array.getElem?_eq_some_iff.1 wl).1
    have hy := run_yield (P := P) (args := encs x) wl (by rw [hlp]; exact hps x)
    rw [hlp] at hy
    refine ⟨fn, _, assign, body, hy, roundIn_of_wpIn hfn (hassign _ x W _ ⟨_, run_beginRound wl (by rw [hlp]), ?_⟩)⟩
    have el : ({ state := LoopState.busy, pending := (lp .ready none).pending, fn := (lp .ready none).fn, tmps := (lp .ready none).tmps, params := (lp .ready none).params, assign := (lp .ready none).assign, body := (lp .ready none).body, defers := (lp .ready none).defers } : Loop) = lp .busy none := by rw [hlp]
    rw [el]
    have bl : (W.putObj (w.heap.size + 1) (.loop (lp .busy none))).heap[w.heap.size + 1]? = some (.loop (lp .busy none)) := World.putObj_heap_same hlt
    have bd : (W.putObj (w.heap.size + 1) (.loop (lp .busy none))).heap[w.heap.size]? = some (.deferred (some [])) := (World.putObj_heap_other (by omega)).trans wd
    refine wpIn_mono (hbody _ pre x _ (hI.putObj _ wi (by omega) wl rfl) hx) ?_
    rintro e a3 W3 ⟨rfl, hk, i3⟩
    have l3 := hk.same _ _ (by omega) bl rfl
    have d3 := hk.same _ _ (Nat.le_refl _) bd rfl
    have fin := run_endRound (P := P) none l3
    have er : ({ state := if (none : Option Code).isNone = true then LoopState.ready else LoopState.done, pending := none, fn := (lp .busy none).fn, tmps := (lp .busy none).tmps, params := (lp .busy none).params, assign := (lp .busy none).assign, body := (lp .busy none).body, defers := (lp .busy none).defers } : Loop) = lp .ready none := by rw [hlp]; rfl
    rw [er] at fin
    exact ⟨_, _, fin, rfl, hI.putObj _ i3 (by omega) l3 rfl, World.putObj_heap_same (Array.getElem?_eq_some_iff.1 l3).1, (World.putObj_heap_other (by omega)).trans d3⟩
  · -- behind the function
    rintro e W2 ⟨⟨v, rfl⟩, xs, hS, i2, l2, d2⟩
    have h := run_endLoop (P := P) l2 (by rw [hlp]; simp)
    rw [show (lp .ready none).pending = none by rw [hlp]] at h
    exact ⟨none, _, h, hdone _ xs _ (Nat.le_refl _) hS (hI.putObj _ i2 (by omega) l2 rfl) ((World.putObj_heap_other (by omega)).trans d2)⟩
set_option maxRecDepth 100000 in
set_option maxHeartbeats 2000000 in
/-- slices.Backward over limbs that a round may write to, once they were handed on -/
theorem back_seen (n : Nat) (Bs g N cap : Nat) (ad : Option Addr) (hg : 0 < N → ad = some ⟨g, 0, none⟩) (hm : N ≤ 35184372088832) (xs : List Int) (hxs : xs.length = N) (I : List (Fin N) → World → Prop)
    (hR : ∀ pre W, I pre W → W.cell? ⟨Bs, 0, none⟩ = some (.slice ad N cap) ∧ ∀ i, i + pre.length < N → W.cell? ⟨g, i, none⟩ = some (.int .u32 (xs.getD i 0)))
    (l : Nat) (J : List (Fin N) → World → Prop) (hJ : ∀ pre W, J pre W → I pre W)
    (hY : ∀ pre x W, J pre W → (Downto pre pre.length ∧ x.val + pre.length + 1 = N) → YieldAt Fence.wide (n - 1) Tryz.prog l (limbAt xs x) W fun e W' => e = .returned (.bool true) ∧ J (pre ++ [x]) W')
    (W : World) (h0 : J [] W) :
    CallsIn Fence.wide n Tryz.prog 170 (#[.func (.yield l) #[] #[]] ++ #[.pointer (some ⟨Bs, 0, none⟩)]) W fun e W' => (∃ v, e = .returned v) ∧ ∃ ys, Downto ys N ∧ J ys W' := by
  have hBs := (hR [] W (hJ _ _ h0)).1
  refine callsIn_of_wp Tryz.func170 rfl trivial ?_ rfl
  simp only [Tryz.ntmps170, List.size_toArray, List.length_cons, List.length_nil, Nat.reduceAdd, Nat.reduceSub, Array.replicate_succ, Array.replicate_zero, List.push_toArray, List.append_toArray, List.nil_append, List.cons_append]
  gi_wp2_with fail
  gi_loopw [3] (fun i wr => ∃ (k : Nat) (pre : List (Fin N)), k ≤ N ∧ i = .int .i64 ((N : Int) - 1 - k) ∧ Downto pre k ∧ J pre wr)
    (fun i _ => (intOf i + 1).toNat)
  case atStart => exact ⟨0, [], Nat.zero_le _, by simp, Downto.nil, h0⟩
  case round =>
    obtain ⟨k, pre, hk, rfl, hdn, hJs⟩ := hrel
    obtain ⟨hBr, hc⟩ := hR pre wr (hJ _ _ hJs)
    have hpl := hdn.1
    by_cases hlt : k < N
    · obtain ⟨j, hj⟩ : ∃ j, j + k + 1 = N := ⟨N - k - 1, by omega⟩
      have hji : ((N : Int) - 1 - k) = (j : Int) := by omega
      rw [hji]
      have hjl : j < N := by omega
      obtain rfl := hg (by omega)
      obtain ⟨fn, tmps, assign, body, hy, hR'⟩ := hY pre ⟨j, hjl⟩ wr hJs ⟨by rw [hpl]; exact hdn, by rw [hpl]; exact hj⟩
      simp only [limbAt] at hy
      have hcx := hc j (by omega)
      have hjn : (j : Int) < (N : Int) := by omega
      have HJ := Lib.hid hj
      have HP := Lib.hid hpl
      clear hc hj hji hBs hxs hpl
      gi_wp2
      refine ⟨(fun h => by cases h), hR'.mono ?_⟩
      rintro e W3 ⟨rfl, hJ3⟩
      gi_wp2
      go_roundw
      case rel => exact ⟨k + 1, _, by omega, by have := HJ.out; congr 1; omega, hdn.snoc ⟨j, hjl⟩ HJ.out, hJ3⟩
      case measure => simp [intOf]
    · obtain rfl : k = N := by omega
      have hji : ((k : Int) - 1 - k) = -1 := by omega
      rw [hji]
      clear hji
      gi_wp2
      go_end0
      exact ⟨⟨_, rfl⟩, _, hdn, hJs⟩
end
section
open Go.RowKit
set_option linter.unusedVariables false
set_option linter.unusedSimpArgs false
/-- block g has room for cap limbs, of which the first are zs -/
def Part (w : World) (g cap : Nat) (zs : List Int) : Prop := ∃ cur : Array Value, w.heap[g]? = some (.cells cur 64 (0, 0)) ∧ cur.size = cap ∧ zs.length ≤ cap ∧ cur.toList.take zs.length = zs.map (Value.int .u32)
theorem Part.cell {w : World} {g cap : Nat} {zs : List Int} (h : Part w g cap zs) (i : Nat) (hi : i < zs.length) : w.cell? ⟨g, i, none⟩ = some (.int .u32 (zs.getD i 0)) := by
  obtain ⟨cur, hh, hs, hl, ht⟩ := h
  have e : w.cell? ⟨g, i, none⟩ = cur[i]? := cell_of_row w g i _ 64 (0, 0) hh
  rw [e]
  have h1 : (cur.toList.take zs.length)[i]? = cur[i]? := by rw [List.getElem?_take_of_lt hi]; simp
  rw [← h1, ht]
  simp [hi]
theorem Part.free {w : World} {g cap : Nat} {zs : List Int} (h : Part w g cap zs) (i : Nat) : w.frozen? ⟨g, i, none⟩ = false := by
  obtain ⟨cur, hh, _⟩ := h
  exact frozen_of_row w g i _ 64 hh
theorem Part.lt {w : World} {g cap : Nat} {zs : List Int} (h : Part w g cap zs) : g < w.heap.size := by obtain ⟨cur, hh, _⟩ := h; exact lt_of_block hh
theorem Part.le {w : World} {g cap : Nat} {zs : List Int} (h : Part w g cap zs) : zs.length ≤ cap := by obtain ⟨_, _, _, h, _⟩ := h; exact h
theorem Part.same {w w' : World} {g cap : Nat} {zs : List Int} (h : Part w g cap zs) (e : w'.heap[g]? = w.heap[g]?) : Part w' g cap zs := by
  obtain ⟨cur, hh, r⟩ := h
  exact ⟨cur, e.trans hh, r⟩
theorem Part.alloc {w : World} {g cap : Nat} {zs : List Int} (h : Part w g cap zs) (o : Obj) : Part (w.alloc o) g cap zs := h.same (Below.heap_alloc _ _ _ h.lt)
theorem Part.below {w w' : World} {g cap B : Nat} {zs : List Int} (h : Part w g cap zs) (k : Below B w w') (hb : g < B) : Part w' g cap zs := h.same (k.block g hb)
theorem Part.later {w w' : World} {g cap : Nat} {zs : List Int} (h : Part w g cap zs) (k : Below w.heap.size w w') : Part w' g cap zs := h.below k h.lt
theorem Part.grown {w w' : World} {g cap : Nat} {row : Option Nat} {zs : List Int} (h : Part w g cap zs) (k : w.grownBy w' row) (hb : some g ≠ row) : Part w' g cap zs := h.same (k.block g h.lt hb)
theorem Part.far {w : World} {g cap : Nat} {zs : List Int} (h : Part w g cap zs) {p : Addr} (hne : g ≠ p.block) (u : Value) : Part (w.setCell p u) g cap zs := h.same (Below.heap_setCell _ _ _ _ hne)
theorem Part.set {w : World} {g cap : Nat} {zs : List Int} (h : Part w g cap zs) (i : Nat) (hi : i < zs.length) (x : Int) : Part (w.setCell ⟨g, i, none⟩ (.int .u32 x)) g cap (zs.set i x) := by
  obtain ⟨cur, hh, hs, hl, ht⟩ := h
  refine ⟨cur.setIfInBounds i (.int .u32 x), ?_, by simpa using hs, by simpa using hl, ?_⟩
  · have e := heap_setCell_same w g i _ 64 (.int .u32 x) hh
    rw [e]
  · rw [List.length_set, Array.toList_setIfInBounds, List.take_set, ht, List.map_set]
theorem Part.own (g cap : Nat) {β : Type} (f : β → List Int) : Own (fun s W => Part W g cap (f s)) := fun s X Y row hs hg hrow =>
  hs.grown hg (fun e' => by
    obtain ⟨o, ho, hc⟩ := hrow g e'.symm
    obtain ⟨cur, hh, _⟩ := hs
    rw [hh] at ho; cases ho; cases hc)
theorem Part.num {base g cap : Nat} {w : World} {zs : List Int} (h : Part w g cap zs) (hb : base ≤ g) (hm : cap ≤ maxLen) : Num base w (.slice (some ⟨g, 0, none⟩) zs.length cap) zs := by
  obtain ⟨cur, hh, hs, hl, ht⟩ := h
  exact ⟨by simp, .inr ⟨g, cap, cur, rfl, hb, hh, hl, hm, by simpa using hs, by simpa using ht⟩⟩
theorem Part.lim {w : World} {g cap : Nat} {zs : List Int} (h : Part w g cap zs) : Lim w (some ⟨g, 0, none⟩) zs := .inr ⟨g, 0, rfl, fun i hi => by rw [Nat.zero_add]; exact h.cell i hi⟩
/-- a slice of the call's own limbs: none, or a row -/
theorem Num.parts {base : Nat} {w : World} {v : Value} {zs : List Int} (h : Num base w v zs) : (v = .slice none 0 0 ∧ zs = []) ∨ ∃ g cap, v = .slice (some ⟨g, 0, none⟩) zs.length cap ∧ base ≤ g ∧ cap ≤ maxLen ∧ Part w g cap zs := by
  obtain ⟨h1, h2⟩ := h
  rcases h2 with ⟨hv, hn⟩ | ⟨g, cap, cur, hv, hb, hg, hc, hm, hs, ht⟩
  · exact .inl ⟨hv, List.eq_nil_of_length_eq_zero hn⟩
  · exact .inr ⟨g, cap, hv, hb, hm, cur, hg, by simpa using hs, hc, by simpa using ht⟩
theorem Num.nil_slice {base : Nat} {w : World} {n cap : Nat} {zs : List Int} (h : Num base w (.slice none n cap) zs) : zs = [] ∧ n = 0 ∧ cap = 0 := by
  rcases h.parts with ⟨e, hz⟩ | ⟨g, cp, e, _⟩
  · simp only [Value.slice.injEq] at e
    exact ⟨hz, e.2.1, e.2.2⟩
  · simp at e
theorem Num.some_slice {base : Nat} {w : World} {ad : Addr} {n cap : Nat} {zs : List Int} (h : Num base w (.slice (some ad) n cap) zs) : ∃ g, ad = ⟨g, 0, none⟩ ∧ base ≤ g ∧ n = zs.length ∧ cap ≤ maxLen ∧ Part w g cap zs := by
  rcases h.parts with ⟨e, hz⟩ | ⟨g, cp, e, hb, hm, hp⟩
  · simp at e
  · simp only [Value.slice.injEq, Option.some.injEq] at e
    obtain ⟨rfl, rfl, rfl⟩ := e
    exact ⟨g, rfl, hb, rfl, hm, hp⟩
theorem Num.own (base : Nat) (v : Value) {β : Type} (f : β → List Int) : Own (fun s W => Num base W v (f s)) := fun s X Y row hs hg hrow => by
  rcases hs.parts with ⟨rfl, e⟩ | ⟨g, cp, rfl, hb, hm, hp⟩
  · have h : Num base Y (.slice none 0 0) [] := ⟨rfl, .inl ⟨rfl, rfl⟩⟩
    rw [← e] at h
    exact h
  · exact (Part.own g cp f s X Y row hp hg hrow).num hb hm
theorem bitsN_count {xs : List Int} (h : Wf xs) : (bitsN xs + 31) / 32 = trimN xs xs.length ∧ trimN xs xs.length * 32 ≤ bitsN xs + 31 ∧ bitsN xs ≤ trimN xs xs.length * 32 := by
  unfold bitsN
  split
  · rename_i h0; omega
  · rename_i h0
    obtain ⟨m, hm⟩ : ∃ m, trimN xs xs.length = m + 1 := ⟨trimN xs xs.length - 1, by omega⟩
    have hne := trimN_last xs xs.length (by omega)
    rw [hm, Nat.add_sub_cancel] at hne ⊢
    have hb := h.getD m
    obtain ⟨j, hj, h1, h2⟩ := bitLen_is (show 0 < xs.getD m 0 by omega) (by omega)
    have hj2 : j < 32 := by
      rcases Nat.lt_or_ge j 32 with k | k
      · exact k
      · have := two_mono k
        have e : (2 : Int) ^ 32 = 4294967296 := rfl
        omega
    omega
set_option maxHeartbeats 400000 in
theorem count_any {u : Value} {xs : List Int} {a : Option Addr} {cap : Nat} {w : World} (h1 : Arg w u xs a cap) (hx : xs.length ≤ 35184372088832) :
    Calls Tryz.prog 146 #[u] w fun e w' => e = .returned (.int .i64 (trimN xs xs.length)) ∧ w = w' := by
  obtain ⟨c1, _, c2⟩ := bitsN_count h1.wf
  have hl := trim_le xs
  have hbits := bits_any a xs cap w h1.lim hx h1.le h1.wf
  obtain ⟨rfl, _, _, _⟩ := h1
  obtain ⟨b, hb⟩ : ∃ b, bitsN xs = b := ⟨_, rfl⟩
  rw [hb] at hbits c1 c2
  have hq : Int.tdiv ((b : Int) + 32 - 1) 32 = (trimN xs xs.length : Int) := by
    rw [Int.tdiv_eq_ediv_of_nonneg (by omega), ← c1]
    omega
  have HQ := Lib.hid hq
  clear hq hb
  go_enter Tryz.func146, Tryz.ntmps146
  go_wp2_with fail
  refine hbits.mono ?_
  rintro e w' ⟨rfl, rfl⟩
  clear hbits c1
  have hq := HQ.out
  go_wp2
  go_ret
  exact ⟨rfl, rfl⟩
end
end Go.Proofs.YtjcacmnmbbnffaaGreat
