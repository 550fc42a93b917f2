/-
  Contracts of the reference: Add, Times.
-/
import Derived.Test.YteinfanfhgpciaaRefA
namespace Go.Proofs.Yteinfanfhgpciaa
open Go.RowKit

/-- an argument of the reference: the digits xs -/
structure ArgD (w : World) (u : Value) (xs : List Int) (ad : Option Addr) (cap : Nat) : Prop where
  is : u = .slice ad xs.length cap
  lim : LimI w ad xs
  le : xs.length ≤ cap
  wf : WfD xs
  full : trimN xs xs.length = xs.length
theorem ArgD.later {w w' : World} {u : Value} {xs : List Int} {ad : Option Addr} {cap : Nat} (h : ArgD w u xs ad cap) (hb : Below w.heap.size w w') : ArgD w' u xs ad cap := ⟨h.is, h.lim.later hb, h.le, h.wf, h.full⟩
theorem ResD.arg {base : Nat} {w : World} {u : Value} {zs : List Int} {n : Int} (h : ResD base w u zs n) : ∃ ad cap, ArgD w u zs ad cap := by
  obtain ⟨ad, cap, h1, h2, h3, _, _⟩ := h.num.read
  exact ⟨ad, cap, h1, h2, h3, h.wf, h.full⟩

theorem mod_divD (s : Int) : s % 10000 + 10000 * (s / 10000) = s := by omega

/-! ## sums -/
def addToD (xs ys : List Int) : Nat → List Int × Int
  | 0 => ([], 0)
  | k + 1 => ((addToD xs ys k).1 ++ [(xs.getD k 0 + ys.getD k 0 + (addToD xs ys k).2) % 10000], (xs.getD k 0 + ys.getD k 0 + (addToD xs ys k).2) / 10000)
theorem addToD_length (xs ys : List Int) (k : Nat) : (addToD xs ys k).1.length = k := by
  induction k with
  | zero => rfl
  | succ k ih => simp [addToD, ih]
theorem addToD_carry (xs ys : List Int) (hx : WfD xs) (hy : WfD ys) (k : Nat) : 0 ≤ (addToD xs ys k).2 ∧ (addToD xs ys k).2 ≤ 1 := by
  induction k with
  | zero => simp [addToD]
  | succ k ih => have h1 := hx.getD k; have h2 := hy.getD k; simp only [addToD]; omega
theorem addToD_wf (xs ys : List Int) (k : Nat) : WfD (addToD xs ys k).1 := by
  induction k with
  | zero => exact WfD.nil
  | succ k ih => exact ih.append (WfD.cons (by omega) WfD.nil)
theorem val_addToD (xs ys : List Int) (k : Nat) : valD (addToD xs ys k).1 + 10000 ^ k * (addToD xs ys k).2 = valD (xs.take k) + valD (ys.take k) := by
  induction k with
  | zero => simp [addToD, valD]
  | succ k ih =>
    rw [val_take_succD, val_take_succD]
    simp only [addToD]
    rw [valD_snoc, addToD_length]
    simp only [Int.pow_succ]
    have hm := mod_divD (xs.getD k 0 + ys.getD k 0 + (addToD xs ys k).2)
    generalize (addToD xs ys k).2 = c at *
    generalize ((xs.getD k 0 + ys.getD k 0 + c) % 10000) = r at *
    generalize ((xs.getD k 0 + ys.getD k 0 + c) / 10000) = q at *
    generalize (10000 : Int) ^ k = P at *
    grind
theorem beyond {xs : List Int} {k : Nat} (h : xs.length ≤ k) : xs.getD k 0 = 0 := by simp [List.getElem?_eq_none h]
theorem top_pos {xs : List Int} {j : Nat} (hx : WfD xs) (fx : trimN xs xs.length = xs.length) (hj : xs.length = j + 1) : 0 < xs.getD j 0 := by
  have h1 := trimN_last xs xs.length (by omega)
  rw [fx, hj, Nat.add_sub_cancel] at h1
  have h2 := hx.getD j
  omega
theorem addD_full {xs ys : List Int} (hx : WfD xs) (hy : WfD ys) (fx : trimN xs xs.length = xs.length) (fy : trimN ys ys.length = ys.length) (k : Nat) (h1 : max xs.length ys.length ≤ k) (h2 : k ≤ max xs.length ys.length + 1)
    (h3 : max xs.length ys.length < k → 0 < (addToD xs ys (k - 1)).2) (h4 : (addToD xs ys k).2 = 0) : trimN (addToD xs ys k).1 (addToD xs ys k).1.length = (addToD xs ys k).1.length := by
  cases k with
  | zero => rfl
  | succ j =>
    simp only [addToD] at h4 ⊢
    have hc := addToD_carry xs ys hx hy j
    have bx := hx.getD j
    have by' := hy.getD j
    refine full_snoc _ ?_
    rw [Nat.add_sub_cancel] at h3
    rcases Nat.lt_or_ge j (max xs.length ys.length) with h | h
    · have hm : max xs.length ys.length = j + 1 := by omega
      rcases (show xs.length = j + 1 ∨ ys.length = j + 1 by omega) with e | e
      · have := top_pos hx fx e; omega
      · have := top_pos hy fy e; omega
    · have := h3 (by omega); omega

set_option maxHeartbeats 1000000 in
theorem addD_any {u v : Value} {xs ys : List Int} {a b : Option Addr} {capa capb : Nat} {w : World} (h1 : ArgD w u xs a capa) (h2 : ArgD w v ys b capb) (hx : xs.length ≤ 68719476736) (hy : ys.length ≤ 68719476736) :
    Calls Try.prog 15 #[u, v] w fun e w' => ∃ r, e = .returned r ∧ ∃ zs, ResD w.heap.size w' r zs (valD xs + valD ys) ∧ zs.length ≤ max xs.length ys.length + 1 ∧ Below w.heap.size w w' := by
  obtain ⟨i0, hi, hz0, hz1, hz2⟩ := info_parts infoInt
  obtain ⟨rfl, lx, _, wx, fx⟩ := h1
  obtain ⟨rfl, ly, _, wy, fy⟩ := h2
  have FX := Lib.hid fx
  have FY := Lib.hid fy
  clear fx fy
  go_enter Try.func15, Try.ntmps15
  go_wp2
  go_loopw [5, 6, 7, 8] (fun s c i _ wr => ∃ (k : Nat) (q : Value), k ≤ max xs.length ys.length + 1 ∧ q = s ∧ c = .int .i64 (addToD xs ys k).2 ∧ i = .int .i64 k ∧ NumI w.heap.size wr q (addToD xs ys k).1 ∧
      (max xs.length ys.length < k → 0 < (addToD xs ys (k - 1)).2) ∧ Below w.heap.size w wr) (fun _ _ i _ _ => max xs.length ys.length + 2 - (intOf i).toNat)
  case atStart => exact ⟨0, _, Nat.zero_le _, rfl, rfl, rfl, World.ownsRow_nil _ _ _ _, fun h => by omega, Below.refl _ _⟩
  case round =>
    obtain ⟨k, q, hk, rfl, rfl, rfl, hown, hprev, hb⟩ := hrel
    have hsz := hb.size
    obtain ⟨c, hck⟩ : ∃ c, (addToD xs ys k).2 = c := ⟨_, rfl⟩
    have bc := addToD_carry xs ys wx wy k
    rw [hck] at bc ⊢
    obtain ⟨bc0, bc1⟩ := bc
    have hrow : wr.ownsRow w.heap.size 3 1 q k ((addToD xs ys k).1.map (Value.int .i64)) := by
      have h := hown; unfold NumI at h; rw [addToD_length] at h; exact h
    have HO := Lib.hid hown
    have HP := Lib.hid hprev
    have HC := Lib.hid hck
    have HK := Lib.hid hk
    clear hown hprev hck
    by_cases hgo : k < max xs.length ys.length ∨ 0 < c
    · obtain ⟨x, hxk⟩ : ∃ x, xs.getD k 0 = x := ⟨_, rfl⟩
      obtain ⟨y, hyk⟩ : ∃ y, ys.getD k 0 = y := ⟨_, rfl⟩
      obtain ⟨bx0, bx1⟩ : 0 ≤ x ∧ x < 10000 := hxk ▸ wx.getD k
      obtain ⟨by0, by1⟩ : 0 ≤ y ∧ y < 10000 := hyk ▸ wy.getD k
      have hk1 : k ≤ max xs.length ys.length := by
        rcases hgo with h | h
        · omega
        · rcases Nat.lt_or_ge (max xs.length ys.length) k with h5 | h5
          · exfalso
            have e : k = max xs.length ys.length + 1 := by omega
            have h6 := HC.out
            rw [e] at h6
            simp only [addToD] at h6
            rw [beyond (Nat.le_max_left _ _), beyond (Nat.le_max_right _ _)] at h6
            have h7 := addToD_carry xs ys wx wy (max xs.length ys.length)
            omega
          · exact h5
      have HX := Lib.hid hxk
      have HY := Lib.hid hyk
      have HG := Lib.hid hgo
      have lx' := lx.later hb
      have ly' := ly.later hb
      clear hxk hyk
      have done : ∀ (w1 : World) (v' : Value) (o : Obj), w1.ownsRow w.heap.size 3 1 v' (k + 1) ((addToD xs ys k).1.map (Value.int .i64) ++ [Value.int .i64 ((x + y + c) % 10000)]) → (wr.alloc o).grownBy w1 q.ownBlock →
          ∃ (j : Nat) (p : Value), j ≤ max xs.length ys.length + 1 ∧ p = v' ∧ Value.int .i64 ((x + y + c) / 10000) = .int .i64 (addToD xs ys j).2 ∧ Value.int .i64 ((k : Int) + 1) = .int .i64 j ∧ NumI w.heap.size w1 p (addToD xs ys j).1 ∧
            (max xs.length ys.length < j → 0 < (addToD xs ys (j - 1)).2) ∧ Below w.heap.size w w1 := fun w1 v' o ho hg => by
        have hown' : w1.ownsRow w.heap.size 3 1 v' ((addToD xs ys k).1.length + 1) ((addToD xs ys k).1.map (Value.int .i64) ++ [Value.int .i64 ((x + y + c) % 10000)]) := by rw [addToD_length]; exact ho
        obtain ⟨hn, hbw⟩ := push_num hb hsz HO.out hown' hg
        refine ⟨k + 1, v', by omega, rfl, by simp only [addToD]; rw [HX.out, HY.out, HC.out], by go_num, by simp only [addToD]; rw [HX.out, HY.out, HC.out]; exact hn, fun h => ?_, hbw⟩
        rw [Nat.add_sub_cancel, HC.out]
        rcases HG.out with h5 | h5
        · omega
        · exact h5
      have DONE := Lib.hid done
      clear done hgo
      by_cases hx1 : k < xs.length
      · go_wp2_with (first | (go_at_call 40; first | ((with_reducible refine (digit_any a xs capa k x _ lx' (by omega) HX.out).mono ?_); rintro e w' ⟨rfl, rfl⟩) | ((with_reducible refine (digit_any b ys capb k y _ ly' (by omega) HY.out).mono ?_); rintro e w' ⟨rfl, rfl⟩)) | (at_builtin; refine wpList_append_own _ rfl _ _ 30 rfl w.heap.size 3 i0 (.int .i64 0) 1 8 Try.underlying30 hi hz0 hz1 hz2 rfl (by decide) _ _ _ rfl (hrow.alloc _) ⟨wr.heap.size, 0, none⟩ 1 1 [.int .i64 ((x + y + c) % 10000)] rfl rfl (cell_one_new _ _ _) (by simp [Value.oneCell']) (by unfold maxLen; omega) (by omega) (by simp; omega) ?_; intro v' w1 hown' hgrow _))
        go_roundw
        case rel => exact DONE.out _ _ _ hown' hgrow
        case measure => simp [intOf]; omega
      · by_cases hy1 : k < ys.length
        · go_wp2_with (first | (go_at_call 40; first | ((with_reducible refine (digit_any a xs capa k x _ lx' (by omega) HX.out).mono ?_); rintro e w' ⟨rfl, rfl⟩) | ((with_reducible refine (digit_any b ys capb k y _ ly' (by omega) HY.out).mono ?_); rintro e w' ⟨rfl, rfl⟩)) | (at_builtin; refine wpList_append_own _ rfl _ _ 30 rfl w.heap.size 3 i0 (.int .i64 0) 1 8 Try.underlying30 hi hz0 hz1 hz2 rfl (by decide) _ _ _ rfl (hrow.alloc _) ⟨wr.heap.size, 0, none⟩ 1 1 [.int .i64 ((x + y + c) % 10000)] rfl rfl (cell_one_new _ _ _) (by simp [Value.oneCell']) (by unfold maxLen; omega) (by omega) (by simp; omega) ?_; intro v' w1 hown' hgrow _))
          go_roundw
          case rel => exact DONE.out _ _ _ hown' hgrow
          case measure => simp [intOf]; omega
        · have hcp : 0 < c := by rcases HG.out with h5 | h5; (· omega); exact h5
          go_wp2_with (first | (go_at_call 40; first | ((with_reducible refine (digit_any a xs capa k x _ lx' (by omega) HX.out).mono ?_); rintro e w' ⟨rfl, rfl⟩) | ((with_reducible refine (digit_any b ys capb k y _ ly' (by omega) HY.out).mono ?_); rintro e w' ⟨rfl, rfl⟩)) | (at_builtin; refine wpList_append_own _ rfl _ _ 30 rfl w.heap.size 3 i0 (.int .i64 0) 1 8 Try.underlying30 hi hz0 hz1 hz2 rfl (by decide) _ _ _ rfl (hrow.alloc _) ⟨wr.heap.size, 0, none⟩ 1 1 [.int .i64 ((x + y + c) % 10000)] rfl rfl (cell_one_new _ _ _) (by simp [Value.oneCell']) (by unfold maxLen; omega) (by omega) (by simp; omega) ?_; intro v' w1 hown' hgrow _))
          go_roundw
          case rel => exact DONE.out _ _ _ hown' hgrow
          case measure => simp [intOf]; omega
    · have hx1 : ¬ k < xs.length := by omega
      have hy1 : ¬ k < ys.length := by omega
      have hc0 : c = 0 := by omega
      subst hc0
      clear hgo
      go_wp2
      go_ret
      have hv := val_addToD xs ys k
      rw [List.take_of_length_le (by omega), List.take_of_length_le (by omega)] at hv
      have h6 : (addToD xs ys k).2 = 0 := (by have h := HC.out; simpa using h)
      rw [h6] at hv
      have hk2 : k ≤ max xs.length ys.length + 1 := HK.out
      exact ⟨_, rfl, (addToD xs ys k).1, ⟨HO.out, addToD_wf xs ys k, addD_full wx wy FX.out FY.out k (by omega) hk2 HP.out h6, by simpa using hv⟩, by rw [addToD_length]; exact hk2, hb⟩

/-! ## products with a small one -/
def timesTo (xs : List Int) (d : Int) : Nat → List Int × Int
  | 0 => ([], 0)
  | k + 1 => ((timesTo xs d k).1 ++ [(xs.getD k 0 * d + (timesTo xs d k).2) % 10000], (xs.getD k 0 * d + (timesTo xs d k).2) / 10000)
theorem timesTo_length (xs : List Int) (d : Int) (k : Nat) : (timesTo xs d k).1.length = k := by
  induction k with
  | zero => rfl
  | succ k ih => simp [timesTo, ih]
theorem digit_prod {x d : Int} (hx : 0 ≤ x ∧ x < 10000) (hd : 0 ≤ d ∧ d ≤ 65536) : 0 ≤ x * d ∧ x * d ≤ 9999 * d := by
  constructor
  · exact Int.mul_nonneg hx.1 hd.1
  · exact Int.mul_le_mul_of_nonneg_right (by omega) hd.1
theorem timesTo_carry (xs : List Int) (d : Int) (hx : WfD xs) (hd : 0 ≤ d ∧ d ≤ 65536) (k : Nat) : 0 ≤ (timesTo xs d k).2 ∧ (timesTo xs d k).2 ≤ d := by
  induction k with
  | zero => simp [timesTo]; omega
  | succ k ih => have h1 := digit_prod (hx.getD k) hd; simp only [timesTo]; omega
theorem timesTo_wf (xs : List Int) (d : Int) (k : Nat) : WfD (timesTo xs d k).1 := by
  induction k with
  | zero => exact WfD.nil
  | succ k ih => exact ih.append (WfD.cons (by omega) WfD.nil)
theorem val_timesTo (xs : List Int) (d : Int) (k : Nat) : valD (timesTo xs d k).1 + 10000 ^ k * (timesTo xs d k).2 = valD (xs.take k) * d := by
  induction k with
  | zero => simp [timesTo, valD]
  | succ k ih =>
    rw [val_take_succD]
    simp only [timesTo]
    rw [valD_snoc, timesTo_length]
    simp only [Int.pow_succ]
    have hm := mod_divD (xs.getD k 0 * d + (timesTo xs d k).2)
    generalize (timesTo xs d k).2 = c at *
    generalize ((xs.getD k 0 * d + c) % 10000) = r at *
    generalize ((xs.getD k 0 * d + c) / 10000) = q at *
    generalize (10000 : Int) ^ k = P at *
    grind
theorem timesTo_far (xs : List Int) (d : Int) (hx : WfD xs) (hd : 0 ≤ d ∧ d ≤ 65536) : (timesTo xs d (xs.length + 1)).2 ≤ 6 ∧ (timesTo xs d (xs.length + 2)).2 = 0 := by
  have h0 := timesTo_carry xs d hx hd xs.length
  have h1 : (timesTo xs d (xs.length + 1)).2 = (timesTo xs d xs.length).2 / 10000 := by simp only [timesTo]; rw [beyond (Nat.le_refl _)]; simp
  have h2 : (timesTo xs d (xs.length + 2)).2 = (timesTo xs d (xs.length + 1)).2 / 10000 := by
    show (xs.getD (xs.length + 1) 0 * d + (timesTo xs d (xs.length + 1)).2) / 10000 = _
    rw [beyond (Nat.le_succ _)]; simp
  omega

set_option maxHeartbeats 1000000 in
theorem times_any {u : Value} {xs : List Int} {a : Option Addr} {capa : Nat} {w : World} (d : Int) (h1 : ArgD w u xs a capa) (hx : xs.length ≤ 68719476736) (hd : 0 ≤ d ∧ d ≤ 65536) :
    Calls Try.prog 41 #[u, .int .i64 d] w fun e w' => ∃ r, e = .returned r ∧ ∃ zs, ResD w.heap.size w' r zs (valD xs * d) ∧ zs.length ≤ xs.length + 2 ∧ Below w.heap.size w w' := by
  obtain ⟨i0, hi, hz0, hz1, hz2⟩ := info_parts infoInt
  obtain ⟨rfl, lx, _, wx, _⟩ := h1
  have hd2 := hd
  obtain ⟨hd0, hd1⟩ := hd
  go_enter Try.func41, Try.ntmps41
  go_wp2
  go_loopw [5, 6, 7, 8] (fun s c i _ wr => ∃ (k : Nat) (q : Value), k ≤ xs.length + 2 ∧ q = s ∧ c = .int .i64 (timesTo xs d k).2 ∧ i = .int .i64 k ∧ NumI w.heap.size wr q (timesTo xs d k).1 ∧ Below w.heap.size w wr) (fun _ _ i _ _ => xs.length + 3 - (intOf i).toNat)
  case atStart => exact ⟨0, _, Nat.zero_le _, rfl, rfl, rfl, World.ownsRow_nil _ _ _ _, Below.refl _ _⟩
  case round =>
    obtain ⟨k, q, hk, rfl, rfl, rfl, hown, hb⟩ := hrel
    have hsz := hb.size
    obtain ⟨c, hck⟩ : ∃ c, (timesTo xs d k).2 = c := ⟨_, rfl⟩
    have bc := timesTo_carry xs d wx hd2 k
    rw [hck] at bc ⊢
    obtain ⟨bc0, bc1⟩ := bc
    have hrow : wr.ownsRow w.heap.size 3 1 q k ((timesTo xs d k).1.map (Value.int .i64)) := by
      have h := hown; unfold NumI at h; rw [timesTo_length] at h; exact h
    have HO := Lib.hid hown
    have HC := Lib.hid hck
    have HK := Lib.hid hk
    clear hown hck
    by_cases hgo : k < xs.length ∨ 0 < c
    · obtain ⟨x, hxk⟩ : ∃ x, xs.getD k 0 = x := ⟨_, rfl⟩
      have bx := hxk ▸ wx.getD k
      have bp := digit_prod bx hd2
      obtain ⟨bp0, bp1⟩ := bp
      have bp2 : x * d ≤ 655294464 := by omega
      obtain ⟨bx0, bx1⟩ := bx
      have hk1 : k ≤ xs.length + 1 := by
        rcases hgo with h | h
        · omega
        · rcases Nat.lt_or_ge (xs.length + 1) k with h5 | h5
          · exfalso
            have e : k = xs.length + 2 := by omega
            have h6 := HC.out
            rw [e, (timesTo_far xs d wx hd2).2] at h6
            omega
          · exact h5
      have HX := Lib.hid hxk
      have lx' := lx.later hb
      clear hxk
      have done : ∀ (w1 : World) (v' : Value) (o : Obj), w1.ownsRow w.heap.size 3 1 v' (k + 1) ((timesTo xs d k).1.map (Value.int .i64) ++ [Value.int .i64 ((x * d + c) % 10000)]) → (wr.alloc o).grownBy w1 q.ownBlock →
          ∃ (j : Nat) (p : Value), j ≤ xs.length + 2 ∧ p = v' ∧ Value.int .i64 ((x * d + c) / 10000) = .int .i64 (timesTo xs d j).2 ∧ Value.int .i64 ((k : Int) + 1) = .int .i64 j ∧ NumI w.heap.size w1 p (timesTo xs d j).1 ∧ Below w.heap.size w w1 := fun w1 v' o ho hg => by
        have hown' : w1.ownsRow w.heap.size 3 1 v' ((timesTo xs d k).1.length + 1) ((timesTo xs d k).1.map (Value.int .i64) ++ [Value.int .i64 ((x * d + c) % 10000)]) := by rw [timesTo_length]; exact ho
        obtain ⟨hn, hbw⟩ := push_num hb hsz HO.out hown' hg
        exact ⟨k + 1, v', by omega, rfl, by simp only [timesTo]; rw [HX.out, HC.out], by go_num, by simp only [timesTo]; rw [HX.out, HC.out]; exact hn, hbw⟩
      have DONE := Lib.hid done
      have HG := Lib.hid hgo
      clear done hgo hd2
      by_cases hx1 : k < xs.length
      · go_wp2_with (first | (go_at_call 40; refine (digit_any a xs capa k x _ lx' (by omega) HX.out).mono ?_; rintro e w' ⟨rfl, rfl⟩) | (at_builtin; refine wpList_append_own _ rfl _ _ 30 rfl w.heap.size 3 i0 (.int .i64 0) 1 8 Try.underlying30 hi hz0 hz1 hz2 rfl (by decide) _ _ _ rfl (hrow.alloc _) ⟨wr.heap.size, 0, none⟩ 1 1 [.int .i64 ((x * d + c) % 10000)] rfl rfl (cell_one_new _ _ _) (by simp [Value.oneCell']) (by unfold maxLen; omega) (by omega) (by simp; omega) ?_; intro v' w1 hown' hgrow _))
        go_roundw
        case rel => exact DONE.out _ _ _ hown' hgrow
        case measure => simp [intOf]; omega
      · have hcp : 0 < c := by rcases HG.out with h5 | h5; (· omega); exact h5
        go_wp2_with (first | (go_at_call 40; refine (digit_any a xs capa k x _ lx' (by omega) HX.out).mono ?_; rintro e w' ⟨rfl, rfl⟩) | (at_builtin; refine wpList_append_own _ rfl _ _ 30 rfl w.heap.size 3 i0 (.int .i64 0) 1 8 Try.underlying30 hi hz0 hz1 hz2 rfl (by decide) _ _ _ rfl (hrow.alloc _) ⟨wr.heap.size, 0, none⟩ 1 1 [.int .i64 ((x * d + c) % 10000)] rfl rfl (cell_one_new _ _ _) (by simp [Value.oneCell']) (by unfold maxLen; omega) (by omega) (by simp; omega) ?_; intro v' w1 hown' hgrow _))
        go_roundw
        case rel => exact DONE.out _ _ _ hown' hgrow
        case measure => simp [intOf]; omega
    · have hx1 : ¬ k < xs.length := by omega
      have hc0 : c = 0 := by omega
      subst hc0
      clear hgo
      have hv := val_timesTo xs d k
      rw [List.take_of_length_le (by omega)] at hv
      have h6 : (timesTo xs d k).2 = 0 := (by have h := HC.out; simpa using h)
      rw [h6] at hv
      have hk2 : k ≤ xs.length + 2 := HK.out
      have HVL := Lib.hid hv
      clear hv h6
      go_wp2_with fail
      refine (trimD_num HO.out (by rw [timesTo_length]; omega)).mono ?_
      rintro e w' ⟨r, rfl, hr, rfl⟩
      go_wp2_with fail
      go_ret
      have hlen : (trim (timesTo xs d k).1).length ≤ k := by have h := Nat.le_trans (Nat.le_of_eq (trim_length _)) (trim_le (timesTo xs d k).1); rw [timesTo_length] at h; exact h
      exact ⟨_, rfl, trim (timesTo xs d k).1, ⟨hr, (timesTo_wf xs d k).trim, trim_full _, by rw [val_trimD]; have h := HVL.out; simpa using h⟩, Nat.le_trans hlen hk2, hb⟩
end Go.Proofs.Yteinfanfhgpciaa
