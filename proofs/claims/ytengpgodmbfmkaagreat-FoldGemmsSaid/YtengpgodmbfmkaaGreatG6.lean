/-
  Part 6 of 39: contracts and what they rest on (Known, RefB, RefC, DigB, RefG).
-/
import Derived.Test.YtengpgodmbfmkaaGreatG5
namespace Go.Proofs.YtengpgodmbfmkaaGreat
set_option linter.unusedVariables false
set_option linter.unusedSimpArgs false
set_option maxRecDepth 100000
set_option maxHeartbeats 40000000
section
open Go.RowKit
theorem Blk.lit (w : World) (zs : List Int) : Blk (w.alloc (.cells (zs.map (Value.int .u32)).toArray 144)) w.heap.size zs := heap_alloc_new w _
theorem Blk.lim {w : World} {g : Nat} {zs : List Int} (h : Blk w g zs) : Lim w (some ⟨g, 0, none⟩) zs := .inr ⟨g, 0, rfl, fun i hi => by rw [Nat.zero_add]; exact h.cell i hi⟩
structure Res (base : Nat) (w : World) (u : Value) (zs : List Int) (n : Int) : Prop where
 num : Num base w u zs
 wf : Wf zs
 full : trimN zs zs.length = zs.length
 eq : val zs = n
theorem Res.later {base : Nat} {w w' : World} {u : Value} {zs : List Int} {n : Int} (h : Res base w u zs n) (hb : Below w.heap.size w w') : Res base w' u zs n := ⟨h.num.later hb, h.wf, h.full, h.eq⟩
structure Arg (w : World) (u : Value) (xs : List Int) (ad : Option Addr) (cap : Nat) : Prop where
 is : u = .slice ad xs.length cap
 lim : Lim w ad xs
 le : xs.length ≤ cap
 wf : Wf xs
theorem Arg.later {w w' : World} {u : Value} {xs : List Int} {ad : Option Addr} {cap : Nat} (h : Arg w u xs ad cap) (hb : Below w.heap.size w w') : Arg w' u xs ad cap := ⟨h.is, h.lim.later hb, h.le, h.wf⟩
theorem Res.arg {base : Nat} {w : World} {u : Value} {zs : List Int} {n : Int} (h : Res base w u zs n) : ∃ ad cap, Arg w u zs ad cap := by
 obtain ⟨ad, cap, h1, h2, h3, _, _⟩ := h.num.read
 exact ⟨ad, cap, h1, h2, h3, h.wf⟩
theorem wf1 {x : Int} (h : 0 ≤ x ∧ x < 4294967296) : Wf [x] := Wf.cons h Wf.nil
theorem wf2 {x y : Int} (h : 0 ≤ x ∧ x < 4294967296) (k : 0 ≤ y ∧ y < 4294967296) : Wf [x, y] := Wf.cons h (wf1 k)
theorem trim_len_le (xs : List Int) : (trim xs).length ≤ xs.length := by rw [trim_length]; exact trim_le xs
theorem add_res {u v : Value} {xs ys : List Int} {a b : Option Addr} {capa capb : Nat} {w : World} (h1 : Arg w u xs a capa) (h2 : Arg w v ys b capb) (hx : xs.length ≤ 35184372088832) (hy : ys.length ≤ 35184372088832) :
 Calls Tryz.prog 149 #[u, v] w fun e w' => ∃ r zs, e = .returned r ∧ Res w.heap.size w' r zs (val xs + val ys) ∧ zs.length ≤ max xs.length ys.length + 1 ∧ Below w.heap.size w w' := by
 rw [h1.is, h2.is]
 refine (add_any a b xs ys capa capb w h1.lim h2.lim hx hy h1.le h2.le h1.wf h2.wf).mono fun e w' ⟨r, he, hn, hb⟩ => ⟨r, _, he, ⟨hn, (addL_wf h1.wf h2.wf).trim, trim_full _, by rw [val_trim, val_addL]⟩, ?_, hb⟩
 have := trim_len_le (addL xs ys)
 have h3 := addL_length xs ys
 have h4 := trim_le xs
 have h5 := trim_le ys
 unfold addN at h3
 omega
theorem mul_res {u v : Value} {xs ys : List Int} {a b : Option Addr} {capa capb : Nat} {w : World} (h1 : Arg w u xs a capa) (h2 : Arg w v ys b capb) (hx : xs.length ≤ 35184372088832) (hy : ys.length ≤ 35184372088832) :
 Calls Tryz.prog 166 #[u, v] w fun e w' => ∃ r zs, e = .returned r ∧ Res w.heap.size w' r zs (val xs * val ys) ∧ zs.length ≤ xs.length + ys.length ∧ Below w.heap.size w w' := by
 rw [h1.is, h2.is]
 refine (mul_any a b xs ys capa capb w h1.lim h2.lim hx hy h1.le h2.le h1.wf h2.wf).mono fun e w' ⟨r, he, hn, hb⟩ => ⟨r, _, he, ⟨hn, (mulL_wf h1.wf.trim h2.wf.trim).trim, trim_full _, by rw [val_trim, val_mulL, val_trim, val_trim]⟩, ?_, hb⟩
 have := trim_len_le (mulL (trim xs) (trim ys))
 have h3 := (mulOf_ok (trim xs) (trim ys) h1.wf.trim h2.wf.trim (List.range (trim xs).length)).1
 have h4 := trim_len_le xs
 have h5 := trim_len_le ys
 unfold mulL at this ⊢
 omega
theorem trim_res {u : Value} {xs : List Int} {a : Option Addr} {capa : Nat} {w : World} (h1 : Arg w u xs a capa) (hx : xs.length ≤ 35184372088832) :
 Calls Tryz.prog 162 #[u] w fun e w' => ∃ r zs, e = .returned r ∧ Res w.heap.size w' r zs (val xs) ∧ zs.length ≤ xs.length ∧ Below w.heap.size w w' := by
 rw [h1.is]
 exact (trim_any a xs capa w h1.lim hx h1.le).mono fun e w' ⟨r, he, hn, hb⟩ => ⟨r, _, he, ⟨hn, h1.wf.trim, trim_full _, val_trim xs⟩, trim_len_le xs, hb⟩
theorem sub_res {u v : Value} {xs ys : List Int} {a b : Option Addr} {capa capb : Nat} {w : World} (h1 : Arg w u xs a capa) (h2 : Arg w v ys b capb) (hx : xs.length ≤ 35184372088832) (hy : ys.length ≤ 35184372088832) (h : val ys ≤ val xs) :
 Calls Tryz.prog 151 #[u, v] w fun e w' => ∃ r zs, e = .returned (.tuple #[r, .int .i64 0]) ∧ Res w.heap.size w' r zs (val xs - val ys) ∧ zs.length ≤ xs.length ∧ Below w.heap.size w w' := by
 rw [h1.is, h2.is]
 refine (sub_any a b xs ys capa capb w h1.lim h2.lim hx hy h1.le h2.le h1.wf h2.wf).mono fun e w' ⟨r, hr, hb, _, hpos⟩ => ?_
 obtain ⟨he, hl⟩ := cmp_val h1.wf.trim h2.wf.trim (trim_full xs) (trim_full ys) hr
 rw [val_trim, val_trim] at he
 have h0 : 0 ≤ r := by rw [he]; unfold sign; rw [if_neg (by omega)]; split <;> omega
 obtain ⟨z, hz, hn⟩ := hpos h0
 have hl2 := hl h0
 rw [trim_length, trim_length] at hl2
 refine ⟨z, _, hz, ⟨hn, (subL_wf xs ys).trim, trim_full _, by rw [val_trim, val_subL h1.wf h2.wf hl2 h]⟩, ?_, hb⟩
 have h3 := trim_len_le (subL xs ys)
 have h4 := (subOf_ok xs ys (trimN xs xs.length) h1.wf h2.wf (List.range (trimN xs xs.length))).1
 have h5 := trim_le xs
 unfold subL at h3 ⊢
 omega
end
section
open Go.RowKit
structure ArgD (w : World) (u : Value) (xs : List Int) (ad : Option Addr) (cap : Nat) : Prop where
 is : u = .slice ad xs.length cap
 lim : LimI w ad xs
 le : xs.length ≤ cap
 wf : WfD xs
 full : trimN xs xs.length = xs.length
theorem ArgD.later {w w' : World} {u : Value} {xs : List Int} {ad : Option Addr} {cap : Nat} (h : ArgD w u xs ad cap) (hb : Below w.heap.size w w') : ArgD w' u xs ad cap := ⟨h.is, h.lim.later hb, h.le, h.wf, h.full⟩
theorem ResD.arg {base : Nat} {w : World} {u : Value} {zs : List Int} {n : Int} (h : ResD base w u zs n) : ∃ ad cap, ArgD w u zs ad cap := by
 obtain ⟨ad, cap, h1, h2, h3, _, _⟩ := h.num.read
 exact ⟨ad, cap, h1, h2, h3, h.wf, h.full⟩
theorem mod_divD (s : Int) : s % 10000 + 10000 * (s / 10000) = s := by omega
def addToD (xs ys : List Int) : Nat → List Int × Int
 | 0 => ([], 0)
 | k + 1 => ((addToD xs ys k).1 ++ [(xs.getD k 0 + ys.getD k 0 + (addToD xs ys k).2) % 10000], (xs.getD k 0 + ys.getD k 0 + (addToD xs ys k).2) / 10000)
theorem addToD_length (xs ys : List Int) (k : Nat) : (addToD xs ys k).1.length = k := by
 induction k with
 | zero => rfl
 | succ k ih => simp [addToD, ih]
theorem addToD_carry (xs ys : List Int) (hx : WfD xs) (hy : WfD ys) (k : Nat) : 0 ≤ (addToD xs ys k).2 ∧ (addToD xs ys k).2 ≤ 1 := by
 induction k with
 | zero => simp [addToD]
 | succ k ih => have h1 := hx.getD k; have h2 := hy.getD k; simp only [addToD]; omega
theorem addToD_wf (xs ys : List Int) (k : Nat) : WfD (addToD xs ys k).1 := by
 induction k with
 | zero => exact WfD.nil
 | succ k ih => exact ih.append (WfD.cons (by omega) WfD.nil)
theorem val_addToD (xs ys : List Int) (k : Nat) : valD (addToD xs ys k).1 + 10000 ^ k * (addToD xs ys k).2 = valD (xs.take k) + valD (ys.take k) := by
 induction k with
 | zero => simp [addToD, valD]
 | succ k ih =>
   rw [val_take_succD, val_take_succD]
   simp only [addToD]
   rw [valD_snoc, addToD_length]
   simp only [Int.pow_succ]
   have hm := mod_divD (xs.getD k 0 + ys.getD k 0 + (addToD xs ys k).2)
   generalize (addToD xs ys k).2 = c at *
   generalize ((xs.getD k 0 + ys.getD k 0 + c) % 10000) = r at *
   generalize ((xs.getD k 0 + ys.getD k 0 + c) / 10000) = q at *
   generalize (10000 : Int) ^ k = P at *
   grind
theorem beyond {xs : List Int} {k : Nat} (h : xs.length ≤ k) : xs.getD k 0 = 0 := by simp [List.getElem?_eq_none h]
theorem top_pos {xs : List Int} {j : Nat} (hx : WfD xs) (fx : trimN xs xs.length = xs.length) (hj : xs.length = j + 1) : 0 < xs.getD j 0 := by
 have h1 := trimN_last xs xs.length (by omega)
 rw [fx, hj, Nat.add_sub_cancel] at h1
 have h2 := hx.getD j
 omega
theorem addD_full {xs ys : List Int} (hx : WfD xs) (hy : WfD ys) (fx : trimN xs xs.length = xs.length) (fy : trimN ys ys.length = ys.length) (k : Nat) (h1 : max xs.length ys.length ≤ k) (h2 : k ≤ max xs.length ys.length + 1)
 (h3 : max xs.length ys.length < k → 0 < (addToD xs ys (k - 1)).2) (h4 : (addToD xs ys k).2 = 0) : trimN (addToD xs ys k).1 (addToD xs ys k).1.length = (addToD xs ys k).1.length := by
 cases k with
 | zero => rfl
 | succ j =>
   simp only [addToD] at h4 ⊢
   have hc := addToD_carry xs ys hx hy j
   have bx := hx.getD j
   have by' := hy.getD j
   refine full_snoc _ ?_
   rw [Nat.add_sub_cancel] at h3
   rcases Nat.lt_or_ge j (max xs.length ys.length) with h | h
   · have hm : max xs.length ys.length = j + 1 := by omega
     rcases (show xs.length = j + 1 ∨ ys.length = j + 1 by omega) with e | e
     · have := top_pos hx fx e; omega
     · have := top_pos hy fy e; omega
   · have := h3 (by omega); omega
theorem addD_any {u v : Value} {xs ys : List Int} {a b : Option Addr} {capa capb : Nat} {w : World} (h1 : ArgD w u xs a capa) (h2 : ArgD w v ys b capb) (hx : xs.length ≤ 68719476736) (hy : ys.length ≤ 68719476736) :
 Calls Tryz.prog 78 #[u, v] w fun e w' => ∃ r, e = .returned r ∧ ∃ zs, ResD w.heap.size w' r zs (valD xs + valD ys) ∧ zs.length ≤ max xs.length ys.length + 1 ∧ Below w.heap.size w w' := by
 obtain ⟨i0, hi, hz0, hz1, hz2⟩ := info_parts infoInt
 obtain ⟨rfl, lx, _, wx, fx⟩ := h1
 obtain ⟨rfl, ly, _, wy, fy⟩ := h2
 have FX := Lib.hid fx
 have FY := Lib.hid fy
 clear fx fy
 go_enter Tryz.func78, Tryz.ntmps78
 go_wp2
 go_loopw [5, 6, 7, 8] (fun s c i _ wr => ∃ (k : Nat) (q : Value), k ≤ max xs.length ys.length + 1 ∧ q = s ∧ c = .int .i64 (addToD xs ys k).2 ∧ i = .int .i64 k ∧ NumI w.heap.size wr q (addToD xs ys k).1 ∧
  (max xs.length ys.length < k → 0 < (addToD xs ys (k - 1)).2) ∧ Below w.heap.size w wr) (fun _ _ i _ _ => max xs.length ys.length + 2 - (intOf i).toNat)
 case atStart => exact ⟨0, _, Nat.zero_le _, rfl, rfl, rfl, World.ownsRow_nil _ _ _ _, fun h => by omega, Below.refl _ _⟩
 case round =>
  obtain ⟨k, q, hk, rfl, rfl, rfl, hown, hprev, hb⟩ := hrel
  have hsz := hb.size
  obtain ⟨c, hck⟩ : ∃ c, (addToD xs ys k).2 = c := ⟨_, rfl⟩
  have bc := addToD_carry xs ys wx wy k
  rw [hck] at bc ⊢
  obtain ⟨bc0, bc1⟩ := bc
  have hrow : wr.ownsRow w.heap.size 3 1 q k ((addToD xs ys k).1.map (Value.int .i64)) := by
   have h := hown; unfold NumI at h; rw [addToD_length] at h; exact h
  have HO := Lib.hid hown
  have HP := Lib.hid hprev
  have HC := Lib.hid hck
  have HK := Lib.hid hk
  clear hown hprev hck
  by_cases hgo : k < max xs.length ys.length ∨ 0 < c
  · obtain ⟨x, hxk⟩ : ∃ x, xs.getD k 0 = x := ⟨_, rfl⟩
    obtain ⟨y, hyk⟩ : ∃ y, ys.getD k 0 = y := ⟨_, rfl⟩
    obtain ⟨bx0, bx1⟩ : 0 ≤ x ∧ x < 10000 := hxk ▸ wx.getD k
    obtain ⟨by0, by1⟩ : 0 ≤ y ∧ y < 10000 := hyk ▸ wy.getD k
    have hk1 : k ≤ max xs.length ys.length := by
     rcases hgo with h | h
     · omega
     · rcases Nat.lt_or_ge (max xs.length ys.length) k with h5 | h5
       · exfalso
         have e : k = max xs.length ys.length + 1 := by omega
         have h6 := HC.out
         rw [e] at h6
         simp only [addToD] at h6
         rw [beyond (Nat.le_max_left _ _), beyond (Nat.le_max_right _ _)] at h6
         have h7 := addToD_carry xs ys wx wy (max xs.length ys.length)
         omega
       · exact h5
    have HX := Lib.hid hxk
    have HY := Lib.hid hyk
    have HG := Lib.hid hgo
    have lx' := lx.later hb
    have ly' := ly.later hb
    clear hxk hyk
    have done : ∀ (w1 : World) (v' : Value) (o : Obj), w1.ownsRow w.heap.size 3 1 v' (k + 1) ((addToD xs ys k).1.map (Value.int .i64) ++ [Value.int .i64 ((x + y + c) % 10000)]) → (wr.alloc o).grownBy w1 q.ownBlock →
     ∃ (j : Nat) (p : Value), j ≤ max xs.length ys.length + 1 ∧ p = v' ∧ Value.int .i64 ((x + y + c) / 10000) = .int .i64 (addToD xs ys j).2 ∧ Value.int .i64 ((k : Int) + 1) = .int .i64 j ∧ NumI w.heap.size w1 p (addToD xs ys j).1 ∧
      (max xs.length ys.length < j → 0 < (addToD xs ys (j - 1)).2) ∧ Below w.heap.size w w1 := fun w1 v' o ho hg => by
     have hown' : w1.ownsRow w.heap.size 3 1 v' ((addToD xs ys k).1.length + 1) ((addToD xs ys k).1.map (Value.int .i64) ++ [Value.int .i64 ((x + y + c) % 10000)]) := by rw [addToD_length]; exact ho
     obtain ⟨hn, hbw⟩ := push_num hb hsz HO.out hown' hg
     refine ⟨k + 1, v', by omega, rfl, by simp only [addToD]; rw [HX.out, HY.out, HC.out], by go_num, by simp only [addToD]; rw [HX.out, HY.out, HC.out]; exact hn, fun h => ?_, hbw⟩
     rw [Nat.add_sub_cancel, HC.out]
     rcases HG.out with h5 | h5
     · omega
     · exact h5
    have DONE := Lib.hid done
    clear done hgo
    by_cases hx1 : k < xs.length
    · go_wp2_with (first | (go_at_call 122; first | ((with_reducible refine (digit_any a xs capa k x _ lx' (by omega) HX.out).mono ?_); rintro e w' ⟨rfl, rfl⟩) | ((with_reducible refine (digit_any b ys capb k y _ ly' (by omega) HY.out).mono ?_); rintro e w' ⟨rfl, rfl⟩)) | (at_builtin; refine wpList_append_own _ rfl _ _ 56 rfl w.heap.size 3 i0 (.int .i64 0) 1 8 Tryz.underlying56 hi hz0 hz1 hz2 rfl (by decide) _ _ _ rfl (hrow.alloc _) ⟨wr.heap.size, 0, none⟩ 1 1 [.int .i64 ((x + y + c) % 10000)] rfl rfl (cell_one_new _ _ _) (by simp [Value.oneCell']) (by unfold maxLen; omega) (by omega) (by simp; omega) ?_; intro v' w1 hown' hgrow _))
      go_roundw
      case rel => exact DONE.out _ _ _ hown' hgrow
      case measure => simp [intOf]; omega
    · by_cases hy1 : k < ys.length
      · go_wp2_with (first | (go_at_call 122; first | ((with_reducible refine (digit_any a xs capa k x _ lx' (by omega) HX.out).mono ?_); rintro e w' ⟨rfl, rfl⟩) | ((with_reducible refine (digit_any b ys capb k y _ ly' (by omega) HY.out).mono ?_); rintro e w' ⟨rfl, rfl⟩)) | (at_builtin; refine wpList_append_own _ rfl _ _ 56 rfl w.heap.size 3 i0 (.int .i64 0) 1 8 Tryz.underlying56 hi hz0 hz1 hz2 rfl (by decide) _ _ _ rfl (hrow.alloc _) ⟨wr.heap.size, 0, none⟩ 1 1 [.int .i64 ((x + y + c) % 10000)] rfl rfl (cell_one_new _ _ _) (by simp [Value.oneCell']) (by unfold maxLen; omega) (by omega) (by simp; omega) ?_; intro v' w1 hown' hgrow _))
        go_roundw
        case rel => exact DONE.out _ _ _ hown' hgrow
        case measure => simp [intOf]; omega
      · have hcp : 0 < c := by rcases HG.out with h5 | h5; (· omega); exact h5
        go_wp2_with (first | (go_at_call 122; first | ((with_reducible refine (digit_any a xs capa k x _ lx' (by omega) HX.out).mono ?_); rintro e w' ⟨rfl, rfl⟩) | ((with_reducible refine (digit_any b ys capb k y _ ly' (by omega) HY.out).mono ?_); rintro e w' ⟨rfl, rfl⟩)) | (at_builtin; refine wpList_append_own _ rfl _ _ 56 rfl w.heap.size 3 i0 (.int .i64 0) 1 8 Tryz.underlying56 hi hz0 hz1 hz2 rfl (by decide) _ _ _ rfl (hrow.alloc _) ⟨wr.heap.size, 0, none⟩ 1 1 [.int .i64 ((x + y + c) % 10000)] rfl rfl (cell_one_new _ _ _) (by simp [Value.oneCell']) (by unfold maxLen; omega) (by omega) (by simp; omega) ?_; intro v' w1 hown' hgrow _))
        go_roundw
        case rel => exact DONE.out _ _ _ hown' hgrow
        case measure => simp [intOf]; omega
  · have hx1 : ¬ k < xs.length := by omega
    have hy1 : ¬ k < ys.length := by omega
    have hc0 : c = 0 := by omega
    subst hc0
    clear hgo
    go_wp2
    go_ret
    have hv := val_addToD xs ys k
    rw [List.take_of_length_le (by omega), List.take_of_length_le (by omega)] at hv
    have h6 : (addToD xs ys k).2 = 0 := (by have h := HC.out; simpa using h)
    rw [h6] at hv
    have hk2 : k ≤ max xs.length ys.length + 1 := HK.out
    exact ⟨_, rfl, (addToD xs ys k).1, ⟨HO.out, addToD_wf xs ys k, addD_full wx wy FX.out FY.out k (by omega) hk2 HP.out h6, by simpa using hv⟩, by rw [addToD_length]; exact hk2, hb⟩
def timesTo (xs : List Int) (d : Int) : Nat → List Int × Int
 | 0 => ([], 0)
 | k + 1 => ((timesTo xs d k).1 ++ [(xs.getD k 0 * d + (timesTo xs d k).2) % 10000], (xs.getD k 0 * d + (timesTo xs d k).2) / 10000)
theorem timesTo_length (xs : List Int) (d : Int) (k : Nat) : (timesTo xs d k).1.length = k := by
 induction k with
 | zero => rfl
 | succ k ih => simp [timesTo, ih]
theorem digit_prod {x d : Int} (hx : 0 ≤ x ∧ x < 10000) (hd : 0 ≤ d ∧ d ≤ 65536) : 0 ≤ x * d ∧ x * d ≤ 9999 * d := by
 constructor
 · exact Int.mul_nonneg hx.1 hd.1
 · exact Int.mul_le_mul_of_nonneg_right (by omega) hd.1
theorem timesTo_carry (xs : List Int) (d : Int) (hx : WfD xs) (hd : 0 ≤ d ∧ d ≤ 65536) (k : Nat) : 0 ≤ (timesTo xs d k).2 ∧ (timesTo xs d k).2 ≤ d := by
 induction k with
 | zero => simp [timesTo]; omega
 | succ k ih => have h1 := digit_prod (hx.getD k) hd; simp only [timesTo]; omega
theorem timesTo_wf (xs : List Int) (d : Int) (k : Nat) : WfD (timesTo xs d k).1 := by
 induction k with
 | zero => exact WfD.nil
 | succ k ih => exact ih.append (WfD.cons (by omega) WfD.nil)
theorem val_timesTo (xs : List Int) (d : Int) (k : Nat) : valD (timesTo xs d k).1 + 10000 ^ k * (timesTo xs d k).2 = valD (xs.take k) * d := by
 induction k with
 | zero => simp [timesTo, valD]
 | succ k ih =>
   rw [val_take_succD]
   simp only [timesTo]
   rw [valD_snoc, timesTo_length]
   simp only [Int.pow_succ]
   have hm := mod_divD (xs.getD k 0 * d + (timesTo xs d k).2)
   generalize (timesTo xs d k).2 = c at *
   generalize ((xs.getD k 0 * d + c) % 10000) = r at *
   generalize ((xs.getD k 0 * d + c) / 10000) = q at *
   generalize (10000 : Int) ^ k = P at *
   grind
theorem timesTo_far (xs : List Int) (d : Int) (hx : WfD xs) (hd : 0 ≤ d ∧ d ≤ 65536) : (timesTo xs d (xs.length + 1)).2 ≤ 6 ∧ (timesTo xs d (xs.length + 2)).2 = 0 := by
 have h0 := timesTo_carry xs d hx hd xs.length
 have h1 : (timesTo xs d (xs.length + 1)).2 = (timesTo xs d xs.length).2 / 10000 := by simp only [timesTo]; rw [beyond (Nat.le_refl _)]; simp
 have h2 : (timesTo xs d (xs.length + 2)).2 = (timesTo xs d (xs.length + 1)).2 / 10000 := by
  show (xs.getD (xs.length + 1) 0 * d + (timesTo xs d (xs.length + 1)).2) / 10000 = _
  rw [beyond (Nat.le_succ _)]; simp
 omega
theorem times_any {u : Value} {xs : List Int} {a : Option Addr} {capa : Nat} {w : World} (d : Int) (h1 : ArgD w u xs a capa) (hx : xs.length ≤ 68719476736) (hd : 0 ≤ d ∧ d ≤ 65536) :
 Calls Tryz.prog 112 #[u, .int .i64 d] w fun e w' => ∃ r, e = .returned r ∧ ∃ zs, ResD w.heap.size w' r zs (valD xs * d) ∧ zs.length ≤ xs.length + 2 ∧ Below w.heap.size w w' := by
 obtain ⟨i0, hi, hz0, hz1, hz2⟩ := info_parts infoInt
 obtain ⟨rfl, lx, _, wx, _⟩ := h1
 have hd2 := hd
 obtain ⟨hd0, hd1⟩ := hd
 go_enter Tryz.func112, Tryz.ntmps112
 go_wp2
 go_loopw [5, 6, 7, 8] (fun s c i _ wr => ∃ (k : Nat) (q : Value), k ≤ xs.length + 2 ∧ q = s ∧ c = .int .i64 (timesTo xs d k).2 ∧ i = .int .i64 k ∧ NumI w.heap.size wr q (timesTo xs d k).1 ∧ Below w.heap.size w wr) (fun _ _ i _ _ => xs.length + 3 - (intOf i).toNat)
 case atStart => exact ⟨0, _, Nat.zero_le _, rfl, rfl, rfl, World.ownsRow_nil _ _ _ _, Below.refl _ _⟩
 case round =>
  obtain ⟨k, q, hk, rfl, rfl, rfl, hown, hb⟩ := hrel
  have hsz := hb.size
  obtain ⟨c, hck⟩ : ∃ c, (timesTo xs d k).2 = c := ⟨_, rfl⟩
  have bc := timesTo_carry xs d wx hd2 k
  rw [hck] at bc ⊢
  obtain ⟨bc0, bc1⟩ := bc
  have hrow : wr.ownsRow w.heap.size 3 1 q k ((timesTo xs d k).1.map (Value.int .i64)) := by
   have h := hown; unfold NumI at h; rw [timesTo_length] at h; exact h
  have HO := Lib.hid hown
  have HC := Lib.hid hck
  have HK := Lib.hid hk
  clear hown hck
  by_cases hgo : k < xs.length ∨ 0 < c
  · obtain ⟨x, hxk⟩ : ∃ x, xs.getD k 0 = x := ⟨_, rfl⟩
    have bx := hxk ▸ wx.getD k
    have bp := digit_prod bx hd2
    obtain ⟨bp0, bp1⟩ := bp
    have bp2 : x * d ≤ 655294464 := by omega
    obtain ⟨bx0, bx1⟩ := bx
    have hk1 : k ≤ xs.length + 1 := by
     rcases hgo with h | h
     · omega
     · rcases Nat.lt_or_ge (xs.length + 1) k with h5 | h5
       · exfalso
         have e : k = xs.length + 2 := by omega
         have h6 := HC.out
         rw [e, (timesTo_far xs d wx hd2).2] at h6
         omega
       · exact h5
    have HX := Lib.hid hxk
    have lx' := lx.later hb
    clear hxk
    have done : ∀ (w1 : World) (v' : Value) (o : Obj), w1.ownsRow w.heap.size 3 1 v' (k + 1) ((timesTo xs d k).1.map (Value.int .i64) ++ [Value.int .i64 ((x * d + c) % 10000)]) → (wr.alloc o).grownBy w1 q.ownBlock →
     ∃ (j : Nat) (p : Value), j ≤ xs.length + 2 ∧ p = v' ∧ Value.int .i64 ((x * d + c) / 10000) = .int .i64 (timesTo xs d j).2 ∧ Value.int .i64 ((k : Int) + 1) = .int .i64 j ∧ NumI w.heap.size w1 p (timesTo xs d j).1 ∧ Below w.heap.size w w1 := fun w1 v' o ho hg => by
     have hown' : w1.ownsRow w.heap.size 3 1 v' ((timesTo xs d k).1.length + 1) ((timesTo xs d k).1.map (Value.int .i64) ++ [Value.int .i64 ((x * d + c) % 10000)]) := by rw [timesTo_length]; exact ho
     obtain ⟨hn, hbw⟩ := push_num hb hsz HO.out hown' hg
     exact ⟨k + 1, v', by omega, rfl, by simp only [timesTo]; rw [HX.out, HC.out], by go_num, by simp only [timesTo]; rw [HX.out, HC.out]; exact hn, hbw⟩
    have DONE := Lib.hid done
    have HG := Lib.hid hgo
    clear done hgo hd2
    by_cases hx1 : k < xs.length
    · go_wp2_with (first | (go_at_call 122; refine (digit_any a xs capa k x _ lx' (by omega) HX.out).mono ?_; rintro e w' ⟨rfl, rfl⟩) | (at_builtin; refine wpList_append_own _ rfl _ _ 56 rfl w.heap.size 3 i0 (.int .i64 0) 1 8 Tryz.underlying56 hi hz0 hz1 hz2 rfl (by decide) _ _ _ rfl (hrow.alloc _) ⟨wr.heap.size, 0, none⟩ 1 1 [.int .i64 ((x * d + c) % 10000)] rfl rfl (cell_one_new _ _ _) (by simp [Value.oneCell']) (by unfold maxLen; omega) (by omega) (by simp; omega) ?_; intro v' w1 hown' hgrow _))
      go_roundw
      case rel => exact DONE.out _ _ _ hown' hgrow
      case measure => simp [intOf]; omega
    · have hcp : 0 < c := by rcases HG.out with h5 | h5; (· omega); exact h5
      go_wp2_with (first | (go_at_call 122; refine (digit_any a xs capa k x _ lx' (by omega) HX.out).mono ?_; rintro e w' ⟨rfl, rfl⟩) | (at_builtin; refine wpList_append_own _ rfl _ _ 56 rfl w.heap.size 3 i0 (.int .i64 0) 1 8 Tryz.underlying56 hi hz0 hz1 hz2 rfl (by decide) _ _ _ rfl (hrow.alloc _) ⟨wr.heap.size, 0, none⟩ 1 1 [.int .i64 ((x * d + c) % 10000)] rfl rfl (cell_one_new _ _ _) (by simp [Value.oneCell']) (by unfold maxLen; omega) (by omega) (by simp; omega) ?_; intro v' w1 hown' hgrow _))
      go_roundw
      case rel => exact DONE.out _ _ _ hown' hgrow
      case measure => simp [intOf]; omega
  · have hx1 : ¬ k < xs.length := by omega
    have hc0 : c = 0 := by omega
    subst hc0
    clear hgo
    have hv := val_timesTo xs d k
    rw [List.take_of_length_le (by omega)] at hv
    have h6 : (timesTo xs d k).2 = 0 := (by have h := HC.out; simpa using h)
    rw [h6] at hv
    have hk2 : k ≤ xs.length + 2 := HK.out
    have HVL := Lib.hid hv
    clear hv h6
    go_wp2_with fail
    refine (trimD_num HO.out (by rw [timesTo_length]; omega)).mono ?_
    rintro e w' ⟨r, rfl, hr, rfl⟩
    go_wp2_with fail
    go_ret
    have hlen : (trim (timesTo xs d k).1).length ≤ k := by have h := Nat.le_trans (Nat.le_of_eq (trim_length _)) (trim_le (timesTo xs d k).1); rw [timesTo_length] at h; exact h
    exact ⟨_, rfl, trim (timesTo xs d k).1, ⟨hr, (timesTo_wf xs d k).trim, trim_full _, by rw [val_trimD]; have h := HVL.out; simpa using h⟩, Nat.le_trans hlen hk2, hb⟩
end
section
open Go.RowKit
theorem val_drop (xs : List Int) (j : Nat) (h : j < xs.length) : val (xs.drop j) = xs.getD j 0 + 4294967296 * val (xs.drop (j + 1)) := by
 rw [List.drop_eq_getElem_cons h]
 simp [val, h]
theorem of_any {u : Value} {xs : List Int} {a : Option Addr} {capa : Nat} {w : World} (h1 : Arg w u xs a capa) (hx : xs.length ≤ 134217728) :
 Calls Tryz.prog 72 #[u] w fun e w' => ∃ r, e = .returned r ∧ ∃ zs, ResD w.heap.size w' r zs (val xs) ∧ zs.length ≤ 5 * xs.length ∧ Below w.heap.size w w' := by
 obtain ⟨rfl, lx, _, wx⟩ := h1
 go_enter Tryz.func72, Tryz.ntmps72
 go_wp2
 go_loopw [3, 4] (fun s i wr => ∃ (k : Nat) (q : Value) (ds : List Int), k ≤ xs.length ∧ q = s ∧ i = .int .i64 ((xs.length : Int) - 1 - k) ∧ ResD w.heap.size wr q ds (val (xs.drop (xs.length - k))) ∧ ds.length ≤ 5 * k ∧ Below w.heap.size w wr) (fun _ i _ => (intOf i + 1).toNat)
 case atStart => exact ⟨0, _, [], Nat.zero_le _, rfl, by simp, ⟨World.ownsRow_nil _ _ _ _, WfD.nil, rfl, by simp [val, valD]⟩, by simp, Below.refl _ _⟩
 case round =>
  obtain ⟨k, q, ds, hk, rfl, rfl, hres, hlen, hb⟩ := hrel
  have hsz := hb.size
  by_cases hlt : k < xs.length
  · rcases lx with rfl | ⟨b, off, rfl, hc⟩
    · simp at hlt
    · obtain ⟨j, hj⟩ : ∃ j, j + k + 1 = xs.length := ⟨xs.length - k - 1, by omega⟩
      have hji : ((xs.length : Int) - 1 - k) = (j : Int) := by omega
      obtain ⟨x, hxk⟩ : ∃ x, xs.getD j 0 = x := ⟨_, rfl⟩
      obtain ⟨bx0, bx1⟩ : 0 ≤ x ∧ x < 4294967296 := hxk ▸ wx.getD j
      have hjl : j < xs.length := by omega
      have hcj := hc j hjl
      rw [hxk] at hcj
      have hc0 : wr.drew.cell? ⟨b, off + j, none⟩ = some (.int .u32 x) := (hb.cell (p := ⟨b, off + j, none⟩) (World.block_lt_of_cell? w _ hcj)).trans hcj
      have hc00 : wr.cell? ⟨b, off + j, none⟩ = some (.int .u32 x) := hc0
      rw [hji]
      obtain ⟨ad0, cap0, A0'⟩ := hres.arg
      have A0 : ArgD wr.drew q ds ad0 cap0 := A0'.later ((Below.refl wr.heap.size wr).drew)
      have hval : val (xs.drop (xs.length - (k + 1))) = valD ds * 65536 * 65536 + x := by
       rw [show xs.length - (k + 1) = j from by omega, val_drop xs j hjl, hxk, hres.eq, show xs.length - k = j + 1 from by omega]
       omega
      have hwx : IntKind.i64.wrap x = x := IntWalk.i64_in _ (by omega)
      have HV := Lib.hid hval
      have HJ := Lib.hid hj
      clear hj hxk hc hcj hji hval A0'
      have hge : (0 : Int) ≤ (j : Int) := by omega
      go_wp2_with fail
      go_region_held3 (fun w' => w'.cell? ⟨b, off + j, none⟩ = some (.int .u32 x)) (first | exact hc4 | exact hc3 | exact hc2 | exact hc1 | exact hc0 | go_keep)
       (first
         | (go_at_call 78; refine (addD_any A2s A3 (by omega) (by omega)).mono ?_; rintro e w4 ⟨r4, rfl, z4, q4, n4, hb4⟩; have hc4 := (hb4.cell (p := ⟨b, off + j, none⟩) (World.block_lt_of_cell? w3 _ hc3)).trans hc3)
         | (go_at_call 113; refine (small_any x _ bx0 (by omega)).mono ?_; rintro e w3 ⟨r3, rfl, z3, q3, n3, hb3⟩; obtain ⟨ad3, cap3, A3⟩ := q3.arg; have A2s := A2.later hb3; have hc3 := (hb3.cell (p := ⟨b, off + j, none⟩) (World.block_lt_of_cell? w2 _ hc2)).trans hc2)
         | (go_at_call 112; first
             | (refine (times_any 65536 A1 (by omega) (by omega)).mono ?_; rintro e w2 ⟨r2, rfl, z2, q2, n2, hb2⟩; obtain ⟨ad2, cap2, A2⟩ := q2.arg; have hc2 := (hb2.cell (p := ⟨b, off + j, none⟩) (World.block_lt_of_cell? w1 _ hc1)).trans hc1)
             | (refine (times_any 65536 A0 (by omega) (by omega)).mono ?_; rintro e w1 ⟨r1, rfl, z1, q1, n1, hb1⟩; obtain ⟨ad1, cap1, A1⟩ := q1.arg; have hc1 := (hb1.cell (p := ⟨b, off + j, none⟩) (World.block_lt_of_cell? _ _ hc0)).trans hc0)))
      have hs1 : wr.heap.size ≤ w1.heap.size := hb1.size
      have hs2 := hb2.size
      have hs3 := hb3.size
      have hB4 : Below w.heap.size w w4 := (((hb.trans (Below.mono (show Below wr.heap.size wr w1 from ⟨hb1.os, hb1.tape, hb1.output, hb1.size, hb1.block⟩) hsz)).trans (hb2.mono (by omega))).trans (hb3.mono (by omega))).trans (hb4.mono (by omega))
      have hv4 : valD z4 = val (xs.drop (xs.length - (k + 1))) := by rw [q4.eq, q2.eq, q1.eq, q3.eq, HV.out]
      have HV4 := Lib.hid hv4
      clear hv4
      go_wp2
      go_roundw
      case rel => exact ⟨k + 1, r4, z4, by omega, rfl, by have := HJ.out; congr 1; omega, ⟨q4.num.mono (by omega), q4.wf, q4.full, HV4.out⟩, by omega, hB4⟩
      case measure => simp [intOf]
  · obtain rfl : k = xs.length := by omega
    have hji : ((xs.length : Int) - 1 - xs.length) = -1 := by omega
    rw [hji]
    clear hji
    have hv : valD ds = val xs := by have h := hres.eq; rwa [Nat.sub_self, List.drop_zero] at h
    go_wp2
    go_ret
    exact ⟨_, rfl, ds, ⟨hres.num, hres.wf, hres.full, hv⟩, hlen, hb⟩
theorem cmpD_any {u v : Value} {us vs : List Int} {a b : Option Addr} {capa capb : Nat} {w : World} (h1 : ArgD w u us a capa) (h2 : ArgD w v vs b capb) (hx : us.length ≤ 68719476736) (hy : vs.length ≤ 68719476736) :
 Calls Tryz.prog 79 #[u, v] w fun e w' => e = .returned (.int .i64 (sign (valD us) (valD vs))) ∧ Below w.heap.size w w' := by
 obtain ⟨rfl, lx, _, wx, fx⟩ := h1
 obtain ⟨rfl, ly, _, wy, fy⟩ := h2
 have key : ∀ r, CmpT us vs r → r = sign (valD us) (valD vs) := fun r h => (cmp_valD wx wy fx fy h).1
 have KEY := Lib.hid key
 clear key fx fy
 by_cases hne : us.length = vs.length
 · have hne2 : ((us.length : Int) != (vs.length : Int)) = false := by simp; omega
   have HE := Lib.hid hne
   clear hne
   go_enter Tryz.func79, Tryz.ntmps79
   go_wp2
   go_loopw [5] (fun i wr => ∃ k : Nat, k ≤ us.length ∧ i = .int .i64 ((us.length : Int) - 1 - k) ∧ (∀ j, us.length - k ≤ j → j < us.length → us.getD j 0 = vs.getD j 0) ∧ Below w.heap.size w wr) (fun i _ => (intOf i + 1).toNat)
   case atStart => exact ⟨0, Nat.zero_le _, by simp, fun j h1 h2 => by omega, Below.refl _ _⟩
   case round =>
    obtain ⟨k, hk, rfl, hall, hb⟩ := hrel
    have hE := HE.out
    by_cases hlt : k < us.length
    · rcases lx with rfl | ⟨ba, offa, rfl, hca⟩
      · simp at hlt
      rcases ly with rfl | ⟨bb, offb, rfl, hcb⟩
      · simp only [List.length_nil] at hE; omega
      obtain ⟨j, hj⟩ : ∃ j, j + k + 1 = us.length := ⟨us.length - k - 1, by omega⟩
      have hji : ((us.length : Int) - 1 - k) = (j : Int) := by omega
      obtain ⟨x, hxk⟩ : ∃ x, us.getD j 0 = x := ⟨_, rfl⟩
      obtain ⟨y, hyk⟩ : ∃ y, vs.getD j 0 = y := ⟨_, rfl⟩
      have cx := hca j (by omega)
      have cy := hcb j (by omega)
      rw [hxk] at cx
      rw [hyk] at cy
      have cx0 := (hb.cell (p := ⟨ba, offa + j, none⟩) (World.block_lt_of_cell? w _ cx)).trans cx
      have cy0 := (hb.cell (p := ⟨bb, offb + j, none⟩) (World.block_lt_of_cell? w _ cy)).trans cy
      have hju : (j : Int) < (us.length : Int) := by omega
      have hjv : (j : Int) < (vs.length : Int) := by omega
      have hj0 : (0 : Int) ≤ (j : Int) := by omega
      rw [hji]
      have HJ := Lib.hid hj
      have HX := Lib.hid hxk
      have HY := Lib.hid hyk
      have HA := Lib.hid hall
      clear hj hji hxk hyk hall hca hcb cx cy hE hlt hk
      have dif : x ≠ y → CmpT us vs (sign x y) := fun h => by
       refine .inr (.inr ⟨HE.out, j, by omega, ?_, fun i hi1 hi2 => HA.out i (by have := HJ.out; omega) hi2, ?_⟩)
       · show us.getD j 0 ≠ vs.getD j 0
         rw [HX.out, HY.out]; exact h
       · show _ = sign (us.getD j 0) (vs.getD j 0)
         rw [HX.out, HY.out]
      have DIF := Lib.hid dif
      clear dif
      rcases Int.lt_trichotomy x y with h | h | h
      · have hd : decide (x < y) = true := by simp [h]
        go_wp2
        go_quiet (fail)
        go_wp2
        go_ret
        refine ⟨?_, ?_⟩
        · rw [← KEY.out _ (DIF.out (by omega)), sign_lt h]; rfl
        · exact ⟨hb.os, hb.tape, hb.output, hb.size, hb.block⟩
      · subst h
        have hd : decide (x < x) = false := by simp
        go_wp2
        go_quiet (fail)
        go_wp2
        go_quiet (fail)
        go_wp2
        go_roundw
        case rel =>
         refine ⟨k + 1, by have := HJ.out; omega, by have := HJ.out; congr 1; omega, fun i hi1 hi2 => ?_, ⟨hb.os, hb.tape, hb.output, hb.size, hb.block⟩⟩
         by_cases e : i = j
         · subst e; rw [HX.out, HY.out]
         · exact HA.out i (by have := HJ.out; omega) hi2
        case measure => simp [intOf]
      · have hd : decide (x < y) = false := by simp; omega
        have hd2 : decide (y < x) = true := by simp [h]
        go_wp2
        go_quiet (fail)
        go_wp2
        go_quiet (fail)
        go_wp2
        go_ret
        refine ⟨?_, ⟨hb.os, hb.tape, hb.output, hb.size, hb.block⟩⟩
        rw [← KEY.out _ (DIF.out (by omega)), sign_gt h]; rfl
    · obtain rfl : k = us.length := by omega
      have hji : ((us.length : Int) - 1 - us.length) = -1 := by omega
      rw [hji]
      clear hji
      have HA := Lib.hid hall
      clear hall hE
      go_wp2
      go_ret
      refine ⟨?_, hb⟩
      rw [← KEY.out 0 (.inr (.inl ⟨HE.out, fun i hi => HA.out i (by omega) hi, rfl⟩))]
      rfl
 · have hne2 : ((us.length : Int) != (vs.length : Int)) = true := by simp; omega
   have HN := Lib.hid hne
   by_cases h : us.length < vs.length
   · have hd : (us.length : Int) < (vs.length : Int) := by omega
     clear hne
     go_enter Tryz.func79, Tryz.ntmps79
     go_wp2
     go_ret
     refine ⟨?_, Below.refl _ _⟩
     rw [← KEY.out _ (.inl ⟨HN.out, rfl⟩), sign_lt hd]; rfl
   · have hd : (vs.length : Int) < (us.length : Int) := by omega
     clear hne h
     go_enter Tryz.func79, Tryz.ntmps79
     go_wp2
     go_ret
     refine ⟨?_, Below.refl _ _⟩
     rw [← KEY.out _ (.inl ⟨HN.out, rfl⟩), sign_gt hd]; rfl
end
section
open Go.RowKit
def BlkI (w : World) (g : Nat) (zs : List Int) : Prop := w.heap[g]? = some (.cells (zs.map (Value.int .i64)).toArray 3 (0, 0))
theorem BlkI.cell {w : World} {g : Nat} {zs : List Int} (h : BlkI w g zs) (i : Nat) (hi : i < zs.length) : w.cell? ⟨g, i, none⟩ = some (.int .i64 (zs.getD i 0)) := by
 have e : w.cell? ⟨g, i, none⟩ = ((zs.map (Value.int .i64)).toArray)[i]? := cell_of_row w g i _ 3 (0, 0) h
 rw [e]; simp [hi]
theorem BlkI.free {w : World} {g : Nat} {zs : List Int} (h : BlkI w g zs) (i : Nat) : w.frozen? ⟨g, i, none⟩ = false := by
 exact frozen_of_row w g i _ 3 h
theorem BlkI.lt {w : World} {g : Nat} {zs : List Int} (h : BlkI w g zs) : g < w.heap.size := lt_of_block h
theorem BlkI.same {w w' : World} {g : Nat} {zs : List Int} (h : BlkI w g zs) (e : w'.heap[g]? = w.heap[g]?) : BlkI w' g zs := e.trans h
theorem BlkI.alloc {w : World} {g : Nat} {zs : List Int} (h : BlkI w g zs) (o : Obj) : BlkI (w.alloc o) g zs := h.same (Below.heap_alloc _ _ _ h.lt)
theorem BlkI.below {w w' : World} {g B : Nat} {zs : List Int} (h : BlkI w g zs) (k : Below B w w') (hb : g < B) : BlkI w' g zs := h.same (k.block g hb)
theorem BlkI.set {w : World} {g : Nat} {zs : List Int} (h : BlkI w g zs) (i : Nat) (x : Int) : BlkI (w.setCell ⟨g, i, none⟩ (.int .i64 x)) g (zs.set i x) := by
 have hh := heap_setCell_same w g i _ 3 (.int .i64 x) h
 unfold BlkI
 rw [hh]
 congr 2
 simp [List.map_set]
theorem BlkI.made (w : World) (n : Nat) : BlkI (w.alloc (.cells (madeCells #[.int .i64 0] n) 3)) w.heap.size (List.replicate n 0) := by
 have h := heap_alloc_new w (.cells (madeCells #[.int .i64 0] n) 3)
 unfold BlkI
 rw [h]
 congr 2
 apply Array.ext
 · simp [madeCells]
 · intro i h1 h2
   simp [madeCells, Nat.mod_one]
theorem NumI.ofBlk {base g : Nat} {w : World} {zs : List Int} (h : BlkI w g zs) (hb : base ≤ g) (n : Nat) (hn : n ≤ zs.length) (hm : zs.length ≤ maxLen) : NumI base w (.slice (some ⟨g, 0, none⟩) n zs.length) (zs.take n) := by
 have e : (zs.take n).length = n := by rw [List.length_take]; omega
 unfold NumI
 rw [e]
 refine ⟨by rw [List.length_map, e, Nat.mul_one], .inr ⟨g, zs.length, _, rfl, hb, h, hn, hm, by simp, ?_⟩⟩
 simp [List.map_take]
theorem BlkI.grown {w w' : World} {g : Nat} {row : Option Nat} {zs : List Int} (h : BlkI w g zs) (k : w.grownBy w' row) (hb : some g ≠ row) : BlkI w' g zs := h.same (k.block g h.lt hb)
theorem makeI_run (n c : Int) (h0 : 0 ≤ n) (hnc : n ≤ c) (hc : c ≤ 17592186044416) (w : World) :
 (Instr.makeSlice 56 (.int .i64 n) (.int .i64 c)).run Tryz.prog w = .ok (.slice (some ⟨w.heap.size, 0, none⟩) n.toNat c.toNat) (w.alloc (.cells (madeCells #[.int .i64 0] c.toNat) 3)) := by
 obtain ⟨i0, hi, hz0, hz1, hz2⟩ := info_parts infoInt
 have h := run_make (P := Tryz.prog) w 56 3 i0 (.int .i64 0) Tryz.underlying56 hi hz0 .i64 .i64 n c h0 hnc (by rw [hz2]; omega) (by omega)
 simpa [hz1, Value.cells] using h
theorem makeI_runN (n c : Nat) (hnc : n ≤ c) (hc : c ≤ 17592186044416) (w : World) :
 (Instr.makeSlice 56 (.int .i64 n) (.int .i64 c)).run Tryz.prog w = .ok (.slice (some ⟨w.heap.size, 0, none⟩) n c) (w.alloc (.cells (madeCells #[.int .i64 0] c) 3)) := by
 simpa using makeI_run n c (by omega) (by omega) (by omega) w
end
section
open Go.RowKit
def shortD (d : Int) : List Int → List Int × Int
 | [] => ([], 0)
 | x :: xs => (((shortD d xs).2 * 10000 + x) / d :: (shortD d xs).1, ((shortD d xs).2 * 10000 + x) % d)
theorem shortD_length (d : Int) (xs : List Int) : (shortD d xs).1.length = xs.length := by
 induction xs with
 | nil => rfl
 | cons x xs ih => simp [shortD, ih]
theorem shortD_rest {d : Int} (hd : 0 < d) (xs : List Int) : 0 ≤ (shortD d xs).2 ∧ (shortD d xs).2 < d := by
 cases xs with
 | nil => simp [shortD, hd]
 | cons x xs => exact ⟨Int.emod_nonneg _ (by omega), Int.emod_lt_of_pos _ hd⟩
theorem short_digit {d r x : Int} (hd : 0 < d) (hr : 0 ≤ r ∧ r < d) (hx : 0 ≤ x ∧ x < 10000) : 0 ≤ (r * 10000 + x) / d ∧ (r * 10000 + x) / d < 10000 := by
 constructor
 · exact Int.ediv_nonneg (by omega) (by omega)
 · exact Int.ediv_lt_of_lt_mul hd (by omega)
theorem shortD_wf {d : Int} (hd : 0 < d) {xs : List Int} (hx : WfD xs) : WfD (shortD d xs).1 := by
 induction xs with
 | nil => exact WfD.nil
 | cons x xs ih => exact WfD.cons (short_digit hd (shortD_rest hd xs) hx.head) (ih hx.tail)
theorem val_shortD (d : Int) (xs : List Int) : valD (shortD d xs).1 * d + (shortD d xs).2 = valD xs := by
 induction xs with
 | nil => simp [shortD, valD]
 | cons x xs ih =>
   simp only [shortD, valD]
   have hm := Int.mul_ediv_add_emod ((shortD d xs).2 * 10000 + x) d
   generalize ((shortD d xs).2 * 10000 + x) / d = q at *
   generalize ((shortD d xs).2 * 10000 + x) % d = r at *
   generalize valD (shortD d xs).1 = V at *
   generalize (shortD d xs).2 = s at *
   grind
theorem quo_eq {V d r N : Int} (hd : 0 < d) (h : V * d + r = N) (hr : 0 ≤ r ∧ r < d) : V = N / d ∧ r = N % d := by
 subst h
 rw [Int.add_comm]
 constructor
 · rw [Int.add_mul_ediv_right _ _ (by omega), Int.ediv_eq_zero_of_lt hr.1 hr.2, Int.zero_add]
 · rw [Int.add_mul_emod_self_right, Int.emod_eq_of_lt hr.1 hr.2]
theorem set_front (j : Nat) (L : List Int) (v : Int) : (List.replicate (j + 1) 0 ++ L).set j v = List.replicate j 0 ++ v :: L := by
 rw [List.replicate_succ', List.append_assoc, List.set_append_right _ _ (by simp)]
 simp
theorem short_any {u : Value} {xs : List Int} {a : Option Addr} {capa : Nat} {w : World} (d : Int) (h1 : ArgD w u xs a capa) (hx : xs.length ≤ 1099511627776) (hd : 1 ≤ d ∧ d ≤ 4294967296) :
 Calls Tryz.prog 109 #[u, .int .i64 d] w fun e w' => ∃ r, e = .returned (.tuple #[r, .int .i64 (valD xs % d)]) ∧ ∃ zs, ResD w.heap.size w' r zs (valD xs / d) ∧ zs.length ≤ xs.length ∧ Below w.heap.size w w' := by
 obtain ⟨rfl, lx, _, wx, _⟩ := h1
 obtain ⟨hd0, hd1⟩ := hd
 obtain ⟨n, hn⟩ : ∃ n, xs.length = n := ⟨_, rfl⟩
 have hmk := makeI_runN n n (Nat.le_refl _) (by omega)
 rw [hn]
 have HN := Lib.hid hn
 rw [hn] at hx
 clear hn
 go_enter Tryz.func109, Tryz.ntmps109
 go_wp2
 go_loopw [7, 8, 9] (fun s i _ wr => ∃ (k : Nat), k ≤ n ∧ s = .int .i64 (shortD d (xs.drop (n - k))).2 ∧ i = .int .i64 ((n : Int) - 1 - k) ∧ BlkI wr w.heap.size (List.replicate (n - k) 0 ++ (shortD d (xs.drop (n - k))).1) ∧ Below w.heap.size w wr) (fun _ i _ _ => (intOf i + 1).toNat)
 case atStart =>
  have e : xs.drop (n - 0) = [] := by rw [Nat.sub_zero, ← HN.out, List.drop_length]
  refine ⟨0, Nat.zero_le _, by rw [e]; rfl, by simp, ?_, ((Below.refl _ w).alloc (Nat.le_refl _) _)⟩
  rw [e]
  simpa [shortD] using BlkI.made w n
 case round =>
  obtain ⟨k, hk, rfl, rfl, hblk, hb⟩ := hrel
  have hsz := hb.size
  by_cases hlt : k < n
  · rcases lx with rfl | ⟨b, off, rfl, hc⟩
    · have := HN.out; simp at this; omega
    · obtain ⟨j, hj⟩ : ∃ j, j + k + 1 = n := ⟨n - k - 1, by omega⟩
      have hji : ((n : Int) - 1 - k) = (j : Int) := by omega
      obtain ⟨x, hxk⟩ : ∃ x, xs.getD j 0 = x := ⟨_, rfl⟩
      obtain ⟨bx0, bx1⟩ : 0 ≤ x ∧ x < 10000 := hxk ▸ wx.getD j
      have hjl : j < xs.length := by have := HN.out; omega
      have hcj := hc j hjl
      rw [hxk] at hcj
      have hc0 : wr.cell? ⟨b, off + j, none⟩ = some (.int .i64 x) := (hb.cell (p := ⟨b, off + j, none⟩) (World.block_lt_of_cell? w _ hcj)).trans hcj
      have hge : (0 : Int) ≤ (j : Int) := by omega
      have hjn : (j : Int) < (n : Int) := by omega
      obtain ⟨r, hr⟩ : ∃ r, (shortD d (xs.drop (n - k))).2 = r := ⟨_, rfl⟩
      obtain ⟨br0, br1⟩ := shortD_rest (show 0 < d by omega) (xs.drop (n - k))
      have hst : shortD d (xs.drop (n - (k + 1))) = ((r * 10000 + x) / d :: (shortD d (xs.drop (n - k))).1, (r * 10000 + x) % d) := by
       rw [show n - (k + 1) = j from by omega, show n - k = j + 1 from by omega, List.drop_eq_getElem_cons hjl]
       have e : xs[j] = x := by rw [← hxk]; simp [hjl]
       simp only [shortD]
       rw [e, show j + 1 = n - k from by omega, hr]
      rw [hr] at br0 br1
      rw [hji, hr]
      rw [show n - k = j + 1 from by omega] at hblk hr hst
      have hset := hblk.set j ((r * 10000 + x) / d)
      rw [set_front] at hset
      have hlen : (List.replicate (j + 1) 0 ++ (shortD d (xs.drop (j + 1))).1).length = n := by rw [List.length_append, List.length_replicate, shortD_length, List.length_drop, HN.out]; omega
      have hcell := hblk.cell j (by omega)
      have hfree := hblk.free j
      obtain ⟨bq0, bq1⟩ := short_digit (show 0 < d by omega) ⟨br0, br1⟩ ⟨bx0, bx1⟩
      have bm0 : 0 ≤ (r * 10000 + x) % d := Int.emod_nonneg _ (by omega)
      have bm1 : (r * 10000 + x) % d < d := Int.emod_lt_of_pos _ (by omega)
      have hq : Int.tdiv (r * 10000 + x) d = (r * 10000 + x) / d := Int.tdiv_eq_ediv_of_nonneg (by omega)
      have hm : Int.tmod (r * 10000 + x) d = (r * 10000 + x) % d := Int.tmod_eq_emod_of_nonneg (by omega)
      have hdz : (d == 0) = false := by simp; omega
      have HST := Lib.hid hst
      have HJ := Lib.hid hj
      have HSET := Lib.hid hset
      clear hst hj hset hblk hr hxk hc hcj hji hlen
      go_wp2
      go_roundw
      case rel =>
       refine ⟨k + 1, by omega, by rw [HST.out], by have := HJ.out; congr 1; omega, ?_, hb.setCell (p := ⟨w.heap.size, j, none⟩) (Nat.le_refl _) _⟩
       rw [HST.out, show n - (k + 1) = j from by have := HJ.out; omega]
       exact HSET.out
      case measure => simp [intOf]
  · obtain rfl : k = n := by omega
    have hji : ((k : Int) - 1 - k) = -1 := by omega
    rw [hji]
    clear hji
    obtain ⟨r, hr⟩ : ∃ r, (shortD d (xs.drop (k - k))).2 = r := ⟨_, rfl⟩
    rw [hr]
    rw [Nat.sub_self] at hblk hr
    rw [List.drop_zero] at hblk hr
    rw [List.replicate_zero, List.nil_append] at hblk
    have hl := shortD_length d xs
    rw [HN.out] at hl
    have hnum := NumI.ofBlk hblk (Nat.le_refl _) k (by omega) (by rw [hl]; unfold maxLen; omega)
    rw [hl, List.take_of_length_le (by omega)] at hnum
    obtain ⟨e1, e2⟩ := quo_eq (show 0 < d by omega) (val_shortD d xs) (shortD_rest (by omega) xs)
    have wq := shortD_wf (show 0 < d by omega) wx
    rw [hr] at e2
    have E1 := Lib.hid e1
    have E2 := Lib.hid e2
    clear hblk hr e1 e2
    go_wp2_with fail
    refine (trimD_num hnum (by omega)).mono ?_
    rintro e w' ⟨q, rfl, hq, rfl⟩
    go_wp2_with fail
    go_ret2
    have hlen : (trim (shortD d xs).1).length ≤ xs.length := by have h := Nat.le_trans (Nat.le_of_eq (trim_length _)) (trim_le (shortD d xs).1); rw [shortD_length] at h; exact h
    refine ⟨q, by rw [← E2.out]; rfl, trim (shortD d xs).1, ⟨hq, wq.trim, trim_full _, by rw [val_trimD, E1.out]⟩, by rw [← HN.out]; exact hlen, hb⟩
def IsBits (N : Int) (k : Nat) : Prop := (k = 0 ∧ N = 0) ∨ ∃ j : Nat, k = j + 1 ∧ 2 ^ j ≤ N ∧ N < 2 ^ (j + 1)
theorem two_pos (k : Nat) : (0 : Int) < 2 ^ k := Int.pow_pos (by omega)
theorem two_mono {j k : Nat} (h : j ≤ k) : (2 : Int) ^ j ≤ 2 ^ k := by
 rw [show k = j + (k - j) from by omega, Int.pow_add]
 have h4 : (2 : Int) ^ j * 1 ≤ 2 ^ j * 2 ^ (k - j) := Int.mul_le_mul_of_nonneg_left (by have := two_pos (k - j); omega) (Int.le_of_lt (two_pos _))
 omega
theorem IsBits.unique {N : Int} {k l : Nat} (h : IsBits N k) (g : IsBits N l) : k = l := by
 rcases h with ⟨rfl, rfl⟩ | ⟨j, rfl, h1, h2⟩
 · rcases g with ⟨rfl, _⟩ | ⟨i, rfl, g1, g2⟩
   · rfl
   · have := two_pos i; omega
 · rcases g with ⟨rfl, rfl⟩ | ⟨i, rfl, g1, g2⟩
   · have := two_pos j; omega
   · rcases Nat.lt_trichotomy j i with e | e | e
     · have := two_mono (show j + 1 ≤ i by omega); omega
     · rw [e]
     · have := two_mono (show i + 1 ≤ j by omega); omega
theorem IsBits.le {N : Int} {k m : Nat} (h : IsBits N k) (hm : N < 2 ^ m) : k ≤ m := by
 rcases h with ⟨rfl, _⟩ | ⟨j, rfl, h1, _⟩
 · omega
 · rcases Nat.lt_or_ge j m with e | e
   · omega
   · have := two_mono e; omega
theorem IsBits.lt {N : Int} {k m : Nat} (h : IsBits N k) (hm : k ≤ m) : N < 2 ^ m := by
 rcases h with ⟨rfl, rfl⟩ | ⟨j, rfl, _, h2⟩
 · exact two_pos m
 · have := two_mono hm; omega
theorem valD_zero {ds : List Int} (h : WfD ds) (f : trimN ds ds.length = ds.length) (e : valD ds = 0) : ds.length = 0 := by
 rcases Nat.eq_zero_or_pos ds.length with h0 | h0
 · exact h0
 · have h1 := full_geD h f (ds.length - 1) (by omega)
   have h2 := pow_posD (ds.length - 1)
   omega
end
end Go.Proofs.YtengpgodmbfmkaaGreat
