/-
  Layer 10's law FoldLimit: a product of too many elements is refused, and one of just as many as may be is not: for every input the law returns true, and its arguments read behind the call as they read before (first form: each slice that is met in reading them weighs at most the form's reach).
-/
import Derived.Test.YtengpgodmbfmkaaGreatD30
import Derived.Laws.IdiomArrays
namespace Go.Proofs.YtengpgodmbfmkaaGreat
set_option linter.unusedVariables false
set_option linter.unusedSimpArgs false
set_option maxRecDepth 100000
set_option maxHeartbeats 40000000
section
open Go.RowKit
def fitC (f t : List Int) : Int := if mayC f ≠ 0 then mayC f else if mayC t ≠ 0 then mayC t else if fitU f t f.length then 0 else 13
theorem fitC_from {f t : List Int} (h : mayC f ≠ 0) : fitC f t = mayC f := by unfold fitC; rw [if_pos h]
theorem fitC_to {f t : List Int} (h : mayC f = 0) (h2 : mayC t ≠ 0) : fitC f t = mayC t := by unfold fitC; rw [if_neg (by rw [h]; simp), if_pos h2]
theorem fitC_ok {f t : List Int} (h : mayC f = 0) (h2 : mayC t = 0) (h3 : fitU f t f.length) : fitC f t = 0 := by unfold fitC; rw [if_neg (by rw [h]; simp), if_neg (by rw [h2]; simp), if_pos h3]
theorem fitC_bad {f t : List Int} (h : mayC f = 0) (h2 : mayC t = 0) (h3 : ¬ fitU f t f.length) : fitC f t = 13 := by unfold fitC; rw [if_neg (by rw [h]; simp), if_neg (by rw [h2]; simp), if_neg h3]
end
section
open Go.RowKit
def grownL (f t : List Int) : Nat → List Int
 | 0 => []
 | j + 1 => grownL f t j ++ (if backS f (t.length - j) = backS t (t.length - j) then [] else [(j : Int)])
def grownS (f t : List Int) : List Int := if fitC f t = 0 then grownL f t t.length else []
end
section
theorem back_zero {s : List Int} {k : Nat} (h : s.length < k) : backS s k = 0 := by unfold backS; rw [if_pos h]
theorem fitC_is {f t : List Int} (h : fitC f t = 0) : OkS f ∧ OkS t ∧ fitU f t f.length := by
 by_cases h1 : mayC f = 0
 · by_cases h2 : mayC t = 0
   · by_cases h3 : fitU f t f.length
     · exact ⟨mayC_zero.1 h1, mayC_zero.1 h2, h3⟩
     · rw [fitC_bad h1 h2 h3] at h; cases h
   · rw [fitC_to h1 h2] at h; exact absurd h h2
 · rw [fitC_from h1] at h; exact absurd h h1
theorem fitC_of {f t : List Int} (h1 : OkS f) (h2 : OkS t) (h3 : fitU f t f.length) : fitC f t = 0 := fitC_ok (mayC_ok h1) (mayC_ok h2) h3
theorem fit_len {f t : List Int} (h : fitC f t = 0) : f.length ≤ t.length := by
 obtain ⟨o1, o2, hu⟩ := fitC_is h
 rcases Nat.lt_or_ge t.length f.length with g | g
 · have := (hu f.length (by omega) (Nat.le_refl _)).1
   rw [back_zero g] at this
   exact absurd rfl this
 · exact g
end
section
open Go.RowKit
theorem back_ahead {f t : List Int} {k : Nat} (h : k < t.length - f.length) : backS f (t.length - k) = 0 := by
 unfold backS
 rw [if_pos (by omega)]
theorem fit_far {f t : List Int} (o1 : OkS f) (o2 : OkS t) (h : t.length < f.length) : fitC f t = 13 := by
 refine fitC_bad (mayC_ok o1) (mayC_ok o2) fun hu => ?_
 have := (hu f.length (by omega) (Nat.le_refl _)).1
 rw [back_zero h] at this
 exact this rfl
theorem grownS_bad {f t : List Int} (h : fitC f t ≠ 0) : grownS f t = [] := by unfold grownS; rw [if_neg h]
theorem grownS_ok {f t : List Int} (h : fitC f t = 0) : grownS f t = grownL f t t.length := by unfold grownS; rw [if_pos h]
theorem grown_any {u v : Value} {xs ys : List Int} {a b : Option Addr} {ca cb : Nat} {w : World} (A : ArgS w u xs a ca) (B : ArgS w v ys b cb) :
 Calls Tryz.prog 100 #[u, v] w fun e w' => ∃ r, e = .returned (.tuple #[r, .int .i64 (fitC xs ys)]) ∧ ResS w.heap.size w' r (grownS xs ys) ∧ Below w.heap.size w w' := by
 obtain ⟨i0, hi, hz0, hz1, hz2⟩ := info_parts infoS
 have HA := Lib.hid A
 have HB := Lib.hid B
 obtain rfl := A.is
 obtain rfl := B.is
 obtain ⟨c, hc⟩ : ∃ c, fitC xs ys = c := ⟨_, rfl⟩
 obtain ⟨r, hr⟩ : ∃ r, grownS xs ys = r := ⟨_, rfl⟩
 obtain ⟨F, hF⟩ : ∃ F, xs.length = F := ⟨_, rfl⟩
 obtain ⟨T, hT⟩ : ∃ T, ys.length = T := ⟨_, rfl⟩
 have HC := Lib.hid hc
 have HR := Lib.hid hr
 have HF := Lib.hid hF
 have HT := Lib.hid hT
 rw [hc, hr, hF, hT]
 clear A B hc hr hF hT
 go_enter Tryz.func100, Tryz.ntmps100
 go_wp2
 go_step3
 go_wp2
 have hbW : Below w.heap.size w (w.alloc (.cells #[.slice a F ca, .slice b T cb] 23)) := (Below.refl _ _).alloc (Nat.le_refl _) _
 have hc0 : (w.alloc (.cells #[.slice a F ca, .slice b T cb] 23)).cell? ⟨w.heap.size, 0, none⟩ = some (.slice a F ca) := cell_of_row _ _ 0 _ 23 (0, 0) (heap_alloc_new w _)
 have hc1 : (w.alloc (.cells #[.slice a F ca, .slice b T cb] 23)).cell? ⟨w.heap.size, 1, none⟩ = some (.slice b T cb) := cell_of_row _ _ 1 _ 23 (0, 0) (heap_alloc_new w _)
 obtain ⟨W, hW⟩ : ∃ W, w.alloc (.cells #[.slice a F ca, .slice b T cb] 23) = W := ⟨_, rfl⟩
 rw [hW] at hbW hc0 hc1 ⊢
 clear hW
 have hm1 := mayS_eq (HA.out.later hbW)
 have hm2 := mayS_eq (HB.out.later hbW)
 rw [HF.out] at hm1
 rw [HT.out] at hm2
 go_loop [7, 8, 17] (fun _ _ i => ∃ (k : Nat), i = .int .i64 (k : Int) ∧ k ≤ 2 ∧ (1 ≤ k → mayC xs = 0) ∧ (2 ≤ k → mayC ys = 0)) (fun _ _ i => 2 - (intOf i).toNat)
 case atStart => exact ⟨0, rfl, by omega, fun h => by omega, fun h => by omega⟩
 case round =>
  obtain ⟨k, rfl, hk, h1, h2⟩ := hrel
  rcases (show k = 0 ∨ k = 1 ∨ k = 2 by omega) with rfl | rfl | rfl
  · obtain ⟨m, hm⟩ : ∃ m, mayC xs = m := ⟨_, rfl⟩
    rw [hm] at hm1
    have HM := Lib.hid hm
    clear hm h1 h2
    by_cases h0 : m = 0
    · subst h0
      go_wp2_with (go_at_call 96; refine hm1.mono ?_; rintro e w1 ⟨rfl, rfl⟩)
      go_round
      case rel => exact ⟨1, by go_num, by omega, fun _ => HM.out, fun h => by omega⟩
      case measure => simp [intOf]
    · have hcc := fitC_from (f := xs) (t := ys) (by rw [HM.out]; exact h0)
      obtain rfl : c = m := by rw [← HC.out, hcc]; exact HM.out
      obtain rfl : r = [] := by rw [← HR.out]; exact grownS_bad (by rw [HC.out]; exact h0)
      have hne : (c != 0) = true := by simpa using h0
      clear hcc
      go_wp2_with (go_at_call 96; refine hm1.mono ?_; rintro e w1 ⟨rfl, rfl⟩)
      (try rw [Exit.noGoto_ret])
      go_ret2
      exact ⟨_, rfl, ResS.nil _ _, hbW⟩
  · obtain ⟨m, hm⟩ : ∃ m, mayC ys = m := ⟨_, rfl⟩
    have H1 := Lib.hid (h1 (by omega))
    rw [hm] at hm2
    have HM := Lib.hid hm
    clear hm h1 h2
    by_cases h0 : m = 0
    · subst h0
      go_wp2_with (go_at_call 96; refine hm2.mono ?_; rintro e w1 ⟨rfl, rfl⟩)
      go_round
      case rel => exact ⟨2, by go_num, by omega, fun _ => H1.out, fun _ => HM.out⟩
      case measure => simp [intOf]
    · have hcc := fitC_to (f := xs) (t := ys) H1.out (by rw [HM.out]; exact h0)
      obtain rfl : c = m := by rw [← HC.out, hcc]; exact HM.out
      obtain rfl : r = [] := by rw [← HR.out]; exact grownS_bad (by rw [HC.out]; exact h0)
      have hne : (c != 0) = true := by simpa using h0
      clear hcc
      go_wp2_with (go_at_call 96; refine hm2.mono ?_; rintro e w1 ⟨rfl, rfl⟩)
      (try rw [Exit.noGoto_ret])
      go_ret2
      exact ⟨_, rfl, ResS.nil _ _, hbW⟩
  · have o1 := mayC_zero.1 (h1 (by omega))
    have o2 := mayC_zero.1 (h2 (by omega))
    have l1 := o1.rank
    have l2 := o2.rank
    rw [HF.out] at l1
    rw [HT.out] at l2
    have O1 := Lib.hid o1
    have O2 := Lib.hid o2
    clear h1 h2 hm1 hm2 o1 o2
    have hnn : ¬ ((2 : Nat) : Int) < 2 := by omega
    by_cases hft : F ≤ T
    · obtain ⟨D, hD⟩ : ∃ D, T - F = D := ⟨_, rfl⟩
      have hDI : (T : Int) - (F : Int) = (D : Int) := by omega
      have hD0 : ¬ (D : Int) < 0 := by omega
      have HD := Lib.hid hD
      clear hD
      go_wp2
      go_step3
      go_wp2
      go_loopw [10, 11, 12, 36] (fun s _ _ i wr => ∃ (k : Nat) (zs : List Int), i = .int .i64 (k : Int) ∧ k ≤ T ∧ ResS w.heap.size wr s zs ∧ zs.length ≤ k ∧ grownL xs ys k = zs ∧ fitP xs ys k ∧ Below w.heap.size w wr) (fun _ _ _ i _ => T - (intOf i).toNat)
      case atStart => exact ⟨0, [], rfl, Nat.zero_le _, ResS.nil _ _, Nat.le_refl _, rfl, fun i hi => by omega, hbW⟩
      case round =>
       obtain ⟨k, zs, rfl, hk, R, hzl, hz, hfp, hb⟩ := hrel
       have hsz := hb.size
       have HZ := Lib.hid hz
       have HFP := Lib.hid hfp
       have HRES := Lib.hid R
       have hrow : wr.ownsRow w.heap.size 3 1 _ zs.length (zs.map (Value.int .i64)) := R.num
       clear hz hfp R
       by_cases hlt : k < T
       · obtain ⟨b2, o2, rfl, c2⟩ := (HB.out.later hb).at (i := k) (by rw [HT.out]; exact hlt)
         have hst : grownL xs ys (k + 1) = zs ++ (if backS xs (ys.length - k) = backS ys (ys.length - k) then [] else [(k : Int)]) := by simp only [grownL]; rw [HZ.out]
         rw [back_to (t := ys) (by rw [HT.out]; exact hlt)] at hst
         have hdp := O2.out.pos.getD (i := k) (by rw [HT.out]; exact hlt)
         obtain ⟨d, hde⟩ : ∃ d, ys.getD k 0 = d := ⟨_, rfl⟩
         rw [hde] at c2 hst hdp
         have HDE := Lib.hid hde
         have hltI : (k : Int) < (T : Int) := by omega
         clear hde
         by_cases hin : k < D
         · have hinI : (k : Int) < (D : Int) := by omega
           rw [back_ahead (f := xs) (t := ys) (by rw [HT.out, HF.out, HD.out]; exact hin), if_neg (by omega)] at hst
           have HST := Lib.hid hst
           have HN := Lib.hid (HFP.out.next fun h => by rw [HT.out, HF.out, HD.out] at h; omega)
           clear hst
           go_wp2_with (at_builtin; refine wpList_append_own _ rfl _ _ 22 rfl w.heap.size 3 i0 (.int .i64 0) 1 8 Tryz.underlying22 hi hz0 hz1 hz2 rfl (by decide) _ _ _ rfl (hrow.alloc _) ⟨wr.heap.size, 0, none⟩ 1 1 [.int .i64 (k : Int)] rfl rfl (cell_one_new _ _ _) (by simp [Value.oneCell']) (by unfold maxLen; omega) (by omega) (by simp; omega) ?_; intro v' w1 hown' hgrow _)
           go_roundw
           case rel =>
            obtain ⟨hn, hbw⟩ := pushS hb hsz HRES.out.num hown' hgrow
            exact ⟨k + 1, zs ++ [(k : Int)], by go_num, by omega, ⟨hn, HRES.out.wf.append (Wid.one (by omega))⟩, by rw [List.length_append]; simp only [List.length_cons, List.length_nil]; omega, HST.out, HN.out, hbw⟩
           case measure => simp [intOf]; omega
         · have hinI : ¬ (k : Int) < (D : Int) := by omega
           obtain ⟨j, hj⟩ : ∃ j, k - D = j := ⟨_, rfl⟩
           have hjI : (k : Int) - (D : Int) = (j : Int) := by omega
           have hjF : j < F := by have := HD.out; omega
           have hjFI : (j : Int) < (F : Int) := by omega
           obtain ⟨b1, o1, rfl, c1⟩ := (HA.out.later hb).at (i := j) (by rw [HF.out]; exact hjF)
           have hle : xs.length ≤ ys.length := by rw [HF.out, HT.out]; exact hft
           have hkk : ys.length - xs.length ≤ k := by rw [HT.out, HF.out, HD.out]; omega
           have hkt : k < ys.length := by rw [HT.out]; exact hlt
           have ej : k - (ys.length - xs.length) = j := by rw [HT.out, HF.out, HD.out]; exact hj
           rw [back_in hle hkt hkk, ej] at hst
           have hno : xs.getD j 0 ≠ d → xs.getD j 0 ≠ 1 → fitC xs ys = 13 := fun g1 g2 => fitC_bad (mayC_ok O1.out) (mayC_ok O2.out) fun hu => by
            have := hu.at hle hkt hkk
            rw [ej, HDE.out] at this
            omega
           have hyes : xs.getD j 0 = d ∨ xs.getD j 0 = 1 → fitP xs ys (k + 1) := fun g => HFP.out.next fun _ => by rw [ej, HDE.out]; exact g
           obtain ⟨x, hxe⟩ : ∃ x, xs.getD j 0 = x := ⟨_, rfl⟩
           rw [hxe] at c1 hst hno hyes
           have HNO := Lib.hid hno
           have HYES := Lib.hid hyes
           clear hno hyes hle hkk hkt ej hxe hj
           by_cases hxd : x = d
           · subst hxd
             rw [if_pos rfl, List.append_nil] at hst
             have HST := Lib.hid hst
             have heq : (x == x) = true := by simp
             clear hst
             go_wp2
             go_roundw
             case rel => exact ⟨k + 1, zs, by go_num, by omega, HRES.out, by omega, HST.out, HYES.out (.inl rfl), hb⟩
             case measure => simp [intOf]; omega
           · rw [if_neg hxd] at hst
             have HST := Lib.hid hst
             have heq : (x == d) = false := by simpa using hxd
             clear hst
             by_cases hx1 : x = 1
             · subst hx1
               go_wp2_with (at_builtin; refine wpList_append_own _ rfl _ _ 22 rfl w.heap.size 3 i0 (.int .i64 0) 1 8 Tryz.underlying22 hi hz0 hz1 hz2 rfl (by decide) _ _ _ rfl (hrow.alloc _) ⟨wr.heap.size, 0, none⟩ 1 1 [.int .i64 (k : Int)] rfl rfl (cell_one_new _ _ _) (by simp [Value.oneCell']) (by unfold maxLen; omega) (by omega) (by simp; omega) ?_; intro v' w1 hown' hgrow _)
               go_roundw
               case rel =>
                obtain ⟨hn, hbw⟩ := pushS hb hsz HRES.out.num hown' hgrow
                exact ⟨k + 1, zs ++ [(k : Int)], by go_num, by omega, ⟨hn, HRES.out.wf.append (Wid.one (by omega))⟩, by rw [List.length_append]; simp only [List.length_cons, List.length_nil]; omega, HST.out, HYES.out (.inr rfl), hbw⟩
               case measure => simp [intOf]; omega
             · have hcc := HNO.out hxd hx1
               obtain rfl : c = 13 := by rw [← HC.out]; exact hcc
               obtain rfl : r = [] := by rw [← HR.out]; exact grownS_bad (by rw [hcc]; decide)
               have hne : (x != 1) = true := by simpa using hx1
               clear hcc
               go_wp2
               (try rw [Exit.noGoto_ret])
               go_ret2
               exact ⟨_, rfl, ResS.nil _ _, hb⟩
       · obtain rfl : k = T := by omega
         have hu := fitP.all (f := xs) (t := ys) O2.out (by rw [HF.out, HT.out]; exact hft) (by rw [HT.out]; exact HFP.out)
         have hcc := fitC_of O1.out O2.out hu
         obtain rfl : c = 0 := by rw [← HC.out]; exact hcc
         have hrr : zs = r := by rw [← HR.out, grownS_ok hcc, HT.out]; exact HZ.out.symm
         subst hrr
         have hltI : ¬ (k : Int) < (k : Int) := by omega
         clear hu hcc
         go_wp2
         (try rw [Exit.noGoto_ret])
         go_ret2
         exact ⟨_, rfl, HRES.out, hb⟩
    · obtain rfl : c = 13 := by rw [← HC.out]; exact fit_far O1.out O2.out (by rw [HF.out, HT.out]; omega)
      obtain rfl : r = [] := by rw [← HR.out]; exact grownS_bad (by rw [HC.out]; decide)
      have hd : (T : Int) - (F : Int) < 0 := by omega
      go_wp2
      go_ret2
      exact ⟨_, rfl, ResS.nil _ _, hbW⟩
theorem fitsS_any {u v : Value} {xs ys : List Int} {a b : Option Addr} {ca cb : Nat} {w : World} (A : ArgS w u xs a ca) (B : ArgS w v ys b cb) (ha : a = none → ca = 0) (hb : b = none → cb = 0) (hx : xs.length ≤ 17592186044416) (hy : ys.length ≤ 17592186044416) :
 Calls Tryz.prog 58 #[u, v] w fun e w' => e = .returned (.int .i64 (fitC xs ys)) ∧ Below w.heap.size w w' := by
 have h := grown_any A B
 obtain rfl := A.is
 obtain rfl := B.is
 obtain ⟨c, hc⟩ : ∃ c, fitC xs ys = c := ⟨_, rfl⟩
 obtain ⟨z, hz⟩ : ∃ z, grownS xs ys = z := ⟨_, rfl⟩
 obtain ⟨n, hn⟩ : ∃ n, xs.length = n := ⟨_, rfl⟩
 obtain ⟨m, hm⟩ : ∃ n, ys.length = n := ⟨_, rfl⟩
 rw [hc, hz, hn, hm] at h
 rw [hc, hn, hm]
 clear A B ha hb hx hy hc hz hn hm
 go_enter Tryz.func58, Tryz.ntmps58
 go_wp2_with (go_at_call 100; refine h.mono ?_; rintro e w1 ⟨r, rfl, R, hb⟩)
 go_ret
 exact ⟨rfl, hb⟩
theorem grownC_any {u v : Value} {xs ys : List Int} {a b : Option Addr} {ca cb : Nat} {w : World} (A : ArgS w u xs a ca) (B : ArgS w v ys b cb) (ha : a = none → ca = 0) (hb : b = none → cb = 0) (hx : xs.length ≤ 17592186044416) (hy : ys.length ≤ 17592186044416) :
 Calls Tryz.prog 101 #[u, v] w fun e w' => ∃ r, e = .returned r ∧ ResS w.heap.size w' r (grownS xs ys) ∧ Below w.heap.size w w' := by
 have h := grown_any A B
 obtain rfl := A.is
 obtain rfl := B.is
 obtain ⟨c, hc⟩ : ∃ c, fitC xs ys = c := ⟨_, rfl⟩
 obtain ⟨z, hz⟩ : ∃ z, grownS xs ys = z := ⟨_, rfl⟩
 obtain ⟨n, hn⟩ : ∃ n, xs.length = n := ⟨_, rfl⟩
 obtain ⟨m, hm⟩ : ∃ n, ys.length = n := ⟨_, rfl⟩
 rw [hc, hz, hn, hm] at h
 rw [hz, hn, hm]
 clear A B ha hb hx hy hc hz hn hm
 go_enter Tryz.func101, Tryz.ntmps101
 go_wp2_with (go_at_call 100; refine h.mono ?_; rintro e w1 ⟨r, rfl, R, hb⟩)
 go_ret
 exact ⟨_, rfl, R, hb⟩
end
section
def elV (s : List Int) (L : List Rat) (xs : List Int) : Rat := if inS s xs then L.getD (placeS s xs).toNat 0 else 0
theorem elV_in {s xs : List Int} {L : List Rat} (h : inS s xs) : elV s L xs = L.getD (placeS s xs).toNat 0 := if_pos h
end
section
theorem fit_at {f t : List Int} (h : fitC f t = 0) {i : Nat} (hi : i < f.length) : f.getD i 0 = 1 ∨ f.getD i 0 = t.getD (t.length - f.length + i) 0 := by
 have hl := fit_len h
 have h3 := ((fitC_is h).2.2 (f.length - i) (by omega) (by omega)).2
 unfold backS at h3
 rw [if_neg (by omega), if_neg (by omega), show f.length - (f.length - i) = i by omega, show t.length - (f.length - i) = t.length - f.length + i by omega] at h3
 exact h3
end
section
open Go.RowKit
theorem ResS.arg2 {B : Nat} {w : World} {u : Value} {xs : List Int} (h : ResS B w u xs) : ∃ ad cap, ArgS w u xs ad cap ∧ (ad = none → cap = 0) := by
 obtain ⟨ad, cap, rfl, _, A, hn⟩ := h.slice
 exact ⟨ad, cap, A, hn⟩
end
section
theorem dropL_len (s xs axes : List Int) (j : Nat) : (dropL xs axes j).length = (dropL s axes j).length := by
 induction j with
 | zero => rfl
 | succ j ih => simp only [dropL, List.length_append, ih]; split <;> rfl
theorem place_snoc10 {s xs : List Int} (h : s.length = xs.length) (d x : Int) : placeS (s ++ [d]) (xs ++ [x]) = placeS s xs * d + x := by
 induction s generalizing xs with
 | nil =>
  cases xs with
  | nil => simp [placeS, prodS]
  | cons => simp at h
 | cons a s ih => cases xs with
  | nil => simp at h
  | cons y xs =>
   simp only [List.cons_append, placeS]
   rw [ih (by simpa using h), prodS_append]
   simp only [prodS, Int.mul_one]
   rw [Int.add_mul, Int.mul_assoc, Int.add_assoc]
theorem place_grown {f t xs : List Int} (h : fitC f t = 0) (hx : inS t xs) : placeS (dropS t (grownS f t)) (dropS xs (grownS f t)) = placeS f (bcI f (t.length - f.length) xs) ∧ (dropS t (grownS f t)).length ≤ f.length := by
 have hl := fit_len h
 obtain ⟨okf, okt, _⟩ := fitC_is h
 have hxl := inS_length hx
 have hg : ∀ j : Nat, (j : Int) ∈ grownS f t ↔ j < t.length ∧ backS f (t.length - j) ≠ backS t (t.length - j) := fun j => by
  rw [show grownS f t = grownL f t t.length from if_pos h]
  have key : ∀ n : Nat, (j : Int) ∈ grownL f t n ↔ j < n ∧ backS f (t.length - j) ≠ backS t (t.length - j) := fun n => by
   induction n with
   | zero => simp [grownL]
   | succ n ih =>
    simp only [grownL, List.mem_append, ih]
    by_cases e : backS f (t.length - n) = backS t (t.length - n)
    · rw [if_pos e]
      constructor
      · rintro (⟨h1, h2⟩ | h1)
        · exact ⟨by omega, h2⟩
        · cases h1
      · rintro ⟨h1, h2⟩
        exact .inl ⟨by have : j ≠ n := fun e2 => h2 (e2 ▸ e); omega, h2⟩
    · rw [if_neg e]
      constructor
      · rintro (⟨h1, h2⟩ | h1)
        · exact ⟨by omega, h2⟩
        · have e2 : j = n := by have := List.mem_singleton.1 h1; omega
          subst e2
          exact ⟨by omega, e⟩
      · rintro ⟨h1, h2⟩
        by_cases e2 : j = n
        · subst e2; exact .inr (by simp)
        · exact .inl ⟨by omega, h2⟩
  exact key t.length
 obtain ⟨G, hG⟩ : ∃ G, grownS f t = G := ⟨_, rfl⟩
 rw [hG] at hg ⊢
 obtain ⟨k, hk⟩ : ∃ k, t.length - f.length = k := ⟨_, rfl⟩
 have key : ∀ j, j ≤ t.length → placeS (dropL t G j) (dropL xs G j) = placeS (f.take (j - k)) ((bcI f k xs).take (j - k)) ∧ (dropL t G j).length ≤ j - k := fun j => by
  induction j with
  | zero => intro _; simp [dropL, placeS]
  | succ j ih =>
   intro hj
   obtain ⟨h1, h2⟩ := ih (by omega)
   have htj := okt.pos.getD (i := j) (by omega)
   have hxj := inS_at hx (i := j) (by omega)
   have ebt : backS t (t.length - j) = t.getD j 0 := by unfold backS; rw [if_neg (by omega), show t.length - (t.length - j) = j by omega]
   simp only [dropL]
   by_cases hjk : j < k
   · have ebf : backS f (t.length - j) = 0 := by unfold backS; rw [if_pos (by omega)]
     rw [if_pos ((hg j).2 ⟨by omega, by rw [ebf, ebt]; omega⟩), if_pos ((hg j).2 ⟨by omega, by rw [ebf, ebt]; omega⟩), List.append_nil, List.append_nil, h1, show j - k = 0 by omega, show j + 1 - k = 0 by omega]
     exact ⟨by simp [placeS], by omega⟩
   · obtain ⟨i, hi⟩ : ∃ i, j - k = i := ⟨_, rfl⟩
     have hif : i < f.length := by omega
     have ebf : backS f (t.length - j) = f.getD i 0 := by unfold backS; rw [if_neg (by omega), show f.length - (t.length - j) = i by omega]
     have hbl : (bcI f k xs).length = f.length := bcI_len f k xs
     have hfit := fit_at h hif
     rw [hk, show k + i = j by omega] at hfit
     have tk : ∀ l : List Int, l.length = f.length → l.take (i + 1) = l.take i ++ [l.getD i 0] := fun l hll => by
      rw [List.take_add_one, List.getElem?_eq_getElem (show i < l.length by omega), List.getD_eq_getElem?_getD, List.getElem?_eq_getElem (show i < l.length by omega)]; rfl
     rw [show j + 1 - k = i + 1 by omega, tk f rfl, tk _ hbl, place_snoc10 (by rw [List.length_take, List.length_take, hbl])]
     rw [hi] at h1 h2
     have hb := bcI_at f k xs hif
     rw [show k + i = j by omega] at hb
     by_cases e : f.getD i 0 = t.getD j 0
     · have hn : ¬ (j : Int) ∈ G := fun hm => ((hg j).1 hm).2 (by rw [ebf, ebt, e])
       rw [if_neg hn, if_neg hn, place_snoc10 (dropL_len xs t G j), h1, hb, e, Int.emod_eq_of_lt hxj.1 hxj.2]
       exact ⟨rfl, by simp; omega⟩
     · have hm : (j : Int) ∈ G := (hg j).2 ⟨by omega, by rw [ebf, ebt]; exact e⟩
       have e1 := hfit.resolve_right e
       rw [if_pos hm, if_pos hm, List.append_nil, List.append_nil, h1, hb, e1, Int.emod_one, Int.mul_one, Int.add_zero]
       exact ⟨rfl, by omega⟩
 obtain ⟨h1, h2⟩ := key t.length (Nat.le_refl _)
 rw [show t.length - k = f.length by omega, List.take_length] at h1
 rw [show (bcI f k xs).take f.length = bcI f k xs from by rw [← bcI_len f k xs, List.take_length]] at h1
 unfold dropS
 rw [hxl, hk]
 exact ⟨h1, by omega⟩
theorem mmF_len (a b c : Nat) (X Y : List Rat) : (mmF a b c X Y).length = a * c := by simp [mmF]
def plusF (t f : List Int) (X Z : List Rat) : List Rat := (List.range (cntF t)).map fun n => X.getD n 0 + elV f Z (bcI f (t.length - f.length) (idxS t (n : Int)))
end
section
open Go.RowKit Go.Shelf
attribute [local go_sem] Oper.semAt_some
theorem grownS_le (f t : List Int) : (grownS f t).length ≤ t.length := by
 have key : ∀ j, (grownL f t j).length ≤ j := fun j => by
  induction j with
  | zero => simp [grownL]
  | succ j ih => simp only [grownL, List.length_append]; split <;> simp <;> omega
 unfold grownS
 split
 · exact key _
 · simp
theorem bcI_in10 {s : List Int} (hp : posS s) (k : Nat) (xs : List Int) : inS s (bcI s k xs) := by
 refine inS_of (bcI_len _ _ _) fun i hi => ?_
 rw [bcI_at s k xs hi]
 have := hp.getD hi
 exact ⟨Int.emod_nonneg _ (by omega), Int.emod_lt_of_pos _ (by omega)⟩
def plusL (t f : List Int) (X Z : List Rat) (k : Nat) : List Rat := (List.range k).map fun n => X.getD n 0 + elV f Z (bcI f (t.length - f.length) (idxS t (n : Int)))
theorem plus_at {t f : List Int} {Z : List Rat} (ok : OkS t) (hf : fitC f t = 0) (hZ : Z.length = cntF f) {n : Nat} (hn : n < cntF t) : toF t (grownS f t) n < Z.length ∧ elV f Z (bcI f (t.length - f.length) (idxS t (n : Int))) = Z.getD (toF t (grownS f t) n) 0 := by
 obtain ⟨okf, _, _⟩ := fitC_is hf
 have hc := ok.cnt
 have hcf := okf.cnt
 have hi := place_idx ok.pos (n := (n : Int)) (by omega) (by omega)
 have hin := bcI_in10 okf.pos (t.length - f.length) (idxS t (n : Int))
 have hp := (place_grown hf hi.1).1
 have hlt := place_range hin
 have e : toF t (grownS f t) n = (placeS f (bcI f (t.length - f.length) (idxS t (n : Int)))).toNat := by unfold toF; rw [hp]
 refine ⟨by rw [e, hZ]; omega, by rw [elV_in hin, e]⟩
theorem plusQ_any {n : Nat} {w : World} {t f : List Int} {X Z : List Rat} {a1 b1 a2 b2 : Option Addr} {ca1 cb1 ca2 cb2 : Nat} (A1 : ArgS w (.slice a1 t.length ca1) t a1 ca1) (na1 : a1 = none → ca1 = 0) (E1 : RowA (fun W v x => ArgQ W v x n) w (.slice b1 X.length cb1) X b1 cb1)
 (A2 : ArgS w (.slice a2 f.length ca2) f a2 ca2) (na2 : a2 = none → ca2 = 0) (E2 : RowA (fun W v x => ArgQ W v x n) w (.slice b2 Z.length cb2) Z b2 cb2) (ok : OkS t) (hX : X.length = cntF t) (hZ : Z.length = cntF f) (hf : fitC f t = 0) (hn : n ≤ 16777000) :
 Calls Tryz.prog 60 #[.agg #[.slice a1 t.length ca1, .slice b1 X.length cb1], .agg #[.slice a2 f.length ca2, .slice b2 Z.length cb2]] w fun e w' => ∃ r, e = .returned r ∧ ResT w.heap.size w' r t (plusF t f X Z) (2 * n + 10) ∧ Below w.heap.size w w' := by
 obtain ⟨i0, hi, hz0, hz1, hz2⟩ := info_parts infoQ
 obtain ⟨okf, _, _⟩ := fitC_is hf
 have hct := ok.cnt
 have hcf := okf.cnt
 have hrk := ok.rank
 have hrf := okf.rank
 have hval := fun (n : Nat) (h : n < cntF t) => plus_at (Z := Z) ok hf hZ h
 have hyl := grownS_le f t
 have hgr := fun (X : World) (h : Below w.heap.size w X) => grownC_any (A2.later h) (A1.later h) na2 na1 (by omega) (by omega)
 have hclo := fun (X : World) (h : Below w.heap.size w X) => cloneS_any (A1.later h) na1 (by omega)
 obtain ⟨ys, hys⟩ : ∃ ys, grownS f t = ys := ⟨_, rfl⟩
 rw [hys] at hval hyl
 simp only [hys] at hgr
 obtain ⟨W, hW⟩ : ∃ W, (((w.alloc (.cells #[.slice a1 t.length ca1, .slice b1 X.length cb1] 26)).alloc (.cells #[.slice a2 f.length ca2, .slice b2 Z.length cb2] 26)).alloc (.cells #[.slice none 0 0, .slice none 0 0] 26)) = W := ⟨_, rfl⟩
 have R0 : Row W (w.heap.size) 26 #[.slice a1 t.length ca1, .slice b1 X.length cb1] := by rw [← hW]; have h := Row.new w 26 #[.slice a1 t.length ca1, .slice b1 X.length cb1]; (try simp only [World.size_alloc] at h); exact ((h.alloc _).alloc _)
 have R1 : Row W (w.heap.size + 1) 26 #[.slice a2 f.length ca2, .slice b2 Z.length cb2] := by rw [← hW]; have h := Row.new (w.alloc (.cells #[.slice a1 t.length ca1, .slice b1 X.length cb1] 26)) 26 #[.slice a2 f.length ca2, .slice b2 Z.length cb2]; (try simp only [World.size_alloc] at h); exact (h.alloc _)
 have R2 : Row W (w.heap.size + 1 + 1) 26 #[.slice none 0 0, .slice none 0 0] := by rw [← hW]; have h := Row.new ((w.alloc (.cells #[.slice a1 t.length ca1, .slice b1 X.length cb1] 26)).alloc (.cells #[.slice a2 f.length ca2, .slice b2 Z.length cb2] 26)) 26 #[.slice none 0 0, .slice none 0 0]; (try simp only [World.size_alloc] at h); exact h
 have hBW : Below w.heap.size w W := by rw [← hW]; exact ((((Below.refl _ _).alloc (by (try simp) <;> omega) _).alloc (by (try simp) <;> omega) _).alloc (by (try simp) <;> omega) _)
 have hsW : W.heap.size = w.heap.size + 1 + 1 + 1 := by rw [← hW]; simp
 obtain ⟨m, hm⟩ : ∃ m, X.length = m := ⟨_, rfl⟩
 obtain ⟨zl, hzl⟩ : ∃ m, Z.length = m := ⟨_, rfl⟩
 have hmk := make_rowP m (by omega)
 have HE1 := Lib.hid E1
 have HE2 := Lib.hid E2
 have HA1 := Lib.hid A1
 have HGR := Lib.hid hgr
 have HCL := Lib.hid hclo
 have HVAL := Lib.hid hval
 have HOK := Lib.hid ok
 have HM := Lib.hid hm
 have HZL := Lib.hid hzl
 have HCT := Lib.hid hct
 have HX := Lib.hid hX
 have hm4 : m ≤ 1024 := by omega
 have hz4 : zl ≤ 1024 := by omega
 rw [hm] at hW R0 ⊢
 rw [hzl] at hW R1 ⊢
 obtain ⟨p0, p1, _, _⟩ := R0.two
 obtain ⟨p2, p3, _, _⟩ := R1.two
 have mkS : ∀ Y, Below W.heap.size W Y → Y.cell? ⟨w.heap.size, 0, none⟩ = some (.slice a1 t.length ca1) ∧ Y.cell? ⟨w.heap.size + 1, 0, none⟩ = some (.slice a2 f.length ca2) ∧ Below W.heap.size W Y := fun Y h => ⟨(h.cell (World.block_lt_of_cell? _ _ p0)).trans p0, (h.cell (World.block_lt_of_cell? _ _ p2)).trans p2, h⟩
 have B0 : Below W.heap.size W W.drew := (Below.refl _ W).drew
 have HR0 := Lib.hid R0
 have HR1 := Lib.hid R1
 have HR2 := Lib.hid R2
 clear E1 E2 A1 A2 hgr hclo hval hm hzl hct hcf hX hZ hf ok okf R0 R1 R2 hys
 go_enter Tryz.func60, Tryz.ntmps60
 (try rw [hW])
 go_wp2_with fail
 (try rw [hW])
 clear hW
 refine wp_region_held_drew (S := fun Y => Y.cell? ⟨w.heap.size, 0, none⟩ = some (.slice a1 t.length ca1) ∧ Y.cell? ⟨w.heap.size + 1, 0, none⟩ = some (.slice a2 f.length ca2) ∧ Below W.heap.size W Y) (by kernel_rfl) (mkS _ B0) (fun hHeld => ?_)
 obtain ⟨y0, hdr⟩ : ∃ Y, W.drew = Y := ⟨_, rfl⟩
 rw [hdr] at B0 hHeld ⊢
 clear hdr
 refine todo [0, 1, 2, 3, 4, 5] ?_
 iterate 6
  refine todoH (v := ?_) rfl (by kernel_rfl) (fun _ _ _ h => h) (by assumption) (Or.inl ⟨by rfl, ?_⟩) ?_
  rotate_left
  · intro w hSw; (try dsimp only at hSw); go_simp; (try with_reducible rfl)
  try simp only [Act.put, nA, nB, nC, nD, nE, nF]
 refine todone ?_
 refine wpAnyH_ready (rs := [6]) (by kernel_rfl) (by simp) ?_
 refine AllReadyH.cons rfl (fun K hK => ?sg_6) AllReadyH.nil
 go_simp
 refine (HGR.out _ (hBW.trans (B0.mono hBW.size))).mono ?_
 rintro e y1 ⟨rg, rfl, RG, hy⟩
 have B1 : Below W.heap.size W y1 := B0.trans (hy.mono B0.size)
 have Dg1 := hy
 clear hy
 obtain ⟨dg, cg, AG, ng⟩ := RG.arg2
 obtain rfl := AG.is
 clear RG
 go_simp
 refine hK.out _ _ (mkS _ B1) (fun hHeld2 => ?mg_6)
 clear hK K hHeld
 have hHeld := hHeld2
 clear hHeld2
 try simp only [Act.put, nA, nB, nC, nD, nE, nF]
 refine wpAnyH_ready (rs := [7]) (by kernel_rfl) (by simp) ?_
 refine AllReadyH.cons rfl (fun K hK => ?sg_7) AllReadyH.nil
 go_simp
 refine (position_any (HA1.out.later (hBW.trans (B1.mono hBW.size))) na1 AG ng (by omega) (by omega)).mono ?_
 rintro e y2 ⟨g1, g2, g3, d, cd, rfl, PC, hy⟩
 have B2 : Below W.heap.size W y2 := B1.trans (hy.mono B1.size)
 have Dg2 := hy
 clear hy
 go_simp
 refine hK.out _ _ (mkS _ B2) (fun hHeld2 => ?mg_7)
 clear hK K hHeld
 have hHeld := hHeld2
 clear hHeld2
 try simp only [Act.put, nA, nB, nC, nD, nE, nF]
 refine todo [8] ?_
 iterate 1
  refine todoH (v := ?_) rfl (by kernel_rfl) (fun _ _ _ h => h) (by assumption) (Or.inl ⟨by rfl, ?_⟩) ?_
  rotate_left
  · intro w hSw; (try dsimp only at hSw); go_simp; (try with_reducible rfl)
  try simp only [Act.put, nA, nB, nC, nD, nE, nF]
 refine todone ?_
 refine wpAnyH_done (by kernel_rfl) ?_ _
 (try dsimp only [Straight])
 have bw2 : Below w.heap.size w y2 := hBW.trans (B2.mono hBW.size)
 have sw2 := bw2.size
 have s1y := B1.size
 have AG2 := AG.later Dg2
 have hPC : PosC w.heap.size y2 t ys a1 dg d ca1 cg cd g1 g2 g3 := ⟨PC.r1, PC.r2, PC.r3, PC.res.mono (by omega), by have := PC.l1; omega, by have := PC.l2; omega, by have := PC.l3; omega⟩
 have HPC := Lib.hid hPC
 have HAG := Lib.hid AG2
 have q0 := HR0.out.later B2
 have q1 := HR1.out.later B2
 have q2 := HR2.out.later B2
 have HQ0 := Lib.hid q0
 have HQ1 := Lib.hid q1
 have HQ2 := Lib.hid q2
 obtain ⟨x0, x1, _, _⟩ := q0.two
 obtain ⟨V, hV⟩ : ∃ V, y2.alloc (.cells (madeCells #[.bool false, .slice none 0 0, .slice none 0 0] (m * 3)) 54) = V := ⟨_, rfl⟩
 have hown0 : OwnE y2.heap.size 54 V (.slice (some ⟨y2.heap.size, 0, none⟩) 0 m) [] := by
  rw [← hV]
  exact World.ownsRow_made y2 _ m (Nat.le_refl _) (by unfold maxLen; omega) (madeP_len _ _)
 have bV : Below y2.heap.size y2 V := by rw [← hV]; exact (Below.refl _ _).alloc (Nat.le_refl _) _
 have HO0 := Lib.hid hown0
 have HBV := Lib.hid bV
 have v0 := q0.later bV
 obtain ⟨x2, x3, _, _⟩ := v0.two
 clear hPC AG AG2 PC q0 q1 q2 hown0 bV mkS p0 p1 p2 p3 v0
 go_wp2_with fail
 (try rw [hV])
 clear hV hmk
 go_loopw [6, 24] (fun v i wr => ∃ (k : Nat), i = .int .i64 (k : Int) ∧ k ≤ m ∧ RowO y2.heap.size 54 (fun W v x => ResQ y2.heap.size W v x (2 * n + 10)) wr v (plusL t f X Z k) ∧ Below y2.heap.size y2 wr) (fun _ i _ => m - (intOf i).toNat)
 case atStart => exact ⟨0, rfl, Nat.zero_le _, ⟨[], HO0.out, AllE.nil _⟩, HBV.out⟩
 case round =>
  obtain ⟨k, rfl, hk, ⟨es, hown, hall⟩, hb⟩ := hrel
  obtain ⟨av, cv, rfl⟩ := ownT_slice hown
  have hsz := hb.size
  have hle : es.length = k := by rw [hall.1]; simp [plusL]
  subst hle
  have hwb : Below w.heap.size w wr := bw2.trans (hb.mono sw2)
  by_cases hlt : es.length < m
  · obtain ⟨hjz, hjv⟩ := HVAL.out es.length (by rw [← HX.out, HM.out]; exact hlt)
    obtain ⟨j, hj⟩ : ∃ j, toF t ys es.length = j := ⟨_, rfl⟩
    rw [hj] at hjz hjv
    obtain ⟨b1, o1, x0, x1, x2, q1, hbo1, hqk1, f0, f1, f2, hr1⟩ := (HE1.out.later hwb (fun _ _ _ h => h.later hwb)).at (i := es.length) (by rw [HM.out]; exact hlt)
    obtain ⟨b2, o2, y0', y1', y2', q2, hbo2, hqk2, g0, g1', g2', hr2⟩ := (HE2.out.later hwb (fun _ _ _ h => h.later hwb)).at (i := j) hjz
    obtain ⟨b2', o2', _, _, _, _, hbo2', _, g0', _, _, _⟩ := HE2.out.at (i := j) hjz
    rw [hbo2] at hbo2'
    obtain ⟨rfl, rfl⟩ : b2 = b2' ∧ o2 = o2' := by simpa using hbo2'
    have lt2 : b2 < w.heap.size := World.block_lt_of_cell? _ _ g0'
    subst hbo1
    subst hbo2
    obtain ⟨m1, u1, l1, j1, u2, l2, j2, e1⟩ := hr1.shape
    simp only [Value.agg.injEq, Array.mk.injEq, List.cons.injEq, and_true] at e1
    obtain ⟨rfl, rfl, rfl⟩ := e1
    obtain ⟨m2, u3, l3, j3, u4, l4, j4, e2⟩ := hr2.shape
    simp only [Value.agg.injEq, Array.mk.injEq, List.cons.injEq, and_true] at e2
    obtain ⟨rfl, rfl, rfl⟩ := e2
    have hval : plusL t f X Z (es.length + 1) = plusL t f X Z es.length ++ [q1 + q2] := by
     unfold plusL
     rw [List.range_succ, List.map_append, List.map_cons, List.map_nil, hjv, List.getD_eq_getElem?_getD, List.getD_eq_getElem?_getD (l := Z), hqk1, hqk2]
     rfl
    have HVL := Lib.hid hval
    have HR1' := Lib.hid hr1
    have HR2' := Lib.hid hr2
    obtain ⟨X1, hX1⟩ : ∃ X, wr.alloc (.cells #[.bool m1, .slice u1 l1 j1, .slice u2 l2 j2] 54) = X := ⟨_, rfl⟩
    have RX : Row X1 wr.heap.size 54 #[.bool m1, .slice u1 l1 j1, .slice u2 l2 j2] := by rw [← hX1]; exact Row.new _ _ _
    have bX : Below wr.heap.size wr X1 := by rw [← hX1]; exact (Below.refl _ _).alloc (Nat.le_refl _) _
    have b2X : Below y2.heap.size y2 X1 := hb.trans (bX.mono hsz)
    have bwX : Below w.heap.size w X1 := hwb.trans (bX.mono hwb.size)
    have hownX := hown.later bX
    have sX := b2X.size
    have sXw := bwX.size
    obtain ⟨r, hrv, hrb, hrne, hrA⟩ := hownX.hits10 sX
    have np := hrA wr.heap.size RX.lt (fun e => by have := (hown.lt _ e).2; omega)
    have n2 : b2 ≠ r := by omega
    have R1X := HQ1.out.later b2X
    have nY : w.heap.size + 1 ≠ r := hrne _ _ _ R1X (by decide)
    obtain ⟨_, c1, _, _⟩ := R1X.two
    obtain ⟨d0, d1, d2, _, _, _⟩ := RX.three
    have h0 := (bX.cell (World.block_lt_of_cell? _ _ g0)).trans g0
    have h1 := (bX.cell (World.block_lt_of_cell? _ _ g1')).trans g1'
    have h2 := (bX.cell (World.block_lt_of_cell? _ _ g2')).trans g2'
    have mkS : ∀ Y, Kept r X1 Y → Y.cell? ⟨w.heap.size + 1, 1, none⟩ = some (.slice (some ⟨b2, o2, none⟩) zl cb2) ∧ (Y.cell? ⟨wr.heap.size, 0, none⟩ = some (.bool m1) ∧ Y.cell? ⟨wr.heap.size, 1, none⟩ = some (.slice u1 l1 j1) ∧ Y.cell? ⟨wr.heap.size, 2, none⟩ = some (.slice u2 l2 j2)) ∧ (Y.cell? ⟨b2, o2 + j * 3, none⟩ = some (.bool m2) ∧ Y.cell? ⟨b2, o2 + j * 3 + 1, none⟩ = some (.slice u3 l3 j3) ∧ Y.cell? ⟨b2, o2 + j * 3 + 2, none⟩ = some (.slice u4 l4 j4)) ∧ Kept r X1 Y := fun Y h => ⟨h.cell c1 nY, ⟨h.cell d0 np, h.cell d1 np, h.cell d2 np⟩, ⟨h.cell h0 n2, h.cell h1 n2, h.cell h2 n2⟩, h⟩
    have K0 : Kept r X1 X1.drew := (Kept.refl r X1).drew
    have hltI : (es.length : Int) < (m : Int) := by omega
    have hjI : (j : Int) < (zl : Int) := by rw [HZL.out] at hjz; omega
    have hj0 : (0 : Int) ≤ (j : Int) := by omega
    have hcl := fun (Y : World) (hY : Below X1.heap.size X1 Y) => by
     have hY2 : Below y2.heap.size y2 Y := b2X.trans (hY.mono sX)
     have pc := HPC.out.later hY2
     obtain ⟨_, hda, hdn⟩ := pc.res.at_
     exact position1_any (n := es.length) (pc.r1.cell 0) (pc.r2.cell 0) (pc.r3.cell 0) (HA1.out.later (bwX.trans (hY.mono sXw))) na1 hda hdn (HAG.out.later hY2) ng HOK.out (by rw [← HX.out, HM.out]; exact hlt) (by omega)
    rw [hj] at hcl
    have HCLO := Lib.hid hcl
    have HALL := Lib.hid hall
    have HOWN := Lib.hid hownX
    clear hval hr1 hr2 hqk1 hqk2 hbo2' g0' hall hown hownX g0 g1' g2' hjv hcl hj
    go_wp2_with fail
    (try rw [hX1])
    clear hX1 f0 f1 f2
    refine wp_region_held_drew (S := fun Y => Y.cell? ⟨w.heap.size + 1, 1, none⟩ = some (.slice (some ⟨b2, o2, none⟩) zl cb2) ∧ (Y.cell? ⟨wr.heap.size, 0, none⟩ = some (.bool m1) ∧ Y.cell? ⟨wr.heap.size, 1, none⟩ = some (.slice u1 l1 j1) ∧ Y.cell? ⟨wr.heap.size, 2, none⟩ = some (.slice u2 l2 j2)) ∧ (Y.cell? ⟨b2, o2 + j * 3, none⟩ = some (.bool m2) ∧ Y.cell? ⟨b2, o2 + j * 3 + 1, none⟩ = some (.slice u3 l3 j3) ∧ Y.cell? ⟨b2, o2 + j * 3 + 2, none⟩ = some (.slice u4 l4 j4)) ∧ Kept r X1 Y) (by kernel_rfl) (mkS _ K0) (fun hHeld => ?_)
    obtain ⟨z0, hdr⟩ : ∃ Y, X1.drew = Y := ⟨_, rfl⟩
    have C0 : Below X1.heap.size X1 z0 := by rw [← hdr]; exact (Below.refl _ _).drew
    rw [hdr] at K0 hHeld ⊢
    clear hdr
    refine todo [0, 1, 2, 3, 4, 5] ?_
    iterate 6
     refine todoH (v := ?_) rfl (by kernel_rfl) (fun _ _ _ h => h) (by assumption) (Or.inl ⟨by rfl, ?_⟩) ?_
     rotate_left
     · intro w hSw; (try dsimp only at hSw); go_simp; (try with_reducible rfl)
     try simp only [Act.put, nA, nB, nC, nD, nE, nF]
    refine todone ?_
    refine wpAnyH_ready (rs := [6]) (by kernel_rfl) (by simp) ?_
    refine AllReadyH.cons rfl (fun K hK => ?sk_6) AllReadyH.nil
    go_simp
    refine (HCLO.out _ C0).mono ?_
    rintro e z1 ⟨rfl, hy⟩
    have K1 := K0.below hy
    have C1 : Below X1.heap.size X1 z1 := C0.trans (hy.mono C0.size)
    go_simp
    refine hK.out _ _ (mkS _ K1) (fun hHeld2 => ?mk_6)
    clear hK K hHeld
    have hHeld := hHeld2
    clear hHeld2
    try simp only [Act.put, nA, nB, nC, nD, nE, nF]
    refine todo [7, 8] ?_
    iterate 2
     refine todoH (v := ?_) rfl (by kernel_rfl) (fun _ _ _ h => h) (by assumption) (Or.inl ⟨by rfl, ?_⟩) ?_
     rotate_left
     · intro w hSw; (try dsimp only at hSw); go_simp; (try with_reducible rfl)
     try simp only [Act.put, nA, nB, nC, nD, nE, nF]
    refine todone ?_
    refine wpAnyH_ready (rs := [9]) (by kernel_rfl) (by simp) ?_
    refine AllReadyH.cons rfl (fun K hK => ?sk_9) AllReadyH.nil
    go_simp
    refine (addQ_any (n := n) (HR1'.out.later (bX.trans (C1.mono bX.size))) (HR2'.out.later (bX.trans (C1.mono bX.size))) hn).mono ?_
    rintro e z2 ⟨rv, rfl, qv, hy2⟩
    have K2 := K1.below hy2
    have C2 : Below X1.heap.size X1 z2 := C1.trans (hy2.mono C1.size)
    have hBw : Below y2.heap.size y2 z2 := b2X.trans (C2.mono sX)
    have sw5 := hBw.size
    have Q5 := Lib.hid (qv.mono (show y2.heap.size ≤ z1.heap.size from Nat.le_trans sX C1.size))
    obtain ⟨m5, j5, j6, j7, j8, j9, k1, rfl⟩ := qv.shape
    clear qv hy2
    have hownY := HOWN.out.later C2
    have hallY : AllE (fun v x => ResQ y2.heap.size z2 v x (2 * n + 10)) es (plusL t f X Z es.length) := HALL.out.imp fun u x _ h => h.later (bX.trans (C2.mono bX.size))
    go_simp
    refine hK.out _ _ (mkS _ K2) (fun hHeld2 => ?mk_9)
    clear hK K hHeld
    have hHeld := hHeld2
    clear hHeld2
    try simp only [Act.put, nA, nB, nC, nD, nE, nF]
    refine wpAnyH_ready (rs := [10]) (by kernel_rfl) (by simp) ?_
    refine AllReadyH.cons rfl (fun K hK => ?sk_10) AllReadyH.nil
    go_simp
    refine hK.out _ _ (mkS _ (K2.alloc _)) (fun hHeld2 => ?mk_10)
    clear hK K hHeld
    have hHeld := hHeld2
    clear hHeld2
    try simp only [Act.put, nA, nB, nC, nD, nE, nF]
    refine wpAnyH_ready (rs := [11]) (by kernel_rfl) (by simp) ?_
    refine AllReadyH.cons rfl (fun K hK => ?sk_11) AllReadyH.nil
    refine step_append_lies _ rfl _ _ 24 rfl y2.heap.size 54 i0 _ 3 56 Tryz.underlying24 hi hz0 hz1 hz2 rfl (by decide) _ es.length (flat3 es) rfl (hownY.later ((Below.refl _ _).alloc (Nat.le_refl _) _)) ⟨z2.heap.size, 0, none⟩ 1 1 [.bool m5, .slice j5 j6 j7, .slice j8 j9 k1] rfl rfl (cell_three_new _ _ _ _ _) (by simp [Value.oneCell']) (by omega) (by unfold maxLen; omega) (by omega) (by simp; omega) _ rfl ?_
    intro g cp w7 hown' hgrow hg' hlt'
    have K7 := (K2.alloc _).grown hgrow hrv
    refine hK.out _ _ (mkS _ K7) (fun hHeld2 => ?mk_11)
    clear hK K hHeld
    have hHeld := hHeld2
    clear hHeld2
    try simp only [Act.put, nA, nB, nC, nD, nE, nF]
    refine todo [12] ?_
    iterate 1
     refine todoH (v := ?_) rfl (by kernel_rfl) (fun _ _ _ h => h) (by assumption) (Or.inl ⟨by rfl, ?_⟩) ?_
     rotate_left
     · intro w hSw; (try dsimp only at hSw); go_simp; (try with_reducible rfl)
     try simp only [Act.put, nA, nB, nC, nD, nE, nF]
    refine todone ?_
    refine wpAnyH_done (by kernel_rfl) ?_ _
    (try dsimp only [Straight])
    go_wp2
    go_roundw
    case rel =>
     obtain ⟨hrow8, hb8⟩ := pushE (P := fun W v x => ResQ y2.heap.size W v x (2 * n + 10)) (o := .cells #[.bool m5, .slice j5 j6 j7, .slice j8 j9 k1] 54) (e := ⟨.bool m5, .slice j5 j6 j7, .slice j8 j9 k1⟩) hBw sw5 hownY hallY Q5.out (fun u y h => ResQ.apart hownY hgrow (by decide) h) hown' hgrow
     refine ⟨es.length + 1, by go_num, by omega, ?_, hb8⟩
     rw [HVL.out]
     exact hrow8
    case measure => simp [intOf]; omega
  · have hkl : es.length = m := by omega
    have hltI : ¬ (es.length : Int) < (m : Int) := by omega
    have hpl : plusL t f X Z es.length = plusF t f X Z := by unfold plusL plusF; rw [hkl, ← HM.out, HX.out]
    have hrow : RowO w.heap.size 54 (fun W v x => ResQ w.heap.size W v x (2 * n + 10)) wr (.slice av es.length cv) (plusF t f X Z) := RowO.mono (P := fun W v x => ResQ y2.heap.size W v x (2 * n + 10)) ⟨es, hown, by rw [← hpl]; exact hall⟩ sw2 (fun _ _ h => h.mono sw2)
    have hlen : (plusF t f X Z).length = es.length := by rw [← hpl]; simp [plusL]
    have HROW := Lib.hid hrow
    have HLEN := Lib.hid hlen
    have hc := HCL.out wr hwb
    have P0 := HQ0.out.below hb (by have := hsW; have := B2.size; omega)
    have P2 := HQ2.out.below hb (by have := hsW; have := B2.size; omega)
    obtain ⟨z0, z1, _, _⟩ := P0.two
    clear hown hall hkl hrow hpl hlen hlt
    go_wp2_with fail
    refine hc.mono ?_
    rintro e w9 ⟨r9, rfl, RS9, hb9⟩
    obtain ⟨ad9, cp9, rfl, RS9', _, _⟩ := RS9.slice
    have HRS := Lib.hid RS9'
    have P29 := P2.later hb9
    obtain ⟨t0, t1, t2, t3⟩ := P29.two
    have hrow9 := HROW.out.later hb9 (fun _ _ h => h.later hb9)
    have HR9 := Lib.hid hrow9
    have hb9w : Below w.heap.size w w9 := hwb.trans (hb9.mono hwb.size)
    clear RS9 RS9' hrow9
    go_wp2_with fail
    have P3 := P29.set2 (.slice ad9 t.length cp9) (.slice av es.length cv)
    obtain ⟨k0, k1, _, _⟩ := P3.two
    refine bodyPost_ret (v := .agg #[.slice ad9 t.length cp9, .slice av es.length cv]) (by simp [results, Tryz.results60, go_sem, k0, k1]) rfl ⟨_, rfl, ?_, below_set2 hb9w (by omega) _ _⟩
    have hR : ResT w.heap.size w9 (.agg #[.slice ad9 t.length cp9, .slice av es.length cv]) t (plusF t f X Z) (2 * n + 10) := ⟨ad9, av, cp9, cv, by rw [HLEN.out], HRS.out.mono hwb.size, by have h := HR9.out; rw [HLEN.out]; exact h⟩
    exact hR.far P29 (by decide) (by decide) (by decide) (kept2 _ _)
end
section
open Go.RowKit
theorem orL_zero4 {x y z u : Int} (h : orL [x, y, z, u] = 0) : x = 0 ∧ y = 0 ∧ z = 0 ∧ u = 0 := by
 unfold orL at h
 split at h
 · rename_i h1
   exact ⟨h1, orL_zero3 h⟩
 · rename_i h1; exact absurd h h1
theorem ArgQ.more10 {w : World} {v : Value} {x : Rat} {n m : Nat} (h : ArgQ w v x n) (hm : n ≤ m) : ArgQ w v x m := by
 obtain ⟨neg, xs, ys, ad, bd, ca, cb, rfl, A, B, e, h1, h2⟩ := h
 exact ⟨neg, xs, ys, ad, bd, ca, cb, rfl, A, B, e, by omega, by omega⟩
def gemC (s t f : List Int) (q1 q2 q3 : List Q3) : Int := if orL [mayT s q1, mayT t q2, mayT f q3, mmC s t] = 0 then fitC f (mmS s t) else orL [mayT s q1, mayT t q2, mayT f q3, mmC s t]
theorem gemm_any (kb : Nat) {n : Nat} {w : World} {u v z : Value} {s t f : List Int} {q1 q2 q3 : List Q3} {a1 b1 a2 b2 a3 b3 : Option Addr} {ca1 cb1 ca2 cb2 ca3 cb3 : Nat} (T1 : TensQ w u s q1 a1 ca1 b1 cb1) (T2 : TensQ w v t q2 a2 ca2 b2 cb2) (T3 : TensQ w z f q3 a3 ca3 b3 cb3) (hs : s.length ≤ 17592186044416) (ht : t.length ≤ 17592186044416) (hf : f.length ≤ 17592186044416) (hl1 : lensQ q1 n) (hl2 : lensQ q2 n) (hl3 : lensQ q3 n) (hn : (2 * n + 4 + 10) * 2 ^ kb ≤ 16000000) (hkb : q1.length ≤ 2 ^ kb) (hq1 : q1.length ≤ 1000000) (hq2 : q2.length ≤ 1000000) (hq3 : q3.length ≤ 1000000) (hn4 : n ≤ 4000000) :
 Calls Tryz.prog 23 #[u, v, z] w fun e w' => One w.heap.size w' e (gemC s t f q1 q2 q3) (mmS s t) (plusF (mmS s t) f (mmV s t (q1.map Q3.rat) (q2.map Q3.rat)) (q3.map Q3.rat)) (2 * ((2 * n + 4 + 10) * 2 ^ kb) + 10) ∧ Below w.heap.size w w' := by
 have HT1 := Lib.hid T1
 have HT2 := Lib.hid T2
 have HT3 := Lib.hid T3
 have HL1 := Lib.hid hl1
 have HL2 := Lib.hid hl2
 have HL3 := Lib.hid hl3
 obtain rfl := T1.is
 obtain rfl := T2.is
 obtain rfl := T3.is
 obtain ⟨W, hW⟩ : ∃ W, ((((w.alloc (.cells #[.slice a1 s.length ca1, .slice b1 q1.length cb1] 26)).alloc (.cells #[.slice a2 t.length ca2, .slice b2 q2.length cb2] 26)).alloc (.cells #[.slice a3 f.length ca3, .slice b3 q3.length cb3] 26)).alloc (.cells #[.slice none 0 0, .slice none 0 0] 26)) = W := ⟨_, rfl⟩
 have R0 : Row W (w.heap.size) 26 #[.slice a1 s.length ca1, .slice b1 q1.length cb1] := by rw [← hW]; have h := Row.new w 26 #[.slice a1 s.length ca1, .slice b1 q1.length cb1]; (try simp only [World.size_alloc] at h); exact (((h.alloc _).alloc _).alloc _)
 have R1 : Row W (w.heap.size + 1) 26 #[.slice a2 t.length ca2, .slice b2 q2.length cb2] := by rw [← hW]; have h := Row.new (w.alloc (.cells #[.slice a1 s.length ca1, .slice b1 q1.length cb1] 26)) 26 #[.slice a2 t.length ca2, .slice b2 q2.length cb2]; (try simp only [World.size_alloc] at h); exact ((h.alloc _).alloc _)
 have R2 : Row W (w.heap.size + 1 + 1) 26 #[.slice a3 f.length ca3, .slice b3 q3.length cb3] := by rw [← hW]; have h := Row.new ((w.alloc (.cells #[.slice a1 s.length ca1, .slice b1 q1.length cb1] 26)).alloc (.cells #[.slice a2 t.length ca2, .slice b2 q2.length cb2] 26)) 26 #[.slice a3 f.length ca3, .slice b3 q3.length cb3]; (try simp only [World.size_alloc] at h); exact (h.alloc _)
 have R3 : Row W (w.heap.size + 1 + 1 + 1) 26 #[.slice none 0 0, .slice none 0 0] := by rw [← hW]; have h := Row.new (((w.alloc (.cells #[.slice a1 s.length ca1, .slice b1 q1.length cb1] 26)).alloc (.cells #[.slice a2 t.length ca2, .slice b2 q2.length cb2] 26)).alloc (.cells #[.slice a3 f.length ca3, .slice b3 q3.length cb3] 26)) 26 #[.slice none 0 0, .slice none 0 0]; (try simp only [World.size_alloc] at h); exact h
 have hBW : Below w.heap.size w W := by rw [← hW]; exact (((((Below.refl _ _).alloc (by (try simp) <;> omega) _).alloc (by (try simp) <;> omega) _).alloc (by (try simp) <;> omega) _).alloc (by (try simp) <;> omega) _)
 have hsW : W.heap.size = w.heap.size + 1 + 1 + 1 + 1 := by rw [← hW]; simp
 have hm1 := fun (X : World) (hX : Below W.heap.size W X) => mayT7_big (HT1.out.later (hBW.trans (hX.mono (by omega)))) (by omega) HL1.out (by omega)
 have hm2 := fun (X : World) (hX : Below W.heap.size W X) => mayT7_big (HT2.out.later (hBW.trans (hX.mono (by omega)))) (by omega) HL2.out (by omega)
 have hm3 := fun (X : World) (hX : Below W.heap.size W X) => mayT7_big (HT3.out.later (hBW.trans (hX.mono (by omega)))) (by omega) HL3.out (by omega)
 have hp := fun (X : World) (hX : Below W.heap.size W X) => mayProduct_any (HT1.out.sh.later (hBW.trans (hX.mono (by omega)))) (HT2.out.sh.later (hBW.trans (hX.mono (by omega)))) hs ht
 have hpr := fun (X : World) (hX : Below w.heap.size w X) (h1 : mayT s q1 = 0) (h2 : mayT t q2 = 0) (h3 : mmC s t = 0) => productT_any kb (HT1.out.later hX) (HT2.out.later hX) h1 h2 h3 HL1.out HL2.out hn hkb hn4
 have hpp9 := fun (h1 : mayT s q1 = 0) (h2 : mayT t q2 = 0) (h3 : mmC s t = 0) => mm_parts h1 h2 h3
 unfold gemC
 obtain ⟨m1, hmm1⟩ : ∃ m, mayT s q1 = m := ⟨_, rfl⟩
 obtain ⟨m2, hmm2⟩ : ∃ m, mayT t q2 = m := ⟨_, rfl⟩
 obtain ⟨m3, hmm3⟩ : ∃ m, mayT f q3 = m := ⟨_, rfl⟩
 obtain ⟨p, hpp⟩ : ∃ p, mmC s t = p := ⟨_, rfl⟩
 rw [hmm1] at hm1
 rw [hmm2] at hm2
 rw [hmm3] at hm3
 rw [hpp] at hp
 obtain ⟨BB, hBB⟩ : ∃ BB, (2 * n + 4 + 10) * 2 ^ kb = BB := ⟨_, rfl⟩
 have hnB : n ≤ BB := by rw [← hBB]; have := Nat.le_mul_of_pos_right (2 * n + 4 + 10) (show 0 < 2 ^ kb from Nat.two_pow_pos kb); omega
 obtain ⟨L, hL⟩ : ∃ L, mmV s t (q1.map Q3.rat) (q2.map Q3.rat) = L := ⟨_, rfl⟩
 obtain ⟨tt, htt⟩ : ∃ t', mmS s t = t' := ⟨_, rfl⟩
 rw [hBB, hmm1, hmm2, hpp, hL, htt] at hpr
 rw [hmm1, hmm2, hpp] at hpp9
 rw [hmm1, hmm2, hmm3, hpp, hL, hBB, htt]
 obtain ⟨c, hc⟩ : ∃ c, orL [m1, m2, m3, p] = c := ⟨_, rfl⟩
 have HC := Lib.hid hc
 have HPR := Lib.hid hpr
 have HPP := Lib.hid hpp9
 have HM3 := Lib.hid hmm3
 have HTT := Lib.hid htt
 have HLL := Lib.hid hL
 rw [hc]
 obtain ⟨g, hg⟩ : ∃ g, (if c = 0 then fitC f tt else c) = g := ⟨_, rfl⟩
 rw [hg]
 have HG := Lib.hid hg
 clear hg
 obtain ⟨Z, hZ⟩ : ∃ Z, q3.map Q3.rat = Z := ⟨_, rfl⟩
 have HZ := Lib.hid hZ
 rw [hZ]
 rw [hBB] at hn
 have mkS : ∀ X, Below W.heap.size W X → X.cell? ⟨w.heap.size, 0, none⟩ = some (.slice a1 s.length ca1) ∧ X.cell? ⟨w.heap.size, 1, none⟩ = some (.slice b1 q1.length cb1) ∧ X.cell? ⟨w.heap.size + 1, 0, none⟩ = some (.slice a2 t.length ca2) ∧ X.cell? ⟨w.heap.size + 1, 1, none⟩ = some (.slice b2 q2.length cb2) ∧ X.cell? ⟨w.heap.size + 1 + 1, 0, none⟩ = some (.slice a3 f.length ca3) ∧ X.cell? ⟨w.heap.size + 1 + 1, 1, none⟩ = some (.slice b3 q3.length cb3) ∧ Below W.heap.size W X := fun X h => by
  obtain ⟨x0, x1, _⟩ := (R0.later h).two
  obtain ⟨x2, x3, _⟩ := (R1.later h).two
  obtain ⟨x4, x5, _⟩ := (R2.later h).two
  exact ⟨x0, x1, x2, x3, x4, x5, h⟩
 have B0 : Below W.heap.size W W.drew := (Below.refl _ W).drew
 clear T1 T2 T3 hmm1 hmm2 hmm3 hpp hpp9 hL hc hl1 hl2 hl3 htt hBB hkb hpr hZ
 go_enter Tryz.func23, Tryz.ntmps23
 go_wp2_with fail
 (try rw [hW])
 clear hW
 refine wp_region_held (S := fun X => X.cell? ⟨w.heap.size, 0, none⟩ = some (.slice a1 s.length ca1) ∧ X.cell? ⟨w.heap.size, 1, none⟩ = some (.slice b1 q1.length cb1) ∧ X.cell? ⟨w.heap.size + 1, 0, none⟩ = some (.slice a2 t.length ca2) ∧ X.cell? ⟨w.heap.size + 1, 1, none⟩ = some (.slice b2 q2.length cb2) ∧ X.cell? ⟨w.heap.size + 1 + 1, 0, none⟩ = some (.slice a3 f.length ca3) ∧ X.cell? ⟨w.heap.size + 1 + 1, 1, none⟩ = some (.slice b3 q3.length cb3) ∧ Below W.heap.size W X) (by kernel_rfl) ?_
 have hHeld := mkS _ B0
 refine todo [0, 2, 4, 6, 7, 8, 9] ?_
 iterate 7
  refine todoH (v := ?_) rfl (by kernel_rfl) (fun _ _ _ h => h) (by assumption) (Or.inl ⟨by rfl, ?_⟩) ?_
  rotate_left
  · intro w hSw; (try dsimp only at hSw); go_simp; (try with_reducible rfl)
  try simp only [Act.put, nA, nB, nC, nD, nE, nF]
 refine todone ?_
 refine wpAnyH_ready (rs := [1]) (by kernel_rfl) (by simp) ?_
 refine AllReadyH.cons rfl (fun K hK => ?sh_1) AllReadyH.nil
 go_simp
 refine (hm1 _ B0).mono ?_
 rintro e y1 ⟨rfl, hy⟩
 have B1 : Below W.heap.size W y1 := B0.trans (hy.mono B0.size)
 have Dh1 := hy
 clear hy
 go_simp
 refine hK.out _ _ (mkS _ B1) (fun hHeld2 => ?mh_1)
 clear hK K hHeld
 have hHeld := hHeld2
 clear hHeld2
 try simp only [Act.put, nA, nB, nC, nD, nE, nF]
 refine wpAnyH_ready (rs := [3]) (by kernel_rfl) (by simp) ?_
 refine AllReadyH.cons rfl (fun K hK => ?sh_3) AllReadyH.nil
 go_simp
 refine (hm2 _ B1).mono ?_
 rintro e y2 ⟨rfl, hy⟩
 have B2 : Below W.heap.size W y2 := B1.trans (hy.mono B1.size)
 have Dh2 := hy
 clear hy
 go_simp
 refine hK.out _ _ (mkS _ B2) (fun hHeld2 => ?mh_3)
 clear hK K hHeld
 have hHeld := hHeld2
 clear hHeld2
 try simp only [Act.put, nA, nB, nC, nD, nE, nF]
 refine wpAnyH_ready (rs := [5]) (by kernel_rfl) (by simp) ?_
 refine AllReadyH.cons rfl (fun K hK => ?sh_5) AllReadyH.nil
 go_simp
 refine (hm3 _ B2).mono ?_
 rintro e y3 ⟨rfl, hy⟩
 have B3 : Below W.heap.size W y3 := B2.trans (hy.mono B2.size)
 have Dh3 := hy
 clear hy
 go_simp
 refine hK.out _ _ (mkS _ B3) (fun hHeld2 => ?mh_5)
 clear hK K hHeld
 have hHeld := hHeld2
 clear hHeld2
 try simp only [Act.put, nA, nB, nC, nD, nE, nF]
 refine wpAnyH_ready (rs := [10]) (by kernel_rfl) (by simp) ?_
 refine AllReadyH.cons rfl (fun K hK => ?sh_10) AllReadyH.nil
 go_simp
 refine (hp _ B3).mono ?_
 rintro e y4 ⟨rfl, hy⟩
 have B4 : Below W.heap.size W y4 := B3.trans (hy.mono B3.size)
 have Dh4 := hy
 clear hy
 go_simp
 refine hK.out _ _ (mkS _ B4) (fun hHeld2 => ?mh_10)
 clear hK K hHeld
 have hHeld := hHeld2
 clear hHeld2
 try simp only [Act.put, nA, nB, nC, nD, nE, nF]
 obtain ⟨y5, hh5⟩ : ∃ Y, y4.alloc (.cells #[.int .i64 m1, .int .i64 m2, .int .i64 m3, .int .i64 p] 29) = Y := ⟨_, rfl⟩
 have B5 : Below W.heap.size W y5 := by rw [← hh5]; exact B4.alloc B4.size _
 have Rh5 : Row y5 y4.heap.size 29 #[.int .i64 m1, .int .i64 m2, .int .i64 m3, .int .i64 p] := by rw [← hh5]; exact Row.new _ _ _
 refine wpAnyH_ready (rs := [11]) (by kernel_rfl) (by simp) ?_
 refine AllReadyH.cons rfl (fun K hK => ?sh_11) AllReadyH.nil
 go_simp
 (try rw [hh5])
 clear hh5
 refine hK.out _ _ (mkS _ B5) (fun hHeld2 => ?mh_11)
 clear hK K hHeld
 have hHeld := hHeld2
 clear hHeld2
 try simp only [Act.put, nA, nB, nC, nD, nE, nF]
 refine wpAnyH_ready (rs := [12]) (by kernel_rfl) (by simp) ?_
 refine AllReadyH.cons rfl (fun K hK => ?sh_12) AllReadyH.nil
 go_simp
 refine (or_any (xs := [m1, m2, m3, p]) (b := y4.heap.size) (fun k hk => by
  simp only [List.length_cons, List.length_nil] at hk
  by_cases h0 : k = 0
  · subst h0; exact Rh5.cell 0
  by_cases h1 : k = 1
  · subst h1; exact Rh5.cell 1
  by_cases h2 : k = 2
  · subst h2; exact Rh5.cell 2
  by_cases h3 : k = 3
  · subst h3; exact Rh5.cell 3
  omega) (by simp)).mono ?_
 rintro e yy ⟨rfl, rfl⟩
 go_simp
 rw [HC.out]
 refine hK.out _ _ (mkS _ B5) (fun hHeld2 => ?mh_12)
 clear hK K hHeld
 have hHeld := hHeld2
 clear hHeld2
 try simp only [Act.put, nA, nB, nC, nD, nE, nF]
 refine todo [13] ?_
 iterate 1
  refine todoH (v := ?_) rfl (by kernel_rfl) (fun _ _ _ h => h) (by assumption) (Or.inl ⟨by rfl, ?_⟩) ?_
  rotate_left
  · intro w hSw; (try dsimp only at hSw); go_simp; (try with_reducible rfl)
  try simp only [Act.put, nA, nB, nC, nD, nE, nF]
 refine todone ?_
 refine wpAnyH_done (by kernel_rfl) ?_ _
 (try dsimp only [Straight])
 have P3' := R3.later B5
 obtain ⟨x0, x1, x2, x3, x4, x5, _⟩ := mkS _ B5
 have s2 := B5.size
 have hB2 : Below w.heap.size w y5 := hBW.trans (B5.mono (by omega))
 by_cases h0 : c = 0
 · subst h0
   have hgf : fitC f tt = g := by have h := HG.out; rw [if_pos rfl] at h; exact h
   obtain ⟨k1, k2, k3, k4⟩ := orL_zero4 HC.out
   obtain ⟨l1, l2, okt, hLl⟩ : 1 ≤ s.length ∧ 2 ≤ t.length ∧ OkS tt ∧ L.length = cntF tt := by
    obtain ⟨R, b, C, e5, e6, hR, hb, hC, e1, e2, m1', m2', m3', ok3⟩ := HPP.out k1 k2 k4
    have e7 : tt = [(R : Int), (C : Int)] := by rw [← HTT.out, e5, e6]; rfl
    rw [e7]
    refine ⟨by rw [e5]; simp, by rw [e6]; simp, ok3, ?_⟩
    rw [← HLL.out, e5, e6]
    have hc := ok3.cnt
    have e8 : (cntF [(R : Int), (C : Int)] : Int) = ((R * C : Nat) : Int) := by rw [hc.1]; simp [prodS]
    have e9 : (mmV [(R : Int), (b : Int)] [(b : Int), (C : Int)] (q1.map Q3.rat) (q2.map Q3.rat)).length = R * C := by simp [mmV, mmF]
    omega
   have hrk := okt.rank
   have hsh := fun (X : World) (hX : Below w.heap.size w X) => by
    have h := shapeM_any (HT1.out.sh.later hX) (HT2.out.sh.later hX) l1 l2
    rw [HTT.out] at h
    exact h
   have hea := HPR.out
   have HPR2 := Lib.hid (fun (X : World) (hX : Below w.heap.size w X) => hea X hX k1 k2 k4)
   have HK3 := Lib.hid (HM3.out.trans k3)
   have HGF := Lib.hid hgf
   have mkT : ∀ X, Below y5.heap.size y5 X → X.cell? ⟨w.heap.size, 0, none⟩ = some (.slice a1 s.length ca1) ∧ X.cell? ⟨w.heap.size, 1, none⟩ = some (.slice b1 q1.length cb1) ∧ X.cell? ⟨w.heap.size + 1, 0, none⟩ = some (.slice a2 t.length ca2) ∧ X.cell? ⟨w.heap.size + 1, 1, none⟩ = some (.slice b2 q2.length cb2) ∧ X.cell? ⟨w.heap.size + 1 + 1, 0, none⟩ = some (.slice a3 f.length ca3) ∧ X.cell? ⟨w.heap.size + 1 + 1, 1, none⟩ = some (.slice b3 q3.length cb3) ∧ Below y5.heap.size y5 X := fun X h => by
    obtain ⟨x0, x1, x2, x3, x4, x5, _⟩ := mkS _ (B5.trans (h.mono B5.size))
    exact ⟨x0, x1, x2, x3, x4, x5, h⟩
   have D0 : Below y5.heap.size y5 y5.drew := (Below.refl _ y5).drew
   clear hea k1 k2 k3 k4 mkS hgf
   go_wp2_with fail
   refine wp_region_held (S := fun X => X.cell? ⟨w.heap.size, 0, none⟩ = some (.slice a1 s.length ca1) ∧ X.cell? ⟨w.heap.size, 1, none⟩ = some (.slice b1 q1.length cb1) ∧ X.cell? ⟨w.heap.size + 1, 0, none⟩ = some (.slice a2 t.length ca2) ∧ X.cell? ⟨w.heap.size + 1, 1, none⟩ = some (.slice b2 q2.length cb2) ∧ X.cell? ⟨w.heap.size + 1 + 1, 0, none⟩ = some (.slice a3 f.length ca3) ∧ X.cell? ⟨w.heap.size + 1 + 1, 1, none⟩ = some (.slice b3 q3.length cb3) ∧ Below y5.heap.size y5 X) (by kernel_rfl) ?_
   have hHeld := mkT _ D0
   refine todo [0, 1, 2, 3, 4, 5] ?_
   iterate 6
    refine todoH (v := ?_) rfl (by kernel_rfl) (fun _ _ _ h => h) (by assumption) (Or.inl ⟨by rfl, ?_⟩) ?_
    rotate_left
    · intro w hSw; (try dsimp only at hSw); go_simp; (try with_reducible rfl)
    try simp only [Act.put, nA, nB, nC, nD, nE, nF]
   refine todone ?_
   refine wpAnyH_ready (rs := [6]) (by kernel_rfl) (by simp) ?_
   refine AllReadyH.cons rfl (fun K hK => ?sr_6) AllReadyH.nil
   go_simp
   refine (hsh _ (hB2.trans (D0.mono hB2.size))).mono ?_
   rintro e z1 ⟨rs, rfl, RS, hy⟩
   have D1 : Below y5.heap.size y5 z1 := D0.trans (hy.mono D0.size)
   have Dr1 := hy
   clear hy
   obtain ⟨ds, cs, AS, ns⟩ := RS.arg2
   obtain rfl := AS.is
   clear RS
   go_simp
   refine hK.out _ _ (mkT _ D1) (fun hHeld2 => ?mr_6)
   clear hK K hHeld
   have hHeld := hHeld2
   clear hHeld2
   try simp only [Act.put, nA, nB, nC, nD, nE, nF]
   refine wpAnyH_ready (rs := [7]) (by kernel_rfl) (by simp) ?_
   refine AllReadyH.cons rfl (fun K hK => ?sr_7) AllReadyH.nil
   go_simp
   refine (fitsS_any (HT3.out.sh.later (hB2.trans (D1.mono hB2.size))) AS HT3.out.nila ns hf (by omega)).mono ?_
   rintro e z2 ⟨rfl, hy⟩
   have D2 : Below y5.heap.size y5 z2 := D1.trans (hy.mono D1.size)
   have Dr2 := hy
   clear hy
   rw [HGF.out]
   go_simp
   refine hK.out _ _ (mkT _ D2) (fun hHeld2 => ?mr_7)
   clear hK K hHeld
   have hHeld := hHeld2
   clear hHeld2
   try simp only [Act.put, nA, nB, nC, nD, nE, nF]
   refine todo [8] ?_
   iterate 1
    refine todoH (v := ?_) rfl (by kernel_rfl) (fun _ _ _ h => h) (by assumption) (Or.inl ⟨by rfl, ?_⟩) ?_
    rotate_left
    · intro w hSw; (try dsimp only at hSw); go_simp; (try with_reducible rfl)
    try simp only [Act.put, nA, nB, nC, nD, nE, nF]
   refine todone ?_
   refine wpAnyH_done (by kernel_rfl) ?_ _
   (try dsimp only [Straight])
   have Q3' := P3'.later D2
   have hB3 : Below w.heap.size w z2 := hB2.trans (D2.mono hB2.size)
   obtain ⟨x0', x1', x2', x3', x4', x5', _⟩ := mkT _ D2
   have s3 := D2.size
   clear x0 x1 x2 x3 x4 x5
   by_cases hg0 : g = 0
   · subst hg0
     have okf : OkS f := mayC_zero.1 (mayT_rank HK3.out)
     have hzc : q3.length = cntF f := by
      have h := (mayT_valid HK3.out).1
      rw [okf.count] at h
      have := okf.cnt
      omega
     have hZl : Z.length = q3.length := by rw [← HZ.out]; simp
     have mkG : ∀ X, Below z2.heap.size z2 X → X.cell? ⟨w.heap.size, 0, none⟩ = some (.slice a1 s.length ca1) ∧ X.cell? ⟨w.heap.size, 1, none⟩ = some (.slice b1 q1.length cb1) ∧ X.cell? ⟨w.heap.size + 1, 0, none⟩ = some (.slice a2 t.length ca2) ∧ X.cell? ⟨w.heap.size + 1, 1, none⟩ = some (.slice b2 q2.length cb2) ∧ X.cell? ⟨w.heap.size + 1 + 1, 0, none⟩ = some (.slice a3 f.length ca3) ∧ X.cell? ⟨w.heap.size + 1 + 1, 1, none⟩ = some (.slice b3 q3.length cb3) := fun X h => by
      obtain ⟨x0, x1, x2, x3, x4, x5, _⟩ := mkT _ (D2.trans (h.mono D2.size))
      exact ⟨x0, x1, x2, x3, x4, x5⟩
     have E0 : Below z2.heap.size z2 z2.drew := (Below.refl _ z2).drew
     have R0z := (R0.later B5).later D2
     have R1z := (R1.later B5).later D2
     have R2z := (R2.later B5).later D2
     have HZL := Lib.hid hZl
     have HZC := Lib.hid hzc
     have OKF := Lib.hid okf
     have OKT := Lib.hid okt
     have HLL2 := Lib.hid hLl
     clear hzc okf okt hLl hZl mkT x0' x1' x2' x3' x4' x5'
     go_wp2_with fail
     refine wp_region_L (S := fun X => X.cell? ⟨w.heap.size, 0, none⟩ = some (.slice a1 s.length ca1) ∧ X.cell? ⟨w.heap.size, 1, none⟩ = some (.slice b1 q1.length cb1) ∧ X.cell? ⟨w.heap.size + 1, 0, none⟩ = some (.slice a2 t.length ca2) ∧ X.cell? ⟨w.heap.size + 1, 1, none⟩ = some (.slice b2 q2.length cb2) ∧ X.cell? ⟨w.heap.size + 1 + 1, 0, none⟩ = some (.slice a3 f.length ca3) ∧ X.cell? ⟨w.heap.size + 1 + 1, 1, none⟩ = some (.slice b3 q3.length cb3)) (z := 6) (by kernel_rfl) (mkG _ E0) (fun hHeld => ?_)
     refine todo [0, 1, 3] ?_
     iterate 3
      refine todoL (v := ?_) rfl (by kernel_rfl) (fun _ _ _ h => h) (by assumption) (Or.inl ⟨by rfl, ?_⟩) ?_
      rotate_left
      · intro w hSw; (try dsimp only at hSw); go_simp; (try with_reducible rfl)
      try simp only [Act.put, nA, nB, nC, nD, nE, nF]
     refine todone ?_
     refine wpAnyL_one (i := 2) (by kernel_rfl) rfl (fun K hK => ?sbg_2)
     go_simp
     refine (HPR2.out _ (hB3.trans (E0.mono hB3.size))).mono ?_
     rintro e v1 ⟨r1, rfl, hT1, hb1⟩
     have E1 : Below z2.heap.size z2 v1 := E0.trans (hb1.mono (by simp))
     have F1 : Below w.heap.size w v1 := hB3.trans (E1.mono hB3.size)
     obtain ⟨a', b', ca', cb', rfl, RS, RO⟩ := hT1
     obtain ⟨_, AS', ns'⟩ := RS.at_
     obtain ⟨_, RA, _⟩ := RO.at_
     go_simp
     refine hK.out _ _ (fun _ => mkG _ E1) (fun hHeld2 => ?mbg_2)
     clear hK K hHeld
     have hHeld := hHeld2 (by decide)
     clear hHeld2
     try simp only [Act.put, nA, nB, nC, nD, nE, nF]
     have EA : RowA (fun Y v x => ArgQ Y v x BB) v1 (.slice b' L.length cb') L b' cb' := ⟨RA.is, RA.le, RA.els.imp id fun ⟨c1, c2, c3, c4, c5, c6⟩ => ⟨c1, c2, c3, c4, c5, c6.imp fun _ _ _ h => h.arg⟩⟩
     have EB : RowA (fun Y v x => ArgQ Y v x BB) v1 (.slice b3 Z.length cb3) Z b3 cb3 := by
      have h := (HT3.out.el.later F1 (fun _ _ _ k => k.later F1)).ratsQ HL3.out
      rw [HZ.out, ← HZL.out] at h
      exact ⟨h.is, h.le, h.els.imp id fun ⟨c1, c2, c3, c4, c5, c6⟩ => ⟨c1, c2, c3, c4, c5, c6.imp fun _ _ _ h => h.more10 hnB⟩⟩
     have hpl := plusQ_any AS' ns' EA (HT3.out.sh.later F1) HT3.out.nila EB OKT.out HLL2.out (by rw [HZL.out]; exact HZC.out) HGF.out (by omega)
     rw [HZL.out] at hpl
     refine wpAnyL_one (i := 4) (by kernel_rfl) rfl (fun K hK => ?sbg_4)
     go_simp
     refine (hpl).mono ?_
     rintro e v2 ⟨r2, rfl, hT2, hb2⟩
     have E2 : Below z2.heap.size z2 v2 := E1.trans (hb2.mono E1.size)
     have F2 : Below w.heap.size w v2 := hB3.trans (E2.mono hB3.size)
     obtain ⟨a5, b5, ca5, cb5, rfl, RS5, RO5⟩ := hT2
     have HR := Lib.hid RS5
     have HO := Lib.hid RO5
     clear RS5 RO5 hpl
     go_simp
     refine hK.out _ _ (fun _ => mkG _ E2) (fun hHeld2 => ?mbg_4)
     clear hK K hHeld
     have hHeld := hHeld2 (by decide)
     clear hHeld2
     try simp only [Act.put, nA, nB, nC, nD, nE, nF]
     have P5 := Q3'.later E2
     obtain ⟨u0, u1, g0, g1⟩ := P5.two
     have K0 := R0z.later E2
     have K1 := R1z.later E2
     have K2 := R2z.later E2
     obtain ⟨l, hl⟩ : ∃ l, (plusF tt f L Z).length = l := ⟨_, rfl⟩
     obtain ⟨l2, hl2⟩ : ∃ l, tt.length = l := ⟨_, rfl⟩
     have HL2' := Lib.hid hl
     have HL3' := Lib.hid hl2
     rw [hl, hl2]
     clear hl hl2
     have mkF : ((v2.setCell ⟨w.heap.size + 1 + 1 + 1, 0, none⟩ (.slice a5 l2 ca5)).setCell ⟨w.heap.size + 1 + 1 + 1, 1, none⟩ (.slice b5 l cb5)).cell? ⟨w.heap.size, 0, none⟩ = some (.slice a1 s.length ca1) ∧ ((v2.setCell ⟨w.heap.size + 1 + 1 + 1, 0, none⟩ (.slice a5 l2 ca5)).setCell ⟨w.heap.size + 1 + 1 + 1, 1, none⟩ (.slice b5 l cb5)).cell? ⟨w.heap.size, 1, none⟩ = some (.slice b1 q1.length cb1) ∧ ((v2.setCell ⟨w.heap.size + 1 + 1 + 1, 0, none⟩ (.slice a5 l2 ca5)).setCell ⟨w.heap.size + 1 + 1 + 1, 1, none⟩ (.slice b5 l cb5)).cell? ⟨w.heap.size + 1, 0, none⟩ = some (.slice a2 t.length ca2) ∧ ((v2.setCell ⟨w.heap.size + 1 + 1 + 1, 0, none⟩ (.slice a5 l2 ca5)).setCell ⟨w.heap.size + 1 + 1 + 1, 1, none⟩ (.slice b5 l cb5)).cell? ⟨w.heap.size + 1, 1, none⟩ = some (.slice b2 q2.length cb2) ∧ ((v2.setCell ⟨w.heap.size + 1 + 1 + 1, 0, none⟩ (.slice a5 l2 ca5)).setCell ⟨w.heap.size + 1 + 1 + 1, 1, none⟩ (.slice b5 l cb5)).cell? ⟨w.heap.size + 1 + 1, 0, none⟩ = some (.slice a3 f.length ca3) ∧ ((v2.setCell ⟨w.heap.size + 1 + 1 + 1, 0, none⟩ (.slice a5 l2 ca5)).setCell ⟨w.heap.size + 1 + 1 + 1, 1, none⟩ (.slice b5 l cb5)).cell? ⟨w.heap.size + 1 + 1, 1, none⟩ = some (.slice b3 q3.length cb3) := by
      obtain ⟨j0, j1, _, _⟩ := (((K0.far (p := ⟨w.heap.size + 1 + 1 + 1, 0, none⟩) (by show w.heap.size ≠ w.heap.size + 1 + 1 + 1; omega) (.slice a5 l2 ca5))).far (p := ⟨w.heap.size + 1 + 1 + 1, 1, none⟩) (by show w.heap.size ≠ w.heap.size + 1 + 1 + 1; omega) (.slice b5 l cb5)).two
      obtain ⟨j2, j3, _, _⟩ := (((K1.far (p := ⟨w.heap.size + 1 + 1 + 1, 0, none⟩) (by show w.heap.size + 1 ≠ w.heap.size + 1 + 1 + 1; omega) (.slice a5 l2 ca5))).far (p := ⟨w.heap.size + 1 + 1 + 1, 1, none⟩) (by show w.heap.size + 1 ≠ w.heap.size + 1 + 1 + 1; omega) (.slice b5 l cb5)).two
      obtain ⟨j4, j5, _, _⟩ := (((K2.far (p := ⟨w.heap.size + 1 + 1 + 1, 0, none⟩) (by show w.heap.size + 1 + 1 ≠ w.heap.size + 1 + 1 + 1; omega) (.slice a5 l2 ca5))).far (p := ⟨w.heap.size + 1 + 1 + 1, 1, none⟩) (by show w.heap.size + 1 + 1 ≠ w.heap.size + 1 + 1 + 1; omega) (.slice b5 l cb5)).two
      exact ⟨j0, j1, j2, j3, j4, j5⟩
     refine wpAnyL_one (i := 5) (by kernel_rfl) rfl (fun K hK => ?sbg_5)
     go_simp
     refine hK.out _ _ (fun _ => mkF) (fun hHeld2 => ?mbg_5)
     clear hK K hHeld
     have hHeld := hHeld2 (by decide)
     clear hHeld2
     try simp only [Act.put, nA, nB, nC, nD, nE, nF]
     refine wpAnyL_one (i := 6) (by kernel_rfl) rfl (fun K hK => ?sbg_6)
     go_simp
     refine hK.out _ _ (fun h => absurd rfl h) (fun _ => ?mbg_6)
     clear hK K
     try simp only [Act.put, nA, nB, nC, nD, nE, nF]
     refine wpAnyL_done (by kernel_rfl) ?_ _
     have P6 := P5.set2 (.slice a5 l2 ca5) (.slice b5 l cb5)
     obtain ⟨z0', z1', _, _⟩ := P6.two
     go_wp2
     refine bodyPost_ret (v := .tuple #[.agg #[.slice a5 l2 ca5, .slice b5 l cb5], .int .i64 0]) (by simp [results, Tryz.results23, go_sem, z0', z1']) rfl ⟨.inl ⟨rfl, _, rfl, ?_⟩, below_set2 F2 (by omega) _ _⟩
     have hR : ResT w.heap.size v2 (.agg #[.slice a5 l2 ca5, .slice b5 l cb5]) tt (plusF tt f L Z) (2 * BB + 10) := ResT.mono ⟨a5, b5, ca5, cb5, by rw [HL2'.out, HL3'.out], HR.out, HO.out⟩ F1.size
     exact hR.far P5 (by decide) (by decide) (by decide) (kept2 _ _)
   · have hne : (g != 0) = true := by simp [hg0]
     have H0 := Lib.hid hg0
     obtain ⟨u0, u1, g0, g1⟩ := Q3'.two
     clear hg0 mkT
     go_wp2_with fail
     have P4 := Q3'.set2 (.slice none 0 0) (.slice none 0 0)
     obtain ⟨z0, z1, _, _⟩ := P4.two
     refine bodyPost_ret (v := .tuple #[noTensor, .int .i64 g]) (by simp [results, Tryz.results23, go_sem, z0, z1, noTensor]) rfl ⟨.inr ⟨H0.out, rfl⟩, below_set2 hB3 (by omega) _ _⟩
 · have hne : (c != 0) = true := by simp [h0]
   have H0 := Lib.hid h0
   obtain ⟨u0, u1, g0, g1⟩ := P3'.two
   have hgc : c = g := by have h := HG.out; rw [if_neg h0] at h; exact h
   subst hgc
   clear h0 mkS
   go_wp2_with fail
   have P4 := P3'.set2 (.slice none 0 0) (.slice none 0 0)
   obtain ⟨z0, z1, _, _⟩ := P4.two
   refine bodyPost_ret (v := .tuple #[noTensor, .int .i64 c]) (by simp [results, Tryz.results23, go_sem, z0, z1, noTensor]) rfl ⟨.inr ⟨H0.out, rfl⟩, below_set2 hB2 (by omega) _ _⟩
end
section
open Go.RowKit
theorem lensQ.more10 {qs : List Q3} {n m : Nat} (h : lensQ qs n) (hm : n ≤ m) : lensQ qs m := fun q hq => ⟨Nat.le_trans (h q hq).1 hm, Nat.le_trans (h q hq).2 hm⟩
end
section
open Go.RowKit
theorem ResQ.more10 {base n m : Nat} {w : World} {v : Value} {x : Rat} (h : ResQ base w v x n) (hm : n ≤ m) : ResQ base w v x m := by
 obtain ⟨zs, ys, ad, bd, ca, cb, hv, A, B, h1, h2⟩ := h
 exact ⟨zs, ys, ad, bd, ca, cb, hv, A, B, by omega, by omega⟩
theorem ResT.more10 {base n m : Nat} {w : World} {v : Value} {s : List Int} {L : List Rat} (h : ResT base w v s L n) (hm : n ≤ m) : ResT base w v s L m := by
 obtain ⟨a, b, ca, cb, hv, h1, es, h2, h3⟩ := h
 exact ⟨a, b, ca, cb, hv, h1, es, h2, h3.imp fun v x _ h => h.more10 hm⟩
end
section
open Go.RowKit
theorem wid2_10' {n : Nat} (h : n ≤ 1000) : Wid [(n : Int), 1] := by
 intro x hx
 simp at hx
 rcases hx with rfl | rfl <;> omega
theorem ownE_mono10 {b c : Nat} {T : TypeId} {w : World} {v : Value} {es : List E3} (h : OwnE c T w v es) (hb : b ≤ c) : OwnE b T w v es := by
 obtain ⟨h1, h2⟩ := h
 refine ⟨h1, ?_⟩
 rcases h2 with h2 | ⟨g, cap, cur, rfl, hg, hr⟩
 · exact .inl h2
 · exact .inr ⟨g, cap, cur, rfl, Nat.le_trans hb hg, hr⟩
theorem col10_any {w : World} {B g1 n : Nat} {m5 : Bool} {p1 p4 : Option Addr} {p2 p3 p5 p6 : Nat} (R : Row w g1 54 #[.bool m5, .slice p1 p2 p3, .slice p4 p5 p6]) (Q : ResQ B w (.agg #[.bool m5, .slice p1 p2 p3, .slice p4 p5 p6]) 1 6) (hB : B ≤ w.heap.size) (hn : n ≤ 40) {c : Int} (hc : c = (n : Int)) :
 Calls Tryz.prog 36 #[.int .i64 c, .pointer (some ⟨g1, 0, none⟩)] w fun e w' => ∃ r, e = .returned r ∧ ResT B w' r [(n : Int), 1] (List.replicate n 1) 6 ∧ Below w.heap.size w w' := by
 subst hc
 obtain ⟨i0, hi, hz0, hz1, hz2⟩ := info_parts infoQ
 have HQ := Lib.hid Q
 have HR := Lib.hid R
 have hg1 := R.lt
 have hwid := wid2_10' (n := n) (by omega)
 obtain ⟨G, hG⟩ : ∃ G, w.heap.size = G := ⟨_, rfl⟩
 obtain ⟨W1, hW1⟩ : ∃ W, w.alloc (.cells #[.slice none 0 0, .slice none 0 0] 26) = W := ⟨_, rfl⟩
 obtain ⟨W2, hW2⟩ : ∃ W, W1.alloc (.cells #[.int .i64 (n : Int), .int .i64 1] 3) = W := ⟨_, rfl⟩
 obtain ⟨W3, hW3⟩ : ∃ W, W2.alloc (.cells #[.slice (some ⟨G + 1, 0, none⟩) 2 2, .slice none 0 0] 26) = W := ⟨_, rfl⟩
 have s1 : W1.heap.size = G + 1 := by rw [← hW1, World.size_alloc, hG]
 have s2 : W2.heap.size = G + 1 + 1 := by rw [← hW2, World.size_alloc, s1]
 have b12 : Below W1.heap.size W1 W2 := by rw [← hW2]; exact (Below.refl _ _).alloc (Nat.le_refl _) _
 have b23 : Below W2.heap.size W2 W3 := by rw [← hW3]; exact (Below.refl _ _).alloc (Nat.le_refl _) _
 have b13 : Below W1.heap.size W1 W3 := b12.trans (b23.mono b12.size)
 have b01 : Below w.heap.size w W1 := by rw [← hW1]; exact (Below.refl _ _).alloc (Nat.le_refl _) _
 have bW : Below w.heap.size w W3 := b01.trans (b13.mono b01.size)
 have R0 : Row W3 G 26 #[.slice none 0 0, .slice none 0 0] := by rw [← hG]; exact (show Row W1 w.heap.size 26 #[.slice none 0 0, .slice none 0 0] by rw [← hW1]; exact Row.new _ _ _).later b13
 have R2 : Row W3 (G + 1 + 1) 26 #[.slice (some ⟨G + 1, 0, none⟩) 2 2, .slice none 0 0] := by rw [← s2, ← hW3]; exact Row.new _ _ _
 have rs : ResS G W3 (.slice (some ⟨G + 1, 0, none⟩) 2 2) [(n : Int), 1] := by
  have h : ResS W1.heap.size W2 (.slice (some ⟨W1.heap.size, 0, none⟩) 2 2) [(n : Int), 1] := by
   rw [← hW2]
   exact ⟨⟨rfl, .inr ⟨W1.heap.size, 2, #[.int .i64 (n : Int), .int .i64 1], rfl, Nat.le_refl _, heap_alloc_new W1 _, Nat.le_refl _, by unfold maxLen; omega, by simp, by simp⟩⟩, hwid⟩
  rw [s1] at h
  exact (h.mono (by omega)).later b23
 rw [hG] at bW hB hg1
 have H0 := Lib.hid R0
 have H2 := Lib.hid R2
 have HS := Lib.hid rs
 have HBW := Lib.hid bW
 have HG := Lib.hid hG
 have HW1 := Lib.hid hW1
 have HW2 := Lib.hid hW2
 have HW3 := Lib.hid hW3
 have HS1 := Lib.hid s1
 have HS2 := Lib.hid s2
 clear hW1 hW2 hW3 s1 s2 hG
 clear R0 R2 rs bW b01 b12 b23 b13 hwid R Q
 go_enter Tryz.func36, Tryz.ntmps36
 go_wp2_with fail
 have hG := HG.out
 have hW1 := HW1.out
 have hW2 := HW2.out
 have hW3 := HW3.out
 have s1 := HS1.out
 have s2 := HS2.out
 (try simp only [hG, hW1, s1, hW2, s2, hW3])
 clear hW1 hW2 hW3 s1 s2 hG
 go_loopw [5] (fun i wr => ∃ (k : Nat) (v : Value), i = .int .i64 (k : Int) ∧ k ≤ n ∧ Row wr G 26 #[.slice none 0 0, .slice none 0 0] ∧
  Row wr (G + 1 + 1) 26 #[.slice (some ⟨G + 1, 0, none⟩) 2 2, v] ∧ ResS G wr (.slice (some ⟨G + 1, 0, none⟩) 2 2) [(n : Int), 1] ∧ RowO G 54 (fun W v x => ResQ B W v x 6) wr v (List.replicate k 1) ∧ Below G w wr) (fun i _ => n - (intOf i).toNat)
 case atStart => exact ⟨0, _, rfl, Nat.zero_le _, H0.out, H2.out, HS.out, RowO.nil _ _ _ _, HBW.out⟩
 case round =>
  obtain ⟨k, v, rfl, hk, r0, rg, rs, ⟨es, hown, hall⟩, hb⟩ := hrel
  have hsz := hb.size
  rw [HG.out] at hsz
  have hbw : Below w.heap.size w wr := by rw [HG.out]; exact hb
  have cg1 := rg.cell 1
  have hle : es.length = k := by rw [hall.1, List.length_replicate]
  by_cases hlt : k < n
  · have hltI : (k : Int) < (n : Int) := by omega
    have rq := HR.out.later hbw
    obtain ⟨q0, q1, q2, _, _, _⟩ := rq.three
    obtain ⟨r, hrv, hrb, hrne, hrA⟩ := hown.hits10 hsz
    have n0 := hrne _ _ _ r0 (by decide)
    have ng := hrne _ _ _ rg (by decide)
    have HRS := Lib.hid rs
    have HALL := Lib.hid hall
    have HLE := Lib.hid hle
    have HB := Lib.hid hb
    have HOWN := Lib.hid hown
    have hk40 : es.length ≤ 40 := by omega
    have hQ6 : ResQ B wr (.agg #[.bool m5, .slice p1 p2 p3, .slice p4 p5 p6]) 1 6 := HQ.out.later hbw
    have HQ6 := Lib.hid hQ6
    have HR0 := Lib.hid r0
    have hal : Below wr.heap.size wr (wr.alloc (.cells #[.bool m5, .slice p1 p2 p3, .slice p4 p5 p6] 54)) := (Below.refl _ _).alloc (Nat.le_refl _) _
    have HAL := Lib.hid hal
    have HSZ := Lib.hid hsz
    have hrg := Lib.hid rg
    have HRV := Lib.hid hrv
    clear hall hle hb hown rs hQ6 r0 hal hbw
    go_wp2_with (at_builtin; refine wpList_append_own _ rfl _ _ 24 rfl G 54 i0 _ 3 56 Tryz.underlying24 hi hz0 hz1 hz2 rfl (by decide) _ es.length (flat3 es) rfl (HOWN.out.later HAL.out) ⟨wr.heap.size, 0, none⟩ 1 1 [.bool m5, .slice p1 p2 p3, .slice p4 p5 p6] rfl rfl (cell_three_new _ _ _ _ _) (by simp [Value.oneCell']) (by unfold maxLen; omega) (by omega) (by simp; omega) ?_; intro v' w7 hown' hgrow _; obtain ⟨av7, cv7, rfl⟩ := ownT_slice hown'; have hk7 : Kept r wr w7 := ((Kept.refl r wr).alloc _).grown hgrow HRV.out; have R7 := hrg.out.kept hk7 ng; have f7 := R7.free 1; have c7 := R7.cell 1)
    go_roundw
    case rel =>
     obtain ⟨hrow7, hb7⟩ := pushE (P := fun Y v x => ResQ B Y v x 6) (e := ⟨.bool m5, .slice p1 p2 p3, .slice p4 p5 p6⟩) (base := G) (w := w) (wr := wr) HB.out HSZ.out HOWN.out HALL.out HQ6.out (fun u y h => h.apart HOWN.out hgrow (by decide)) hown' hgrow
     have rs7 : ResS G w7 (.slice (some ⟨G + 1, 0, none⟩) 2 2) [(n : Int), 1] := ResS.apart HOWN.out hgrow (by decide) HRS.out
     refine ⟨k + 1, _, by go_num, by omega, (HR0.out.kept hk7 n0).far (by show G ≠ G + 1 + 1; omega) _, R7.set21 _, rs7.far R7 (by decide) (kept1 _), ?_, hb7.setCell (by show G ≤ G + 1 + 1; omega) _⟩
     rw [List.replicate_succ']
     exact hrow7.far R7 (by decide) (kept1 _) (fun u y h => h.far R7 (by decide) (kept1 _))
    case measure => simp [intOf]; omega
  · obtain rfl : k = n := by omega
    have hltI : ¬ (k : Int) < (k : Int) := by omega
    obtain ⟨av, cv, rfl⟩ := ownT_slice hown
    have c20 := rg.cell 0
    have d21 := rg.cell 1
    obtain ⟨g10, g11, f10, f11⟩ := r0.two
    have RRs := r0.set2 (.slice (some ⟨G + 1, 0, none⟩) 2 2) (.slice av es.length cv)
    obtain ⟨z0, z1, _, _⟩ := RRs.two
    have hT : ResT B wr (.agg #[.slice (some ⟨G + 1, 0, none⟩) 2 2, .slice av es.length cv]) [(k : Int), 1] (List.replicate k 1) 6 := ⟨_, av, 2, cv, by rw [List.length_replicate, hle]; rfl, rs.mono hB, by rw [List.length_replicate, ← hle]; exact ⟨es, ownE_mono10 hown hB, by rw [hle]; exact hall⟩⟩
    have HT := Lib.hid hT
    have HRR := Lib.hid r0
    have hbE : Below G w ((wr.setCell ⟨G, 0, none⟩ (.slice (some ⟨G + 1, 0, none⟩) 2 2)).setCell ⟨G, 1, none⟩ (.slice av es.length cv)) := below_set2 hb (Nat.le_refl _) _ _
    have HBE := Lib.hid hbE
    clear hown hall hle RRs hT hbE
    go_wp2_with fail
    exact bodyPost_ret (v := .agg #[.slice (some ⟨G + 1, 0, none⟩) 2 2, .slice av es.length cv]) (by simp [results, Tryz.results36, go_sem, z0, z1]) rfl ⟨_, rfl, HT.out.far HRR.out (by decide) (by decide) (by decide) (kept2 _ _), by rw [HG.out]; exact HBE.out⟩
theorem turn10_any {w : World} {B n : Nat} {u : Value} {L : List Rat} (T : ResT B w u [(n : Int), 1] L 6) (hB : B ≤ w.heap.size) (hn : n ≤ 40) :
 Calls Tryz.prog 37 #[u] w fun e w' => ∃ r, e = .returned r ∧ ResT B w' r [1, (n : Int)] L 6 ∧ Below w.heap.size w w' := by
 have HT := Lib.hid T
 obtain ⟨a, b, ca, cb, rfl, RS, RO⟩ := T
 obtain ⟨_, A, _⟩ := RS.at_
 have HRO := Lib.hid RO
 have HA := Lib.hid A
 obtain ⟨l0, hL0⟩ : ∃ l, L.length = l := ⟨_, rfl⟩
 have HL0 := Lib.hid hL0
 obtain ⟨bb, oo, rfl, hc⟩ := A.at (i := 0) (by simp)
 have hbl : bb < w.heap.size := World.block_lt_of_cell? _ _ hc
 clear RS RO A
 have hw0 : Wid [1, (n : Int)] := by
  intro x hx
  simp at hx
  rcases hx with rfl | rfl <;> omega
 rw [hL0]
 obtain ⟨G, hG⟩ : ∃ G, w.heap.size = G := ⟨_, rfl⟩
 obtain ⟨W1, hW1⟩ : ∃ W, w.alloc (.cells #[.slice (some ⟨bb, oo, none⟩) 2 ca, .slice b l0 cb] 26) = W := ⟨_, rfl⟩
 obtain ⟨W2, hW2⟩ : ∃ W, W1.alloc (.cells #[.slice none 0 0, .slice none 0 0] 26) = W := ⟨_, rfl⟩
 obtain ⟨W3, hW3⟩ : ∃ W, W2.alloc (.cells #[.int .i64 1, .int .i64 (n : Int)] 3) = W := ⟨_, rfl⟩
 have s1 : W1.heap.size = G + 1 := by rw [← hW1, World.size_alloc, hG]
 have s2 : W2.heap.size = G + 1 + 1 := by rw [← hW2, World.size_alloc, s1]
 have b01 : Below w.heap.size w W1 := by rw [← hW1]; exact (Below.refl _ _).alloc (Nat.le_refl _) _
 have b12 : Below W1.heap.size W1 W2 := by rw [← hW2]; exact (Below.refl _ _).alloc (Nat.le_refl _) _
 have b23 : Below W2.heap.size W2 W3 := by rw [← hW3]; exact (Below.refl _ _).alloc (Nat.le_refl _) _
 have b02 : Below w.heap.size w W2 := b01.trans (b12.mono b01.size)
 have b03 : Below w.heap.size w W3 := b02.trans (b23.mono b02.size)
 have R0 : Row W2 G 26 #[.slice (some ⟨bb, oo, none⟩) 2 ca, .slice b l0 cb] := by rw [← hG]; exact (show Row W1 w.heap.size 26 #[.slice (some ⟨bb, oo, none⟩) 2 ca, .slice b l0 cb] by rw [← hW1]; exact Row.new _ _ _).later b12
 have R1 : Row W2 (G + 1) 26 #[.slice none 0 0, .slice none 0 0] := by rw [← s1, ← hW2]; exact Row.new _ _ _
 have Rn : Row W3 (G + 1 + 1) 3 #[.int .i64 1, .int .i64 (n : Int)] := by rw [← s2, ← hW3]; exact Row.new _ _ _
 have R03 := R0.later b23
 have R13 := R1.later b23
 have R04 : Row (W3.setCell ⟨G, 0, none⟩ (.slice (some ⟨G + 1 + 1, 0, none⟩) 2 2)) G 26 #[.slice (some ⟨G + 1 + 1, 0, none⟩) 2 2, .slice b l0 cb] := R03.set 0 _
 have R14 := R13.far (p := ⟨G, 0, none⟩) (by show G + 1 ≠ G; omega) (.slice (some ⟨G + 1 + 1, 0, none⟩) 2 2)
 obtain ⟨W4, hW4⟩ : ∃ X, W3.setCell ⟨G, 0, none⟩ (.slice (some ⟨G + 1 + 1, 0, none⟩) 2 2) = X := ⟨_, rfl⟩
 rw [hW4] at R04 R14
 have R15 := R14.set2 (.slice (some ⟨G + 1 + 1, 0, none⟩) 2 2) (.slice b l0 cb)
 have Rn4 : Row W4 (G + 1 + 1) 3 #[.int .i64 1, .int .i64 (n : Int)] := by rw [← hW4]; exact Rn.far (by show G + 1 + 1 ≠ G; omega) _
 have b04 : Below w.heap.size w W4 := by rw [← hW4]; exact b03.setCell (by show w.heap.size ≤ G; omega) _
 have b05 := below_set2 (g := G + 1) b04 (by omega) (.slice (some ⟨G + 1 + 1, 0, none⟩) 2 2) (.slice b l0 cb)
 have Rn5 : Row ((W4.setCell ⟨G + 1, 0, none⟩ (.slice (some ⟨G + 1 + 1, 0, none⟩) 2 2)).setCell ⟨G + 1, 1, none⟩ (.slice b l0 cb)) (G + 1 + 1) 3 #[.int .i64 1, .int .i64 (n : Int)] := (Rn4.far (by show G + 1 + 1 ≠ G + 1; omega) _).far (by show G + 1 + 1 ≠ G + 1; omega) _
 have ro4 : RowO B 54 (fun W v x => ResQ B W v x 6) W4 (.slice b l0 cb) L := by
  have h := (HRO.out.later b03 (fun v x h => h.later b03))
  rw [hL0] at h
  have h3 := h.far (g := G) R03 (by decide) (kept1 (w := W3) (g := G) (i := 0) (.slice (some ⟨G + 1 + 1, 0, none⟩) 2 2)) (fun u y k => k.far R03 (by decide) (kept1 _))
  rw [hW4] at h3
  exact h3
 have ro5 := ro4.far R14 (by decide) (kept2 (w := W4) (g := G + 1) (.slice (some ⟨G + 1 + 1, 0, none⟩) 2 2) (.slice b l0 cb)) (fun u y k => k.far R14 (by decide) (kept2 _ _))
 have hT : ResT B ((W4.setCell ⟨G + 1, 0, none⟩ (.slice (some ⟨G + 1 + 1, 0, none⟩) 2 2)).setCell ⟨G + 1, 1, none⟩ (.slice b l0 cb)) (.agg #[.slice (some ⟨G + 1 + 1, 0, none⟩) 2 2, .slice b l0 cb]) [1, (n : Int)] L 6 := by
  refine ⟨_, b, 2, cb, by rw [hL0]; rfl, ⟨⟨rfl, .inr ⟨G + 1 + 1, 2, #[.int .i64 1, .int .i64 (n : Int)], rfl, by omega, Rn5, Nat.le_refl _, by unfold maxLen; omega, by simp, by simp⟩⟩, hw0⟩, ?_⟩
  rw [hL0]
  exact ro5
 have HT5 := Lib.hid hT
 have HB5 := Lib.hid b05
 obtain ⟨x0, x1, e0, e1⟩ := R0.two
 obtain ⟨y0, y1, f0, f1⟩ := R03.two
 obtain ⟨g0, g1, _, _⟩ := R04.two
 obtain ⟨k0, k1, m0, m1⟩ := R14.two
 obtain ⟨z0, z1, _, _⟩ := R15.two
 have hc2 : W2.cell? ⟨bb, oo, none⟩ = some (.int .i64 (n : Int)) := (b02.cell hbl).trans hc
 have HG := Lib.hid hG
 have H1 := Lib.hid hW1
 have H2 := Lib.hid hW2
 have H3 := Lib.hid hW3
 have H4 := Lib.hid hW4
 have HS1 := Lib.hid s1
 have HS2 := Lib.hid s2
 clear hG hW1 hW2 hW3 hW4 s1 s2 hT b01 b12 b23 b02 b03 b04 b05 R0 R1 Rn R03 R13 R04 R14 R15 Rn4 Rn5 ro4 ro5 hc hw0 HRO HA hL0
 go_enter Tryz.func37, Tryz.ntmps37
 have hG := HG.out
 have hW1 := H1.out
 have hW2 := H2.out
 have hW3 := H3.out
 have hW4 := H4.out
 have s1 := HS1.out
 have s2 := HS2.out
 go_wp2_with fail
 exact bodyPost_ret (v := .agg #[.slice (some ⟨G + 1 + 1, 0, none⟩) 2 2, .slice b l0 cb]) (by simp [results, Tryz.results37, go_sem, z0, z1]) rfl ⟨_, rfl, HT5.out, by have h := HB5.out; rw [hG] at h; exact h⟩
theorem orZ10 (c : Int) : orL [0, 0, c] = c ∧ orL [0, 0, 0, c] = c := by
 by_cases h : c = 0
 · subst h; decide
 · simp [orL, h]
theorem mmL10 {b1 b2 n : Nat} {w : World} {u v : Value} {s t : List Int} {L M : List Rat} (h1 : ResT b1 w u s L n) (h2 : ResT b2 w v t M n) (hs : Ok10 s L) (ht : Ok10 t M) (hl : L.length ≤ 64) (hn : n ≤ 7000) :
 Calls Tryz.prog 20 #[u, v] w fun e w' => One w.heap.size w' e (mmC s t) (mmS s t) (mmV s t L M) ((2 * n + 4 + 10) * 2 ^ 6) ∧ Below w.heap.size w w' := by
 obtain ⟨q1, a1, c1, ca1, cb1, T1, e1, l1, k1⟩ := h1.tens
 obtain ⟨q2, a2, c2, ca2, cb2, T2, e2, l2, k2⟩ := h2.tens
 obtain ⟨f1, f2⟩ := hs.few
 obtain ⟨f3, f4⟩ := ht.few
 have g1 : q1.length = L.length := by rw [← e1]; simp
 have g2 : q2.length = M.length := by rw [← e2]; simp
 have h := matMul_any 6 (n := n) T1 T2 (by omega) (by omega) l1 l2 (by omega) (by omega) (by omega) (by omega) (by omega)
 rw [hs.may e1 k1, ht.may e2 k2, e1, e2, (orZ10 _).1] at h
 exact h
theorem gemL10 {b1 b2 b3 n : Nat} {w : World} {u v z : Value} {s t f : List Int} {L M Z : List Rat} (h1 : ResT b1 w u s L n) (h2 : ResT b2 w v t M n) (h3 : ResT b3 w z f Z n) (hs : Ok10 s L) (ht : Ok10 t M) (hf : Ok10 f Z) (hl : L.length ≤ 64) (hn : n ≤ 7000) {c : Int} (hc : mmC s t = c) (h0 : c ≠ 0) :
 Calls Tryz.prog 23 #[u, v, z] w fun e w' => e = .returned (.tuple #[noTensor, .int .i64 c]) ∧ Below w.heap.size w w' := by
 obtain ⟨q1, a1, c1, ca1, cb1, T1, e1, l1, k1⟩ := h1.tens
 obtain ⟨q2, a2, c2, ca2, cb2, T2, e2, l2, k2⟩ := h2.tens
 obtain ⟨q3, a3, c3, ca3, cb3, T3, e3, l3, k3⟩ := h3.tens
 obtain ⟨f1, f2⟩ := hs.few
 obtain ⟨f3, f4⟩ := ht.few
 obtain ⟨f5, f6⟩ := hf.few
 have g1 : q1.length = L.length := by rw [← e1]; simp
 have g2 : q2.length = M.length := by rw [← e2]; simp
 have g3 : q3.length = Z.length := by rw [← e3]; simp
 have h := gemm_any 6 (n := n) T1 T2 T3 (by omega) (by omega) (by omega) l1 l2 l3 (by omega) (by omega) (by omega) (by omega) (by omega) (by omega)
 have hg : gemC s t f q1 q2 q3 = c := by
  unfold gemC
  rw [hs.may e1 k1, ht.may e2 k2, hf.may e3 k3, hc, (orZ10 _).2, if_neg h0]
 rw [hg] at h
 refine h.mono fun e w' ⟨h, hb⟩ => ⟨?_, hb⟩
 rcases h with ⟨h, _⟩ | ⟨_, h⟩
 · exact absurd h h0
 · exact h
end
section
open Go.RowKit
theorem intQ_one10b : intQ 1 = 1 := by decide +kernel
theorem ok_col10 {s : List Int} {n : Nat} (h1 : mayC s = 0) (h2 : cntF s = n) : Ok10 s (List.replicate n (1 : Rat)) := ⟨mayC_zero.1 h1, by rw [List.length_replicate, h2]⟩
theorem foldLimit_walk (w : World) : Calls Tryz.prog 10 #[] w fun e W' => e = .returned (.bool true) ∧ Below w.heap.size w W' := by
 have hmf : ∀ (fn : Fn) (first cap : Array Value) (w : World), (Instr.makeFunc fn first cap).run Tryz.prog w = .ok (.func fn first cap) w := fun _ _ _ _ => rfl
 have K32 := Lib.hid (ok_col10 (s := [((32 : Nat) : Int), 1]) (n := 32) (by decide +kernel) (by decide +kernel))
 have K33 := Lib.hid (ok_col10 (s := [((33 : Nat) : Int), 1]) (n := 33) (by decide +kernel) (by decide +kernel))
 have K7 := Lib.hid (ok_col10 (s := [((7 : Nat) : Int), 1]) (n := 7) (by decide +kernel) (by decide +kernel))
 have T32 := Lib.hid (ok_col10 (s := [1, ((32 : Nat) : Int)]) (n := 32) (by decide +kernel) (by decide +kernel))
 have M32 := Lib.hid (show mmC [((32 : Nat) : Int), 1] [1, ((32 : Nat) : Int)] = 0 by decide +kernel)
 have M33 := Lib.hid (show mmC [((33 : Nat) : Int), 1] [1, ((32 : Nat) : Int)] = 14 by decide +kernel)
 obtain ⟨LV, hLV⟩ : ∃ L, mmV [((32 : Nat) : Int), 1] [1, ((32 : Nat) : Int)] (List.replicate 32 1) (List.replicate 32 1) = L := ⟨_, rfl⟩
 have hlen : LV.length = 1024 := by rw [← hLV]; unfold mmV; rw [mmF_len]; rfl
 have HLV := Lib.hid hLV
 have HLEN := Lib.hid hlen
 obtain ⟨SV, hSV⟩ : ∃ S, mmS [((32 : Nat) : Int), 1] [1, ((32 : Nat) : Int)] = S := ⟨_, rfl⟩
 have HSL := Lib.hid (show SV.length = 2 by rw [← hSV]; rfl)
 have HSV := Lib.hid hSV
 clear hLV hlen hSV
 go_enter Tryz.func10, Tryz.ntmps10
 go_wp2_with fail
 refine (intRR_any 1 _ (by decide) (by decide)).mono ?_
 rintro e y1 ⟨r1, rfl, q1, hy1⟩
 have HQ1 := Lib.hid q1
 clear q1
 go_wp2_with fail
 refine (backR_any HQ1.out.arg (by decide)).mono ?_
 rintro e y2 ⟨r2, rfl, q2, hy2⟩
 obtain ⟨m5, p1, p2, p3, p4, p5, p6, rfl⟩ := q2.shape
 rw [intQ_one10b] at q2
 obtain ⟨B, hB⟩ : ∃ B, y1.heap.size = B := ⟨_, rfl⟩
 rw [hB] at q2
 have b2 : Below w.heap.size w y2 := hy1.trans (hy2.mono hy1.size)
 obtain ⟨V, hV⟩ : ∃ X, y2.alloc (.cells #[.bool m5, .slice p1 p2 p3, .slice p4 p5 p6] 54) = X := ⟨_, rfl⟩
 have bV : Below y2.heap.size y2 V := by rw [← hV]; exact (Below.refl _ _).alloc (Nat.le_refl _) _
 have N1 : Row V y2.heap.size 54 #[.bool m5, .slice p1 p2 p3, .slice p4 p5 p6] := by rw [← hV]; exact Row.new _ _ _
 have BV : Below w.heap.size w V := b2.trans (bV.mono b2.size)
 have hBV : B ≤ V.heap.size := by rw [← hB]; exact Nat.le_trans hy2.size bV.size
 have Q1 := Lib.hid (q2.later bV)
 have HBV := Lib.hid BV
 clear hy1 hy2 b2 bV q2 hB BV
 have B0 : Below V.heap.size V V := Below.refl _ _
 go_wp2_with fail
 (try rw [hV])
 (try clear hV)
 refine (col10_any (n := 32) N1 Q1.out (Nat.le_trans hBV B0.size) (by decide) rfl).mono ?_
 rintro e y1 ⟨rA, rfl, TA, hy⟩
 obtain ⟨aA, bA, cA, dA, rfl, _⟩ := id TA
 replace TA := Lib.hid TA
 have B1 : Below V.heap.size V y1 := B0.trans (hy.mono B0.size)
 replace N1 := N1.later hy
 replace Q1 := Lib.hid (Q1.out.later hy)
 clear hy
 go_wp2_with fail
 refine (col10_any (n := 32) N1 Q1.out (Nat.le_trans hBV B1.size) (by decide) rfl).mono ?_
 rintro e y2 ⟨rB, rfl, TB, hy⟩
 obtain ⟨aB, bB, cB, dB, rfl, _⟩ := id TB
 replace TB := Lib.hid TB
 have B2 : Below V.heap.size V y2 := B1.trans (hy.mono B1.size)
 replace N1 := N1.later hy
 replace Q1 := Lib.hid (Q1.out.later hy)
 replace TA := Lib.hid (TA.out.later hy)
 clear hy
 go_wp2_with fail
 refine (turn10_any TB.out (Nat.le_trans hBV B2.size) (by decide)).mono ?_
 rintro e y3 ⟨rC, rfl, TC, hy⟩
 obtain ⟨aC, bC, cC, dC, rfl, _⟩ := id TC
 replace TC := Lib.hid TC
 have B3 : Below V.heap.size V y3 := B2.trans (hy.mono B2.size)
 replace N1 := N1.later hy
 replace Q1 := Lib.hid (Q1.out.later hy)
 replace TA := Lib.hid (TA.out.later hy)
 replace TB := Lib.hid (TB.out.later hy)
 clear hy
 go_wp2_with fail
 refine (mmL10 TA.out TC.out K32.out T32.out (by decide) (by decide)).mono ?_
 rintro e zP ⟨hO, hy⟩
 rw [M32.out, HSV.out, HLV.out] at hO
 obtain ⟨r, rfl, TP⟩ := hO.zero
 obtain ⟨aP, bP, cP, dP, rfl, _⟩ := id TP
 rw [HSL.out, HLEN.out]
 clear hO TP
 obtain ⟨y4, hV⟩ : ∃ X, zP.alloc (.cells #[.slice aP 2 cP, .slice bP 1024 dP] 26) = X := ⟨_, rfl⟩
 have bz : Below zP.heap.size zP y4 := by rw [← hV]; exact (Below.refl _ _).alloc (Nat.le_refl _) _
 have NP : Row y4 zP.heap.size 26 #[.slice aP 2 cP, .slice bP 1024 dP] := by rw [← hV]; exact Row.new _ _ _
 have hyz := hy.trans (bz.mono hy.size)
 clear hy bz
 have B4 : Below V.heap.size V y4 := B3.trans (hyz.mono B3.size)
 replace N1 := N1.later hyz
 replace Q1 := Lib.hid (Q1.out.later hyz)
 replace TA := Lib.hid (TA.out.later hyz)
 replace TB := Lib.hid (TB.out.later hyz)
 replace TC := Lib.hid (TC.out.later hyz)
 clear hyz
 obtain ⟨Pc0, Pc1, _, _⟩ := NP.two
 go_wp2_with fail
 (try rw [hV])
 (try clear hV)
 refine (col10_any (n := 33) N1 Q1.out (Nat.le_trans hBV B4.size) (by decide) rfl).mono ?_
 rintro e y5 ⟨rD, rfl, TD, hy⟩
 obtain ⟨aD, bD, cD, dD, rfl, _⟩ := id TD
 replace TD := Lib.hid TD
 have B5 : Below V.heap.size V y5 := B4.trans (hy.mono B4.size)
 clear Pc0 Pc1
 replace N1 := N1.later hy
 replace NP := NP.later hy
 replace Q1 := Lib.hid (Q1.out.later hy)
 obtain ⟨Pc0, Pc1, _, _⟩ := NP.two
 clear hy
 go_wp2_with fail
 refine (col10_any (n := 32) N1 Q1.out (Nat.le_trans hBV B5.size) (by decide) rfl).mono ?_
 rintro e y6 ⟨rE, rfl, TE, hy⟩
 obtain ⟨aE, bE, cE, dE, rfl, _⟩ := id TE
 replace TE := Lib.hid TE
 have B6 : Below V.heap.size V y6 := B5.trans (hy.mono B5.size)
 clear Pc0 Pc1
 replace N1 := N1.later hy
 replace NP := NP.later hy
 replace Q1 := Lib.hid (Q1.out.later hy)
 replace TD := Lib.hid (TD.out.later hy)
 obtain ⟨Pc0, Pc1, _, _⟩ := NP.two
 clear hy
 go_wp2_with fail
 refine (turn10_any TE.out (Nat.le_trans hBV B6.size) (by decide)).mono ?_
 rintro e y7 ⟨rG, rfl, TG, hy⟩
 obtain ⟨aG, bG, cG, dG, rfl, _⟩ := id TG
 replace TG := Lib.hid TG
 have B7 : Below V.heap.size V y7 := B6.trans (hy.mono B6.size)
 clear Pc0 Pc1
 replace N1 := N1.later hy
 replace NP := NP.later hy
 replace Q1 := Lib.hid (Q1.out.later hy)
 replace TD := Lib.hid (TD.out.later hy)
 replace TE := Lib.hid (TE.out.later hy)
 obtain ⟨Pc0, Pc1, _, _⟩ := NP.two
 clear hy
 go_wp2_with fail
 refine (mmL10 TD.out TG.out K33.out T32.out (by decide) (by decide)).mono ?_
 rintro e zH ⟨hO, hy⟩
 rw [M33.out] at hO
 obtain rfl : e = .returned (.tuple #[noTensor, .int .i64 14]) := by
  rcases hO with ⟨h, _⟩ | ⟨_, h⟩
  · exact absurd h (by decide)
  · exact h
 clear hO
 unfold noTensor
 have bz : Below zH.heap.size zH (zH.alloc (.cells #[.slice none 0 0, .slice none 0 0] 26)) := (Below.refl _ _).alloc (Nat.le_refl _) _
 have hyz := hy.trans (bz.mono hy.size)
 clear hy bz
 have B8 : Below V.heap.size V (zH.alloc (.cells #[.slice none 0 0, .slice none 0 0] 26)) := B7.trans (hyz.mono B7.size)
 clear Pc0 Pc1
 replace N1 := N1.later hyz
 replace NP := NP.later hyz
 replace Q1 := Lib.hid (Q1.out.later hyz)
 replace TD := Lib.hid (TD.out.later hyz)
 replace TE := Lib.hid (TE.out.later hyz)
 replace TG := Lib.hid (TG.out.later hyz)
 obtain ⟨Pc0, Pc1, _, _⟩ := NP.two
 clear hyz
 go_wp2_with fail
 refine (col10_any (n := 33) N1 Q1.out (Nat.le_trans hBV B8.size) (by decide) rfl).mono ?_
 rintro e y9 ⟨rI, rfl, TI, hy⟩
 obtain ⟨aI, bI, cI, dI, rfl, _⟩ := id TI
 replace TI := Lib.hid TI
 have B9 : Below V.heap.size V y9 := B8.trans (hy.mono B8.size)
 clear Pc0 Pc1
 replace N1 := N1.later hy
 replace NP := NP.later hy
 replace Q1 := Lib.hid (Q1.out.later hy)
 obtain ⟨Pc0, Pc1, _, _⟩ := NP.two
 clear hy
 go_wp2_with fail
 refine (col10_any (n := 32) N1 Q1.out (Nat.le_trans hBV B9.size) (by decide) rfl).mono ?_
 rintro e y10 ⟨rJ, rfl, TJ, hy⟩
 obtain ⟨aJ, bJ, cJ, dJ, rfl, _⟩ := id TJ
 replace TJ := Lib.hid TJ
 have B10 : Below V.heap.size V y10 := B9.trans (hy.mono B9.size)
 clear Pc0 Pc1
 replace N1 := N1.later hy
 replace NP := NP.later hy
 replace Q1 := Lib.hid (Q1.out.later hy)
 replace TI := Lib.hid (TI.out.later hy)
 obtain ⟨Pc0, Pc1, _, _⟩ := NP.two
 clear hy
 go_wp2_with fail
 refine (turn10_any TJ.out (Nat.le_trans hBV B10.size) (by decide)).mono ?_
 rintro e y11 ⟨rL, rfl, TL, hy⟩
 obtain ⟨aL, bL, cL, dL, rfl, _⟩ := id TL
 replace TL := Lib.hid TL
 have B11 : Below V.heap.size V y11 := B10.trans (hy.mono B10.size)
 clear Pc0 Pc1
 replace N1 := N1.later hy
 replace NP := NP.later hy
 replace Q1 := Lib.hid (Q1.out.later hy)
 replace TI := Lib.hid (TI.out.later hy)
 replace TJ := Lib.hid (TJ.out.later hy)
 obtain ⟨Pc0, Pc1, _, _⟩ := NP.two
 clear hy
 go_wp2_with fail
 refine (col10_any (n := 7) N1 Q1.out (Nat.le_trans hBV B11.size) (by decide) rfl).mono ?_
 rintro e y12 ⟨rM, rfl, TM, hy⟩
 obtain ⟨aM, bM, cM, dM, rfl, _⟩ := id TM
 replace TM := Lib.hid TM
 have B12 : Below V.heap.size V y12 := B11.trans (hy.mono B11.size)
 clear Pc0 Pc1
 replace N1 := N1.later hy
 replace NP := NP.later hy
 replace Q1 := Lib.hid (Q1.out.later hy)
 replace TI := Lib.hid (TI.out.later hy)
 replace TJ := Lib.hid (TJ.out.later hy)
 replace TL := Lib.hid (TL.out.later hy)
 obtain ⟨Pc0, Pc1, _, _⟩ := NP.two
 clear hy
 go_wp2_with fail
 refine (gemL10 TI.out TL.out TM.out K33.out T32.out K7.out (by decide) (by decide) M33.out (by decide)).mono ?_
 rintro e zN ⟨rfl, hy⟩
 unfold noTensor
 have bz : Below zN.heap.size zN (zN.alloc (.cells #[.slice none 0 0, .slice none 0 0] 26)) := (Below.refl _ _).alloc (Nat.le_refl _) _
 have hyz := hy.trans (bz.mono hy.size)
 clear hy bz
 have B13 : Below V.heap.size V (zN.alloc (.cells #[.slice none 0 0, .slice none 0 0] 26)) := B12.trans (hyz.mono B12.size)
 clear Pc0 Pc1
 replace N1 := N1.later hyz
 replace NP := NP.later hyz
 replace Q1 := Lib.hid (Q1.out.later hyz)
 obtain ⟨Pc0, Pc1, _, _⟩ := NP.two
 clear hyz
 go_wp2_with fail
 refine (known10_any _).mono ?_
 rintro e y99 ⟨rfl, hb9⟩
 go_wp2_with fail
 go_ret
 exact ⟨rfl, HBV.out.trans ((B13.trans (hb9.mono B13.size)).mono HBV.out.size)⟩
end
section
open Go.RowKit
open Go.ChangeShapes Go.WideShapes Go.ChangeAt
namespace foldLimit
theorem contract (H : Type) (enc : TypeId × Value → H) (W : World) (base : Nat) (args : Array Value) (ds gs : List (DataW H)) (before : List MemPlace)
 (hval : ∀ (j : Nat) t v, Tryz.f10.params[j]? = some t → args[j]? = some v → Value.okWide Tryz.prog W .any base t v)
 (hW : DataW.Whole enc Tryz.prog Tryz.f10.params.toList Rows.foldLimitSpec.vars false W args.toList ds gs before) (hsz0 : (DataW.weightsEach Tryz.prog (Tryz.f10.params.toList ++ Rows.foldLimitSpec.plain.varTypes Tryz.prog) (ds ++ gs)).all (· ≤ reachBytes) = true) :
 Calls Tryz.prog 10 args W fun e W' => ∃ v, e = .returned v ∧ Rows.foldLimitSpec.post enc Tryz.prog Tryz.f10 false true false false W args v W' := by
 have hW' := hW
 have hlt := fun p hp => hW'.lt p hp
 have hsz : (DataW.weightsEach Tryz.prog (Tryz.f10.params.toList ++ []) (ds ++ gs)).all (· ≤ reachBytes) = true := hsz0
 obtain ⟨p, q, hA0, hV, rfl, hfz, hnd⟩ := hW
 have hA : DataW.TrodAll enc Tryz.prog W 0 (fun _ => true) true Tryz.f10.params.toList args.toList ds p := hA0
 rw [Tryz.params10] at hA hval hsz
 obtain ⟨ha, rfl, rfl⟩ := trodAll_nil hA
 obtain rfl : args = #[] := by cases args; simp_all
 obtain ⟨rfl, rfl⟩ := trodVars_none hV
 clear hA hA0 hV
 simp only [List.append_nil] at hW' hlt hsz
 (try simp only [List.nil_append] at hW' hlt hsz)
 refine (foldLimit_walk W).mono fun e W' ⟨he, hb⟩ => ?_
 subst he
 exact ⟨_, rfl, [], [], [], [], [], [], hW', trodAll_cons_mk (shut_bool Tryz.underlying4 _) trodAll_mk0,
  trodAll_mk0, rfl, hb.frame _, fun h => by cases h⟩
theorem lifted (os : Os) (started : os.Started) (H : Type) (enc : TypeId × Value → H) :
 ReturnsInHanded {} Tryz.checked os 10 .any (Rows.foldLimitSpec.pre6 enc Tryz.prog Tryz.f10 Rows.foldLimitRow.domain false) (Rows.foldLimitSpec.post enc Tryz.prog Tryz.f10 false true false false) := by
 refine returnsInHanded_of_change_sized (C := Tryz.checked) own started (by kernel_rfl) Tryz.func10
  (ChangeSpec.witness6 (enc := enc) (C := Tryz.checked) false ⟨#[], #[], []⟩ 8 (by kernel_rfl) (by kernel_rfl) (by kernel_rfl) (by kernel_rfl)) ?_
 intro W base args ds gs before hval hW _ hsz0 _
 exact contract H enc W base args ds gs before hval hW hsz0
theorem proved : Rows.FoldLimitSaid :=
 OpenClaim.holds_of_wide 10 Tryz.f10 rfl rfl rfl rfl rfl rfl rfl ⟨rfl, rfl, rfl, rfl, rfl⟩ rfl rfl rfl rfl rfl (by kernel_rfl) Tryz.func10 (by kernel_rfl)
  (of_decide_eq_true (by kernel_rfl)) (by unfold Func.isWrapper; first | (rw [if_pos (by decide +kernel)]; kernel_rfl) | (rw [if_neg (by decide +kernel)]; exact ⟨rfl, rfl⟩))
  (fun os started H enc _ => lifted os started H enc)
end foldLimit
end
end Go.Proofs.YtengpgodmbfmkaaGreat
