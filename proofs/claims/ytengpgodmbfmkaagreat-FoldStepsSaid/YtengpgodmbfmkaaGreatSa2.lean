/-
  Part 2 of 4: contracts and what they rest on (SRef, SRefC, TCode5, MPartA, FMath, FMat).
-/
import Derived.Test.YtengpgodmbfmkaaGreatC30
namespace Go.Proofs.YtengpgodmbfmkaaGreat
set_option linter.unusedVariables false
set_option linter.unusedSimpArgs false
set_option maxRecDepth 100000
set_option maxHeartbeats 40000000
section
open Go.RowKit
theorem mayR6_any {u : Value} {xs : List Int} {ad : Option Addr} {cap : Nat} {w : World} (A : ArgS w u xs ad cap) :
 Calls Tryz.prog 46 #[u] w fun e w' => e = .returned (.int .i64 (mayC xs)) ∧ w = w' := by
 have HA := Lib.hid A
 obtain rfl := A.is
 obtain ⟨L, hL⟩ : ∃ L, xs.length = L := ⟨_, rfl⟩
 have HL := Lib.hid hL
 obtain ⟨c, hc⟩ : ∃ c, mayC xs = c := ⟨_, rfl⟩
 have HC := Lib.hid hc
 rw [hL, hc]
 clear A hL hc
 by_cases h4 : 4 < L
 · obtain rfl : c = 14 := by rw [← HC.out]; exact mayC_rank (by rw [HL.out]; exact h4)
   have h4I : (4 : Int) < (L : Int) := by omega
   go_enter Tryz.func46, Tryz.ntmps46
   go_wp2
   go_ret
   exact ⟨rfl, rfl⟩
 · have h4I : ¬ (4 : Int) < (L : Int) := by omega
   go_enter Tryz.func46, Tryz.ntmps46
   go_wp2
   go_loop [3] (fun i => ∃ k : Nat, i = .int .i64 (k : Int) ∧ k ≤ L ∧ posS (xs.take k)) (fun i => L - (intOf i).toNat)
   case atStart => exact ⟨0, rfl, Nat.zero_le _, fun x h => by simp at h⟩
   case round =>
    obtain ⟨k, rfl, hkL, hp⟩ := hrel
    have HP := Lib.hid hp
    clear hp
    by_cases hlt : k < L
    · obtain ⟨b, off, rfl, hc⟩ := HA.out.at (i := k) (by rw [HL.out]; exact hlt)
      have hx : xs[k]? = some (xs.getD k 0) := by rw [List.getD_eq_getElem?_getD, List.getElem?_eq_getElem (by rw [HL.out]; exact hlt)]; rfl
      obtain ⟨x, hxe⟩ : ∃ x, xs.getD k 0 = x := ⟨_, rfl⟩
      rw [hxe] at hc hx
      have HX := Lib.hid hx
      have hltI : (k : Int) < (L : Int) := by omega
      clear hxe hx
      by_cases h1 : x < 1
      · obtain rfl : c = 13 := by
         rw [← HC.out]
         refine mayC_dim (by rw [HL.out]; omega) fun hp => ?_
         have := hp x (List.mem_of_getElem? HX.out)
         omega
        go_wp2
        go_ret
        exact ⟨rfl, rfl⟩
      · go_wp2
        go_round
        case rel =>
         refine ⟨k + 1, by go_num, by omega, fun y hy => ?_⟩
         rw [List.take_add_one, HX.out, Option.toList_some] at hy
         rcases List.mem_append.1 hy with h | h
         · exact HP.out y h
         · rw [List.mem_singleton.1 h]; omega
        case measure => simp [intOf]; omega
    · obtain rfl : k = L := by omega
      have hpos : posS xs := by
       have := HP.out
       rwa [List.take_of_length_le (by rw [HL.out]; exact Nat.le_refl _)] at this
      have hltI : ¬ (k : Int) < (k : Int) := by omega
      have HQ := Lib.hid hpos
      clear hpos
      go_wp2
      go_loop [4, 5] (fun n i => ∃ j : Nat, i = .int .i64 (j : Int) ∧ j ≤ k ∧ n = .int .i64 (prodS (xs.take j)) ∧ prodS (xs.take j) ≤ 1024) (fun _ i => k - (intOf i).toNat)
      case atStart => exact ⟨0, rfl, Nat.zero_le _, rfl, by simp [prodS]⟩
      case round =>
       obtain ⟨j, rfl, hjk, rfl, hn⟩ := hrel
       have hn1 := prodS_pos (HQ.out.take j)
       obtain ⟨n, hne⟩ : ∃ n, prodS (xs.take j) = n := ⟨_, rfl⟩
       rw [hne] at hn hn1 ⊢
       by_cases hjl : j < k
       · obtain ⟨b, off, rfl, hc⟩ := HA.out.at (i := j) (by rw [HL.out]; exact hjl)
         have hx1 := HQ.out.getD (i := j) (by rw [HL.out]; exact hjl)
         have hst := prodS_take (s := xs) (k := j) (by rw [HL.out]; exact hjl)
         have hle := getD_le_prod HQ.out (k := j) (by rw [HL.out]; exact hjl)
         have hle2 := prodS_take_le HQ.out (j + 1)
         obtain ⟨x, hxe⟩ : ∃ x, xs.getD j 0 = x := ⟨_, rfl⟩
         rw [hxe] at hc hx1 hst hle
         rw [hne] at hst
         rw [hst] at hle2
         have HST := Lib.hid hst
         have HLE := Lib.hid hle
         have HLE2 := Lib.hid hle2
         have hjI : (j : Int) < (k : Int) := by omega
         clear hxe hne hst hle hle2
         by_cases hbig : 1024 < x
         · obtain rfl : c = 14 := by
            rw [← HC.out]
            exact mayC_count (by rw [HL.out]; omega) HQ.out (by have := HLE.out; omega)
           go_wp2
           go_ret
           exact ⟨rfl, rfl⟩
         · have hm0 : 0 ≤ n * x := Int.mul_nonneg (by omega) (by omega)
           have hm1 : n * x ≤ 1024 * 1024 := Int.mul_le_mul (by omega) (by omega) (by omega) (by omega)
           have hw : IntKind.i64.wrap (n * x) = n * x := IntWalk.i64_in _ (by omega)
           obtain ⟨m, hm⟩ : ∃ m, n * x = m := ⟨_, rfl⟩
           rw [hm] at hm0 hm1 hw
           have HM := Lib.hid hm
           by_cases hbig2 : 1024 < m
           · obtain rfl : c = 14 := by
              rw [← HC.out]
              exact mayC_count (by rw [HL.out]; omega) HQ.out (by have := HLE2.out; have := HM.out; omega)
             go_wp2
             go_ret
             exact ⟨rfl, rfl⟩
           · go_wp2
             go_round
             case rel => exact ⟨j + 1, by go_num, by omega, by rw [HST.out, HM.out], by rw [HST.out, HM.out]; omega⟩
             case measure => simp [intOf]; omega
       · obtain rfl : j = k := by omega
         obtain rfl : c = 0 := by
          rw [← HC.out]
          refine mayC_ok ⟨by rw [HL.out]; omega, HQ.out, ?_⟩
          rw [List.take_of_length_le (by rw [HL.out]; exact Nat.le_refl _)] at hne
          rw [hne]
          exact hn
         have hjI : ¬ (j : Int) < (j : Int) := by omega
         clear hne
         go_wp2
         go_ret
         exact ⟨rfl, rfl⟩
theorem countR6_any {u : Value} {xs : List Int} {ad : Option Addr} {cap : Nat} {w : World} (A : ArgS w u xs ad cap) :
 Calls Tryz.prog 47 #[u] w fun e w' => e = .returned (.int .i64 (countS xs)) ∧ w = w' := by
 have hm := mayR6_any A
 have HA := Lib.hid A
 obtain rfl := A.is
 by_cases h0 : mayC xs = 0
 · have ok := mayC_zero.1 h0
   rw [ok.count]
   rw [h0] at hm
   obtain ⟨L, hL⟩ : ∃ L, xs.length = L := ⟨_, rfl⟩
   have HL := Lib.hid hL
   obtain ⟨P, hP⟩ : ∃ P, prodS xs = P := ⟨_, rfl⟩
   have HP := Lib.hid hP
   rw [hL] at hm ⊢
   rw [hP]
   have HO := Lib.hid ok
   have h4 : L ≤ 4 := by rw [← hL]; exact ok.rank
   clear A hL hP ok h0
   go_enter Tryz.func47, Tryz.ntmps47
   go_wp2_with (go_at_call 46; refine hm.mono ?_; rintro e w1 ⟨rfl, rfl⟩)
   clear hm
   go_loop [3, 4] (fun n i => ∃ j : Nat, i = .int .i64 (j : Int) ∧ j ≤ L ∧ n = .int .i64 (prodS (xs.take j))) (fun _ i => L - (intOf i).toNat)
   case atStart => exact ⟨0, rfl, Nat.zero_le _, rfl⟩
   case round =>
    obtain ⟨j, rfl, hjk, rfl⟩ := hrel
    have hn1 := prodS_pos (HO.out.pos.take j)
    have hn2 := prodS_take_le HO.out.pos j
    have hf := HO.out.few
    obtain ⟨n, hne⟩ : ∃ n, prodS (xs.take j) = n := ⟨_, rfl⟩
    rw [hne] at hn1 hn2 ⊢
    by_cases hjl : j < L
    · obtain ⟨b, off, rfl, hc⟩ := HA.out.at (i := j) (by rw [HL.out]; exact hjl)
      have hx1 := HO.out.pos.getD (i := j) (by rw [HL.out]; exact hjl)
      have hst := prodS_take (s := xs) (k := j) (by rw [HL.out]; exact hjl)
      have hle := getD_le_prod HO.out.pos (k := j) (by rw [HL.out]; exact hjl)
      obtain ⟨x, hxe⟩ : ∃ x, xs.getD j 0 = x := ⟨_, rfl⟩
      rw [hxe] at hc hx1 hst hle
      rw [hne] at hst
      have hm0 : 0 ≤ n * x := Int.mul_nonneg (by omega) (by omega)
      have hm1 : n * x ≤ 1024 * 1024 := Int.mul_le_mul (by omega) (by omega) (by omega) (by omega)
      have hw : wrap64 (n * x) = n * x := by unfold wrap64; omega
      have HST := Lib.hid hst
      have hjI : (j : Int) < (L : Int) := by omega
      clear hxe hne hst hle hf hn2
      go_wp2
      go_round
      case rel => exact ⟨j + 1, by go_num, by omega, by rw [HST.out]⟩
      case measure => simp [intOf]; omega
    · obtain rfl : j = L := by omega
      obtain rfl : n = P := by
       rw [← hne, List.take_of_length_le (by rw [HL.out]; exact Nat.le_refl _)]; exact HP.out
      have hjI : ¬ (j : Int) < (j : Int) := by omega
      clear hne
      go_wp2
      go_ret
      exact ⟨rfl, rfl⟩
 · rw [count_bad h0]
   obtain ⟨c, hc⟩ : ∃ c, mayC xs = c := ⟨_, rfl⟩
   rw [hc] at hm h0
   have hne : (c != 0) = true := by simpa using h0
   clear h0 hc A
   go_enter Tryz.func47, Tryz.ntmps47
   go_wp2_with (go_at_call 46; refine hm.mono ?_; rintro e w1 ⟨rfl, rfl⟩)
   go_ret
   exact ⟨rfl, rfl⟩
end
section
open Go.RowKit
def axesB (l : List Int) (rank : Int) : Bool := decide (∀ i, i < l.length → (0 ≤ l.getD i 0 ∧ l.getD i 0 < rank) ∧ (0 < i → l.getD (i - 1) 0 < l.getD i 0))
theorem axesR_any {u : Value} {xs : List Int} {a : Option Addr} {ca : Nat} {w : World} (rank : Int) (A : ArgS w u xs a ca) (hx : xs.length ≤ 140737488355328) :
 Calls Tryz.prog 25 #[u, .int .i64 rank] w fun e w' => e = .returned (.bool (axesB xs rank)) ∧ Below w.heap.size w w' := by
 have HA := Lib.hid A
 obtain rfl := A.is
 obtain ⟨L, hL⟩ : ∃ L, xs.length = L := ⟨_, rfl⟩
 obtain ⟨d, hd⟩ : ∃ d, axesB xs rank = d := ⟨_, rfl⟩
 have HL := Lib.hid hL
 have hd2 : decide (∀ i, i < L → (0 ≤ xs.getD i 0 ∧ xs.getD i 0 < rank) ∧ (0 < i → xs.getD (i - 1) 0 < xs.getD i 0)) = d := by rw [← hd]; unfold axesB; rw [hL]
 have HD := Lib.hid hd2
 rw [hL] at hx
 rw [hL, hd]
 clear A hL hd hd2
 go_enter Tryz.func25, Tryz.ntmps25
 go_wp2
 go_loopw [5] (fun i wr => ∃ k : Nat, i = .int .i64 (k : Int) ∧ k ≤ L ∧ (∀ i, i < k → (0 ≤ xs.getD i 0 ∧ xs.getD i 0 < rank) ∧ (0 < i → xs.getD (i - 1) 0 < xs.getD i 0)) ∧ Below w.heap.size w wr) (fun i _ => L - (intOf i).toNat)
 case atStart => exact ⟨0, rfl, Nat.zero_le _, (fun i h => by omega), Below.refl _ _⟩
 case round =>
  obtain ⟨k, rfl, hkL, hp, hb⟩ := hrel
  have HP := Lib.hid hp
  clear hp
  by_cases hlt : k < L
  · obtain ⟨b1, o1, rfl, hc1⟩ := (HA.out.later hb).at (i := k) (by rw [HL.out]; exact hlt)
    obtain ⟨x, hxe⟩ : ∃ x, xs.getD k 0 = x := ⟨_, rfl⟩
    rw [hxe] at hc1
    have HX := Lib.hid hxe
    have hltI : (k : Int) < (L : Int) := by omega
    have hin : 0 ≤ (k : Int) ∧ (k : Int) < (L : Int) := by omega
    have hbad : ∀ v : Bool, (¬ ((0 ≤ x ∧ x < rank) ∧ (0 < k → xs.getD (k - 1) 0 < x))) → d = false := by
     intro _ h
     rw [← HD.out, decide_eq_false_iff_not]
     intro hall
     have := hall k hlt
     rw [HX.out] at this
     exact h this
    clear hxe
    by_cases h1 : x < 0
    · obtain rfl : d = false := hbad true (fun h => by omega)
      have d1 : decide (x < 0) = true := decide_eq_true h1
      clear hbad
      go_wp2
      go_quiet (fail)
      go_wp2
      go_ret
      exact ⟨rfl, hb.trans (belowS_drew _ _ _)⟩
    · have d1 : decide (x < 0) = false := decide_eq_false h1
      by_cases h2 : rank ≤ x
      · obtain rfl : d = false := hbad true (fun h => by omega)
        have d2 : decide (rank ≤ x) = true := decide_eq_true h2
        clear hbad
        go_wp2
        go_quiet (fail)
        go_wp2
        go_ret
        exact ⟨rfl, hb.trans (belowS_drew _ _ _)⟩
      · have d2 : decide (rank ≤ x) = false := decide_eq_false h2
        by_cases h3 : k = 0
        · subst h3
          rw [Nat.add_zero] at hc1
          clear hbad
          go_wp2
          go_quiet (fail)
          go_wp2
          go_roundw
          case rel =>
           refine ⟨1, by go_num, by omega, fun i hi => ?_, hb.trans (belowS_drew _ _ _)⟩
           obtain rfl : i = 0 := by omega
           rw [HX.out]
           exact ⟨by omega, fun h => by omega⟩
          case measure => simp [intOf]; omega
        · obtain ⟨m, rfl⟩ : ∃ m, k = m + 1 := ⟨k - 1, by omega⟩
          obtain ⟨b2, o2, e2, hc2⟩ := (HA.out.later hb).at (i := m) (by rw [HL.out]; omega)
          cases e2
          obtain ⟨y, hye⟩ : ∃ y, xs.getD m 0 = y := ⟨_, rfl⟩
          rw [hye] at hc2
          have HY := Lib.hid hye
          have hkI : ((m + 1 : Nat) : Int) - 1 = (m : Int) := by omega
          have hmin : 0 ≤ (m : Int) ∧ (m : Int) < (L : Int) := by omega
          have hpos : (0 : Int) < ((m + 1 : Nat) : Int) := by omega
          have d3 : decide ((0 : Int) < ((m + 1 : Nat) : Int)) = true := decide_eq_true hpos
          clear hye
          by_cases h4 : x ≤ y
          · obtain rfl : d = false := hbad true (fun h => by
             have := h.2 (by omega)
             rw [Nat.add_sub_cancel, HY.out] at this
             omega)
            have d4 : decide (x ≤ y) = true := decide_eq_true h4
            clear hbad
            go_wp2
            go_quiet (fail)
            go_wp2
            go_ret
            exact ⟨rfl, hb.trans (belowS_drew _ _ _)⟩
          · have d4 : decide (x ≤ y) = false := decide_eq_false h4
            clear hbad
            go_wp2
            go_quiet (fail)
            go_wp2
            go_roundw
            case rel =>
             refine ⟨m + 1 + 1, by go_num, by omega, fun i hi => ?_, hb.trans (belowS_drew _ _ _)⟩
             by_cases hik : i = m + 1
             · subst hik
               rw [HX.out, Nat.add_sub_cancel, HY.out]
               exact ⟨by omega, fun _ => by omega⟩
             · exact HP.out i (by omega)
            case measure => simp [intOf]; omega
  · obtain rfl : k = L := by omega
    obtain rfl : d = true := by rw [← HD.out, decide_eq_true_iff]; exact HP.out
    have hltI : ¬ (k : Int) < (k : Int) := by omega
    go_wp2
    go_ret
    exact ⟨rfl, hb⟩
end
section
open Go.RowKit Go.Shelf
attribute [local go_sem] Oper.semAt_some
theorem mayT7_any {n : Nat} {w : World} {v : Value} {s : List Int} {qs : List Q3} {a b : Option Addr} {ca cb : Nat} (T : TensQ w v s qs a ca b cb) (hs : s.length ≤ 1048576) (hq : qs.length ≤ 1048576) (hl : lensQ qs n) (hn : n ≤ 4000000) :
 Calls Tryz.prog 27 #[v] w fun e w' => e = .returned (.int .i64 (mayT s qs)) ∧ Below w.heap.size w w' := mayT7_big T hq hl hn
end
section
open Go.RowKit
theorem Jo.sum {a : Nat} {xs : List X2} (J : Jo a xs) : (joS a xs).getD a 0 = sumD a xs := getD_set_self _ _ _ J.ax
end
section
theorem sumK_zero {f : Nat → Rat} {n : Nat} (h : ∀ k, k < n → f k = 0) : sumK f n = 0 := by
 induction n with
 | zero => rfl
 | succ n ih => simp only [sumK]; rw [ih fun k hk => h k (by omega), h n (by omega)]; grind
theorem sumK_add (f g : Nat → Rat) (n : Nat) : sumK (fun k => f k + g k) n = sumK f n + sumK g n := by
 induction n with
 | zero => simp only [sumK]; grind
 | succ n ih => simp only [sumK]; rw [ih]; grind
theorem sumK_swap (f : Nat → Nat → Rat) (n m : Nat) : sumK (fun i => sumK (fun j => f i j) m) n = sumK (fun j => sumK (fun i => f i j) n) m := by
 induction n with
 | zero => simp only [sumK]; rw [sumK_zero]; exact fun _ _ => rfl
 | succ n ih => simp only [sumK]; rw [ih, ← sumK_add]
theorem sumK_one {f : Nat → Rat} {n i : Nat} (hi : i < n) (h : ∀ k, k < n → k ≠ i → f k = 0) : sumK f n = f i := by
 induction n with
 | zero => omega
 | succ n ih =>
  simp only [sumK]
  by_cases e : i = n
  · subst e; rw [sumK_zero fun k hk => h k (by omega) (by omega)]; grind
  · rw [ih (by omega) fun k hk hn => h k (by omega) hn, h n (by omega) (by omega)]; grind
theorem partL_sum (fm : Nat → Nat) (L : List Rat) (i k : Nat) : totL (partL fm L i k) = sumK (fun p => if fm p = i then L.getD p 0 else 0) k := by
 induction k with
 | zero => rfl
 | succ k ih =>
  simp only [partL, sumK]
  rw [totL_append, ih]
  split
  · rw [totL_one]
  · rfl
theorem gathL_at (fm : Nat → Nat) (n m : Nat) (L : List Rat) {i : Nat} (hi : i < m) : (gathL fm n m L).getD i 0 = sumK (fun p => if fm p = i then L.getD p 0 else 0) n := by
 unfold gathL
 rw [List.getD_eq_getElem?_getD, List.getElem?_map, List.getElem?_range hi]
 exact partL_sum fm L i n
theorem ratL_eq {a b : List Rat} (hl : a.length = b.length) (h : ∀ i, i < a.length → a.getD i 0 = b.getD i 0) : a = b := by
 apply List.ext_getElem hl
 intro i g1 g2
 have := h i g1
 simpa [List.getD_eq_getElem?_getD, g1, g2] using this
theorem gathL_two {t1 t2 t3 : Nat → Nat} {n m k : Nat} (L : List Rat) (h1 : ∀ p, p < n → t1 p < m) (h3 : ∀ p, p < n → t2 (t1 p) = t3 p) : gathL t2 m k (gathL t1 n m L) = gathL t3 n k L := by
 refine ratL_eq (by rw [gathL_len, gathL_len]) fun i hi => ?_
 rw [gathL_len] at hi
 rw [gathL_at _ _ _ _ hi, gathL_at _ _ _ _ hi]
 have e : sumK (fun p => if t2 p = i then (gathL t1 n m L).getD p 0 else 0) m = sumK (fun q => sumK (fun p => if t2 q = i then (if t1 p = q then L.getD p 0 else 0) else 0) n) m := by
  refine sumK_congr fun q hq => ?_
  rw [gathL_at _ _ _ _ hq]
  split
  · rfl
  · rw [sumK_zero]; exact fun _ _ => rfl
 rw [e, sumK_swap]
 refine sumK_congr fun p hp => ?_
 rw [sumK_one (i := t1 p) (h1 p hp) fun q hq hne => by rw [if_neg (show ¬ t1 p = q from fun e => hne e.symm)]; split <;> rfl]
 rw [if_pos rfl, h3 p hp]
theorem gathL_same {fm : Nat → Nat} {n : Nat} {L : List Rat} (hl : L.length = n) (h : ∀ p, p < n → fm p = p) : gathL fm n n L = L := by
 refine ratL_eq (by rw [gathL_len, hl]) fun i hi => ?_
 rw [gathL_len] at hi
 rw [gathL_at _ _ _ _ hi, sumK_one (i := i) hi fun p hp hne => by rw [if_neg (by rw [h p hp]; exact hne)]]
 rw [if_pos (h i hi)]
theorem dropL_none (s : List Int) {j : Nat} (hj : j ≤ s.length) : dropL s [] j = s.take j := by
 induction j with
 | zero => rfl
 | succ j ih =>
  simp only [dropL]
  rw [ih (by omega), if_neg (by simp), List.take_add_one, List.getElem?_eq_getElem (show j < s.length by omega), List.getD_eq_getElem?_getD, List.getElem?_eq_getElem (show j < s.length by omega)]; rfl
theorem dropS_none (s : List Int) : dropS s [] = s := by unfold dropS; rw [dropL_none s (Nat.le_refl _), List.take_length]
theorem sumF_none {s : List Int} {L : List Rat} (ok : OkS s) (hl : L.length = cntF s) : sumF s [] L = L := by
 unfold sumF
 rw [dropS_none]
 refine gathL_same hl fun p hp => ?_
 have hc := ok.cnt
 unfold toF
 rw [dropS_none, dropS_none, (place_idx ok.pos (n := (p : Int)) (by omega) (by omega)).2]
 omega
theorem drop_one {s : List Int} {a : Nat} (ha : a < s.length) : (dropS s [(a : Int)]).length = s.length - 1 ∧ ∀ i, i < s.length - 1 → (dropS s [(a : Int)]).getD i 0 = s.getD (if i < a then i else i + 1) 0 := by
 have key : ∀ j, j ≤ s.length → (dropL s [(a : Int)] j).length = (if j ≤ a then j else j - 1) ∧ ∀ i, i < (if j ≤ a then j else j - 1) → (dropL s [(a : Int)] j).getD i 0 = s.getD (if i < a then i else i + 1) 0 := fun j => by
  induction j with
  | zero => intro _; exact ⟨rfl, fun i hi => by simp at hi⟩
  | succ j ih =>
   intro hj
   obtain ⟨h1, h2⟩ := ih (by omega)
   simp only [dropL]
   by_cases e : j = a
   · subst e
     rw [if_pos (by simp), List.append_nil]
     rw [if_pos (Nat.le_refl _)] at h1 h2
     rw [if_neg (by omega), Nat.add_sub_cancel]
     exact ⟨h1, h2⟩
   · rw [if_neg (by simp; omega)]
     have hlen : (if j + 1 ≤ a then j + 1 else j + 1 - 1) = (if j ≤ a then j else j - 1) + 1 := by split <;> split <;> omega
     rw [hlen]
     refine ⟨by rw [List.length_append, h1]; rfl, fun i hi => ?_⟩
     by_cases e2 : i < (if j ≤ a then j else j - 1)
     · rw [List.getD_eq_getElem?_getD, List.getElem?_append_left (by omega), ← List.getD_eq_getElem?_getD]
       exact h2 i e2
     · obtain rfl : i = (if j ≤ a then j else j - 1) := by omega
       rw [List.getD_eq_getElem?_getD, List.getElem?_append_right (by omega), h1, Nat.sub_self]
       simp only [List.getElem?_cons_zero, Option.getD_some]
       congr 1
       split <;> split <;> omega
 obtain ⟨h1, h2⟩ := key s.length (Nat.le_refl _)
 rw [if_neg (by omega)] at h1 h2
 exact ⟨h1, h2⟩
theorem drop_last {s rest : List Int} {a : Nat} (ha : a < s.length) (hr : ∀ x ∈ rest, 0 ≤ x ∧ x < (a : Int)) : dropS (dropS s [(a : Int)]) rest = dropS s (rest ++ [(a : Int)]) := by
 obtain ⟨d1, d2⟩ := drop_one ha
 have key : ∀ j, j ≤ s.length - 1 → dropL (dropS s [(a : Int)]) rest j = dropL s (rest ++ [(a : Int)]) (if j ≤ a then j else j + 1) ∧ (j = a → dropL s (rest ++ [(a : Int)]) (a + 1) = dropL s (rest ++ [(a : Int)]) a) := fun j => by
  have hdrop : dropL s (rest ++ [(a : Int)]) (a + 1) = dropL s (rest ++ [(a : Int)]) a := by
   simp only [dropL]
   rw [if_pos (by simp), List.append_nil]
  induction j with
  | zero => intro _; exact ⟨by rw [if_pos (Nat.zero_le _)]; rfl, fun _ => hdrop⟩
  | succ j ih =>
   intro hj
   obtain ⟨h1, _⟩ := ih (by omega)
   refine ⟨?_, fun _ => hdrop⟩
   have e1 : dropL (dropS s [(a : Int)]) rest (j + 1) = dropL (dropS s [(a : Int)]) rest j ++ (if (j : Int) ∈ rest then [] else [(dropS s [(a : Int)]).getD j 0]) := rfl
   rw [e1, h1, d2 j (by omega)]
   by_cases hja : j < a
   · rw [if_pos hja, if_pos (show j ≤ a by omega), if_pos (show j + 1 ≤ a by omega)]
     have e2 : dropL s (rest ++ [(a : Int)]) (j + 1) = dropL s (rest ++ [(a : Int)]) j ++ (if (j : Int) ∈ rest ++ [(a : Int)] then [] else [s.getD j 0]) := rfl
     rw [e2]
     by_cases hm : (j : Int) ∈ rest
     · rw [if_pos hm, if_pos (List.mem_append_left _ hm)]
     · rw [if_neg hm, if_neg fun h => by
        rcases List.mem_append.1 h with h | h
        · exact hm h
        · have := List.mem_singleton.1 h; omega]
   · have hn : ¬ (j : Int) ∈ rest := fun hm => by have := (hr _ hm).2; omega
     rw [if_neg hja, if_neg hn, if_neg (show ¬ j + 1 ≤ a by omega)]
     have e2 : dropL s (rest ++ [(a : Int)]) (j + 1 + 1) = dropL s (rest ++ [(a : Int)]) (j + 1) ++ (if ((j + 1 : Nat) : Int) ∈ rest ++ [(a : Int)] then [] else [s.getD (j + 1) 0]) := rfl
     have e3 : (if ((j + 1 : Nat) : Int) ∈ rest ++ [(a : Int)] then ([] : List Int) else [s.getD (j + 1) 0]) = [s.getD (j + 1) 0] := if_neg fun hm => by
      rcases List.mem_append.1 hm with hm | hm
      · have := (hr _ hm).2; omega
      · have := List.mem_singleton.1 hm; omega
     rw [e2, e3]
     by_cases hja2 : j = a
     · subst hja2; rw [if_pos (Nat.le_refl _), hdrop]
     · rw [if_neg (by omega)]
 obtain ⟨h1, h2⟩ := key (s.length - 1) (Nat.le_refl _)
 show dropL (dropS s [(a : Int)]) rest (dropS s [(a : Int)]).length = dropL s (rest ++ [(a : Int)]) s.length
 rw [d1, h1]
 by_cases e : s.length - 1 = a
 · have e2 : s.length = a + 1 := by omega
   rw [if_pos (by omega), e2, h2 e, Nat.add_sub_cancel]
 · rw [if_neg (by omega), show s.length - 1 + 1 = s.length by omega]
theorem sumF_last {s rest : List Int} {a : Nat} {L : List Rat} (ok : OkS s) (ha : a < s.length) (hr : ∀ x ∈ rest, 0 ≤ x ∧ x < (a : Int)) : sumF (dropS s [(a : Int)]) rest (sumF s [(a : Int)] L) = sumF s (rest ++ [(a : Int)]) L := by
 unfold sumF
 rw [drop_last ha hr]
 refine gathL_two L (fun p hp => (toF_in _ ok hp).2.2) fun p hp => ?_
 obtain ⟨h1, h2, h3⟩ := toF_in [(a : Int)] ok hp
 unfold toF at h2 ⊢
 rw [h2, idx_place h1, drop_last ha hr, drop_last (s := idxS s (p : Int)) (by rw [idx_length]; exact ha) hr]
end
section
open Go.RowKit
theorem ArgQ.more10 {w : World} {v : Value} {x : Rat} {n m : Nat} (h : ArgQ w v x n) (hm : n ≤ m) : ArgQ w v x m := by
 obtain ⟨neg, xs, ys, ad, bd, ca, cb, rfl, A, B, e, h1, h2⟩ := h
 exact ⟨neg, xs, ys, ad, bd, ca, cb, rfl, A, B, e, by omega, by omega⟩
end
end Go.Proofs.YtengpgodmbfmkaaGreat
