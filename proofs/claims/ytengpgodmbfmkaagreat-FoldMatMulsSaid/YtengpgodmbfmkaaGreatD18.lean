/-
  Package shape as it landed: rows of marks; among, Drop, Ones.
-/
import Derived.Test.YtengpgodmbfmkaaGreatD14
namespace Go.Proofs.YtengpgodmbfmkaaGreat
set_option linter.unusedVariables false
set_option linter.unusedSimpArgs false
set_option maxRecDepth 100000
set_option maxHeartbeats 40000000
section
open Go.RowKit
theorem inS_wid {s xs : List Int} (h : inS s xs) (hs : Wid s) : Wid xs := by
 intro x hx
 obtain ⟨i, hi, rfl⟩ := List.getElem_of_mem hx
 have hl := inS_length h
 have h1 := inS_at h (i := i) (by omega)
 have h2 := hs.getD i
 have e : xs.getD i 0 = xs[i] := by simp [hi]
 rw [e] at h1
 omega
end
section
open Go.RowKit
theorem make_runS (n : Nat) (hc : n ≤ 17592186044416) (w : World) :
 (Instr.makeSlice 22 (.int .i64 (n : Int)) (.int .i64 (n : Int))).run Tryz.prog w = .ok (.slice (some ⟨w.heap.size, 0, none⟩) n n) (w.alloc (.cells (madeCells #[.int .i64 0] n) 3)) := by
 obtain ⟨i0, hi, hz0, hz1, hz2⟩ := info_parts infoS
 have h := run_make (P := Tryz.prog) w 22 3 i0 (.int .i64 0) Tryz.underlying22 hi hz0 .i64 .i64 n n (by omega) (by omega) (by rw [hz2]; omega) (by omega)
 simpa [hz1, Value.cells] using h
def offC (s xs : List Int) : Int := if mayC s ≠ 0 then mayC s else if xs.length ≠ s.length then 2 else if inS s xs then 0 else 21
def offV (s xs : List Int) : Int := if offC s xs = 0 then placeS s xs else 0
theorem offC_may {s xs : List Int} (h : mayC s ≠ 0) : offC s xs = mayC s := by unfold offC; rw [if_pos h]
theorem offC_arg {s xs : List Int} (h : mayC s = 0) (h2 : xs.length ≠ s.length) : offC s xs = 2 := by unfold offC; rw [if_neg (by rw [h]; simp), if_pos h2]
theorem offC_in {s xs : List Int} (h : mayC s = 0) (h3 : inS s xs) : offC s xs = 0 := by unfold offC; rw [if_neg (by rw [h]; simp), if_neg (by rw [inS_length h3]; simp), if_pos h3]
theorem offC_out {s xs : List Int} (h : mayC s = 0) (h2 : xs.length = s.length) (h3 : ¬ inS s xs) : offC s xs = 21 := by unfold offC; rw [if_neg (by rw [h]; simp), if_neg (by rw [h2]; simp), if_neg h3]
theorem offV_in {s xs : List Int} (h : mayC s = 0) (h3 : inS s xs) : offV s xs = placeS s xs := by unfold offV; rw [if_pos (offC_in h h3)]
theorem offV_bad {s xs : List Int} (h : offC s xs ≠ 0) : offV s xs = 0 := by unfold offV; rw [if_neg h]
end
section
open Go.RowKit
def belowB (n m : Int) : Bool := decide (0 ≤ n ∧ n < m)
theorem belowB_yes {n m : Int} (h : 0 ≤ n) (h2 : n < m) : belowB n m = true := decide_eq_true ⟨h, h2⟩
theorem belowB_no {n m : Int} (h : n < 0 ∨ m ≤ n) : belowB n m = false := decide_eq_false (by omega)
theorem below_any (n m : Int) (w : World) : Calls Tryz.prog 153 #[.int .i64 n, .int .i64 m] w fun e w' => e = .returned (.bool (belowB n m)) ∧ w = w' := by
 obtain ⟨b, hb⟩ : ∃ b, belowB n m = b := ⟨_, rfl⟩
 rw [hb]
 by_cases h0 : 0 ≤ n
 · by_cases h1 : n < m
   · obtain rfl : b = true := by rw [← hb, belowB_yes h0 h1]
     clear hb
     go_enter Tryz.func153, Tryz.ntmps153
     go_wp2
     go_ret
     exact ⟨rfl, rfl⟩
   · obtain rfl : b = false := by rw [← hb, belowB_no (by omega)]
     clear hb
     go_enter Tryz.func153, Tryz.ntmps153
     go_wp2
     go_ret
     exact ⟨rfl, rfl⟩
 · obtain rfl : b = false := by rw [← hb, belowB_no (by omega)]
   clear hb
   go_enter Tryz.func153, Tryz.ntmps153
   go_wp2
   go_ret
   exact ⟨rfl, rfl⟩
def Cnt (s : List Int) (k : Nat) (n e : Int) : Prop := posS (s.take k) ∧ 1 ≤ n ∧ n ≤ 1024 ∧ (e = 0 ∧ n = prodS (s.take k) ∨ e = 14 ∧ 1024 < prodS (s.take k))
theorem Cnt.nil (s : List Int) : Cnt s 0 1 0 := ⟨(fun x h => by simp at h), by omega, by omega, .inl ⟨rfl, rfl⟩⟩
theorem quo_lt {d n : Int} (h1 : 1 ≤ n) : 1024 / n < d ↔ 1024 < n * d := by
 rw [Int.ediv_lt_iff_lt_mul (by omega), Int.mul_comm]
theorem take_pos {s : List Int} {k : Nat} {d : Int} (h : posS (s.take k)) (hd : s[k]? = some d) (h1 : 1 ≤ d) : posS (s.take (k + 1)) := by
 rw [List.take_add_one, hd, Option.toList_some]
 intro x hx
 rcases List.mem_append.1 hx with h2 | h2
 · exact h x h2
 · rw [List.mem_singleton.1 h2]; exact h1
theorem prod_next {s : List Int} {k : Nat} {d : Int} (hd : s[k]? = some d) : prodS (s.take (k + 1)) = prodS (s.take k) * d := by
 have hk : k < s.length := by
  rcases Nat.lt_or_ge k s.length with g | g
  · exact g
  · rw [List.getElem?_eq_none g] at hd; cases hd
 rw [prodS_take hk, List.getD_eq_getElem?_getD, hd]
 rfl
theorem Cnt.big {s : List Int} {k : Nat} {n e d : Int} (h : Cnt s k n e) (hd : s[k]? = some d) (h1 : 1 ≤ d) (h2 : 1024 / n < d) : Cnt s (k + 1) n 14 := by
 obtain ⟨hp, n1, n2, h3⟩ := h
 refine ⟨take_pos hp hd h1, n1, n2, .inr ⟨rfl, ?_⟩⟩
 rw [prod_next hd]
 rw [quo_lt n1] at h2
 rcases h3 with ⟨_, rfl⟩ | ⟨_, h4⟩
 · exact h2
 · have := Int.mul_le_mul_of_nonneg_left h1 (show 0 ≤ prodS (s.take k) by omega)
   omega
theorem Cnt.next {s : List Int} {k : Nat} {n e d : Int} (h : Cnt s k n e) (hd : s[k]? = some d) (h1 : 1 ≤ d) (h2 : ¬ 1024 / n < d) : Cnt s (k + 1) (n * d) e ∧ 1 ≤ n * d ∧ n * d ≤ 1024 := by
 obtain ⟨hp, n1, n2, h3⟩ := h
 rw [quo_lt n1] at h2
 have h5 : 1 * 1 ≤ n * d := Int.mul_le_mul n1 h1 (by omega) (by omega)
 refine ⟨⟨take_pos hp hd h1, by omega, by omega, ?_⟩, by omega, by omega⟩
 rw [prod_next hd]
 rcases h3 with ⟨h3, rfl⟩ | ⟨h3, h4⟩
 · exact .inl ⟨h3, rfl⟩
 · refine .inr ⟨h3, ?_⟩
   have := Int.mul_le_mul_of_nonneg_left h1 (show 0 ≤ prodS (s.take k) by omega)
   omega
theorem cnt_any {u : Value} {xs : List Int} {ad : Option Addr} {cap : Nat} {w : World} (A : ArgS w u xs ad cap) :
 Calls Tryz.prog 126 #[u] w fun e w' => e = .returned (.tuple #[.int .i64 (countS xs), .int .i64 (mayC xs)]) ∧ w = w' := by
 have HA := Lib.hid A
 obtain rfl := A.is
 obtain ⟨L, hL⟩ : ∃ L, xs.length = L := ⟨_, rfl⟩
 have HL := Lib.hid hL
 obtain ⟨c, hc⟩ : ∃ c, mayC xs = c := ⟨_, rfl⟩
 have HC := Lib.hid hc
 obtain ⟨t, ht⟩ : ∃ t, countS xs = t := ⟨_, rfl⟩
 have HT := Lib.hid ht
 rw [hL, hc, ht]
 clear A hL hc ht
 by_cases h4 : 4 < L
 · have hm : mayC xs = 14 := mayC_rank (by rw [HL.out]; exact h4)
   obtain rfl : c = 14 := by rw [← HC.out]; exact hm
   obtain rfl : t = 0 := by rw [← HT.out]; exact count_bad (by rw [hm]; decide)
   have h4I : (4 : Int) < (L : Int) := by omega
   clear hm
   go_enter Tryz.func126, Tryz.ntmps126
   go_wp2
   go_step3
   go_wp2
   rw [Exit.noGoto_ret]
   go_ret2
   exact ⟨rfl, rfl⟩
 · have h4I : ¬ (4 : Int) < (L : Int) := by omega
   go_enter Tryz.func126, Tryz.ntmps126
   go_wp2
   go_step3
   go_wp2
   go_step3
   go_wp2
   go_loop [4, 5, 13] (fun n e i => ∃ (k : Nat) (N E : Int), i = .int .i64 (k : Int) ∧ n = .int .i64 N ∧ e = .int .i64 E ∧ k ≤ L ∧ Cnt xs k N E) (fun _ _ i => L - (intOf i).toNat)
   case atStart => exact ⟨0, 1, 0, rfl, rfl, rfl, Nat.zero_le _, Cnt.nil _⟩
   case round =>
    obtain ⟨k, N, E, rfl, rfl, rfl, hkL, hI⟩ := hrel
    obtain ⟨hp, n1, n2, hE⟩ := hI
    by_cases hlt : k < L
    · obtain ⟨b, off, rfl, hc⟩ := HA.out.at (i := k) (by rw [HL.out]; exact hlt)
      have hx : xs[k]? = some (xs.getD k 0) := by rw [List.getD_eq_getElem?_getD, List.getElem?_eq_getElem (by rw [HL.out]; exact hlt)]; rfl
      obtain ⟨x, hxe⟩ : ∃ x, xs.getD k 0 = x := ⟨_, rfl⟩
      rw [hxe] at hc hx
      have HX := Lib.hid hx
      have hltI : (k : Int) < (L : Int) := by omega
      have HI : Hid (Cnt xs k N E) := Lib.hid ⟨hp, n1, n2, hE⟩
      clear hxe hx hp hE
      by_cases h1 : x < 1
      · have hm : mayC xs = 13 := by
         refine mayC_dim (by rw [HL.out]; omega) fun hp => ?_
         have := hp x (List.mem_of_getElem? HX.out)
         omega
        obtain rfl : c = 13 := by rw [← HC.out]; exact hm
        obtain rfl : t = 0 := by rw [← HT.out]; exact count_bad (by rw [hm]; decide)
        clear hm
        go_wp2
        go_ret2
        exact ⟨rfl, rfl⟩
      · by_cases h2 : 1024 / N < x
        · go_wp2
          go_round
          case rel => exact ⟨k + 1, N, 14, by go_num, rfl, rfl, by omega, HI.out.big HX.out (by omega) h2⟩
          case measure => simp [intOf]; omega
        · obtain ⟨hI, m1, m2⟩ := HI.out.next HX.out (by omega) h2
          have hw : wrap64 (N * x) = N * x := by unfold wrap64; omega
          have HJ := Lib.hid hI
          clear hI
          go_wp2
          go_round
          case rel => exact ⟨k + 1, _, E, by go_num, by first | rfl | rw [hw], rfl, by omega, HJ.out⟩
          case measure => simp [intOf]; omega
    · obtain rfl : k = L := by omega
      have hltI : ¬ (k : Int) < (k : Int) := by omega
      rw [List.take_of_length_le (by rw [HL.out]; exact Nat.le_refl _)] at hE hp
      rcases hE with ⟨rfl, hN⟩ | ⟨rfl, hN⟩
      · have ok : OkS xs := ⟨by rw [HL.out]; omega, hp, by omega⟩
        obtain rfl : c = 0 := by rw [← HC.out]; exact mayC_ok ok
        obtain rfl : t = N := by rw [← HT.out, ok.count]; exact hN.symm
        clear hN hp ok
        go_wp2
        go_ret2
        exact ⟨rfl, rfl⟩
      · have hm : mayC xs = 14 := mayC_count (by rw [HL.out]; omega) hp hN
        obtain rfl : c = 14 := by rw [← HC.out]; exact hm
        obtain rfl : t = 0 := by rw [← HT.out]; exact count_bad (by rw [hm]; decide)
        clear hN hp hm
        go_wp2
        go_ret2
        exact ⟨rfl, rfl⟩
theorem mayS_eq {u : Value} {xs : List Int} {ad : Option Addr} {cap : Nat} {w : World} (A : ArgS w u xs ad cap) :
 Calls Tryz.prog 96 #[u] w fun e w' => e = .returned (.int .i64 (mayC xs)) ∧ w = w' := by
 have h := cnt_any A
 obtain rfl := A.is
 obtain ⟨c, hc⟩ : ∃ c, mayC xs = c := ⟨_, rfl⟩
 obtain ⟨t, ht⟩ : ∃ t, countS xs = t := ⟨_, rfl⟩
 obtain ⟨L, hL⟩ : ∃ L, xs.length = L := ⟨_, rfl⟩
 rw [hc, ht, hL] at h
 rw [hc, hL]
 clear A hc ht hL
 go_enter Tryz.func96, Tryz.ntmps96
 go_wp2_with (go_at_call 126; refine h.mono ?_; rintro e w1 ⟨rfl, rfl⟩)
 go_ret
 exact ⟨rfl, rfl⟩
theorem countS_eq {u : Value} {xs : List Int} {ad : Option Addr} {cap : Nat} {w : World} (A : ArgS w u xs ad cap) :
 Calls Tryz.prog 84 #[u] w fun e w' => e = .returned (.int .i64 (countS xs)) ∧ w = w' := by
 have h := cnt_any A
 obtain rfl := A.is
 obtain ⟨c, hc⟩ : ∃ c, mayC xs = c := ⟨_, rfl⟩
 obtain ⟨t, ht⟩ : ∃ t, countS xs = t := ⟨_, rfl⟩
 obtain ⟨L, hL⟩ : ∃ L, xs.length = L := ⟨_, rfl⟩
 rw [hc, ht, hL] at h
 rw [ht, hL]
 clear A hc ht hL
 go_enter Tryz.func84, Tryz.ntmps84
 go_wp2_with (go_at_call 126; refine h.mono ?_; rintro e w1 ⟨rfl, rfl⟩)
 go_ret
 exact ⟨rfl, rfl⟩
theorem mayS_any {u : Value} {xs : List Int} {ad : Option Addr} {cap : Nat} {w : World} (A : ArgS w u xs ad cap) (hx : xs.length ≤ 17592186044416) :
 Calls Tryz.prog 96 #[u] w fun e w' => e = .returned (.int .i64 (mayC xs)) ∧ Below w.heap.size w w' :=
 (mayS_eq A).mono fun _ _ ⟨h1, h2⟩ => ⟨h1, h2 ▸ Below.refl _ _⟩
theorem countS_any {u : Value} {xs : List Int} {ad : Option Addr} {cap : Nat} {w : World} (A : ArgS w u xs ad cap) (hx : xs.length ≤ 17592186044416) :
 Calls Tryz.prog 84 #[u] w fun e w' => e = .returned (.int .i64 (countS xs)) ∧ Below w.heap.size w w' :=
 (countS_eq A).mono fun _ _ ⟨h1, h2⟩ => ⟨h1, h2 ▸ Below.refl _ _⟩
end
section
open Go.RowKit
theorem place_snoc {s xs : List Int} (hl : xs.length = s.length) (d x : Int) : placeS (s ++ [d]) (xs ++ [x]) = placeS s xs * d + x := by
 induction s generalizing xs with
 | nil =>
  obtain rfl := List.eq_nil_of_length_eq_zero hl
  simp [placeS, prodS]
 | cons c cs ih => cases xs with
  | nil => simp at hl
  | cons y ys =>
   have := ih (xs := ys) (by simpa using hl)
   simp only [List.cons_append, placeS, this, prodS_append, prodS]
   rw [Int.add_mul, Int.mul_one, Int.mul_assoc]
   omega
theorem inS_snoc {s xs : List Int} (h : inS s xs) {d x : Int} (h0 : 0 ≤ x) (h1 : x < d) : inS (s ++ [d]) (xs ++ [x]) := by
 induction s generalizing xs with
 | nil =>
  obtain rfl := List.eq_nil_of_length_eq_zero (inS_length h)
  exact ⟨⟨h0, h1⟩, trivial⟩
 | cons c cs ih => cases xs with
  | nil => exact h.elim
  | cons y ys => exact ⟨h.1, ih h.2⟩
theorem inS_next {s xs : List Int} {k : Nat} {d x : Int} (h : inS (s.take k) (xs.take k)) (hd : s[k]? = some d) (hx : xs[k]? = some x) (h0 : 0 ≤ x) (h1 : x < d) : inS (s.take (k + 1)) (xs.take (k + 1)) := by
 rw [List.take_add_one, List.take_add_one, hd, hx]
 exact inS_snoc h h0 h1
theorem place_next {s xs : List Int} {k : Nat} {d x : Int} (h : inS (s.take k) (xs.take k)) (hd : s[k]? = some d) (hx : xs[k]? = some x) : placeS (s.take (k + 1)) (xs.take (k + 1)) = placeS (s.take k) (xs.take k) * d + x := by
 rw [List.take_add_one, List.take_add_one, hd, hx]
 exact place_snoc (inS_length h) d x
theorem place_small {s xs : List Int} {k : Nat} (ok : OkS s) (h : inS (s.take k) (xs.take k)) : 0 ≤ placeS (s.take k) (xs.take k) ∧ placeS (s.take k) (xs.take k) < 1024 := by
 have h1 := place_range h
 have h2 := prodS_take_le ok.pos k
 have h3 := ok.few
 omega
theorem offsetS_any {u v : Value} {s xs : List Int} {a b : Option Addr} {ca cb : Nat} {w : World} (A : ArgS w u s a ca) (B : ArgS w v xs b cb) (ha : a = none → ca = 0) (hb : b = none → cb = 0) (hx : s.length ≤ 17592186044416) (hy : xs.length ≤ 17592186044416) :
 Calls Tryz.prog 129 #[u, v] w fun e w' => e = .returned (.tuple #[.int .i64 (offV s xs), .int .i64 (offC s xs)]) ∧ Below w.heap.size w w' := by
 refine Calls.mono (R := fun e w' => e = .returned (.tuple #[.int .i64 (offV s xs), .int .i64 (offC s xs)]) ∧ w = w') ?_ (fun _ _ ⟨h1, h2⟩ => ⟨h1, h2 ▸ Below.refl _ _⟩)
 have hm := mayS_eq A
 have HA := Lib.hid A
 have HB := Lib.hid B
 obtain rfl := A.is
 obtain rfl := B.is
 obtain ⟨c, hc⟩ : ∃ c, offC s xs = c := ⟨_, rfl⟩
 obtain ⟨t, ht⟩ : ∃ t, offV s xs = t := ⟨_, rfl⟩
 obtain ⟨m, hmc⟩ : ∃ m, mayC s = m := ⟨_, rfl⟩
 obtain ⟨L, hL⟩ : ∃ L, s.length = L := ⟨_, rfl⟩
 obtain ⟨M, hM⟩ : ∃ M, xs.length = M := ⟨_, rfl⟩
 rw [hmc, hL] at hm
 rw [hc, ht, hL, hM]
 have HC := Lib.hid hc
 have HT := Lib.hid ht
 have HM := Lib.hid hM
 have HL := Lib.hid hL
 have HMC := Lib.hid hmc
 rw [hL] at hx
 rw [hM] at hy
 clear A B ha hb hc ht hmc hL hM
 by_cases h0 : m = 0
 · subst h0
   by_cases hl : M = L
   · subst hl
     have hlI : ((M : Int) != (M : Int)) = false := by simp
     have ok := mayC_zero.1 HMC.out
     have hM4 : M ≤ 4 := by rw [← HL.out]; exact ok.rank
     have HO := Lib.hid ok
     clear ok
     go_enter Tryz.func129, Tryz.ntmps129
     go_wp2_with (go_at_call 96; refine hm.mono ?_; rintro e w1 ⟨rfl, rfl⟩)
     clear hm
     go_loop [7, 8, 9, 22] (fun p _ _ i => ∃ (k : Nat) (P : Int), i = .int .i64 (k : Int) ∧ p = .int .i64 P ∧ k ≤ M ∧ inS (s.take k) (xs.take k) ∧ P = placeS (s.take k) (xs.take k)) (fun _ _ _ i => M - (intOf i).toNat)
     case atStart => exact ⟨0, 0, rfl, rfl, Nat.zero_le _, trivial, rfl⟩
     case round =>
      obtain ⟨k, P, rfl, rfl, hk, hin, hP⟩ := hrel
      have hsm := place_small HO.out hin
      rw [← hP] at hsm
      obtain ⟨hP0, hP1⟩ := hsm
      have HIN := Lib.hid hin
      have HP := Lib.hid hP
      clear hin hP
      by_cases hlt : k < M
      · obtain ⟨b1, o1, rfl, c1⟩ := HA.out.at (i := k) (by rw [HL.out]; exact hlt)
        obtain ⟨b2, o2, rfl, c2⟩ := HB.out.at (i := k) (by rw [HM.out]; exact hlt)
        have hd := getD_some (xs := s) (k := k) (by rw [HL.out]; exact hlt)
        have hxx := getD_some (xs := xs) (k := k) (by rw [HM.out]; exact hlt)
        have hd1 := HO.out.pos.getD (i := k) (by rw [HL.out]; exact hlt)
        have hd2 := getD_le_prod HO.out.pos (k := k) (by rw [HL.out]; exact hlt)
        have hf := HO.out.few
        obtain ⟨d, hde⟩ : ∃ d, s.getD k 0 = d := ⟨_, rfl⟩
        obtain ⟨x, hxe⟩ : ∃ x, xs.getD k 0 = x := ⟨_, rfl⟩
        rw [hde] at c1 hd hd1 hd2
        rw [hxe] at c2 hxx
        have HD := Lib.hid hd
        have HX := Lib.hid hxx
        have HDE := Lib.hid hde
        have HXE := Lib.hid hxe
        have hbw := below_any x d w
        have hltI : (k : Int) < (M : Int) := by omega
        have hd3 : d ≤ 1024 := by omega
        clear hd hxx hd2 hf hde hxe
        by_cases hg : 0 ≤ x ∧ x < d
        · obtain ⟨g0, g1⟩ := hg
          rw [belowB_yes g0 g1] at hbw
          have hn := inS_next HIN.out HD.out HX.out g0 g1
          have hp := place_next HIN.out HD.out HX.out
          have hs := place_small HO.out hn
          rw [hp, ← HP.out] at hs
          have e0 : 0 ≤ P * d := Int.mul_nonneg hP0 (by omega)
          have e1 : P * d ≤ 1024 * 1024 := Int.mul_le_mul (by omega) hd3 (by omega) (by omega)
          have w1 : wrap64 (P * d) = P * d := by unfold wrap64; omega
          have w2 : wrap64 (P * d + x) = P * d + x := by unfold wrap64; omega
          have HN := Lib.hid hn
          have HPN := Lib.hid hp
          clear hn hp hs
          go_wp2_with (go_at_call 153; refine hbw.mono ?_; rintro e w1 ⟨rfl, rfl⟩)
          go_round
          case rel => exact ⟨k + 1, _, by go_num, rfl, by omega, HN.out, by rw [HPN.out, ← HP.out] <;> first | exact w2 | rw [w1, w2]⟩
          case measure => simp [intOf]; omega
        · rw [belowB_no (by omega)] at hbw
          have hno : ¬ inS s xs := fun h => by
           have := inS_at h (i := k) (by rw [HL.out]; exact hlt)
           rw [HDE.out, HXE.out] at this
           exact hg this
          have hcc := offC_out HMC.out (by rw [HM.out, HL.out]) hno
          obtain rfl : c = 21 := by rw [← HC.out]; exact hcc
          obtain rfl : t = 0 := by rw [← HT.out]; exact offV_bad (by rw [hcc]; decide)
          clear hcc hno hg
          go_wp2_with (go_at_call 153; refine hbw.mono ?_; rintro e w1 ⟨rfl, rfl⟩)
          go_ret2
          exact ⟨rfl, rfl⟩
      · obtain rfl : k = M := by omega
        have hin := HIN.out
        have hP := HP.out
        rw [take_all HL.out, take_all HM.out] at hin hP
        obtain rfl : c = 0 := by rw [← HC.out]; exact offC_in HMC.out hin
        obtain rfl : t = P := by rw [← HT.out, offV_in HMC.out hin]; exact hP.symm
        have hltI : ¬ (k : Int) < (k : Int) := by omega
        clear hin hP
        go_wp2
        go_ret2
        exact ⟨rfl, rfl⟩
   · have hcc := offC_arg HMC.out (by rw [HM.out, HL.out]; exact hl)
     obtain rfl : c = 2 := by rw [← HC.out]; exact hcc
     obtain rfl : t = 0 := by rw [← HT.out]; exact offV_bad (by rw [hcc]; decide)
     have hlI : ((M : Int) != (L : Int)) = true := by simp; omega
     clear hcc
     go_enter Tryz.func129, Tryz.ntmps129
     go_wp2_with (go_at_call 96; refine hm.mono ?_; rintro e w1 ⟨rfl, rfl⟩)
     go_ret2
     exact ⟨rfl, rfl⟩
 · have hcc := offC_may (s := s) (xs := xs) (by rw [HMC.out]; exact h0)
   obtain rfl : c = m := by rw [← HC.out, hcc]; exact HMC.out
   obtain rfl : t = 0 := by rw [← HT.out]; exact offV_bad (by rw [HC.out]; exact h0)
   have hne : (c != 0) = true := by simpa using h0
   clear hcc
   go_enter Tryz.func129, Tryz.ntmps129
   go_wp2_with (go_at_call 96; refine hm.mono ?_; rintro e w1 ⟨rfl, rfl⟩)
   go_ret2
   exact ⟨rfl, rfl⟩
def axU (l : List Int) (rank : Int) (k : Nat) : Prop := ∀ i, i < k → (0 ≤ l.getD i 0 ∧ l.getD i 0 < rank) ∧ (0 < i → l.getD (i - 1) 0 < l.getD i 0)
def lastS (l : List Int) : Nat → Int
 | 0 => -1
 | k + 1 => l.getD k 0
theorem axU.next {l : List Int} {rank : Int} {k : Nat} (h : axU l rank k) (h0 : lastS l k < l.getD k 0) (h1 : 0 ≤ l.getD k 0) (h2 : l.getD k 0 < rank) : axU l rank (k + 1) := by
 intro i hi
 by_cases e : i = k
 · subst e
   refine ⟨⟨h1, h2⟩, fun hp => ?_⟩
   obtain ⟨j, rfl⟩ : ∃ j, i = j + 1 := ⟨i - 1, by omega⟩
   exact h0
 · exact h i (by omega)
end
section
open Go.RowKit
def MrkS (w : World) (g : Nat) (zs : List Bool) : Prop := w.heap[g]? = some (.cells (zs.map Value.bool).toArray 4 (0, 0))
theorem MrkS.cell {w : World} {g : Nat} {zs : List Bool} (h : MrkS w g zs) (i : Nat) (hi : i < zs.length) : w.cell? ⟨g, i, none⟩ = some (.bool (zs.getD i false)) := by
 have e : w.cell? ⟨g, i, none⟩ = ((zs.map Value.bool).toArray)[i]? := cell_of_row w g i _ 4 (0, 0) h
 rw [e]; simp [hi]
theorem MrkS.free {w : World} {g : Nat} {zs : List Bool} (h : MrkS w g zs) (i : Nat) : w.frozen? ⟨g, i, none⟩ = false := frozen_of_row w g i _ 4 h
theorem MrkS.lt {w : World} {g : Nat} {zs : List Bool} (h : MrkS w g zs) : g < w.heap.size := lt_of_block h
theorem MrkS.same {w w' : World} {g : Nat} {zs : List Bool} (h : MrkS w g zs) (e : w'.heap[g]? = w.heap[g]?) : MrkS w' g zs := e.trans h
theorem MrkS.alloc {w : World} {g : Nat} {zs : List Bool} (h : MrkS w g zs) (o : Obj) : MrkS (w.alloc o) g zs := h.same (Below.heap_alloc _ _ _ h.lt)
theorem MrkS.below {w w' : World} {g B : Nat} {zs : List Bool} (h : MrkS w g zs) (k : Below B w w') (hb : g < B) : MrkS w' g zs := h.same (k.block g hb)
theorem MrkS.far {w : World} {g : Nat} {zs : List Bool} (h : MrkS w g zs) {p : Addr} (hne : g ≠ p.block) (u : Value) : MrkS (w.setCell p u) g zs := h.same (Below.heap_setCell _ _ _ _ hne)
theorem MrkS.set {w : World} {g : Nat} {zs : List Bool} (h : MrkS w g zs) (i : Nat) (x : Bool) : MrkS (w.setCell ⟨g, i, none⟩ (.bool x)) g (zs.set i x) := by
 have hh := heap_setCell_same w g i _ 4 (.bool x) h
 unfold MrkS
 rw [hh]
 congr 2
 simp [List.map_set]
theorem MrkS.made (w : World) (n : Nat) : MrkS (w.alloc (.cells (madeCells #[.bool false] n) 4)) w.heap.size (List.replicate n false) := by
 have h := heap_alloc_new w (.cells (madeCells #[.bool false] n) 4)
 unfold MrkS
 rw [h]
 congr 2
 apply Array.ext
 · simp [madeCells]
 · intro i h1 h2
   simp [madeCells, Nat.mod_one]
theorem infoM : (Tryz.prog.info? 4).map (fun i => (i.zero, i.size, i.bytes)) = some (some (.bool false), 1, 1) := by kernel_rfl
theorem make_runM (n : Nat) (hc : n ≤ 17592186044416) (w : World) :
 (Instr.makeSlice 187 (.int .i64 (n : Int)) (.int .i64 (n : Int))).run Tryz.prog w = .ok (.slice (some ⟨w.heap.size, 0, none⟩) n n) (w.alloc (.cells (madeCells #[.bool false] n) 4)) := by
 obtain ⟨i0, hi, hz0, hz1, hz2⟩ := info_parts infoM
 have h := run_make (P := Tryz.prog) w 187 4 i0 (.bool false) Tryz.underlying187 hi hz0 .i64 .i64 n n (by omega) (by omega) (by rw [hz2]; omega) (by omega)
 simpa [hz1, Value.cells] using h
theorem make_runH (n m : Nat) (hm : n ≤ m) (hc : m ≤ 17592186044416) (w : World) :
 (Instr.makeSlice 23 (.int .i64 (n : Int)) (.int .i64 (m : Int))).run Tryz.prog w = .ok (.slice (some ⟨w.heap.size, 0, none⟩) n m) (w.alloc (.cells (madeCells #[.int .i64 0] m) 3)) := by
 obtain ⟨i0, hi, hz0, hz1, hz2⟩ := info_parts infoS
 have h := run_make (P := Tryz.prog) w 23 3 i0 (.int .i64 0) Tryz.underlying23 hi hz0 .i64 .i64 n m (by omega) (by omega) (by rw [hz2]; omega) (by omega)
 simpa [hz1, Value.cells] using h
def MarkS (w : World) (p n : Nat) (l : List Int) : Prop := ∃ g, w.cell? ⟨p, 0, none⟩ = some (.slice (some ⟨g, 0, none⟩) n n) ∧ ∀ i, i < n → w.cell? ⟨g, i, none⟩ = some (.bool (decide ((i : Int) ∈ l)))
theorem MarkS.later {w w' : World} {p n : Nat} {l : List Int} (h : MarkS w p n l) (hb : Below w.heap.size w w') : MarkS w' p n l := by
 obtain ⟨g, h1, h2⟩ := h
 exact ⟨g, (hb.cell (World.block_lt_of_cell? w _ h1)).trans h1, fun i hi => (hb.cell (World.block_lt_of_cell? w _ (h2 i hi))).trans (h2 i hi)⟩
def SeenM (l : List Int) (n k : Nat) (M : List Bool) : Prop := M.length = n ∧ ∀ i, i < n → M.getD i false = decide ((i : Int) ∈ l.take k)
theorem SeenM.nil (l : List Int) (n : Nat) : SeenM l n 0 (List.replicate n false) := ⟨by simp, fun i hi => by simp [List.getD_eq_getElem?_getD, hi]⟩
theorem mem_next {l : List Int} {k : Nat} {x y : Int} (hx : l[k]? = some x) : y ∈ l.take (k + 1) ↔ y ∈ l.take k ∨ y = x := by
 rw [List.take_add_one, hx, Option.toList_some, List.mem_append, List.mem_singleton]
theorem SeenM.skip {l : List Int} {n k : Nat} {M : List Bool} {x : Int} (h : SeenM l n k M) (hx : l[k]? = some x) (ho : x < 0 ∨ (n : Int) ≤ x) : SeenM l n (k + 1) M := by
 refine ⟨h.1, fun i hi => ?_⟩
 rw [h.2 i hi]
 apply decide_eq_decide.2
 rw [mem_next hx]
 exact ⟨.inl, fun h => h.elim id fun e => by omega⟩
theorem SeenM.mark {l : List Int} {n k j : Nat} {M : List Bool} (h : SeenM l n k M) (hx : l[k]? = some (j : Int)) (hj : j < n) : SeenM l n (k + 1) (M.set j true) := by
 refine ⟨by rw [List.length_set]; exact h.1, fun i hi => ?_⟩
 by_cases e : i = j
 · subst e
   rw [List.getD_eq_getElem?_getD, List.getElem?_set_self (by rw [h.1]; exact hi)]
   exact (decide_eq_true ((mem_next hx).2 (.inr rfl))).symm
 · rw [List.getD_eq_getElem?_getD, List.getElem?_set_ne (by omega), ← List.getD_eq_getElem?_getD, h.2 i hi]
   apply decide_eq_decide.2
   rw [mem_next hx]
   exact ⟨.inl, fun h => h.elim id fun e2 => by omega⟩
theorem amongL_any {p n i : Nat} {l : List Int} {w : World} (M : MarkS w p n l) (hi : i < n) :
 Calls Tryz.prog 154 #[.int .i64 (i : Int), .pointer (some ⟨p, 0, none⟩)] w fun e w' => e = .returned (.bool (decide ((i : Int) ∈ l))) ∧ w = w' := by
 obtain ⟨g, h1, h2⟩ := M
 have h3 := h2 i hi
 have hiI : (i : Int) < (n : Int) := by omega
 obtain ⟨b, hb⟩ : ∃ b, decide ((i : Int) ∈ l) = b := ⟨_, rfl⟩
 rw [hb] at h3 ⊢
 clear h2 hb
 go_enter Tryz.func154, Tryz.ntmps154
 go_wp2
 go_ret
 exact ⟨rfl, rfl⟩
theorem among_any {u : Value} {l : List Int} {a : Option Addr} {ca : Nat} {w : World} (n : Nat) (A : ArgS w u l a ca) (hn : n ≤ 17592186044416) (hl : l.length ≤ 17592186044416) :
 Calls Tryz.prog 125 #[u, .int .i64 (n : Int)] w fun e w' => ∃ p, e = .returned (.func (.func 154) #[] #[.pointer (some ⟨p, 0, none⟩)]) ∧ MarkS w' p n l ∧ Below w.heap.size w w' := by
 have HA := Lib.hid A
 obtain rfl := A.is
 obtain ⟨L, hL⟩ : ∃ L, l.length = L := ⟨_, rfl⟩
 have HL := Lib.hid hL
 have hmk := make_runM n hn
 have hmf : ∀ (fn : Fn) (first cap : Array Value) (w : World), (Instr.makeFunc fn first cap).run Tryz.prog w = .ok (.func fn first cap) w := fun _ _ _ _ => rfl
 rw [hL] at hl ⊢
 clear A hL
 go_enter Tryz.func125, Tryz.ntmps125
 go_wp2
 have hb0 : Below w.heap.size w ((w.alloc (.cells (madeCells #[.bool false] n) 4)).alloc (.cells #[.slice (some ⟨w.heap.size, 0, none⟩) n n] 187)) := ((Below.refl _ w).alloc (Nat.le_refl _) _).alloc (by simp) _
 have hm0 : MrkS ((w.alloc (.cells (madeCells #[.bool false] n) 4)).alloc (.cells #[.slice (some ⟨w.heap.size, 0, none⟩) n n] 187)) w.heap.size (List.replicate n false) := (MrkS.made w n).alloc _
 have hc0 : ((w.alloc (.cells (madeCells #[.bool false] n) 4)).alloc (.cells #[.slice (some ⟨w.heap.size, 0, none⟩) n n] 187)).cell? ⟨w.heap.size + 1, 0, none⟩ = some (.slice (some ⟨w.heap.size, 0, none⟩) n n) := by
  simp
 have HB0 := Lib.hid hb0
 have HM0 := Lib.hid hm0
 have HC0 := Lib.hid hc0
 clear hb0 hm0 hc0
 go_loopw [7, 12] (fun _ i wr => ∃ (k : Nat) (M : List Bool), i = .int .i64 (k : Int) ∧ k ≤ L ∧ MrkS wr w.heap.size M ∧ SeenM l n k M ∧ wr.cell? ⟨w.heap.size + 1, 0, none⟩ = some (.slice (some ⟨w.heap.size, 0, none⟩) n n) ∧ Below w.heap.size w wr) (fun _ i _ => L - (intOf i).toNat)
 case atStart => exact ⟨0, _, rfl, Nat.zero_le _, HM0.out, SeenM.nil l n, HC0.out, HB0.out⟩
 case round =>
  obtain ⟨k, M, rfl, hk, hM, hS, hc, hb⟩ := hrel
  have hsz := hb.size
  have HMK := Lib.hid hM
  have HS := Lib.hid hS
  have HCC := Lib.hid hc
  by_cases hlt : k < L
  · obtain ⟨b1, o1, rfl, c1⟩ := (HA.out.later hb).at (i := k) (by rw [HL.out]; exact hlt)
    have hxx := getD_some (xs := l) (k := k) (by rw [HL.out]; exact hlt)
    obtain ⟨x, hxe⟩ : ∃ x, l.getD k 0 = x := ⟨_, rfl⟩
    rw [hxe] at c1 hxx
    have HX := Lib.hid hxx
    have hbw := below_any x (n : Int) wr
    have hltI : (k : Int) < (L : Int) := by omega
    clear hxx hxe hS
    by_cases hg : 0 ≤ x ∧ x < n
    · obtain ⟨g0, g1⟩ := hg
      rw [belowB_yes g0 g1] at hbw
      obtain ⟨j, rfl⟩ : ∃ j : Nat, x = (j : Int) := ⟨x.toNat, by omega⟩
      have hj : j < n := by omega
      have hf := hM.free j
      have hcj := hM.cell j (by rw [HS.out.1]; exact hj)
      clear hM
      go_wp2_with (go_at_call 153; refine hbw.mono ?_; rintro e w1 ⟨rfl, rfl⟩)
      go_roundw
      case rel =>
       refine ⟨k + 1, _, by go_num, by omega, HMK.out.set j true, HS.out.mark HX.out hj, ?_, ?_⟩
       · rw [World.cell?_of_block (Below.heap_setCell _ _ _ _ (by show w.heap.size + 1 ≠ w.heap.size; omega))]; exact HCC.out
       · exact hb.setCell (Nat.le_refl _) _
      case measure => simp [intOf]; omega
    · rw [belowB_no (by omega)] at hbw
      clear hM
      go_wp2_with (go_at_call 153; refine hbw.mono ?_; rintro e w1 ⟨rfl, rfl⟩)
      go_roundw
      case rel => exact ⟨k + 1, M, by go_num, by omega, HMK.out, HS.out.skip HX.out (by omega), HCC.out, hb⟩
      case measure => simp [intOf]; omega
  · obtain rfl : k = L := by omega
    have hltI : ¬ (k : Int) < (k : Int) := by omega
    clear hM hS hc
    go_wp2
    go_ret
    refine ⟨_, rfl, ⟨_, HCC.out, fun i hi => ?_⟩, hb⟩
    have h1 := HMK.out.cell i (by rw [HS.out.1]; exact hi)
    have h2 := HS.out.2 i hi
    rw [take_all HL.out] at h2
    rw [h1, h2]
theorem dropC_any {u v : Value} {xs ys : List Int} {a b : Option Addr} {ca cb : Nat} {w : World} (A : ArgS w u xs a ca) (B : ArgS w v ys b cb) (ha : a = none → ca = 0) (hb : b = none → cb = 0) (hx : xs.length ≤ 17592186044416) (hy : ys.length ≤ 17592186044416) :
 Calls Tryz.prog 83 #[u, v] w fun e w' => ∃ r, e = .returned r ∧ ResS w.heap.size w' r (dropS xs ys) ∧ Below w.heap.size w w' := by
 obtain ⟨i0, hi, hz0, hz1, hz2⟩ := info_parts infoS
 have hms := among_any xs.length B hx hy
 have HA := Lib.hid A
 obtain rfl := A.is
 obtain rfl := B.is
 obtain ⟨L, hL⟩ : ∃ L, xs.length = L := ⟨_, rfl⟩
 obtain ⟨T, hT⟩ : ∃ T, ys.length = T := ⟨_, rfl⟩
 obtain ⟨r, hr⟩ : ∃ r, dropS xs ys = r := ⟨_, rfl⟩
 have HL := Lib.hid hL
 have hr2 : dropL xs ys L = r := by rw [← hr]; unfold dropS; rw [hL]
 have HR := Lib.hid hr2
 have hmk : ∀ w : World, (Instr.makeSlice 23 (.int .i64 0) (.int .i64 (L : Int))).run Tryz.prog w = .ok (.slice (some ⟨w.heap.size, 0, none⟩) 0 L) (w.alloc (.cells (madeCells #[.int .i64 0] L) 3)) := make_runH 0 L (Nat.zero_le _) (by omega)
 rw [hL] at hx hms
 rw [hT] at hms
 rw [hL, hT, hr]
 clear A B ha hb hL hT hr hr2 hy
 go_enter Tryz.func83, Tryz.ntmps83
 go_wp2_with (go_at_call 125; refine hms.mono ?_; rintro e w1 ⟨p, rfl, hM1, hb1⟩)
 have hbA : Below w1.heap.size w1 (w1.alloc (.cells (madeCells #[.int .i64 0] L) 3)) := (Below.refl _ w1).alloc (Nat.le_refl _) _
 have hRA : ResS w1.heap.size (w1.alloc (.cells (madeCells #[.int .i64 0] L) 3)) (.slice (some ⟨w1.heap.size, 0, none⟩) 0 L) [] := by
  have h := NumS.ofBlk (BlkS.made w1 L) (Nat.le_refl _) 0 (Nat.zero_le _) (by rw [List.length_replicate]; unfold maxLen; omega)
  rw [List.length_replicate, List.take_zero] at h
  exact ⟨h, Wid.nil⟩
 have HMA := Lib.hid hM1
 have HBA := Lib.hid hbA
 have HRA := Lib.hid hRA
 have hs1 := hb1.size
 clear hM1 hbA hRA hms hmk
 go_loopw [6, 7, 8, 18] (fun s _ _ i wr => ∃ (k : Nat) (zs : List Int), i = .int .i64 (k : Int) ∧ k ≤ L ∧ ResS w1.heap.size wr s zs ∧ zs.length ≤ k ∧ dropL xs ys k = zs ∧ Below w1.heap.size w1 wr) (fun _ _ _ i _ => L - (intOf i).toNat)
 case atStart => exact ⟨0, [], rfl, Nat.zero_le _, HRA.out, Nat.le_refl _, rfl, HBA.out⟩
 case round =>
  obtain ⟨k, zs, rfl, hkL, R, hzl, hz, hb⟩ := hrel
  have hsz := hb.size
  have HZ := Lib.hid hz
  clear hz
  by_cases hlt : k < L
  · have hk := amongL_any (HMA.out.later hb) hlt
    have hltI : (k : Int) < (L : Int) := by omega
    obtain ⟨b1, o1, rfl, hc1⟩ := (HA.out.later (hb1.trans (hb.mono hs1))).at (i := k) (by rw [HL.out]; exact hlt)
    have hwx := HA.out.wf.getD k
    obtain ⟨x, hxe⟩ : ∃ x, xs.getD k 0 = x := ⟨_, rfl⟩
    rw [hxe] at hc1 hwx
    have HW := Lib.hid hwx
    have HRES := Lib.hid R
    have hrow : wr.ownsRow w1.heap.size 3 1 _ zs.length (zs.map (Value.int .i64)) := R.num
    by_cases hm : (k : Int) ∈ ys
    · rw [decide_eq_true hm] at hk
      have hst : dropL xs ys (k + 1) = zs := by simp only [dropL]; rw [if_pos hm, HZ.out, List.append_nil]
      have HST := Lib.hid hst
      clear hm hst hxe hwx R
      go_wp2_with fail
      refine hk.mono ?_
      rintro e w3 ⟨rfl, rfl⟩
      go_wp2
      go_roundw
      case rel => exact ⟨k + 1, zs, by go_num, by omega, HRES.out, by omega, HST.out, hb⟩
      case measure => simp [intOf]; omega
    · rw [decide_eq_false hm] at hk
      have hst : dropL xs ys (k + 1) = zs ++ [x] := by simp only [dropL]; rw [if_neg hm, HZ.out, hxe]
      have HST := Lib.hid hst
      clear hm hst hxe hwx R
      go_wp2_with fail
      refine hk.mono ?_
      rintro e w3 ⟨rfl, rfl⟩
      go_wp2_with (at_builtin; refine wpList_append_own _ rfl _ _ 23 rfl w1.heap.size 3 i0 (.int .i64 0) 1 8 Tryz.underlying23 hi hz0 hz1 hz2 rfl (by decide) _ _ _ rfl (hrow.alloc _) ⟨wr.heap.size, 0, none⟩ 1 1 [.int .i64 x] rfl rfl (cell_one_new _ _ _) (by simp [Value.oneCell']) (by unfold maxLen; omega) (by omega) (by simp; omega) ?_; intro v' w4 hown' hgrow _)
      go_roundw
      case rel =>
       obtain ⟨hn, hbw⟩ := pushS hb hsz HRES.out.num hown' hgrow
       exact ⟨k + 1, zs ++ [x], by go_num, by omega, ⟨hn, HRES.out.wf.append (Wid.one HW.out)⟩, by rw [List.length_append]; simp only [List.length_cons, List.length_nil]; omega, HST.out, hbw⟩
      case measure => simp [intOf]; omega
  · obtain rfl : k = L := by omega
    have hltI : ¬ (k : Int) < (k : Int) := by omega
    have HRES := Lib.hid R
    clear R
    go_wp2
    go_ret
    exact ⟨_, rfl, by rw [← HR.out, HZ.out]; exact HRES.out.mono hs1, hb1.trans (hb.mono hs1)⟩
end
section
open Go.RowKit Go.Shelf
attribute [local go_sem] Oper.semAt_some
def idxStep (s : List Int) (t : List Int × Int) (i : Nat) : List Int × Int := (t.1.set i (t.2 % s.getD i 0), t.2 / s.getD i 0)
def idxOf (s : List Int) (n : Int) (ks : List Nat) : List Int × Int := ks.foldl (idxStep s) (List.replicate s.length 0, n)
theorem idxOf_snoc (s : List Int) (n : Int) (ks : List Nat) (k : Nat) : idxOf s n (ks ++ [k]) = idxStep s (idxOf s n ks) k := by simp [idxOf]
theorem idxOf_len {s : List Int} {n : Int} (ok : OkS s) (h0 : 0 ≤ n) (h1 : n < 1024) (ks : List Nat) (hk : ∀ k ∈ ks, k < s.length) : (idxOf s n ks).1.length = s.length ∧ 0 ≤ (idxOf s n ks).2 ∧ (idxOf s n ks).2 < 1024 := by
 suffices h : ∀ t : List Int × Int, t.1.length = s.length ∧ 0 ≤ t.2 ∧ t.2 < 1024 → (ks.foldl (idxStep s) t).1.length = s.length ∧ 0 ≤ (ks.foldl (idxStep s) t).2 ∧ (ks.foldl (idxStep s) t).2 < 1024 from h _ ⟨by simp, h0, h1⟩
 induction ks with
 | nil => exact fun t h => h
 | cons k ks ih =>
  intro t ⟨h1, h2, h3⟩
  have hd := ok.pos.getD (hk k (List.mem_cons_self ..))
  refine ih (fun j hj => hk j (List.mem_cons_of_mem _ hj)) _ ⟨by simp only [idxStep, List.length_set]; exact h1, ?_, ?_⟩
  · exact Int.ediv_nonneg h2 (by omega)
  · have := Int.ediv_le_self (s.getD k 0) h2
    simp only [idxStep]
    omega
theorem mod_divS {n d p : Int} (h0 : 0 ≤ n) (hd : 1 ≤ d) (hp : 1 ≤ p) : n % (d * p) / p = n / p % d := by
 obtain ⟨N, rfl⟩ : ∃ N : Nat, n = (N : Int) := ⟨n.toNat, by omega⟩
 obtain ⟨D, rfl⟩ : ∃ N : Nat, d = (N : Int) := ⟨d.toNat, by omega⟩
 obtain ⟨P, rfl⟩ : ∃ N : Nat, p = (N : Int) := ⟨p.toNat, by omega⟩
 have := Nat.mod_mul_left_div_self N P D
 rw [← Int.natCast_mul, ← Int.natCast_emod, ← Int.natCast_ediv, ← Int.natCast_ediv, ← Int.natCast_emod]
 rw [show D * P = D * P from rfl]
 exact congrArg Int.ofNat this
theorem idxS_drop {s : List Int} (hp : posS s) {n : Int} (h0 : 0 ≤ n) (j : Nat) : (idxS s n).drop j = idxS (s.drop j) (if j = 0 then n else n % prodS (s.drop j)) := by
 induction j generalizing s n with
 | zero => simp
 | succ j ih =>
  cases s with
  | nil => simp [idxS]
  | cons d ds =>
   simp only [idxS, List.drop_succ_cons]
   have hP := prodS_pos hp.tail
   rw [ih hp.tail (Int.emod_nonneg _ (by omega))]
   rw [if_neg (Nat.succ_ne_zero j)]
   by_cases hj : j = 0
   · subst hj; simp
   · rw [if_neg hj]
     congr 1
     rw [prodS_split ds j, Int.emod_emod_of_dvd _ (Int.dvd_mul_left _ _)]
theorem idxOf_downs {s : List Int} {n : Int} (ok : OkS s) (h0 : 0 ≤ n) (h1 : n < prodS s) {k : Nat} (hk : k ≤ s.length) : idxOf s n (downs s.length k) = (List.replicate (s.length - k) 0 ++ (idxS s n).drop (s.length - k), n / prodS (s.drop (s.length - k))) := by
 induction k with
 | zero =>
  have : (idxS s n).drop s.length = [] := List.drop_of_length_le (by rw [idx_length]; exact Nat.le_refl _)
  simp [idxOf, downs, this, prodS]
 | succ k ih =>
  rw [downs_next, idxOf_snoc, ih (by omega)]
  obtain ⟨j, hj⟩ : ∃ j, s.length - (k + 1) = j := ⟨_, rfl⟩
  have hjl : j < s.length := by omega
  rw [show s.length - k = j + 1 by omega, show s.length - 1 - k = j by omega, hj]
  unfold idxStep
  have e3 := prodS_pos (ok.pos.drop (j + 1))
  have hd := ok.pos.getD hjl
  have e1 := prodS_drop hjl
  refine Prod.ext ?_ ?_
  · show (List.replicate (j + 1) 0 ++ (idxS s n).drop (j + 1)).set j (n / prodS (s.drop (j + 1)) % s.getD j 0) = List.replicate j 0 ++ (idxS s n).drop j
    have hdr := idxS_drop ok.pos h0 j
    have ei : (idxS s n).drop j = (n / prodS (s.drop (j + 1)) % s.getD j 0) :: (idxS s n).drop (j + 1) := by
     have hl : j < (idxS s n).length := by rw [idx_length]; exact hjl
     rw [List.drop_eq_getElem_cons hl]
     congr 1
     have hm : (if j = 0 then n else n % prodS (s.drop j)) = n % prodS (s.drop j) := by
      by_cases hz : j = 0
      · subst hz
        rw [if_pos rfl, List.drop_zero, Int.emod_eq_of_lt h0 h1]
      · rw [if_neg hz]
     rw [hm, List.drop_eq_getElem_cons hl, List.drop_eq_getElem_cons hjl] at hdr
     simp only [idxS, List.cons.injEq] at hdr
     rw [hdr.1, ← mod_divS h0 hd e3]
     congr 2
     rw [getD_elem hjl]
     rfl
    rw [ei, List.replicate_succ', List.append_assoc, List.set_append_right _ _ (by simp), List.length_replicate, Nat.sub_self]
    rfl
  · show n / prodS (s.drop (j + 1)) / s.getD j 0 = n / prodS (s.drop j)
    rw [Int.ediv_ediv_of_nonneg (by omega), e1, Int.mul_comm]
theorem idxOf_all {s : List Int} {n : Int} (ok : OkS s) (h0 : 0 ≤ n) (h1 : n < prodS s) : idxOf s n (downs s.length s.length) = (idxS s n, n / prodS s) := by
 rw [idxOf_downs ok h0 h1 (Nat.le_refl _), Nat.sub_self]
 simp
theorem indexS_any {u : Value} {s : List Int} {a : Option Addr} {ca : Nat} {w : World} (n : Int) (A : ArgS w u s a ca) (ha : a = none → ca = 0) (hx : s.length ≤ 17592186044416) (h0 : -9223372036854775808 ≤ n) (h1 : n ≤ 9223372036854775807) :
 Calls Tryz.prog 128 #[u, .int .i64 n] w fun e w' => ∃ r, e = .returned (.tuple #[r, .int .i64 (idxC s n)]) ∧ ResS w.heap.size w' r (idxV s n) ∧ Below w.heap.size w w' := by
 have hb0 : Below w.heap.size w (w.alloc (.cells #[.int .i64 n] 3)) := (Below.refl _ w).alloc (Nat.le_refl _) _
 have A0 := A.later hb0
 have hc := cnt_any A0
 have hAl := A0.lim
 have hAw := A.lim
 have hle := A.le
 have HA := Lib.hid A
 obtain rfl := A.is
 have hbox := Boxed.new w 3 (.int .i64 n)
 have hboxc := hbox.cell
 have hq := below_any n (countS s) (w.alloc (.cells #[.int .i64 n] 3))
 obtain ⟨nn, hnn⟩ : ∃ nn : Nat, Hid (3 ≤ nn) := ⟨3, Nat.le_refl 3⟩
 by_cases hm : mayC s = 0
 · have ok := mayC_zero.1 hm
   have HO := Lib.hid ok
   have h4 := ok.rank
   have hfew := ok.few
   rw [hm, ok.count] at hc
   rw [ok.count] at hq
   by_cases hin : 0 ≤ n ∧ n < prodS s
   · obtain ⟨n0, n1⟩ := hin
     have hic := idxC_in hm n0 n1
     rw [hic, idxV_in hic]
     rw [belowB_yes n0 n1] at hq
     have N0 := Lib.hid n0
     have N1 := Lib.hid n1
     have hmk := make_runS s.length (by omega)
     obtain ⟨P, hP⟩ : ∃ P, prodS s = P := ⟨_, rfl⟩
     rw [hP] at hc hq
     have HP := Lib.hid hP
     clear A A0 ha hm ok hic hP n1 hfew
     refine (callsIn_wide (n := nn)).1 ?_
     refine callsIn_of_wp_marks Tryz.func128 rfl trivial ?_ rfl
     simp only [Tryz.ntmps128, List.size_toArray, List.length_cons, List.length_nil, Nat.reduceAdd, Nat.reduceSub, Array.replicate_succ, Array.replicate_zero, List.push_toArray, List.append_toArray, List.nil_append, List.cons_append]
     gi_wp2_with fail
     refine wideCallS (hc.mono ?_)
     rintro e w' ⟨rfl, rfl⟩
     gi_wp2_with fail
     refine wideCallS (hq.mono ?_)
     rintro e w' ⟨rfl, rfl⟩
     gi_wp2_with fail
     have k0 := ((Boxed.new w 3 (.int .i64 n)).alloc (.cells (madeCells #[.int .i64 0] s.length) 3)).alloc (.cells #[.slice (some ⟨w.heap.size + 1, 0, none⟩) s.length s.length] 22)
     have k1 := ((BlkS.made (w.alloc (.cells #[.int .i64 n] 3)) s.length).alloc (.cells #[.slice (some ⟨w.heap.size + 1, 0, none⟩) s.length s.length] 22))
     have k2 := Boxed.new ((w.alloc (.cells #[.int .i64 n] 3)).alloc (.cells (madeCells #[.int .i64 0] s.length) 3)) 22 (.slice (some ⟨w.heap.size + 1, 0, none⟩) s.length s.length)
     have k4 : Below w.heap.size w (((w.alloc (.cells #[.int .i64 n] 3)).alloc (.cells (madeCells #[.int .i64 0] s.length) 3)).alloc (.cells #[.slice (some ⟨w.heap.size + 1, 0, none⟩) s.length s.length] 22)) :=
      (((Below.refl _ w).alloc (Nat.le_refl _) _).alloc (by simp) _).alloc (by simp; omega) _
     have k5 : (((w.alloc (.cells #[.int .i64 n] 3)).alloc (.cells (madeCells #[.int .i64 0] s.length) 3)).alloc (.cells #[.slice (some ⟨w.heap.size + 1, 0, none⟩) s.length s.length] 22)).heap.size = w.heap.size + 1 + 1 + 1 := by simp
     simp only [World.size_alloc] at k1 k2
     generalize (((w.alloc (.cells #[.int .i64 n] 3)).alloc (.cells (madeCells #[.int .i64 0] s.length) 3)).alloc (.cells #[.slice (some ⟨w.heap.size + 1, 0, none⟩) s.length s.length] 22)) = V at *
     refine wideCallS ((backI_any _ _ _ _).mono ?_)
     rintro e w' ⟨rfl, rfl⟩
     gi_wp2_with fail
     have bN := Boxed.new V 23 (.slice a s.length ca)
     have j0 := k0.alloc (.cells #[.slice a s.length ca] 23)
     have j1 := k1.alloc (.cells #[.slice a s.length ca] 23)
     have j2 := k2.alloc (.cells #[.slice a s.length ca] 23)
     have j4 := k4.alloc (by omega) (.cells #[.slice a s.length ca] 23)
     have j5 : (V.alloc (.cells #[.slice a s.length ca] 23)).heap.size = w.heap.size + 1 + 1 + 1 + 1 := by simp; omega
     rw [k5] at bN
     (try rw [k5])
     generalize (V.alloc (.cells #[.slice a s.length ca] 23)) = W5 at *
     clear k0 k1 k2 k4 k5 hmk hbox hboxc hb0 hAl hc hq
     have h3 : 3 ≤ nn := hnn
     have hlt0 : ∀ x, s ≠ [] → a = some x → x.block < w.heap.size := fun x h1 h2 => hAw.lt h1 x h2
     refine wpIn_rangeFunc_ownF rfl (by omega) (gf := 174) (lb := #[.pointer (some ⟨w.heap.size + 1 + 1 + 1, 0, none⟩)]) rfl trivial (enters_of Tryz.func174 (by kernel_rfl) rfl)
      (backI_stops (nn - 1) (w.heap.size + 1 + 1 + 1) w.heap.size a s ca (by omega) (fun h x hx => hlt0 x h hx) _ (by omega) bN.cell (hAw.later j4)) KpS.trans (KpS.b (by omega) (by omega)) (Below.refl _ _) (fun _ => rfl)
      (fun (pre : List (Fin s.length)) X => ((BlkS X (w.heap.size + 1) (idxOf s n (pre.map Fin.val)).1 ∧ Boxed X (w.heap.size + 1 + 1) 22 (.slice (some ⟨w.heap.size + 1, 0, none⟩) s.length s.length)) ∧ Boxed X w.heap.size 3 (.int .i64 (idxOf s n (pre.map Fin.val)).2)) ∧ Below w.heap.size w X)
      (fun _ _ _ => False)
      (OwnFrom.and (Own.from (ownS_and2 (ownS_and2 (blkS_own _ _) (boxed_own _ _ _)) (boxed_own _ _ _)) _) (ownFrom_below (Nat.le_refl _) (by omega)))
      (fun _ _ _ _ _ hs _ _ => hs)
      ⟨⟨⟨j1, j2⟩, j0⟩, j4⟩
      (fun (x : Fin s.length) => { tmps := #[.slice a s.length ca, .int .i64 n, undef, .pointer (some ⟨w.heap.size, 0, none⟩), .slice none 0 0, .int .i64 0, .int .i64 P, .int .i64 0, .pointer (some ⟨w.heap.size + 1 + 1, 0, none⟩), .int .i64 (x.val : Int), .int .i64 (s[x.val]?.getD 0),
       .tuple #[.int .i64 P, .int .i64 0], .slice a s.length ca, .tuple #[.int .i64 P, .int .i64 0], .int .i64 P, .int .i64 0, .int .i64 0, .bool false, undef, .int .i64 n, .int .i64 P, .bool true, .bool false, .slice a s.length ca, .int .i64 s.length,
       .slice (some ⟨w.heap.size + 1, 0, none⟩) s.length s.length, .slice a s.length ca,
       .func (.func 174) #[] #[.pointer (some ⟨w.heap.size + 1 + 1 + 1, 0, none⟩)], .int .i64 (x.val : Int), .int .i64 (s[x.val]?.getD 0), undef, undef, undef, undef, undef, undef, undef, undef, undef, undef], defers := [] }) ?assign ?body ?done ?stop
     case assign =>
      intro l x X K hK
      simp only [numAt]
      rw [show s[x.val]?.getD 0 = s[x.val] by simp] at hK
      gi_wp2
      exact hK
     case body =>
      rintro l pre ⟨k, hk⟩ X ⟨⟨⟨hblk, q1⟩, q2⟩, hB⟩ hlt
      obtain ⟨hl, hc0, hc1⟩ := idxOf_len HO.out N0.out (by have := N1.out; have := HO.out.few; omega) (pre.map Fin.val) (by intro j hj; rw [List.mem_map] at hj; obtain ⟨y, _, rfl⟩ := hj; exact y.isLt)
      obtain ⟨st, hst⟩ : ∃ st, idxOf s n (pre.map Fin.val) = st := ⟨_, rfl⟩
      rw [hst] at hblk q2 hl hc0 hc1
      have HS := Lib.hid hst
      obtain ⟨zs, c⟩ := st
      simp only at hblk q2 hl hc0 hc1
      have c1 := q1.cell
      have c2 := q2.cell
      have hd1 := HO.out.pos.getD hk
      have hd2 := getD_le_prod HO.out.pos hk
      have hd3 := HO.out.few
      obtain ⟨d, hdk⟩ : ∃ d, s.getD k 0 = d := ⟨_, rfl⟩
      have hdk2 : s[k]?.getD 0 = d := hdk
      rw [hdk] at hd1 hd2
      have hd4 : d ≤ 1024 := by omega
      simp only [hdk2]
      have HX := Lib.hid hdk
      have hb2 : BlkS X.drew (w.heap.size + 1) zs := hblk
      have hck := hb2.cell k (by omega)
      have hfk := hb2.free k
      have hdz : ¬ d = 0 := by omega
      have ht : Int.tmod c d = c % d := Int.tmod_eq_emod_of_nonneg hc0
      have htd : Int.tdiv c d = c / d := Int.tdiv_eq_ediv_of_nonneg hc0
      have m0 := Int.emod_nonneg c (show d ≠ 0 by omega)
      have m1 := Int.emod_lt_of_pos c (show 0 < d by omega)
      have e0 := Int.ediv_nonneg hc0 (show 0 ≤ d by omega)
      have e1 := Int.ediv_le_self d hc0
      have q1d : Boxed X.drew (w.heap.size + 1 + 1) 22 (.slice (some ⟨w.heap.size + 1, 0, none⟩) s.length s.length) := q1
      have q2d : Boxed X.drew w.heap.size 3 (.int .i64 c) := q2
      have s2 : Boxed (X.setCell ⟨w.heap.size + 1, k, none⟩ (.int .i64 (c % d))).drew w.heap.size 3 (.int .i64 c) := boxS_far q2 (p := ⟨w.heap.size + 1, k, none⟩) (by show w.heap.size ≠ w.heap.size + 1; omega) (.int .i64 (c % d))
      have s1 : Boxed (X.setCell ⟨w.heap.size + 1, k, none⟩ (.int .i64 (c % d))).drew (w.heap.size + 1 + 1) 22 (.slice (some ⟨w.heap.size + 1, 0, none⟩) s.length s.length) := boxS_far q1 (p := ⟨w.heap.size + 1, k, none⟩) (by show w.heap.size + 1 + 1 ≠ w.heap.size + 1; omega) (.int .i64 (c % d))
      have hb3 : BlkS (X.setCell ⟨w.heap.size + 1, k, none⟩ (.int .i64 (c % d))).drew (w.heap.size + 1) (zs.set k (c % d)) := hblk.set k (c % d)
      have d2 := s2.cell
      have f2 := s2.frozen
      have HB3 := Lib.hid hb3
      have HBK := Lib.hid hb2
      have HL := Lib.hid hl
      clear hst hdk hdk2 hblk hl hd2 hd3 hb3
      gi_wp2_with fail
      refine region_round (fun X' => X'.cell? ⟨w.heap.size + 1 + 1, 0, none⟩ = some (.slice (some ⟨w.heap.size + 1, 0, none⟩) s.length s.length) ∧ X'.cell? ⟨w.heap.size, 0, none⟩ = some (.int .i64 c))
       (by kernel_rfl) (by kernel_rfl) (by rintro ⟨a', w', h⟩; exact h) ⟨c1, c2⟩ (fun hHeld => ?_)
      refine todo [0, 1, 2, 3, 4, 5] ?_
      iterate 6
       refine todoH (v := ?_) rfl (by kernel_rfl) (fun _ _ _ h => h) (by assumption) (Or.inl ⟨by rfl, ?_⟩) ?_
       rotate_left
       · intro w hSw; (try dsimp only at hSw); go_simp; (try with_reducible rfl)
       try simp only [Act.put, nA, nB, nC, nD, nE, nF]
      refine todone ?_
      refine wpAnyH_ready (rs := [6]) (by kernel_rfl) (by simp) ?_
      refine AllReadyH.cons rfl (fun K hK => ?sb6) AllReadyH.nil
      go_simp
      refine hK.out _ _ ?kb6 (fun hHeld => ?mb6)
      case kb6 =>
       try dsimp only
       exact ⟨(World.cell?_setCell_far _ _ _ _ (by simp <;> omega)).trans hHeld.1, (World.cell?_setCell_far _ _ _ _ (by simp <;> omega)).trans hHeld.2⟩
      clear hK K
      try simp only [Act.put, nD, nE, nF]
      refine wpAnyH_done (by kernel_rfl) ?_ _
      gi_wp2_with fail
      have hko : KeepsOthers X (X.setCell ⟨w.heap.size + 1, k, none⟩ (.int .i64 (c % d))).drew := (KeepsOthers.setCell _ _ _).trans (KeepsOthers.drew _)
      have hbo : Below w.heap.size X (X.setCell ⟨w.heap.size + 1, k, none⟩ (.int .i64 (c % d))).drew := ((Below.refl _ X).setCell (p := ⟨w.heap.size + 1, k, none⟩) (Nat.le_succ _) _).drew
      have hbx : (X.setCell ⟨w.heap.size + 1, k, none⟩ (.int .i64 (c % d))).drew.heap[w.heap.size + 1 + 1 + 1]? = X.heap[w.heap.size + 1 + 1 + 1]? := Below.heap_setCell _ _ _ _ (by show w.heap.size + 1 + 1 + 1 ≠ w.heap.size + 1; omega)
      refine ⟨hko.trans (KeepsOthers.setCell _ _ _), ⟨hbo.setCell (p := ⟨w.heap.size, 0, none⟩) (Nat.le_refl _) _, ?_⟩, ?_, (hB.trans hbo).setCell (p := ⟨w.heap.size, 0, none⟩) (Nat.le_refl _) _⟩
      · have e2 : ((X.setCell ⟨w.heap.size + 1, k, none⟩ (.int .i64 (c % d))).setCell ⟨w.heap.size, 0, none⟩ (.int .i64 (c / d))).heap[w.heap.size + 1 + 1 + 1]? = (X.setCell ⟨w.heap.size + 1, k, none⟩ (.int .i64 (c % d))).heap[w.heap.size + 1 + 1 + 1]? := Below.heap_setCell _ _ _ _ (by show w.heap.size + 1 + 1 + 1 ≠ w.heap.size; omega)
        exact e2.trans hbx
      · rw [List.map_append, List.map_cons, List.map_nil, idxOf_snoc, HS.out]
        simp only [idxStep, HX.out]
        exact ⟨⟨HB3.out.far (by show w.heap.size + 1 ≠ w.heap.size; omega) _, boxS_far s1 (by show w.heap.size + 1 + 1 ≠ w.heap.size; omega) _⟩, s2.set _⟩
     case done =>
      rintro D ks X hD hdn ⟨⟨⟨hblk, q1⟩, q2⟩, hB⟩ hK
      rw [hdn.downs, idxOf_all HO.out N0.out N1.out] at hblk q2
      have c1 := q1.cell
      gi_wp2_with fail
      refine ⟨by simp, .inl ⟨_, _, rfl, run_takeDeferred hK, ?_⟩⟩
      have hn := NumS.ofBlk hblk (Nat.le_succ w.heap.size) s.length (by rw [idx_length]; exact Nat.le_refl _) (by rw [idx_length]; unfold maxLen; omega)
      rw [idx_length, take_all (idx_length s n)] at hn
      refine ⟨_, results_tmp2 rfl _ _ _, _, rfl, ⟨?_, ?_⟩, hB.trans (belowK_b (w := w) (Nat.le_refl _) X D _ _ (by omega) hK rfl rfl)⟩
      · exact ownsRow_putObj hn (.deferred none) hK rfl
      · exact inS_wid (place_idx HO.out.pos N0.out N1.out).1 HA.out.wf
     case stop =>
      rintro D c pre X _ _ h _
      exact h.elim
   · have hic := idxC_out hm (n := n) (by rw [ok.count]; omega)
     rw [hic, idxV_bad (by rw [hic]; decide)]
     rw [belowB_no (by omega)] at hq
     obtain ⟨P, hP⟩ : ∃ P, prodS s = P := ⟨_, rfl⟩
     rw [hP] at hc hq
     clear A A0 ha hm ok hic hP hin hfew HO
     refine (callsIn_wide (n := nn)).1 ?_
     refine callsIn_of_wp_marks Tryz.func128 rfl trivial ?_ rfl
     simp only [Tryz.ntmps128, List.size_toArray, List.length_cons, List.length_nil, Nat.reduceAdd, Nat.reduceSub, Array.replicate_succ, Array.replicate_zero, List.push_toArray, List.append_toArray, List.nil_append, List.cons_append]
     gi_wp2_with fail
     refine wideCallS (hc.mono ?_)
     rintro e w' ⟨rfl, rfl⟩
     gi_wp2_with fail
     refine wideCallS (hq.mono ?_)
     rintro e w' ⟨rfl, rfl⟩
     gi_wp2_with fail
     exact ⟨_, results_tmp2 rfl _ _ _, _, rfl, ResS.nil _ _, hb0⟩
 · have hic := idxC_may (s := s) (n := n) hm
   rw [hic, idxV_bad (by rw [hic]; exact hm)]
   obtain ⟨m, hmm⟩ : ∃ m, mayC s = m := ⟨_, rfl⟩
   obtain ⟨P, hP⟩ : ∃ P, countS s = P := ⟨_, rfl⟩
   rw [hmm, hP] at hc
   rw [hmm]
   rw [hmm] at hm
   have hne : (m != 0) = true := by simpa using hm
   clear A A0 ha hic hq hmm hm hP
   refine (callsIn_wide (n := nn)).1 ?_
   refine callsIn_of_wp_marks Tryz.func128 rfl trivial ?_ rfl
   simp only [Tryz.ntmps128, List.size_toArray, List.length_cons, List.length_nil, Nat.reduceAdd, Nat.reduceSub, Array.replicate_succ, Array.replicate_zero, List.push_toArray, List.append_toArray, List.nil_append, List.cons_append]
   gi_wp2_with fail
   refine wideCallS (hc.mono ?_)
   rintro e w' ⟨rfl, rfl⟩
   gi_wp2_with fail
   exact ⟨_, results_tmp2 rfl _ _ _, _, rfl, ResS.nil _ _, hb0⟩
end
end Go.Proofs.YtengpgodmbfmkaaGreat
