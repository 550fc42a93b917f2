/-
  Part 23 of 39: contracts and what they rest on (SCode2).
-/
import Derived.Test.YtengpgodmbfmkaaGreatG20
namespace Go.Proofs.YtengpgodmbfmkaaGreat
set_option linter.unusedVariables false
set_option linter.unusedSimpArgs false
set_option maxRecDepth 100000
set_option maxHeartbeats 40000000
section
open Go.RowKit
theorem place_snoc {s xs : List Int} (hl : xs.length = s.length) (d x : Int) : placeS (s ++ [d]) (xs ++ [x]) = placeS s xs * d + x := by
 induction s generalizing xs with
 | nil =>
   obtain rfl := List.eq_nil_of_length_eq_zero hl
   simp [placeS, prodS]
 | cons c cs ih => cases xs with
   | nil => simp at hl
   | cons y ys =>
     have := ih (xs := ys) (by simpa using hl)
     simp only [List.cons_append, placeS, this, prodS_append, prodS]
     rw [Int.add_mul, Int.mul_one, Int.mul_assoc]
     omega
theorem inS_snoc {s xs : List Int} (h : inS s xs) {d x : Int} (h0 : 0 ≤ x) (h1 : x < d) : inS (s ++ [d]) (xs ++ [x]) := by
 induction s generalizing xs with
 | nil =>
   obtain rfl := List.eq_nil_of_length_eq_zero (inS_length h)
   exact ⟨⟨h0, h1⟩, trivial⟩
 | cons c cs ih => cases xs with
   | nil => exact h.elim
   | cons y ys => exact ⟨h.1, ih h.2⟩
theorem inS_next {s xs : List Int} {k : Nat} {d x : Int} (h : inS (s.take k) (xs.take k)) (hd : s[k]? = some d) (hx : xs[k]? = some x) (h0 : 0 ≤ x) (h1 : x < d) : inS (s.take (k + 1)) (xs.take (k + 1)) := by
 rw [List.take_add_one, List.take_add_one, hd, hx]
 exact inS_snoc h h0 h1
theorem place_next {s xs : List Int} {k : Nat} {d x : Int} (h : inS (s.take k) (xs.take k)) (hd : s[k]? = some d) (hx : xs[k]? = some x) : placeS (s.take (k + 1)) (xs.take (k + 1)) = placeS (s.take k) (xs.take k) * d + x := by
 rw [List.take_add_one, List.take_add_one, hd, hx]
 exact place_snoc (inS_length h) d x
theorem place_small {s xs : List Int} {k : Nat} (ok : OkS s) (h : inS (s.take k) (xs.take k)) : 0 ≤ placeS (s.take k) (xs.take k) ∧ placeS (s.take k) (xs.take k) < 1024 := by
 have h1 := place_range h
 have h2 := prodS_take_le ok.pos k
 have h3 := ok.few
 omega
theorem offsetS_any {u v : Value} {s xs : List Int} {a b : Option Addr} {ca cb : Nat} {w : World} (A : ArgS w u s a ca) (B : ArgS w v xs b cb) (ha : a = none → ca = 0) (hb : b = none → cb = 0) (hx : s.length ≤ 17592186044416) (hy : xs.length ≤ 17592186044416) :
 Calls Tryz.prog 129 #[u, v] w fun e w' => e = .returned (.tuple #[.int .i64 (offV s xs), .int .i64 (offC s xs)]) ∧ Below w.heap.size w w' := by
 refine Calls.mono (R := fun e w' => e = .returned (.tuple #[.int .i64 (offV s xs), .int .i64 (offC s xs)]) ∧ w = w') ?_ (fun _ _ ⟨h1, h2⟩ => ⟨h1, h2 ▸ Below.refl _ _⟩)
 have hm := mayS_eq A
 have HA := Lib.hid A
 have HB := Lib.hid B
 obtain rfl := A.is
 obtain rfl := B.is
 obtain ⟨c, hc⟩ : ∃ c, offC s xs = c := ⟨_, rfl⟩
 obtain ⟨t, ht⟩ : ∃ t, offV s xs = t := ⟨_, rfl⟩
 obtain ⟨m, hmc⟩ : ∃ m, mayC s = m := ⟨_, rfl⟩
 obtain ⟨L, hL⟩ : ∃ L, s.length = L := ⟨_, rfl⟩
 obtain ⟨M, hM⟩ : ∃ M, xs.length = M := ⟨_, rfl⟩
 rw [hmc, hL] at hm
 rw [hc, ht, hL, hM]
 have HC := Lib.hid hc
 have HT := Lib.hid ht
 have HM := Lib.hid hM
 have HL := Lib.hid hL
 have HMC := Lib.hid hmc
 rw [hL] at hx
 rw [hM] at hy
 clear A B ha hb hc ht hmc hL hM
 by_cases h0 : m = 0
 · subst h0
   by_cases hl : M = L
   · subst hl
     have hlI : ((M : Int) != (M : Int)) = false := by simp
     have ok := mayC_zero.1 HMC.out
     have hM4 : M ≤ 4 := by rw [← HL.out]; exact ok.rank
     have HO := Lib.hid ok
     clear ok
     go_enter Tryz.func129, Tryz.ntmps129
     go_wp2_with (go_at_call 96; refine hm.mono ?_; rintro e w1 ⟨rfl, rfl⟩)
     clear hm
     go_loop [7, 8, 9, 22] (fun p _ _ i => ∃ (k : Nat) (P : Int), i = .int .i64 (k : Int) ∧ p = .int .i64 P ∧ k ≤ M ∧ inS (s.take k) (xs.take k) ∧ P = placeS (s.take k) (xs.take k)) (fun _ _ _ i => M - (intOf i).toNat)
     case atStart => exact ⟨0, 0, rfl, rfl, Nat.zero_le _, trivial, rfl⟩
     case round =>
      obtain ⟨k, P, rfl, rfl, hk, hin, hP⟩ := hrel
      have hsm := place_small HO.out hin
      rw [← hP] at hsm
      obtain ⟨hP0, hP1⟩ := hsm
      have HIN := Lib.hid hin
      have HP := Lib.hid hP
      clear hin hP
      by_cases hlt : k < M
      · obtain ⟨b1, o1, rfl, c1⟩ := HA.out.at (i := k) (by rw [HL.out]; exact hlt)
        obtain ⟨b2, o2, rfl, c2⟩ := HB.out.at (i := k) (by rw [HM.out]; exact hlt)
        have hd := getD_some (xs := s) (k := k) (by rw [HL.out]; exact hlt)
        have hxx := getD_some (xs := xs) (k := k) (by rw [HM.out]; exact hlt)
        have hd1 := HO.out.pos.getD (i := k) (by rw [HL.out]; exact hlt)
        have hd2 := getD_le_prod HO.out.pos (k := k) (by rw [HL.out]; exact hlt)
        have hf := HO.out.few
        obtain ⟨d, hde⟩ : ∃ d, s.getD k 0 = d := ⟨_, rfl⟩
        obtain ⟨x, hxe⟩ : ∃ x, xs.getD k 0 = x := ⟨_, rfl⟩
        rw [hde] at c1 hd hd1 hd2
        rw [hxe] at c2 hxx
        have HD := Lib.hid hd
        have HX := Lib.hid hxx
        have HDE := Lib.hid hde
        have HXE := Lib.hid hxe
        have hbw := below_any x d w
        have hltI : (k : Int) < (M : Int) := by omega
        have hd3 : d ≤ 1024 := by omega
        clear hd hxx hd2 hf hde hxe
        by_cases hg : 0 ≤ x ∧ x < d
        · obtain ⟨g0, g1⟩ := hg
          rw [belowB_yes g0 g1] at hbw
          have hn := inS_next HIN.out HD.out HX.out g0 g1
          have hp := place_next HIN.out HD.out HX.out
          have hs := place_small HO.out hn
          rw [hp, ← HP.out] at hs
          have e0 : 0 ≤ P * d := Int.mul_nonneg hP0 (by omega)
          have e1 : P * d ≤ 1024 * 1024 := Int.mul_le_mul (by omega) hd3 (by omega) (by omega)
          have w1 : wrap64 (P * d) = P * d := by unfold wrap64; omega
          have w2 : wrap64 (P * d + x) = P * d + x := by unfold wrap64; omega
          have HN := Lib.hid hn
          have HPN := Lib.hid hp
          clear hn hp hs
          go_wp2_with (go_at_call 153; refine hbw.mono ?_; rintro e w1 ⟨rfl, rfl⟩)
          go_round
          case rel => exact ⟨k + 1, _, by go_num, rfl, by omega, HN.out, by rw [HPN.out, ← HP.out] <;> first | exact w2 | rw [w1, w2]⟩
          case measure => simp [intOf]; omega
        · rw [belowB_no (by omega)] at hbw
          have hno : ¬ inS s xs := fun h => by
           have := inS_at h (i := k) (by rw [HL.out]; exact hlt)
           rw [HDE.out, HXE.out] at this
           exact hg this
          have hcc := offC_out HMC.out (by rw [HM.out, HL.out]) hno
          obtain rfl : c = 21 := by rw [← HC.out]; exact hcc
          obtain rfl : t = 0 := by rw [← HT.out]; exact offV_bad (by rw [hcc]; decide)
          clear hcc hno hg
          go_wp2_with (go_at_call 153; refine hbw.mono ?_; rintro e w1 ⟨rfl, rfl⟩)
          go_ret2
          exact ⟨rfl, rfl⟩
      · obtain rfl : k = M := by omega
        have hin := HIN.out
        have hP := HP.out
        rw [take_all HL.out, take_all HM.out] at hin hP
        obtain rfl : c = 0 := by rw [← HC.out]; exact offC_in HMC.out hin
        obtain rfl : t = P := by rw [← HT.out, offV_in HMC.out hin]; exact hP.symm
        have hltI : ¬ (k : Int) < (k : Int) := by omega
        clear hin hP
        go_wp2
        go_ret2
        exact ⟨rfl, rfl⟩
   · have hcc := offC_arg HMC.out (by rw [HM.out, HL.out]; exact hl)
     obtain rfl : c = 2 := by rw [← HC.out]; exact hcc
     obtain rfl : t = 0 := by rw [← HT.out]; exact offV_bad (by rw [hcc]; decide)
     have hlI : ((M : Int) != (L : Int)) = true := by simp; omega
     clear hcc
     go_enter Tryz.func129, Tryz.ntmps129
     go_wp2_with (go_at_call 96; refine hm.mono ?_; rintro e w1 ⟨rfl, rfl⟩)
     go_ret2
     exact ⟨rfl, rfl⟩
 · have hcc := offC_may (s := s) (xs := xs) (by rw [HMC.out]; exact h0)
   obtain rfl : c = m := by rw [← HC.out, hcc]; exact HMC.out
   obtain rfl : t = 0 := by rw [← HT.out]; exact offV_bad (by rw [HC.out]; exact h0)
   have hne : (c != 0) = true := by simpa using h0
   clear hcc
   go_enter Tryz.func129, Tryz.ntmps129
   go_wp2_with (go_at_call 96; refine hm.mono ?_; rintro e w1 ⟨rfl, rfl⟩)
   go_ret2
   exact ⟨rfl, rfl⟩
def lastS (l : List Int) : Nat → Int
 | 0 => -1
 | k + 1 => l.getD k 0
end
end Go.Proofs.YtengpgodmbfmkaaGreat
