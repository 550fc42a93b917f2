/-
  The laws of layer 7: whole. (Made by wip/gen/gen_twhole.py.)
-/
import Derived.Test.YtooglnhlhgmhdaaGreatZ1
import Derived.Test.YtooglnhlhgmhdaaGreatZ2
import Derived.Test.YtooglnhlhgmhdaaGreatZ3
import Derived.Test.YtooglnhlhgmhdaaGreatZ4
import Derived.Test.YtooglnhlhgmhdaaGreatZ5
import Derived.Test.YtooglnhlhgmhdaaGreatZ7
import Derived.Test.YtooglnhlhgmhdaaGreatZ11
import Derived.Test.YtooglnhlhgmhdaaGreatZ12
import Derived.Test.YtooglnhlhgmhdaaGreatZ13
import Derived.Test.YtooglnhlhgmhdaaGreatZ14
import Derived.Test.YtooglnhlhgmhdaaGreatZ15
import Derived.WalkKit
import Derived.Test.YtooglnhlhgmhdaaGreatRows
import Derived.BigQuiet
import Derived.Deep.QuietTactic
import Derived.Lib.Hide
import Derived.Lib.Small
import Derived.Lib.Walk
import Derived.Lib.BitFns
import Derived.Maps.AppendAt
import Derived.RangeFuncNested
import Derived.RangeFuncBound
import Derived.RangeFuncCalls
import Derived.RangeFuncLeaves
import Derived.Shelf.Abstract
import Derived.OwnWalkIn
import Derived.TacticsInMore
import Derived.LoopNIn
import Derived.LoopIn
import Derived.RangeFuncBox
import Derived.Deep.RegionHeld3
import Derived.OrdersIn
import Derived.StillTailTactics
import Derived.RangeFuncFrom
import Derived.Laws.EntriesVeiled
import Derived.ProofKit
import Derived.OpenShut
import Derived.JoinedCond
import Derived.Carry
import Derived.Laws.AppendOwnNone
import Derived.Lib.ItoaNum
import Derived.Deep.RegionLaw
import Derived.WalkMore
import Derived.Lib.SmallJoins
import Derived.IntWalk
import Derived.Deep.DeepCutAuto
import Derived.Laws.OwnMore
import Derived.OrdersHeld
import Derived.Deep.RegionHeld
import Derived.ArgAppend
namespace Go.Proofs.YtooglnhlhgmhdaaGreat
set_option maxRecDepth 100000
section
open Go.RowKit
set_option linter.unusedVariables false
set_option linter.unusedSimpArgs false
theorem place_snoc {s xs : List Int} (hl : xs.length = s.length) (d x : Int) : placeS (s ++ [d]) (xs ++ [x]) = placeS s xs * d + x := by
  induction s generalizing xs with
  | nil =>
    obtain rfl := List.eq_nil_of_length_eq_zero hl
    simp [placeS, prodS]
  | cons c cs ih => cases xs with
    | nil => simp at hl
    | cons y ys =>
      have := ih (xs := ys) (by simpa using hl)
      simp only [List.cons_append, placeS, this, prodS_append, prodS]
      rw [Int.add_mul, Int.mul_one, Int.mul_assoc]
      omega
theorem inS_snoc {s xs : List Int} (h : inS s xs) {d x : Int} (h0 : 0 ≤ x) (h1 : x < d) : inS (s ++ [d]) (xs ++ [x]) := by
  induction s generalizing xs with
  | nil =>
    obtain rfl := List.eq_nil_of_length_eq_zero (inS_length h)
    exact ⟨⟨h0, h1⟩, trivial⟩
  | cons c cs ih => cases xs with
    | nil => exact h.elim
    | cons y ys => exact ⟨h.1, ih h.2⟩
theorem inS_next {s xs : List Int} {k : Nat} {d x : Int} (h : inS (s.take k) (xs.take k)) (hd : s[k]? = some d) (hx : xs[k]? = some x) (h0 : 0 ≤ x) (h1 : x < d) : inS (s.take (k + 1)) (xs.take (k + 1)) := by
  rw [List.take_add_one, List.take_add_one, hd, hx]
  exact inS_snoc h h0 h1
theorem place_next {s xs : List Int} {k : Nat} {d x : Int} (h : inS (s.take k) (xs.take k)) (hd : s[k]? = some d) (hx : xs[k]? = some x) : placeS (s.take (k + 1)) (xs.take (k + 1)) = placeS (s.take k) (xs.take k) * d + x := by
  rw [List.take_add_one, List.take_add_one, hd, hx]
  exact place_snoc (inS_length h) d x
theorem place_small {s xs : List Int} {k : Nat} (ok : OkS s) (h : inS (s.take k) (xs.take k)) : 0 ≤ placeS (s.take k) (xs.take k) ∧ placeS (s.take k) (xs.take k) < 1024 := by
  have h1 := place_range h
  have h2 := prodS_take_le ok.pos k
  have h3 := ok.few
  omega
set_option maxRecDepth 100000 in
set_option maxHeartbeats 2000000 in
theorem offsetS_any {u v : Value} {s xs : List Int} {a b : Option Addr} {ca cb : Nat} {w : World} (A : ArgS w u s a ca) (B : ArgS w v xs b cb) (ha : a = none → ca = 0) (hb : b = none → cb = 0) (hx : s.length ≤ 17592186044416) (hy : xs.length ≤ 17592186044416) :
    Calls Tryz.prog 86 #[u, v] w fun e w' => e = .returned (.tuple #[.int .i64 (offV s xs), .int .i64 (offC s xs)]) ∧ Below w.heap.size w w' := by
  refine Calls.mono (R := fun e w' => e = .returned (.tuple #[.int .i64 (offV s xs), .int .i64 (offC s xs)]) ∧ w = w') ?_ (fun _ _ ⟨h1, h2⟩ => ⟨h1, h2 ▸ Below.refl _ _⟩)
  have hm := mayS_eq A
  have HA := Lib.hid A
  have HB := Lib.hid B
  obtain rfl := A.is
  obtain rfl := B.is
  obtain ⟨c, hc⟩ : ∃ c, offC s xs = c := ⟨_, rfl⟩
  obtain ⟨t, ht⟩ : ∃ t, offV s xs = t := ⟨_, rfl⟩
  obtain ⟨m, hmc⟩ : ∃ m, mayC s = m := ⟨_, rfl⟩
  obtain ⟨L, hL⟩ : ∃ L, s.length = L := ⟨_, rfl⟩
  obtain ⟨M, hM⟩ : ∃ M, xs.length = M := ⟨_, rfl⟩
  rw [hmc, hL] at hm
  rw [hc, ht, hL, hM]
  have HC := Lib.hid hc
  have HT := Lib.hid ht
  have HM := Lib.hid hM
  have HL := Lib.hid hL
  have HMC := Lib.hid hmc
  rw [hL] at hx
  rw [hM] at hy
  clear A B ha hb hc ht hmc hL hM
  by_cases h0 : m = 0
  · subst h0
    by_cases hl : M = L
    · subst hl
      have hlI : ((M : Int) != (M : Int)) = false := by simp
      have ok := mayC_zero.1 HMC.out
      have hM4 : M ≤ 4 := by rw [← HL.out]; exact ok.rank
      have HO := Lib.hid ok
      clear ok
      go_enter Tryz.func86, Tryz.ntmps86
      go_wp2_with (go_at_call 52; refine hm.mono ?_; rintro e w1 ⟨rfl, rfl⟩)
      clear hm
      go_loop [7, 8, 9, 22] (fun p _ _ i => ∃ (k : Nat) (P : Int), i = .int .i64 (k : Int) ∧ p = .int .i64 P ∧ k ≤ M ∧ inS (s.take k) (xs.take k) ∧ P = placeS (s.take k) (xs.take k)) (fun _ _ _ i => M - (intOf i).toNat)
      case atStart => exact ⟨0, 0, rfl, rfl, Nat.zero_le _, trivial, rfl⟩
      case round =>
        obtain ⟨k, P, rfl, rfl, hk, hin, hP⟩ := hrel
        have hsm := place_small HO.out hin
        rw [← hP] at hsm
        obtain ⟨hP0, hP1⟩ := hsm
        have HIN := Lib.hid hin
        have HP := Lib.hid hP
        clear hin hP
        by_cases hlt : k < M
        · obtain ⟨b1, o1, rfl, c1⟩ := HA.out.at (i := k) (by rw [HL.out]; exact hlt)
          obtain ⟨b2, o2, rfl, c2⟩ := HB.out.at (i := k) (by rw [HM.out]; exact hlt)
          have hd := getD_some (xs := s) (k := k) (by rw [HL.out]; exact hlt)
          have hxx := getD_some (xs := xs) (k := k) (by rw [HM.out]; exact hlt)
          have hd1 := HO.out.pos.getD (i := k) (by rw [HL.out]; exact hlt)
          have hd2 := getD_le_prod HO.out.pos (k := k) (by rw [HL.out]; exact hlt)
          have hf := HO.out.few
          obtain ⟨d, hde⟩ : ∃ d, s.getD k 0 = d := ⟨_, rfl⟩
          obtain ⟨x, hxe⟩ : ∃ x, xs.getD k 0 = x := ⟨_, rfl⟩
          rw [hde] at c1 hd hd1 hd2
          rw [hxe] at c2 hxx
          have HD := Lib.hid hd
          have HX := Lib.hid hxx
          have HDE := Lib.hid hde
          have HXE := Lib.hid hxe
          have hbw := below_any x d w
          have hltI : (k : Int) < (M : Int) := by omega
          have hd3 : d ≤ 1024 := by omega
          clear hd hxx hd2 hf hde hxe
          by_cases hg : 0 ≤ x ∧ x < d
          · obtain ⟨g0, g1⟩ := hg
            rw [belowB_yes g0 g1] at hbw
            have hn := inS_next HIN.out HD.out HX.out g0 g1
            have hp := place_next HIN.out HD.out HX.out
            have hs := place_small HO.out hn
            rw [hp, ← HP.out] at hs
            have e0 : 0 ≤ P * d := Int.mul_nonneg hP0 (by omega)
            have e1 : P * d ≤ 1024 * 1024 := Int.mul_le_mul (by omega) hd3 (by omega) (by omega)
            have w1 : wrap64 (P * d) = P * d := by unfold wrap64; omega
            have w2 : wrap64 (P * d + x) = P * d + x := by unfold wrap64; omega
            have HN := Lib.hid hn
            have HPN := Lib.hid hp
            clear hn hp hs
            go_wp2_with (go_at_call 110; refine hbw.mono ?_; rintro e w1 ⟨rfl, rfl⟩)
            go_round
            case rel => exact ⟨k + 1, _, by go_num, rfl, by omega, HN.out, by rw [HPN.out, ← HP.out] <;> first | exact w2 | rw [w1, w2]⟩
            case measure => simp [intOf]; omega
          · rw [belowB_no (by omega)] at hbw
            have hno : ¬ inS s xs := fun h => by
              have := inS_at h (i := k) (by rw [HL.out]; exact hlt)
              rw [HDE.out, HXE.out] at this
              exact hg this
            have hcc := offC_out HMC.out (by rw [HM.out, HL.out]) hno
            obtain rfl : c = 21 := by rw [← HC.out]; exact hcc
            obtain rfl : t = 0 := by rw [← HT.out]; exact offV_bad (by rw [hcc]; decide)
            clear hcc hno hg
            go_wp2_with (go_at_call 110; refine hbw.mono ?_; rintro e w1 ⟨rfl, rfl⟩)
            go_ret2
            exact ⟨rfl, rfl⟩
        · obtain rfl : k = M := by omega
          have hin := HIN.out
          have hP := HP.out
          rw [take_all HL.out, take_all HM.out] at hin hP
          obtain rfl : c = 0 := by rw [← HC.out]; exact offC_in HMC.out hin
          obtain rfl : t = P := by rw [← HT.out, offV_in HMC.out hin]; exact hP.symm
          have hltI : ¬ (k : Int) < (k : Int) := by omega
          clear hin hP
          go_wp2
          go_ret2
          exact ⟨rfl, rfl⟩
    · have hcc := offC_arg HMC.out (by rw [HM.out, HL.out]; exact hl)
      obtain rfl : c = 2 := by rw [← HC.out]; exact hcc
      obtain rfl : t = 0 := by rw [← HT.out]; exact offV_bad (by rw [hcc]; decide)
      have hlI : ((M : Int) != (L : Int)) = true := by simp; omega
      clear hcc
      go_enter Tryz.func86, Tryz.ntmps86
      go_wp2_with (go_at_call 52; refine hm.mono ?_; rintro e w1 ⟨rfl, rfl⟩)
      go_ret2
      exact ⟨rfl, rfl⟩
  · have hcc := offC_may (s := s) (xs := xs) (by rw [HMC.out]; exact h0)
    obtain rfl : c = m := by rw [← HC.out, hcc]; exact HMC.out
    obtain rfl : t = 0 := by rw [← HT.out]; exact offV_bad (by rw [HC.out]; exact h0)
    have hne : (c != 0) = true := by simpa using h0
    clear hcc
    go_enter Tryz.func86, Tryz.ntmps86
    go_wp2_with (go_at_call 52; refine hm.mono ?_; rintro e w1 ⟨rfl, rfl⟩)
    go_ret2
    exact ⟨rfl, rfl⟩
/-- the first k numbers are axes; the last one of them -/
def axU (l : List Int) (rank : Int) (k : Nat) : Prop := ∀ i, i < k → (0 ≤ l.getD i 0 ∧ l.getD i 0 < rank) ∧ (0 < i → l.getD (i - 1) 0 < l.getD i 0)
def lastS (l : List Int) : Nat → Int
  | 0 => -1
  | k + 1 => l.getD k 0
theorem axU.next {l : List Int} {rank : Int} {k : Nat} (h : axU l rank k) (h0 : lastS l k < l.getD k 0) (h1 : 0 ≤ l.getD k 0) (h2 : l.getD k 0 < rank) : axU l rank (k + 1) := by
  intro i hi
  by_cases e : i = k
  · subst e
    refine ⟨⟨h1, h2⟩, fun hp => ?_⟩
    obtain ⟨j, rfl⟩ : ∃ j, i = j + 1 := ⟨i - 1, by omega⟩
    exact h0
  · exact h i (by omega)
end
section
open Go.RowKit Go.Shelf
attribute [local go_sem] Oper.semAt_some
set_option linter.unusedVariables false
set_option linter.unusedSimpArgs false
/-- one round of Index: the row, what is left of the place -/
def idxStep (s : List Int) (t : List Int × Int) (i : Nat) : List Int × Int := (t.1.set i (t.2 % s.getD i 0), t.2 / s.getD i 0)
def idxOf (s : List Int) (n : Int) (ks : List Nat) : List Int × Int := ks.foldl (idxStep s) (List.replicate s.length 0, n)
theorem idxOf_snoc (s : List Int) (n : Int) (ks : List Nat) (k : Nat) : idxOf s n (ks ++ [k]) = idxStep s (idxOf s n ks) k := by simp [idxOf]
theorem idxOf_len {s : List Int} {n : Int} (ok : OkS s) (h0 : 0 ≤ n) (h1 : n < 1024) (ks : List Nat) (hk : ∀ k ∈ ks, k < s.length) : (idxOf s n ks).1.length = s.length ∧ 0 ≤ (idxOf s n ks).2 ∧ (idxOf s n ks).2 < 1024 := by
  suffices h : ∀ t : List Int × Int, t.1.length = s.length ∧ 0 ≤ t.2 ∧ t.2 < 1024 → (ks.foldl (idxStep s) t).1.length = s.length ∧ 0 ≤ (ks.foldl (idxStep s) t).2 ∧ (ks.foldl (idxStep s) t).2 < 1024 from h _ ⟨by simp, h0, h1⟩
  induction ks with
  | nil => exact fun t h => h
  | cons k ks ih =>
    intro t ⟨h1, h2, h3⟩
    have hd := ok.pos.getD (hk k (List.mem_cons_self ..))
    refine ih (fun j hj => hk j (List.mem_cons_of_mem _ hj)) _ ⟨by simp only [idxStep, List.length_set]; exact h1, ?_, ?_⟩
    · exact Int.ediv_nonneg h2 (by omega)
    · have := Int.ediv_le_self (s.getD k 0) h2
      simp only [idxStep]
      omega
theorem mod_divS {n d p : Int} (h0 : 0 ≤ n) (hd : 1 ≤ d) (hp : 1 ≤ p) : n % (d * p) / p = n / p % d := by
  obtain ⟨N, rfl⟩ : ∃ N : Nat, n = (N : Int) := ⟨n.toNat, by omega⟩
  obtain ⟨D, rfl⟩ : ∃ N : Nat, d = (N : Int) := ⟨d.toNat, by omega⟩
  obtain ⟨P, rfl⟩ : ∃ N : Nat, p = (N : Int) := ⟨p.toNat, by omega⟩
  have := Nat.mod_mul_left_div_self N P D
  rw [← Int.natCast_mul, ← Int.natCast_emod, ← Int.natCast_ediv, ← Int.natCast_ediv, ← Int.natCast_emod]
  rw [show D * P = D * P from rfl]
  exact congrArg Int.ofNat this
theorem idxS_drop {s : List Int} (hp : posS s) {n : Int} (h0 : 0 ≤ n) (j : Nat) : (idxS s n).drop j = idxS (s.drop j) (if j = 0 then n else n % prodS (s.drop j)) := by
  induction j generalizing s n with
  | zero => simp
  | succ j ih =>
    cases s with
    | nil => simp [idxS]
    | cons d ds =>
      simp only [idxS, List.drop_succ_cons]
      have hP := prodS_pos hp.tail
      rw [ih hp.tail (Int.emod_nonneg _ (by omega))]
      rw [if_neg (Nat.succ_ne_zero j)]
      by_cases hj : j = 0
      · subst hj; simp
      · rw [if_neg hj]
        congr 1
        rw [prodS_split ds j, Int.emod_emod_of_dvd _ (Int.dvd_mul_left _ _)]
theorem idxOf_downs {s : List Int} {n : Int} (ok : OkS s) (h0 : 0 ≤ n) (h1 : n < prodS s) {k : Nat} (hk : k ≤ s.length) : idxOf s n (downs s.length k) = (List.replicate (s.length - k) 0 ++ (idxS s n).drop (s.length - k), n / prodS (s.drop (s.length - k))) := by
  induction k with
  | zero =>
    have : (idxS s n).drop s.length = [] := List.drop_of_length_le (by rw [idx_length]; exact Nat.le_refl _)
    simp [idxOf, downs, this, prodS]
  | succ k ih =>
    rw [downs_next, idxOf_snoc, ih (by omega)]
    obtain ⟨j, hj⟩ : ∃ j, s.length - (k + 1) = j := ⟨_, rfl⟩
    have hjl : j < s.length := by omega
    rw [show s.length - k = j + 1 by omega, show s.length - 1 - k = j by omega, hj]
    unfold idxStep
    have e3 := prodS_pos (ok.pos.drop (j + 1))
    have hd := ok.pos.getD hjl
    have e1 := prodS_drop hjl
    refine Prod.ext ?_ ?_
    · show (List.replicate (j + 1) 0 ++ (idxS s n).drop (j + 1)).set j (n / prodS (s.drop (j + 1)) % s.getD j 0) = List.replicate j 0 ++ (idxS s n).drop j
      have hdr := idxS_drop ok.pos h0 j
      have ei : (idxS s n).drop j = (n / prodS (s.drop (j + 1)) % s.getD j 0) :: (idxS s n).drop (j + 1) := by
        have hl : j < (idxS s n).length := by rw [idx_length]; exact hjl
        rw [List.drop_eq_getElem_cons hl]
        congr 1
        have hm : (if j = 0 then n else n % prodS (s.drop j)) = n % prodS (s.drop j) := by
          by_cases hz : j = 0
          · subst hz
            rw [if_pos rfl, List.drop_zero, Int.emod_eq_of_lt h0 h1]
          · rw [if_neg hz]
        rw [hm, List.drop_eq_getElem_cons hl, List.drop_eq_getElem_cons hjl] at hdr
        simp only [idxS, List.cons.injEq] at hdr
        rw [hdr.1, ← mod_divS h0 hd e3]
        congr 2
        rw [getD_elem hjl]
        rfl
      rw [ei, List.replicate_succ', List.append_assoc, List.set_append_right _ _ (by simp), List.length_replicate, Nat.sub_self]
      rfl
    · show n / prodS (s.drop (j + 1)) / s.getD j 0 = n / prodS (s.drop j)
      rw [Int.ediv_ediv_of_nonneg (by omega), e1, Int.mul_comm]
theorem idxOf_all {s : List Int} {n : Int} (ok : OkS s) (h0 : 0 ≤ n) (h1 : n < prodS s) : idxOf s n (downs s.length s.length) = (idxS s n, n / prodS s) := by
  rw [idxOf_downs ok h0 h1 (Nat.le_refl _), Nat.sub_self]
  simp
set_option maxRecDepth 100000 in
set_option maxHeartbeats 4000000 in
theorem indexS_any {u : Value} {s : List Int} {a : Option Addr} {ca : Nat} {w : World} (n : Int) (A : ArgS w u s a ca) (ha : a = none → ca = 0) (hx : s.length ≤ 17592186044416) (h0 : -9223372036854775808 ≤ n) (h1 : n ≤ 9223372036854775807) :
    Calls Tryz.prog 111 #[u, .int .i64 n] w fun e w' => ∃ r, e = .returned (.tuple #[r, .int .i64 (idxC s n)]) ∧ ResS w.heap.size w' r (idxV s n) ∧ Below w.heap.size w w' := by
  have hb0 : Below w.heap.size w (w.alloc (.cells #[.int .i64 n] 3)) := (Below.refl _ w).alloc (Nat.le_refl _) _
  have A0 := A.later hb0
  have hc := cnt_any A0
  have hAl := A0.lim
  have hAw := A.lim
  have hle := A.le
  have HA := Lib.hid A
  obtain rfl := A.is
  have hbox := Boxed.new w 3 (.int .i64 n)
  have hboxc := hbox.cell
  have hq := below_any n (countS s) (w.alloc (.cells #[.int .i64 n] 3))
  obtain ⟨nn, hnn⟩ : ∃ nn : Nat, Hid (3 ≤ nn) := ⟨3, Nat.le_refl 3⟩
  by_cases hm : mayC s = 0
  · have ok := mayC_zero.1 hm
    have HO := Lib.hid ok
    have h4 := ok.rank
    have hfew := ok.few
    rw [hm, ok.count] at hc
    rw [ok.count] at hq
    by_cases hin : 0 ≤ n ∧ n < prodS s
    · obtain ⟨n0, n1⟩ := hin
      have hic := idxC_in hm n0 n1
      rw [hic, idxV_in hic]
      rw [belowB_yes n0 n1] at hq
      have N0 := Lib.hid n0
      have N1 := Lib.hid n1
      have hmk := make_runS s.length (by omega)
      obtain ⟨P, hP⟩ : ∃ P, prodS s = P := ⟨_, rfl⟩
      rw [hP] at hc hq
      have HP := Lib.hid hP
      clear A A0 ha hm ok hic hP n1 hfew
      refine (callsIn_wide (n := nn)).1 ?_
      refine callsIn_of_wp_marks Tryz.func111 rfl trivial ?_ rfl
      simp only [Tryz.ntmps111, List.size_toArray, List.length_cons, List.length_nil, Nat.reduceAdd, Nat.reduceSub, Array.replicate_succ, Array.replicate_zero, List.push_toArray, List.append_toArray, List.nil_append, List.cons_append]
      gi_wp2_with fail
      refine wideCallS (hc.mono ?_)
      rintro e w' ⟨rfl, rfl⟩
      gi_wp2_with fail
      refine wideCallS (hq.mono ?_)
      rintro e w' ⟨rfl, rfl⟩
      gi_wp2_with fail
      have k0 := ((Boxed.new w 3 (.int .i64 n)).alloc (.cells (madeCells #[.int .i64 0] s.length) 3)).alloc (.cells #[.slice (some ⟨w.heap.size + 1, 0, none⟩) s.length s.length] 22)
      have k1 := ((BlkS.made (w.alloc (.cells #[.int .i64 n] 3)) s.length).alloc (.cells #[.slice (some ⟨w.heap.size + 1, 0, none⟩) s.length s.length] 22))
      have k2 := Boxed.new ((w.alloc (.cells #[.int .i64 n] 3)).alloc (.cells (madeCells #[.int .i64 0] s.length) 3)) 22 (.slice (some ⟨w.heap.size + 1, 0, none⟩) s.length s.length)
      have k4 : Below w.heap.size w (((w.alloc (.cells #[.int .i64 n] 3)).alloc (.cells (madeCells #[.int .i64 0] s.length) 3)).alloc (.cells #[.slice (some ⟨w.heap.size + 1, 0, none⟩) s.length s.length] 22)) :=
        (((Below.refl _ w).alloc (Nat.le_refl _) _).alloc (by simp) _).alloc (by simp; omega) _
      have k5 : (((w.alloc (.cells #[.int .i64 n] 3)).alloc (.cells (madeCells #[.int .i64 0] s.length) 3)).alloc (.cells #[.slice (some ⟨w.heap.size + 1, 0, none⟩) s.length s.length] 22)).heap.size = w.heap.size + 1 + 1 + 1 := by simp
      simp only [World.size_alloc] at k1 k2
      generalize (((w.alloc (.cells #[.int .i64 n] 3)).alloc (.cells (madeCells #[.int .i64 0] s.length) 3)).alloc (.cells #[.slice (some ⟨w.heap.size + 1, 0, none⟩) s.length s.length] 22)) = V at *
      refine wideCallS ((backI_any _ _ _ _).mono ?_)
      rintro e w' ⟨rfl, rfl⟩
      gi_wp2_with fail
      have bN := Boxed.new V 23 (.slice a s.length ca)
      have j0 := k0.alloc (.cells #[.slice a s.length ca] 23)
      have j1 := k1.alloc (.cells #[.slice a s.length ca] 23)
      have j2 := k2.alloc (.cells #[.slice a s.length ca] 23)
      have j4 := k4.alloc (by omega) (.cells #[.slice a s.length ca] 23)
      have j5 : (V.alloc (.cells #[.slice a s.length ca] 23)).heap.size = w.heap.size + 1 + 1 + 1 + 1 := by simp; omega
      rw [k5] at bN
      (try rw [k5])
      generalize (V.alloc (.cells #[.slice a s.length ca] 23)) = W5 at *
      clear k0 k1 k2 k4 k5 hmk hbox hboxc hb0 hAl hc hq
      have h3 : 3 ≤ nn := hnn
      have hlt0 : ∀ x, s ≠ [] → a = some x → x.block < w.heap.size := fun x h1 h2 => hAw.lt h1 x h2
      refine wpIn_rangeFunc_ownF rfl (by omega) (gf := 154) (lb := #[.pointer (some ⟨w.heap.size + 1 + 1 + 1, 0, none⟩)]) rfl trivial (enters_of Tryz.func154 (by kernel_rfl) rfl)
        (backI_stops (nn - 1) (w.heap.size + 1 + 1 + 1) w.heap.size a s ca (by omega) (fun h x hx => hlt0 x h hx) _ (by omega) bN.cell (hAw.later j4)) KpS.trans (KpS.b (by omega) (by omega)) (Below.refl _ _) (fun _ => rfl)
        (fun (pre : List (Fin s.length)) X => ((BlkS X (w.heap.size + 1) (idxOf s n (pre.map Fin.val)).1 ∧ Boxed X (w.heap.size + 1 + 1) 22 (.slice (some ⟨w.heap.size + 1, 0, none⟩) s.length s.length)) ∧ Boxed X w.heap.size 3 (.int .i64 (idxOf s n (pre.map Fin.val)).2)) ∧ Below w.heap.size w X)
        (fun _ _ _ => False)
        (OwnFrom.and (Own.from (ownS_and2 (ownS_and2 (blkS_own _ _) (boxed_own _ _ _)) (boxed_own _ _ _)) _) (ownFrom_below (Nat.le_refl _) (by omega)))
        (fun _ _ _ _ _ hs _ _ => hs)
        ⟨⟨⟨j1, j2⟩, j0⟩, j4⟩
        (fun (x : Fin s.length) => { tmps := #[.slice a s.length ca, .int .i64 n, undef, .pointer (some ⟨w.heap.size, 0, none⟩), .slice none 0 0, .int .i64 0, .int .i64 P, .int .i64 0, .pointer (some ⟨w.heap.size + 1 + 1, 0, none⟩), .int .i64 (x.val : Int), .int .i64 (s[x.val]?.getD 0),
          .tuple #[.int .i64 P, .int .i64 0], .slice a s.length ca, .tuple #[.int .i64 P, .int .i64 0], .int .i64 P, .int .i64 0, .int .i64 0, .bool false, undef, .int .i64 n, .int .i64 P, .bool true, .bool false, .slice a s.length ca, .int .i64 s.length,
          .slice (some ⟨w.heap.size + 1, 0, none⟩) s.length s.length, .slice a s.length ca,
          .func (.func 154) #[] #[.pointer (some ⟨w.heap.size + 1 + 1 + 1, 0, none⟩)], .int .i64 (x.val : Int), .int .i64 (s[x.val]?.getD 0), undef, undef, undef, undef, undef, undef, undef, undef, undef, undef], defers := [] }) ?assign ?body ?done ?stop
      case assign =>
        intro l x X K hK
        simp only [numAt]
        rw [show s[x.val]?.getD 0 = s[x.val] by simp] at hK
        gi_wp2
        exact hK
      case body =>
        rintro l pre ⟨k, hk⟩ X ⟨⟨⟨hblk, q1⟩, q2⟩, hB⟩ hlt
        obtain ⟨hl, hc0, hc1⟩ := idxOf_len HO.out N0.out (by have := N1.out; have := HO.out.few; omega) (pre.map Fin.val) (by intro j hj; rw [List.mem_map] at hj; obtain ⟨y, _, rfl⟩ := hj; exact y.isLt)
        obtain ⟨st, hst⟩ : ∃ st, idxOf s n (pre.map Fin.val) = st := ⟨_, rfl⟩
        rw [hst] at hblk q2 hl hc0 hc1
        have HS := Lib.hid hst
        obtain ⟨zs, c⟩ := st
        simp only at hblk q2 hl hc0 hc1
        have c1 := q1.cell
        have c2 := q2.cell
        have hd1 := HO.out.pos.getD hk
        have hd2 := getD_le_prod HO.out.pos hk
        have hd3 := HO.out.few
        obtain ⟨d, hdk⟩ : ∃ d, s.getD k 0 = d := ⟨_, rfl⟩
        have hdk2 : s[k]?.getD 0 = d := hdk
        rw [hdk] at hd1 hd2
        have hd4 : d ≤ 1024 := by omega
        simp only [hdk2]
        have HX := Lib.hid hdk
        have hb2 : BlkS X.drew (w.heap.size + 1) zs := hblk
        have hck := hb2.cell k (by omega)
        have hfk := hb2.free k
        have hdz : ¬ d = 0 := by omega
        have ht : Int.tmod c d = c % d := Int.tmod_eq_emod_of_nonneg hc0
        have htd : Int.tdiv c d = c / d := Int.tdiv_eq_ediv_of_nonneg hc0
        have m0 := Int.emod_nonneg c (show d ≠ 0 by omega)
        have m1 := Int.emod_lt_of_pos c (show 0 < d by omega)
        have e0 := Int.ediv_nonneg hc0 (show 0 ≤ d by omega)
        have e1 := Int.ediv_le_self d hc0
        have q1d : Boxed X.drew (w.heap.size + 1 + 1) 22 (.slice (some ⟨w.heap.size + 1, 0, none⟩) s.length s.length) := q1
        have q2d : Boxed X.drew w.heap.size 3 (.int .i64 c) := q2
        have s2 : Boxed (X.setCell ⟨w.heap.size + 1, k, none⟩ (.int .i64 (c % d))).drew w.heap.size 3 (.int .i64 c) := boxS_far q2 (p := ⟨w.heap.size + 1, k, none⟩) (by show w.heap.size ≠ w.heap.size + 1; omega) (.int .i64 (c % d))
        have s1 : Boxed (X.setCell ⟨w.heap.size + 1, k, none⟩ (.int .i64 (c % d))).drew (w.heap.size + 1 + 1) 22 (.slice (some ⟨w.heap.size + 1, 0, none⟩) s.length s.length) := boxS_far q1 (p := ⟨w.heap.size + 1, k, none⟩) (by show w.heap.size + 1 + 1 ≠ w.heap.size + 1; omega) (.int .i64 (c % d))
        have hb3 : BlkS (X.setCell ⟨w.heap.size + 1, k, none⟩ (.int .i64 (c % d))).drew (w.heap.size + 1) (zs.set k (c % d)) := hblk.set k (c % d)
        have d2 := s2.cell
        have f2 := s2.frozen
        have HB3 := Lib.hid hb3
        have HBK := Lib.hid hb2
        have HL := Lib.hid hl
        clear hst hdk hdk2 hblk hl hd2 hd3 hb3
        gi_wp2_with fail
        refine region_round (fun X' => X'.cell? ⟨w.heap.size + 1 + 1, 0, none⟩ = some (.slice (some ⟨w.heap.size + 1, 0, none⟩) s.length s.length) ∧ X'.cell? ⟨w.heap.size, 0, none⟩ = some (.int .i64 c))
          (by kernel_rfl) (by kernel_rfl) (by rintro ⟨a', w', h⟩; exact h) ⟨c1, c2⟩ (fun hHeld => ?_)
        refine wpAnyH_take (i := 0) (v := ?va0) rfl (by kernel_rfl) (by kernel_rfl) (by kernel_rfl) (fun _ _ _ h => h) (Or.inl ⟨by rfl, ?ha0⟩) (by assumption) ?ra0
        case ha0 =>
          intro w hSw
          try dsimp only at hSw
          go_simp
          try with_reducible rfl
        try simp only [Act.put, List.setIfInBounds_toArray, List.set_cons_zero, List.set_cons_succ]
        refine wpAnyH_take (i := 1) (v := ?va1) rfl (by kernel_rfl) (by kernel_rfl) (by kernel_rfl) (fun _ _ _ h => h) (Or.inl ⟨by rfl, ?ha1⟩) (by assumption) ?ra1
        case ha1 =>
          intro w hSw
          try dsimp only at hSw
          go_simp
          try with_reducible rfl
        try simp only [Act.put, List.setIfInBounds_toArray, List.set_cons_zero, List.set_cons_succ]
        refine wpAnyH_take (i := 2) (v := ?va2) rfl (by kernel_rfl) (by kernel_rfl) (by kernel_rfl) (fun _ _ _ h => h) (Or.inl ⟨by rfl, ?ha2⟩) (by assumption) ?ra2
        case ha2 =>
          intro w hSw
          try dsimp only at hSw
          go_simp
          try with_reducible rfl
        try simp only [Act.put, List.setIfInBounds_toArray, List.set_cons_zero, List.set_cons_succ]
        refine wpAnyH_take (i := 3) (v := ?va3) rfl (by kernel_rfl) (by kernel_rfl) (by kernel_rfl) (fun _ _ _ h => h) (Or.inl ⟨by rfl, ?ha3⟩) (by assumption) ?ra3
        case ha3 =>
          intro w hSw
          try dsimp only at hSw
          go_simp
          try with_reducible rfl
        try simp only [Act.put, List.setIfInBounds_toArray, List.set_cons_zero, List.set_cons_succ]
        refine wpAnyH_take (i := 4) (v := ?va4) rfl (by kernel_rfl) (by kernel_rfl) (by kernel_rfl) (fun _ _ _ h => h) (Or.inl ⟨by rfl, ?ha4⟩) (by assumption) ?ra4
        case ha4 =>
          intro w hSw
          try dsimp only at hSw
          go_simp
          try with_reducible rfl
        try simp only [Act.put, List.setIfInBounds_toArray, List.set_cons_zero, List.set_cons_succ]
        refine wpAnyH_take (i := 5) (v := ?va5) rfl (by kernel_rfl) (by kernel_rfl) (by kernel_rfl) (fun _ _ _ h => h) (Or.inl ⟨by rfl, ?ha5⟩) (by assumption) ?ra5
        case ha5 =>
          intro w hSw
          try dsimp only at hSw
          go_simp
          try with_reducible rfl
        try simp only [Act.put, List.setIfInBounds_toArray, List.set_cons_zero, List.set_cons_succ]
        refine wpAnyH_ready (rs := [6]) (by kernel_rfl) (by simp) ?_
        refine AllReadyH.cons rfl (fun K hK => ?sb6) AllReadyH.nil
        go_simp
        refine hK.out _ _ ?kb6 (fun hHeld => ?mb6)
        case kb6 =>
          try dsimp only
          exact ⟨(World.cell?_setCell_far _ _ _ _ (by simp <;> omega)).trans hHeld.1, (World.cell?_setCell_far _ _ _ _ (by simp <;> omega)).trans hHeld.2⟩
        clear hK K
        try simp only [Act.put, List.setIfInBounds_toArray, List.set_cons_zero, List.set_cons_succ]
        refine wpAnyH_done (by kernel_rfl) ?_ _
        gi_wp2_with fail
        have hko : KeepsOthers X (X.setCell ⟨w.heap.size + 1, k, none⟩ (.int .i64 (c % d))).drew := (KeepsOthers.setCell _ _ _).trans (KeepsOthers.drew _)
        have hbo : Below w.heap.size X (X.setCell ⟨w.heap.size + 1, k, none⟩ (.int .i64 (c % d))).drew := ((Below.refl _ X).setCell (p := ⟨w.heap.size + 1, k, none⟩) (Nat.le_succ _) _).drew
        have hbx : (X.setCell ⟨w.heap.size + 1, k, none⟩ (.int .i64 (c % d))).drew.heap[w.heap.size + 1 + 1 + 1]? = X.heap[w.heap.size + 1 + 1 + 1]? := Below.heap_setCell _ _ _ _ (by show w.heap.size + 1 + 1 + 1 ≠ w.heap.size + 1; omega)
        refine ⟨hko.trans (KeepsOthers.setCell _ _ _), ⟨hbo.setCell (p := ⟨w.heap.size, 0, none⟩) (Nat.le_refl _) _, ?_⟩, ?_, (hB.trans hbo).setCell (p := ⟨w.heap.size, 0, none⟩) (Nat.le_refl _) _⟩
        · have e2 : ((X.setCell ⟨w.heap.size + 1, k, none⟩ (.int .i64 (c % d))).setCell ⟨w.heap.size, 0, none⟩ (.int .i64 (c / d))).heap[w.heap.size + 1 + 1 + 1]? = (X.setCell ⟨w.heap.size + 1, k, none⟩ (.int .i64 (c % d))).heap[w.heap.size + 1 + 1 + 1]? := Below.heap_setCell _ _ _ _ (by show w.heap.size + 1 + 1 + 1 ≠ w.heap.size; omega)
          exact e2.trans hbx
        · rw [List.map_append, List.map_cons, List.map_nil, idxOf_snoc, HS.out]
          simp only [idxStep, HX.out]
          exact ⟨⟨HB3.out.far (by show w.heap.size + 1 ≠ w.heap.size; omega) _, boxS_far s1 (by show w.heap.size + 1 + 1 ≠ w.heap.size; omega) _⟩, s2.set _⟩
      case done =>
        rintro D ks X hD hdn ⟨⟨⟨hblk, q1⟩, q2⟩, hB⟩ hK
        rw [hdn.downs, idxOf_all HO.out N0.out N1.out] at hblk q2
        have c1 := q1.cell
        gi_wp2_with fail
        refine ⟨by simp, .inl ⟨_, _, rfl, run_takeDeferred hK, ?_⟩⟩
        have hn := NumS.ofBlk hblk (Nat.le_succ w.heap.size) s.length (by rw [idx_length]; exact Nat.le_refl _) (by rw [idx_length]; unfold maxLen; omega)
        rw [idx_length, take_all (idx_length s n)] at hn
        refine ⟨_, results_tmp2 rfl _ _ _, _, rfl, ⟨?_, ?_⟩, hB.trans (belowK_b (w := w) (Nat.le_refl _) X D _ _ (by omega) hK rfl rfl)⟩
        · exact ownsRow_putObj hn (.deferred none) hK rfl
        · exact inS_wid (place_idx HO.out.pos N0.out N1.out).1 HA.out.wf
      case stop =>
        rintro D c pre X _ _ h _
        exact h.elim
    · have hic := idxC_out hm (n := n) (by rw [ok.count]; omega)
      rw [hic, idxV_bad (by rw [hic]; decide)]
      rw [belowB_no (by omega)] at hq
      obtain ⟨P, hP⟩ : ∃ P, prodS s = P := ⟨_, rfl⟩
      rw [hP] at hc hq
      clear A A0 ha hm ok hic hP hin hfew HO
      refine (callsIn_wide (n := nn)).1 ?_
      refine callsIn_of_wp_marks Tryz.func111 rfl trivial ?_ rfl
      simp only [Tryz.ntmps111, List.size_toArray, List.length_cons, List.length_nil, Nat.reduceAdd, Nat.reduceSub, Array.replicate_succ, Array.replicate_zero, List.push_toArray, List.append_toArray, List.nil_append, List.cons_append]
      gi_wp2_with fail
      refine wideCallS (hc.mono ?_)
      rintro e w' ⟨rfl, rfl⟩
      gi_wp2_with fail
      refine wideCallS (hq.mono ?_)
      rintro e w' ⟨rfl, rfl⟩
      gi_wp2_with fail
      exact ⟨_, results_tmp2 rfl _ _ _, _, rfl, ResS.nil _ _, hb0⟩
  · have hic := idxC_may (s := s) (n := n) hm
    rw [hic, idxV_bad (by rw [hic]; exact hm)]
    obtain ⟨m, hmm⟩ : ∃ m, mayC s = m := ⟨_, rfl⟩
    obtain ⟨P, hP⟩ : ∃ P, countS s = P := ⟨_, rfl⟩
    rw [hmm, hP] at hc
    rw [hmm]
    rw [hmm] at hm
    have hne : (m != 0) = true := by simpa using hm
    clear A A0 ha hic hq hmm hm hP
    refine (callsIn_wide (n := nn)).1 ?_
    refine callsIn_of_wp_marks Tryz.func111 rfl trivial ?_ rfl
    simp only [Tryz.ntmps111, List.size_toArray, List.length_cons, List.length_nil, Nat.reduceAdd, Nat.reduceSub, Array.replicate_succ, Array.replicate_zero, List.push_toArray, List.append_toArray, List.nil_append, List.cons_append]
    gi_wp2_with fail
    refine wideCallS (hc.mono ?_)
    rintro e w' ⟨rfl, rfl⟩
    gi_wp2_with fail
    exact ⟨_, results_tmp2 rfl _ _ _, _, rfl, ResS.nil _ _, hb0⟩
end
section
open Go.RowKit
set_option linter.unusedVariables false
set_option linter.unusedSimpArgs false
theorem append_types {P : Program} {t t' e e' : TypeId} (ht : P.underlying t = some (.slice e)) (ht' : P.underlying t' = some (.slice e')) (ty : TypeId) (v x : Value) (w : World) :
    (Builtin.append_ #[t, t'] ty #[v, x]).run P w = (Builtin.append_ #[t, t] ty #[v, x]).run P w := by
  unfold Builtin.append_
  cases v <;> simp [run_underlying ht, run_underlying ht']
set_option maxRecDepth 100000 in
/-- append(nil, b..) -/
theorem step_copyT {ops : Array Oper} {rest : List Oper} {o : Oper} {a : Act} {w : World} {Q : Exit → Act → World → Prop} (hg : o.guard = none) (t : Nat) (T T' : TypeId) (hT : Tryz.prog.underlying T = some (.slice 3)) (hT' : Tryz.prog.underlying T' = some (.slice 3))
    (hop : o.op = Op.call { callee := Callee.builtin Builtin.append, args := #[Operand.const (.slice none 0 0), Operand.tmp t], argTypes := #[T, T'] }) {xs : List Int} {ad : Option Addr} {cap : Nat} {u : Value} (hx : a.eval (.tmp t) = u)
    (hA : ArgS w u xs ad cap) (hn : ad = none → cap = 0) (hl : xs.length ≤ 17592186044416)
    (h : ∀ v' w1, ResS w.heap.size w1 v' xs → Below w.heap.size w w1 → wpList Tryz.prog ops Q rest (a.put o.dst v') w1) : wpList Tryz.prog ops Q (o :: rest) a w := by
  obtain ⟨i0, hi, hz0, hz1, hz2⟩ := info_parts infoS
  have hnil := World.ownsRow_nil w w.heap.size 3 1
  have hs : a.eval (.const (.slice none 0 0)) = .slice none 0 0 := rfl
  obtain ⟨rfl, lx, hle, wx⟩ := hA
  cases ad with
  | none =>
    have hc := hn rfl
    subst hc
    have hxs : xs = [] := List.eq_nil_of_length_eq_zero (by omega)
    subst hxs
    refine wpList_plain hg fun K hK => ?_
    have hrun := (append_types hT hT' o.type (.slice none 0 0) (.slice none 0 0) w).trans (run_append_owned_none (P := Tryz.prog) w w.heap.size T o.type 3 i0 1 hT hi (.slice none 0 0) 0 [] hnil)
    unfold Oper.wp
    simp [execOp, hop, resolve, invoke, builtin, hs, hx, hrun, Result.andThen]
    exact hK _ _ (h _ _ ⟨hnil, wx⟩ (Below.refl _ _))
  | some ad =>
    refine wpList_plain hg fun K hK => ?_
    obtain ⟨v', w', hr, hown, hgrow, _⟩ := run_append_own (P := Tryz.prog) w w.heap.size T o.type 3 i0 (.int .i64 0) 1 8 hT hi hz0 hz1 hz2 rfl (by decide) (.slice none 0 0) 0 [] hnil ad xs.length cap (xs.map (Value.int .i64)) (by simp) (cells_argS (cap := cap) lx) (ints_oneCell _ _) (by unfold maxLen; omega) (by omega) (Nat.le_refl _)
    have hr2 := (append_types hT hT' o.type (.slice none 0 0) (.slice (some ad) xs.length cap) w).trans hr
    unfold Oper.wp
    simp [execOp, hop, resolve, invoke, builtin, hs, hx, hr2, Result.andThen]
    refine hK _ _ (h v' w' ⟨?_, wx⟩ ((Below.refl _ w).grown hgrow (Nat.le_refl _) (fun k hk => by cases hk)))
    unfold NumS
    simpa using hown
/-- a tensor as it came in -/
structure TensQ (w : World) (v : Value) (s : List Int) (qs : List Q3) (a : Option Addr) (ca : Nat) (b : Option Addr) (cb : Nat) : Prop where
  is : v = .agg #[.slice a s.length ca, .slice b qs.length cb]
  sh : ArgS w (.slice a s.length ca) s a ca
  nila : a = none → ca = 0
  el : RowA RawQ w (.slice b qs.length cb) qs b cb
  nilb : b = none → cb = 0
theorem TensQ.later {w w' : World} {v : Value} {s : List Int} {qs : List Q3} {a b : Option Addr} {ca cb : Nat} (h : TensQ w v s qs a ca b cb) (hb : Below w.heap.size w w') : TensQ w' v s qs a ca b cb :=
  ⟨h.is, h.sh.later hb, h.nila, h.el.later hb (fun v x _ k => k.later hb), h.nilb⟩
/-- the reference's tensor -/
structure TensR (w : World) (v : Value) (s : List Int) (L : List Rat) (m : Nat) (a : Option Addr) (ca : Nat) (b : Option Addr) (cb : Nat) : Prop where
  is : v = .agg #[.slice a s.length ca, .slice b L.length cb]
  sh : ArgS w (.slice a s.length ca) s a ca
  nila : a = none → ca = 0
  el : RowA (fun w v x => ArgR w v x m) w (.slice b L.length cb) L b cb
  nilb : b = none → cb = 0
theorem TensR.later {w w' : World} {v : Value} {s : List Int} {L : List Rat} {m : Nat} {a b : Option Addr} {ca cb : Nat} (h : TensR w v s L m a ca b cb) (hb : Below w.heap.size w w') : TensR w' v s L m a ca b cb :=
  ⟨h.is, h.sh.later hb, h.nila, h.el.later hb (fun v x _ k => k.later hb), h.nilb⟩
theorem infoR : (Tryz.prog.info? 75).map (fun i => (i.zero, i.size, i.bytes)) = some (some (.agg #[.bool false, .slice none 0 0, .slice none 0 0]), 3, 56) := by kernel_rfl
theorem infoQ : (Tryz.prog.info? 58).map (fun i => (i.zero, i.size, i.bytes)) = some (some (.agg #[.bool false, .slice none 0 0, .slice none 0 0]), 3, 56) := by kernel_rfl
/-- the block that an append may write to -/
theorem OwnE.hits {base : Nat} {T : TypeId} {w : World} {v : Value} {es : List E3} (h : OwnE base T w v es) (hb : base ≤ w.heap.size) : ∃ r, (v.ownBlock = none ∨ v.ownBlock = some r) ∧ base ≤ r ∧ ∀ g t cs, Row w g t cs → t ≠ T → g ≠ r := by
  have hlt := h.lt
  cases e : v.ownBlock with
  | none => exact ⟨w.heap.size, .inl rfl, hb, fun g t cs R _ => by have := R.lt; omega⟩
  | some r =>
    refine ⟨r, .inr rfl, (hlt r e).1, fun g t cs R ht he => ?_⟩
    subst he
    obtain ⟨cur, hc⟩ := h.typed e
    have := hc.symm.trans R
    simp only [Option.some.injEq, Obj.cells.injEq] at this
    exact ht this.2.1.symm
theorem Kept.grown {r : Nat} {a w w' : World} {v : Value} (h : Kept r a w) (hg : w.grownBy w' v.ownBlock) (hv : v.ownBlock = none ∨ v.ownBlock = some r) : Kept r a w' := by
  refine ⟨hg.os.trans h.os, hg.tape.trans h.tape, hg.output.trans h.output, Nat.le_trans h.size hg.size, fun k hk hr => ?_⟩
  rw [hg.block k (Nat.lt_of_lt_of_le hk h.size) (by rcases hv with e | e <;> rw [e] <;> simp <;> omega)]
  exact h.block k hk hr
theorem Kept.cell {r : Nat} {w w' : World} (h : Kept r w w') {p : Addr} {u : Value} (hc : w.cell? p = some u) (hp : p.block ≠ r) : w'.cell? p = some u :=
  (World.cell?_of_block (h.block p.block (World.block_lt_of_cell? w p hc) hp)).trans hc
theorem ResS.far {base : Nat} {w w' : World} {u : Value} {zs : List Int} {g : Nat} {t : TypeId} {cs : Array Value} (h : ResS base w u zs) (R : Row w g t cs) (ht : t ≠ 3) (hk : ∀ k, k ≠ g → w'.heap[k]? = w.heap[k]?) : ResS base w' u zs := by
  refine ⟨?_, h.wf⟩
  obtain ⟨h1, h2⟩ := h.num
  refine ⟨h1, ?_⟩
  rcases h2 with h2 | ⟨k, cap, cur, rfl, hg0, hg', hc, hm, hs, ht'⟩
  · exact .inl h2
  · refine .inr ⟨k, cap, cur, rfl, hg0, (hk k ?_).trans hg', hc, hm, hs, ht'⟩
    rintro rfl
    have e := hg'.symm.trans R
    injection e with e
    injection e with _ e
    exact ht e.symm
theorem ResS.apart {base base' : Nat} {T : TypeId} {w w' : World} {v u : Value} {es : List E3} {zs : List Int} {o : Obj} (h : OwnE base T w v es) (hg : (w.alloc o).grownBy w' v.ownBlock) (hT : T ≠ 3) (k : ResS base' w u zs) : ResS base' w' u zs := ⟨apartE h hg hT k.num, k.wf⟩
theorem RowO.far {α : Type} {base : Nat} {T : TypeId} {P : World → Value → α → Prop} {w w' : World} {u : Value} {L : List α} {g : Nat} {t : TypeId} {cs : Array Value} (h : RowO base T P w u L) (R : Row w g t cs) (ht : t ≠ T) (hk : ∀ k, k ≠ g → w'.heap[k]? = w.heap[k]?) (hP : ∀ v x, P w v x → P w' v x) : RowO base T P w' u L := by
  obtain ⟨es, h1, h2⟩ := h
  refine ⟨es, h1.same fun k e => hk k fun e2 => ?_, h2.imp fun v x _ => hP v x⟩
  subst e2
  obtain ⟨cur, hc⟩ := h1.typed e
  have := hc.symm.trans R
  simp only [Option.some.injEq, Obj.cells.injEq] at this
  exact ht this.2.1.symm
theorem kept1 {g i : Nat} {w : World} (x : Value) : ∀ k, k ≠ g → (w.setCell ⟨g, i, none⟩ x).heap[k]? = w.heap[k]? := fun k hk => Below.heap_setCell _ _ _ _ hk
theorem Row.set21 {w : World} {g : Nat} {t : TypeId} {a b : Value} (h : Row w g t #[a, b]) (x : Value) : Row (w.setCell ⟨g, 1, none⟩ x) g t #[a, x] := h.set 1 x
theorem take_mapQ {qs : List Q3} {k : Nat} {q : Q3} (h : qs[k]? = some q) : (qs.take (k + 1)).map Q3.rat = (qs.take k).map Q3.rat ++ [q.rat] := by
  rw [List.take_add_one, h, Option.toList_some, List.map_append]; rfl
theorem take_nextL {α : Type} {qs : List α} {k : Nat} {q : α} (h : qs[k]? = some q) : qs.take (k + 1) = qs.take k ++ [q] := by rw [List.take_add_one, h]; rfl
theorem ResR.shape {base : Nat} {w : World} {v : Value} {x : Rat} {n : Nat} (h : ResR base w v x n) : ∃ m a1 n1 c1 a2 n2 c2, v = .agg #[.bool m, .slice a1 n1 c1, .slice a2 n2 c2] := by
  obtain ⟨_, _, _, _, _, _, rfl, _⟩ := h
  exact ⟨_, _, _, _, _, _, _, rfl⟩
theorem ResQ.shape {base : Nat} {w : World} {v : Value} {x : Rat} {n : Nat} (h : ResQ base w v x n) : ∃ m a1 n1 c1 a2 n2 c2, v = .agg #[.bool m, .slice a1 n1 c1, .slice a2 n2 c2] := by
  obtain ⟨_, _, _, _, _, _, rfl, _⟩ := h
  exact ⟨_, _, _, _, _, _, _, rfl⟩
theorem RawO.shape {base : Nat} {w : World} {v : Value} {q : Q3} (h : RawO base w v q) : ∃ m a1 n1 c1 a2 n2 c2, v = .agg #[.bool m, .slice a1 n1 c1, .slice a2 n2 c2] := by
  obtain ⟨_, _, _, _, rfl, _⟩ := h
  exact ⟨_, _, _, _, _, _, _, rfl⟩
theorem RowA.low {α : Type} {P : World → Value → α → Prop} {w : World} {u : Value} {L : List α} {ad : Option Addr} {cap : Nat} (h : RowA P w u L ad cap) {b o : Nat} (hn : L ≠ []) (e : ad = some ⟨b, o, none⟩) : b < w.heap.size := by
  rcases h.els with hh | ⟨b', o', es', e', c', k'⟩
  · exact absurd hh hn
  · obtain ⟨d, _, h1, _, _⟩ := k'.at (i := 0) (by rcases Nat.eq_zero_or_pos L.length with g | g
                                                  · exact absurd (List.eq_nil_of_length_eq_zero g) hn
                                                  · exact g)
    have h3 := World.block_lt_of_cell? w _ (c' 0 d h1).1
    rw [e] at e'
    simp only [Option.some.injEq, Addr.mk.injEq] at e'
    rw [e'.1]
    exact h3
theorem ownRaw_any {w : World} {v : Value} {q : Q3} (h : RawQ w v q) (hx : q.num.length ≤ 134217728) (hd : q.den.length ≤ 134217728) :
    Calls Tryz.prog 45 #[v] w fun e w' => ∃ r, e = .returned r ∧ RawO w.heap.size w' r q ∧ Below w.heap.size w w' := by
  obtain ⟨ad, bd, ca, cb, rfl, A, B, h1, h2⟩ := h
  exact ownRR_any A B hx hd h1 h2
theorem ownT_slice {base sz n : Nat} {T : TypeId} {w : World} {v : Value} {xs : List Value} (h : w.ownsRow base T sz v n xs) : ∃ a c, v = .slice a n c := by
  obtain ⟨_, h2⟩ := h
  rcases h2 with ⟨rfl, rfl⟩ | ⟨g, cap, cur, rfl, _⟩
  · exact ⟨_, _, rfl⟩
  · exact ⟨_, _, rfl⟩
end
section
open Go.RowKit
set_option linter.unusedVariables false
set_option linter.unusedSimpArgs false
set_option maxRecDepth 100000 in
set_option maxHeartbeats 2000000 in
theorem sameSh_any {u v : Value} {xs ys : List Int} {a b : Option Addr} {ca cb : Nat} {w : World} (A : ArgS w u xs a ca) (B : ArgS w v ys b cb) (hx : xs.length ≤ 140737488355328) :
    Calls Tryz.prog 35 #[u, v] w fun e w' => e = .returned (.bool (decide (xs = ys))) ∧ Below w.heap.size w w' := by
  have HA := Lib.hid A
  have HB := Lib.hid B
  obtain rfl := A.is
  obtain rfl := B.is
  obtain ⟨L, hL⟩ : ∃ L, xs.length = L := ⟨_, rfl⟩
  obtain ⟨M, hM⟩ : ∃ M, ys.length = M := ⟨_, rfl⟩
  obtain ⟨d, hd⟩ : ∃ d, decide (xs = ys) = d := ⟨_, rfl⟩
  have HL := Lib.hid hL
  have HM := Lib.hid hM
  have HD := Lib.hid hd
  rw [hL] at hx
  rw [hL, hM, hd]
  clear A B hL hM hd
  by_cases hlm : L = M
  · subst hlm
    have hne : ((L : Int) != (L : Int)) = false := by simp
    go_enter Tryz.func35, Tryz.ntmps35
    go_wp2
    go_loopw [5] (fun i wr => ∃ k : Nat, i = .int .i64 (k : Int) ∧ k ≤ L ∧ xs.take k = ys.take k ∧ Below w.heap.size w wr) (fun i _ => L - (intOf i).toNat)
    case atStart => exact ⟨0, rfl, Nat.zero_le _, rfl, Below.refl _ _⟩
    case round =>
      obtain ⟨k, rfl, hkL, hp, hb⟩ := hrel
      have HP := Lib.hid hp
      clear hp
      by_cases hlt : k < L
      · obtain ⟨b1, o1, rfl, hc1⟩ := (HA.out.later hb).at (i := k) (by rw [HL.out]; exact hlt)
        obtain ⟨b2, o2, rfl, hc2⟩ := (HB.out.later hb).at (i := k) (by rw [HM.out]; exact hlt)
        have e1 := take_next (xs := xs) (k := k) (by rw [HL.out]; exact hlt)
        have e2 := take_next (xs := ys) (k := k) (by rw [HM.out]; exact hlt)
        obtain ⟨x, hx⟩ : ∃ x, xs.getD k 0 = x := ⟨_, rfl⟩
        obtain ⟨y, hy⟩ : ∃ y, ys.getD k 0 = y := ⟨_, rfl⟩
        rw [hx] at hc1 e1
        rw [hy] at hc2 e2
        have E1 := Lib.hid e1
        have E2 := Lib.hid e2
        have HX := Lib.hid hx
        have HY := Lib.hid hy
        have hin : 0 ≤ (k : Int) ∧ (k : Int) < (L : Int) := by omega
        have hltI : (k : Int) < (L : Int) := by omega
        clear hx hy e1 e2
        by_cases hxy : x = y
        · subst hxy
          have hn : (x != x) = false := by simp
          go_wp2
          go_quiet (fail)
          go_wp2
          go_roundw
          case rel => exact ⟨k + 1, by go_num, by omega, by rw [E1.out, E2.out, HP.out], hb.trans (belowS_drew _ _ _)⟩
          case measure => simp [intOf]; omega
        · obtain rfl : d = false := by
            rw [← HD.out, decide_eq_false_iff_not]
            intro h
            apply hxy
            rw [← HX.out, ← HY.out, h]
          have hn : (x != y) = true := by simpa using hxy
          go_wp2
          go_quiet (fail)
          go_wp2
          go_ret
          exact ⟨rfl, hb.trans (belowS_drew _ _ _)⟩
      · obtain rfl : k = L := by omega
        obtain rfl : d = true := by
          rw [← HD.out, decide_eq_true_iff]
          have := HP.out
          rwa [take_all HL.out, take_all HM.out] at this
        have hltI : ¬ (k : Int) < (k : Int) := by omega
        go_wp2
        go_ret
        exact ⟨rfl, hb⟩
  · obtain rfl : d = false := by
      rw [← HD.out, decide_eq_false_iff_not]
      intro h
      apply hlm
      rw [← HL.out, ← HM.out, h]
    have hne : ((L : Int) != (M : Int)) = true := by simp; omega
    go_enter Tryz.func35, Tryz.ntmps35
    go_wp2
    go_ret
    exact ⟨rfl, Below.refl _ _⟩
/-- is an element valid? -/
def okQ (q : Q3) : Bool := validB q.neg q.num q.den q.rat
/-- why a tensor is not valid: 0, or an error -/
def mayT (s : List Int) (qs : List Q3) : Int := if mayC s ≠ 0 then mayC s else if (qs.length : Int) ≠ countS s then 13 else if qs.all okQ = true then 0 else 6
theorem mayT_shape {s : List Int} {qs : List Q3} (h : mayC s ≠ 0) : mayT s qs = mayC s := by unfold mayT; rw [if_pos h]
theorem mayT_len {s : List Int} {qs : List Q3} (h : mayC s = 0) (h2 : (qs.length : Int) ≠ countS s) : mayT s qs = 13 := by unfold mayT; rw [if_neg (by rw [h]; simp), if_pos h2]
theorem mayT_bad {s : List Int} {qs : List Q3} (h : mayC s = 0) (h2 : (qs.length : Int) = countS s) {q : Q3} (hq : q ∈ qs) (h3 : okQ q = false) : mayT s qs = 6 := by
  unfold mayT
  rw [if_neg (by rw [h]; simp), if_neg (by rw [h2]; simp), if_neg]
  intro e
  rw [List.all_eq_true] at e
  rw [e q hq] at h3
  cases h3
theorem mayT_ok {s : List Int} {qs : List Q3} (h : mayC s = 0) (h2 : (qs.length : Int) = countS s) (h3 : ∀ q ∈ qs, okQ q = true) : mayT s qs = 0 := by
  unfold mayT
  rw [if_neg (by rw [h]; simp), if_neg (by rw [h2]; simp), if_pos (List.all_eq_true.2 h3)]
set_option maxRecDepth 100000 in
set_option maxHeartbeats 4000000 in
theorem mayT_any {w : World} {v : Value} {s : List Int} {qs : List Q3} {a b : Option Addr} {ca cb : Nat} (T : TensQ w v s qs a ca b cb) (hq : qs.length ≤ 1000000000)
    (hl : ∀ q ∈ qs, q.num.length ≤ 134217728 ∧ q.den.length ≤ 134217728) :
    Calls Tryz.prog 28 #[v] w fun e w' => e = .returned (.int .i64 (mayT s qs)) ∧ Below w.heap.size w w' := by
  have HT := Lib.hid T
  obtain rfl := T.is
  obtain ⟨W, hW⟩ : ∃ W, (w.alloc (.cells #[.slice a s.length ca, .slice b qs.length cb] 26)) = W := ⟨_, rfl⟩
  have R0 : Row W w.heap.size 26 #[.slice a s.length ca, .slice b qs.length cb] := by rw [← hW]; exact Row.new _ _ _
  have hBW : Below w.heap.size w W := by rw [← hW]; exact (Below.refl _ _).alloc (by simp) _
  obtain ⟨c, hc⟩ : ∃ c, mayT s qs = c := ⟨_, rfl⟩
  have HC := Lib.hid hc
  obtain ⟨m, hm⟩ : ∃ m, mayC s = m := ⟨_, rfl⟩
  have HM := Lib.hid hm
  obtain ⟨t, ht⟩ : ∃ t, countS s = t := ⟨_, rfl⟩
  have HTT := Lib.hid ht
  have q1 := mayR6_any (HT.out.sh.later hBW)
  have q2 := fun X (hX : Below W.heap.size W X) => countR6_any ((HT.out.sh.later hBW).later hX)
  rw [hm] at q1
  rw [ht] at q2
  rw [hc]
  obtain ⟨p0, p1, _, _⟩ := R0.two
  clear T hc hm ht
  have mkS : ∀ X, Below W.heap.size W X → X.cell? ⟨w.heap.size, 0, none⟩ = some (.slice a s.length ca) ∧ X.cell? ⟨w.heap.size, 1, none⟩ = some (.slice b qs.length cb) ∧ Below W.heap.size W X := fun X h => ⟨(R0.later h).cell 0, (R0.later h).cell 1, h⟩
  by_cases h0 : m = 0
  · subst h0
    by_cases hlen : (qs.length : Int) = t
    · have hne : ((qs.length : Int) != t) = false := by simpa using hlen
      have HLN := Lib.hid hlen
      clear hlen
      go_enter Tryz.func28, Tryz.ntmps28
      go_wp2_with (go_at_call 55; refine q1.mono ?_; rintro e w1 ⟨rfl, rfl⟩)
      go_region_held3 (fun X => X.cell? ⟨w.heap.size, 0, none⟩ = some (.slice a s.length ca) ∧ X.cell? ⟨w.heap.size, 1, none⟩ = some (.slice b qs.length cb) ∧ Below W.heap.size W X)
        (((refine mkS _ ?_; (repeat' (first | exact Below.refl _ _ | refine Below.drew ?_)))))
        ((go_at_call 66; (with_reducible refine (q2 _ (show Below W.heap.size W _ by (repeat' (first | exact Below.refl _ _ | refine Below.drew ?_)))).mono ?_); rintro e w' ⟨rfl, rfl⟩))
      clear hne q1 hW
      go_wp2
      go_loopw [4] (fun i wr => ∃ k : Nat, i = .int .i64 (k : Int) ∧ k ≤ qs.length ∧ (∀ q ∈ qs.take k, okQ q = true) ∧ Below W.heap.size W wr) (fun i _ => qs.length - (intOf i).toNat)
      case atStart => exact ⟨0, rfl, Nat.zero_le _, fun q h => by simp at h, by first | exact Below.refl _ _ | exact (Below.refl _ _).drew⟩
      case round =>
        obtain ⟨k, rfl, hk, hall, hb⟩ := hrel
        have r0 := R0.later hb
        obtain ⟨c00, c01, _, _⟩ := r0.two
        have HALL := Lib.hid hall
        clear hall
        by_cases hlt : k < qs.length
        · have hbw := hBW.trans (hb.mono hBW.size)
          obtain ⟨bb, o, x0, x1, x2, q, hbo, hqk, e0, e1, e2, hraw⟩ := (HT.out.el.later hbw (fun v x _ k => k.later hbw)).at hlt
          have hmem := List.mem_of_getElem? hqk
          subst hbo
          obtain ⟨u1, u2, k1, k2, hx, A1, B1, _, _⟩ := hraw
          simp only [Value.agg.injEq, Array.mk.injEq, List.cons.injEq, and_true] at hx
          obtain ⟨rfl, rfl, rfl⟩ := hx
          have hcall := mayR_any (m1 := q.neg) A1 B1 (hl q hmem).1 (hl q hmem).2 (Nat.le_refl _)
          have hltI : (k : Int) < (qs.length : Int) := by omega
          have HQK := Lib.hid hqk
          clear hqk
          have hokd : okQ q = validB q.neg q.num q.den (ratOf q.neg (val q.num) (val q.den)) := rfl
          by_cases hok : okQ q = true
          · rw [← hokd, if_pos hok] at hcall
            have HOK := Lib.hid hok
            clear hok hokd
            go_wp2_with (go_at_call 67; refine hcall.mono ?_; rintro e w2 ⟨rfl, hb2⟩)
            go_roundw
            case rel =>
              refine ⟨k + 1, by go_num, by omega, fun y hy => ?_, hb.trans (hb2.mono hb.size)⟩
              rw [take_nextL HQK.out] at hy
              rcases List.mem_append.1 hy with h | h
              · exact HALL.out y h
              · rw [List.mem_singleton.1 h]; exact HOK.out
            case measure => simp [intOf]; omega
          · have hok2 : okQ q = false := by simpa using hok
            rw [← hokd, if_neg hok] at hcall
            have hcc := mayT_bad HM.out (by rw [HTT.out]; exact HLN.out) hmem hok2
            obtain rfl : c = 6 := by rw [← HC.out]; exact hcc
            clear hok hok2 hokd hcc
            go_wp2_with (go_at_call 67; refine hcall.mono ?_; rintro e w2 ⟨rfl, hb2⟩)
            go_ret
            exact ⟨rfl, hBW.trans ((hb.trans (hb2.mono hb.size)).mono hBW.size)⟩
        · obtain rfl : k = qs.length := by omega
          have hltI : ¬ (qs.length : Int) < (qs.length : Int) := by omega
          have hcc := mayT_ok HM.out (by rw [HTT.out]; exact HLN.out) (by have h := HALL.out; rwa [List.take_length] at h)
          obtain rfl : c = 0 := by rw [← HC.out]; exact hcc
          clear hcc
          go_wp2
          go_ret
          exact ⟨rfl, hBW.trans (hb.mono hBW.size)⟩
    · have hne : ((qs.length : Int) != t) = true := by simpa using hlen
      have hcc := mayT_len HM.out (by rw [HTT.out]; exact hlen)
      obtain rfl : c = 13 := by rw [← HC.out]; exact hcc
      clear hlen hcc
      go_enter Tryz.func28, Tryz.ntmps28
      go_wp2_with (go_at_call 55; refine q1.mono ?_; rintro e w1 ⟨rfl, rfl⟩)
      go_region_held3 (fun X => X.cell? ⟨w.heap.size, 0, none⟩ = some (.slice a s.length ca) ∧ X.cell? ⟨w.heap.size, 1, none⟩ = some (.slice b qs.length cb) ∧ Below W.heap.size W X)
        (((refine mkS _ ?_; (repeat' (first | exact Below.refl _ _ | refine Below.drew ?_)))))
        ((go_at_call 66; (with_reducible refine (q2 _ (show Below W.heap.size W _ by (repeat' (first | exact Below.refl _ _ | refine Below.drew ?_)))).mono ?_); rintro e w' ⟨rfl, rfl⟩))
      go_wp2
      go_ret
      exact ⟨rfl, by first | exact hBW | exact hBW.drew⟩
  · have hcc := mayT_shape (s := s) (qs := qs) (by rw [HM.out]; exact h0)
    obtain rfl : c = m := by rw [← HC.out, hcc]; exact HM.out
    have hne : (c != 0) = true := by simpa using h0
    clear hcc q2
    go_enter Tryz.func28, Tryz.ntmps28
    go_wp2_with (go_at_call 55; refine q1.mono ?_; rintro e w1 ⟨rfl, rfl⟩)
    go_ret
    exact ⟨rfl, hBW⟩
end
section
open Go.RowKit
set_option linter.unusedVariables false
set_option linter.unusedSimpArgs false
set_option maxRecDepth 100000 in
set_option maxHeartbeats 4000000 in
theorem intRR_any (k : Int) (w : World) (h0 : -9223372036854775808 ≤ k) (h1 : k ≤ 9223372036854775807) :
    Calls Tryz.prog 49 #[.int .i64 k] w fun e w' => ∃ r, e = .returned r ∧ ResR w.heap.size w' r (intQ k) 6 ∧ Below w.heap.size w w' := by
  obtain ⟨i1, i2, i3⟩ := intQ_parts k
  obtain ⟨m1, hm1⟩ : ∃ m, decide (k < 0) = m := ⟨_, rfl⟩
  rw [hm1] at i1
  have I1 := Lib.hid i1
  have I2 := Lib.hid i2
  have I3 := Lib.hid i3
  clear i1 i2 i3
  obtain ⟨W, hW⟩ : ∃ W, (w.alloc (.cells #[.bool false, .slice none 0 0, .slice none 0 0] 75)) = W := ⟨_, rfl⟩
  have R0 : Row W (w.heap.size) 75 #[.bool false, .slice none 0 0, .slice none 0 0] := by rw [← hW]; exact (Row.new _ _ _)
  have hBW : Below w.heap.size w W := by rw [← hW]; exact ((Below.refl _ _).alloc (by (try simp) <;> omega) _)
  have hsW : w.heap.size + 1 ≤ W.heap.size := by rw [← hW]; simp
  go_enter Tryz.func49, Tryz.ntmps49
  go_wp2_with fail
  refine (sizeR_any k _ h0 h1).mono ?_
  rintro e w1 ⟨r1, rfl, z1, q1, l1, hb1⟩
  have hs1 := hb1.size
  obtain ⟨ad1, cp1, rfl, q1, A1⟩ := q1.slice
  have v1 : valD z1 = (((intQ k).num.natAbs : Nat) : Int) := by rw [q1.eq, I2.out]
  have V1 := Lib.hid v1
  have hb2 : Below w1.heap.size w1 (w1.alloc (.cells #[.int .i64 1] 3)) := (Below.refl _ _).alloc (Nat.le_refl _) _
  have L := digit_lit (Row.new w1 3 #[.int .i64 1]) (by omega)
  have P2 := (R0.later hb1).later hb2
  have A2 := A1.later hb2
  have Q1 := Lib.hid q1
  clear v1 q1 hW
  obtain ⟨q0, q1, q2, h0', h1', h2'⟩ := (R0.later hb1).three
  obtain ⟨u0, u1, u2, g0, g1, g2⟩ := P2.three
  go_wp2_with fail
  refine bodyPost_ret (v := .agg #[.bool m1, .slice ad1 z1.length cp1, .slice (some ⟨w1.heap.size, 0, none⟩) 1 1]) (by simp [results, Tryz.results49, go_sem, u0, u1, u2]) rfl ⟨_, rfl, ⟨z1, [1], ad1, some ⟨w1.heap.size, 0, none⟩, cp1, 1, by rw [I1.out]; rfl, ?_, ?_, l1, by simp⟩, ?_⟩
  · exact (((Q1.out.mono (by omega)).later hb2).far P2 (by decide) (kept3 _ _ _)).eqTo V1.out
  · rw [I3.out]; exact (ResD.one w1 (by omega)).far P2 (by decide) (kept3 _ _ _)
  · exact below_set3 ((hBW.trans (hb1.mono (by omega))).trans (hb2.mono (by omega))) (by omega) _ _ _
/-- a tensor as it is answered -/
def ResT (base : Nat) (w : World) (v : Value) (s : List Int) (L : List Rat) (m : Nat) : Prop :=
  ∃ (a b : Option Addr) (ca cb : Nat), v = .agg #[.slice a s.length ca, .slice b L.length cb] ∧ ResS base w (.slice a s.length ca) s ∧ RowO base 58 (fun W v x => ResQ base W v x m) w (.slice b L.length cb) L
theorem ResT.later {base : Nat} {w w' : World} {v : Value} {s : List Int} {L : List Rat} {m : Nat} (h : ResT base w v s L m) (hb : Below w.heap.size w w') : ResT base w' v s L m := by
  obtain ⟨a, b, ca, cb, rfl, h1, h2⟩ := h
  exact ⟨a, b, ca, cb, rfl, h1.later hb, h2.later hb (fun v x h => h.later hb)⟩
theorem ResT.mono {base base' : Nat} {w : World} {v : Value} {s : List Int} {L : List Rat} {m : Nat} (h : ResT base w v s L m) (hb : base' ≤ base) : ResT base' w v s L m := by
  obtain ⟨a, b, ca, cb, rfl, h1, h2⟩ := h
  exact ⟨a, b, ca, cb, rfl, h1.mono hb, h2.mono hb (fun v x h => h.mono hb)⟩
theorem ResT.far {base : Nat} {w w' : World} {v : Value} {s : List Int} {L : List Rat} {m g : Nat} {t : TypeId} {cs : Array Value} (h : ResT base w v s L m) (R : Row w g t cs) (h1 : t ≠ 3) (h2 : t ≠ 63) (h3 : t ≠ 58) (hk : ∀ k, k ≠ g → w'.heap[k]? = w.heap[k]?) : ResT base w' v s L m := by
  obtain ⟨a, b, ca, cb, rfl, k1, k2⟩ := h
  exact ⟨a, b, ca, cb, rfl, k1.far R h1 hk, k2.far R h3 hk (fun v x h => h.far R h2 hk)⟩
end
end Go.Proofs.YtooglnhlhgmhdaaGreat
