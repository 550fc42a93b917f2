/-
  Layer 9: broadcasting, slicing and padding, in numbers.
-/
import Derived.Test.YtooglnhlhgmhdaaGreatV1
import Derived.Test.YtooglnhlhgmhdaaGreatV2
import Derived.Test.YtooglnhlhgmhdaaGreatV3
import Derived.Test.YtooglnhlhgmhdaaGreatV4
import Derived.Test.YtooglnhlhgmhdaaGreatV5
import Derived.Test.YtooglnhlhgmhdaaGreatV7
import Derived.Test.YtooglnhlhgmhdaaGreatV9
import Derived.Test.YtooglnhlhgmhdaaGreatV13
import Derived.Test.YtooglnhlhgmhdaaGreatV14
import Derived.Test.YtooglnhlhgmhdaaGreatV16
import Derived.Test.YtooglnhlhgmhdaaGreatV18
import Derived.WalkKit
import Derived.Test.YtooglnhlhgmhdaaGreatRows
import Derived.BigQuiet
import Derived.Deep.QuietTactic
import Derived.Lib.Hide
import Derived.Lib.Small
import Derived.Lib.Walk
import Derived.Lib.BitFns
import Derived.Maps.AppendAt
import Derived.RangeFuncNested
import Derived.RangeFuncBound
import Derived.RangeFuncCalls
import Derived.RangeFuncLeaves
import Derived.Shelf.Abstract
import Derived.OwnWalkIn
import Derived.TacticsInMore
import Derived.LoopNIn
import Derived.LoopIn
import Derived.RangeFuncBox
import Derived.Deep.RegionHeld3
import Derived.OrdersIn
import Derived.StillTailTactics
import Derived.RangeFuncFrom
import Derived.Laws.EntriesVeiled
import Derived.ProofKit
import Derived.OpenShut
import Derived.JoinedCond
import Derived.Carry
import Derived.Laws.AppendOwnNone
import Derived.Lib.ItoaNum
import Derived.Deep.RegionLaw
import Derived.WalkMore
import Derived.Lib.SmallJoins
import Derived.IntWalk
import Derived.Deep.DeepCutAuto
import Derived.Laws.OwnMore
import Derived.OrdersHeld
import Derived.Deep.RegionHeld
import Derived.ArgAppend
import Derived.Deep.Slices
import Derived.Laws.CopyOwn
import Derived.Lib.SliceRun
namespace Go.Proofs.YtooglnhlhgmhdaaGreat
set_option maxRecDepth 100000
section
open Go.RowKit
set_option linter.unusedVariables false
set_option linter.unusedSimpArgs false
theorem place_snoc {s xs : List Int} (hl : xs.length = s.length) (d x : Int) : placeS (s ++ [d]) (xs ++ [x]) = placeS s xs * d + x := by
  induction s generalizing xs with
  | nil =>
    obtain rfl := List.eq_nil_of_length_eq_zero hl
    simp [placeS, prodS]
  | cons c cs ih => cases xs with
    | nil => simp at hl
    | cons y ys =>
      have := ih (xs := ys) (by simpa using hl)
      simp only [List.cons_append, placeS, this, prodS_append, prodS]
      rw [Int.add_mul, Int.mul_one, Int.mul_assoc]
      omega
theorem inS_snoc {s xs : List Int} (h : inS s xs) {d x : Int} (h0 : 0 ≤ x) (h1 : x < d) : inS (s ++ [d]) (xs ++ [x]) := by
  induction s generalizing xs with
  | nil =>
    obtain rfl := List.eq_nil_of_length_eq_zero (inS_length h)
    exact ⟨⟨h0, h1⟩, trivial⟩
  | cons c cs ih => cases xs with
    | nil => exact h.elim
    | cons y ys => exact ⟨h.1, ih h.2⟩
theorem inS_next {s xs : List Int} {k : Nat} {d x : Int} (h : inS (s.take k) (xs.take k)) (hd : s[k]? = some d) (hx : xs[k]? = some x) (h0 : 0 ≤ x) (h1 : x < d) : inS (s.take (k + 1)) (xs.take (k + 1)) := by
  rw [List.take_add_one, List.take_add_one, hd, hx]
  exact inS_snoc h h0 h1
theorem place_next {s xs : List Int} {k : Nat} {d x : Int} (h : inS (s.take k) (xs.take k)) (hd : s[k]? = some d) (hx : xs[k]? = some x) : placeS (s.take (k + 1)) (xs.take (k + 1)) = placeS (s.take k) (xs.take k) * d + x := by
  rw [List.take_add_one, List.take_add_one, hd, hx]
  exact place_snoc (inS_length h) d x
theorem place_small {s xs : List Int} {k : Nat} (ok : OkS s) (h : inS (s.take k) (xs.take k)) : 0 ≤ placeS (s.take k) (xs.take k) ∧ placeS (s.take k) (xs.take k) < 1024 := by
  have h1 := place_range h
  have h2 := prodS_take_le ok.pos k
  have h3 := ok.few
  omega
set_option maxRecDepth 100000 in
set_option maxHeartbeats 2000000 in
theorem offsetS_any {u v : Value} {s xs : List Int} {a b : Option Addr} {ca cb : Nat} {w : World} (A : ArgS w u s a ca) (B : ArgS w v xs b cb) (ha : a = none → ca = 0) (hb : b = none → cb = 0) (hx : s.length ≤ 17592186044416) (hy : xs.length ≤ 17592186044416) :
    Calls Tryz.prog 86 #[u, v] w fun e w' => e = .returned (.tuple #[.int .i64 (offV s xs), .int .i64 (offC s xs)]) ∧ Below w.heap.size w w' := by
  refine Calls.mono (R := fun e w' => e = .returned (.tuple #[.int .i64 (offV s xs), .int .i64 (offC s xs)]) ∧ w = w') ?_ (fun _ _ ⟨h1, h2⟩ => ⟨h1, h2 ▸ Below.refl _ _⟩)
  have hm := mayS_eq A
  have HA := Lib.hid A
  have HB := Lib.hid B
  obtain rfl := A.is
  obtain rfl := B.is
  obtain ⟨c, hc⟩ : ∃ c, offC s xs = c := ⟨_, rfl⟩
  obtain ⟨t, ht⟩ : ∃ t, offV s xs = t := ⟨_, rfl⟩
  obtain ⟨m, hmc⟩ : ∃ m, mayC s = m := ⟨_, rfl⟩
  obtain ⟨L, hL⟩ : ∃ L, s.length = L := ⟨_, rfl⟩
  obtain ⟨M, hM⟩ : ∃ M, xs.length = M := ⟨_, rfl⟩
  rw [hmc, hL] at hm
  rw [hc, ht, hL, hM]
  have HC := Lib.hid hc
  have HT := Lib.hid ht
  have HM := Lib.hid hM
  have HL := Lib.hid hL
  have HMC := Lib.hid hmc
  rw [hL] at hx
  rw [hM] at hy
  clear A B ha hb hc ht hmc hL hM
  by_cases h0 : m = 0
  · subst h0
    by_cases hl : M = L
    · subst hl
      have hlI : ((M : Int) != (M : Int)) = false := by simp
      have ok := mayC_zero.1 HMC.out
      have hM4 : M ≤ 4 := by rw [← HL.out]; exact ok.rank
      have HO := Lib.hid ok
      clear ok
      go_enter Tryz.func86, Tryz.ntmps86
      go_wp2_with (go_at_call 52; refine hm.mono ?_; rintro e w1 ⟨rfl, rfl⟩)
      clear hm
      go_loop [7, 8, 9, 22] (fun p _ _ i => ∃ (k : Nat) (P : Int), i = .int .i64 (k : Int) ∧ p = .int .i64 P ∧ k ≤ M ∧ inS (s.take k) (xs.take k) ∧ P = placeS (s.take k) (xs.take k)) (fun _ _ _ i => M - (intOf i).toNat)
      case atStart => exact ⟨0, 0, rfl, rfl, Nat.zero_le _, trivial, rfl⟩
      case round =>
        obtain ⟨k, P, rfl, rfl, hk, hin, hP⟩ := hrel
        have hsm := place_small HO.out hin
        rw [← hP] at hsm
        obtain ⟨hP0, hP1⟩ := hsm
        have HIN := Lib.hid hin
        have HP := Lib.hid hP
        clear hin hP
        by_cases hlt : k < M
        · obtain ⟨b1, o1, rfl, c1⟩ := HA.out.at (i := k) (by rw [HL.out]; exact hlt)
          obtain ⟨b2, o2, rfl, c2⟩ := HB.out.at (i := k) (by rw [HM.out]; exact hlt)
          have hd := getD_some (xs := s) (k := k) (by rw [HL.out]; exact hlt)
          have hxx := getD_some (xs := xs) (k := k) (by rw [HM.out]; exact hlt)
          have hd1 := HO.out.pos.getD (i := k) (by rw [HL.out]; exact hlt)
          have hd2 := getD_le_prod HO.out.pos (k := k) (by rw [HL.out]; exact hlt)
          have hf := HO.out.few
          obtain ⟨d, hde⟩ : ∃ d, s.getD k 0 = d := ⟨_, rfl⟩
          obtain ⟨x, hxe⟩ : ∃ x, xs.getD k 0 = x := ⟨_, rfl⟩
          rw [hde] at c1 hd hd1 hd2
          rw [hxe] at c2 hxx
          have HD := Lib.hid hd
          have HX := Lib.hid hxx
          have HDE := Lib.hid hde
          have HXE := Lib.hid hxe
          have hbw := below_any x d w
          have hltI : (k : Int) < (M : Int) := by omega
          have hd3 : d ≤ 1024 := by omega
          clear hd hxx hd2 hf hde hxe
          by_cases hg : 0 ≤ x ∧ x < d
          · obtain ⟨g0, g1⟩ := hg
            rw [belowB_yes g0 g1] at hbw
            have hn := inS_next HIN.out HD.out HX.out g0 g1
            have hp := place_next HIN.out HD.out HX.out
            have hs := place_small HO.out hn
            rw [hp, ← HP.out] at hs
            have e0 : 0 ≤ P * d := Int.mul_nonneg hP0 (by omega)
            have e1 : P * d ≤ 1024 * 1024 := Int.mul_le_mul (by omega) hd3 (by omega) (by omega)
            have w1 : wrap64 (P * d) = P * d := by unfold wrap64; omega
            have w2 : wrap64 (P * d + x) = P * d + x := by unfold wrap64; omega
            have HN := Lib.hid hn
            have HPN := Lib.hid hp
            clear hn hp hs
            go_wp2_with (go_at_call 110; refine hbw.mono ?_; rintro e w1 ⟨rfl, rfl⟩)
            go_round
            case rel => exact ⟨k + 1, _, by go_num, rfl, by omega, HN.out, by rw [HPN.out, ← HP.out] <;> first | exact w2 | rw [w1, w2]⟩
            case measure => simp [intOf]; omega
          · rw [belowB_no (by omega)] at hbw
            have hno : ¬ inS s xs := fun h => by
              have := inS_at h (i := k) (by rw [HL.out]; exact hlt)
              rw [HDE.out, HXE.out] at this
              exact hg this
            have hcc := offC_out HMC.out (by rw [HM.out, HL.out]) hno
            obtain rfl : c = 21 := by rw [← HC.out]; exact hcc
            obtain rfl : t = 0 := by rw [← HT.out]; exact offV_bad (by rw [hcc]; decide)
            clear hcc hno hg
            go_wp2_with (go_at_call 110; refine hbw.mono ?_; rintro e w1 ⟨rfl, rfl⟩)
            go_ret2
            exact ⟨rfl, rfl⟩
        · obtain rfl : k = M := by omega
          have hin := HIN.out
          have hP := HP.out
          rw [take_all HL.out, take_all HM.out] at hin hP
          obtain rfl : c = 0 := by rw [← HC.out]; exact offC_in HMC.out hin
          obtain rfl : t = P := by rw [← HT.out, offV_in HMC.out hin]; exact hP.symm
          have hltI : ¬ (k : Int) < (k : Int) := by omega
          clear hin hP
          go_wp2
          go_ret2
          exact ⟨rfl, rfl⟩
    · have hcc := offC_arg HMC.out (by rw [HM.out, HL.out]; exact hl)
      obtain rfl : c = 2 := by rw [← HC.out]; exact hcc
      obtain rfl : t = 0 := by rw [← HT.out]; exact offV_bad (by rw [hcc]; decide)
      have hlI : ((M : Int) != (L : Int)) = true := by simp; omega
      clear hcc
      go_enter Tryz.func86, Tryz.ntmps86
      go_wp2_with (go_at_call 52; refine hm.mono ?_; rintro e w1 ⟨rfl, rfl⟩)
      go_ret2
      exact ⟨rfl, rfl⟩
  · have hcc := offC_may (s := s) (xs := xs) (by rw [HMC.out]; exact h0)
    obtain rfl : c = m := by rw [← HC.out, hcc]; exact HMC.out
    obtain rfl : t = 0 := by rw [← HT.out]; exact offV_bad (by rw [HC.out]; exact h0)
    have hne : (c != 0) = true := by simpa using h0
    clear hcc
    go_enter Tryz.func86, Tryz.ntmps86
    go_wp2_with (go_at_call 52; refine hm.mono ?_; rintro e w1 ⟨rfl, rfl⟩)
    go_ret2
    exact ⟨rfl, rfl⟩
/-- the first k numbers are axes; the last one of them -/
def axU (l : List Int) (rank : Int) (k : Nat) : Prop := ∀ i, i < k → (0 ≤ l.getD i 0 ∧ l.getD i 0 < rank) ∧ (0 < i → l.getD (i - 1) 0 < l.getD i 0)
def lastS (l : List Int) : Nat → Int
  | 0 => -1
  | k + 1 => l.getD k 0
theorem axU.next {l : List Int} {rank : Int} {k : Nat} (h : axU l rank k) (h0 : lastS l k < l.getD k 0) (h1 : 0 ≤ l.getD k 0) (h2 : l.getD k 0 < rank) : axU l rank (k + 1) := by
  intro i hi
  by_cases e : i = k
  · subst e
    refine ⟨⟨h1, h2⟩, fun hp => ?_⟩
    obtain ⟨j, rfl⟩ : ∃ j, i = j + 1 := ⟨i - 1, by omega⟩
    exact h0
  · exact h i (by omega)
end
section
set_option linter.unusedVariables false
set_option linter.unusedSimpArgs false
/-- the element at places; 0 where there are no such ones -/
def elV (s : List Int) (L : List Rat) (xs : List Int) : Rat := if inS s xs then L.getD (placeS s xs).toNat 0 else 0
/-- what a shape is filled with -/
def fillV (s : List Int) (F : List Int → Rat) : List Rat := (List.range (prodS s).toNat).map fun k : Nat => F (idxS s (k : Int))
theorem fillV_len (s : List Int) (F : List Int → Rat) : (fillV s F).length = (prodS s).toNat := by simp [fillV]
theorem elV_in {s xs : List Int} {L : List Rat} (h : inS s xs) : elV s L xs = L.getD (placeS s xs).toNat 0 := if_pos h
theorem elV_out {s xs : List Int} {L : List Rat} (h : ¬ inS s xs) : elV s L xs = 0 := if_neg h
theorem posS.ok {s : List Int} (h : OkS s) : posS s := h.pos
/-- the list's numbers, each by its place -/
theorem getD_map_range {n : Nat} (f : Nat → Int) {i : Nat} (h : i < n) : ((List.range n).map f).getD i 0 = f i := by
  simp [List.getD_eq_getElem?_getD, h]
theorem list_eq_getD {a b : List Int} (hl : a.length = b.length) (h : ∀ i, i < a.length → a.getD i 0 = b.getD i 0) : a = b := by
  apply List.ext_getElem hl
  intro i g1 g2
  have := h i g1
  simpa [List.getD_eq_getElem?_getD, g1, g2] using this
def trS (s p : List Int) : List Int := p.map fun n => s.getD n.toNat 0
def trI (p xs : List Int) : List Int := (List.range p.length).map fun n : Nat => xs.getD (p.idxOf (n : Int)) 0
theorem trS_len (s p : List Int) : (trS s p).length = p.length := by simp [trS]
theorem trI_len (p xs : List Int) : (trI p xs).length = p.length := by simp [trI]
theorem trS_at (s p : List Int) {i : Nat} (h : i < p.length) : (trS s p).getD i 0 = s.getD (p.getD i 0).toNat 0 := by
  simp [trS, List.getD_eq_getElem?_getD, h]
theorem trI_at (p xs : List Int) {n : Nat} (h : n < p.length) : (trI p xs).getD n 0 = xs.getD (p.idxOf (n : Int)) 0 := getD_map_range _ h
theorem IsPerm.idx {p : List Int} (h : IsPerm p) {n : Nat} (hn : n < p.length) : p.idxOf (n : Int) < p.length ∧ p.getD (p.idxOf (n : Int)) 0 = (n : Int) := by
  have hm := (h.mem (n : Int)).2 (by omega)
  have hlt := List.idxOf_lt_length_of_mem hm
  exact ⟨hlt, by rw [getD_elem hlt]; exact List.getElem_idxOf hlt⟩
theorem IsPerm.low {p : List Int} (h : IsPerm p) {i : Nat} (hi : i < p.length) : 0 ≤ p.getD i 0 ∧ p.getD i 0 < p.length := (h.back hi).1
theorem IsPerm.idx_at {p : List Int} (h : IsPerm p) {i : Nat} (hi : i < p.length) : p.idxOf (p.getD i 0) = i := by
  have h2 := (h.back hi).2
  have h1 := h.low hi
  rw [invL_at p (by omega), show (((p.getD i 0).toNat : Nat) : Int) = p.getD i 0 by omega] at h2
  omega
theorem trI_in {s p xs : List Int} (hp : IsPerm p) (hl : p.length = s.length) (h : inS (trS s p) xs) : inS s (trI p xs) := by
  refine inS_of (by rw [trI_len, hl]) fun i hi => ?_
  obtain ⟨k1, k2⟩ := hp.idx (n := i) (by omega)
  have := inS_at h (i := p.idxOf (i : Int)) (by rw [trS_len]; exact k1)
  rw [trS_at s p k1, k2] at this
  rw [trI_at p xs (by omega)]
  exact this
/-- a list of numbers that was filled through a permutation -/
theorem trI_eq {p xs zs : List Int} (hp : IsPerm p) (hl : zs.length = p.length) (h : ∀ j, j < p.length → zs.getD (p.getD j 0).toNat 0 = xs.getD j 0) : zs = trI p xs := by
  refine list_eq_getD (by rw [hl, trI_len]) fun i hi => ?_
  obtain ⟨k1, k2⟩ := hp.idx (n := i) (by omega)
  rw [trI_at p xs (by omega), ← h _ k1, k2]
  rfl
/-- a row that is filled through a permutation, up to place k -/
def FillP (p xs zs : List Int) (k : Nat) : Prop := zs.length = p.length ∧ ∀ j, j < k → zs.getD (p.getD j 0).toNat 0 = xs.getD j 0
theorem FillP.nil (p xs : List Int) : FillP p xs (List.replicate p.length 0) 0 := ⟨by simp, fun j hj => by omega⟩
theorem getD_set_self (zs : List Int) (i : Nat) (x : Int) (h : i < zs.length) : (zs.set i x).getD i 0 = x := by
  simp [List.getD_eq_getElem?_getD, h]
theorem getD_set_ne (zs : List Int) {i j : Nat} (x : Int) (h : i ≠ j) : (zs.set i x).getD j 0 = zs.getD j 0 := by
  simp [List.getD_eq_getElem?_getD, h]
theorem FillP.next {p xs zs : List Int} {k : Nat} (hp : IsPerm p) (hk : k < p.length) (h : FillP p xs zs k) : FillP p xs (zs.set (p.getD k 0).toNat (xs.getD k 0)) (k + 1) := by
  obtain ⟨h1, h2⟩ := h
  have hl := hp.low hk
  refine ⟨by rw [List.length_set]; exact h1, fun j hj => ?_⟩
  by_cases e : j = k
  · subst e
    exact getD_set_self _ _ _ (by omega)
  · rw [getD_set_ne, h2 j (by omega)]
    intro e2
    have hj2 := hp.low (i := j) (by omega)
    have := hp.idx_at hk
    rw [show p.getD k 0 = p.getD j 0 by omega, hp.idx_at (by omega)] at this
    exact e this
theorem FillP.full {p xs zs : List Int} (hp : IsPerm p) (h : FillP p xs zs p.length) : zs = trI p xs := trI_eq hp h.1 h.2
theorem Wid.map_range {n : Nat} {f : Nat → Int} (h : ∀ i, i < n → -9223372036854775808 ≤ f i ∧ f i ≤ 9223372036854775807) : Wid ((List.range n).map f) := fun x hx => by
  obtain ⟨i, hi, rfl⟩ := List.mem_map.1 hx
  exact h i (List.mem_range.1 hi)
theorem trI_wid {p xs : List Int} (h : Wid xs) : Wid (trI p xs) := Wid.map_range fun i _ => h.getD _
theorem trS_back {s p : List Int} (hp : IsPerm p) (hl : p.length = s.length) : trS (trS s p) (invL p) = s := by
  refine list_eq_getD (by rw [trS_len, invL_length, hl]) fun i hi => ?_
  rw [trS_len, invL_length] at hi
  obtain ⟨k1, k2⟩ := hp.idx (n := i) hi
  rw [trS_at _ _ (by rw [invL_length]; exact hi), invL_at p hi, show ((p.idxOf (i : Int) : Int)).toNat = p.idxOf (i : Int) by omega, trS_at s p k1, k2]
  rfl
theorem trI_back {p xs : List Int} (hp : IsPerm p) (hl : xs.length = p.length) : trI p (trI (invL p) xs) = xs := by
  have hi := hp.inv
  refine list_eq_getD (by rw [trI_len, hl]) fun i hx => ?_
  rw [trI_len] at hx
  obtain ⟨k1, k2⟩ := hp.idx (n := i) hx
  have e : (invL p).idxOf ((p.idxOf (i : Int) : Nat) : Int) = i := by
    have := hi.idx_at (i := i) (by rw [invL_length]; exact hx)
    rwa [invL_at p hx] at this
  rw [trI_at p _ hx, trI_at _ _ (by rw [invL_length]; exact k1), e]
theorem prod_perm {a b : List Int} (h : a.Perm b) : prodS a = prodS b := by
  induction h with
  | nil => rfl
  | cons x _ ih => simp only [prodS]; rw [ih]
  | swap x y l => simp only [prodS]; rw [← Int.mul_assoc, ← Int.mul_assoc, Int.mul_comm y x]
  | trans _ _ h1 h2 => rw [h1, h2]
theorem IsPerm.perm {p : List Int} (h : IsPerm p) : p.Perm (upS p.length) :=
  perm_of_all h.nodup (fun x hx => mem_upS.2 ((h.mem x).1 hx)) (by rw [upS_length]; exact Nat.le_refl _) |>.symm
theorem trS_up (s : List Int) : trS s (upS s.length) = s := by
  refine list_eq_getD (by rw [trS_len, upS_length]) fun i hi => ?_
  rw [trS_len, upS_length] at hi
  rw [trS_at _ _ (by rw [upS_length]; exact hi)]
  unfold upS
  rw [getD_map_range _ hi]
  rfl
theorem trS_ok {s p : List Int} (hp : IsPerm p) (hl : p.length = s.length) (h : OkS s) : OkS (trS s p) ∧ prodS (trS s p) = prodS s := by
  have hperm : (trS s p).Perm s := by
    have := hp.perm.map fun n => s.getD n.toNat 0
    rw [hl] at this
    exact this.trans (by rw [show (upS s.length).map (fun n => s.getD n.toNat 0) = trS s (upS s.length) from rfl, trS_up])
  have hpr := prod_perm hperm
  exact ⟨⟨by rw [trS_len, hl]; exact h.rank, fun x hx => h.pos x (hperm.mem_iff.1 hx), by rw [hpr]; exact h.few⟩, hpr⟩
def fstP (l : List Int) (i : Nat) : Int := l.getD (2 * i) 0
def sndP (l : List Int) (i : Nat) : Int := l.getD (2 * i + 1) 0
end
section
set_option linter.unusedVariables false
set_option linter.unusedSimpArgs false
def bcI (s : List Int) (k : Nat) (xs : List Int) : List Int := (List.range s.length).map fun i : Nat => (xs.getD (k + i) 0) % (s.getD i 0)
theorem bcI_len (s : List Int) (k : Nat) (xs : List Int) : (bcI s k xs).length = s.length := by simp [bcI]
theorem bcI_at (s : List Int) (k : Nat) (xs : List Int) {i : Nat} (h : i < s.length) : (bcI s k xs).getD i 0 = (xs.getD (k + i) 0) % (s.getD i 0) := getD_map_range _ h
/-- a pair that is none -/
def badCut (l : List Int) (i : Nat) : Prop := fstP l i < 0 ∨ sndP l i ≤ fstP l i
instance badCut.dec (l : List Int) (i : Nat) : Decidable (badCut l i) := inferInstanceAs (Decidable (_ ∨ _))
def slC (s cuts : List Int) : Int :=
  if cuts.length ≠ 2 * s.length then 11 else if ∃ i, i < s.length ∧ badCut cuts i then 11 else if ∃ i, i < s.length ∧ s.getD i 0 < sndP cuts i then 13 else 0
def slS (s cuts : List Int) : List Int := (List.range s.length).map fun i : Nat => sndP cuts i - fstP cuts i
theorem slC_len {s cuts : List Int} (h : cuts.length ≠ 2 * s.length) : slC s cuts = 11 := if_pos h
theorem slC_bad {s cuts : List Int} {i : Nat} (hi : i < s.length) (h : badCut cuts i) : slC s cuts = 11 := by
  unfold slC
  split
  · rfl
  · rw [if_pos ⟨i, hi, h⟩]
theorem slC_out {s cuts : List Int} (hl : cuts.length = 2 * s.length) (hg : ∀ i, i < s.length → ¬ badCut cuts i) {i : Nat} (hi : i < s.length) (h : s.getD i 0 < sndP cuts i) : slC s cuts = 13 := by
  unfold slC
  rw [if_neg (by omega), if_neg (fun ⟨j, hj, hb⟩ => hg j hj hb), if_pos ⟨i, hi, h⟩]
theorem slC_ok {s cuts : List Int} (hl : cuts.length = 2 * s.length) (hg : ∀ i, i < s.length → ¬ badCut cuts i) (h : ∀ i, i < s.length → ¬ s.getD i 0 < sndP cuts i) : slC s cuts = 0 := by
  unfold slC
  rw [if_neg (by omega), if_neg (fun ⟨j, hj, hb⟩ => hg j hj hb), if_neg (fun ⟨j, hj, hb⟩ => h j hj hb)]
theorem slC_is {s cuts : List Int} (h : slC s cuts = 0) : cuts.length = 2 * s.length ∧ ∀ i, i < s.length → 0 ≤ fstP cuts i ∧ fstP cuts i < sndP cuts i ∧ sndP cuts i ≤ s.getD i 0 := by
  unfold slC at h
  split at h
  · cases h
  · next h1 =>
    split at h
    · cases h
    · next h2 =>
      split at h
      · cases h
      · next h3 =>
        refine ⟨by omega, fun i hi => ?_⟩
        have a : ¬ badCut cuts i := fun hb => h2 ⟨i, hi, hb⟩
        have b : ¬ s.getD i 0 < sndP cuts i := fun hb => h3 ⟨i, hi, hb⟩
        unfold badCut at a
        omega
theorem slS_len (s cuts : List Int) : (slS s cuts).length = s.length := by simp [slS]
theorem slS_at (s cuts : List Int) {i : Nat} (h : i < s.length) : (slS s cuts).getD i 0 = sndP cuts i - fstP cuts i := getD_map_range _ h
theorem pos_of {s : List Int} (h : ∀ i, i < s.length → 1 ≤ s.getD i 0) : posS s := fun x hx => by
  obtain ⟨i, hi, rfl⟩ := List.mem_iff_getElem.1 hx
  rw [← getD_elem hi]
  exact h i hi
theorem prod_le {a b : List Int} (hl : a.length = b.length) (h : ∀ i, i < a.length → 1 ≤ a.getD i 0 ∧ a.getD i 0 ≤ b.getD i 0) : prodS a ≤ prodS b := by
  induction a generalizing b with
  | nil => cases b with
    | nil => exact Int.le_refl _
    | cons y b => simp at hl
  | cons x a ih => cases b with
    | nil => simp at hl
    | cons y b =>
      have h0 := h 0 (by simp)
      simp at h0
      have hi : ∀ i, i < a.length → 1 ≤ a.getD i 0 ∧ a.getD i 0 ≤ b.getD i 0 := fun i hi => by simpa using h (i + 1) (by simpa using hi)
      have h1 := ih (by simpa using hl) hi
      have h2 := prodS_pos (pos_of fun i k => (hi i k).1)
      simp only [prodS]
      exact Int.mul_le_mul h0.2 h1 (by omega) (by omega)
theorem slS_ok {s cuts : List Int} (h : slC s cuts = 0) (ok : OkS s) : OkS (slS s cuts) := by
  obtain ⟨_, h2⟩ := slC_is h
  have h3 : ∀ i, i < (slS s cuts).length → 1 ≤ (slS s cuts).getD i 0 ∧ (slS s cuts).getD i 0 ≤ s.getD i 0 := fun i hi => by
    rw [slS_len] at hi
    have := h2 i hi
    rw [slS_at _ _ hi]
    omega
  exact ⟨by rw [slS_len]; exact ok.rank, pos_of fun i hi => (h3 i hi).1, Int.le_trans (prod_le (slS_len _ _) h3) ok.few⟩
def badPad (l : List Int) (i : Nat) : Prop := fstP l i < 0 ∨ sndP l i < 0
instance badPad.dec (l : List Int) (i : Nat) : Decidable (badPad l i) := inferInstanceAs (Decidable (_ ∨ _))
def pdS (s pads : List Int) : List Int := (List.range s.length).map fun i : Nat => s.getD i 0 + (min (fstP pads i) 1024 + min (sndP pads i) 1024)
def pdC (s pads : List Int) : Int :=
  if pads.length ≠ 2 * s.length then 11 else if ∃ i, i < s.length ∧ badPad pads i then 11 else mayC (pdS s pads)
theorem pdS_len (s pads : List Int) : (pdS s pads).length = s.length := by simp [pdS]
theorem pdS_at (s pads : List Int) {i : Nat} (h : i < s.length) : (pdS s pads).getD i 0 = s.getD i 0 + (min (fstP pads i) 1024 + min (sndP pads i) 1024) := getD_map_range _ h
theorem pdC_is {s pads : List Int} (h : pdC s pads = 0) : pads.length = 2 * s.length ∧ OkS (pdS s pads) ∧ ∀ i, i < s.length → 0 ≤ fstP pads i ∧ 0 ≤ sndP pads i := by
  unfold pdC at h
  split at h
  · cases h
  · next h1 =>
    split at h
    · cases h
    · next h2 =>
      refine ⟨by omega, mayC_zero.1 h, fun i hi => ?_⟩
      have a : ¬ badPad pads i := fun hb => h2 ⟨i, hi, hb⟩
      unfold badPad at a
      omega
/-- what fits within the limit was no number that was cut -/
theorem pd_small {s pads : List Int} (h : pdC s pads = 0) (ok : OkS s) {i : Nat} (hi : i < s.length) : (pdS s pads).getD i 0 = fstP pads i + s.getD i 0 + sndP pads i ∧ fstP pads i ≤ 1024 ∧ sndP pads i ≤ 1024 := by
  obtain ⟨_, h2, h3⟩ := pdC_is h
  have h4 := getD_le_prod h2.pos (k := i) (by rw [pdS_len]; exact hi)
  have h5 := h2.few
  have h6 := ok.pos.getD hi
  have h7 := h3 i hi
  rw [pdS_at _ _ hi] at h4 ⊢
  omega
/-- where the tensor stands within what it was padded to -/
def inL (s pads : List Int) : List Int := (List.range s.length).flatMap fun i : Nat => [fstP pads i, fstP pads i + s.getD i 0]
theorem inL_len (s pads : List Int) : (inL s pads).length = 2 * s.length := by
  unfold inL
  induction s.length with
  | zero => rfl
  | succ n ih => rw [List.range_succ, List.flatMap_append, List.length_append, ih]; simp; omega
theorem flat2_at (f : Nat → List Int) (hf : ∀ i, (f i).length = 2) {n i : Nat} (hi : i < n) (j : Nat) (hj : j < 2) : ((List.range n).flatMap f).getD (2 * i + j) 0 = (f i).getD j 0 := by
  induction n with
  | zero => omega
  | succ n ih =>
    have hl : ((List.range n).flatMap f).length = 2 * n := by
      clear ih hi
      induction n with
      | zero => rfl
      | succ n ih => rw [List.range_succ, List.flatMap_append, List.length_append, ih]; simp [hf]; omega
    rw [List.range_succ, List.flatMap_append, List.getD_eq_getElem?_getD]
    by_cases h : i < n
    · rw [List.getElem?_append_left (by omega), ← List.getD_eq_getElem?_getD, ih h]
    · obtain rfl : i = n := by omega
      rw [List.getElem?_append_right (by omega), hl]
      simp [List.getD_eq_getElem?_getD]
theorem inL_fst {s pads : List Int} {i : Nat} (hi : i < s.length) : fstP (inL s pads) i = fstP pads i := by
  have := flat2_at (fun i : Nat => [fstP pads i, fstP pads i + s.getD i 0]) (fun _ => rfl) hi 0 (by omega)
  exact this
theorem inL_snd {s pads : List Int} {i : Nat} (hi : i < s.length) : sndP (inL s pads) i = fstP pads i + s.getD i 0 := by
  have := flat2_at (fun i : Nat => [fstP pads i, fstP pads i + s.getD i 0]) (fun _ => rfl) hi 1 (by omega)
  exact this
end
end Go.Proofs.YtooglnhlhgmhdaaGreat
