/-
  Part 7 of 21: contracts and what they rest on (MCode2, MMath3, IMath, ICode1, ICode2).
-/
import Derived.Test.YtdcggcfgkhlblaaL1
import Derived.Test.YtdcggcfgkhlblaaL2
import Derived.Test.YtdcggcfgkhlblaaL3
import Derived.Test.YtdcggcfgkhlblaaL4
import Derived.Test.YtdcggcfgkhlblaaL5
import Derived.WalkKit
import Derived.Test.YtdcggcfgkhlblaaRows
import Derived.OrdersHeld
import Derived.Deep.RegionHeld
import Derived.BigQuiet
import Derived.Deep.QuietTactic
import Derived.Lib.Hide
import Derived.Lib.Small
import Derived.Lib.Walk
import Derived.Lib.BitFns
import Derived.Maps.AppendAt
import Derived.RangeFuncNested
import Derived.RangeFuncBound
import Derived.RangeFuncCalls
import Derived.RangeFuncLeaves
import Derived.Shelf.Abstract
import Derived.OwnWalkIn
import Derived.TacticsInMore
import Derived.LoopNIn
import Derived.LoopIn
import Derived.RangeFuncBox
import Derived.Deep.RegionHeld3
import Derived.OrdersIn
import Derived.StillTailTactics
import Derived.RangeFuncFrom
import Derived.Laws.EntriesVeiled
import Derived.ProofKit
import Derived.OpenShut
import Derived.JoinedCond
import Derived.Carry
import Derived.Laws.AppendOwnNone
import Derived.Lib.ItoaNum
import Derived.Deep.RegionLaw
import Derived.WalkMore
import Derived.Lib.SmallJoins
import Derived.IntWalk
import Derived.Deep.DeepCutAuto
import Derived.Laws.OwnMore
import Derived.ArgAppend
import Derived.Deep.Slices
import Derived.Laws.CopyOwn
import Derived.Lib.SliceRun
import Derived.SizedLaws
import Derived.Great.BuildSlice
namespace Go.Proofs.Ytdcggcfgkhlblaa
set_option maxRecDepth 100000
section
open Go.RowKit
set_option linter.unusedVariables false
set_option linter.unusedSimpArgs false
/-- a row that came as an index and may be written to -/
def IdxP (B : Nat) (X : World) (ad : Option Addr) (cap : Nat) (zs : List Int) : Prop := (ad = none ∧ cap = 0 ∧ zs = []) ∨ ∃ g, ad = some ⟨g, 0, none⟩ ∧ B ≤ g ∧ cap ≤ maxLen ∧ PartS X g cap zs
theorem NumS.partS0 {base : Nat} {w : World} {v : Value} {zs : List Int} (h : NumS base w v zs) : (v = .slice none 0 0 ∧ zs = []) ∨ ∃ g cap, v = .slice (some ⟨g, 0, none⟩) zs.length cap ∧ base ≤ g ∧ cap ≤ maxLen ∧ PartS w g cap zs := by
  obtain ⟨h1, h2⟩ := h
  rcases h2 with ⟨hv, hn⟩ | ⟨g, cap, cur, hv, hb, hg, hc, hm, hs, ht⟩
  · exact .inl ⟨hv, List.eq_nil_of_length_eq_zero hn⟩
  · exact .inr ⟨g, cap, hv, hb, hm, cur, hg, by simpa using hs, hc, by simpa using ht⟩
theorem ResS.idx {B : Nat} {w : World} {u : Value} {xs : List Int} (h : ResS B w u xs) : ∃ ad cap, u = .slice ad xs.length cap ∧ IdxP B w ad cap xs ∧ xs.length ≤ cap ∧ (ad = none → cap = 0) ∧ Wid xs := by
  obtain ⟨ad, cap, rfl, hR, A, hn⟩ := h.slice
  rcases hR.num.partS0 with ⟨e, hz⟩ | ⟨g, cap2, e, hb, hm, hP⟩
  · simp only [Value.slice.injEq] at e
    obtain ⟨rfl, _, rfl⟩ := e
    exact ⟨_, 0, rfl, .inl ⟨rfl, rfl, hz⟩, A.le, hn, A.wf⟩
  · simp only [Value.slice.injEq] at e
    obtain ⟨rfl, _, rfl⟩ := e
    exact ⟨_, cap, rfl, .inr ⟨g, rfl, hb, hm, hP⟩, A.le, hn, A.wf⟩
theorem IdxP.at {B : Nat} {X : World} {ad : Option Addr} {cap : Nat} {zs : List Int} (h : IdxP B X ad cap zs) {i : Nat} (hi : i < zs.length) : ∃ g, ad = some ⟨g, 0, none⟩ ∧ B ≤ g ∧ cap ≤ maxLen ∧ PartS X g cap zs := by
  rcases h with ⟨_, _, rfl⟩ | h
  · simp at hi
  · exact h
end
section
open Go.RowKit
set_option linter.unusedVariables false
set_option linter.unusedSimpArgs false
theorem IdxP.res {B : Nat} {X : World} {ad : Option Addr} {cap : Nat} {zs : List Int} (h : IdxP B X ad cap zs) (hw : Wid zs) : ResS B X (.slice ad zs.length cap) zs := by
  rcases h with ⟨rfl, rfl, rfl⟩ | ⟨g, rfl, k1, k2, hP⟩
  · exact ResS.nil _ _
  · exact ⟨hP.num k1 k2, hw⟩
theorem wrap_range (x : Int) : -9223372036854775808 ≤ IntKind.i64.wrap x ∧ IntKind.i64.wrap x ≤ 9223372036854775807 := by
  simp only [IntKind.wrap, IntKind.bits, IntKind.signed]
  simp
  omega
theorem setBelow {B b : Nat} {w w' : World} (h : Below B w w') (hb : B ≤ b) (k : Nat) (u : Value) : Below B w (w'.setCell ⟨b, k, none⟩ u) := h.setCell hb u
end
section
open Go.RowKit
set_option linter.unusedVariables false
set_option linter.unusedSimpArgs false
def shpI (ls : List (List Int)) (i : Nat) : List Int := ls.getD i []
def matB (x y : List Int) : Bool := decide (x.length = 2 ∧ y.length = 2 ∧ x.getD 1 0 = y.getD 0 0)
def padI (s l : List Int) : List Int := (List.range s.length).map fun i : Nat => s.getD i 0 + fstP l i + sndP l i
theorem padI_len (s l : List Int) : (padI s l).length = s.length := by simp [padI]
theorem padI_at (s l : List Int) {i : Nat} (h : i < s.length) : (padI s l).getD i 0 = s.getD i 0 + fstP l i + sndP l i := getD_map_range _ h
def catD (a : Nat) : List (List Int) → Int
  | [] => 0
  | x :: l => x.getD a 0 + catD a l
def catS (a : Nat) (ls : List (List Int)) : List Int := (shpI ls 0).set a (catD a ls)
def likeB (a : List Int) (ls : List (List Int)) : Bool := ls.all fun y => decide (onesS y a = onesS (shpI ls 0) a)
def withinB (x a : List Int) : Bool := decide (∀ i, i < x.length → 2 * i + 1 < a.length → sndP a i ≤ x.getD i 0)
/-- does the condition hold? -/
def holdI (o : Int) (a : List Int) (ls : List (List Int)) : Bool :=
  if o = 1 ∨ o = 2 ∨ o = 3 ∨ o = 4 then decide (shpI ls 1 = shpI ls 0)
  else if o = 10 ∨ o = 19 then matB (shpI ls 0) (shpI ls 1)
  else if o = 11 then decide (a.length = (shpI ls 0).length)
  else if o = 12 then decide (countS a = countS (shpI ls 0))
  else if o = 13 then decide (fitC (shpI ls 0) a = 0)
  else if o = 17 then likeB a ls && axesB a (shpI ls 0).length
  else if o = 14 ∨ o = 20 then axesB a (shpI ls 0).length
  else if o = 15 then withinB (shpI ls 0) a && decide (a.length = 2 * (shpI ls 0).length)
  else if o = 16 then decide (a.length = 2 * (shpI ls 0).length)
  else true
/-- the shape that comes -/
def valI (o : Int) (a : List Int) (ls : List (List Int)) : List Int :=
  if o = 10 ∨ o = 19 then [(shpI ls 0).getD 0 0, (shpI ls 1).getD 1 0]
  else if o = 11 then trS (shpI ls 0) a
  else if o = 12 ∨ o = 13 then a
  else if o = 14 ∨ o = 20 then dropS (shpI ls 0) a
  else if o = 15 then slS (shpI ls 0) a
  else if o = 16 then padI (shpI ls 0) a
  else if o = 17 then catS (a.getD 0 0).toNat ls
  else shpI ls 0
def addC (o : Int) (z s : List Int) : Int := if o = 19 then fitC z s else 0
def attI (v o : Int) (n : Nat) (xs : List Int) (ls : List (List Int)) : List Int := expO v o n xs ((shpI ls 0).length : Int)
def infC (v o : Int) (n : Nat) (xs : List Int) (ls : List (List Int)) : Int :=
  if chkO v o n xs ≠ 0 then chkO v o n xs else if ls.length ≠ n then 10 else if orL (ls.map mayC) ≠ 0 then orL (ls.map mayC)
  else if holdI o (attI v o n xs ls) ls = false then 13
  else if mayC (valI o (attI v o n xs ls) ls) ≠ 0 then mayC (valI o (attI v o n xs ls) ls)
  else addC o (shpI ls 2) (valI o (attI v o n xs ls) ls)
def infV (v o : Int) (n : Nat) (xs : List Int) (ls : List (List Int)) : List Int := if infC v o n xs ls = 0 then valI o (attI v o n xs ls) ls else []
theorem infC_chk {v o : Int} {n : Nat} {xs : List Int} {ls : List (List Int)} (h : chkO v o n xs ≠ 0) : infC v o n xs ls = chkO v o n xs := by unfold infC; rw [if_pos h]
theorem infC_few {v o : Int} {n : Nat} {xs : List Int} {ls : List (List Int)} (h : chkO v o n xs = 0) (h1 : ls.length ≠ n) : infC v o n xs ls = 10 := by
  unfold infC; rw [if_neg (by rw [h]; simp), if_pos h1]
theorem infC_may {v o : Int} {n : Nat} {xs : List Int} {ls : List (List Int)} (h : chkO v o n xs = 0) (h1 : ls.length = n) (h2 : orL (ls.map mayC) ≠ 0) : infC v o n xs ls = orL (ls.map mayC) := by
  unfold infC; rw [if_neg (by rw [h]; simp), if_neg (by omega), if_pos h2]
theorem infC_hold {v o : Int} {n : Nat} {xs : List Int} {ls : List (List Int)} (h : chkO v o n xs = 0) (h1 : ls.length = n) (h2 : orL (ls.map mayC) = 0) (h3 : holdI o (attI v o n xs ls) ls = false) : infC v o n xs ls = 13 := by
  unfold infC; rw [if_neg (by rw [h]; simp), if_neg (by omega), if_neg (by rw [h2]; simp), if_pos h3]
theorem infC_val {v o : Int} {n : Nat} {xs : List Int} {ls : List (List Int)} (h : chkO v o n xs = 0) (h1 : ls.length = n) (h2 : orL (ls.map mayC) = 0) (h3 : holdI o (attI v o n xs ls) ls = true) : infC v o n xs ls = orL [mayC (valI o (attI v o n xs ls) ls), addC o (shpI ls 2) (valI o (attI v o n xs ls) ls)] := by
  unfold infC
  rw [if_neg (by rw [h]; simp), if_neg (by omega), if_neg (by rw [h2]; simp), if_neg (by rw [h3]; simp)]
  simp only [orL]
  by_cases h4 : mayC (valI o (attI v o n xs ls) ls) = 0
  · rw [if_neg (by rw [h4]; simp), if_pos h4]
    split
    · assumption
    · rfl
  · rw [if_pos h4, if_neg h4]
/-- shapes that may be -/
theorem orL_all0 {xs : List Int} (h : orL xs = 0) : ∀ x ∈ xs, x = 0 := by
  induction xs with
  | nil => intro x hx; cases hx
  | cons y r ih =>
    intro x hx
    simp only [orL] at h
    by_cases hy : y = 0
    · rw [if_pos hy] at h
      rcases List.mem_cons.1 hx with rfl | hx
      · exact hy
      · exact ih h x hx
    · rw [if_neg hy] at h; exact absurd h hy
theorem allOk {ls : List (List Int)} (h : orL (ls.map mayC) = 0) : ∀ x ∈ ls, OkS x := fun x hx => mayC_zero.1 (orL_all0 h _ (List.mem_map_of_mem hx))
theorem shp_in {ls : List (List Int)} {i : Nat} (h : i < ls.length) : shpI ls i ∈ ls := by
  unfold shpI
  rw [List.getD_eq_getElem?_getD, List.getElem?_eq_getElem h]
  exact List.getElem_mem h
theorem shp_ok {ls : List (List Int)} (h : orL (ls.map mayC) = 0) {i : Nat} (hi : i < ls.length) : OkS (shpI ls i) := allOk h _ (shp_in hi)
/-- a node that may be -/
structure GoodO (v o : Int) (n : Nat) (a : List Int) : Prop where
  inn : inO o = true
  al : (rowO o).al ≤ (n : Int)
  ah : (n : Int) ≤ (rowO o).ah
  bnd : bndB a = true
  fit : fitO o a = true
theorem good_of {v o : Int} {n : Nat} {xs : List Int} (h : chkO v o n xs = 0) (r : Int) : GoodO v o n (expO v o n xs r) := by
  have h' := h
  unfold chkO at h
  split at h
  · cases h
  rename_i c1
  split at h
  · cases h
  rename_i c2
  split at h
  · cases h
  rename_i c3
  split at h
  · cases h
  rename_i c4
  have hin : inO o = true := by
    cases hv : verO o v with
    | false => exact absurd hv c2
    | true =>
      unfold verO at hv
      rw [Bool.and_eq_true] at hv
      exact hv.1
  have hatt : attB o (expO v o n xs r) = true := by
    unfold expO
    by_cases hl : leaveB o v xs = true
    · rw [if_pos ⟨h', hl⟩]
      obtain ⟨k, hk, rfl⟩ := inO_nat hin
      have h5 := of_decide_eq_true hl
      obtain ⟨i0, i4⟩ := rkI_in r
      obtain ⟨m, hm⟩ : ∃ m : Nat, rkI r = (m : Int) := ⟨(rkI r).toNat, by omega⟩
      rw [hm]
      exact meantO_fits hk (by omega) (by omega)
    · rw [if_neg (fun h => hl h.2)]
      cases ha : attB o xs with
      | true => rfl
      | false => exact absurd ⟨by simpa using hl, ha⟩ c4
  unfold attB at hatt
  rw [Bool.and_eq_true] at hatt
  exact ⟨hin, by omega, by omega, hatt.1, hatt.2⟩
theorem bnd_in {a : List Int} (h : bndB a = true) : ∀ x ∈ a, -2147483647 ≤ x ∧ x ≤ 2147483647 := fun x hx => of_decide_eq_true (List.all_eq_true.1 h x hx)
theorem bnd_at {a : List Int} (h : bndB a = true) (i : Nat) : -2147483647 ≤ a.getD i 0 ∧ a.getD i 0 ≤ 2147483647 := by
  by_cases hi : i < a.length
  · rw [List.getD_eq_getElem?_getD, List.getElem?_eq_getElem hi]; exact bnd_in h _ (List.getElem_mem hi)
  · simp [List.getElem?_eq_none (Nat.le_of_not_lt hi)]
theorem fit_tr {a : List Int} (h : fitO 11 a = true) : a.length ≤ 4 ∧ IsPerm a := by
  have h1 : perB a = true := h
  unfold perB at h1
  rw [Bool.and_eq_true, decide_eq_true_iff] at h1
  exact ⟨h1.1, (permB_is h1.2).1⟩
theorem fit_sh {o : Int} {a : List Int} (ho : o = 12 ∨ o = 13) (h : fitO o a = true) : OkS a := by
  have h1 : shB a = true := by rcases ho with rfl | rfl <;> exact h
  exact mayC_zero.1 (of_decide_eq_true h1)
theorem fit_one {a : List Int} (h : fitO 17 a = true) : a.length = 1 ∧ 0 ≤ a.getD 0 0 ∧ a.getD 0 0 ≤ 3 := by
  have h1 : oneB 3 a = true := h
  exact of_decide_eq_true h1
theorem fit_sl {a : List Int} (h : fitO 15 a = true) : a.length % 2 = 0 ∧ a.length ≤ 8 ∧ ∀ k, 2 * k + 1 < a.length → 0 ≤ fstP a k ∧ fstP a k < sndP a k := by
  have h1 : pairsB slB a = true := h
  obtain ⟨h2, h3, h4⟩ := of_decide_eq_true h1
  exact ⟨h2, h3, fun k hk => of_decide_eq_true (h4 k (by omega) hk)⟩
theorem fit_pa {a : List Int} (h : fitO 16 a = true) : a.length % 2 = 0 ∧ a.length ≤ 8 ∧ ∀ k, 2 * k + 1 < a.length → 0 ≤ fstP a k ∧ 0 ≤ sndP a k := by
  have h1 : pairsB paB a = true := h
  obtain ⟨h2, h3, h4⟩ := of_decide_eq_true h1
  exact ⟨h2, h3, fun k hk => of_decide_eq_true (h4 k (by omega) hk)⟩
theorem ar_two {o : Int} {n : Nat} {v : Int} {a : List Int} (g : GoodO v o n a) (ho : o = 1 ∨ o = 2 ∨ o = 3 ∨ o = 4 ∨ o = 10) : n = 2 := by
  have h1 := g.al
  have h2 := g.ah
  rcases ho with rfl | rfl | rfl | rfl | rfl <;> · simp [rowO, inO, opsO] at h1 h2; omega
theorem ar_three {n : Nat} {v : Int} {a : List Int} (g : GoodO v 19 n a) : n = 3 := by
  have h1 := g.al
  have h2 := g.ah
  simp [rowO, inO, opsO] at h1 h2
  omega
theorem ar_one {o : Int} {n : Nat} {v : Int} {a : List Int} (g : GoodO v o n a) : 1 ≤ n ∧ n ≤ 8 := by
  have h1 := g.al
  have h2 := g.ah
  obtain ⟨k, hk, rfl⟩ := inO_nat g.inn
  have h3 : ∀ k : Nat, k < 20 → 1 ≤ (rowO ((k : Int) + 1)).al ∧ (rowO ((k : Int) + 1)).ah ≤ 8 := by decide +kernel
  have := h3 k hk
  omega
theorem catD_snoc (a : Nat) (l : List (List Int)) (x : List Int) : catD a (l ++ [x]) = catD a l + x.getD a 0 := by
  induction l with
  | nil => simp [catD]
  | cons y l ih => simp only [List.cons_append, catD, ih]; omega
theorem like_at {a : Nat} {x y : List Int} (hx : a < x.length) : (onesS y [(a : Int)] = onesS x [(a : Int)]) ↔ (y.length = x.length ∧ ∀ i, i < x.length → i ≠ a → y.getD i 0 = x.getD i 0) := by
  constructor
  · intro h
    have hl : y.length = x.length := by
      have := congrArg List.length h
      rwa [ones_len, ones_len] at this
    refine ⟨hl, fun i hi hia => ?_⟩
    have h1 := congrArg (fun l => l.getD i 0) h
    rw [ones_at y _ (by omega), ones_at x _ hi, if_neg (by simp; omega), if_neg (by simp; omega)] at h1
    exact h1
  · rintro ⟨hl, h⟩
    refine list_eq_getD (by rw [ones_len, ones_len, hl]) fun i hi => ?_
    rw [ones_len] at hi
    rw [ones_at y _ hi, ones_at x _ (by omega)]
    by_cases hia : i = a
    · subst hia; simp
    · rw [if_neg (by simp; omega), if_neg (by simp; omega)]
      exact h i (by omega) hia
/-- the condition, for Concat: told index by index -/
theorem hold_cat {a : Nat} {ls : List (List Int)} (ha : a ≤ 3) : holdI 17 [(a : Int)] ls = decide (a < (shpI ls 0).length ∧ ∀ y ∈ ls, y.length = (shpI ls 0).length ∧ ∀ i, i < (shpI ls 0).length → i ≠ a → y.getD i 0 = (shpI ls 0).getD i 0) := by
  have h0 : holdI 17 [(a : Int)] ls = (likeB [(a : Int)] ls && axesB [(a : Int)] (shpI ls 0).length) := by simp [holdI]
  have h1 : axesB [(a : Int)] (shpI ls 0).length = decide (a < (shpI ls 0).length) := by
    unfold axesB
    apply decide_eq_decide.2
    constructor
    · intro h
      have := (h 0 (by simp)).1.2
      simp at this
      exact this
    · intro h i hi
      simp at hi
      subst hi
      exact ⟨⟨by simp, by simpa using h⟩, fun k => absurd k (by omega)⟩
  rw [h0, h1]
  by_cases hl : a < (shpI ls 0).length
  · rw [decide_eq_true hl, Bool.and_true]
    unfold likeB
    rw [Bool.eq_iff_iff, List.all_eq_true, decide_eq_true_iff]
    constructor
    · intro h
      exact ⟨hl, fun y hy => (like_at hl).1 (of_decide_eq_true (h y hy))⟩
    · intro h y hy
      exact decide_eq_true ((like_at hl).2 (h.2 y hy))
  · rw [decide_eq_false hl, Bool.and_false]
    exact (decide_eq_false (fun h => hl h.1)).symm
theorem catD_pos {a : Nat} {ls : List (List Int)} (h : ∀ y ∈ ls, 1 ≤ y.getD a 0 ∧ y.getD a 0 ≤ 1024) : (ls.length : Int) ≤ catD a ls ∧ catD a ls ≤ 1024 * ls.length := by
  induction ls with
  | nil => simp [catD]
  | cons x l ih =>
    have h1 := ih fun y hy => h y (List.mem_cons_of_mem _ hy)
    have h2 := h x (List.mem_cons_self ..)
    simp only [catD, List.length_cons]
    omega
/-- what comes has dimensions of at least 1 -/
theorem val_pos {v o : Int} {n : Nat} {a : List Int} {ls : List (List Int)} (g : GoodO v o n a) (hn : ls.length = n) (hok : orL (ls.map mayC) = 0) (h : holdI o a ls = true) : posS (valI o a ls) := by
  have h1 := (ar_one g).1
  have ok0 := shp_ok hok (i := 0) (by omega)
  unfold valI
  by_cases e1 : o = 10 ∨ o = 19
  · rw [if_pos e1]
    have hm : matB (shpI ls 0) (shpI ls 1) = true := by rcases e1 with rfl | rfl <;> exact h
    have hm2 := of_decide_eq_true hm
    have ok1 := shp_ok hok (i := 1) (by
      rcases e1 with rfl | rfl
      · have := ar_two g (by simp); omega
      · have := ar_three g; omega)
    have p0 := ok0.pos.getD (i := 0) (by omega)
    have p1 := ok1.pos.getD (i := 1) (by omega)
    intro x hx
    simp only [List.mem_cons, List.not_mem_nil, or_false] at hx
    omega
  · rw [if_neg e1]
    by_cases e2 : o = 11
    · rw [if_pos e2]
      subst e2
      have hp := fit_tr g.fit
      have hl : a.length = (shpI ls 0).length := of_decide_eq_true h
      intro x hx
      unfold trS at hx
      obtain ⟨k, hk, rfl⟩ := List.mem_map.1 hx
      have := (hp.2.mem k).1 hk
      exact ok0.pos.getD (by omega)
    · rw [if_neg e2]
      by_cases e3 : o = 12 ∨ o = 13
      · rw [if_pos e3]; exact (fit_sh e3 g.fit).pos
      · rw [if_neg e3]
        by_cases e4 : o = 14 ∨ o = 20
        · rw [if_pos e4]; exact (drop_ok a ok0).pos
        · rw [if_neg e4]
          by_cases e5 : o = 15
          · rw [if_pos e5]
            subst e5
            have hh : (withinB (shpI ls 0) a && decide (a.length = 2 * (shpI ls 0).length)) = true := h
            rw [Bool.and_eq_true, decide_eq_true_iff] at hh
            have hf := (fit_sl g.fit).2.2
            refine pos_of fun i hi => ?_
            rw [slS_len] at hi
            rw [slS_at _ _ hi]
            have := hf i (by omega)
            omega
          · rw [if_neg e5]
            by_cases e6 : o = 16
            · rw [if_pos e6]
              subst e6
              have hh : a.length = 2 * (shpI ls 0).length := of_decide_eq_true h
              have hf := (fit_pa g.fit).2.2
              refine pos_of fun i hi => ?_
              rw [padI_len] at hi
              rw [padI_at _ _ hi]
              have := hf i (by omega)
              have := ok0.pos.getD hi
              omega
            · rw [if_neg e6]
              by_cases e7 : o = 17
              · rw [if_pos e7]
                subst e7
                obtain ⟨f1, f2, f3⟩ := fit_one g.fit
                obtain ⟨k, hk⟩ : ∃ k : Nat, a.getD 0 0 = (k : Int) := ⟨(a.getD 0 0).toNat, by omega⟩
                have ha : a = [(k : Int)] := by
                  obtain ⟨y, rfl⟩ := List.length_eq_one_iff.1 f1
                  simp at hk
                  rw [hk]
                subst ha
                rw [hold_cat (by simp at f3; omega)] at h
                obtain ⟨hk1, hall⟩ := of_decide_eq_true h
                have hc := catD_pos (a := k) (ls := ls) fun y hy => by
                  have oky := allOk hok y hy
                  have hl := (hall y hy).1
                  have h3 := getD_le_prod oky.pos (k := k) (by omega)
                  have h4 := oky.few
                  exact ⟨oky.pos.getD (by omega), by omega⟩
                intro x hx
                unfold catS at hx
                rcases List.mem_or_eq_of_mem_set hx with hx | hx
                · exact ok0.pos x hx
                · rw [hx]; simp; omega
              · rw [if_neg e7]; exact ok0.pos
end
section
open Go.RowKit
set_option linter.unusedVariables false
set_option linter.unusedSimpArgs false
/-- a row of shapes, as it came in -/
def RowL (w : World) (v : Value) (ls : List (List Int)) (ad : Option Addr) (cap : Nat) : Prop := v = .slice ad ls.length cap ∧ ls.length ≤ cap ∧ (ls = [] ∨ ∃ b o, ad = some ⟨b, o, none⟩ ∧ ∀ (i : Nat) (x : List Int), ls[i]? = some x →
  ∃ (a : Option Addr) (c : Nat), w.cell? ⟨b, o + i, none⟩ = some (.slice a x.length c) ∧ ArgS w (.slice a x.length c) x a c ∧ (a = none → c = 0))
theorem RowL.is {w : World} {v : Value} {ls : List (List Int)} {ad : Option Addr} {cap : Nat} (h : RowL w v ls ad cap) : v = .slice ad ls.length cap := h.1
theorem RowL.later {w w' : World} {v : Value} {ls : List (List Int)} {ad : Option Addr} {cap : Nat} (h : RowL w v ls ad cap) (hb : Below w.heap.size w w') : RowL w' v ls ad cap := by
  refine ⟨h.1, h.2.1, ?_⟩
  rcases h.2.2 with e | ⟨b, o, e, hx⟩
  · exact .inl e
  · refine .inr ⟨b, o, e, fun i x hi => ?_⟩
    obtain ⟨a, c, h1, h2, h3⟩ := hx i x hi
    exact ⟨a, c, (hb.cell (World.block_lt_of_cell? w _ h1)).trans h1, h2.later hb, h3⟩
theorem shp_some {ls : List (List Int)} {i : Nat} (hi : i < ls.length) : ls[i]? = some (shpI ls i) := by
  unfold shpI
  rw [List.getD_eq_getElem?_getD, List.getElem?_eq_getElem hi]
  rfl
theorem RowL.at {w : World} {v : Value} {ls : List (List Int)} {ad : Option Addr} {cap i : Nat} (h : RowL w v ls ad cap) (hi : i < ls.length) :
    ∃ b o a c, ad = some ⟨b, o, none⟩ ∧ b < w.heap.size ∧ w.cell? ⟨b, o + i, none⟩ = some (.slice a (shpI ls i).length c) ∧ ArgS w (.slice a (shpI ls i).length c) (shpI ls i) a c ∧ (a = none → c = 0) := by
  rcases h.2.2 with rfl | ⟨b, o, e, hx⟩
  · simp at hi
  · obtain ⟨a, c, h1, h2, h3⟩ := hx i _ (shp_some hi)
    exact ⟨b, o, a, c, e, World.block_lt_of_cell? w _ h1, h1, h2, h3⟩
theorem orL_snoc0 {xs : List Int} {x : Int} (h : orL xs = 0) : orL (xs ++ [x]) = x := by
  induction xs with
  | nil => simp only [List.nil_append, orL]; split <;> omega
  | cons y r ih =>
    simp only [orL] at h
    by_cases hy : y = 0
    · rw [if_pos hy] at h
      simp only [List.cons_append, orL]
      rw [if_pos hy, ih h]
    · rw [if_neg hy] at h; exact absurd h hy
theorem orL_first {xs ys : List Int} (h : orL xs ≠ 0) : orL (xs ++ ys) = orL xs := by
  induction xs with
  | nil => exact absurd rfl h
  | cons y r ih =>
    simp only [List.cons_append, orL] at h ⊢
    by_cases hy : y = 0
    · rw [if_pos hy] at h; rw [if_pos hy, if_pos hy, ih h]
    · rw [if_neg hy, if_neg hy]
theorem may_next {ls : List (List Int)} {k : Nat} (hk : k < ls.length) : (ls.take (k + 1)).map mayC = (ls.take k).map mayC ++ [mayC (shpI ls k)] := by
  rw [List.take_add_one, shp_some hk, List.map_append]
  rfl
theorem may_stop {ls : List (List Int)} {k : Nat} (hk : k < ls.length) (h : orL ((ls.take k).map mayC) = 0) (h2 : mayC (shpI ls k) ≠ 0) : orL (ls.map mayC) = mayC (shpI ls k) := by
  have e : ls.map mayC = (ls.take (k + 1)).map mayC ++ (ls.drop (k + 1)).map mayC := by rw [← List.map_append, List.take_append_drop]
  rw [e, orL_first, may_next hk, orL_snoc0 h]
  rw [may_next hk, orL_snoc0 h]
  exact h2
set_option maxRecDepth 100000 in
set_option maxHeartbeats 4000000 in
theorem mayCount_any {o : Int} {a1 a2 al : Option Addr} {n1 c1 n2 c2 nl cl : Nat} (w : World) : Calls Try.prog 24 #[.agg #[.int .i64 o, .slice a1 n1 c1, .slice a2 n2 c2], .slice al nl cl] w fun e w' => e = .returned (.int .i64 (if nl = n1 then 0 else 10)) ∧ Below w.heap.size w w' := by
  obtain ⟨c, hc⟩ : ∃ c : Int, (if nl = n1 then 0 else 10) = c := ⟨_, rfl⟩
  rw [hc]
  have HC := Lib.hid hc
  obtain ⟨W, hW⟩ : ∃ W, w.alloc (.cells #[.int .i64 o, .slice a1 n1 c1, .slice a2 n2 c2] 25) = W := ⟨_, rfl⟩
  have R0 : Row W w.heap.size 25 #[.int .i64 o, .slice a1 n1 c1, .slice a2 n2 c2] := by rw [← hW]; exact Row.new _ _ _
  have hbW : Below w.heap.size w W := by rw [← hW]; exact (Below.refl _ _).alloc (Nat.le_refl _) _
  obtain ⟨k0, k1, k2, _, _, _⟩ := R0.three
  clear hc
  by_cases h : nl = n1
  · subst h
    obtain rfl : c = 0 := by rw [← HC.out]; exact if_pos rfl
    go_enter Try.func24, Try.ntmps24
    (try rw [hW])
    go_wp2_with fail
    go_ret
    exact ⟨rfl, hbW⟩
  · obtain rfl : c = 10 := by rw [← HC.out]; exact if_neg h
    have hI : ((nl : Int) != (n1 : Int)) = true := by simp; omega
    go_enter Try.func24, Try.ntmps24
    (try rw [hW])
    go_wp2_with fail
    go_ret
    exact ⟨rfl, hbW⟩
set_option maxRecDepth 100000 in
set_option maxHeartbeats 8000000 in
theorem mayShapes_any {ls : List (List Int)} {al : Option Addr} {cl : Nat} {w : World} (L : RowL w (.slice al ls.length cl) ls al cl) (hx : ∀ x ∈ ls, x.length ≤ 17592186044416) (hl : ls.length ≤ 17592186044416) :
    Calls Try.prog 25 #[.slice al ls.length cl] w fun e w' => e = .returned (.int .i64 (orL (ls.map mayC))) ∧ Below w.heap.size w w' := by
  have HL := Lib.hid L
  have HX := Lib.hid hx
  obtain ⟨n, hn⟩ : ∃ n, ls.length = n := ⟨_, rfl⟩
  have HN := Lib.hid hn
  obtain ⟨c, hc⟩ : ∃ c, orL (ls.map mayC) = c := ⟨_, rfl⟩
  have HC := Lib.hid hc
  rw [hc]
  rw [hn] at hl ⊢
  clear L hx hn hc
  go_enter Try.func25, Try.ntmps25
  go_wp2_with fail
  go_loopw [8] (fun i wi => ∃ k : Nat, i = .int .i64 (k : Int) ∧ k ≤ n ∧ Hid (orL ((ls.take k).map mayC) = 0) ∧ Below w.heap.size w wi) (fun i _ => n - (intOf i).toNat)
  case atStart => exact ⟨0, rfl, Nat.zero_le _, Lib.hid rfl, Below.refl _ _⟩
  case round =>
    rename World => wi
    obtain ⟨k, rfl, hk, hor, hbi⟩ := hrel
    by_cases hlt : k < n
    · have hltI : (k : Int) < (n : Int) := by omega
      have hk0 : (0 : Int) ≤ (k : Int) := by omega
      obtain ⟨b, o0, ax, cx, rfl, hbl, hcx, hAx, hnx⟩ := (HL.out.later hbi).at (i := k) (by rw [HN.out]; exact hlt)
      have hxl := HX.out _ (shp_in (by rw [HN.out]; exact hlt))
      have hms := mayS_any hAx hxl
      obtain ⟨q, hq⟩ : ∃ q, mayC (shpI ls k) = q := ⟨_, rfl⟩
      obtain ⟨lx, hlx⟩ : ∃ l, (shpI ls k).length = l := ⟨_, rfl⟩
      rw [hq] at hms
      rw [hlx] at hms hcx
      have HQ := Lib.hid hq
      have HMS := Lib.hid hms
      clear hq hlx hms hAx hxl
      go_wp2_with fail
      refine HMS.out.mono ?_
      rintro e w2 ⟨rfl, hb2⟩
      have hbE : Below w.heap.size w w2 := hbi.trans (hb2.mono hbi.size)
      clear hcx hb2
      by_cases hq0 : q = 0
      · subst hq0
        go_wp2_with fail
        go_roundw
        case rel => exact ⟨k + 1, by go_num, by omega, Lib.hid (by rw [may_next (by rw [HN.out]; exact hlt), orL_snoc0 hor.out, HQ.out]), hbE⟩
        case measure => simp [intOf]; omega
      · have hqI : (q != 0) = true := by simpa using hq0
        obtain rfl : c = q := by rw [← HC.out, may_stop (by rw [HN.out]; exact hlt) hor.out (by rw [HQ.out]; exact hq0), HQ.out]
        go_wp2_with fail
        (try rw [Exit.noGoto_ret])
        go_ret
        exact ⟨rfl, hbE⟩
    · obtain rfl : k = n := by omega
      obtain rfl : c = 0 := by
        rw [← HC.out, ← hor.out, List.take_of_length_le (by rw [HN.out]; exact Nat.le_refl _)]
      go_wp2_with fail
      go_ret
      exact ⟨rfl, hbi⟩
set_option maxRecDepth 100000 in
set_option maxHeartbeats 4000000 in
theorem mayAdd_any {o : Int} {xs : List Int} {ls : List (List Int)} {a2 al : Option Addr} {c2 cl : Nat} {w : World} (A : ArgS w (.slice a2 xs.length c2) xs a2 c2) (na : a2 = none → c2 = 0) (hx : xs.length ≤ 1000) (L : RowL w (.slice al ls.length cl) ls al cl) (ok : ∀ x ∈ ls, OkS x) (hl : ls.length ≤ 1000) {u : Value} {s : List Int} {sa : Option Addr} {sc : Nat} (S : ArgS w u s sa sc) (ns : sa = none → sc = 0) (hs : s.length ≤ 1000) (h3 : o = 19 → ls.length = 3) :
    Calls Try.prog 30 #[.agg #[.int .i64 o, .slice a2 xs.length c2, .slice al ls.length cl], u] w fun e w' => e = .returned (.int .i64 (addC o (shpI ls 2) s)) ∧ Below w.heap.size w w' := by
  have HS := Lib.hid S
  obtain rfl := S.is
  obtain ⟨c, hc⟩ : ∃ c : Int, addC o (shpI ls 2) s = c := ⟨_, rfl⟩
  rw [hc]
  have HC := Lib.hid hc
  have H3 := Lib.hid h3
  have HA := Lib.hid A
  have HL := Lib.hid L
  have HOK := Lib.hid ok
  obtain ⟨m, hm⟩ : ∃ m, xs.length = m := ⟨_, rfl⟩
  obtain ⟨k, hk⟩ : ∃ k, ls.length = k := ⟨_, rfl⟩
  have HM := Lib.hid hm
  have HK := Lib.hid hk
  rw [hm] at hx ⊢
  rw [hk] at hl ⊢
  obtain ⟨W, hW⟩ : ∃ W, w.alloc (.cells #[.int .i64 o, .slice a2 m c2, .slice al k cl] 52) = W := ⟨_, rfl⟩
  have R0 : Row W w.heap.size 52 #[.int .i64 o, .slice a2 m c2, .slice al k cl] := by rw [← hW]; exact Row.new _ _ _
  have hbW : Below w.heap.size w W := by rw [← hW]; exact (Below.refl _ _).alloc (Nat.le_refl _) _
  obtain ⟨k0, k1, k2, _, _, _⟩ := R0.three
  clear A L ok hm hk hc S h3
  by_cases h : o = 19
  · subst h
    obtain rfl : k = 3 := by rw [← HK.out]; exact H3.out rfl
    obtain ⟨b, o0, ax, cx, rfl, hbl, hcx, hAx, hnx⟩ := (HL.out.later hbW).at (i := 2) (by rw [HK.out]; omega)
    have okx := HOK.out _ (shp_in (i := 2) (by rw [HK.out]; omega))
    have hf := fitsS_any hAx (HS.out.later hbW) hnx ns (by have := okx.rank; omega) (by omega)
    rw [show fitC (shpI ls 2) s = c from HC.out] at hf
    obtain ⟨lx, hlx⟩ : ∃ l, (shpI ls 2).length = l := ⟨_, rfl⟩
    rw [hlx] at hf hcx
    have HF := Lib.hid hf
    clear hf hAx okx hlx
    go_enter Try.func30, Try.ntmps30
    (try rw [hW])
    go_wp2_with fail
    (try rw [hW])
    clear hW
    refine HF.out.mono ?_
    rintro e w2 ⟨rfl, hb2⟩
    go_wp2_with fail
    go_ret
    exact ⟨rfl, hbW.trans (hb2.mono hbW.size)⟩
  · obtain rfl : c = 0 := by rw [← HC.out]; exact if_neg h
    have hI : (o != 19) = true := by simpa using h
    go_enter Try.func30, Try.ntmps30
    (try rw [hW])
    go_wp2_with fail
    go_ret
    exact ⟨rfl, hbW⟩
end
section
open Go.RowKit
set_option linter.unusedVariables false
set_option linter.unusedSimpArgs false
set_option maxRecDepth 100000 in
set_option maxHeartbeats 8000000 in
theorem areAlike_any {o : Int} {xs : List Int} {ls : List (List Int)} {a2 al : Option Addr} {c2 cl : Nat} {w : World} (A : ArgS w (.slice a2 xs.length c2) xs a2 c2) (na : a2 = none → c2 = 0) (hx : xs.length ≤ 1000) (L : RowL w (.slice al ls.length cl) ls al cl) (ok : ∀ x ∈ ls, OkS x) (hl : ls.length ≤ 1000) (h0 : 0 < ls.length) : Calls Try.prog 41 #[.agg #[.int .i64 o, .slice a2 xs.length c2, .slice al ls.length cl]] w fun e w' => e = .returned (.bool (likeB xs ls)) ∧ Below w.heap.size w w' := by
  have H0 := Lib.hid h0
  obtain ⟨c, hc⟩ : ∃ c, likeB xs ls = c := ⟨_, rfl⟩
  rw [hc]
  have HC := Lib.hid hc
  have HNA := Lib.hid na
  have HA := Lib.hid A
  have HL := Lib.hid L
  have HOK := Lib.hid ok
  obtain ⟨m, hm⟩ : ∃ m, xs.length = m := ⟨_, rfl⟩
  obtain ⟨k, hk⟩ : ∃ k, ls.length = k := ⟨_, rfl⟩
  have HM := Lib.hid hm
  have HK := Lib.hid hk
  rw [hm] at hx ⊢
  rw [hk] at hl ⊢
  obtain ⟨W, hW⟩ : ∃ W, w.alloc (.cells #[.int .i64 o, .slice a2 m c2, .slice al k cl] 52) = W := ⟨_, rfl⟩
  have R0 : Row W w.heap.size 52 #[.int .i64 o, .slice a2 m c2, .slice al k cl] := by rw [← hW]; exact Row.new _ _ _
  have hbW : Below w.heap.size w W := by rw [← hW]; exact (Below.refl _ _).alloc (Nat.le_refl _) _
  obtain ⟨k0, k1, k2, _, _, _⟩ := R0.three
  clear A L ok hm hk hc h0 na
  have hk1 : 0 < k := by rw [← HK.out]; exact H0.out
  obtain ⟨b, o0, ax, cx, rfl, hbl, hcx, hAx, hnx⟩ := (HL.out.later hbW).at (i := 0) (by rw [HK.out]; omega)
  rw [Nat.add_zero] at hcx
  have okx := HOK.out _ (shp_in (i := 0) (by rw [HK.out]; omega))
  have hrk := okx.rank
  obtain ⟨lx, hlx⟩ : ∃ l, (shpI ls 0).length = l := ⟨_, rfl⟩
  obtain ⟨t0, ht0⟩ : ∃ l, onesS (shpI ls 0) xs = l := ⟨_, rfl⟩
  have HT0 := Lib.hid ht0
  have hlr : t0.length = lx := by rw [← ht0, ones_len, hlx]
  have HLR := Lib.hid hlr
  have hon := fun X (hX : Below W.heap.size W X) => onesC_any (hAx.later hX) (HA.out.later (hbW.trans (hX.mono hbW.size))) hnx HNA.out (by omega) (by rw [HM.out]; omega)
  rw [ht0, hlx, HM.out] at hon
  have HON := Lib.hid hon
  rw [hlx] at hcx hrk
  have MK := Lib.hid (show ∀ X, Below W.heap.size W X → (fun X => X.cell? ⟨w.heap.size, 1, none⟩ = some (.slice a2 m c2) ∧ X.cell? ⟨w.heap.size, 2, none⟩ = some (.slice (some ⟨b, o0, none⟩) k cl) ∧ X.cell? ⟨b, o0, none⟩ = some (.slice ax lx cx)) X from fun X h => by
    obtain ⟨g0, g1, g2, _⟩ := (R0.later h).three
    exact ⟨g1, g2, (h.cell hbl).trans hcx⟩)
  have B0 : Below W.heap.size W W.drew := (Below.refl _ _).drew
  have hR0 := Lib.hid R0
  clear hon hlx ht0 hlr hAx okx R0 k0 k1 k2
  go_enter Try.func41, Try.ntmps41
  (try rw [hW])
  go_wp2_with fail
  (try rw [hW])
  clear hW
  refine wp_region_held_drew (S := fun X => X.cell? ⟨w.heap.size, 1, none⟩ = some (.slice a2 m c2) ∧ X.cell? ⟨w.heap.size, 2, none⟩ = some (.slice (some ⟨b, o0, none⟩) k cl) ∧ X.cell? ⟨b, o0, none⟩ = some (.slice ax lx cx)) (by kernel_rfl) (MK.out _ B0) (fun hHeld => ?_)
  obtain ⟨y0, hdrh⟩ : ∃ Y, W.drew = Y := ⟨_, rfl⟩
  rw [hdrh] at B0 hHeld ⊢
  clear hdrh
  refine todo [0, 1, 2, 3, 4, 5] ?_
  iterate 6
   refine todoH (v := ?_) rfl (by kernel_rfl) (fun _ _ _ h => h) (by assumption) (Or.inl ⟨by rfl, ?_⟩) ?_
   rotate_left
   · intro w hSw; (try dsimp only at hSw); go_simp; (try with_reducible rfl)
   try simp only [Act.put, List.getElem_toArray, List.getElem_cons_succ, List.getElem_cons_zero, List.setIfInBounds_toArray, List.set_cons_zero, List.set_cons_succ]
  refine todone ?_
  refine wpAnyH_ready (rs := [6]) (by kernel_rfl) (by simp) ?_
  refine AllReadyH.cons rfl (fun K hK => ?sh_6) AllReadyH.nil
  go_simp
  refine (HON.out _ B0).mono ?_
  rintro e y1 ⟨r, rfl, hr, hy⟩
  have B1 : Below W.heap.size W y1 := B0.trans (hy.mono B0.size)
  have Dh1 := hy
  clear hy
  obtain ⟨ar, cr, rfl, hr2⟩ := res_slice11 hr
  rw [HLR.out] at hr2 ⊢
  have HR := Lib.hid hr2
  clear hr hr2
  go_simp
  refine hK.out _ _ (MK.out _ B1) (fun hHeld2 => ?mh_6)
  clear hK K hHeld
  have hHeld := hHeld2
  clear hHeld2
  try simp only [Act.put, List.getElem_toArray, List.getElem_cons_succ, List.getElem_cons_zero, List.setIfInBounds_toArray, List.set_cons_zero, List.set_cons_succ]
  refine todo [7] ?_
  iterate 1
   refine todoH (v := ?_) rfl (by kernel_rfl) (fun _ _ _ h => h) (by assumption) (Or.inl ⟨by rfl, ?_⟩) ?_
   rotate_left
   · intro w hSw; (try dsimp only at hSw); go_simp; (try with_reducible rfl)
   try simp only [Act.put, List.getElem_toArray, List.getElem_cons_succ, List.getElem_cons_zero, List.setIfInBounds_toArray, List.set_cons_zero, List.set_cons_succ]
  refine todone ?_
  refine wpAnyH_done (by kernel_rfl) ?_ _
  (try dsimp only [Straight])
  obtain ⟨k0, k1, k2, _, _, _⟩ := (hR0.out.later B1).three
  clear hHeld
  go_wp2_with fail
  go_loopw [5, 16] (fun _ i wi => ∃ j : Nat, i = .int .i64 (j : Int) ∧ j ≤ k ∧ Hid (∀ y ∈ ls.take j, onesS y xs = t0) ∧ Below y1.heap.size y1 wi) (fun _ i _ => k - (intOf i).toNat)
  case atStart => exact ⟨0, rfl, Nat.zero_le _, Lib.hid (fun y hy => by simp at hy), Below.refl _ _⟩
  case round =>
    rename World => wi
    obtain ⟨j, rfl, hj, hall, hbi⟩ := hrel
    have bWi : Below W.heap.size W wi := B1.trans (hbi.mono B1.size)
    clear k0 k1 k2
    obtain ⟨k0, k1, k2, _, _, _⟩ := (hR0.out.later bWi).three
    by_cases hlt : j < k
    · have hltI : (j : Int) < (k : Int) := by omega
      have hj0 : (0 : Int) ≤ (j : Int) := by omega
      obtain ⟨b', o', ay, cy, he, hbl', hcy, hAy, hny⟩ := (HL.out.later (hbW.trans (bWi.mono hbW.size))).at (i := j) (by rw [HK.out]; exact hlt)
      cases he
      have oky := HOK.out _ (shp_in (i := j) (by rw [HK.out]; exact hlt))
      have hry := oky.rank
      obtain ⟨ly, hly⟩ : ∃ l, (shpI ls j).length = l := ⟨_, rfl⟩
      have hon := onesC_any hAy (HA.out.later (hbW.trans (bWi.mono hbW.size))) hny HNA.out (by omega) (by rw [HM.out]; omega)
      rw [hly, HM.out] at hon
      rw [hly] at hcy hry
      obtain ⟨t1, ht1⟩ : ∃ l, onesS (shpI ls j) xs = l := ⟨_, rfl⟩
      have hlr1 : t1.length = ly := by rw [← ht1, ones_len, hly]
      rw [ht1] at hon
      have HON1 := Lib.hid hon
      have HLR1 := Lib.hid hlr1
      have HT1 := Lib.hid ht1
      clear hon hly ht1 hlr1 hAy oky
      go_wp2_with fail
      refine HON1.out.mono ?_
      rintro e w2 ⟨r, rfl, hr, hy⟩
      obtain ⟨ar1, cr1, rfl, hr2⟩ := res_slice11 hr
      rw [HLR1.out] at hr2
      (try rw [HLR1.out])
      have hq1 := hr2.at_
      have hq0 := (HR.out.later (hbi.trans (hy.mono hbi.size))).at_
      have hss := sameS_any hq1.2.1 hq0.2.1 hq1.2.2 hq0.2.2 (by rw [HLR1.out]; omega) (by rw [HLR.out]; omega)
      obtain ⟨q, hq⟩ : ∃ q, decide (t1 = t0) = q := ⟨_, rfl⟩
      rw [hq] at hss
      have HQ := Lib.hid hq
      have HSS := Lib.hid hss
      have hb3 : Below y1.heap.size y1 w2 := hbi.trans (hy.mono hbi.size)
      clear hr hr2 hq1 hq0 hss hq hcy hy k0 k1 k2
      go_wp2_with fail
      refine HSS.out.mono ?_
      rintro e w3 ⟨rfl, hy⟩
      have hb4 : Below y1.heap.size y1 w3 := hb3.trans (hy.mono hb3.size)
      clear hy
      cases q with
      | true =>
        go_wp2_with fail
        go_roundw
        case rel =>
          refine ⟨j + 1, by go_num, by omega, Lib.hid fun y hy => ?_, hb4⟩
          rw [List.take_add_one, shp_some (by rw [HK.out]; exact hlt)] at hy
          rcases List.mem_append.1 hy with hy | hy
          · exact hall.out y hy
          · have e : y = shpI ls j := by simpa using hy
            rw [e, HT1.out]
            exact of_decide_eq_true HQ.out
        case measure => simp [intOf]; omega
      | false =>
        obtain rfl : c = false := by
          rw [← HC.out]
          cases hl : likeB xs ls with
          | false => rfl
          | true =>
            have h5 := of_decide_eq_true (List.all_eq_true.1 hl _ (shp_in (i := j) (by rw [HK.out]; exact hlt)))
            rw [HT1.out, HT0.out] at h5
            have h6 := HQ.out
            rw [decide_eq_true h5] at h6
            cases h6
        go_wp2_with fail
        (try rw [Exit.noGoto_ret])
        go_ret
        exact ⟨rfl, hbW.trans ((B1.trans (hb4.mono B1.size)).mono hbW.size)⟩
    · obtain rfl : j = k := by omega
      obtain rfl : c = true := by
        rw [← HC.out]
        unfold likeB
        rw [List.all_eq_true]
        intro y hy
        rw [HT0.out]
        exact decide_eq_true (hall.out y (by rw [List.take_of_length_le (by rw [HK.out]; exact Nat.le_refl _)]; exact hy))
      go_wp2_with fail
      go_ret
      exact ⟨rfl, hbW.trans (bWi.mono hbW.size)⟩
theorem trS_take {x p : List Int} {i : Nat} (hi : i < p.length) : (p.take (i + 1)).map (fun n : Int => x.getD n.toNat 0) = (p.take i).map (fun n : Int => x.getD n.toNat 0) ++ [x.getD (p.getD i 0).toNat 0] := by
  rw [List.take_add_one, List.getElem?_eq_getElem hi, List.map_append, getD_elem hi]
  rfl
set_option maxRecDepth 100000 in
set_option maxHeartbeats 8000000 in
theorem permuted_any {o : Int} {xs : List Int} {ls : List (List Int)} {a2 al : Option Addr} {c2 cl : Nat} {w : World} (A : ArgS w (.slice a2 xs.length c2) xs a2 c2) (na : a2 = none → c2 = 0) (hx : xs.length ≤ 1000) (L : RowL w (.slice al ls.length cl) ls al cl) (ok : ∀ x ∈ ls, OkS x) (hl : ls.length ≤ 1000) (h0 : 0 < ls.length) (hp : ∀ n ∈ xs, 0 ≤ n ∧ n < (shpI ls 0).length) :
    Calls Try.prog 44 #[.agg #[.int .i64 o, .slice a2 xs.length c2, .slice al ls.length cl]] w fun e w' => ∃ r, e = .returned r ∧ ResS w.heap.size w' r (trS (shpI ls 0) xs) ∧ Below w.heap.size w w' := by
  have H0 := Lib.hid h0
  obtain ⟨res, hres⟩ : ∃ c, trS (shpI ls 0) xs = c := ⟨_, rfl⟩
  rw [hres]
  have HRES := Lib.hid hres
  have HNA := Lib.hid na
  have HP := Lib.hid hp
  have HA := Lib.hid A
  have HL := Lib.hid L
  have HOK := Lib.hid ok
  obtain ⟨m, hm⟩ : ∃ m, xs.length = m := ⟨_, rfl⟩
  obtain ⟨k, hk⟩ : ∃ k, ls.length = k := ⟨_, rfl⟩
  have HM := Lib.hid hm
  have HK := Lib.hid hk
  rw [hm] at hx ⊢
  rw [hk] at hl ⊢
  obtain ⟨W, hW⟩ : ∃ W, w.alloc (.cells #[.int .i64 o, .slice a2 m c2, .slice al k cl] 52) = W := ⟨_, rfl⟩
  have R0 : Row W w.heap.size 52 #[.int .i64 o, .slice a2 m c2, .slice al k cl] := by rw [← hW]; exact Row.new _ _ _
  have hbW : Below w.heap.size w W := by rw [← hW]; exact (Below.refl _ _).alloc (Nat.le_refl _) _
  obtain ⟨k0, k1, k2, _, _, _⟩ := R0.three
  clear A L ok hm hk hres h0 na hp
  have hk1 : 0 < k := by rw [← HK.out]; exact H0.out
  have hk1I : (0 : Int) < (k : Int) := by omega
  have okx := HOK.out _ (shp_in (i := 0) (by rw [HK.out]; omega))
  have hrk := okx.rank
  obtain ⟨lx, hlx⟩ : ∃ l, (shpI ls 0).length = l := ⟨_, rfl⟩
  have HLX := Lib.hid hlx
  have hmk := make_runH m m (Nat.le_refl _) (by omega)
  rw [hlx] at hrk
  have hR0 := Lib.hid R0
  have hwres : Wid res := by
    rw [← HRES.out]
    intro y hy
    unfold trS at hy
    obtain ⟨n, hn, rfl⟩ := List.mem_map.1 hy
    have hn2 := HP.out n hn
    have h1 := okx.pos.getD (i := n.toNat) (by omega)
    have h2 := getD_le_prod okx.pos (k := n.toNat) (by omega)
    have h3 := okx.few
    omega
  have HWR := Lib.hid hwres
  obtain ⟨v0, v1, v2, _, _, _⟩ := (R0.alloc (.cells (madeCells #[.int .i64 0] m) 3)).three
  clear hlx R0 okx hwres
  go_enter Try.func44, Try.ntmps44
  (try rw [hW])
  go_wp2_with fail
  clear v0 v1 v2
  obtain ⟨V, hV⟩ : ∃ V, W.alloc (.cells (madeCells #[.int .i64 0] m) 3) = V := ⟨_, rfl⟩
  have bV : Below W.heap.size W V := by rw [← hV]; exact (Below.refl _ _).alloc (Nat.le_refl _) _
  have hRA : PartS V W.heap.size m (List.replicate m 0) := by
    have h := BlkS.made W m
    rw [← hV]
    exact ⟨_, h, by simp, by simp, by simp⟩
  have HRA := Lib.hid hRA
  (try rw [hV])
  (try rw [hW])
  clear hmk hRA hV hW k0 k1 k2
  obtain ⟨k0, k1, k2, _, _, _⟩ := (hR0.out.later bV).three
  go_loopw [4, 5, 13] (fun _ _ i wi => ∃ j : Nat, i = .int .i64 (j : Int) ∧ j ≤ m ∧ PartS wi W.heap.size m (((xs.take j).map fun n : Int => (shpI ls 0).getD n.toNat 0) ++ List.replicate (m - j) 0) ∧ Below W.heap.size W wi) (fun _ _ i _ => m - (intOf i).toNat)
  case atStart => exact ⟨0, rfl, Nat.zero_le _, by simpa using HRA.out, bV⟩
  case round =>
    rename World => wi
    obtain ⟨j, rfl, hj, hP, hbi⟩ := hrel
    have HPP := Lib.hid hP
    clear k0 k1 k2
    obtain ⟨k0, k1, k2, _, _, _⟩ := (hR0.out.later hbi).three
    have hlj : ((xs.take j).map fun n : Int => (shpI ls 0).getD n.toNat 0).length = j := by rw [List.length_map, List.length_take, HM.out]; omega
    by_cases hlt : j < m
    · have hltI : (j : Int) < (m : Int) := by omega
      have hj0 : (0 : Int) ≤ (j : Int) := by omega
      obtain ⟨ba, oa, rfl, hca⟩ := (HA.out.later (hbW.trans (hbi.mono hbW.size))).at (i := j) (by rw [HM.out]; exact hlt)
      obtain ⟨n, hn⟩ : ∃ n, xs.getD j 0 = n := ⟨_, rfl⟩
      have hnr := HP.out n (by rw [← hn, getD_elem (by rw [HM.out]; exact hlt)]; exact List.getElem_mem _)
      rw [HLX.out] at hnr
      rw [hn] at hca
      obtain ⟨b, o0, ax, cx, rfl, hbl, hcx, hAx, hnx⟩ := (HL.out.later (hbW.trans (hbi.mono hbW.size))).at (i := 0) (by rw [HK.out]; omega)
      rw [Nat.add_zero, HLX.out] at hcx
      obtain ⟨nn, rfl⟩ : ∃ q : Nat, n = (q : Int) := ⟨n.toNat, by omega⟩
      obtain ⟨bx, ox, rfl, hcd⟩ := hAx.at (i := nn) (by rw [HLX.out]; omega)
      obtain ⟨d, hd⟩ : ∃ d, (shpI ls 0).getD nn 0 = d := ⟨_, rfl⟩
      rw [hd] at hcd
      have hnl : (nn : Int) < (lx : Int) := by omega
      have hf := hP.free j
      have hck := hP.cell j (by rw [List.length_append, hlj, List.length_replicate]; omega)
      have hP1 := hP.set j (by rw [List.length_append, hlj, List.length_replicate]; omega) d
      rw [set_midS hlj hlt] at hP1
      have hnx2 : ((xs.take (j + 1)).map fun n : Int => (shpI ls 0).getD n.toNat 0) = ((xs.take j).map fun n : Int => (shpI ls 0).getD n.toNat 0) ++ [d] := by
        rw [trS_take (by rw [HM.out]; exact hlt), hn, ← hd]
        rfl
      rw [← hnx2] at hP1
      have HP1 := Lib.hid hP1
      have hb2 : Below W.heap.size W (wi.setCell ⟨W.heap.size, j, none⟩ (.int .i64 d)) := hbi.setCell (Nat.le_refl _) _
      clear hP hn hAx hlj hd hP1 hnx2
      go_wp2_with fail
      go_roundw
      case rel => exact ⟨j + 1, by go_num, by omega, HP1.out, hb2⟩
      case measure => simp [intOf]; omega
    · obtain rfl : j = m := by omega
      have hltI : ¬ (j : Int) < (j : Int) := by omega
      clear hP
      go_wp2_with fail
      go_ret
      have hp := HPP.out
      rw [Nat.sub_self, List.replicate_zero, List.append_nil, List.take_of_length_le (by rw [HM.out]; exact Nat.le_refl _)] at hp
      have hp2 : PartS wi W.heap.size j res := by rw [← HRES.out]; exact hp
      have hn := hp2.num (Nat.le_refl _) (by unfold maxLen; omega)
      have hrl : res.length = j := by rw [← HRES.out]; unfold trS; rw [List.length_map, HM.out]
      rw [hrl] at hn
      exact ⟨_, rfl, ⟨hn.mono hbW.size, HWR.out⟩, hbW.trans (hbi.mono hbW.size)⟩
theorem catD_bound {a : Nat} {l : List (List Int)} (h : ∀ x ∈ l, OkS x ∧ a < x.length) : (l.length : Int) ≤ catD a l ∧ catD a l ≤ 1024 * l.length := catD_pos fun y hy => by
  obtain ⟨h1, h2⟩ := h y hy
  have h3 := getD_le_prod h1.pos h2
  have h4 := h1.few
  exact ⟨h1.pos.getD h2, by omega⟩
set_option maxRecDepth 100000 in
set_option maxHeartbeats 40000000 in
theorem joined_call {o : Int} {xs : List Int} {ls : List (List Int)} {a2 al : Option Addr} {c2 cl : Nat} {w : World} (A : ArgS w (.slice a2 xs.length c2) xs a2 c2) (na : a2 = none → c2 = 0) (hx : xs.length ≤ 1000) (L : RowL w (.slice al ls.length cl) ls al cl) (ok : ∀ x ∈ ls, OkS x) (hl : ls.length ≤ 1000) {a : Nat} (h0 : 0 < ls.length) (hx0 : 0 < xs.length) (hxa : xs.getD 0 0 = (a : Int)) (hax : ∀ y ∈ ls, a < y.length) :
    Calls Try.prog 49 #[.agg #[.int .i64 o, .slice a2 xs.length c2, .slice al ls.length cl]] w fun e w' => ∃ r, e = .returned r ∧ ResS w.heap.size w' r (catS a ls) ∧ Below w.heap.size w w' := by
  have H0 := Lib.hid h0
  obtain ⟨res, hres⟩ : ∃ c, catS a ls = c := ⟨_, rfl⟩
  rw [hres]
  have HRES := Lib.hid hres
  have HXA := Lib.hid hxa
  have HX := Lib.hid (show ∀ y ∈ ls, OkS y ∧ a < y.length from fun y hy => ⟨ok y hy, hax y hy⟩)
  have HA := Lib.hid A
  have HL := Lib.hid L
  have HOK := Lib.hid ok
  obtain ⟨m, hm⟩ : ∃ m, xs.length = m := ⟨_, rfl⟩
  obtain ⟨k, hk⟩ : ∃ k, ls.length = k := ⟨_, rfl⟩
  have HM := Lib.hid hm
  have HK := Lib.hid hk
  rw [hm] at hx ⊢
  rw [hk] at hl ⊢
  obtain ⟨W, hW⟩ : ∃ W, w.alloc (.cells #[.int .i64 o, .slice a2 m c2, .slice al k cl] 52) = W := ⟨_, rfl⟩
  have R0 : Row W w.heap.size 52 #[.int .i64 o, .slice a2 m c2, .slice al k cl] := by rw [← hW]; exact Row.new _ _ _
  have hbW : Below w.heap.size w W := by rw [← hW]; exact (Below.refl _ _).alloc (Nat.le_refl _) _
  obtain ⟨k0, k1, k2, _, _, _⟩ := R0.three
  rw [hm] at hx0
  clear A L ok hm hk hres h0 hxa hax
  have hk1 : 0 < k := by rw [← HK.out]; exact H0.out
  have hk1I : (0 : Int) < (k : Int) := by omega
  have hm1I : (0 : Int) < (m : Int) := by omega
  have hx0m := HX.out _ (shp_in (i := 0) (by rw [HK.out]; omega))
  have hrk := hx0m.1.rank
  obtain ⟨x0, hx0e⟩ : ∃ x, shpI ls 0 = x := ⟨_, rfl⟩
  have HX0 := Lib.hid hx0e
  rw [hx0e] at hrk hx0m
  obtain ⟨ba, oa, rfl, hca⟩ := (HA.out.later hbW).at (i := 0) (by rw [HM.out]; exact hx0)
  rw [HXA.out, Nat.add_zero] at hca
  obtain ⟨b, o0, ax, cx, rfl, hbl, hcx, hAx, hnx⟩ := (HL.out.later hbW).at (i := 0) (by rw [HK.out]; omega)
  rw [Nat.add_zero, hx0e] at hcx
  rw [hx0e] at hAx
  have hcap : k ≤ cl := by rw [← HK.out]; exact HL.out.2.1
  have hcln := cloneS_any hAx hnx (by omega)
  have hI1 : (1 : Int) ≤ (k : Int) := by omega
  have hIc : (k : Int) ≤ (cl : Int) := by omega
  have hR0 := Lib.hid R0
  obtain ⟨lx, hlx⟩ : ∃ l, x0.length = l := ⟨_, rfl⟩
  have HLX := Lib.hid hlx
  rw [hlx] at hrk hcx hcln
  clear hx0e R0 hAx hlx
  go_enter Try.func49, Try.ntmps49
  (try rw [hW])
  go_upto_region 3 with (go_at_call 50; (try rw [hW]); refine hcln.mono ?_; rintro e w1 ⟨r, rfl, RC, hb1⟩; obtain ⟨ar, cr, rfl, IL, hlc, nl, wl⟩ := RC.idx)
  (try rw [hW])
  clear hW
  rw [HLX.out] at hlc
  (try rw [HLX.out])
  have HIL := Lib.hid IL
  have HWL := Lib.hid wl
  have HB1 := Lib.hid hb1
  clear IL wl RC hcln nl k0 k1 k2 hcx hca
  obtain ⟨k0, k1, k2, _, _, _⟩ := (hR0.out.later hb1).three
  go_cut [18, 19, 20] (fun s18 s19 s20 wx => ∃ (adf : Option Addr) (capf : Nat), s18 = .slice adf (k - 1) capf ∧ s19 = .int .i64 ((k - 1 : Nat) : Int) ∧ s20 = .int .i64 0 ∧ (k ≤ 1 ∨ adf = some ⟨b, o0 + 1, none⟩) ∧ wx = w1)
  case first =>
    rcases (show (cl = 1 ∧ k = 1) ∨ 1 < cl by omega) with ⟨rfl, rfl⟩ | hc1
    · go_wp2_with fail
      all_goals (go_meet; refine ⟨_, _, rfl, rfl, rfl, .inl (Nat.le_refl _), rfl⟩)
    · have hc1I : (1 : Int) < (cl : Int) := by omega
      go_wp2_with fail
      all_goals (go_meet; refine ⟨some ⟨b, o0 + 1, none⟩, cl - 1, ?_, ?_, rfl, .inr rfl, rfl⟩ <;> first | rfl | (simp; omega))
  case rest =>
    obtain ⟨adf, capf, rfl, rfl, rfl, hadf, rfl⟩ := hcut
    have HADF := Lib.hid hadf
    obtain ⟨NM, hNM⟩ : ∃ n, k - 1 = n := ⟨_, rfl⟩
    have hnm1 : NM + 1 ≤ k ∧ k ≤ NM + 1 := by omega
    rw [hNM]
    clear hadf hNM k0 k1 k2
    go_wp2_with fail
    go_loopw [6, 20] (fun _ i wr => ∃ (j : Nat) (zs : List Int), i = .int .i64 (j : Int) ∧ j ≤ NM ∧ IdxP W.heap.size wr ar cr zs ∧ zs = x0.set a (catD a (ls.take (j + 1))) ∧ Below W.heap.size W wr) (fun _ i _ => NM - (intOf i).toNat)
    case atStart => exact ⟨0, _, rfl, Nat.zero_le _, HIL.out, by
      rw [List.take_add_one, shp_some (by rw [HK.out]; omega), HX0.out]
      simp only [List.take_zero, List.nil_append, Option.toList, catD, Int.add_zero]
      exact set_self9.symm, HB1.out⟩
    case round =>
      obtain ⟨j, zs, rfl, hj, hI, hzs, hb⟩ := hrel
      have hsz := hb.size
      have HZS := Lib.hid hzs
      have hlz : zs.length = lx := by rw [hzs, List.length_set, HLX.out]
      have HLZ := Lib.hid hlz
      have HI := Lib.hid hI
      have HB := Lib.hid hb
      have hax0 : a < lx := by rw [← HLX.out]; exact hx0m.2
      clear hzs
      by_cases hlt : j < NM
      · have hltI : (j : Int) < (NM : Int) := by omega
        obtain rfl := HADF.out.resolve_left (by omega)
        obtain ⟨b', o', ay, cy, e', hbl', c0, hAy, hny⟩ := (HL.out.later (hbW.trans (hb.mono hbW.size))).at (i := j + 1) (by rw [HK.out]; omega)
        cases e'
        rw [show o0 + (j + 1) = o0 + 1 + j by omega] at c0
        have hmx := HX.out _ (shp_in (i := j + 1) (by rw [HK.out]; omega))
        obtain ⟨x, hxe⟩ : ∃ x, shpI ls (j + 1) = x := ⟨_, rfl⟩
        rw [hxe] at c0 hAy hmx
        have HXE := Lib.hid hxe
        obtain ⟨bx, ox, rfl, c2⟩ := hAy.at (i := a) hmx.2
        obtain ⟨d, hd⟩ : ∃ d, x.getD a 0 = d := ⟨_, rfl⟩
        rw [hd] at c2
        have hpre : ∀ y ∈ ls.take (j + 1), OkS y ∧ a < y.length := fun y hy => HX.out y (List.mem_of_mem_take hy)
        have hbd := catD_bound hpre
        rw [List.length_take, HK.out] at hbd
        have hd3 := hmx.1.pos.getD hmx.2
        have hd4 := getD_le_prod hmx.1.pos hmx.2
        have hd5 := hmx.1.few
        rw [hd] at hd3 hd4
        obtain ⟨gl, rfl, hgB, hmax, hP⟩ := hI.at (i := a) (by rw [hlz]; exact hax0)
        have cz := hP.cell a (by rw [hlz]; exact hax0)
        have hzv : zs.getD a 0 = catD a (ls.take (j + 1)) := by rw [HZS.out]; exact getD_set_self _ _ _ hx0m.2
        obtain ⟨z, hz⟩ : ∃ z, catD a (ls.take (j + 1)) = z := ⟨_, rfl⟩
        rw [hz] at hzv hbd
        rw [hzv] at cz
        have hmin : min (j + 1) k = j + 1 := by omega
        rw [hmin] at hbd
        have wy : IntKind.i64.wrap (z + d) = z + d := IntWalk.i64_in _ (by omega)
        have hnx2 : zs.set a (z + d) = x0.set a (catD a (ls.take (j + 1 + 1))) := by
          rw [HZS.out, set_set9, List.take_add_one (l := ls) (i := j + 1), shp_some (by rw [HK.out]; omega), HXE.out, Option.toList_some, catD_snoc, hz, hd]
        have HNX := Lib.hid hnx2
        have ha0 : (a : Int) < (lx : Int) := by omega
        obtain ⟨ly, hly⟩ : ∃ l, x.length = l := ⟨_, rfl⟩
        rw [hly] at c0 hmx
        have haxI : (a : Int) < (ly : Int) := by have := hmx.2; omega
        have hfd0 := hP.free a
        have hgl := hP.lt
        have hfd : wr.drew.frozen? ⟨gl, a, none⟩ = false := hP.free a
        have HP2 := Lib.hid hP
        have hS0 : wr.drew.cell? ⟨gl, a, none⟩ = some (.int .i64 z) ∧ wr.drew.cell? ⟨bx, ox + a, none⟩ = some (.int .i64 d) := ⟨cz, c2⟩
        clear hI hb hAy hd hz hzv hnx2 hP cz c2 hpre hfd0 hly hmx hd3 hd4 hd5
        go_wp2_with fail
        clear c0
        refine wp_region_L (S := fun Y => Y.cell? ⟨gl, a, none⟩ = some (.int .i64 z) ∧ Y.cell? ⟨bx, ox + a, none⟩ = some (.int .i64 d)) (z := 10) (by kernel_rfl) hS0 (fun hHeld => ?_)
        refine todo [0, 1, 2, 3, 4, 5, 6, 7, 8, 9] ?_
        iterate 10
         refine todoL (v := ?_) rfl (by kernel_rfl) (fun _ _ _ h => h) (by assumption) (Or.inl ⟨by rfl, ?_⟩) ?_
         rotate_left
         · intro w hSw; (try dsimp only at hSw); go_simp; (try with_reducible rfl)
         try simp only [Act.put, List.getElem_toArray, List.getElem_cons_succ, List.getElem_cons_zero, List.setIfInBounds_toArray, List.set_cons_zero, List.set_cons_succ]
        refine todone ?_
        refine wpAnyL_one (i := 10) (by kernel_rfl) rfl (fun K hK => ?sbj_10)
        go_simp
        refine hK.out _ _ (fun h => absurd rfl h) (fun _ => ?mbj_10)
        clear hK K
        try simp only [Act.put, List.getElem_toArray, List.getElem_cons_succ, List.getElem_cons_zero, List.setIfInBounds_toArray, List.set_cons_zero, List.set_cons_succ]
        refine wpAnyL_done (by kernel_rfl) ?_ _
        go_wp2_with fail
        go_roundw
        case rel =>
          exact ⟨j + 1, _, by go_num, by omega, .inr ⟨gl, rfl, hgB, hmax, PartS.set (show PartS wr.drew gl cr zs from HP2.out) a (by rw [HLZ.out]; exact hax0) (z + d)⟩, HNX.out, setBelow (HB.out.drew) hgB _ _⟩
        case measure => simp [intOf]; omega
      · obtain rfl : j = NM := by omega
        have hltI : ¬ (j : Int) < (j : Int) := by omega
        have hzr : zs = res := by
          rw [HZS.out, ← HRES.out]
          unfold catS
          rw [List.take_of_length_le (by rw [HK.out]; omega), HX0.out]
        have hwd : Wid zs := by
          have hb5 := catD_bound HX.out
          rw [HK.out] at hb5
          rw [HZS.out]
          intro y hy
          rcases List.mem_or_eq_of_mem_set hy with h | rfl
          · exact HWL.out y h
          · rw [List.take_of_length_le (by rw [HK.out]; omega)]
            omega
        have hR := HI.out.res hwd
        rw [HLZ.out, hzr] at hR
        have HRR := Lib.hid (hR.mono hbW.size)
        clear hI hzr hwd hR
        go_wp2_with fail
        go_ret
        exact ⟨_, rfl, HRR.out, hbW.trans (hb.mono hbW.size)⟩
end
end Go.Proofs.Ytdcggcfgkhlblaa
