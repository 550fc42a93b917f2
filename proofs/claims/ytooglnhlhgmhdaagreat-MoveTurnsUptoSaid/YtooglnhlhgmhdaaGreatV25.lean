/-
  Layer 7's laws: opening arguments: lists of numbers, tensors, under the bulk's bound.
-/
import Derived.Test.YtooglnhlhgmhdaaGreatV1
import Derived.Test.YtooglnhlhgmhdaaGreatV2
import Derived.Test.YtooglnhlhgmhdaaGreatV4
import Derived.Test.YtooglnhlhgmhdaaGreatV5
import Derived.Test.YtooglnhlhgmhdaaGreatV9
import Derived.Test.YtooglnhlhgmhdaaGreatV13
import Derived.Test.YtooglnhlhgmhdaaGreatV16
import Derived.Test.YtooglnhlhgmhdaaGreatV18
import Derived.Test.YtooglnhlhgmhdaaGreatV20
import Derived.WalkKit
import Derived.Test.YtooglnhlhgmhdaaGreatRows
import Derived.BigQuiet
import Derived.Deep.QuietTactic
import Derived.Lib.Hide
import Derived.Lib.Small
import Derived.Lib.Walk
import Derived.Lib.BitFns
import Derived.Maps.AppendAt
import Derived.RangeFuncNested
import Derived.RangeFuncBound
import Derived.RangeFuncCalls
import Derived.RangeFuncLeaves
import Derived.Shelf.Abstract
import Derived.OwnWalkIn
import Derived.TacticsInMore
import Derived.LoopNIn
import Derived.LoopIn
import Derived.RangeFuncBox
import Derived.Deep.RegionHeld3
import Derived.OrdersIn
import Derived.StillTailTactics
import Derived.RangeFuncFrom
import Derived.Laws.EntriesVeiled
import Derived.ProofKit
import Derived.OpenShut
import Derived.JoinedCond
import Derived.Carry
import Derived.Laws.AppendOwnNone
import Derived.Lib.ItoaNum
import Derived.Deep.RegionLaw
import Derived.WalkMore
import Derived.Lib.SmallJoins
import Derived.IntWalk
import Derived.Deep.DeepCutAuto
import Derived.Laws.OwnMore
import Derived.OrdersHeld
import Derived.Deep.RegionHeld
import Derived.ArgAppend
import Derived.Deep.Slices
import Derived.Laws.CopyOwn
namespace Go.Proofs.YtooglnhlhgmhdaaGreat
set_option maxRecDepth 100000
section
open Go.RowKit
set_option linter.unusedVariables false
set_option linter.unusedSimpArgs false
/-- numerator and denominator are at most 2 to the b -/
def FitQ (X : Rat) (b : Nat) : Prop := X.num.natAbs ≤ 2 ^ b ∧ X.den ≤ 2 ^ b
theorem FitQ.mono {X : Rat} {a b : Nat} (h : FitQ X a) (hb : a ≤ b) : FitQ X b :=
  ⟨Nat.le_trans h.1 (Nat.pow_le_pow_right (by omega) hb), Nat.le_trans h.2 (Nat.pow_le_pow_right (by omega) hb)⟩
theorem FitQ.of {n : Bool} {A B : Int} {b : Nat} (hA : 0 ≤ A) (hB : 0 ≤ B) (h1 : A ≤ ((2 ^ b : Nat) : Int)) (h2 : B ≤ ((2 ^ b : Nat) : Int)) : FitQ (ratOf n A B) b := by
  have hp : 1 ≤ 2 ^ b := Nat.one_le_two_pow
  rcases Int.lt_or_le 0 B with h | h
  · have e1 := ratOf_abs (n := n) hA h
    have e2 := ratOf_den (n := n) (A := A) h
    have hg : (0 : Int) ≤ (Int.gcd A B : Int) := Int.natCast_nonneg _
    have l1 : A / (Int.gcd A B : Int) ≤ A := Int.ediv_le_self _ hA
    have l2 : B / (Int.gcd A B : Int) ≤ B := Int.ediv_le_self _ hB
    constructor <;> omega
  · have hz : B = 0 := by omega
    subst hz
    rw [ratOf_zero_right]
    exact ⟨by show 0 ≤ _; omega, by show 1 ≤ _; omega⟩
theorem FitQ.zero (b : Nat) : FitQ 0 b := ⟨Nat.zero_le _, Nat.one_le_two_pow⟩
theorem two_pow_mul (a b : Nat) {x y : Nat} (h1 : x ≤ 2 ^ a) (h2 : y ≤ 2 ^ b) : x * y ≤ 2 ^ (a + b) := by
  rw [Nat.pow_add]; exact Nat.mul_le_mul h1 h2
theorem FitQ.mul {X Y : Rat} {a b : Nat} (h : FitQ X a) (k : FitQ Y b) : FitQ (X * Y) (a + b) := by
  rw [← rat_mul]
  have e1 := two_pow_mul a b h.1 k.1
  have e2 := two_pow_mul a b h.2 k.2
  refine FitQ.of (Int.mul_nonneg (Int.natCast_nonneg _) (Int.natCast_nonneg _)) (Int.mul_nonneg (Int.natCast_nonneg _) (Int.natCast_nonneg _)) ?_ ?_
  · rw [← Int.natCast_mul]; omega
  · rw [← Int.natCast_mul]; omega
theorem sgn_abs (t : Int) : sgn (decide (t < 0)) (t.natAbs : Int) = t := by
  unfold sgn
  by_cases h : t < 0
  · rw [decide_eq_true h]; simp; omega
  · rw [decide_eq_false h]; simp; omega
theorem sgn_natAbs (n : Bool) (A : Int) : (sgn n A).natAbs = A.natAbs := by
  unfold sgn
  cases n <;> simp
theorem FitQ.add {X Y : Rat} {a b : Nat} (h : FitQ X a) (k : FitQ Y b) : FitQ (X + Y) (a + b + 1) := by
  obtain ⟨A, hA⟩ : ∃ A, X.num.natAbs = A := ⟨_, rfl⟩
  obtain ⟨B, hB⟩ : ∃ B, X.den = B := ⟨_, rfl⟩
  obtain ⟨C, hC⟩ : ∃ C, Y.num.natAbs = C := ⟨_, rfl⟩
  obtain ⟨D, hD⟩ : ∃ D, Y.den = D := ⟨_, rfl⟩
  have eX : ratOf (decide (X.num < 0)) (A : Int) (B : Int) = X := by rw [← hA, ← hB]; exact ratOf_self X
  have eY : ratOf (decide (Y.num < 0)) (C : Int) (D : Int) = Y := by rw [← hC, ← hD]; exact ratOf_self Y
  have pB := den_pos' X
  have pD := den_pos' Y
  rw [hB] at pB
  rw [hD] at pD
  obtain ⟨t, ht⟩ : ∃ t, sgn (decide (X.num < 0)) ((A : Int) * (D : Int)) + sgn (decide (Y.num < 0)) ((C : Int) * (B : Int)) = t := ⟨_, rfl⟩
  have hs := rat_sum (m := decide (X.num < 0)) (n := decide (Y.num < 0)) (r := decide (t < 0)) (A := A) (B := B) (C := C) (D := D) (S := (t.natAbs : Int)) pB pD (by rw [sgn_abs, ht])
  rw [eX, eY] at hs
  rw [← hs]
  have f1 := h.1
  have f2 := h.2
  have f3 := k.1
  have f4 := k.2
  rw [hA] at f1
  rw [hB] at f2
  rw [hC] at f3
  rw [hD] at f4
  have g1 := two_pow_mul a b f1 f4
  have g2 := two_pow_mul b a f3 f2
  have g3 := two_pow_mul a b f2 f4
  have ht2 : t.natAbs ≤ A * D + C * B := by
    rw [← ht]
    refine Nat.le_trans (Int.natAbs_add_le _ _) ?_
    rw [sgn_natAbs, sgn_natAbs, Int.natAbs_mul, Int.natAbs_mul]
    simp
  rw [Nat.add_comm b a] at g2
  have hp2 : 2 ^ (a + b + 1) = 2 ^ (a + b) * 2 := Nat.pow_succ ..
  refine FitQ.of (Int.natCast_nonneg _) (Int.mul_nonneg (Int.natCast_nonneg _) (Int.natCast_nonneg _)) ?_ ?_
  · omega
  · rw [← Int.natCast_mul]; omega
theorem FitQ.raw {q : Q3} {m : Nat} (h1 : Wf q.num) (h2 : Wf q.den) (l1 : q.num.length ≤ m) (l2 : q.den.length ≤ m) : FitQ q.rat (32 * m) := by
  have e : ∀ {xs : List Int}, Wf xs → xs.length ≤ m → val xs ≤ ((2 ^ (32 * m) : Nat) : Int) := fun {xs} hx hl => by
    have h3 := val_lt hx
    have h4 : (4294967296 : Nat) ^ xs.length ≤ 4294967296 ^ m := Nat.pow_le_pow_right (by omega) hl
    have h5 : ((4294967296 ^ xs.length : Nat) : Int) = (4294967296 : Int) ^ xs.length := by rw [Int.natCast_pow]; rfl
    have h6 : 2 ^ (32 * m) = (4294967296 : Nat) ^ m := by rw [Nat.pow_mul]
    omega
  exact FitQ.of (val_nonneg h1) (val_nonneg h2) (e h1 l1) (e h2 l2)
theorem full_last {zs : List Int} (hf : trimN zs zs.length = zs.length) (hn : zs ≠ []) : zs.getD (zs.length - 1) 0 ≠ 0 := by
  obtain ⟨n, hl⟩ : ∃ n, zs.length = n + 1 := ⟨zs.length - 1, by have := List.length_pos_iff.2 hn; omega⟩
  rw [hl] at hf ⊢
  intro e
  rw [show n + 1 - 1 = n by omega] at e
  unfold trimN at hf
  rw [if_pos e] at hf
  have : ∀ (k : Nat), trimN zs k ≤ k := fun k => by
    induction k with
    | zero => exact Nat.le_refl _
    | succ k ih => unfold trimN; split <;> omega
  have := this n
  omega
theorem lenD_le {zs : List Int} {b : Nat} (hw : WfD zs) (hf : trimN zs zs.length = zs.length) (h : valD zs ≤ ((2 ^ b : Nat) : Int)) : zs.length ≤ b / 13 + 1 := by
  by_cases hn : zs = []
  · subst hn; simp
  · obtain ⟨n, hl⟩ : ∃ n, zs.length = n + 1 := ⟨zs.length - 1, by have := List.length_pos_iff.2 hn; omega⟩
    have hx := full_last hf hn
    have hd := hw.getD (zs.length - 1)
    have ht := val_take_succD zs n
    have h0 := val_nonnegD (hw.take n)
    rw [hl, show n + 1 - 1 = n by omega] at hx hd
    rw [List.take_of_length_le (by omega)] at ht
    obtain ⟨P, hP⟩ : ∃ P : Nat, 10000 ^ n = P := ⟨_, rfl⟩
    have hPI : (10000 : Int) ^ n = (P : Int) := by rw [← hP, Int.natCast_pow]; rfl
    rw [hPI] at ht
    have h1 : (P : Int) * 1 ≤ (P : Int) * zs.getD n 0 := Int.mul_le_mul_of_nonneg_left (by omega) (Int.natCast_nonneg _)
    have h2 : 2 ^ (13 * n) ≤ P := by rw [← hP, Nat.pow_mul]; exact Nat.pow_le_pow_left (by omega) n
    have h3 : 2 ^ (13 * n) ≤ 2 ^ b := by omega
    have h4 : 13 * n ≤ b := (Nat.pow_le_pow_iff_right (by omega)).1 h3
    omega
theorem lenN_le {zs : List Int} {b : Nat} (hw : Wf zs) (hf : trimN zs zs.length = zs.length) (h : val zs ≤ ((2 ^ b : Nat) : Int)) : zs.length ≤ b / 32 + 1 := by
  by_cases hn : zs = []
  · subst hn; simp
  · obtain ⟨n, hl⟩ : ∃ n, zs.length = n + 1 := ⟨zs.length - 1, by have := List.length_pos_iff.2 hn; omega⟩
    have hx := full_last hf hn
    have hd := hw.getD (zs.length - 1)
    have ht := val_take_succ zs n
    have h0 := val_nonneg (hw.take n)
    rw [hl, show n + 1 - 1 = n by omega] at hx hd
    rw [List.take_of_length_le (by omega)] at ht
    obtain ⟨P, hP⟩ : ∃ P : Nat, 4294967296 ^ n = P := ⟨_, rfl⟩
    have hPI : (4294967296 : Int) ^ n = (P : Int) := by rw [← hP, Int.natCast_pow]; rfl
    rw [hPI] at ht
    have h1 : (P : Int) * 1 ≤ (P : Int) * zs.getD n 0 := Int.mul_le_mul_of_nonneg_left (by omega) (Int.natCast_nonneg _)
    have h2 : 2 ^ (32 * n) ≤ P := by rw [← hP, Nat.pow_mul]; exact Nat.le_refl _
    have h3 : 2 ^ (32 * n) ≤ 2 ^ b := by omega
    have h4 : 32 * n ≤ b := (Nat.pow_le_pow_iff_right (by omega)).1 h3
    omega
theorem ArgR.refit {w : World} {v : Value} {X : Rat} {n b : Nat} (h : ArgR w v X n) (hf : FitQ X b) : ArgR w v X (b / 13 + 1) := by
  obtain ⟨zs, ys, ad, bd, ca, cb, rfl, A, B, e1, e2, _, _⟩ := h
  exact ⟨zs, ys, ad, bd, ca, cb, rfl, A, B, e1, e2, lenD_le A.wf A.full (by rw [e1]; have := hf.1; omega), lenD_le B.wf B.full (by rw [e2]; have := hf.2; omega)⟩
theorem ResQ.refit {base : Nat} {w : World} {v : Value} {X : Rat} {n b : Nat} (h : ResQ base w v X n) (hf : FitQ X b) : ResQ base w v X (b / 32 + 1) := by
  obtain ⟨zs, ys, ad, bd, ca, cb, rfl, A, B, _, _⟩ := h
  exact ⟨zs, ys, ad, bd, ca, cb, rfl, A, B, lenN_le A.wf A.full (by rw [A.eq]; have := hf.1; omega), lenN_le B.wf B.full (by rw [B.eq]; have := hf.2; omega)⟩
/-- the sum of the first k products -/
def dotN (L1 L2 : List Rat) : Nat → Rat
  | 0 => 0
  | k + 1 => dotN L1 L2 k + L1.getD k 0 * L2.getD k 0
end
section
open Go.RowKit Go.ChangeShapes Go.WideShapes Go.ChangeAt
set_option linter.unusedVariables false
set_option linter.unusedSimpArgs false
set_option maxRecDepth 100000
theorem bulkT_in {H : Type} {ds : List (DataW H)} {d : DataW H} (hd : d ∈ ds) (hk : Rows.uptoSmall H ds = true) : Rows.uptoBulk d ≤ 1048576 := by
  have h : Rows.uptoBulkAll ds ≤ 1048576 := of_decide_eq_true hk
  refine Nat.le_trans ?_ h
  clear h hk
  induction ds with
  | nil => cases hd
  | cons x r ih =>
    simp only [Rows.uptoBulkAll]
    rcases List.mem_cons.mp hd with rfl | hd
    · omega
    · have := ih hd
      omega
theorem open_listT {H : Type} {enc : TypeId × Value → H} {W : World} {v : Value} {d : DataW H} {p : List MemPlace} {T : TypeId} (hT : Tryz.prog.underlying T = some (.slice 3))
    (hv : ∃ ad n cap, v = .slice ad n cap) (h : DataW.Trod enc Tryz.prog W 0 (fun _ => true) true T v d p) :
    ∃ ad xs cap, ArgS W v xs ad cap ∧ xs.length + 1 ≤ Rows.uptoBulk d ∧ (ad = none → cap = 0) := by
  obtain ⟨ad, n, cap, rfl⟩ := hv
  obtain ⟨fuel, hf⟩ := h
  simp only [Value.cells] at hf
  obtain ⟨a, xs, c, e, A, l, m⟩ := open_intsB hT hf
  rw [e]
  exact ⟨a, xs, c, A, l, m⟩
theorem open_tensorT {H : Type} {enc : TypeId × Value → H} {W : World} {v : Value} {d : DataW H} {p : List MemPlace} {base : Nat}
    (hval : Value.okWide Tryz.prog W .any base 26 v) (h : DataW.Trod enc Tryz.prog W 0 (fun _ => true) true 26 v d p) (hk : Rows.uptoBulk d ≤ 1048576) :
    ∃ (s : List Int) (qs : List Q3) (a b : Option Addr) (ca cb : Nat), TensQ W v s qs a ca b cb ∧ s.length ≤ 1048576 ∧ sizeQs qs ≤ 1048576 ∧ s.length + sizeQs qs ≤ 1048576 := by
  obtain ⟨s, qs, a, b, ca, cb, T, l⟩ := @open_tensor H enc W v d p base hval h
  have h := Nat.le_trans l hk
  exact ⟨s, qs, a, b, ca, cb, T, Nat.le_trans (Nat.le_add_right _ _) h, Nat.le_trans (Nat.le_add_left _ _) h, h⟩
end
end Go.Proofs.YtooglnhlhgmhdaaGreat
