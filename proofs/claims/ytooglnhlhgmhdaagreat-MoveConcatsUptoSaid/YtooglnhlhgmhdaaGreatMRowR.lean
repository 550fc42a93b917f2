/-
  The reference of layer 9: a row of tensors; what is put together. (Made by wip/gen/gen_mrefv.py.)
-/
import Derived.Test.YtooglnhlhgmhdaaGreatMPartA
import Derived.Test.YtooglnhlhgmhdaaGreatMRef0
namespace Go.Proofs.YtooglnhlhgmhdaaGreat
open Go.RowKit
set_option linter.unusedVariables false
set_option linter.unusedSimpArgs false

structure Y2 where
  s : List Int
  l : List Rat
def RowTR (m : Nat) (w : World) (v : Value) (ys : List Y2) (ad : Option Addr) (cap : Nat) : Prop := v = .slice ad ys.length cap ∧ ys.length ≤ cap ∧ (ys = [] ∨ ∃ b o, ad = some ⟨b, o, none⟩ ∧ ∀ (i : Nat) (y : Y2), ys[i]? = some y →
  ∃ (a e : Option Addr) (ca ce : Nat), w.cell? ⟨b, o + i * 2, none⟩ = some (.slice a y.s.length ca) ∧ w.cell? ⟨b, o + i * 2 + 1, none⟩ = some (.slice e y.l.length ce) ∧ TensR w (.agg #[.slice a y.s.length ca, .slice e y.l.length ce]) y.s y.l m a ca e ce)
theorem RowTR.is {m : Nat} {w : World} {v : Value} {ys : List Y2} {ad : Option Addr} {cap : Nat} (h : RowTR m w v ys ad cap) : v = .slice ad ys.length cap := h.1
theorem RowTR.at {m : Nat} {w : World} {v : Value} {ys : List Y2} {ad : Option Addr} {cap i : Nat} {y : Y2} (h : RowTR m w v ys ad cap) (hi : ys[i]? = some y) : ∃ b o, ad = some ⟨b, o, none⟩ ∧ b < w.heap.size ∧
    ∃ (a e : Option Addr) (ca ce : Nat), w.cell? ⟨b, o + i * 2, none⟩ = some (.slice a y.s.length ca) ∧ w.cell? ⟨b, o + i * 2 + 1, none⟩ = some (.slice e y.l.length ce) ∧ TensR w (.agg #[.slice a y.s.length ca, .slice e y.l.length ce]) y.s y.l m a ca e ce := by
  rcases h.2.2 with rfl | ⟨b, o, e, hx⟩
  · simp at hi
  · have hc := hx i y hi
    obtain ⟨_, _, _, _, c0, _, _⟩ := id hc
    exact ⟨b, o, e, World.block_lt_of_cell? w _ c0, hc⟩
/-- the sum of the dimensions along an axis -/
def sumE (a : Nat) : List Y2 → Int
  | [] => 0
  | x :: l => x.s.getD a 0 + sumE a l
theorem sumE_snoc (a : Nat) (l : List Y2) (x : Y2) : sumE a (l ++ [x]) = sumE a l + x.s.getD a 0 := by
  induction l with
  | nil => simp [sumE]
  | cons y l ih => simp only [List.cons_append, sumE, ih]; omega
theorem sumE_bound {a : Nat} {l : List Y2} (h : ∀ x ∈ l, OkS x.s ∧ a < x.s.length) : (l.length : Int) ≤ sumE a l ∧ sumE a l ≤ 1024 * l.length := by
  induction l with
  | nil => exact ⟨Int.le_refl _, Int.le_refl _⟩
  | cons x l ih =>
    have h1 := ih fun y hy => h y (List.mem_cons_of_mem _ hy)
    have h2 := h x List.mem_cons_self
    have h3 := h2.1.pos.getD h2.2
    have h4 := getD_le_prod h2.1.pos h2.2
    have h5 := h2.1.few
    simp only [sumE, List.length_cons]
    omega
/-- the shape of tensors that are put together -/
def joE (a : Nat) (xs : List Y2) : List Int := ((xs.head?.map Y2.s).getD []).set a (sumE a xs)
/-- the layers of tensors along an axis: the tensor, the number there -/
def layE (a : Nat) (xs : List Y2) : List (Y2 × Int) := xs.flatMap fun x => (List.range (x.s.getD a 0).toNat).map fun n : Nat => (x, (n : Int))
theorem layE_snoc (a : Nat) (l : List Y2) (x : Y2) : layE a (l ++ [x]) = layE a l ++ (List.range (x.s.getD a 0).toNat).map fun n : Nat => (x, (n : Int)) := by
  unfold layE
  rw [List.flatMap_append]
  simp
theorem layE_len {a : Nat} {l : List Y2} (h : ∀ x ∈ l, 0 ≤ x.s.getD a 0) : ((layE a l).length : Int) = sumE a l := by
  induction l with
  | nil => rfl
  | cons x l ih =>
    have h1 := ih fun y hy => h y (List.mem_cons_of_mem _ hy)
    have h2 := h x List.mem_cons_self
    have e : layE a (x :: l) = ((List.range (x.s.getD a 0).toNat).map fun n : Nat => (x, (n : Int))) ++ layE a l := by unfold layE; rw [List.flatMap_cons]
    rw [e, List.length_append, List.length_map, List.length_range]
    simp only [sumE]
    omega
theorem layE_mem {a : Nat} {l : List Y2} {x : Y2} {n : Int} (h : (x, n) ∈ layE a l) : x ∈ l ∧ 0 ≤ n ∧ n < x.s.getD a 0 := by
  obtain ⟨y, hy, hm⟩ := List.mem_flatMap.1 h
  obtain ⟨k, hk, e⟩ := List.mem_map.1 hm
  have := List.mem_range.1 hk
  simp only [Prod.mk.injEq] at e
  obtain ⟨rfl, rfl⟩ := e
  exact ⟨hy, by omega, by omega⟩
theorem sumE_le {a : Nat} {xs : List Y2} (h : ∀ x ∈ xs, OkS x.s ∧ a < x.s.length) (k : Nat) : sumE a (xs.take k) ≤ sumE a xs := by
  induction xs generalizing k with
  | nil => simp
  | cons x l ih =>
    have h2 := h x List.mem_cons_self
    have h3 := h2.1.pos.getD h2.2
    have hl := sumE_bound (a := a) (l := l) fun y hy => h y (List.mem_cons_of_mem _ hy)
    cases k with
    | zero => simp only [List.take_zero, sumE]; omega
    | succ k =>
      have := ih (fun y hy => h y (List.mem_cons_of_mem _ hy)) k
      simp only [List.take_succ_cons, sumE]
      omega
theorem take_next_leE {a : Nat} {xs : List Y2} {k : Nat} {x : Y2} (h : ∀ x ∈ xs, OkS x.s ∧ a < x.s.length) (hx : xs[k]? = some x) : sumE a (xs.take k) + x.s.getD a 0 ≤ sumE a xs := by
  have := sumE_le h (k + 1)
  rw [take_nextL hx, sumE_snoc] at this
  exact this
theorem layE_at {a : Nat} {xs : List Y2} {k j : Nat} {x : Y2} (h : ∀ x ∈ xs, OkS x.s ∧ a < x.s.length) (hx : xs[k]? = some x) (hj : (j : Int) < x.s.getD a 0) : (layE a xs)[(sumE a (xs.take k) + (j : Int)).toNat]? = some (x, (j : Int)) := by
  have hk : k < xs.length := by
    rcases Nat.lt_or_ge k xs.length with h | h
    · exact h
    · rw [List.getElem?_eq_none h] at hx; cases hx
  have e : xs = xs.take k ++ ([x] ++ xs.drop (k + 1)) := by
    conv => lhs; rw [← List.take_append_drop k xs]
    congr 1
    rw [List.drop_eq_getElem_cons hk]
    rw [List.getElem?_eq_getElem hk] at hx
    rw [Option.some.inj hx]
    rfl
  have hpre : ∀ y ∈ xs.take k, OkS y.s ∧ a < y.s.length := fun y hy => h y (List.mem_of_mem_take hy)
  have hln := layE_len (a := a) (l := xs.take k) (fun y hy => by have := (hpre y hy).1.pos.getD (hpre y hy).2; omega)
  have e2 : layE a xs = layE a (xs.take k) ++ (((List.range (x.s.getD a 0).toNat).map fun n : Nat => (x, (n : Int))) ++ layE a (xs.drop (k + 1))) := by
    conv => lhs; rw [e]
    unfold layE
    rw [List.flatMap_append, List.flatMap_append]
    simp
  rw [e2, show (sumE a (xs.take k) + (j : Int)).toNat = (layE a (xs.take k)).length + j by omega, List.getElem?_append_right (by omega), Nat.add_sub_cancel_left, List.getElem?_append_left (by rw [List.length_map, List.length_range]; omega), List.getElem?_map, List.getElem?_range (by omega)]
  rfl
def firstE (ys : List Y2) : List Int := (ys.head?.map Y2.s).getD []
def badY (a : Nat) (f : List Int) (y : Y2) : Prop := y.s.length ≠ f.length ∨ ∃ i, i < f.length ∧ i ≠ a ∧ y.s.getD i 0 ≠ f.getD i 0
def badB (a : Nat) (f : List Int) (y : Y2) : Bool := decide (y.s.length ≠ f.length) || (List.range f.length).any fun i => decide (i ≠ a) && decide (y.s.getD i 0 ≠ f.getD i 0)
theorem badB_iff {a : Nat} {f : List Int} {y : Y2} : badB a f y = true ↔ badY a f y := by
  unfold badB badY
  rw [Bool.or_eq_true, decide_eq_true_iff, List.any_eq_true]
  refine or_congr Iff.rfl ⟨fun ⟨i, h1, h2⟩ => ?_, fun ⟨i, h1, h2, h3⟩ => ⟨i, List.mem_range.2 h1, ?_⟩⟩
  · rw [Bool.and_eq_true, decide_eq_true_iff, decide_eq_true_iff] at h2
    exact ⟨i, List.mem_range.1 h1, h2.1, h2.2⟩
  · rw [Bool.and_eq_true, decide_eq_true_iff, decide_eq_true_iff]
    exact ⟨h2, h3⟩
/-- the reference's answer -/
def rcC (axis : Int) (ys : List Y2) : Int :=
  if axis < 0 ∨ ((firstE ys).length : Int) ≤ axis then 11 else if ys.any (badB axis.toNat (firstE ys)) = true then 13 else if 1024 < prodS (joE axis.toNat ys) then 14 else 0
def rcF (a : Nat) (ys : List Y2) (zs : List Int) : Rat := match (layE a ys)[(zs.getD a 0).toNat]? with
  | some (y, k) => elV y.s y.l (zs.set a k)
  | none => 0
def rcV (a : Nat) (ys : List Y2) : List Rat := fillV (joE a ys) (rcF a ys)
theorem rcF_at {a : Nat} {ys : List Y2} {zs : List Int} {y : Y2} {k : Int} (h : (layE a ys)[(zs.getD a 0).toNat]? = some (y, k)) : rcF a ys zs = elV y.s y.l (zs.set a k) := by
  unfold rcF
  rw [h]
theorem joE_len {a : Nat} {ys : List Y2} : (joE a ys).length = (firstE ys).length := by unfold joE firstE; rw [List.length_set]
theorem rcC_ax {axis : Int} {ys : List Y2} (h : axis < 0 ∨ ((firstE ys).length : Int) ≤ axis) : rcC axis ys = 11 := by unfold rcC; rw [if_pos h]
theorem rcC_bad {a : Nat} {ys : List Y2} {y : Y2} (h : a < (firstE ys).length) (hy : y ∈ ys) (hb : badY a (firstE ys) y) : rcC (a : Int) ys = 13 := by
  unfold rcC
  rw [if_neg (by omega), Int.toNat_natCast, if_pos (List.any_eq_true.2 ⟨y, hy, badB_iff.2 hb⟩)]
theorem rcC_any {a : Nat} {ys : List Y2} (hb : ∀ y ∈ ys, ¬ badY a (firstE ys) y) : ¬ ys.any (badB a (firstE ys)) = true := fun h => by
  obtain ⟨y, hy, h⟩ := List.any_eq_true.1 h
  exact hb y hy (badB_iff.1 h)
theorem rcC_many {a : Nat} {ys : List Y2} (h : a < (firstE ys).length) (hb : ∀ y ∈ ys, ¬ badY a (firstE ys) y) (hp : 1024 < prodS (joE a ys)) : rcC (a : Int) ys = 14 := by
  unfold rcC
  rw [if_neg (by omega), Int.toNat_natCast, if_neg (rcC_any hb), if_pos hp]
theorem rcC_few {a : Nat} {ys : List Y2} (h : a < (firstE ys).length) (hb : ∀ y ∈ ys, ¬ badY a (firstE ys) y) (hp : ¬ 1024 < prodS (joE a ys)) : rcC (a : Int) ys = 0 := by
  unfold rcC
  rw [if_neg (by omega), Int.toNat_natCast, if_neg (rcC_any hb), if_neg hp]
theorem joE_pos {a : Nat} {ys : List Y2} (hne : 0 < ys.length) (h : ∀ y ∈ ys, OkS y.s ∧ a < y.s.length) : posS (joE a ys) ∧ (joE a ys).length ≤ 4 := by
  obtain ⟨y0, h0⟩ : ∃ y, ys[0]? = some y := ⟨_, List.getElem?_eq_getElem hne⟩
  have hf : firstE ys = y0.s := by unfold firstE; rw [List.head?_eq_getElem?, h0]; rfl
  have hm := h y0 (List.mem_of_getElem? h0)
  have hb := sumE_bound h
  refine ⟨pos_of fun i hi => ?_, by rw [joE_len, hf]; exact hm.1.rank⟩
  rw [joE_len, hf] at hi
  have e : joE a ys = y0.s.set a (sumE a ys) := by unfold joE; rw [show (ys.head?.map Y2.s).getD [] = y0.s from hf]
  rw [e]
  by_cases g : i = a
  · subst g
    rw [getD_set_self _ _ _ hi]
    omega
  · rw [getD_set_ne _ _ (fun h => g h.symm)]
    exact hm.1.pos.getD hi
theorem tenR_of9 {base n m : Nat} {w0 w : World} {a b : Option Addr} {ca cb : Nat} {s : List Int} {L : List Rat} (hm : m = L.length) (hb : Below w0.heap.size w0 w) (S : ResS base w (.slice a s.length ca) s) (E : RowO base 75 (fun W v x => ResA base w0 W v x n) w (.slice b m cb) L) :
    TenR w (.agg #[.slice a s.length ca, .slice b m cb]) s L n := by
  subst hm
  exact ⟨a, ca, b, cb, rfl, S.at_.2.1, S.at_.2.2, E.at_.2.1.imp (fun v x _ h => h.arg hb), E.at_.2.2⟩
end Go.Proofs.YtooglnhlhgmhdaaGreat
