/-
  Layer 9's law MoveConcats: the code's answer and the reference's.
-/
import Derived.Test.YtooglnhlhgmhdaaGreatMRow2
namespace Go.Proofs.YtooglnhlhgmhdaaGreat
open Go.RowKit
set_option linter.unusedVariables false
set_option linter.unusedSimpArgs false

def toY (x : X2) : Y2 := ⟨shV x.s x.q, elsV x.s x.q⟩
theorem toY_ok {x : X2} (h : mayT x.s x.q = 0) : toY x = ⟨x.s, x.q.map Q3.rat⟩ := by
  unfold toY shV elsV
  rw [if_pos h, if_pos h]
theorem orL_snoc (l : List Int) (x : Int) : orL (l ++ [x]) = if orL l = 0 then x else orL l := by
  induction l with
  | nil => by_cases h : x = 0 <;> simp [orL, h]
  | cons a l ih =>
    by_cases h : a = 0
    · subst h
      have e : ∀ l : List Int, orL (0 :: l) = orL l := fun l => by simp [orL]
      rw [List.cons_append, e, e, ih]
    · have e : ∀ l : List Int, orL (a :: l) = a := fun l => by simp [orL, h]
      rw [List.cons_append, e, e, if_neg h]
theorem mayX_snoc (l : List X2) (x : X2) : mayX (l ++ [x]) = if mayX l = 0 then mayT x.s x.q else mayX l := by
  unfold mayX
  rw [List.map_append, List.map_cons, List.map_nil, orL_snoc]
theorem first_link {xs : List X2} (h : ∀ x ∈ xs, mayT x.s x.q = 0) : firstE (xs.map toY) = firstS xs := by
  cases xs with
  | nil => rfl
  | cons x l =>
    show (toY x).s = x.s
    rw [toY_ok (h x List.mem_cons_self)]
theorem sum_link {a : Nat} {xs : List X2} (h : ∀ x ∈ xs, mayT x.s x.q = 0) : sumE a (xs.map toY) = sumD a xs := by
  induction xs with
  | nil => rfl
  | cons x l ih =>
    simp only [List.map_cons, sumE, sumD]
    rw [ih fun y hy => h y (List.mem_cons_of_mem _ hy), toY_ok (h x List.mem_cons_self)]
theorem jo_link {a : Nat} {xs : List X2} (h : ∀ x ∈ xs, mayT x.s x.q = 0) : joE a (xs.map toY) = joS a xs := by
  unfold joE joS
  rw [sum_link h]
  exact congrArg (fun l => List.set l a (sumD a xs)) (first_link h)
theorem lay_link {a : Nat} {xs : List X2} (h : ∀ x ∈ xs, mayT x.s x.q = 0) : layE a (xs.map toY) = (layL a xs).map fun p => (toY p.1, p.2) := by
  induction xs with
  | nil => rfl
  | cons x l ih =>
    have e1 : layE a (List.map toY (x :: l)) = ((List.range ((toY x).s.getD a 0).toNat).map fun n : Nat => (toY x, (n : Int))) ++ layE a (l.map toY) := by unfold layE; rw [List.map_cons, List.flatMap_cons]
    have e2 : layL a (x :: l) = ((List.range (x.s.getD a 0).toNat).map fun n : Nat => (x, (n : Int))) ++ layL a l := by unfold layL; rw [List.flatMap_cons]
    rw [e1, e2, List.map_append, ih fun y hy => h y (List.mem_cons_of_mem _ hy), List.map_map]
    congr 1
    have hs : (toY x).s = x.s := by rw [toY_ok (h x List.mem_cons_self)]
    rw [hs]
    rfl
theorem val_link {a : Nat} {xs : List X2} (h : ∀ x ∈ xs, mayT x.s x.q = 0) : rcV a (xs.map toY) = conV a xs := by
  unfold rcV conV
  rw [jo_link h]
  unfold fillV
  refine List.map_congr_left fun k _ => ?_
  unfold rcF conF
  rw [lay_link h, List.getElem?_map]
  cases e : (layL a xs)[((idxS (joS a xs) (k : Int)).getD a 0).toNat]? with
  | none => rfl
  | some p =>
    obtain ⟨x, n⟩ := p
    have hm := (layL_mem (List.mem_of_getElem? e)).1
    simp only [Option.map_some]
    rw [toY_ok (h x hm)]
theorem ones_same {a : Nat} {s f : List Int} : onesS s [(a : Int)] = onesS f [(a : Int)] ↔ ¬ (s.length ≠ f.length ∨ ∃ i, i < f.length ∧ i ≠ a ∧ s.getD i 0 ≠ f.getD i 0) := by
  constructor
  · intro e h
    have hl := congrArg List.length e
    rw [ones_len, ones_len] at hl
    rcases h with h | ⟨i, h1, h2, h3⟩
    · exact h hl
    · have g1 := ones_at s [(a : Int)] (i := i) (by omega)
      have g2 := ones_at f [(a : Int)] h1
      have hm : ¬ ((i : Int) ∈ [(a : Int)]) := by simp; omega
      rw [if_neg hm] at g1 g2
      exact h3 (by rw [← g1, ← g2, e])
  · intro h
    have hl : s.length = f.length := Classical.byContradiction fun g => h (.inl g)
    refine list_eq_getD (by rw [ones_len, ones_len, hl]) fun i hi => ?_
    rw [ones_len] at hi
    rw [ones_at s [(a : Int)] hi, ones_at f [(a : Int)] (by omega)]
    by_cases hia : (i : Int) ∈ [(a : Int)]
    · rw [if_pos hia, if_pos hia]
    · rw [if_neg hia, if_neg hia]
      have hne : i ≠ a := fun e => hia (by rw [e]; exact List.mem_singleton.2 rfl)
      exact Classical.byContradiction fun g => h (.inr ⟨i, by omega, hne, g⟩)
theorem code_link {axis : Int} {xs : List X2} (hne : 0 < xs.length) (h : ∀ x ∈ xs, mayT x.s x.q = 0) : mjC axis xs = rcC axis (xs.map toY) := by
  have hm0 : mayX xs = 0 := mayX_all h
  have hf := first_link h
  unfold mjC rcC
  rw [if_neg (by omega), if_neg (by rw [hm0]; simp), hf]
  by_cases h1 : axis < 0 ∨ ((firstS xs).length : Int) ≤ axis
  · rw [if_pos h1, if_pos h1]
  · rw [if_neg h1, if_neg h1]
    obtain ⟨a, rfl⟩ : ∃ a : Nat, axis = (a : Int) := ⟨axis.toNat, by omega⟩
    rw [Int.toNat_natCast]
    by_cases h2 : ∃ x, x ∈ xs ∧ onesS x.s [(a : Int)] ≠ onesS (firstS xs) [(a : Int)]
    · rw [if_pos h2]
      obtain ⟨x, hx, hn⟩ := h2
      rw [if_pos]
      rw [List.any_eq_true]
      refine ⟨toY x, List.mem_map.2 ⟨x, hx, rfl⟩, badB_iff.2 ?_⟩
      unfold badY
      rw [toY_ok (h x hx)]
      exact Classical.byContradiction fun g => hn (ones_same.2 g)
    · rw [if_neg h2, if_neg]
      · have J : ∀ x ∈ xs, OkS x.s ∧ a < x.s.length := fun x hx => ⟨mayC_zero.1 (mayT_rank (h x hx)), by
          have e : onesS x.s [(a : Int)] = onesS (firstS xs) [(a : Int)] := Classical.byContradiction fun g => h2 ⟨x, hx, g⟩
          have hl := congrArg List.length e
          rw [ones_len, ones_len] at hl
          omega⟩
        have JY : ∀ y ∈ xs.map toY, OkS y.s ∧ a < y.s.length := fun y hy => by
          obtain ⟨x, hx, rfl⟩ := List.mem_map.1 hy
          rw [toY_ok (h x hx)]
          exact J x hx
        have hp := joE_pos (by rw [List.length_map]; exact hne) JY
        rw [jo_link h] at hp ⊢
        by_cases h3 : 1024 < prodS (joS a xs)
        · rw [if_pos h3]
          exact mayC_count hp.2 hp.1 h3
        · rw [if_neg h3]
          exact mayC_ok ⟨hp.2, hp.1, by omega⟩
      · intro hb
        obtain ⟨y, hy, hb⟩ := List.any_eq_true.1 hb
        obtain ⟨x, hx, rfl⟩ := List.mem_map.1 hy
        have hb2 := badB_iff.1 hb
        unfold badY at hb2
        rw [toY_ok (h x hx)] at hb2
        exact ones_same.1 (Classical.byContradiction fun g => h2 ⟨x, hx, g⟩) hb2
end Go.Proofs.YtooglnhlhgmhdaaGreat
