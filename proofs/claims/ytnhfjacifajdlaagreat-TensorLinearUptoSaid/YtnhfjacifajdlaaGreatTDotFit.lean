/-
  Layer 7's laws: how great the sums of products of two tensors are; which tensors have a product.
-/
import Derived.Test.YtnhfjacifajdlaaGreatTKnown
import Derived.Test.YtnhfjacifajdlaaGreatTLaw
namespace Go.Proofs.YtnhfjacifajdlaaGreat
open Go.RowKit
set_option linter.unusedVariables false
set_option linter.unusedSimpArgs false

theorem sizeQs_take {qs : List Q3} {k : Nat} {q : Q3} (h : qs[k]? = some q) : sizeQs (qs.take (k + 1)) = sizeQs (qs.take k) + sizeQ q := by
  induction qs generalizing k with
  | nil => simp at h
  | cons p r ih =>
    cases k with
    | zero => simp only [List.getElem?_cons_zero, Option.some.injEq] at h; subst h; simp [sizeQs]
    | succ k =>
      have h2 := ih (k := k) (by simpa using h)
      simp only [List.take_succ_cons, sizeQs] at h2 ⊢
      omega
theorem sizeQs_takeLe (qs : List Q3) (k : Nat) : sizeQs (qs.take k) ≤ sizeQs qs := by
  induction qs generalizing k with
  | nil => simp
  | cons p r ih =>
    cases k with
    | zero => simp [sizeQs]
    | succ k => have := ih k; simp only [List.take_succ_cons, sizeQs]; omega
/-- all parts are rows of limbs -/
def WfQs (qs : List Q3) : Prop := ∀ q ∈ qs, Wf q.num ∧ Wf q.den
theorem TensQ.wfs {w : World} {v : Value} {s : List Int} {qs : List Q3} {a b : Option Addr} {ca cb : Nat} (T : TensQ w v s qs a ca b cb) : WfQs qs := fun q hq => by
  obtain ⟨i, hi, rfl⟩ := List.mem_iff_getElem.1 hq
  obtain ⟨_, _, _, _, _, q', _, hq', _, _, _, hr⟩ := T.el.at hi
  rw [List.getElem?_eq_getElem hi] at hq'
  cases hq'
  obtain ⟨_, _, _, _, _, A, B, _⟩ := hr
  exact ⟨A.wf, B.wf⟩
theorem fit_Q3 {q : Q3} (h : Wf q.num ∧ Wf q.den) : FitQ q.rat (32 * sizeQ q - 32) :=
  (FitQ.raw (m := q.num.length + q.den.length) h.1 h.2 (by omega) (by omega)).mono (by unfold sizeQ; omega)
theorem getD_someL {α : Type} {l : List α} {k : Nat} {x d : α} (h : l[k]? = some x) : l.getD k d = x := by
  rw [List.getD_eq_getElem?_getD, h]; rfl
theorem sizeQ_pos (q : Q3) : 1 ≤ sizeQ q := by unfold sizeQ; omega
theorem dotN_fit {q1 q2 : List Q3} (h1 : WfQs q1) (h2 : WfQs q2) (hl : q1.length = q2.length) : ∀ k, k ≤ q1.length → FitQ (dotN (q1.map Q3.rat) (q2.map Q3.rat) k) (32 * (sizeQs (q1.take k) + sizeQs (q2.take k)))
  | 0, _ => FitQ.zero _
  | k + 1, hk => by
    obtain ⟨x, hx⟩ : ∃ x, q1[k]? = some x := ⟨_, List.getElem?_eq_getElem (by omega)⟩
    obtain ⟨y, hy⟩ : ∃ y, q2[k]? = some y := ⟨_, List.getElem?_eq_getElem (by omega)⟩
    have ih := dotN_fit h1 h2 hl k (by omega)
    have fx := fit_Q3 (h1 x (List.mem_of_getElem? hx))
    have fy := fit_Q3 (h2 y (List.mem_of_getElem? hy))
    have px := sizeQ_pos x
    have py := sizeQ_pos y
    unfold dotN
    rw [getD_someL (l := q1.map Q3.rat) (x := x.rat) (by rw [List.getElem?_map, hx]; rfl), getD_someL (l := q2.map Q3.rat) (x := y.rat) (by rw [List.getElem?_map, hy]; rfl), sizeQs_take hx, sizeQs_take hy]
    exact (ih.add (fx.mul fy)).mono (by omega)
theorem dotN_fitA {q1 q2 : List Q3} {B : Nat} (h1 : WfQs q1) (h2 : WfQs q2) (hl : q1.length = q2.length) (hB : 32 * (sizeQs q1 + sizeQs q2) ≤ B) : ∀ k, k ≤ q1.length → FitQ (dotN (q1.map Q3.rat) (q2.map Q3.rat) k) B := fun k hk =>
  (dotN_fit h1 h2 hl k hk).mono (by have := sizeQs_takeLe q1 k; have := sizeQs_takeLe q2 k; omega)
/-- tensors that have a product have as many elements -/
theorem dotC_len {s1 s2 : List Int} {q1 q2 : List Q3} (h : dotC s1 s2 q1 q2 = 0) : s1 = s2 ∧ q1.length = q2.length ∧ mayT s1 q1 = 0 ∧ mayT s2 q2 = 0 := by
  unfold dotC at h
  by_cases m1 : mayT s1 q1 = 0
  · rw [if_neg (by simp [m1])] at h
    by_cases m2 : mayT s2 q2 = 0
    · rw [if_neg (by simp [m2])] at h
      by_cases hs : s1 = s2
      · have e1 : ∀ {s : List Int} {qs : List Q3}, mayT s qs = 0 → (qs.length : Int) = countS s := fun {s qs} hm => by
          unfold mayT at hm
          by_cases g0 : mayC s = 0
          · rw [if_neg (by simp [g0])] at hm
            by_cases g : (qs.length : Int) = countS s
            · exact g
            · rw [if_pos g] at hm; cases hm
          · rw [if_pos g0] at hm; exact absurd hm g0
        have g1 := e1 m1
        have g2 := e1 m2
        subst hs
        exact ⟨rfl, by omega, m1, m2⟩
      · rw [if_pos hs] at h; cases h
    · rw [if_pos m2] at h; exact absurd h m2
  · rw [if_pos m1] at h; exact absurd h m1
end Go.Proofs.YtnhfjacifajdlaaGreat
