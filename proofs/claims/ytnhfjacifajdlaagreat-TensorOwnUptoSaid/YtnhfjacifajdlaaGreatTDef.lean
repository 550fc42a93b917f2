/-
  What the calls of package tensor answer; an answered tensor as an argument.
-/
import Derived.Test.YtnhfjacifajdlaaGreatTOpen
namespace Go.Proofs.YtnhfjacifajdlaaGreat
open Go.RowKit
set_option linter.unusedVariables false
set_option linter.unusedSimpArgs false

/-- all parts are at most n limbs long -/
def lensQ (qs : List Q3) (n : Nat) : Prop := ∀ q ∈ qs, q.num.length ≤ n ∧ q.den.length ≤ n
theorem lensQ.of {qs : List Q3} {n : Nat} (h : sizeQs qs ≤ n) : lensQ qs n := fun q hq => by
  have := sizeQs_mem hq
  unfold sizeQ at this
  omega
/-- why there is no tensor of a shape and so many numbers -/
def makeC (s : List Int) (n : Nat) : Int := if mayC s ≠ 0 then mayC s else if (n : Int) ≠ countS s then 13 else 0
/-- why a tensor has no element at an index -/
def atC (s : List Int) (qs : List Q3) (xs : List Int) : Int := if mayT s qs ≠ 0 then mayT s qs else offC s xs
/-- why two tensors have no product -/
def dotC (s1 s2 : List Int) (q1 q2 : List Q3) : Int := if mayT s1 q1 ≠ 0 then mayT s1 q1 else if mayT s2 q2 ≠ 0 then mayT s2 q2 else if s1 ≠ s2 then 13 else 0
/-- a copy of a tensor, limb by limb, in new memory -/
def ResC (base : Nat) (w : World) (v : Value) (s : List Int) (qs : List Q3) : Prop :=
  ∃ (a b : Option Addr) (ca cb : Nat), v = .agg #[.slice a s.length ca, .slice b qs.length cb] ∧ ResS base w (.slice a s.length ca) s ∧ RowO base 44 (RawO base) w (.slice b qs.length cb) qs
def noTensor : Value := .agg #[.slice none 0 0, .slice none 0 0]
def noRat : Value := .agg #[.bool false, .slice none 0 0, .slice none 0 0]
/-- the rational as it is answered -/
theorem ResQ.raw {base n : Nat} {w : World} {v : Value} {x : Rat} (h : ResQ base w v x n) : ∃ q : Q3, RawQ w v q ∧ q.rat = x ∧ q.num.length ≤ n ∧ q.den.length ≤ n ∧ okQ q = true := by
  obtain ⟨zs, ys, ad, bd, ca, cb, rfl, A, B, l1, l2⟩ := h
  have e : (Q3.mk (decide (x.num < 0)) zs ys).rat = x := by unfold Q3.rat; rw [A.eq, B.eq, ratOf_self]
  refine ⟨⟨decide (x.num < 0), zs, ys⟩, ⟨ad, bd, ca, cb, rfl, A.at_.2, B.at_.2, (Num.at_ A.num A.wf).2.2, (Num.at_ B.num B.wf).2.2⟩, e, l1, l2, ?_⟩
  unfold okQ validB isB
  rw [e]
  simp only [Bool.and_eq_true, decide_eq_true_eq, beq_iff_eq]
  exact ⟨by simp, ⟨A.full, A.eq⟩, B.full, B.eq⟩
/-- an answered tensor, as it is handed in again -/
theorem ResT.tens {base m : Nat} {w : World} {v : Value} {s : List Int} {L : List Rat} (h : ResT base w v s L m) : ∃ (qs : List Q3) (a b : Option Addr) (ca cb : Nat), TensQ w v s qs a ca b cb ∧ qs.map Q3.rat = L ∧ lensQ qs m ∧ ∀ q ∈ qs, okQ q = true := by
  obtain ⟨a, b, ca, cb, rfl, h1, h2⟩ := h
  obtain ⟨_, A, na⟩ := h1.at_
  obtain ⟨_, B, nb⟩ := h2.at_
  rcases B.els with e | ⟨bb, o, es, e, hc, hall⟩
  · subst e
    exact ⟨[], a, b, ca, cb, ⟨rfl, A, na, ⟨rfl, B.le, .inl rfl⟩, nb⟩, rfl, (fun q hq => by cases hq), fun q hq => by cases hq⟩
  · have hch : ∀ i, ∃ q : Q3, i < L.length → ∀ d x, es[i]? = some d → L[i]? = some x → RawQ w d.agg q ∧ q.rat = x ∧ q.num.length ≤ m ∧ q.den.length ≤ m ∧ okQ q = true := fun i => by
      by_cases hi : i < L.length
      · obtain ⟨d, x, g1, g2, g3⟩ := hall.at hi
        obtain ⟨q, k1, k2, k3, k4, k5⟩ := ResQ.raw g3
        refine ⟨q, fun _ d' x' e1 e2 => ?_⟩
        rw [g1] at e1
        rw [g2] at e2
        cases e1
        cases e2
        exact ⟨k1, k2, k3, k4, k5⟩
      · exact ⟨⟨false, [], []⟩, fun h => absurd h hi⟩
    obtain ⟨F, hF⟩ := Classical.axiomOfChoice hch
    have hl : ((List.range L.length).map F).length = L.length := by simp
    have hat : ∀ i q, ((List.range L.length).map F)[i]? = some q → i < L.length ∧ q = F i := fun i q hq => by
      have hlt : i < L.length := by
        rcases Nat.lt_or_ge i L.length with g | g
        · exact g
        · rw [List.getElem?_eq_none (by simpa using g)] at hq; cases hq
      rw [List.getElem?_map, List.getElem?_range hlt] at hq
      simp only [Option.map_some, Option.some.injEq] at hq
      exact ⟨hlt, hq.symm⟩
    refine ⟨(List.range L.length).map F, a, b, ca, cb, ⟨by rw [hl], A, na, ⟨rfl, by rw [hl]; exact B.le, .inr ⟨bb, o, es, e, hc, by rw [hl]; exact hall.1, fun i d q h1 hq => ?_⟩⟩, nb⟩, ?_, fun q hq => ?_, fun q hq => ?_⟩
    · obtain ⟨hlt, rfl⟩ := hat i q hq
      obtain ⟨d', x, g1, g2, _⟩ := hall.at hlt
      rw [h1] at g1
      cases g1
      exact (hF i hlt d x h1 g2).1
    · apply List.ext_getElem?
      intro i
      by_cases hlt : i < L.length
      · obtain ⟨d, x, g1, g2, _⟩ := hall.at hlt
        rw [List.getElem?_map, List.getElem?_map, List.getElem?_range hlt, g2]
        simp only [Option.map_some]
        rw [(hF i hlt d x g1 g2).2.1]
      · rw [List.getElem?_eq_none (by simpa using hlt), List.getElem?_eq_none (by omega)]
    · obtain ⟨i, hi, rfl⟩ := List.mem_iff_getElem.1 hq
      obtain ⟨hlt, he⟩ := hat i _ (List.getElem?_eq_getElem hi)
      obtain ⟨d, x, g1, g2, _⟩ := hall.at hlt
      rw [he]
      exact ⟨(hF i hlt d x g1 g2).2.2.1, (hF i hlt d x g1 g2).2.2.2.1⟩
    · obtain ⟨i, hi, rfl⟩ := List.mem_iff_getElem.1 hq
      obtain ⟨hlt, he⟩ := hat i _ (List.getElem?_eq_getElem hi)
      obtain ⟨d, x, g1, g2, _⟩ := hall.at hlt
      rw [he]
      exact (hF i hlt d x g1 g2).2.2.2.2
end Go.Proofs.YtnhfjacifajdlaaGreat
