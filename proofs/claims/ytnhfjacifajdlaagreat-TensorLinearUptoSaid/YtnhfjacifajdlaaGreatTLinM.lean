/-
  Layer 7's law TensorLinear: sums of products, by reckoning alone; Same over any two numbers.
-/
import Derived.Test.YtnhfjacifajdlaaGreatTMix
namespace Go.Proofs.YtnhfjacifajdlaaGreat
open Go.RowKit
set_option linter.unusedVariables false
set_option linter.unusedSimpArgs false

theorem dotN_comm (L1 L2 : List Rat) : ∀ k, dotN L1 L2 k = dotN L2 L1 k
  | 0 => rfl
  | k + 1 => by unfold dotN; rw [dotN_comm L1 L2 k, Rat.mul_comm]
theorem sq_nonneg (x : Rat) : 0 ≤ x * x := by
  rcases Rat.le_total (a := 0) (b := x) with h | h
  · exact Rat.mul_nonneg h h
  · have h2 : 0 ≤ -x := by grind
    have := Rat.mul_nonneg h2 h2
    grind
theorem dotN_self_nonneg (L : List Rat) : ∀ k, 0 ≤ dotN L L k
  | 0 => by unfold dotN; exact Rat.le_refl
  | k + 1 => by
    have h := dotN_self_nonneg L k
    have h2 := sq_nonneg (L.getD k 0)
    unfold dotN
    grind
theorem dotN_self_zero (L : List Rat) : ∀ k, dotN L L k = 0 ↔ ∀ i, i < k → L.getD i 0 = 0
  | 0 => ⟨fun _ i h => absurd h (Nat.not_lt_zero _), fun _ => rfl⟩
  | k + 1 => by
    have h := dotN_self_nonneg L k
    have h2 := sq_nonneg (L.getD k 0)
    have ih := dotN_self_zero L k
    constructor
    · intro e i hi
      unfold dotN at e
      have e1 : dotN L L k = 0 := by grind
      have e2 : L.getD k 0 * L.getD k 0 = 0 := by grind
      by_cases hk : i = k
      · subst hk
        rcases Rat.mul_eq_zero.1 e2 with h | h <;> exact h
      · exact ih.1 e1 i (by omega)
    · intro hall
      unfold dotN
      rw [ih.2 (fun i hi => hall i (by omega)), hall k (by omega)]
      grind
theorem sgR_nonneg {x : Rat} (h : 0 ≤ x) : 0 ≤ sgR x := by
  unfold sgR
  have := Rat.num_nonneg.2 h
  rcases Int.lt_or_eq_of_le this with h | h
  · rw [Int.sign_eq_one_of_pos h]; decide
  · rw [← h]; decide
/-- the product of a mix -/
theorem dotN_mix {L1 L2 L3 : List Rat} {x : Rat} (h : L2.length = L1.length) : ∀ k, k ≤ L1.length → dotN (mixL L1 L2 x) L3 k = dotN L1 L3 k + x * dotN L2 L3 k
  | 0, _ => by unfold dotN; grind
  | k + 1, hk => by
    have ih := dotN_mix (L3 := L3) (x := x) h k (by omega)
    have e1 : L1[k]? = some (L1[k]'(by omega)) := List.getElem?_eq_getElem (by omega)
    have e2 : L2[k]? = some (L2[k]'(by omega)) := List.getElem?_eq_getElem (by omega)
    unfold dotN
    rw [ih, getD_someL (mixL_at (x := x) e1 e2), getD_someL e1, getD_someL e2]
    grind
/-- how great the product of a mix is, on the way -/
theorem mix_fit {q1 q2 q3 qm : List Q3} {x : Q3} {B : Nat} (w1 : WfQs q1) (w2 : WfQs q2) (w3 : WfQs q3) (wx : Wf x.num ∧ Wf x.den) (h12 : q2.length = q1.length) (h13 : q1.length = q3.length) (hm : qm.map Q3.rat = mixL (q1.map Q3.rat) (q2.map Q3.rat) x.rat)
    (hB : 32 * (sizeQs q1 + sizeQs q2 + 2 * sizeQs q3 + sizeQ x) + 1 ≤ B) : ∀ k, k ≤ q1.length → FitQ (dotN (qm.map Q3.rat) (q3.map Q3.rat) k) B := fun k hk => by
  have f1 := dotN_fitA (B := 32 * (sizeQs q1 + sizeQs q3)) w1 w3 h13 (Nat.le_refl _) k hk
  have f2 := dotN_fitA (B := 32 * (sizeQs q2 + sizeQs q3)) w2 w3 (h12.trans h13) (Nat.le_refl _) k (by omega)
  have fx := fit_Q3 wx
  rw [hm, dotN_mix (by rw [List.length_map, List.length_map]; exact h12) k (by rw [List.length_map]; exact hk)]
  exact (f1.add (fx.mul f2)).mono (by omega)
/-- a valid number is 0 just if it has no limbs above -/
theorem ok_zero {q : Q3} (hw : Wf q.num) (h : okQ q = true) : (q.num.length = 0) ↔ q.rat = 0 := by
  unfold okQ validB isB at h
  simp only [Bool.and_eq_true, decide_eq_true_eq, beq_iff_eq] at h
  obtain ⟨_, ⟨h1, h2⟩, _⟩ := h
  constructor
  · intro e
    have : q.num = [] := List.eq_nil_of_length_eq_zero e
    rw [this] at h2
    have h3 : q.rat.num.natAbs = 0 := by simpa [val] using h2.symm
    rw [← Rat.num_eq_zero]
    omega
  · intro e
    rw [e] at h2
    have h3 : val q.num = 0 := by simpa using h2
    have h4 := (val_zero hw).1 h3
    omega
/-- the loop's Boolean -/
def noughtQ (qs : List Q3) : Bool := qs.all fun q => q.num.length == 0
theorem noughtQ_next {qs : List Q3} {k : Nat} {q : Q3} (h : qs[k]? = some q) : noughtQ (qs.take (k + 1)) = (noughtQ (qs.take k) && (q.num.length == 0)) := by
  unfold noughtQ
  rw [take_nextL h, List.all_append]
  simp
theorem noughtQ_dot {qs : List Q3} (hw : WfQs qs) (ok : ∀ q ∈ qs, okQ q = true) : noughtQ qs = (sgR (dotN (qs.map Q3.rat) (qs.map Q3.rat) qs.length) == 0) := by
  rw [Bool.eq_iff_iff, beq_iff_eq, sgR_zero, dotN_self_zero]
  unfold noughtQ
  rw [List.all_eq_true]
  constructor
  · intro h i hi
    have e : qs[i]? = some qs[i] := List.getElem?_eq_getElem hi
    rw [getD_someL (l := qs.map Q3.rat) (x := qs[i].rat) (by rw [List.getElem?_map, e]; rfl)]
    have hm := List.getElem_mem hi
    exact (ok_zero (hw _ hm).1 (ok _ hm)).1 (by simpa using h _ hm)
  · intro h q hq
    obtain ⟨i, hi, rfl⟩ := List.mem_iff_getElem.1 hq
    have e : qs[i]? = some qs[i] := List.getElem?_eq_getElem hi
    have h2 := h i hi
    rw [getD_someL (l := qs.map Q3.rat) (x := qs[i].rat) (by rw [List.getElem?_map, e]; rfl)] at h2
    simpa using (ok_zero (hw _ hq).1 (ok _ hq)).2 h2
/-- Same, of any two numbers -/
theorem sameQR_any {n : Nat} {w : World} {u v : Value} {X Y : Rat} (hu : ArgQ w u X n) (hv : ArgQ w v Y n) (hn : n ≤ 16777000) :
    Calls Tryz.prog 39 #[u, v] w fun e w' => e = .returned (.bool (decide (X = Y))) ∧ Below w.heap.size w w' := by
  obtain ⟨m1, xs, ds, f1, f2, j1, j2, rfl⟩ := hu.box
  obtain ⟨m2, zs, es, g1, g2, i1, i2, rfl⟩ := hv.box
  exact sameR_any hu hv hn
/-- a row of answered numbers, as it is handed in again -/
theorem rowQ_raw {base m n cb : Nat} {w : World} {b : Option Addr} {L : List Rat} (h : RowO base 44 (fun W v x => ResQ base W v x m) w (.slice b n cb) L) :
    ∃ qs : List Q3, n = L.length ∧ RowA RawQ w (.slice b qs.length cb) qs b cb ∧ (b = none → cb = 0) ∧ qs.map Q3.rat = L ∧ lensQ qs m ∧ ∀ q ∈ qs, okQ q = true := by
  have hn := h.at_.1
  subst hn
  have hS : ResS base w (.slice none ([] : List Int).length 0) [] := ⟨World.ownsRow_nil w base 3 1, Wid.nil⟩
  have hT : ResT base w (.agg #[.slice none ([] : List Int).length 0, .slice b L.length cb]) [] L m := ⟨none, b, 0, cb, rfl, hS, h⟩
  obtain ⟨qs, a', b', ca', cb', T, h1, h2, h3⟩ := hT.tens
  have e := T.is
  simp only [Value.agg.injEq, Array.mk.injEq, List.cons.injEq, and_true, Value.slice.injEq] at e
  obtain ⟨_, rfl, _, rfl⟩ := e
  exact ⟨qs, rfl, T.el, T.nilb, h1, h2, h3⟩
end Go.Proofs.YtnhfjacifajdlaaGreat
