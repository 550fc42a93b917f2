/-
  Layer 8's laws: the functions of point at answers that are handed in again. (Made by wip/gen/gen_pkit.py.)
-/
import Derived.Test.YtjcacmnmbbnffaaGreatPLaw0
namespace Go.Proofs.YtjcacmnmbbnffaaGreat
open Go.RowKit
set_option linter.unusedVariables false
set_option linter.unusedSimpArgs false

/-- a shape that may be, of k elements -/
def OkShape (s : List Int) (k : Nat) : Prop := mayC s = 0 ∧ (k : Int) = countS s ∧ s.length ≤ 4
theorem OkShape.may {s : List Int} {k : Nat} {qs : List Q3} (h : OkShape s k) (hk : qs.length = k) (hok : ∀ q ∈ qs, okQ q = true) : mayT s qs = 0 := mayT_ok h.1 (by rw [hk]; exact h.2.1) hok
theorem okShape_of {s : List Int} {qs : List Q3} (h : mayT s qs = 0) : OkShape s qs.length := by
  have h1 := mayT_rank h
  refine ⟨h1, (mayT_valid h).1, ?_⟩
  unfold mayC at h1
  split at h1
  · cases h1
  · omega
theorem zipQ_eq {f : Rat → Rat → Rat} {q1 q2 : List Q3} {L1 L2 : List Rat} (h1 : q1.map Q3.rat = L1) (h2 : q2.map Q3.rat = L2) : zipQ f q1 q2 = List.zipWith f L1 L2 := by
  subst h1
  subst h2
  unfold zipQ
  rw [List.zipWith_map]
theorem zipOk_eq {ok : Rat → Rat → Bool} {q1 q2 : List Q3} {L1 L2 : List Rat} (h1 : q1.map Q3.rat = L1) (h2 : q2.map Q3.rat = L2) : zipOk ok q1 q2 = (List.zipWith ok L1 L2).all id := by
  subst h1
  subst h2
  unfold zipOk
  rw [List.zipWith_map]
theorem zipOk_true {q1 q2 : List Q3} : zipOk (fun _ _ => true) q1 q2 = true := by
  unfold zipOk
  rw [List.all_eq_true]
  intro x hx
  obtain ⟨i, hi, rfl⟩ := List.mem_iff_getElem.1 hx
  simp
theorem mapQ_eq {f : Rat → Rat} {qs : List Q3} {L : List Rat} (h : qs.map Q3.rat = L) : (qs.map fun q => f q.rat) = L.map f := by
  subst h
  rw [List.map_map]; rfl
/-- the ending of an operation that must succeed -/
def Good (base : Nat) (w' : World) (e : Ending) (s : List Int) (L : List Rat) (N : Nat) : Prop :=
  ∃ (a b : Option Addr) (ca cb : Nat), e = .returned (.tuple #[.agg #[.slice a s.length ca, .slice b L.length cb], .int .i64 0]) ∧ ResT base w' (.agg #[.slice a s.length ca, .slice b L.length cb]) s L N
theorem One.good {base N : Nat} {w : World} {e : Ending} {c : Int} {s : List Int} {L L' : List Rat} (h : One base w e c s L N) (h0 : c = 0) (hL : L = L') : Good base w e s L' N := by
  subst hL
  subst h0
  rcases h with ⟨_, r, rfl, hT⟩ | ⟨h, _⟩
  · obtain ⟨a, b, ca, cb, rfl, _⟩ := id hT
    exact ⟨a, b, ca, cb, rfl, hT⟩
  · exact absurd rfl h
theorem two_zero {s : List Int} {q1 q2 : List Q3} {ok : Bool} (h1 : mayT s q1 = 0) (h2 : mayT s q2 = 0) (h : ok = true) : twoC (dotC s s q1 q2) ok = 0 := by
  unfold twoC dotC
  simp [h1, h2, h]
theorem two_bad {s : List Int} {q1 q2 : List Q3} {ok : Bool} (h1 : mayT s q1 = 0) (h2 : mayT s q2 = 0) (h : ok = false) : twoC (dotC s s q1 q2) ok = 17 := by
  unfold twoC dotC
  simp [h1, h2, h]
theorem addK {b1 b2 n : Nat} {w : World} {u v : Value} {s : List Int} {L1 L2 : List Rat} (h1 : ResT b1 w u s L1 n) (h2 : ResT b2 w v s L2 n) (hs : OkShape s L1.length) (hl : L2.length = L1.length) (hL : L1.length ≤ 1000000) (hn : n ≤ 1000000) :
    Calls Tryz.prog 13 #[u, v] w fun e w' => Good w.heap.size w' e s (List.zipWith (fun x y => x + y) L1 L2) (2 * n + 10) ∧ Below w.heap.size w w' := by
  obtain ⟨q1, a1, c1, ca1, cc1, T1, e1, l1, k1⟩ := h1.tens
  obtain ⟨q2, a2, c2, ca2, cc2, T2, e2, l2, k2⟩ := h2.tens
  have g1 : q1.length = L1.length := by rw [← e1]; simp
  have g2 : q2.length = L1.length := by rw [← hl, ← e2]; simp
  have m1 := hs.may g1 k1
  have m2 := hs.may g2 k2
  have hs4 := hs.2.2
  exact (addP_any T1 T2 (by omega) (by omega) (by omega) (by omega) l1 l2 hn).mono fun e w' ⟨h, hb⟩ => ⟨h.good (two_zero m1 m2 zipOk_true) (zipQ_eq e1 e2), hb⟩
theorem subK {b1 b2 n : Nat} {w : World} {u v : Value} {s : List Int} {L1 L2 : List Rat} (h1 : ResT b1 w u s L1 n) (h2 : ResT b2 w v s L2 n) (hs : OkShape s L1.length) (hl : L2.length = L1.length) (hL : L1.length ≤ 1000000) (hn : n ≤ 1000000) :
    Calls Tryz.prog 14 #[u, v] w fun e w' => Good w.heap.size w' e s (List.zipWith (fun x y => x - y) L1 L2) (2 * n + 10) ∧ Below w.heap.size w w' := by
  obtain ⟨q1, a1, c1, ca1, cc1, T1, e1, l1, k1⟩ := h1.tens
  obtain ⟨q2, a2, c2, ca2, cc2, T2, e2, l2, k2⟩ := h2.tens
  have g1 : q1.length = L1.length := by rw [← e1]; simp
  have g2 : q2.length = L1.length := by rw [← hl, ← e2]; simp
  have m1 := hs.may g1 k1
  have m2 := hs.may g2 k2
  have hs4 := hs.2.2
  exact (subP_any T1 T2 (by omega) (by omega) (by omega) (by omega) l1 l2 hn).mono fun e w' ⟨h, hb⟩ => ⟨h.good (two_zero m1 m2 zipOk_true) (zipQ_eq e1 e2), hb⟩
theorem mulK {b1 b2 n : Nat} {w : World} {u v : Value} {s : List Int} {L1 L2 : List Rat} (h1 : ResT b1 w u s L1 n) (h2 : ResT b2 w v s L2 n) (hs : OkShape s L1.length) (hl : L2.length = L1.length) (hL : L1.length ≤ 1000000) (hn : n ≤ 1000000) :
    Calls Tryz.prog 20 #[u, v] w fun e w' => Good w.heap.size w' e s (List.zipWith (fun x y => x * y) L1 L2) (2 * n + 4) ∧ Below w.heap.size w w' := by
  obtain ⟨q1, a1, c1, ca1, cc1, T1, e1, l1, k1⟩ := h1.tens
  obtain ⟨q2, a2, c2, ca2, cc2, T2, e2, l2, k2⟩ := h2.tens
  have g1 : q1.length = L1.length := by rw [← e1]; simp
  have g2 : q2.length = L1.length := by rw [← hl, ← e2]; simp
  have m1 := hs.may g1 k1
  have m2 := hs.may g2 k2
  have hs4 := hs.2.2
  exact (mulP_any T1 T2 (by omega) (by omega) (by omega) (by omega) l1 l2 hn).mono fun e w' ⟨h, hb⟩ => ⟨h.good (two_zero m1 m2 zipOk_true) (zipQ_eq e1 e2), hb⟩
theorem divK {b1 b2 n : Nat} {w : World} {u v : Value} {s : List Int} {L1 L2 : List Rat} (h1 : ResT b1 w u s L1 n) (h2 : ResT b2 w v s L2 n) (hs : OkShape s L1.length) (hl : L2.length = L1.length) (hL : L1.length ≤ 1000000) (hn : n ≤ 1000000) (hz : ∀ y ∈ L2, y ≠ 0) :
    Calls Tryz.prog 21 #[u, v] w fun e w' => Good w.heap.size w' e s (List.zipWith (fun x y => x / y) L1 L2) (2 * n + 4) ∧ Below w.heap.size w w' := by
  obtain ⟨q1, a1, c1, ca1, cc1, T1, e1, l1, k1⟩ := h1.tens
  obtain ⟨q2, a2, c2, ca2, cc2, T2, e2, l2, k2⟩ := h2.tens
  have g1 : q1.length = L1.length := by rw [← e1]; simp
  have g2 : q2.length = L1.length := by rw [← hl, ← e2]; simp
  have m1 := hs.may g1 k1
  have m2 := hs.may g2 k2
  have hs4 := hs.2.2
  have hok : zipOk (fun _ y => decide (y ≠ 0)) q1 q2 = true := by
    rw [zipOk_eq e1 e2, List.all_eq_true]
    intro x hx
    obtain ⟨i, hi, rfl⟩ := List.mem_iff_getElem.1 hx
    simp only [List.length_zipWith] at hi
    have := hz L2[i] (List.getElem_mem _)
    simp [this]
  exact (divP_any T1 T2 (by omega) (by omega) (by omega) (by omega) l1 l2 hn).mono fun e w' ⟨h, hb⟩ => ⟨h.good (two_zero m1 m2 hok) (zipQ_eq e1 e2), hb⟩
theorem divK_zero {b1 b2 n : Nat} {w : World} {u v : Value} {s : List Int} {L1 L2 : List Rat} (h1 : ResT b1 w u s L1 n) (h2 : ResT b2 w v s L2 n) (hs : OkShape s L1.length) (hl : L2.length = L1.length) (hL : L1.length ≤ 1000000) (hn : n ≤ 1000000) (hz : (0 : Rat) ∈ L2) :
    Calls Tryz.prog 21 #[u, v] w fun e w' => e = .returned (.tuple #[.agg #[.slice none 0 0, .slice none 0 0], .int .i64 17]) ∧ Below w.heap.size w w' := by
  obtain ⟨q1, a1, c1, ca1, cc1, T1, e1, l1, k1⟩ := h1.tens
  obtain ⟨q2, a2, c2, ca2, cc2, T2, e2, l2, k2⟩ := h2.tens
  have g1 : q1.length = L1.length := by rw [← e1]; simp
  have g2 : q2.length = L1.length := by rw [← hl, ← e2]; simp
  have m1 := hs.may g1 k1
  have m2 := hs.may g2 k2
  have hs4 := hs.2.2
  have hok : zipOk (fun _ y => decide (y ≠ 0)) q1 q2 = false := by
    obtain ⟨i, hi, h0⟩ := List.mem_iff_getElem.1 hz
    have j1 : i < q1.length := by omega
    have j2 : i < q2.length := by omega
    refine zipOk_bad (k := i) j1 (by omega) ?_
    have hq : q2[i].rat = 0 := by
      have h : (q2.map Q3.rat)[i]? = some 0 := by rw [e2, List.getElem?_eq_getElem hi, h0]
      rw [List.getElem?_map, List.getElem?_eq_getElem j2] at h
      simpa using h
    rw [List.getElem?_eq_getElem j2]
    simp [hq]
  refine (divP_any T1 T2 (by omega) (by omega) (by omega) (by omega) l1 l2 hn).mono fun e w' ⟨h, hb⟩ => ⟨?_, hb⟩
  rw [two_bad m1 m2 hok] at h
  rcases h with ⟨h, _⟩ | ⟨_, h⟩
  · cases h
  · exact h
theorem negK {b1 n : Nat} {w : World} {u : Value} {s : List Int} {L1 : List Rat} (h1 : ResT b1 w u s L1 n) (hs : OkShape s L1.length) (hL : L1.length ≤ 1000000) (hn : n ≤ 100000) :
    Calls Tryz.prog 24 #[u] w fun e w' => Good w.heap.size w' e s (L1.map (fun x => -x)) (n + 2) ∧ Below w.heap.size w w' := by
  obtain ⟨q1, a1, c1, ca1, cc1, T1, e1, l1, k1⟩ := h1.tens
  have g1 : q1.length = L1.length := by rw [← e1]; simp
  have m1 := hs.may g1 k1
  have hs4 := hs.2.2
  exact (negP_any T1 (by omega) (by omega) l1 (by omega)).mono fun e w' ⟨h, hb⟩ => ⟨h.good m1 (mapQ_eq (f := fun x => -x) e1), hb⟩
theorem reluK {b1 n : Nat} {w : World} {u : Value} {s : List Int} {L1 : List Rat} (h1 : ResT b1 w u s L1 n) (hs : OkShape s L1.length) (hL : L1.length ≤ 1000000) (hn : n ≤ 100000) :
    Calls Tryz.prog 25 #[u] w fun e w' => Good w.heap.size w' e s (L1.map (reluR)) (n + 2) ∧ Below w.heap.size w w' := by
  obtain ⟨q1, a1, c1, ca1, cc1, T1, e1, l1, k1⟩ := h1.tens
  have g1 : q1.length = L1.length := by rw [← e1]; simp
  have m1 := hs.may g1 k1
  have hs4 := hs.2.2
  exact (reluP_any T1 (by omega) (by omega) l1 (by omega)).mono fun e w' ⟨h, hb⟩ => ⟨h.good m1 (mapQ_eq (f := reluR) e1), hb⟩
theorem stepK {b1 n : Nat} {w : World} {u : Value} {s : List Int} {L1 : List Rat} (h1 : ResT b1 w u s L1 n) (hs : OkShape s L1.length) (hL : L1.length ≤ 1000000) (hn : n ≤ 100000) :
    Calls Tryz.prog 26 #[u] w fun e w' => Good w.heap.size w' e s (L1.map (stepR)) (n + 2) ∧ Below w.heap.size w w' := by
  obtain ⟨q1, a1, c1, ca1, cc1, T1, e1, l1, k1⟩ := h1.tens
  have g1 : q1.length = L1.length := by rw [← e1]; simp
  have m1 := hs.may g1 k1
  have hs4 := hs.2.2
  exact (stepP_any T1 (by omega) (by omega) l1 (by omega)).mono fun e w' ⟨h, hb⟩ => ⟨h.good m1 (mapQ_eq (f := stepR) e1), hb⟩
theorem powK {b1 n : Nat} {w : World} {u : Value} {s : List Int} {L1 : List Rat} (h1 : ResT b1 w u s L1 n) (hs : OkShape s L1.length) (hL : L1.length ≤ 1000000) (hn : n ≤ 100000) (E : Nat) (hE : E ≤ 16) :
    Calls Tryz.prog 32 #[u, .int .i64 (E : Int)] w fun e w' => Good w.heap.size w' e s (L1.map fun x => x ^ E) (16 * n + 40) ∧ Below w.heap.size w w' := by
  obtain ⟨q1, a1, c1, ca1, cc1, T1, e1, l1, k1⟩ := h1.tens
  have g1 : q1.length = L1.length := by rw [← e1]; simp
  have m1 := hs.may g1 k1
  have hs4 := hs.2.2
  have hp : powT s q1 (E : Int) = 0 := by unfold powT powC; rw [if_neg (by simp [m1]), if_neg (by omega)]
  refine (powP_any (k := (E : Int)) T1 (by omega) (by omega) l1 hn).mono fun e w' ⟨h, hb⟩ => ⟨h.good hp ?_, hb⟩
  simp only [Int.toNat_natCast]
  exact mapQ_eq (f := fun x => x ^ E) e1
theorem lit_cells (w : World) (t : TypeId) (xs : List Int) : ∀ k, k < xs.length → (w.alloc (.cells (xs.map (Value.int .i64)).toArray t)).cell? ⟨w.heap.size, k, none⟩ = some (.int .i64 (xs.getD k 0)) := fun k hk => by
  rw [cell_of_row _ _ k _ t (0, 0) (heap_alloc_new w _)]
  simp [hk]
end Go.Proofs.YtjcacmnmbbnffaaGreat
