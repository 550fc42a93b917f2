/-
  Package tensor as it landed: all its contracts, under the names that the laws use.
-/
import Derived.Test.YtnhfjacifajdlaaGreatTCode11
namespace Go.Proofs.YtnhfjacifajdlaaGreat
open Go.RowKit
set_option linter.unusedVariables false
set_option linter.unusedSimpArgs false

theorem dotT7_any {n B : Nat} {w : World} {u v : Value} {s1 s2 : List Int} {q1 q2 : List Q3} {a1 b1 a2 b2 : Option Addr} {ca1 cb1 ca2 cb2 : Nat} (T1 : TensQ w u s1 q1 a1 ca1 b1 cb1) (T2 : TensQ w v s2 q2 a2 ca2 b2 cb2) (hs1 : s1.length ≤ 1048576) (hs2 : s2.length ≤ 1048576) (hq1 : q1.length ≤ 1048576) (hq2 : q2.length ≤ 1048576) (hl1 : lensQ q1 n) (hl2 : lensQ q2 n) (hn : n ≤ 4000000)
    (hfit : dotC s1 s2 q1 q2 = 0 → ∀ k, k ≤ q1.length → FitQ (dotN (q1.map Q3.rat) (q2.map Q3.rat) k) B) (hB : B ≤ 100000000) :
    Calls Tryz.prog 35 #[u, v] w fun e w' => ∃ r, e = .returned (.tuple #[r, .int .i64 (dotC s1 s2 q1 q2)]) ∧ (dotC s1 s2 q1 q2 = 0 → ResQ w.heap.size w' r (dotN (q1.map Q3.rat) (q2.map Q3.rat) q1.length) (B / 32 + 1)) ∧ (dotC s1 s2 q1 q2 ≠ 0 → r = noRat) ∧ Below w.heap.size w w' := by
  by_cases h : dotC s1 s2 q1 q2 = 0
  · have hf := hfit h
    have h2 := h
    unfold dotC at h2
    by_cases m1 : mayT s1 q1 = 0
    · by_cases m2 : mayT s2 q2 = 0
      · by_cases hs : s1 = s2
        · rw [h]
          refine (dotGood_any T1 T2 hs1 hs2 hq1 hq2 hl1 hl2 hn m1 m2 hs hf hB).mono ?_
          rintro e w' ⟨r, rfl, hr, hb⟩
          exact ⟨r, rfl, fun _ => hr, fun h => absurd rfl h, hb⟩
        · rw [if_neg (by simp [m1]), if_neg (by simp [m2]), if_pos hs] at h2
          cases h2
      · rw [if_neg (by simp [m1]), if_pos m2] at h2
        exact absurd h2 m2
    · rw [if_pos m1] at h2
      exact absurd h2 m1
  · refine (dotBad_any (B0 := B) T1 T2 hs1 hs2 hq1 hq2 hl1 hl2 hn h).mono ?_
    rintro e w' ⟨r, rfl, hr, hb⟩
    exact ⟨r, rfl, fun h2 => absurd h2 h, fun _ => hr, hb⟩
end Go.Proofs.YtnhfjacifajdlaaGreat
