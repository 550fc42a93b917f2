/-
  Contracts of package rat: Int.
-/
import Derived.Test.YtofiebilokhccaaRArg
namespace Go.Proofs.Ytofiebilokhccaa
open Go.RowKit
set_option linter.unusedVariables false
set_option linter.unusedSimpArgs false

/-- a whole number -/
def intQ (n : Int) : Rat := ratOf (decide (n < 0)) (n.natAbs : Int) 1
theorem intQ_parts (n : Int) : decide ((intQ n).num < 0) = decide (n < 0) ∧ ((intQ n).num.natAbs : Int) = (n.natAbs : Int) ∧ ((intQ n).den : Int) = 1 := by
  unfold intQ
  have hg : (Int.gcd (n.natAbs : Int) 1 : Int) = 1 := by simp
  refine ⟨ratOf_neg (by omega) (by omega) fun h => decide_eq_false (by omega), ?_, ?_⟩
  · rw [ratOf_abs (by omega) (by omega), hg, Int.ediv_one]
  · rw [ratOf_den (by omega), hg]; rfl
theorem intQ_zero : intQ 0 = 0 := by unfold intQ; exact ratOf_zero_left _ _

set_option maxHeartbeats 1000000 in
theorem int_any (n : Int) (w : World) (h0 : -9223372036854775808 ≤ n) (h1 : n ≤ 9223372036854775807) :
    Calls Try.prog 25 #[.int .i64 n] w fun e w' => ∃ r, e = .returned r ∧ ResQ w.heap.size w' r (intQ n) 2 ∧ Below w.heap.size w w' := by
  obtain ⟨p1, p2, p3⟩ := intQ_parts n
  obtain ⟨d, hd⟩ : ∃ d, decide (n < 0) = d := ⟨_, rfl⟩
  rw [hd] at p1
  have P1 := Lib.hid p1
  have P2 := Lib.hid p2
  have P3 := Lib.hid p3
  clear p1 p2 p3
  have R := Row.new w 25 #[.bool false, .slice none 0 0, .slice none 0 0]
  have hB := (Below.refl w.heap.size w).alloc (Nat.le_refl _) (.cells #[.bool false, .slice none 0 0, .slice none 0 0] 25)
  go_enter Try.func25, Try.ntmps25
  go_wp2_with fail
  refine (size_any n _ h0 h1).mono ?_
  rintro e w1 ⟨r1, z1, rfl, q1, n1, hb1⟩
  obtain ⟨ad1, c1, rfl, q1, A1⟩ := q1.slice
  replace R := R.later hb1
  have hs0 : w.heap.size + 1 ≤ w1.heap.size := by have := hb1.size; simpa using this
  replace hB := hB.trans (hb1.mono (by simp))
  go_wp2_with fail
  refine (ofN_any 1 _ (by omega) (by omega)).mono ?_
  rintro e w2 ⟨r2, z2, rfl, q2, n2, hb2⟩
  obtain ⟨ad2, c2, rfl, q2, A2⟩ := q2.slice
  replace R := R.later hb2
  replace hB := hB.trans (hb2.mono (by omega))
  replace q1 := q1.later hb2
  obtain ⟨c0, c1', c2', f0, f1, f2⟩ := R.three
  go_wp2_with fail
  refine bodyPost_ret (v := .agg #[.bool d, .slice ad1 z1.length c1, .slice ad2 z2.length c2]) (by simp [results, Try.results25, go_sem, c0, c1', c2']) rfl ⟨_, rfl, ?_, below_set3 hB (Nat.le_refl _) _ _ _⟩
  refine ⟨z1, z2, ad1, ad2, c1, c2, by rw [P1.out], ?_, ?_, n1, n2⟩
  · rw [P2.out]
    exact (q1.kept (kept3 _ _ _) (by simp)).mono (by simp)
  · rw [P3.out]
    exact (q2.kept (kept3 _ _ _) (by omega)).mono (by omega)
end Go.Proofs.Ytofiebilokhccaa
