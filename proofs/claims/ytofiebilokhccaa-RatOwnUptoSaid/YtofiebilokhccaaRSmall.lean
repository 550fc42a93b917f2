/-
  Contracts of the reference: Small of any number of Go's, size; Zero, Int, Make.
-/
import Derived.Test.YtofiebilokhccaaRArg
namespace Go.Proofs.Ytofiebilokhccaa
open Go.RowKit
set_option linter.unusedVariables false
set_option linter.unusedSimpArgs false

set_option maxRecDepth 100000 in
set_option maxHeartbeats 1000000 in
theorem smallL_any (N : Int) (w : World) (hN : 0 ≤ N) (hN2 : N ≤ 9223372036854775807) :
    Calls Try.prog 58 #[.int .i64 N] w fun e w' => ∃ u, e = .returned u ∧ ∃ zs, ResD w.heap.size w' u zs N ∧ zs.length ≤ 5 ∧ Below w.heap.size w w' := by
  obtain ⟨i0, hi, hz0, hz1, hz2⟩ := info_parts infoInt
  go_enter Try.func58, Try.ntmps58
  go_wp2
  go_loopw [0, 3] (fun n s wr => ∃ (m : Int) (ds : List Int) (v : Value), n = .int .i64 m ∧ v = s ∧ 0 ≤ m ∧ m ≤ 9223372036854775807 ∧ ds.length ≤ 5 ∧ NumI w.heap.size wr v ds ∧ WfD ds ∧ valD ds + 10000 ^ ds.length * m = N ∧ (m = 0 → trimN ds ds.length = ds.length) ∧ Below w.heap.size w wr) (fun n _ _ => (intOf n).toNat)
  case atStart => exact ⟨N, [], _, rfl, rfl, hN, hN2, by simp, World.ownsRow_nil _ _ _ _, WfD.nil, by simp [valD], fun _ => rfl, Below.refl _ _⟩
  case round =>
    obtain ⟨m, ds, v, rfl, rfl, hm, hm2, hlen, hown, hwf, hval, hfull, hb⟩ := hrel
    have hsz := hb.size
    have HV := Lib.hid hval
    have HF := Lib.hid hfull
    have HO := Lib.hid hown
    have hrow : wr.ownsRow w.heap.size 3 1 v ds.length (ds.map (Value.int .i64)) := hown
    have h0v := val_nonnegD hwf
    have hle : 10000 ^ ds.length * m ≤ N := by omega
    have hlen4 : 0 < m → ds.length ≤ 4 := by
      intro hp
      rcases Nat.lt_or_ge 4 ds.length with k | k
      · exfalso
        have e5 : ds.length = 5 := by omega
        rw [e5] at hle
        simp at hle
        omega
      · exact k
    clear hval hfull hown hle h0v
    by_cases hpos : 0 < m
    · have hl4 := hlen4 hpos
      clear hlen4
      go_wp2_with (at_builtin; refine wpList_append_own _ rfl _ _ 32 rfl w.heap.size 3 i0 (.int .i64 0) 1 8 Try.underlying32 hi hz0 hz1 hz2 rfl (by decide) _ _ _ rfl (hrow.alloc _) ⟨wr.heap.size, 0, none⟩ 1 1 [.int .i64 (m % 10000)] rfl rfl (cell_one_new _ _ _) (by simp [Value.oneCell']) (by unfold maxLen; omega) (by omega) (by simp; omega) ?_; intro v' w1 hown' hgrow _)
      go_roundw
      case rel =>
        obtain ⟨hn, hbw⟩ := push_num hb hsz HO.out hown' hgrow
        refine ⟨m / 10000, ds ++ [m % 10000], v', rfl, rfl, by omega, by omega, ?_, hn, hwf.snoc (by omega), ?_, fun h0 => full_snoc ds (by omega), hbw⟩
        · rw [List.length_append, List.length_singleton]
          omega
        · rw [valD_snoc, List.length_append, List.length_singleton, Int.pow_succ]
          have h1 := HV.out
          have h2 : m % 10000 + 10000 * (m / 10000) = m := by omega
          generalize m % 10000 = r at *
          generalize m / 10000 = q at *
          generalize (10000 : Int) ^ ds.length = P at *
          grind
      case measure => simp [intOf]; omega
    · have h0 : m = 0 := by omega
      subst h0
      go_wp2
      go_ret
      exact ⟨_, rfl, ds, ⟨HO.out, hwf, (by have h := HF.out; simpa using h), by have := HV.out; simpa using this⟩, hlen, hb⟩

/-- a literal of one digit -/
theorem digit_lit {w : World} {g : Nat} {x : Int} (h : Row w g 3 #[.int .i64 x]) (hx : 0 < x ∧ x < 10000) : ArgD w (.slice (some ⟨g, 0, none⟩) 1 1) [x] (some ⟨g, 0, none⟩) 1 := by
  refine ⟨rfl, .inr ⟨g, 0, rfl, fun i hi => ?_⟩, by simp, WfD.cons (by omega) WfD.nil, ?_⟩
  · obtain rfl : i = 0 := by simpa using hi
    exact h.cell 0
  · show trimN [x] 1 = 1
    unfold trimN
    rw [if_neg (by simp; omega)]

set_option maxHeartbeats 1000000 in
theorem sizeR_any (n : Int) (w : World) (h0 : -9223372036854775808 ≤ n) (h1 : n ≤ 9223372036854775807) :
    Calls Try.prog 62 #[.int .i64 n] w fun e w' => ∃ r, e = .returned r ∧ ∃ zs, ResD w.heap.size w' r zs (n.natAbs : Int) ∧ zs.length ≤ 6 ∧ Below w.heap.size w w' := by
  by_cases hn : n < 0
  · have hd : decide (n < 0) = true := decide_eq_true hn
    obtain ⟨m, hm⟩ : ∃ m : Int, n = -m - 1 := ⟨-n - 1, by omega⟩
    have e1 : ((n.natAbs : Nat) : Int) = m + 1 := by omega
    rw [e1]
    subst hm
    have hs1 : -m - 1 + 1 = -m := by omega
    have hw1 : IntKind.i64.wrap (-m - 1 + 1) = -m := by rw [hs1]; exact IntWalk.i64_in _ (by omega)
    have hw2 : IntKind.i64.wrap (- -m) = m := by rw [Int.neg_neg]; exact IntWalk.i64_in _ (by omega)
    clear e1
    go_enter Try.func62, Try.ntmps62
    go_wp2_with fail
    have key : ∀ q : Int, q = m → Calls Try.prog 58 #[.int .i64 q] w fun e w' => ∃ u, e = .returned u ∧ ∃ zs, ResD w.heap.size w' u zs m ∧ zs.length ≤ 5 ∧ Below w.heap.size w w' := by
      rintro q rfl; exact smallL_any _ _ (by omega) (by omega)
    refine (key _ (by first | rfl | omega | (unfold wrap64; omega))).mono ?_
    rintro e w1 ⟨r1, rfl, z1, q1, n1, hb1⟩
    obtain ⟨ad1, c1, rfl, q1, A1⟩ := q1.slice
    have hb2 : Below w1.heap.size w1 (w1.alloc (.cells #[.int .i64 1] 3)) := (Below.refl _ _).alloc (Nat.le_refl _) _
    have A1' := A1.later hb2
    have L := digit_lit (Row.new w1 3 #[.int .i64 1]) (by omega)
    have hs1' := hb1.size
    clear hw1 hw2 hs1 key
    go_wp2_with fail
    refine (addD_any A1' L (by omega) (by simp)).mono ?_
    rintro e w2 ⟨r2, rfl, z2, q2, n2, hb3⟩
    have hv : valD z2 = m + 1 := by rw [q2.eq, q1.eq]; simp [valD]
    have HV := Lib.hid hv
    have hs2 : w.heap.size ≤ (w1.alloc (.cells #[.int .i64 1] 3)).heap.size := by simp; omega
    simp only [List.length_cons, List.length_nil] at n2
    clear hv
    go_wp2_with fail
    go_ret
    exact ⟨_, rfl, z2, ⟨q2.num.mono hs2, q2.wf, q2.full, HV.out⟩, by omega, (hb1.trans (hb2.mono hs1')).trans (hb3.mono hs2)⟩
  · have hd : decide (n < 0) = false := decide_eq_false hn
    have e1 : ((n.natAbs : Nat) : Int) = n := by omega
    rw [e1]
    clear e1
    go_enter Try.func62, Try.ntmps62
    go_wp2_with fail
    refine (smallL_any n _ (by omega) (by omega)).mono ?_
    rintro e w' ⟨r, rfl, z, q, nz, hb⟩
    go_wp2_with fail
    go_ret
    exact ⟨r, rfl, z, q, by omega, hb⟩
end Go.Proofs.Ytofiebilokhccaa
