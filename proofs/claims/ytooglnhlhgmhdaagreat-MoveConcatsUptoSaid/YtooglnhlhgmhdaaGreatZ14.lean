/-
  slices.Backward over numbers: its contract. (As XBack has it for limbs.)
-/
import Derived.Test.YtooglnhlhgmhdaaGreatZ1
import Derived.Test.YtooglnhlhgmhdaaGreatZ2
import Derived.Test.YtooglnhlhgmhdaaGreatZ3
import Derived.Test.YtooglnhlhgmhdaaGreatZ4
import Derived.Test.YtooglnhlhgmhdaaGreatZ5
import Derived.Test.YtooglnhlhgmhdaaGreatZ7
import Derived.Test.YtooglnhlhgmhdaaGreatZ8
import Derived.Test.YtooglnhlhgmhdaaGreatZ10
import Derived.Test.YtooglnhlhgmhdaaGreatZ11
import Derived.Test.YtooglnhlhgmhdaaGreatZ12
import Derived.Test.YtooglnhlhgmhdaaGreatZ13
import Derived.WalkKit
import Derived.Test.YtooglnhlhgmhdaaGreatRows
import Derived.BigQuiet
import Derived.Deep.QuietTactic
import Derived.Lib.Hide
import Derived.Lib.Small
import Derived.Lib.Walk
import Derived.Lib.BitFns
import Derived.Maps.AppendAt
import Derived.RangeFuncNested
import Derived.RangeFuncBound
import Derived.RangeFuncCalls
import Derived.RangeFuncLeaves
import Derived.Shelf.Abstract
import Derived.OwnWalkIn
import Derived.TacticsInMore
import Derived.LoopNIn
import Derived.LoopIn
import Derived.RangeFuncBox
import Derived.Deep.RegionHeld3
import Derived.OrdersIn
import Derived.StillTailTactics
import Derived.RangeFuncFrom
import Derived.Laws.EntriesVeiled
import Derived.ProofKit
import Derived.OpenShut
import Derived.JoinedCond
import Derived.Carry
import Derived.Laws.AppendOwnNone
import Derived.Lib.ItoaNum
import Derived.Deep.RegionLaw
import Derived.WalkMore
import Derived.Lib.SmallJoins
import Derived.IntWalk
import Derived.Deep.DeepCutAuto
namespace Go.Proofs.YtooglnhlhgmhdaaGreat
set_option maxRecDepth 100000
section
open Go.RowKit
set_option linter.unusedVariables false
set_option linter.unusedSimpArgs false
set_option maxRecDepth 100000 in
set_option maxHeartbeats 4000000 in
theorem makeR_any {n : Nat} {w : World} {m1 : Bool} {xs ds : List Int} {a1 a2 : Option Addr} {c1 c2 : Nat} (A : ArgD w (.slice a1 xs.length c1) xs a1 c1) (B : ArgD w (.slice a2 ds.length c2) ds a2 c2) (hx : xs.length ≤ n) (hd : ds.length ≤ n) (hn : n ≤ 4294967296) :
    Calls Tryz.prog 106 #[.bool m1, .slice a1 xs.length c1, .slice a2 ds.length c2] w fun e w' => ∃ r, e = .returned r ∧ ArgR w' r (ratOf m1 (valD xs) (valD ds)) (n + 1) ∧ Below w.heap.size w w' := by
  have h0x := val_nonnegD A.wf
  have h0d := val_nonnegD B.wf
  obtain ⟨W, hW⟩ : ∃ W, (w.alloc (.cells #[.bool false, .slice none 0 0, .slice none 0 0] 75)) = W := ⟨_, rfl⟩
  have R0 : Row W (w.heap.size) 75 #[.bool false, .slice none 0 0, .slice none 0 0] := by rw [← hW]; exact (Row.new _ _ _)
  have hBW : Below w.heap.size w W := by rw [← hW]; exact ((Below.refl _ _).alloc (by (try simp) <;> omega) _)
  have hsW : w.heap.size + 1 ≤ W.heap.size := by rw [← hW]; simp
  by_cases z1 : valD xs = 0
  · have d1 := lenD_zero A.wf A.full z1
    have hX : ratOf m1 (valD xs) (valD ds) = 0 := by rw [z1]; exact ratOf_zero_left _ _
    have HX := Lib.hid hX
    have hb2 : Below W.heap.size W (W.alloc (.cells #[.int .i64 1] 3)) := (Below.refl _ _).alloc (Nat.le_refl _) _
    have L := digit_lit (Row.new W 3 #[.int .i64 1]) (by omega)
    have R0' := R0.later hb2
    obtain ⟨u0, u1, u2, g0, g1, g2⟩ := R0'.three
    obtain ⟨p0, p1, p2, p3, p4, p5⟩ := R0.three
    clear hX
    go_enter Tryz.func106, Tryz.ntmps106
    go_wp2_with fail
    refine bodyPost_ret (v := .agg #[.bool false, .slice none 0 0, .slice (some ⟨W.heap.size, 0, none⟩) 1 1]) (by simp [results, Tryz.results106, go_sem, u0, u1, u2]) rfl ⟨_, rfl, ⟨[], [1], none, some ⟨W.heap.size, 0, none⟩, 0, 1, ?_, ?_, ?_, ?_, ?_, by simp, by simp⟩, ?_⟩
    · rw [HX.out]; rfl
    · exact ⟨rfl, .inl rfl, Nat.le_refl _, WfD.nil, rfl⟩
    · exact L.far R0' (noInts3 _ _ _ _ _ _ _) (kept3 _ _ _)
    · rw [HX.out]; rfl
    · rw [HX.out]; rfl
    · exact below_set3 (hBW.trans (hb2.mono (by omega))) (by omega) _ _ _
  by_cases z2 : valD ds = 0
  · have d1 := lenD_pos (show 0 < valD xs by omega)
    have d2 := lenD_zero B.wf B.full z2
    have hX : ratOf m1 (valD xs) (valD ds) = 0 := by rw [z2]; exact ratOf_zero_right _ _
    have HX := Lib.hid hX
    have hb2 : Below W.heap.size W (W.alloc (.cells #[.int .i64 1] 3)) := (Below.refl _ _).alloc (Nat.le_refl _) _
    have L := digit_lit (Row.new W 3 #[.int .i64 1]) (by omega)
    have R0' := R0.later hb2
    obtain ⟨u0, u1, u2, g0, g1, g2⟩ := R0'.three
    obtain ⟨p0, p1, p2, p3, p4, p5⟩ := R0.three
    clear hX
    go_enter Tryz.func106, Tryz.ntmps106
    go_wp2_with fail
    refine bodyPost_ret (v := .agg #[.bool false, .slice none 0 0, .slice (some ⟨W.heap.size, 0, none⟩) 1 1]) (by simp [results, Tryz.results106, go_sem, u0, u1, u2]) rfl ⟨_, rfl, ⟨[], [1], none, some ⟨W.heap.size, 0, none⟩, 0, 1, ?_, ?_, ?_, ?_, ?_, by simp, by simp⟩, ?_⟩
    · rw [HX.out]; rfl
    · exact ⟨rfl, .inl rfl, Nat.le_refl _, WfD.nil, rfl⟩
    · exact L.far R0' (noInts3 _ _ _ _ _ _ _) (kept3 _ _ _)
    · rw [HX.out]; rfl
    · rw [HX.out]; rfl
    · exact below_set3 (hBW.trans (hb2.mono (by omega))) (by omega) _ _ _
  have hpx : 0 < valD xs := by omega
  have hpd : 0 < valD ds := by omega
  have d1 := lenD_pos hpx
  have d2 := lenD_pos hpd
  have A' := A.later hBW
  have B' := B.later hBW
  have e1 := ratOf_neg (n := m1) h0x hpd (fun h => absurd h z1)
  have e2 := ratOf_abs (n := m1) h0x hpd
  have e3 := ratOf_den (n := m1) (A := valD xs) hpd
  have hgp : 0 < (Int.gcd (valD xs) (valD ds) : Int) := gcd_pos hpx
  have E1 := Lib.hid e1
  have E2 := Lib.hid e2
  have E3 := Lib.hid e3
  clear e1 e2 e3 z1 z2
  go_enter Tryz.func106, Tryz.ntmps106
  go_wp2_with fail
  refine (gcdD_any A' B' (by omega) (by omega)).mono ?_
  rintro e w1 ⟨r1, rfl, gs, gd, gc, G, hG, lG, hb1⟩
  have hs1 := hb1.size
  have A1 := A'.later hb1
  have B1 := B'.later hb1
  have hgs : 0 < valD gs := by rw [hG]; exact hgp
  have HG := Lib.hid hG
  have eG := G.is
  subst eG
  clear hG hgp hW
  go_wp2_with fail
  refine (divD_any A1 G (by omega) (by omega) hgs).mono ?_
  rintro e w2 ⟨r2, s2, rfl, hb2, ⟨z2, q2, l2⟩, _⟩
  have hs2 := hb2.size
  obtain ⟨ad2, cp2, rfl, q2, A2⟩ := q2.slice
  have B2 := B1.later hb2
  have G2 := G.later hb2
  go_wp2_with fail
  refine (divD_any B2 G2 (by omega) (by omega) hgs).mono ?_
  rintro e w3 ⟨r3, s3, rfl, hb3, ⟨z3, q3, l3⟩, _⟩
  have hs3 := hb3.size
  obtain ⟨ad3, cp3, rfl, q3, A3⟩ := q3.slice
  have A2' := A2.later hb3
  have P3 := ((R0.later hb1).later hb2).later hb3
  have v2 := q2.eq
  have v3 := q3.eq
  rw [HG.out] at v2 v3
  have V2 := Lib.hid v2
  have V3 := Lib.hid v3
  clear v2 v3 q2 q3
  obtain ⟨u0, u1, u2, g0, g1, g2⟩ := P3.three
  go_wp2_with fail
  refine bodyPost_ret (v := .agg #[.bool m1, .slice ad2 z2.length cp2, .slice ad3 z3.length cp3]) (by simp [results, Tryz.results106, go_sem, u0, u1, u2]) rfl ⟨_, rfl, ⟨z2, z3, ad2, ad3, cp2, cp3, by rw [E1.out], ?_, ?_, ?_, ?_, by omega, by omega⟩, ?_⟩
  · exact A2'.far P3 (noInts3 _ _ _ _ _ _ _) (kept3 _ _ _)
  · exact A3.far P3 (noInts3 _ _ _ _ _ _ _) (kept3 _ _ _)
  · rw [V2.out, E2.out]
  · rw [V3.out, E3.out]
  · exact below_set3 (((hBW.trans (hb1.mono (by omega))).trans (hb2.mono (by omega))).trans (hb3.mono (by omega))) (by omega) _ _ _
set_option maxRecDepth 100000 in
set_option maxHeartbeats 4000000 in
theorem ofR_any {n : Nat} {w : World} {v : Value} {X : Rat} (h : ArgQ w v X n) (hn : n ≤ 134217728) :
    Calls Tryz.prog 79 #[v] w fun e w' => ∃ r, e = .returned r ∧ ArgR w' r X (5 * n + 1) ∧ Below w.heap.size w w' := by
  obtain ⟨m1, xs, ds, a1, a2, c1, c2, rfl, A, B, hX, hx, hd⟩ := h
  obtain ⟨W, hW⟩ : ∃ W, ((w.alloc (.cells #[.bool m1, .slice a1 xs.length c1, .slice a2 ds.length c2] 58)).alloc (.cells #[.bool false, .slice none 0 0, .slice none 0 0] 75)) = W := ⟨_, rfl⟩
  have R0 : Row W (w.heap.size) 58 #[.bool m1, .slice a1 xs.length c1, .slice a2 ds.length c2] := by rw [← hW]; exact ((Row.new _ _ _).alloc _)
  have R1 : Row W (w.heap.size + 1) 75 #[.bool false, .slice none 0 0, .slice none 0 0] := by rw [← hW]; have h := (Row.new (w.alloc (.cells #[.bool m1, .slice a1 xs.length c1, .slice a2 ds.length c2] 58)) 75 #[.bool false, .slice none 0 0, .slice none 0 0]); simp only [World.size_alloc] at h; exact h
  have hBW : Below w.heap.size w W := by rw [← hW]; exact (((Below.refl _ _).alloc (by (try simp) <;> omega) _).alloc (by (try simp) <;> omega) _)
  have hsW : w.heap.size + 1 + 1 ≤ W.heap.size := by rw [← hW]; simp
  have HX := Lib.hid hX
  clear hX
  have mkS : ∀ X, Kept (w.heap.size + 1) W X → X.cell? ⟨w.heap.size, 0, none⟩ = some (.bool m1) ∧ X.cell? ⟨w.heap.size, 1, none⟩ = some (.slice a1 xs.length c1) ∧ X.cell? ⟨w.heap.size, 2, none⟩ = some (.slice a2 ds.length c2) ∧ Kept (w.heap.size + 1) W X := fun X h => ⟨(R0.kept h (by omega)).cell 0, (R0.kept h (by omega)).cell 1, (R0.kept h (by omega)).cell 2, h⟩
  go_enter Tryz.func79, Tryz.ntmps79
  go_wp2_with fail
  clear hW
  go_region_held3 (fun X => X.cell? ⟨w.heap.size, 0, none⟩ = some (.bool m1) ∧ X.cell? ⟨w.heap.size, 1, none⟩ = some (.slice a1 xs.length c1) ∧ X.cell? ⟨w.heap.size, 2, none⟩ = some (.slice a2 ds.length c2) ∧ Kept (w.heap.size + 1) W X)
    (((refine mkS _ ?_; (repeat' (first | exact Kept.refl _ _ | refine Kept.drew ?_ | refine Kept.alloc ?_ _ | refine Kept.set ?_ _ _ | refine Kept.below ?_ (by assumption))))))
    ((first
      | (go_at_call 106; refine (makeR_any (n := 5 * n) (A3.later hb4) A4 (by omega) (by omega) (by omega)).mono ?_; rintro e w5 ⟨r5, rfl, q5, hb5⟩; rw [HV.out] at q5; obtain ⟨fs, gs, f1, f2, j1, j2, e5, _⟩ := id q5; subst e5; have P5 := R1.kept (show Kept (w.heap.size + 1 + 1 + 1) W w5 by (repeat' (first | exact Kept.refl _ _ | refine Kept.drew ?_ | refine Kept.alloc ?_ _ | refine Kept.set ?_ _ _ | refine Kept.below ?_ (by assumption)))) (by omega); obtain ⟨u0, u1, u2, g0, g1, g2⟩ := P5.three)
      | (go_at_call 107; (with_reducible refine (of_any (B.later (Kept.under (show Kept (w.heap.size + 1) W _ by (repeat' (first | exact Kept.refl _ _ | refine Kept.drew ?_ | refine Kept.alloc ?_ _ | refine Kept.set ?_ _ _ | refine Kept.below ?_ (by assumption)))) hBW (by omega) (by omega))) (by omega)).mono ?_); rintro e w4 ⟨r4, rfl, z4, q4, l4, hb4⟩; obtain ⟨ad4, cp4, rfl, q4, A4⟩ := q4.slice; have HV := Lib.hid ((show ratOf m1 (valD z3) (valD z4) = ratOf m1 (val xs) (val ds) by rw [q3.eq, q4.eq]).trans HX.out))
      | (go_at_call 107; (with_reducible refine (of_any (A.later (Kept.under (show Kept (w.heap.size + 1) W _ by (repeat' (first | exact Kept.refl _ _ | refine Kept.drew ?_ | refine Kept.alloc ?_ _ | refine Kept.set ?_ _ _ | refine Kept.below ?_ (by assumption)))) hBW (by omega) (by omega))) (by omega)).mono ?_); rintro e w3 ⟨r3, rfl, z3, q3, l3, hb3⟩; obtain ⟨ad3, cp3, rfl, q3, A3⟩ := q3.slice)))
  have hs5 := hb5.size
  have hk5 := (show Kept (w.heap.size + 1 + 1 + 1) W w5 by (repeat' (first | exact Kept.refl _ _ | refine Kept.drew ?_ | refine Kept.alloc ?_ _ | refine Kept.set ?_ _ _ | refine Kept.below ?_ (by assumption)))).size
  have hK5 := (Kept.under (show Kept (w.heap.size + 1 + 1 + 1) W w5 by (repeat' (first | exact Kept.refl _ _ | refine Kept.drew ?_ | refine Kept.alloc ?_ _ | refine Kept.set ?_ _ _ | refine Kept.below ?_ (by assumption)))) hBW (by omega) (by omega))
  go_wp2_with fail
  refine bodyPost_ret (v := .agg #[.bool (decide (X.num < 0)), .slice f1 fs.length j1, .slice f2 gs.length j2]) (by simp [results, Tryz.results79, go_sem, u0, u1, u2]) rfl ⟨_, rfl, ?_, below_set3 hK5 (by omega) _ _ _⟩
  exact (q5.far P5 (noInts3 _ _ _ _ _ _ _) (kept3 _ _ _))
end
section
open Go.RowKit
set_option linter.unusedVariables false
set_option linter.unusedSimpArgs false
theorem ArgR.box {w : World} {v : Value} {x : Rat} {n : Nat} (h : ArgR w v x n) : ∃ (m : Bool) (zs ys : List Int) (ad bd : Option Addr) (ca cb : Nat), v = .agg #[.bool m, .slice ad zs.length ca, .slice bd ys.length cb] := by
  obtain ⟨zs, ys, ad, bd, ca, cb, rfl, _⟩ := h
  exact ⟨_, zs, ys, ad, bd, ca, cb, rfl⟩
end
section
open Go.RowKit
set_option linter.unusedVariables false
set_option linter.unusedSimpArgs false
set_option maxRecDepth 100000 in
set_option maxHeartbeats 4000000 in
theorem canonical_false {u : Value} {xs : List Int} {a : Option Addr} {capa : Nat} {w : World} (h1 : Arg w u xs a capa) (hx : xs.length ≤ 70368744177664) (hf : ¬ trimN xs xs.length = xs.length) :
    Calls Tryz.prog 118 #[u] w fun e w' => e = .returned (.bool false) ∧ w = w' := by
  obtain ⟨rfl, lx, _, _⟩ := h1
  have hpos : 0 < xs.length := by
    rcases Nat.eq_zero_or_pos xs.length with h | h
    · exact absurd (by rw [h]; rfl) hf
    · exact h
  obtain ⟨m, hm⟩ : ∃ m, xs.length = m + 1 := ⟨xs.length - 1, by omega⟩
  have hz : xs.getD m 0 = 0 := by
    by_cases h : xs.getD m 0 = 0
    · exact h
    · exfalso
      apply hf
      rw [hm]
      show (if xs.getD m 0 = 0 then trimN xs m else m + 1) = m + 1
      rw [if_neg h]
  rcases lx with rfl | ⟨b, off, rfl, hc⟩
  · simp at hpos
  have hj := hc m (by omega)
  rw [hz] at hj
  rw [hm] at hx
  rw [hm]
  have h2 : ((m : Int) + 1 == 0) = false := by simp; omega
  clear hc hz hf hpos hm
  go_enter Tryz.func118, Tryz.ntmps118
  go_wp2
  go_ret
  exact ⟨rfl, rfl⟩
/-- the limbs zs are those of the number N, as it is answered -/
def isB (zs : List Int) (N : Int) : Bool := decide (trimN zs zs.length = zs.length ∧ val zs = N)
theorem sign_zero {a b : Int} (h : sign a b = 0) : a = b := by unfold sign at h; split at h <;> (try split at h) <;> omega
set_option maxRecDepth 100000 in
set_option maxHeartbeats 4000000 in
theorem is_dec {u v : Value} {ds zs : List Int} {a b : Option Addr} {capa capb : Nat} {w : World} (h1 : ArgD w u ds a capa) (h2 : Arg w v zs b capb) (hx : ds.length ≤ 68719476736) (hy : zs.length ≤ 134217728) :
    Calls Tryz.prog 97 #[u, v] w fun e w' => e = .returned (.bool (isB zs (valD ds))) ∧ Below w.heap.size w w' := by
  by_cases hf : trimN zs zs.length = zs.length
  · by_cases hv : val zs = valD ds
    · have e1 : isB zs (valD ds) = true := decide_eq_true ⟨hf, hv⟩
      rw [e1]
      exact is_true h1 h2 hx hy hf hv.symm
    · have e1 : isB zs (valD ds) = false := decide_eq_false (fun h => hv h.2)
      rw [e1]
      have hne : (sign (val zs) (valD ds) == 0) = false := by simp; exact fun h => hv (sign_zero h)
      go_enter Tryz.func97, Tryz.ntmps97
      go_wp2_with fail
      refine (canonical_true h2 (by omega) hf).mono ?_
      rintro e w' ⟨rfl, rfl⟩
      have HF := Lib.hid hf
      clear hf e1
      go_wp2_with fail
      refine (of_any h2 hy).mono ?_
      rintro e w1 ⟨r, rfl, qs, hq, hl, hb⟩
      obtain ⟨ad, cap, A⟩ := hq.arg
      have h1' := h1.later hb
      have hc := cmpD_any A h1' (by omega) hx
      rw [hq.eq] at hc
      obtain ⟨s, hs⟩ : ∃ s, sign (val zs) (valD ds) = s := ⟨_, rfl⟩
      rw [hs] at hc hne
      clear hs hv
      go_wp2_with fail
      refine hc.mono ?_
      rintro e w2 ⟨rfl, hb2⟩
      clear hc
      go_wp2_with fail
      go_ret
      exact ⟨rfl, hb.trans (hb2.mono hb.size)⟩
  · have e1 : isB zs (valD ds) = false := decide_eq_false (fun h => hf h.1)
    rw [e1]
    go_enter Tryz.func97, Tryz.ntmps97
    go_wp2_with fail
    refine (canonical_false h2 (by omega) hf).mono ?_
    rintro e w' ⟨rfl, rfl⟩
    clear hf e1
    go_wp2_with fail
    go_ret
    exact ⟨rfl, Below.refl _ _⟩
/-- a sign and two rows of limbs are the number X in its valid form -/
def validB (m : Bool) (xs ys : List Int) (X : Rat) : Bool := (m == decide (X.num < 0)) && (isB xs (X.num.natAbs : Int) && isB ys (X.den : Int))
set_option maxRecDepth 100000 in
set_option maxHeartbeats 4000000 in
theorem isR_dec {n : Nat} {w : World} {u : Value} {X : Rat} {m2 : Bool} {zs es : List Int} {a3 a4 : Option Addr} {c3 c4 : Nat} (hu : ArgR w u X n) (C : Arg w (.slice a3 zs.length c3) zs a3 c3) (D : Arg w (.slice a4 es.length c4) es a4 c4)
    (hn : n ≤ 1000000000) (hz : zs.length ≤ 134217728) (he : es.length ≤ 134217728) :
    Calls Tryz.prog 72 #[u, .agg #[.bool m2, .slice a3 zs.length c3, .slice a4 es.length c4]] w fun e w' => e = .returned (.bool (validB m2 zs es X)) ∧ Below w.heap.size w w' := by
  obtain ⟨xs, ds, a1, a2, c1, c2, rfl, A, B, hX1, hX2, hx, hd⟩ := hu
  obtain ⟨m1, hm1⟩ : ∃ m, decide (X.num < 0) = m := ⟨_, rfl⟩
  have hv : validB m2 zs es X = ((m2 == m1) && (isB zs (valD xs) && isB es (valD ds))) := by unfold validB; rw [hm1, hX1, hX2]
  rw [hm1, hv]
  clear hm1 hv hX1 hX2
  obtain ⟨W, hW⟩ : ∃ W, ((w.alloc (.cells #[.bool m1, .slice a1 xs.length c1, .slice a2 ds.length c2] 75)).alloc (.cells #[.bool m2, .slice a3 zs.length c3, .slice a4 es.length c4] 58)) = W := ⟨_, rfl⟩
  have R0 : Row W (w.heap.size) 75 #[.bool m1, .slice a1 xs.length c1, .slice a2 ds.length c2] := by rw [← hW]; exact ((Row.new _ _ _).alloc _)
  have R1 : Row W (w.heap.size + 1) 58 #[.bool m2, .slice a3 zs.length c3, .slice a4 es.length c4] := by rw [← hW]; have h := (Row.new (w.alloc (.cells #[.bool m1, .slice a1 xs.length c1, .slice a2 ds.length c2] 75)) 58 #[.bool m2, .slice a3 zs.length c3, .slice a4 es.length c4]); simp only [World.size_alloc] at h; exact h
  have hBW : Below w.heap.size w W := by rw [← hW]; exact (((Below.refl _ _).alloc (by (try simp) <;> omega) _).alloc (by (try simp) <;> omega) _)
  have hsW : w.heap.size + 1 + 1 ≤ W.heap.size := by rw [← hW]; simp
  have i1 := is_dec (A.later hBW) (C.later hBW) (by omega) hz
  have D1 := D.later hBW
  have B1 := B.later hBW
  obtain ⟨p0, p1, p2, _, _, _⟩ := R0.three
  obtain ⟨o0, o1, o2, _, _, _⟩ := R1.three
  obtain ⟨b1, hb1⟩ : ∃ b, isB zs (valD xs) = b := ⟨_, rfl⟩
  obtain ⟨b2, hb2⟩ : ∃ b, isB es (valD ds) = b := ⟨_, rfl⟩
  rw [hb1] at i1
  rw [hb1, hb2]
  have HB2 := Lib.hid hb2
  clear hb1 hb2
  obtain ⟨b0, hb0⟩ : ∃ b, (m2 == m1) = b := ⟨_, rfl⟩
  rw [hb0]
  cases b0 with
  | false =>
    go_enter Tryz.func72, Tryz.ntmps72
    go_wp2_with fail
    go_ret
    exact ⟨rfl, hBW⟩
  | true =>
    cases b1 with
    | false =>
      go_enter Tryz.func72, Tryz.ntmps72
      go_wp2_with fail
      refine i1.mono ?_
      rintro e w1 ⟨rfl, hb1⟩
      have hs1 := hb1.size
      clear i1
      go_wp2_with fail
      go_ret
      exact ⟨rfl, hBW.trans (hb1.mono (by omega))⟩
    | true =>
      go_enter Tryz.func72, Tryz.ntmps72
      go_wp2_with fail
      refine i1.mono ?_
      rintro e w1 ⟨rfl, hb1⟩
      have hs1 := hb1.size
      have i2 := is_dec (B1.later hb1) (D1.later hb1) (by omega) he
      rw [HB2.out] at i2
      clear i1 p0 p1 p2 o0 o1 o2
      obtain ⟨p0, p1, p2, _, _, _⟩ := (R0.later hb1).three
      obtain ⟨o0, o1, o2, _, _, _⟩ := (R1.later hb1).three
      go_wp2_with fail
      refine i2.mono ?_
      rintro e w2 ⟨rfl, hb2⟩
      clear i2
      go_wp2_with fail
      go_ret
      exact ⟨by cases b2 <;> rfl, (hBW.trans (hb1.mono (by omega))).trans (hb2.mono (by omega))⟩
set_option maxRecDepth 100000 in
set_option maxHeartbeats 4000000 in
theorem mayR_any {n : Nat} {w : World} {m1 : Bool} {xs ds : List Int} {a1 a2 : Option Addr} {c1 c2 : Nat} (A : Arg w (.slice a1 xs.length c1) xs a1 c1) (B : Arg w (.slice a2 ds.length c2) ds a2 c2)
    (hx : xs.length ≤ n) (hd : ds.length ≤ n) (hn : n ≤ 134217728) :
    Calls Tryz.prog 67 #[.agg #[.bool m1, .slice a1 xs.length c1, .slice a2 ds.length c2]] w fun e w' => e = .returned (.int .i64 (if validB m1 xs ds (ratOf m1 (val xs) (val ds)) = true then 0 else 6)) ∧ Below w.heap.size w w' := by
  obtain ⟨X, hX⟩ : ∃ X, ratOf m1 (val xs) (val ds) = X := ⟨_, rfl⟩
  have hq : ArgQ w (.agg #[.bool m1, .slice a1 xs.length c1, .slice a2 ds.length c2]) X n := ⟨m1, xs, ds, a1, a2, c1, c2, rfl, A, B, hX, hx, hd⟩
  rw [hX]
  clear hX
  obtain ⟨W, hW⟩ : ∃ W, (w.alloc (.cells #[.bool m1, .slice a1 xs.length c1, .slice a2 ds.length c2] 58)) = W := ⟨_, rfl⟩
  have R0 : Row W (w.heap.size) 58 #[.bool m1, .slice a1 xs.length c1, .slice a2 ds.length c2] := by rw [← hW]; exact (Row.new _ _ _)
  have hBW : Below w.heap.size w W := by rw [← hW]; exact ((Below.refl _ _).alloc (by (try simp) <;> omega) _)
  have hsW : w.heap.size + 1 ≤ W.heap.size := by rw [← hW]; simp
  obtain ⟨p0, p1, p2, _, _, _⟩ := R0.three
  have hq' := hq.later hBW
  obtain ⟨b, hb⟩ : ∃ b, validB m1 xs ds X = b := ⟨_, rfl⟩
  have HB := Lib.hid hb
  rw [hb]
  clear hb hq
  go_enter Tryz.func67, Tryz.ntmps67
  go_wp2_with fail
  refine (ofR_any hq' hn).mono ?_
  rintro e w1 ⟨r1, rfl, h1, hb1⟩
  have hs1 := hb1.size
  obtain ⟨m4, fs, gs, f1, f2, j1, j2, rfl⟩ := h1.box
  clear p0 p1 p2 hW
  have Q0 := R0.later hb1
  obtain ⟨U, hU⟩ : ∃ U, w1.alloc (.cells #[.bool m4, .slice f1 fs.length j1, .slice f2 gs.length j2] 75) = U := ⟨_, rfl⟩
  have hBU : Below w1.heap.size w1 U := by rw [← hU]; exact (Below.refl _ _).alloc (Nat.le_refl _) _
  have R5 : Row U w1.heap.size 75 #[.bool m4, .slice f1 fs.length j1, .slice f2 gs.length j2] := by rw [← hU]; exact Row.new _ _ _
  have hsU : w1.heap.size + 1 ≤ U.heap.size := by rw [← hU]; simp
  have k := isR_dec (m2 := m1) (h1.later hBU) (((A.later hBW).later hb1).later hBU) (((B.later hBW).later hb1).later hBU) (by omega) (by omega) (by omega)
  rw [HB.out] at k
  obtain ⟨p0, p1, p2, _, _, _⟩ := Q0.three
  obtain ⟨q0, q1, q2, _, _, _⟩ := (Q0.later hBU).three
  obtain ⟨o0, o1, o2, _, _, _⟩ := R5.three
  have hB2 : Below w.heap.size w U := (hBW.trans (hb1.mono (by omega))).trans (hBU.mono (by omega))
  cases b with
  | true =>
    go_wp2_with fail
    (try rw [hU])
    refine k.mono ?_
    rintro e w2 ⟨rfl, hb2⟩
    clear k hU
    go_wp2_with fail
    go_ret
    exact ⟨rfl, hB2.trans (hb2.mono (by omega))⟩
  | false =>
    go_wp2_with fail
    (try rw [hU])
    refine k.mono ?_
    rintro e w2 ⟨rfl, hb2⟩
    clear k hU
    go_wp2_with fail
    go_ret
    exact ⟨rfl, hB2.trans (hb2.mono (by omega))⟩
end
section
open Go.RowKit
set_option linter.unusedVariables false
set_option linter.unusedSimpArgs false
/-- block g has room for cap numbers, of which the first are zs -/
def PartS (w : World) (g cap : Nat) (zs : List Int) : Prop := ∃ cur : Array Value, w.heap[g]? = some (.cells cur 3 (0, 0)) ∧ cur.size = cap ∧ zs.length ≤ cap ∧ cur.toList.take zs.length = zs.map (Value.int .i64)
theorem PartS.cell {w : World} {g cap : Nat} {zs : List Int} (h : PartS w g cap zs) (i : Nat) (hi : i < zs.length) : w.cell? ⟨g, i, none⟩ = some (.int .i64 (zs.getD i 0)) := by
  obtain ⟨cur, hh, hs, hl, ht⟩ := h
  have e : w.cell? ⟨g, i, none⟩ = cur[i]? := cell_of_row w g i _ 3 (0, 0) hh
  rw [e]
  have h1 : (cur.toList.take zs.length)[i]? = cur[i]? := by rw [List.getElem?_take_of_lt hi]; simp
  rw [← h1, ht]
  simp [hi]
theorem PartS.free {w : World} {g cap : Nat} {zs : List Int} (h : PartS w g cap zs) (i : Nat) : w.frozen? ⟨g, i, none⟩ = false := by
  obtain ⟨cur, hh, _⟩ := h
  exact frozen_of_row w g i _ 3 hh
theorem PartS.lt {w : World} {g cap : Nat} {zs : List Int} (h : PartS w g cap zs) : g < w.heap.size := by obtain ⟨cur, hh, _⟩ := h; exact lt_of_block hh
theorem PartS.le {w : World} {g cap : Nat} {zs : List Int} (h : PartS w g cap zs) : zs.length ≤ cap := by obtain ⟨_, _, _, h, _⟩ := h; exact h
theorem PartS.same {w w' : World} {g cap : Nat} {zs : List Int} (h : PartS w g cap zs) (e : w'.heap[g]? = w.heap[g]?) : PartS w' g cap zs := by
  obtain ⟨cur, hh, r⟩ := h
  exact ⟨cur, e.trans hh, r⟩
theorem PartS.later {w w' : World} {g cap : Nat} {zs : List Int} (h : PartS w g cap zs) (k : Below w.heap.size w w') : PartS w' g cap zs := h.same (k.block g h.lt)
theorem PartS.far {w : World} {g cap : Nat} {zs : List Int} (h : PartS w g cap zs) {p : Addr} (hne : g ≠ p.block) (u : Value) : PartS (w.setCell p u) g cap zs := h.same (Below.heap_setCell _ _ _ _ hne)
theorem PartS.set {w : World} {g cap : Nat} {zs : List Int} (h : PartS w g cap zs) (i : Nat) (hi : i < zs.length) (x : Int) : PartS (w.setCell ⟨g, i, none⟩ (.int .i64 x)) g cap (zs.set i x) := by
  obtain ⟨cur, hh, hs, hl, ht⟩ := h
  refine ⟨cur.setIfInBounds i (.int .i64 x), ?_, by simpa using hs, by simpa using hl, ?_⟩
  · have e := heap_setCell_same w g i _ 3 (.int .i64 x) hh
    rw [e]
  · rw [List.length_set, Array.toList_setIfInBounds, List.take_set, ht, List.map_set]
theorem PartS.num {base g cap : Nat} {w : World} {zs : List Int} (h : PartS w g cap zs) (hb : base ≤ g) (hm : cap ≤ maxLen) : NumS base w (.slice (some ⟨g, 0, none⟩) zs.length cap) zs := by
  obtain ⟨cur, hh, hs, hl, ht⟩ := h
  exact ⟨by simp, .inr ⟨g, cap, cur, rfl, hb, hh, hl, hm, by simpa using hs, by simpa using ht⟩⟩
theorem ResS.grown {base : Nat} {w w' : World} {u : Value} {xs : List Int} {row : Option Nat} (h : ResS base w u xs) (k : w.grownBy w' row) (hb : ∀ g, u.ownBlock = some g → some g ≠ row) : ResS base w' u xs := by
  refine ⟨?_, h.wf⟩
  obtain ⟨h1, h2⟩ := h.num
  refine ⟨h1, ?_⟩
  rcases h2 with h2 | ⟨r, cap, cur, rfl, hr, hh, hrest⟩
  · exact .inl h2
  · exact .inr ⟨r, cap, cur, rfl, hr, (k.block r (lt_of_block hh) (hb r rfl)).trans hh, hrest⟩
/-- a slice of slices of numbers, all of the call's own -/
def RowsS (base : Nat) (w : World) (v : Value) (L : List (List Int)) : Prop :=
  ∃ vals : List Value, w.ownsRow base 22 1 v vals.length vals ∧ vals.length = L.length ∧ ∀ i, i < L.length → ∃ u, vals[i]? = some u ∧ ResS base w u (L.getD i [])
theorem RowsS.later {base : Nat} {w w' : World} {v : Value} {L : List (List Int)} (h : RowsS base w v L) (hb : Below w.heap.size w w') : RowsS base w' v L := by
  obtain ⟨vals, h1, h2, h3⟩ := h
  refine ⟨vals, ?_, h2, fun i hi => ?_⟩
  · obtain ⟨m1, m2⟩ := h1
    refine ⟨m1, ?_⟩
    rcases m2 with m2 | ⟨r, cap, cur, rfl, hr, hh, hrest⟩
    · exact .inl m2
    · exact .inr ⟨r, cap, cur, rfl, hr, (hb.block r (lt_of_block hh)).trans hh, hrest⟩
  · obtain ⟨u, e, R⟩ := h3 i hi
    exact ⟨u, e, R.later hb⟩
theorem RowsS.slice {base : Nat} {w : World} {v : Value} {L : List (List Int)} (h : RowsS base w v L) (hn : L ≠ []) : ∃ g cap, v = .slice (some ⟨g, 0, none⟩) L.length cap ∧ base ≤ g ∧ L.length ≤ cap ∧ cap ≤ maxLen ∧
    ∀ i, i < L.length → ∃ u, w.cell? ⟨g, i, none⟩ = some u ∧ ResS base w u (L.getD i []) := by
  obtain ⟨vals, h1, h2, h3⟩ := h
  obtain ⟨m1, m2⟩ := h1
  rcases m2 with ⟨e, h0⟩ | ⟨r, cap, cur, rfl, hr, hh, hc, hm, hs, ht⟩
  · exact absurd (List.eq_nil_of_length_eq_zero (by omega)) hn
  · refine ⟨r, cap, by rw [h2], hr, by omega, hm, fun i hi => ?_⟩
    obtain ⟨u, e, R⟩ := h3 i hi
    refine ⟨u, ?_, R⟩
    have hj := World.ownsRow.cellAt (w := w) (base := base) (e := 22) (size := 1) (g := r) (n := vals.length) (cap := cap) (xs := vals) ⟨m1, .inr ⟨r, cap, cur, rfl, hr, hh, hc, hm, hs, ht⟩⟩ i (by omega)
    rw [hj, e]
theorem RowsS.apart {base : Nat} {w : World} {v u : Value} {vals : List Value} {n : Nat} {xs : List Int} (h : w.ownsRow base 22 1 v n vals) (R : ResS base w u xs) : ∀ g, u.ownBlock = some g → some g ≠ v.ownBlock := by
  intro g hg he
  obtain ⟨_, m2⟩ := h
  obtain ⟨_, r2⟩ := R.num
  rcases r2 with ⟨rfl, _⟩ | ⟨r, cap, cur, rfl, _, hh, _⟩
  · cases hg
  · simp [Value.ownBlock] at hg
    subst hg
    rcases m2 with ⟨rfl, _⟩ | ⟨q, cap2, cur2, rfl, _, hh2, _⟩
    · cases he
    · simp [Value.ownBlock] at he
      subst he
      have := hh.symm.trans hh2
      simp at this
end
section
open Go.RowKit
set_option linter.unusedVariables false
set_option linter.unusedSimpArgs false
def belowB (n m : Int) : Bool := decide (0 ≤ n ∧ n < m)
theorem belowB_yes {n m : Int} (h : 0 ≤ n) (h2 : n < m) : belowB n m = true := decide_eq_true ⟨h, h2⟩
theorem belowB_no {n m : Int} (h : n < 0 ∨ m ≤ n) : belowB n m = false := decide_eq_false (by omega)
set_option maxRecDepth 100000 in
set_option maxHeartbeats 2000000 in
theorem below_any (n m : Int) (w : World) : Calls Tryz.prog 110 #[.int .i64 n, .int .i64 m] w fun e w' => e = .returned (.bool (belowB n m)) ∧ w = w' := by
  obtain ⟨b, hb⟩ : ∃ b, belowB n m = b := ⟨_, rfl⟩
  rw [hb]
  by_cases h0 : 0 ≤ n
  · by_cases h1 : n < m
    · obtain rfl : b = true := by rw [← hb, belowB_yes h0 h1]
      clear hb
      go_enter Tryz.func110, Tryz.ntmps110
      go_wp2
      go_ret
      exact ⟨rfl, rfl⟩
    · obtain rfl : b = false := by rw [← hb, belowB_no (by omega)]
      clear hb
      go_enter Tryz.func110, Tryz.ntmps110
      go_wp2
      go_ret
      exact ⟨rfl, rfl⟩
  · obtain rfl : b = false := by rw [← hb, belowB_no (by omega)]
    clear hb
    go_enter Tryz.func110, Tryz.ntmps110
    go_wp2
    go_ret
    exact ⟨rfl, rfl⟩
/-- what has been counted of the first k dimensions: the product, the error -/
def Cnt (s : List Int) (k : Nat) (n e : Int) : Prop := posS (s.take k) ∧ 1 ≤ n ∧ n ≤ 1024 ∧ (e = 0 ∧ n = prodS (s.take k) ∨ e = 14 ∧ 1024 < prodS (s.take k))
theorem Cnt.nil (s : List Int) : Cnt s 0 1 0 := ⟨(fun x h => by simp at h), by omega, by omega, .inl ⟨rfl, rfl⟩⟩
theorem quo_lt {d n : Int} (h1 : 1 ≤ n) : 1024 / n < d ↔ 1024 < n * d := by
  rw [Int.ediv_lt_iff_lt_mul (by omega), Int.mul_comm]
theorem take_pos {s : List Int} {k : Nat} {d : Int} (h : posS (s.take k)) (hd : s[k]? = some d) (h1 : 1 ≤ d) : posS (s.take (k + 1)) := by
  rw [List.take_add_one, hd, Option.toList_some]
  intro x hx
  rcases List.mem_append.1 hx with h2 | h2
  · exact h x h2
  · rw [List.mem_singleton.1 h2]; exact h1
theorem prod_next {s : List Int} {k : Nat} {d : Int} (hd : s[k]? = some d) : prodS (s.take (k + 1)) = prodS (s.take k) * d := by
  have hk : k < s.length := by
    rcases Nat.lt_or_ge k s.length with g | g
    · exact g
    · rw [List.getElem?_eq_none g] at hd; cases hd
  rw [prodS_take hk, List.getD_eq_getElem?_getD, hd]
  rfl
theorem Cnt.big {s : List Int} {k : Nat} {n e d : Int} (h : Cnt s k n e) (hd : s[k]? = some d) (h1 : 1 ≤ d) (h2 : 1024 / n < d) : Cnt s (k + 1) n 14 := by
  obtain ⟨hp, n1, n2, h3⟩ := h
  refine ⟨take_pos hp hd h1, n1, n2, .inr ⟨rfl, ?_⟩⟩
  rw [prod_next hd]
  rw [quo_lt n1] at h2
  rcases h3 with ⟨_, rfl⟩ | ⟨_, h4⟩
  · exact h2
  · have := Int.mul_le_mul_of_nonneg_left h1 (show 0 ≤ prodS (s.take k) by omega)
    omega
theorem Cnt.next {s : List Int} {k : Nat} {n e d : Int} (h : Cnt s k n e) (hd : s[k]? = some d) (h1 : 1 ≤ d) (h2 : ¬ 1024 / n < d) : Cnt s (k + 1) (n * d) e ∧ 1 ≤ n * d ∧ n * d ≤ 1024 := by
  obtain ⟨hp, n1, n2, h3⟩ := h
  rw [quo_lt n1] at h2
  have h5 : 1 * 1 ≤ n * d := Int.mul_le_mul n1 h1 (by omega) (by omega)
  refine ⟨⟨take_pos hp hd h1, by omega, by omega, ?_⟩, by omega, by omega⟩
  rw [prod_next hd]
  rcases h3 with ⟨h3, rfl⟩ | ⟨h3, h4⟩
  · exact .inl ⟨h3, rfl⟩
  · refine .inr ⟨h3, ?_⟩
    have := Int.mul_le_mul_of_nonneg_left h1 (show 0 ≤ prodS (s.take k) by omega)
    omega
set_option maxRecDepth 100000 in
set_option maxHeartbeats 2000000 in
theorem cnt_any {u : Value} {xs : List Int} {ad : Option Addr} {cap : Nat} {w : World} (A : ArgS w u xs ad cap) :
    Calls Tryz.prog 92 #[u] w fun e w' => e = .returned (.tuple #[.int .i64 (countS xs), .int .i64 (mayC xs)]) ∧ w = w' := by
  have HA := Lib.hid A
  obtain rfl := A.is
  obtain ⟨L, hL⟩ : ∃ L, xs.length = L := ⟨_, rfl⟩
  have HL := Lib.hid hL
  obtain ⟨c, hc⟩ : ∃ c, mayC xs = c := ⟨_, rfl⟩
  have HC := Lib.hid hc
  obtain ⟨t, ht⟩ : ∃ t, countS xs = t := ⟨_, rfl⟩
  have HT := Lib.hid ht
  rw [hL, hc, ht]
  clear A hL hc ht
  by_cases h4 : 4 < L
  · have hm : mayC xs = 14 := mayC_rank (by rw [HL.out]; exact h4)
    obtain rfl : c = 14 := by rw [← HC.out]; exact hm
    obtain rfl : t = 0 := by rw [← HT.out]; exact count_bad (by rw [hm]; decide)
    have h4I : (4 : Int) < (L : Int) := by omega
    clear hm
    go_enter Tryz.func92, Tryz.ntmps92
    go_wp2
    go_step3
    go_wp2
    rw [Exit.noGoto_ret]
    go_ret2
    exact ⟨rfl, rfl⟩
  · have h4I : ¬ (4 : Int) < (L : Int) := by omega
    go_enter Tryz.func92, Tryz.ntmps92
    go_wp2
    go_step3
    go_wp2
    go_step3
    go_wp2
    go_loop [4, 5, 13] (fun n e i => ∃ (k : Nat) (N E : Int), i = .int .i64 (k : Int) ∧ n = .int .i64 N ∧ e = .int .i64 E ∧ k ≤ L ∧ Cnt xs k N E) (fun _ _ i => L - (intOf i).toNat)
    case atStart => exact ⟨0, 1, 0, rfl, rfl, rfl, Nat.zero_le _, Cnt.nil _⟩
    case round =>
      obtain ⟨k, N, E, rfl, rfl, rfl, hkL, hI⟩ := hrel
      obtain ⟨hp, n1, n2, hE⟩ := hI
      by_cases hlt : k < L
      · obtain ⟨b, off, rfl, hc⟩ := HA.out.at (i := k) (by rw [HL.out]; exact hlt)
        have hx : xs[k]? = some (xs.getD k 0) := by rw [List.getD_eq_getElem?_getD, List.getElem?_eq_getElem (by rw [HL.out]; exact hlt)]; rfl
        obtain ⟨x, hxe⟩ : ∃ x, xs.getD k 0 = x := ⟨_, rfl⟩
        rw [hxe] at hc hx
        have HX := Lib.hid hx
        have hltI : (k : Int) < (L : Int) := by omega
        have HI : Hid (Cnt xs k N E) := Lib.hid ⟨hp, n1, n2, hE⟩
        clear hxe hx hp hE
        by_cases h1 : x < 1
        · have hm : mayC xs = 13 := by
            refine mayC_dim (by rw [HL.out]; omega) fun hp => ?_
            have := hp x (List.mem_of_getElem? HX.out)
            omega
          obtain rfl : c = 13 := by rw [← HC.out]; exact hm
          obtain rfl : t = 0 := by rw [← HT.out]; exact count_bad (by rw [hm]; decide)
          clear hm
          go_wp2
          go_ret2
          exact ⟨rfl, rfl⟩
        · by_cases h2 : 1024 / N < x
          · go_wp2
            go_round
            case rel => exact ⟨k + 1, N, 14, by go_num, rfl, rfl, by omega, HI.out.big HX.out (by omega) h2⟩
            case measure => simp [intOf]; omega
          · obtain ⟨hI, m1, m2⟩ := HI.out.next HX.out (by omega) h2
            have hw : wrap64 (N * x) = N * x := by unfold wrap64; omega
            have HJ := Lib.hid hI
            clear hI
            go_wp2
            go_round
            case rel => exact ⟨k + 1, _, E, by go_num, by first | rfl | rw [hw], rfl, by omega, HJ.out⟩
            case measure => simp [intOf]; omega
      · obtain rfl : k = L := by omega
        have hltI : ¬ (k : Int) < (k : Int) := by omega
        rw [List.take_of_length_le (by rw [HL.out]; exact Nat.le_refl _)] at hE hp
        rcases hE with ⟨rfl, hN⟩ | ⟨rfl, hN⟩
        · have ok : OkS xs := ⟨by rw [HL.out]; omega, hp, by omega⟩
          obtain rfl : c = 0 := by rw [← HC.out]; exact mayC_ok ok
          obtain rfl : t = N := by rw [← HT.out, ok.count]; exact hN.symm
          clear hN hp ok
          go_wp2
          go_ret2
          exact ⟨rfl, rfl⟩
        · have hm : mayC xs = 14 := mayC_count (by rw [HL.out]; omega) hp hN
          obtain rfl : c = 14 := by rw [← HC.out]; exact hm
          obtain rfl : t = 0 := by rw [← HT.out]; exact count_bad (by rw [hm]; decide)
          clear hN hp hm
          go_wp2
          go_ret2
          exact ⟨rfl, rfl⟩
set_option maxRecDepth 100000 in
set_option maxHeartbeats 2000000 in
theorem mayS_eq {u : Value} {xs : List Int} {ad : Option Addr} {cap : Nat} {w : World} (A : ArgS w u xs ad cap) :
    Calls Tryz.prog 52 #[u] w fun e w' => e = .returned (.int .i64 (mayC xs)) ∧ w = w' := by
  have h := cnt_any A
  obtain rfl := A.is
  obtain ⟨c, hc⟩ : ∃ c, mayC xs = c := ⟨_, rfl⟩
  obtain ⟨t, ht⟩ : ∃ t, countS xs = t := ⟨_, rfl⟩
  obtain ⟨L, hL⟩ : ∃ L, xs.length = L := ⟨_, rfl⟩
  rw [hc, ht, hL] at h
  rw [hc, hL]
  clear A hc ht hL
  go_enter Tryz.func52, Tryz.ntmps52
  go_wp2_with (go_at_call 92; refine h.mono ?_; rintro e w1 ⟨rfl, rfl⟩)
  go_ret
  exact ⟨rfl, rfl⟩
set_option maxRecDepth 100000 in
set_option maxHeartbeats 2000000 in
theorem countS_eq {u : Value} {xs : List Int} {ad : Option Addr} {cap : Nat} {w : World} (A : ArgS w u xs ad cap) :
    Calls Tryz.prog 93 #[u] w fun e w' => e = .returned (.int .i64 (countS xs)) ∧ w = w' := by
  have h := cnt_any A
  obtain rfl := A.is
  obtain ⟨c, hc⟩ : ∃ c, mayC xs = c := ⟨_, rfl⟩
  obtain ⟨t, ht⟩ : ∃ t, countS xs = t := ⟨_, rfl⟩
  obtain ⟨L, hL⟩ : ∃ L, xs.length = L := ⟨_, rfl⟩
  rw [hc, ht, hL] at h
  rw [ht, hL]
  clear A hc ht hL
  go_enter Tryz.func93, Tryz.ntmps93
  go_wp2_with (go_at_call 92; refine h.mono ?_; rintro e w1 ⟨rfl, rfl⟩)
  go_ret
  exact ⟨rfl, rfl⟩
theorem mayS_any {u : Value} {xs : List Int} {ad : Option Addr} {cap : Nat} {w : World} (A : ArgS w u xs ad cap) (hx : xs.length ≤ 17592186044416) :
    Calls Tryz.prog 52 #[u] w fun e w' => e = .returned (.int .i64 (mayC xs)) ∧ Below w.heap.size w w' :=
  (mayS_eq A).mono fun _ _ ⟨h1, h2⟩ => ⟨h1, h2 ▸ Below.refl _ _⟩
set_option maxRecDepth 100000 in
set_option maxHeartbeats 4000000 in
theorem eqI_any {w : World} {xs ys : List Int} {a b : Option Addr} {c d : Nat} (A : ArgS w (.slice a xs.length c) xs a c) (B : ArgS w (.slice b ys.length d) ys b d) (hx : xs.length ≤ 70368744177664) (hy : ys.length ≤ 70368744177664) :
    Calls Tryz.prog 98 #[.slice a xs.length c, .slice b ys.length d] w fun e w' => e = .returned (.bool (decide (xs = ys))) ∧ Below w.heap.size w w' := by
  by_cases hl : xs.length = ys.length
  case neg =>
    have hne : decide (xs = ys) = false := decide_eq_false (fun h => hl (by rw [h]))
    have hn1 : ((xs.length : Int) != (ys.length : Int)) = true := by simp; omega
    rw [hne]
    clear hl hne
    go_enter Tryz.func98, Tryz.ntmps98
    go_wp2_with fail
    go_ret
    exact ⟨rfl, Below.refl _ _⟩
  obtain ⟨m, hm⟩ : ∃ m, xs.length = m := ⟨_, rfl⟩
  have hm2 : ys.length = m := by omega
  have la := A.lim
  have lb := B.lim
  have hext : (∀ j, j < m → xs.getD j 0 = ys.getD j 0) → xs = ys := by
    intro h
    apply List.ext_getElem (by omega)
    intro i h1 h2
    have := h i (by omega)
    simpa [h1, h2] using this
  have HX := Lib.hid hext
  have hmm : ((m : Int) != (m : Int)) = false := by simp
  have HL1 := Lib.hid hm
  have HL2 := Lib.hid hm2
  rw [hm] at hx ⊢
  rw [hm2]
  clear hl hm hm2 hext A B hy
  go_enter Tryz.func98, Tryz.ntmps98
  go_wp2_with fail
  go_loopw [5, 13] (fun _ i wr => ∃ k : Nat, i = .int .i64 k ∧ k ≤ m ∧ (∀ j, j < k → xs.getD j 0 = ys.getD j 0) ∧ Below w.heap.size w wr) (fun _ i _ => m - (intOf i).toNat)
  case atStart => exact ⟨0, rfl, Nat.zero_le _, fun j hj => by omega, Below.refl _ _⟩
  case round =>
    obtain ⟨k, rfl, hk, hall, hb⟩ := hrel
    have HA := Lib.hid hall
    clear hall
    by_cases hlt : k < m
    · have HK := Lib.hid hlt
      obtain ⟨p, o, rfl, c1⟩ : ∃ p o, a = some ⟨p, o, none⟩ ∧ wr.cell? ⟨p, o + k, none⟩ = some (.int .i64 (xs.getD k 0)) := by
        rcases la.later hb with e | ⟨p, o, e, hc⟩
        · rw [e] at HL1; have := HL1.out; simp at this; omega
        · exact ⟨p, o, e, hc k (by rw [HL1.out]; exact hlt)⟩
      obtain ⟨p2, o2, rfl, c2⟩ : ∃ p o, b = some ⟨p, o, none⟩ ∧ wr.cell? ⟨p, o + k, none⟩ = some (.int .i64 (ys.getD k 0)) := by
        rcases lb.later hb with e | ⟨p, o, e, hc⟩
        · rw [e] at HL2; have := HL2.out; simp at this; omega
        · exact ⟨p, o, e, hc k (by rw [HL2.out]; exact hlt)⟩
      obtain ⟨x, hxk⟩ : ∃ x, xs.getD k 0 = x := ⟨_, rfl⟩
      obtain ⟨y, hyk⟩ : ∃ y, ys.getD k 0 = y := ⟨_, rfl⟩
      rw [hxk] at c1
      rw [hyk] at c2
      have HXK := Lib.hid hxk
      have HYK := Lib.hid hyk
      have hk0 : (0 : Int) ≤ (k : Int) := Int.natCast_nonneg _
      have hk1 : (k : Int) < (m : Int) := by omega
      clear hxk hyk la lb
      by_cases e : x = y
      · have hne : (x != y) = false := by simp [e]
        have fin : ∃ j : Nat, Value.int .i64 ((k : Int) + 1) = .int .i64 j ∧ j ≤ m ∧ (∀ i, i < j → xs.getD i 0 = ys.getD i 0) :=
          ⟨k + 1, by go_num, HK.out, fun i hi => by
            by_cases h : i = k
            · subst h; rw [HXK.out, HYK.out]; exact e
            · exact HA.out i (by omega)⟩
        have FIN := Lib.hid fin
        clear fin e
        go_wp2_with fail
        go_quiet (fail)
        go_wp2_with fail
        go_roundw
        case rel =>
          obtain ⟨j, h1, h2, h3⟩ := FIN.out
          exact ⟨j, h1, h2, h3, ⟨hb.os, hb.tape, hb.output, hb.size, hb.block⟩⟩
        case measure => have := HK.out; simp [intOf]; omega
      · have hne : (x != y) = true := by simp [e]
        have hd : decide (xs = ys) = false := decide_eq_false (fun h => e (by rw [← HXK.out, ← HYK.out, h]))
        have HD := Lib.hid hd
        clear e hd
        go_wp2_with fail
        go_quiet (fail)
        go_wp2_with fail
        go_ret
        exact ⟨by rw [HD.out]; rfl, ⟨hb.os, hb.tape, hb.output, hb.size, hb.block⟩⟩
    · obtain rfl : k = m := by omega
      have hd : decide (xs = ys) = true := decide_eq_true (HX.out HA.out)
      have HD := Lib.hid hd
      clear hd
      go_wp2_with fail
      go_ret
      exact ⟨by rw [HD.out]; rfl, hb⟩
set_option maxRecDepth 100000 in
set_option maxHeartbeats 2000000 in
theorem sameS_any {u v : Value} {xs ys : List Int} {a b : Option Addr} {ca cb : Nat} {w : World} (A : ArgS w u xs a ca) (B : ArgS w v ys b cb) (ha : a = none → ca = 0) (hb : b = none → cb = 0) (hx : xs.length ≤ 17592186044416) (hy : ys.length ≤ 17592186044416) :
    Calls Tryz.prog 73 #[u, v] w fun e w' => e = .returned (.bool (decide (xs = ys))) ∧ Below w.heap.size w w' := by
  obtain rfl := A.is
  obtain rfl := B.is
  have h := eqI_any A B (by omega) (by omega)
  obtain ⟨t, ht⟩ : ∃ t, decide (xs = ys) = t := ⟨_, rfl⟩
  obtain ⟨n, hn⟩ : ∃ n, xs.length = n := ⟨_, rfl⟩
  obtain ⟨m, hm⟩ : ∃ n, ys.length = n := ⟨_, rfl⟩
  rw [ht, hn, hm] at h
  rw [ht, hn, hm]
  clear A B ha hb hx hy ht hn hm
  go_enter Tryz.func73, Tryz.ntmps73
  go_wp2_with (go_at_call 98; refine h.mono ?_; rintro e w1 ⟨rfl, hb⟩)
  go_ret
  exact ⟨rfl, hb⟩
end
section
open Go.RowKit Go.Shelf
attribute [local go_sem] Oper.semAt_some
set_option linter.unusedVariables false
set_option linter.unusedSimpArgs false
theorem wideCallS {n : Nat} {P : Program} {f : FuncId} {args : Array Value} {w : World} {R : Ending → World → Prop} (h : Calls P f args w R) :
    Fence.wide.fn f ∧ (Fence.wide.depth.isSome = true → 1 ≤ n) ∧ CallsIn Fence.wide (n - 1) P f args w R := ⟨trivial, (fun h => by cases h), callsIn_wide.2 h⟩
/-- what a round is handed: the place, the number -/
def numAt (xs : List Int) {n : Nat} (x : Fin n) : Array Value := #[.int .i64 (x.val : Int), .int .i64 (xs[x.val]?.getD 0)]
/-- the last k places, from above -/
def DowntoS {n : Nat} (pre : List (Fin n)) (k : Nat) : Prop := pre.length = k ∧ ∀ i (h : i < pre.length), (pre[i]).val + i + 1 = n
theorem DowntoS.nil {n : Nat} : DowntoS ([] : List (Fin n)) 0 := ⟨rfl, fun i h => by simp at h⟩
theorem DowntoS.snoc {n k : Nat} {pre : List (Fin n)} (h : DowntoS pre k) (x : Fin n) (hx : x.val + k + 1 = n) : DowntoS (pre ++ [x]) (k + 1) := by
  obtain ⟨h1, h2⟩ := h
  refine ⟨by simp [h1], fun i hi => ?_⟩
  by_cases hlt : i < pre.length
  · rw [List.getElem_append_left hlt]; exact h2 i hlt
  · have : i = k := by simp at hi; omega
    subst this
    rw [List.getElem_append_right (by omega)]
    simp [h1, hx]
/-- nothing below G has changed, nor block Bs -/
structure KpS (G Bs : Nat) (W W' : World) : Prop where
  below : Below G W W'
  box : W'.heap[Bs]? = W.heap[Bs]?
theorem KpS.refl (G Bs : Nat) (W : World) : KpS G Bs W W := ⟨Below.refl _ _, rfl⟩
theorem KpS.trans {G Bs : Nat} {A B C : World} (h : KpS G Bs A B) (k : KpS G Bs B C) : KpS G Bs A C := ⟨h.below.trans k.below, k.box.trans h.box⟩
theorem KpS.b {G Bs : Nat} {w : World} (hg : G ≤ w.heap.size) (hn : Bs < w.heap.size) (W : World) (l : Nat) (o o' : Obj) (hl : w.heap.size ≤ l) (h : W.heap[l]? = some o) (h1 : o.isCells = false) (h2 : o.isWalk = false) : KpS G Bs W (W.putObj l o') :=
  ⟨belowK_b hg W l o o' hl h h1 h2, World.putObj_heap_other (by omega)⟩
set_option maxRecDepth 100000 in
set_option maxHeartbeats 2000000 in
theorem backS1_in (n l Bs n₀ : Nat) (ad : Option Addr) (xs : List Int) (cap : Nat) (hm : xs.length ≤ 35184372088832) (hb : xs ≠ [] → ∀ a, ad = some a → a.block < n₀) (J Jx : List (Fin xs.length) → World → Prop)
    (hY : ∀ pre x W, J pre W → pre.length < xs.length → YieldAt Fence.wide (n - 1) Tryz.prog l (numAt xs x) W fun e W' =>
      (e = .returned (.bool true) ∧ J (pre ++ [x]) W' ∧ KpS n₀ Bs W W') ∨ (e = .returned (.bool false) ∧ Jx (pre ++ [x]) W'))
    (W : World) (hBs : W.cell? ⟨Bs, 0, none⟩ = some (.slice ad xs.length cap)) (hl : LimS W ad xs) (h0 : J [] W) :
    CallsIn Fence.wide n Tryz.prog 154 #[.func (.yield l) #[] #[], .pointer (some ⟨Bs, 0, none⟩)] W fun e W' => (∃ v, e = .returned v) ∧
      ((∃ ys, DowntoS ys xs.length ∧ J ys W') ∨ (∃ pre, (∃ k, k ≤ xs.length ∧ DowntoS pre k) ∧ Jx pre W')) := by
  refine callsIn_of_wp Tryz.func154 rfl trivial ?_ rfl
  simp only [Tryz.ntmps154, List.size_toArray, List.length_cons, List.length_nil, Nat.reduceAdd, Nat.reduceSub, Array.replicate_succ, Array.replicate_zero, List.push_toArray, List.append_toArray, List.nil_append, List.cons_append]
  gi_wp2_with fail
  gi_loopw [3] (fun i wr => ∃ (k : Nat) (pre : List (Fin xs.length)), k ≤ xs.length ∧ i = .int .i64 ((xs.length : Int) - 1 - k) ∧ DowntoS pre k ∧ J pre wr ∧ KpS n₀ Bs W wr)
    (fun i _ => (intOf i + 1).toNat)
  case atStart => exact ⟨0, [], Nat.zero_le _, by simp, DowntoS.nil, h0, KpS.refl _ _ _⟩
  case round =>
    obtain ⟨k, pre, hk, rfl, hdn, hJs, hnx⟩ := hrel
    have hBr := (World.cell?_of_block (a := ⟨Bs, 0, none⟩) hnx.box).trans hBs
    by_cases hlt : k < xs.length
    · rcases hl with rfl | ⟨b, off, rfl, hc⟩
      · simp at hlt
      · obtain ⟨j, hj⟩ : ∃ j, j + k + 1 = xs.length := ⟨xs.length - k - 1, by omega⟩
        have hji : ((xs.length : Int) - 1 - k) = (j : Int) := by omega
        rw [hji]
        have hjl : j < xs.length := by omega
        obtain ⟨fn, tmps, assign, body, hy, hR⟩ := hY pre ⟨j, hjl⟩ wr hJs (by rw [hdn.1]; exact hlt)
        simp only [numAt] at hy
        have hcx := (hnx.below.cell (p := ⟨b, off + j, none⟩) (hb (by rintro rfl; simp at hlt) ⟨b, off, none⟩ rfl)).trans (hc j (by omega))
        have ej : xs[j]?.getD 0 = xs[j] := by simp [hjl]
        rw [ej] at hy
        have HJ := Lib.hid hj
        clear hc hj hji ej
        gi_wp2
        refine ⟨(fun h => by cases h), hR.mono ?_⟩
        rintro e W3 (⟨rfl, hJ3, hk3⟩ | ⟨rfl, hJx3⟩)
        · gi_wp2
          go_roundw
          case rel => exact ⟨k + 1, _, by omega, by have := HJ.out; congr 1; omega, hdn.snoc ⟨j, hjl⟩ HJ.out, hJ3, hnx.trans hk3⟩
          case measure => simp [intOf]
        · gi_wp2
          refine bodyPost_ret (results_none rfl _ _ _) rfl ?_
          exact ⟨⟨_, rfl⟩, .inr ⟨_, ⟨k + 1, by omega, hdn.snoc ⟨j, hjl⟩ HJ.out⟩, hJx3⟩⟩
    · obtain rfl : k = xs.length := by omega
      have hji : ((xs.length : Int) - 1 - xs.length) = -1 := by omega
      rw [hji]
      clear hji
      gi_wp2
      go_end0
      exact ⟨⟨_, rfl⟩, .inl ⟨_, hdn, hJs⟩⟩
theorem backI_any (ad : Option Addr) (n cap : Nat) (w : World) :
    Calls Tryz.prog 131 #[.slice ad n cap] w fun e w' => e = .returned (.func (.func 154) #[] #[.pointer (some ⟨w.heap.size, 0, none⟩)]) ∧ w' = w.alloc (.cells #[.slice ad n cap] 23) := by
  go_enter Tryz.func131, Tryz.ntmps131
  go_wp2
  go_ret
  exact ⟨rfl, rfl⟩
theorem backI_stops (n Bs n₀ : Nat) (ad : Option Addr) (xs : List Int) (cap : Nat) (hm : xs.length ≤ 35184372088832) (hb : xs ≠ [] → ∀ a, ad = some a → a.block < n₀) (w : World) (hBs : Bs < w.heap.size)
    (hc : w.cell? ⟨Bs, 0, none⟩ = some (.slice ad xs.length cap)) (hl : LimS w ad xs) :
    SeqStopsK Fence.wide n Tryz.prog 154 #[.pointer (some ⟨Bs, 0, none⟩)] (numAt xs (n := xs.length)) (KpS n₀ Bs) (fun ys => DowntoS ys xs.length) (fun pre => ∃ k, k ≤ xs.length ∧ DowntoS pre k) xs.length w := fun l J Jx W hW _ _ hY h0 =>
  backS1_in n l Bs n₀ ad xs cap hm hb J Jx hY W ((hW.cell (p := ⟨Bs, 0, none⟩) hBs).trans hc) (hl.later hW) h0
theorem blkS_own {β : Type} (g : Nat) (f : β → List Int) : Own (fun s W => BlkS W g (f s)) := fun s X Y row hs hg hrow =>
  hs.grown hg (fun e' => by obtain ⟨o, ho, hc⟩ := hrow g e'.symm; rw [show X.heap[g]? = _ from hs] at ho; cases ho; cases hc)
theorem boxS_far {W : World} {B : Nat} {t : TypeId} {v : Value} (h : Boxed W B t v) {p : Addr} (hne : B ≠ p.block) (u : Value) : Boxed (W.setCell p u) B t v := (Below.heap_setCell _ _ _ _ hne).trans h
theorem ownS_and2 {β : Type} {I J : β → World → Prop} (h : Own I) (k : Own J) : Own (fun s W => I s W ∧ J s W) := fun s X Y row hs hg hr => ⟨h s X Y row hs.1 hg hr, k s X Y row hs.2 hg hr⟩
theorem BlkS.far {w : World} {g : Nat} {zs : List Int} (h : BlkS w g zs) {p : Addr} (hne : g ≠ p.block) (u : Value) : BlkS (w.setCell p u) g zs := h.same (Below.heap_setCell _ _ _ _ hne)
/-- the last k places, from above -/
def downs (L k : Nat) : List Nat := (List.range k).map fun i => L - 1 - i
theorem downs_next (L k : Nat) : downs L (k + 1) = downs L k ++ [L - 1 - k] := by
  unfold downs
  rw [List.range_succ, List.map_append]; rfl
theorem DowntoS.downs {n k : Nat} {pre : List (Fin n)} (h : DowntoS pre k) : pre.map Fin.val = downs n k := by
  obtain ⟨h1, h2⟩ := h
  apply List.ext_getElem
  · simp [Proofs.YtooglnhlhgmhdaaGreat.downs, h1]
  · intro i g1 g2
    have h3 := h2 i (by simpa using g1)
    simp only [List.getElem_map, Proofs.YtooglnhlhgmhdaaGreat.downs, List.getElem_range]
    omega
end
end Go.Proofs.YtooglnhlhgmhdaaGreat
