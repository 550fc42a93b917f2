/-
  The reference's rational numbers in new memory: Make, Of; numbers as they came in, in new memory: Own. (Made by wip/gen/gen_trat.py out of layer 3's texts.)
-/
import Derived.Test.YtooglnhlhgmhdaaGreatK1
import Derived.Test.YtooglnhlhgmhdaaGreatK2
import Derived.Test.YtooglnhlhgmhdaaGreatK3
import Derived.Test.YtooglnhlhgmhdaaGreatK4
import Derived.Test.YtooglnhlhgmhdaaGreatK5
import Derived.Test.YtooglnhlhgmhdaaGreatK7
import Derived.Test.YtooglnhlhgmhdaaGreatK8
import Derived.Test.YtooglnhlhgmhdaaGreatK10
import Derived.Test.YtooglnhlhgmhdaaGreatK11
import Derived.Test.YtooglnhlhgmhdaaGreatK12
import Derived.Test.YtooglnhlhgmhdaaGreatK13
import Derived.WalkKit
import Derived.Test.YtooglnhlhgmhdaaGreatRows
import Derived.BigQuiet
import Derived.Deep.QuietTactic
import Derived.Lib.Hide
import Derived.Lib.Small
import Derived.Lib.Walk
import Derived.Lib.BitFns
import Derived.Maps.AppendAt
import Derived.RangeFuncNested
import Derived.RangeFuncBound
import Derived.RangeFuncCalls
import Derived.RangeFuncLeaves
import Derived.Shelf.Abstract
import Derived.OwnWalkIn
import Derived.TacticsInMore
import Derived.LoopNIn
import Derived.LoopIn
import Derived.RangeFuncBox
import Derived.Deep.RegionHeld3
import Derived.OrdersIn
import Derived.StillTailTactics
import Derived.RangeFuncFrom
import Derived.Laws.EntriesVeiled
import Derived.ProofKit
import Derived.OpenShut
import Derived.JoinedCond
import Derived.Carry
import Derived.Laws.AppendOwnNone
import Derived.Lib.ItoaNum
import Derived.Deep.RegionLaw
import Derived.WalkMore
import Derived.Lib.SmallJoins
import Derived.IntWalk
import Derived.Deep.DeepCutAuto
import Derived.Laws.OwnMore
namespace Go.Proofs.YtooglnhlhgmhdaaGreat
set_option maxRecDepth 100000
section
open Go.RowKit
set_option linter.unusedVariables false
set_option linter.unusedSimpArgs false
set_option maxRecDepth 100000 in
set_option maxHeartbeats 4000000 in
theorem makeR_any {n : Nat} {w : World} {m1 : Bool} {xs ds : List Int} {a1 a2 : Option Addr} {c1 c2 : Nat} (A : ArgD w (.slice a1 xs.length c1) xs a1 c1) (B : ArgD w (.slice a2 ds.length c2) ds a2 c2) (hx : xs.length ≤ n) (hd : ds.length ≤ n) (hn : n ≤ 4294967296) :
    Calls Tryz.prog 106 #[.bool m1, .slice a1 xs.length c1, .slice a2 ds.length c2] w fun e w' => ∃ r, e = .returned r ∧ ArgR w' r (ratOf m1 (valD xs) (valD ds)) (n + 1) ∧ Below w.heap.size w w' := by
  have h0x := val_nonnegD A.wf
  have h0d := val_nonnegD B.wf
  obtain ⟨W, hW⟩ : ∃ W, (w.alloc (.cells #[.bool false, .slice none 0 0, .slice none 0 0] 75)) = W := ⟨_, rfl⟩
  have R0 : Row W (w.heap.size) 75 #[.bool false, .slice none 0 0, .slice none 0 0] := by rw [← hW]; exact (Row.new _ _ _)
  have hBW : Below w.heap.size w W := by rw [← hW]; exact ((Below.refl _ _).alloc (by (try simp) <;> omega) _)
  have hsW : w.heap.size + 1 ≤ W.heap.size := by rw [← hW]; simp
  by_cases z1 : valD xs = 0
  · have d1 := lenD_zero A.wf A.full z1
    have hX : ratOf m1 (valD xs) (valD ds) = 0 := by rw [z1]; exact ratOf_zero_left _ _
    have HX := Lib.hid hX
    have hb2 : Below W.heap.size W (W.alloc (.cells #[.int .i64 1] 3)) := (Below.refl _ _).alloc (Nat.le_refl _) _
    have L := digit_lit (Row.new W 3 #[.int .i64 1]) (by omega)
    have R0' := R0.later hb2
    obtain ⟨u0, u1, u2, g0, g1, g2⟩ := R0'.three
    obtain ⟨p0, p1, p2, p3, p4, p5⟩ := R0.three
    clear hX
    go_enter Tryz.func106, Tryz.ntmps106
    go_wp2_with fail
    refine bodyPost_ret (v := .agg #[.bool false, .slice none 0 0, .slice (some ⟨W.heap.size, 0, none⟩) 1 1]) (by simp [results, Tryz.results106, go_sem, u0, u1, u2]) rfl ⟨_, rfl, ⟨[], [1], none, some ⟨W.heap.size, 0, none⟩, 0, 1, ?_, ?_, ?_, ?_, ?_, by simp, by simp⟩, ?_⟩
    · rw [HX.out]; rfl
    · exact ⟨rfl, .inl rfl, Nat.le_refl _, WfD.nil, rfl⟩
    · exact L.far R0' (noInts3 _ _ _ _ _ _ _) (kept3 _ _ _)
    · rw [HX.out]; rfl
    · rw [HX.out]; rfl
    · exact below_set3 (hBW.trans (hb2.mono (by omega))) (by omega) _ _ _
  by_cases z2 : valD ds = 0
  · have d1 := lenD_pos (show 0 < valD xs by omega)
    have d2 := lenD_zero B.wf B.full z2
    have hX : ratOf m1 (valD xs) (valD ds) = 0 := by rw [z2]; exact ratOf_zero_right _ _
    have HX := Lib.hid hX
    have hb2 : Below W.heap.size W (W.alloc (.cells #[.int .i64 1] 3)) := (Below.refl _ _).alloc (Nat.le_refl _) _
    have L := digit_lit (Row.new W 3 #[.int .i64 1]) (by omega)
    have R0' := R0.later hb2
    obtain ⟨u0, u1, u2, g0, g1, g2⟩ := R0'.three
    obtain ⟨p0, p1, p2, p3, p4, p5⟩ := R0.three
    clear hX
    go_enter Tryz.func106, Tryz.ntmps106
    go_wp2_with fail
    refine bodyPost_ret (v := .agg #[.bool false, .slice none 0 0, .slice (some ⟨W.heap.size, 0, none⟩) 1 1]) (by simp [results, Tryz.results106, go_sem, u0, u1, u2]) rfl ⟨_, rfl, ⟨[], [1], none, some ⟨W.heap.size, 0, none⟩, 0, 1, ?_, ?_, ?_, ?_, ?_, by simp, by simp⟩, ?_⟩
    · rw [HX.out]; rfl
    · exact ⟨rfl, .inl rfl, Nat.le_refl _, WfD.nil, rfl⟩
    · exact L.far R0' (noInts3 _ _ _ _ _ _ _) (kept3 _ _ _)
    · rw [HX.out]; rfl
    · rw [HX.out]; rfl
    · exact below_set3 (hBW.trans (hb2.mono (by omega))) (by omega) _ _ _
  have hpx : 0 < valD xs := by omega
  have hpd : 0 < valD ds := by omega
  have d1 := lenD_pos hpx
  have d2 := lenD_pos hpd
  have A' := A.later hBW
  have B' := B.later hBW
  have e1 := ratOf_neg (n := m1) h0x hpd (fun h => absurd h z1)
  have e2 := ratOf_abs (n := m1) h0x hpd
  have e3 := ratOf_den (n := m1) (A := valD xs) hpd
  have hgp : 0 < (Int.gcd (valD xs) (valD ds) : Int) := gcd_pos hpx
  have E1 := Lib.hid e1
  have E2 := Lib.hid e2
  have E3 := Lib.hid e3
  clear e1 e2 e3 z1 z2
  go_enter Tryz.func106, Tryz.ntmps106
  go_wp2_with fail
  refine (gcdD_any A' B' (by omega) (by omega)).mono ?_
  rintro e w1 ⟨r1, rfl, gs, gd, gc, G, hG, lG, hb1⟩
  have hs1 := hb1.size
  have A1 := A'.later hb1
  have B1 := B'.later hb1
  have hgs : 0 < valD gs := by rw [hG]; exact hgp
  have HG := Lib.hid hG
  have eG := G.is
  subst eG
  clear hG hgp hW
  go_wp2_with fail
  refine (divD_any A1 G (by omega) (by omega) hgs).mono ?_
  rintro e w2 ⟨r2, s2, rfl, hb2, ⟨z2, q2, l2⟩, _⟩
  have hs2 := hb2.size
  obtain ⟨ad2, cp2, rfl, q2, A2⟩ := q2.slice
  have B2 := B1.later hb2
  have G2 := G.later hb2
  go_wp2_with fail
  refine (divD_any B2 G2 (by omega) (by omega) hgs).mono ?_
  rintro e w3 ⟨r3, s3, rfl, hb3, ⟨z3, q3, l3⟩, _⟩
  have hs3 := hb3.size
  obtain ⟨ad3, cp3, rfl, q3, A3⟩ := q3.slice
  have A2' := A2.later hb3
  have P3 := ((R0.later hb1).later hb2).later hb3
  have v2 := q2.eq
  have v3 := q3.eq
  rw [HG.out] at v2 v3
  have V2 := Lib.hid v2
  have V3 := Lib.hid v3
  clear v2 v3 q2 q3
  obtain ⟨u0, u1, u2, g0, g1, g2⟩ := P3.three
  go_wp2_with fail
  refine bodyPost_ret (v := .agg #[.bool m1, .slice ad2 z2.length cp2, .slice ad3 z3.length cp3]) (by simp [results, Tryz.results106, go_sem, u0, u1, u2]) rfl ⟨_, rfl, ⟨z2, z3, ad2, ad3, cp2, cp3, by rw [E1.out], ?_, ?_, ?_, ?_, by omega, by omega⟩, ?_⟩
  · exact A2'.far P3 (noInts3 _ _ _ _ _ _ _) (kept3 _ _ _)
  · exact A3.far P3 (noInts3 _ _ _ _ _ _ _) (kept3 _ _ _)
  · rw [V2.out, E2.out]
  · rw [V3.out, E3.out]
  · exact below_set3 (((hBW.trans (hb1.mono (by omega))).trans (hb2.mono (by omega))).trans (hb3.mono (by omega))) (by omega) _ _ _
set_option maxRecDepth 100000 in
set_option maxHeartbeats 4000000 in
theorem ofR_any {n : Nat} {w : World} {v : Value} {X : Rat} (h : ArgQ w v X n) (hn : n ≤ 134217728) :
    Calls Tryz.prog 79 #[v] w fun e w' => ∃ r, e = .returned r ∧ ArgR w' r X (5 * n + 1) ∧ Below w.heap.size w w' := by
  obtain ⟨m1, xs, ds, a1, a2, c1, c2, rfl, A, B, hX, hx, hd⟩ := h
  obtain ⟨W, hW⟩ : ∃ W, ((w.alloc (.cells #[.bool m1, .slice a1 xs.length c1, .slice a2 ds.length c2] 58)).alloc (.cells #[.bool false, .slice none 0 0, .slice none 0 0] 75)) = W := ⟨_, rfl⟩
  have R0 : Row W (w.heap.size) 58 #[.bool m1, .slice a1 xs.length c1, .slice a2 ds.length c2] := by rw [← hW]; exact ((Row.new _ _ _).alloc _)
  have R1 : Row W (w.heap.size + 1) 75 #[.bool false, .slice none 0 0, .slice none 0 0] := by rw [← hW]; have h := (Row.new (w.alloc (.cells #[.bool m1, .slice a1 xs.length c1, .slice a2 ds.length c2] 58)) 75 #[.bool false, .slice none 0 0, .slice none 0 0]); simp only [World.size_alloc] at h; exact h
  have hBW : Below w.heap.size w W := by rw [← hW]; exact (((Below.refl _ _).alloc (by (try simp) <;> omega) _).alloc (by (try simp) <;> omega) _)
  have hsW : w.heap.size + 1 + 1 ≤ W.heap.size := by rw [← hW]; simp
  have HX := Lib.hid hX
  clear hX
  have mkS : ∀ X, Kept (w.heap.size + 1) W X → X.cell? ⟨w.heap.size, 0, none⟩ = some (.bool m1) ∧ X.cell? ⟨w.heap.size, 1, none⟩ = some (.slice a1 xs.length c1) ∧ X.cell? ⟨w.heap.size, 2, none⟩ = some (.slice a2 ds.length c2) ∧ Kept (w.heap.size + 1) W X := fun X h => ⟨(R0.kept h (by omega)).cell 0, (R0.kept h (by omega)).cell 1, (R0.kept h (by omega)).cell 2, h⟩
  go_enter Tryz.func79, Tryz.ntmps79
  go_wp2_with fail
  clear hW
  go_region_held3 (fun X => X.cell? ⟨w.heap.size, 0, none⟩ = some (.bool m1) ∧ X.cell? ⟨w.heap.size, 1, none⟩ = some (.slice a1 xs.length c1) ∧ X.cell? ⟨w.heap.size, 2, none⟩ = some (.slice a2 ds.length c2) ∧ Kept (w.heap.size + 1) W X)
    (((refine mkS _ ?_; (repeat' (first | exact Kept.refl _ _ | refine Kept.drew ?_ | refine Kept.alloc ?_ _ | refine Kept.set ?_ _ _ | refine Kept.below ?_ (by assumption))))))
    ((first
      | (go_at_call 106; refine (makeR_any (n := 5 * n) (A3.later hb4) A4 (by omega) (by omega) (by omega)).mono ?_; rintro e w5 ⟨r5, rfl, q5, hb5⟩; rw [HV.out] at q5; obtain ⟨fs, gs, f1, f2, j1, j2, e5, _⟩ := id q5; subst e5; have P5 := R1.kept (show Kept (w.heap.size + 1 + 1 + 1) W w5 by (repeat' (first | exact Kept.refl _ _ | refine Kept.drew ?_ | refine Kept.alloc ?_ _ | refine Kept.set ?_ _ _ | refine Kept.below ?_ (by assumption)))) (by omega); obtain ⟨u0, u1, u2, g0, g1, g2⟩ := P5.three)
      | (go_at_call 107; (with_reducible refine (of_any (B.later (Kept.under (show Kept (w.heap.size + 1) W _ by (repeat' (first | exact Kept.refl _ _ | refine Kept.drew ?_ | refine Kept.alloc ?_ _ | refine Kept.set ?_ _ _ | refine Kept.below ?_ (by assumption)))) hBW (by omega) (by omega))) (by omega)).mono ?_); rintro e w4 ⟨r4, rfl, z4, q4, l4, hb4⟩; obtain ⟨ad4, cp4, rfl, q4, A4⟩ := q4.slice; have HV := Lib.hid ((show ratOf m1 (valD z3) (valD z4) = ratOf m1 (val xs) (val ds) by rw [q3.eq, q4.eq]).trans HX.out))
      | (go_at_call 107; (with_reducible refine (of_any (A.later (Kept.under (show Kept (w.heap.size + 1) W _ by (repeat' (first | exact Kept.refl _ _ | refine Kept.drew ?_ | refine Kept.alloc ?_ _ | refine Kept.set ?_ _ _ | refine Kept.below ?_ (by assumption)))) hBW (by omega) (by omega))) (by omega)).mono ?_); rintro e w3 ⟨r3, rfl, z3, q3, l3, hb3⟩; obtain ⟨ad3, cp3, rfl, q3, A3⟩ := q3.slice)))
  have hs5 := hb5.size
  have hk5 := (show Kept (w.heap.size + 1 + 1 + 1) W w5 by (repeat' (first | exact Kept.refl _ _ | refine Kept.drew ?_ | refine Kept.alloc ?_ _ | refine Kept.set ?_ _ _ | refine Kept.below ?_ (by assumption)))).size
  have hK5 := (Kept.under (show Kept (w.heap.size + 1 + 1 + 1) W w5 by (repeat' (first | exact Kept.refl _ _ | refine Kept.drew ?_ | refine Kept.alloc ?_ _ | refine Kept.set ?_ _ _ | refine Kept.below ?_ (by assumption)))) hBW (by omega) (by omega))
  go_wp2_with fail
  refine bodyPost_ret (v := .agg #[.bool (decide (X.num < 0)), .slice f1 fs.length j1, .slice f2 gs.length j2]) (by simp [results, Tryz.results79, go_sem, u0, u1, u2]) rfl ⟨_, rfl, ?_, below_set3 hK5 (by omega) _ _ _⟩
  exact (q5.far P5 (noInts3 _ _ _ _ _ _ _) (kept3 _ _ _))
end
section
open Go.RowKit
set_option linter.unusedVariables false
set_option linter.unusedSimpArgs false
theorem ArgR.box {w : World} {v : Value} {x : Rat} {n : Nat} (h : ArgR w v x n) : ∃ (m : Bool) (zs ys : List Int) (ad bd : Option Addr) (ca cb : Nat), v = .agg #[.bool m, .slice ad zs.length ca, .slice bd ys.length cb] := by
  obtain ⟨zs, ys, ad, bd, ca, cb, rfl, _⟩ := h
  exact ⟨_, zs, ys, ad, bd, ca, cb, rfl⟩
end
section
open Go.RowKit
set_option linter.unusedVariables false
set_option linter.unusedSimpArgs false
set_option maxRecDepth 100000 in
set_option maxHeartbeats 4000000 in
theorem canonical_false {u : Value} {xs : List Int} {a : Option Addr} {capa : Nat} {w : World} (h1 : Arg w u xs a capa) (hx : xs.length ≤ 70368744177664) (hf : ¬ trimN xs xs.length = xs.length) :
    Calls Tryz.prog 118 #[u] w fun e w' => e = .returned (.bool false) ∧ w = w' := by
  obtain ⟨rfl, lx, _, _⟩ := h1
  have hpos : 0 < xs.length := by
    rcases Nat.eq_zero_or_pos xs.length with h | h
    · exact absurd (by rw [h]; rfl) hf
    · exact h
  obtain ⟨m, hm⟩ : ∃ m, xs.length = m + 1 := ⟨xs.length - 1, by omega⟩
  have hz : xs.getD m 0 = 0 := by
    by_cases h : xs.getD m 0 = 0
    · exact h
    · exfalso
      apply hf
      rw [hm]
      show (if xs.getD m 0 = 0 then trimN xs m else m + 1) = m + 1
      rw [if_neg h]
  rcases lx with rfl | ⟨b, off, rfl, hc⟩
  · simp at hpos
  have hj := hc m (by omega)
  rw [hz] at hj
  rw [hm] at hx
  rw [hm]
  have h2 : ((m : Int) + 1 == 0) = false := by simp; omega
  clear hc hz hf hpos hm
  go_enter Tryz.func118, Tryz.ntmps118
  go_wp2
  go_ret
  exact ⟨rfl, rfl⟩
/-- the limbs zs are those of the number N, as it is answered -/
def isB (zs : List Int) (N : Int) : Bool := decide (trimN zs zs.length = zs.length ∧ val zs = N)
theorem sign_zero {a b : Int} (h : sign a b = 0) : a = b := by unfold sign at h; split at h <;> (try split at h) <;> omega
set_option maxRecDepth 100000 in
set_option maxHeartbeats 4000000 in
theorem is_dec {u v : Value} {ds zs : List Int} {a b : Option Addr} {capa capb : Nat} {w : World} (h1 : ArgD w u ds a capa) (h2 : Arg w v zs b capb) (hx : ds.length ≤ 68719476736) (hy : zs.length ≤ 134217728) :
    Calls Tryz.prog 97 #[u, v] w fun e w' => e = .returned (.bool (isB zs (valD ds))) ∧ Below w.heap.size w w' := by
  by_cases hf : trimN zs zs.length = zs.length
  · by_cases hv : val zs = valD ds
    · have e1 : isB zs (valD ds) = true := decide_eq_true ⟨hf, hv⟩
      rw [e1]
      exact is_true h1 h2 hx hy hf hv.symm
    · have e1 : isB zs (valD ds) = false := decide_eq_false (fun h => hv h.2)
      rw [e1]
      have hne : (sign (val zs) (valD ds) == 0) = false := by simp; exact fun h => hv (sign_zero h)
      go_enter Tryz.func97, Tryz.ntmps97
      go_wp2_with fail
      refine (canonical_true h2 (by omega) hf).mono ?_
      rintro e w' ⟨rfl, rfl⟩
      have HF := Lib.hid hf
      clear hf e1
      go_wp2_with fail
      refine (of_any h2 hy).mono ?_
      rintro e w1 ⟨r, rfl, qs, hq, hl, hb⟩
      obtain ⟨ad, cap, A⟩ := hq.arg
      have h1' := h1.later hb
      have hc := cmpD_any A h1' (by omega) hx
      rw [hq.eq] at hc
      obtain ⟨s, hs⟩ : ∃ s, sign (val zs) (valD ds) = s := ⟨_, rfl⟩
      rw [hs] at hc hne
      clear hs hv
      go_wp2_with fail
      refine hc.mono ?_
      rintro e w2 ⟨rfl, hb2⟩
      clear hc
      go_wp2_with fail
      go_ret
      exact ⟨rfl, hb.trans (hb2.mono hb.size)⟩
  · have e1 : isB zs (valD ds) = false := decide_eq_false (fun h => hf h.1)
    rw [e1]
    go_enter Tryz.func97, Tryz.ntmps97
    go_wp2_with fail
    refine (canonical_false h2 (by omega) hf).mono ?_
    rintro e w' ⟨rfl, rfl⟩
    clear hf e1
    go_wp2_with fail
    go_ret
    exact ⟨rfl, Below.refl _ _⟩
/-- a sign and two rows of limbs are the number X in its valid form -/
def validB (m : Bool) (xs ys : List Int) (X : Rat) : Bool := (m == decide (X.num < 0)) && (isB xs (X.num.natAbs : Int) && isB ys (X.den : Int))
set_option maxRecDepth 100000 in
set_option maxHeartbeats 4000000 in
theorem isR_dec {n : Nat} {w : World} {u : Value} {X : Rat} {m2 : Bool} {zs es : List Int} {a3 a4 : Option Addr} {c3 c4 : Nat} (hu : ArgR w u X n) (C : Arg w (.slice a3 zs.length c3) zs a3 c3) (D : Arg w (.slice a4 es.length c4) es a4 c4)
    (hn : n ≤ 1000000000) (hz : zs.length ≤ 134217728) (he : es.length ≤ 134217728) :
    Calls Tryz.prog 72 #[u, .agg #[.bool m2, .slice a3 zs.length c3, .slice a4 es.length c4]] w fun e w' => e = .returned (.bool (validB m2 zs es X)) ∧ Below w.heap.size w w' := by
  obtain ⟨xs, ds, a1, a2, c1, c2, rfl, A, B, hX1, hX2, hx, hd⟩ := hu
  obtain ⟨m1, hm1⟩ : ∃ m, decide (X.num < 0) = m := ⟨_, rfl⟩
  have hv : validB m2 zs es X = ((m2 == m1) && (isB zs (valD xs) && isB es (valD ds))) := by unfold validB; rw [hm1, hX1, hX2]
  rw [hm1, hv]
  clear hm1 hv hX1 hX2
  obtain ⟨W, hW⟩ : ∃ W, ((w.alloc (.cells #[.bool m1, .slice a1 xs.length c1, .slice a2 ds.length c2] 75)).alloc (.cells #[.bool m2, .slice a3 zs.length c3, .slice a4 es.length c4] 58)) = W := ⟨_, rfl⟩
  have R0 : Row W (w.heap.size) 75 #[.bool m1, .slice a1 xs.length c1, .slice a2 ds.length c2] := by rw [← hW]; exact ((Row.new _ _ _).alloc _)
  have R1 : Row W (w.heap.size + 1) 58 #[.bool m2, .slice a3 zs.length c3, .slice a4 es.length c4] := by rw [← hW]; have h := (Row.new (w.alloc (.cells #[.bool m1, .slice a1 xs.length c1, .slice a2 ds.length c2] 75)) 58 #[.bool m2, .slice a3 zs.length c3, .slice a4 es.length c4]); simp only [World.size_alloc] at h; exact h
  have hBW : Below w.heap.size w W := by rw [← hW]; exact (((Below.refl _ _).alloc (by (try simp) <;> omega) _).alloc (by (try simp) <;> omega) _)
  have hsW : w.heap.size + 1 + 1 ≤ W.heap.size := by rw [← hW]; simp
  have i1 := is_dec (A.later hBW) (C.later hBW) (by omega) hz
  have D1 := D.later hBW
  have B1 := B.later hBW
  obtain ⟨p0, p1, p2, _, _, _⟩ := R0.three
  obtain ⟨o0, o1, o2, _, _, _⟩ := R1.three
  obtain ⟨b1, hb1⟩ : ∃ b, isB zs (valD xs) = b := ⟨_, rfl⟩
  obtain ⟨b2, hb2⟩ : ∃ b, isB es (valD ds) = b := ⟨_, rfl⟩
  rw [hb1] at i1
  rw [hb1, hb2]
  have HB2 := Lib.hid hb2
  clear hb1 hb2
  obtain ⟨b0, hb0⟩ : ∃ b, (m2 == m1) = b := ⟨_, rfl⟩
  rw [hb0]
  cases b0 with
  | false =>
    go_enter Tryz.func72, Tryz.ntmps72
    go_wp2_with fail
    go_ret
    exact ⟨rfl, hBW⟩
  | true =>
    cases b1 with
    | false =>
      go_enter Tryz.func72, Tryz.ntmps72
      go_wp2_with fail
      refine i1.mono ?_
      rintro e w1 ⟨rfl, hb1⟩
      have hs1 := hb1.size
      clear i1
      go_wp2_with fail
      go_ret
      exact ⟨rfl, hBW.trans (hb1.mono (by omega))⟩
    | true =>
      go_enter Tryz.func72, Tryz.ntmps72
      go_wp2_with fail
      refine i1.mono ?_
      rintro e w1 ⟨rfl, hb1⟩
      have hs1 := hb1.size
      have i2 := is_dec (B1.later hb1) (D1.later hb1) (by omega) he
      rw [HB2.out] at i2
      clear i1 p0 p1 p2 o0 o1 o2
      obtain ⟨p0, p1, p2, _, _, _⟩ := (R0.later hb1).three
      obtain ⟨o0, o1, o2, _, _, _⟩ := (R1.later hb1).three
      go_wp2_with fail
      refine i2.mono ?_
      rintro e w2 ⟨rfl, hb2⟩
      clear i2
      go_wp2_with fail
      go_ret
      exact ⟨by cases b2 <;> rfl, (hBW.trans (hb1.mono (by omega))).trans (hb2.mono (by omega))⟩
set_option maxRecDepth 100000 in
set_option maxHeartbeats 4000000 in
theorem mayR_any {n : Nat} {w : World} {m1 : Bool} {xs ds : List Int} {a1 a2 : Option Addr} {c1 c2 : Nat} (A : Arg w (.slice a1 xs.length c1) xs a1 c1) (B : Arg w (.slice a2 ds.length c2) ds a2 c2)
    (hx : xs.length ≤ n) (hd : ds.length ≤ n) (hn : n ≤ 134217728) :
    Calls Tryz.prog 67 #[.agg #[.bool m1, .slice a1 xs.length c1, .slice a2 ds.length c2]] w fun e w' => e = .returned (.int .i64 (if validB m1 xs ds (ratOf m1 (val xs) (val ds)) = true then 0 else 6)) ∧ Below w.heap.size w w' := by
  obtain ⟨X, hX⟩ : ∃ X, ratOf m1 (val xs) (val ds) = X := ⟨_, rfl⟩
  have hq : ArgQ w (.agg #[.bool m1, .slice a1 xs.length c1, .slice a2 ds.length c2]) X n := ⟨m1, xs, ds, a1, a2, c1, c2, rfl, A, B, hX, hx, hd⟩
  rw [hX]
  clear hX
  obtain ⟨W, hW⟩ : ∃ W, (w.alloc (.cells #[.bool m1, .slice a1 xs.length c1, .slice a2 ds.length c2] 58)) = W := ⟨_, rfl⟩
  have R0 : Row W (w.heap.size) 58 #[.bool m1, .slice a1 xs.length c1, .slice a2 ds.length c2] := by rw [← hW]; exact (Row.new _ _ _)
  have hBW : Below w.heap.size w W := by rw [← hW]; exact ((Below.refl _ _).alloc (by (try simp) <;> omega) _)
  have hsW : w.heap.size + 1 ≤ W.heap.size := by rw [← hW]; simp
  obtain ⟨p0, p1, p2, _, _, _⟩ := R0.three
  have hq' := hq.later hBW
  obtain ⟨b, hb⟩ : ∃ b, validB m1 xs ds X = b := ⟨_, rfl⟩
  have HB := Lib.hid hb
  rw [hb]
  clear hb hq
  go_enter Tryz.func67, Tryz.ntmps67
  go_wp2_with fail
  refine (ofR_any hq' hn).mono ?_
  rintro e w1 ⟨r1, rfl, h1, hb1⟩
  have hs1 := hb1.size
  obtain ⟨m4, fs, gs, f1, f2, j1, j2, rfl⟩ := h1.box
  clear p0 p1 p2 hW
  have Q0 := R0.later hb1
  obtain ⟨U, hU⟩ : ∃ U, w1.alloc (.cells #[.bool m4, .slice f1 fs.length j1, .slice f2 gs.length j2] 75) = U := ⟨_, rfl⟩
  have hBU : Below w1.heap.size w1 U := by rw [← hU]; exact (Below.refl _ _).alloc (Nat.le_refl _) _
  have R5 : Row U w1.heap.size 75 #[.bool m4, .slice f1 fs.length j1, .slice f2 gs.length j2] := by rw [← hU]; exact Row.new _ _ _
  have hsU : w1.heap.size + 1 ≤ U.heap.size := by rw [← hU]; simp
  have k := isR_dec (m2 := m1) (h1.later hBU) (((A.later hBW).later hb1).later hBU) (((B.later hBW).later hb1).later hBU) (by omega) (by omega) (by omega)
  rw [HB.out] at k
  obtain ⟨p0, p1, p2, _, _, _⟩ := Q0.three
  obtain ⟨q0, q1, q2, _, _, _⟩ := (Q0.later hBU).three
  obtain ⟨o0, o1, o2, _, _, _⟩ := R5.three
  have hB2 : Below w.heap.size w U := (hBW.trans (hb1.mono (by omega))).trans (hBU.mono (by omega))
  cases b with
  | true =>
    go_wp2_with fail
    (try rw [hU])
    refine k.mono ?_
    rintro e w2 ⟨rfl, hb2⟩
    clear k hU
    go_wp2_with fail
    go_ret
    exact ⟨rfl, hB2.trans (hb2.mono (by omega))⟩
  | false =>
    go_wp2_with fail
    (try rw [hU])
    refine k.mono ?_
    rintro e w2 ⟨rfl, hb2⟩
    clear k hU
    go_wp2_with fail
    go_ret
    exact ⟨rfl, hB2.trans (hb2.mono (by omega))⟩
end
section
open Go.RowKit
set_option linter.unusedVariables false
set_option linter.unusedSimpArgs false
theorem inS_wid {s xs : List Int} (h : inS s xs) (hs : Wid s) : Wid xs := by
  intro x hx
  obtain ⟨i, hi, rfl⟩ := List.getElem_of_mem hx
  have hl := inS_length h
  have h1 := inS_at h (i := i) (by omega)
  have h2 := hs.getD i
  have e : xs.getD i 0 = xs[i] := by simp [hi]
  rw [e] at h1
  omega
end
section
open Go.RowKit
set_option linter.unusedVariables false
set_option linter.unusedSimpArgs false
theorem make_runS (n : Nat) (hc : n ≤ 17592186044416) (w : World) :
    (Instr.makeSlice 22 (.int .i64 (n : Int)) (.int .i64 (n : Int))).run Tryz.prog w = .ok (.slice (some ⟨w.heap.size, 0, none⟩) n n) (w.alloc (.cells (madeCells #[.int .i64 0] n) 3)) := by
  obtain ⟨i0, hi, hz0, hz1, hz2⟩ := info_parts infoS
  have h := run_make (P := Tryz.prog) w 22 3 i0 (.int .i64 0) Tryz.underlying22 hi hz0 .i64 .i64 n n (by omega) (by omega) (by rw [hz2]; omega) (by omega)
  simpa [hz1, Value.cells] using h
/-- why an index has no place: 0, or an error; its place -/
def offC (s xs : List Int) : Int := if mayC s ≠ 0 then mayC s else if xs.length ≠ s.length then 2 else if inS s xs then 0 else 21
def offV (s xs : List Int) : Int := if offC s xs = 0 then placeS s xs else 0
theorem offC_may {s xs : List Int} (h : mayC s ≠ 0) : offC s xs = mayC s := by unfold offC; rw [if_pos h]
theorem offC_arg {s xs : List Int} (h : mayC s = 0) (h2 : xs.length ≠ s.length) : offC s xs = 2 := by unfold offC; rw [if_neg (by rw [h]; simp), if_pos h2]
theorem offC_in {s xs : List Int} (h : mayC s = 0) (h3 : inS s xs) : offC s xs = 0 := by unfold offC; rw [if_neg (by rw [h]; simp), if_neg (by rw [inS_length h3]; simp), if_pos h3]
theorem offC_out {s xs : List Int} (h : mayC s = 0) (h2 : xs.length = s.length) (h3 : ¬ inS s xs) : offC s xs = 21 := by unfold offC; rw [if_neg (by rw [h]; simp), if_neg (by rw [h2]; simp), if_neg h3]
theorem offV_in {s xs : List Int} (h : mayC s = 0) (h3 : inS s xs) : offV s xs = placeS s xs := by unfold offV; rw [if_pos (offC_in h h3)]
theorem offV_bad {s xs : List Int} (h : offC s xs ≠ 0) : offV s xs = 0 := by unfold offV; rw [if_neg h]
end
section
open Go.RowKit Go.Shelf
attribute [local go_sem] Oper.semAt_some
set_option linter.unusedVariables false
set_option linter.unusedSimpArgs false
theorem wideCallS {n : Nat} {P : Program} {f : FuncId} {args : Array Value} {w : World} {R : Ending → World → Prop} (h : Calls P f args w R) :
    Fence.wide.fn f ∧ (Fence.wide.depth.isSome = true → 1 ≤ n) ∧ CallsIn Fence.wide (n - 1) P f args w R := ⟨trivial, (fun h => by cases h), callsIn_wide.2 h⟩
/-- what a round is handed: the place, the number -/
def numAt (xs : List Int) {n : Nat} (x : Fin n) : Array Value := #[.int .i64 (x.val : Int), .int .i64 (xs[x.val]?.getD 0)]
/-- the last k places, from above -/
def DowntoS {n : Nat} (pre : List (Fin n)) (k : Nat) : Prop := pre.length = k ∧ ∀ i (h : i < pre.length), (pre[i]).val + i + 1 = n
theorem DowntoS.nil {n : Nat} : DowntoS ([] : List (Fin n)) 0 := ⟨rfl, fun i h => by simp at h⟩
theorem DowntoS.snoc {n k : Nat} {pre : List (Fin n)} (h : DowntoS pre k) (x : Fin n) (hx : x.val + k + 1 = n) : DowntoS (pre ++ [x]) (k + 1) := by
  obtain ⟨h1, h2⟩ := h
  refine ⟨by simp [h1], fun i hi => ?_⟩
  by_cases hlt : i < pre.length
  · rw [List.getElem_append_left hlt]; exact h2 i hlt
  · have : i = k := by simp at hi; omega
    subst this
    rw [List.getElem_append_right (by omega)]
    simp [h1, hx]
/-- nothing below G has changed, nor block Bs -/
structure KpS (G Bs : Nat) (W W' : World) : Prop where
  below : Below G W W'
  box : W'.heap[Bs]? = W.heap[Bs]?
theorem KpS.refl (G Bs : Nat) (W : World) : KpS G Bs W W := ⟨Below.refl _ _, rfl⟩
theorem KpS.trans {G Bs : Nat} {A B C : World} (h : KpS G Bs A B) (k : KpS G Bs B C) : KpS G Bs A C := ⟨h.below.trans k.below, k.box.trans h.box⟩
theorem KpS.b {G Bs : Nat} {w : World} (hg : G ≤ w.heap.size) (hn : Bs < w.heap.size) (W : World) (l : Nat) (o o' : Obj) (hl : w.heap.size ≤ l) (h : W.heap[l]? = some o) (h1 : o.isCells = false) (h2 : o.isWalk = false) : KpS G Bs W (W.putObj l o') :=
  ⟨belowK_b hg W l o o' hl h h1 h2, World.putObj_heap_other (by omega)⟩
set_option maxRecDepth 100000 in
set_option maxHeartbeats 2000000 in
theorem backS1_in (n l Bs n₀ : Nat) (ad : Option Addr) (xs : List Int) (cap : Nat) (hm : xs.length ≤ 35184372088832) (hb : xs ≠ [] → ∀ a, ad = some a → a.block < n₀) (J Jx : List (Fin xs.length) → World → Prop)
    (hY : ∀ pre x W, J pre W → pre.length < xs.length → YieldAt Fence.wide (n - 1) Tryz.prog l (numAt xs x) W fun e W' =>
      (e = .returned (.bool true) ∧ J (pre ++ [x]) W' ∧ KpS n₀ Bs W W') ∨ (e = .returned (.bool false) ∧ Jx (pre ++ [x]) W'))
    (W : World) (hBs : W.cell? ⟨Bs, 0, none⟩ = some (.slice ad xs.length cap)) (hl : LimS W ad xs) (h0 : J [] W) :
    CallsIn Fence.wide n Tryz.prog 154 #[.func (.yield l) #[] #[], .pointer (some ⟨Bs, 0, none⟩)] W fun e W' => (∃ v, e = .returned v) ∧
      ((∃ ys, DowntoS ys xs.length ∧ J ys W') ∨ (∃ pre, (∃ k, k ≤ xs.length ∧ DowntoS pre k) ∧ Jx pre W')) := by
  refine callsIn_of_wp Tryz.func154 rfl trivial ?_ rfl
  simp only [Tryz.ntmps154, List.size_toArray, List.length_cons, List.length_nil, Nat.reduceAdd, Nat.reduceSub, Array.replicate_succ, Array.replicate_zero, List.push_toArray, List.append_toArray, List.nil_append, List.cons_append]
  gi_wp2_with fail
  gi_loopw [3] (fun i wr => ∃ (k : Nat) (pre : List (Fin xs.length)), k ≤ xs.length ∧ i = .int .i64 ((xs.length : Int) - 1 - k) ∧ DowntoS pre k ∧ J pre wr ∧ KpS n₀ Bs W wr)
    (fun i _ => (intOf i + 1).toNat)
  case atStart => exact ⟨0, [], Nat.zero_le _, by simp, DowntoS.nil, h0, KpS.refl _ _ _⟩
  case round =>
    obtain ⟨k, pre, hk, rfl, hdn, hJs, hnx⟩ := hrel
    have hBr := (World.cell?_of_block (a := ⟨Bs, 0, none⟩) hnx.box).trans hBs
    by_cases hlt : k < xs.length
    · rcases hl with rfl | ⟨b, off, rfl, hc⟩
      · simp at hlt
      · obtain ⟨j, hj⟩ : ∃ j, j + k + 1 = xs.length := ⟨xs.length - k - 1, by omega⟩
        have hji : ((xs.length : Int) - 1 - k) = (j : Int) := by omega
        rw [hji]
        have hjl : j < xs.length := by omega
        obtain ⟨fn, tmps, assign, body, hy, hR⟩ := hY pre ⟨j, hjl⟩ wr hJs (by rw [hdn.1]; exact hlt)
        simp only [numAt] at hy
        have hcx := (hnx.below.cell (p := ⟨b, off + j, none⟩) (hb (by rintro rfl; simp at hlt) ⟨b, off, none⟩ rfl)).trans (hc j (by omega))
        have ej : xs[j]?.getD 0 = xs[j] := by simp [hjl]
        rw [ej] at hy
        have HJ := Lib.hid hj
        clear hc hj hji ej
        gi_wp2
        refine ⟨(fun h => by cases h), hR.mono ?_⟩
        rintro e W3 (⟨rfl, hJ3, hk3⟩ | ⟨rfl, hJx3⟩)
        · gi_wp2
          go_roundw
          case rel => exact ⟨k + 1, _, by omega, by have := HJ.out; congr 1; omega, hdn.snoc ⟨j, hjl⟩ HJ.out, hJ3, hnx.trans hk3⟩
          case measure => simp [intOf]
        · gi_wp2
          refine bodyPost_ret (results_none rfl _ _ _) rfl ?_
          exact ⟨⟨_, rfl⟩, .inr ⟨_, ⟨k + 1, by omega, hdn.snoc ⟨j, hjl⟩ HJ.out⟩, hJx3⟩⟩
    · obtain rfl : k = xs.length := by omega
      have hji : ((xs.length : Int) - 1 - xs.length) = -1 := by omega
      rw [hji]
      clear hji
      gi_wp2
      go_end0
      exact ⟨⟨_, rfl⟩, .inl ⟨_, hdn, hJs⟩⟩
theorem backI_any (ad : Option Addr) (n cap : Nat) (w : World) :
    Calls Tryz.prog 131 #[.slice ad n cap] w fun e w' => e = .returned (.func (.func 154) #[] #[.pointer (some ⟨w.heap.size, 0, none⟩)]) ∧ w' = w.alloc (.cells #[.slice ad n cap] 23) := by
  go_enter Tryz.func131, Tryz.ntmps131
  go_wp2
  go_ret
  exact ⟨rfl, rfl⟩
theorem backI_stops (n Bs n₀ : Nat) (ad : Option Addr) (xs : List Int) (cap : Nat) (hm : xs.length ≤ 35184372088832) (hb : xs ≠ [] → ∀ a, ad = some a → a.block < n₀) (w : World) (hBs : Bs < w.heap.size)
    (hc : w.cell? ⟨Bs, 0, none⟩ = some (.slice ad xs.length cap)) (hl : LimS w ad xs) :
    SeqStopsK Fence.wide n Tryz.prog 154 #[.pointer (some ⟨Bs, 0, none⟩)] (numAt xs (n := xs.length)) (KpS n₀ Bs) (fun ys => DowntoS ys xs.length) (fun pre => ∃ k, k ≤ xs.length ∧ DowntoS pre k) xs.length w := fun l J Jx W hW _ _ hY h0 =>
  backS1_in n l Bs n₀ ad xs cap hm hb J Jx hY W ((hW.cell (p := ⟨Bs, 0, none⟩) hBs).trans hc) (hl.later hW) h0
theorem blkS_own {β : Type} (g : Nat) (f : β → List Int) : Own (fun s W => BlkS W g (f s)) := fun s X Y row hs hg hrow =>
  hs.grown hg (fun e' => by obtain ⟨o, ho, hc⟩ := hrow g e'.symm; rw [show X.heap[g]? = _ from hs] at ho; cases ho; cases hc)
theorem boxS_far {W : World} {B : Nat} {t : TypeId} {v : Value} (h : Boxed W B t v) {p : Addr} (hne : B ≠ p.block) (u : Value) : Boxed (W.setCell p u) B t v := (Below.heap_setCell _ _ _ _ hne).trans h
theorem ownS_and2 {β : Type} {I J : β → World → Prop} (h : Own I) (k : Own J) : Own (fun s W => I s W ∧ J s W) := fun s X Y row hs hg hr => ⟨h s X Y row hs.1 hg hr, k s X Y row hs.2 hg hr⟩
theorem BlkS.far {w : World} {g : Nat} {zs : List Int} (h : BlkS w g zs) {p : Addr} (hne : g ≠ p.block) (u : Value) : BlkS (w.setCell p u) g zs := h.same (Below.heap_setCell _ _ _ _ hne)
/-- the last k places, from above -/
def downs (L k : Nat) : List Nat := (List.range k).map fun i => L - 1 - i
theorem downs_next (L k : Nat) : downs L (k + 1) = downs L k ++ [L - 1 - k] := by
  unfold downs
  rw [List.range_succ, List.map_append]; rfl
theorem DowntoS.downs {n k : Nat} {pre : List (Fin n)} (h : DowntoS pre k) : pre.map Fin.val = downs n k := by
  obtain ⟨h1, h2⟩ := h
  apply List.ext_getElem
  · simp [Proofs.YtooglnhlhgmhdaaGreat.downs, h1]
  · intro i g1 g2
    have h3 := h2 i (by simpa using g1)
    simp only [List.getElem_map, Proofs.YtooglnhlhgmhdaaGreat.downs, List.getElem_range]
    omega
end
section
open Go.RowKit
set_option linter.unusedVariables false
set_option linter.unusedSimpArgs false
theorem NumI.far {base : Nat} {w w' : World} {u : Value} {zs : List Int} {g : Nat} {t : TypeId} {cs : Array Value} (h : NumI base w u zs) (R : Row w g t cs) (ht : t ≠ 3) (hk : ∀ k, k ≠ g → w'.heap[k]? = w.heap[k]?) : NumI base w' u zs := by
  obtain ⟨h1, h2⟩ := h
  refine ⟨h1, ?_⟩
  rcases h2 with h2 | ⟨k, cap, cur, rfl, hg0, hg', hc, hm, hs, ht'⟩
  · exact .inl h2
  · refine .inr ⟨k, cap, cur, rfl, hg0, (hk k ?_).trans hg', hc, hm, hs, ht'⟩
    rintro rfl
    have e := hg'.symm.trans R
    injection e with e
    injection e with _ e
    exact ht e.symm
theorem Num.far {base : Nat} {w w' : World} {u : Value} {zs : List Int} {g : Nat} {t : TypeId} {cs : Array Value} (h : Num base w u zs) (R : Row w g t cs) (ht : t ≠ 63) (hk : ∀ k, k ≠ g → w'.heap[k]? = w.heap[k]?) : Num base w' u zs := by
  obtain ⟨h1, h2⟩ := h
  refine ⟨h1, ?_⟩
  rcases h2 with h2 | ⟨k, cap, cur, rfl, hg0, hg', hc, hm, hs, ht'⟩
  · exact .inl h2
  · refine .inr ⟨k, cap, cur, rfl, hg0, (hk k ?_).trans hg', hc, hm, hs, ht'⟩
    rintro rfl
    have e := hg'.symm.trans R
    injection e with e
    injection e with _ e
    exact ht e.symm
theorem ResD.far {base : Nat} {w w' : World} {u : Value} {zs : List Int} {n : Int} {g : Nat} {t : TypeId} {cs : Array Value} (h : ResD base w u zs n) (R : Row w g t cs) (ht : t ≠ 3) (hk : ∀ k, k ≠ g → w'.heap[k]? = w.heap[k]?) : ResD base w' u zs n :=
  ⟨h.num.far R ht hk, h.wf, h.full, h.eq⟩
theorem ResD.eqTo {base : Nat} {w : World} {u : Value} {zs : List Int} {n m : Int} (h : ResD base w u zs n) (e : valD zs = m) : ResD base w u zs m := ⟨h.num, h.wf, h.full, e⟩
theorem ResD.one {base : Nat} (W : World) (hb : base ≤ W.heap.size) : ResD base (W.alloc (.cells #[.int .i64 1] 3)) (.slice (some ⟨W.heap.size, 0, none⟩) 1 1) [1] 1 := by
  have L := digit_lit (Row.new W 3 #[.int .i64 1]) (by omega)
  exact ⟨⟨rfl, .inr ⟨W.heap.size, 1, _, rfl, hb, heap_alloc_new W _, Nat.le_refl _, by unfold maxLen; omega, rfl, rfl⟩⟩, L.wf, L.full, rfl⟩
/-- the reference's rational number, in new memory -/
def ResR (base : Nat) (w : World) (v : Value) (x : Rat) (n : Nat) : Prop :=
  ∃ (zs ys : List Int) (ad bd : Option Addr) (ca cb : Nat), v = .agg #[.bool (decide (x.num < 0)), .slice ad zs.length ca, .slice bd ys.length cb] ∧
    ResD base w (.slice ad zs.length ca) zs (x.num.natAbs : Int) ∧ ResD base w (.slice bd ys.length cb) ys (x.den : Int) ∧ zs.length ≤ n ∧ ys.length ≤ n
theorem ResD.at_ {base : Nat} {w : World} {ad : Option Addr} {n cap : Nat} {zs : List Int} {N : Int} (h : ResD base w (.slice ad n cap) zs N) : n = zs.length ∧ ArgD w (.slice ad n cap) zs ad cap := by
  obtain ⟨ad', cap', A⟩ := h.arg
  have e := A.is
  simp only [Value.slice.injEq] at e
  obtain ⟨rfl, rfl, rfl⟩ := e
  exact ⟨rfl, A⟩
theorem ResR.arg {base : Nat} {w : World} {v : Value} {x : Rat} {n : Nat} (h : ResR base w v x n) : ArgR w v x n := by
  obtain ⟨zs, ys, ad, bd, ca, cb, rfl, A, B, h1, h2⟩ := h
  exact ⟨zs, ys, ad, bd, ca, cb, rfl, A.at_.2, B.at_.2, A.eq, B.eq, h1, h2⟩
theorem ResR.later {base : Nat} {w w' : World} {v : Value} {x : Rat} {n : Nat} (h : ResR base w v x n) (hb : Below w.heap.size w w') : ResR base w' v x n := by
  obtain ⟨zs, ys, ad, bd, ca, cb, rfl, A, B, h⟩ := h
  exact ⟨zs, ys, ad, bd, ca, cb, rfl, A.later hb, B.later hb, h⟩
theorem ResR.more {base : Nat} {w : World} {v : Value} {x : Rat} {n m : Nat} (h : ResR base w v x n) (hm : n ≤ m) : ResR base w v x m := by
  obtain ⟨zs, ys, ad, bd, ca, cb, rfl, A, B, h1, h2⟩ := h
  exact ⟨zs, ys, ad, bd, ca, cb, rfl, A, B, by omega, by omega⟩
theorem ResR.mono {base base' : Nat} {w : World} {v : Value} {x : Rat} {n : Nat} (h : ResR base w v x n) (hb : base' ≤ base) : ResR base' w v x n := by
  obtain ⟨zs, ys, ad, bd, ca, cb, rfl, A, B, h⟩ := h
  exact ⟨zs, ys, ad, bd, ca, cb, rfl, A.mono hb, B.mono hb, h⟩
theorem ResR.far {base : Nat} {w w' : World} {v : Value} {x : Rat} {n : Nat} {g : Nat} {t : TypeId} {cs : Array Value} (h : ResR base w v x n) (R : Row w g t cs) (ht : t ≠ 3) (hk : ∀ k, k ≠ g → w'.heap[k]? = w.heap[k]?) : ResR base w' v x n := by
  obtain ⟨zs, ys, ad, bd, ca, cb, rfl, A, B, h⟩ := h
  exact ⟨zs, ys, ad, bd, ca, cb, rfl, A.far R ht hk, B.far R ht hk, h⟩
theorem ResR.apart {base base' : Nat} {T : TypeId} {w w' : World} {v u : Value} {es : List E3} {x : Rat} {n : Nat} {o : Obj} (h : OwnE base T w v es) (hg : (w.alloc o).grownBy w' v.ownBlock) (hT : T ≠ 3) (k : ResR base' w u x n) : ResR base' w' u x n := by
  obtain ⟨zs, ys, ad, bd, ca, cb, rfl, A, B, k⟩ := k
  exact ⟨zs, ys, ad, bd, ca, cb, rfl, ⟨apartE h hg hT A.num, A.wf, A.full, A.eq⟩, ⟨apartE h hg hT B.num, B.wf, B.full, B.eq⟩, k⟩
/-- a rational number as it came in: limb by limb -/
structure Q3 where
  neg : Bool
  num : List Int
  den : List Int
def Q3.rat (q : Q3) : Rat := ratOf q.neg (val q.num) (val q.den)
def RawQ (w : World) (v : Value) (q : Q3) : Prop := ∃ (ad bd : Option Addr) (ca cb : Nat), v = .agg #[.bool q.neg, .slice ad q.num.length ca, .slice bd q.den.length cb] ∧
  Arg w (.slice ad q.num.length ca) q.num ad ca ∧ Arg w (.slice bd q.den.length cb) q.den bd cb ∧ (ad = none → ca = 0) ∧ (bd = none → cb = 0)
theorem RawQ.later {w w' : World} {v : Value} {q : Q3} (h : RawQ w v q) (hb : Below w.heap.size w w') : RawQ w' v q := by
  obtain ⟨ad, bd, ca, cb, rfl, A, B, h⟩ := h
  exact ⟨ad, bd, ca, cb, rfl, A.later hb, B.later hb, h⟩
theorem RawQ.arg {w : World} {v : Value} {q : Q3} {n : Nat} (h : RawQ w v q) (h1 : q.num.length ≤ n) (h2 : q.den.length ≤ n) : ArgQ w v q.rat n := by
  obtain ⟨ad, bd, ca, cb, rfl, A, B, _⟩ := h
  exact ⟨q.neg, q.num, q.den, ad, bd, ca, cb, rfl, A, B, rfl, h1, h2⟩
/-- the same, in new memory -/
def RawO (base : Nat) (w : World) (v : Value) (q : Q3) : Prop := ∃ (ad bd : Option Addr) (ca cb : Nat), v = .agg #[.bool q.neg, .slice ad q.num.length ca, .slice bd q.den.length cb] ∧
  Num base w (.slice ad q.num.length ca) q.num ∧ Num base w (.slice bd q.den.length cb) q.den ∧ Wf q.num ∧ Wf q.den
theorem Num.at_ {base : Nat} {w : World} {ad : Option Addr} {n cap : Nat} {zs : List Int} (h : Num base w (.slice ad n cap) zs) (hw : Wf zs) : n = zs.length ∧ Arg w (.slice ad n cap) zs ad cap ∧ (ad = none → cap = 0) := by
  obtain ⟨ad', cap', e, h2, h3, _, _⟩ := h.read
  simp only [Value.slice.injEq] at e
  obtain ⟨rfl, rfl, rfl⟩ := e
  refine ⟨rfl, ⟨rfl, h2, h3, hw⟩, fun hn => ?_⟩
  subst hn
  exact h.nil_slice.2.2
theorem RawO.raw {base : Nat} {w : World} {v : Value} {q : Q3} (h : RawO base w v q) : RawQ w v q := by
  obtain ⟨ad, bd, ca, cb, rfl, A, B, h1, h2⟩ := h
  exact ⟨ad, bd, ca, cb, rfl, (A.at_ h1).2.1, (B.at_ h2).2.1, (A.at_ h1).2.2, (B.at_ h2).2.2⟩
theorem RawO.later {base : Nat} {w w' : World} {v : Value} {q : Q3} (h : RawO base w v q) (hb : Below w.heap.size w w') : RawO base w' v q := by
  obtain ⟨ad, bd, ca, cb, rfl, A, B, h⟩ := h
  exact ⟨ad, bd, ca, cb, rfl, A.later hb, B.later hb, h⟩
theorem RawO.mono {base base' : Nat} {w : World} {v : Value} {q : Q3} (h : RawO base w v q) (hb : base' ≤ base) : RawO base' w v q := by
  obtain ⟨ad, bd, ca, cb, rfl, A, B, h⟩ := h
  exact ⟨ad, bd, ca, cb, rfl, A.mono hb, B.mono hb, h⟩
theorem RawO.far {base : Nat} {w w' : World} {v : Value} {q : Q3} {g : Nat} {t : TypeId} {cs : Array Value} (h : RawO base w v q) (R : Row w g t cs) (ht : t ≠ 63) (hk : ∀ k, k ≠ g → w'.heap[k]? = w.heap[k]?) : RawO base w' v q := by
  obtain ⟨ad, bd, ca, cb, rfl, A, B, h⟩ := h
  exact ⟨ad, bd, ca, cb, rfl, A.far R ht hk, B.far R ht hk, h⟩
theorem RawO.apart {base base' : Nat} {T : TypeId} {w w' : World} {v u : Value} {es : List E3} {q : Q3} {o : Obj} (h : OwnE base T w v es) (hg : (w.alloc o).grownBy w' v.ownBlock) (hT : T ≠ 63) (k : RawO base' w u q) : RawO base' w' u q := by
  obtain ⟨ad, bd, ca, cb, rfl, A, B, k⟩ := k
  exact ⟨ad, bd, ca, cb, rfl, apartE h hg hT A, apartE h hg hT B, k⟩
theorem ResQ.apart {base base' : Nat} {T : TypeId} {w w' : World} {v u : Value} {es : List E3} {x : Rat} {n : Nat} {o : Obj} (h : OwnE base T w v es) (hg : (w.alloc o).grownBy w' v.ownBlock) (hT : T ≠ 63) (k : ResQ base' w u x n) : ResQ base' w' u x n := by
  obtain ⟨zs, ys, ad, bd, ca, cb, rfl, A, B, k⟩ := k
  exact ⟨zs, ys, ad, bd, ca, cb, rfl, ⟨apartE h hg hT A.num, A.wf, A.full, A.eq⟩, ⟨apartE h hg hT B.num, B.wf, B.full, B.eq⟩, k⟩
set_option maxRecDepth 100000 in
set_option maxHeartbeats 4000000 in
theorem makeRR_any {n : Nat} {w : World} {m1 : Bool} {xs ds : List Int} {a1 a2 : Option Addr} {c1 c2 : Nat} (A : ArgD w (.slice a1 xs.length c1) xs a1 c1) (B : ArgD w (.slice a2 ds.length c2) ds a2 c2) (hx : xs.length ≤ n) (hd : ds.length ≤ n) (hn : n ≤ 4294967296) :
    Calls Tryz.prog 106 #[.bool m1, .slice a1 xs.length c1, .slice a2 ds.length c2] w fun e w' => ∃ r, e = .returned r ∧ ResR w.heap.size w' r (ratOf m1 (valD xs) (valD ds)) (n + 1) ∧ Below w.heap.size w w' := by
  have h0x := val_nonnegD A.wf
  have h0d := val_nonnegD B.wf
  obtain ⟨W, hW⟩ : ∃ W, (w.alloc (.cells #[.bool false, .slice none 0 0, .slice none 0 0] 75)) = W := ⟨_, rfl⟩
  have R0 : Row W (w.heap.size) 75 #[.bool false, .slice none 0 0, .slice none 0 0] := by rw [← hW]; exact (Row.new _ _ _)
  have hBW : Below w.heap.size w W := by rw [← hW]; exact ((Below.refl _ _).alloc (by (try simp) <;> omega) _)
  have hsW : w.heap.size + 1 ≤ W.heap.size := by rw [← hW]; simp
  by_cases z1 : valD xs = 0
  · have d1 := lenD_zero A.wf A.full z1
    have hX : ratOf m1 (valD xs) (valD ds) = 0 := by rw [z1]; exact ratOf_zero_left _ _
    have HX := Lib.hid hX
    have hb2 : Below W.heap.size W (W.alloc (.cells #[.int .i64 1] 3)) := (Below.refl _ _).alloc (Nat.le_refl _) _
    have L := digit_lit (Row.new W 3 #[.int .i64 1]) (by omega)
    have R0' := R0.later hb2
    obtain ⟨u0, u1, u2, g0, g1, g2⟩ := R0'.three
    obtain ⟨p0, p1, p2, p3, p4, p5⟩ := R0.three
    clear hX
    go_enter Tryz.func106, Tryz.ntmps106
    go_wp2_with fail
    refine bodyPost_ret (v := .agg #[.bool false, .slice none 0 0, .slice (some ⟨W.heap.size, 0, none⟩) 1 1]) (by simp [results, Tryz.results106, go_sem, u0, u1, u2]) rfl ⟨_, rfl, ⟨[], [1], none, some ⟨W.heap.size, 0, none⟩, 0, 1, ?_, ?_, ?_, by simp, by simp⟩, ?_⟩
    · rw [HX.out]; rfl
    · rw [HX.out]; exact ⟨⟨rfl, .inl ⟨rfl, rfl⟩⟩, WfD.nil, rfl, rfl⟩
    · rw [HX.out]; exact (ResD.one W (by omega)).far R0' (by decide) (kept3 _ _ _)
    · exact below_set3 (hBW.trans (hb2.mono (by omega))) (by omega) _ _ _
  by_cases z2 : valD ds = 0
  · have d1 := lenD_pos (show 0 < valD xs by omega)
    have d2 := lenD_zero B.wf B.full z2
    have hX : ratOf m1 (valD xs) (valD ds) = 0 := by rw [z2]; exact ratOf_zero_right _ _
    have HX := Lib.hid hX
    have hb2 : Below W.heap.size W (W.alloc (.cells #[.int .i64 1] 3)) := (Below.refl _ _).alloc (Nat.le_refl _) _
    have L := digit_lit (Row.new W 3 #[.int .i64 1]) (by omega)
    have R0' := R0.later hb2
    obtain ⟨u0, u1, u2, g0, g1, g2⟩ := R0'.three
    obtain ⟨p0, p1, p2, p3, p4, p5⟩ := R0.three
    clear hX
    go_enter Tryz.func106, Tryz.ntmps106
    go_wp2_with fail
    refine bodyPost_ret (v := .agg #[.bool false, .slice none 0 0, .slice (some ⟨W.heap.size, 0, none⟩) 1 1]) (by simp [results, Tryz.results106, go_sem, u0, u1, u2]) rfl ⟨_, rfl, ⟨[], [1], none, some ⟨W.heap.size, 0, none⟩, 0, 1, ?_, ?_, ?_, by simp, by simp⟩, ?_⟩
    · rw [HX.out]; rfl
    · rw [HX.out]; exact ⟨⟨rfl, .inl ⟨rfl, rfl⟩⟩, WfD.nil, rfl, rfl⟩
    · rw [HX.out]; exact (ResD.one W (by omega)).far R0' (by decide) (kept3 _ _ _)
    · exact below_set3 (hBW.trans (hb2.mono (by omega))) (by omega) _ _ _
  have hpx : 0 < valD xs := by omega
  have hpd : 0 < valD ds := by omega
  have d1 := lenD_pos hpx
  have d2 := lenD_pos hpd
  have A' := A.later hBW
  have B' := B.later hBW
  have e1 := ratOf_neg (n := m1) h0x hpd (fun h => absurd h z1)
  have e2 := ratOf_abs (n := m1) h0x hpd
  have e3 := ratOf_den (n := m1) (A := valD xs) hpd
  have hgp : 0 < (Int.gcd (valD xs) (valD ds) : Int) := gcd_pos hpx
  have E1 := Lib.hid e1
  have E2 := Lib.hid e2
  have E3 := Lib.hid e3
  clear e1 e2 e3 z1 z2
  go_enter Tryz.func106, Tryz.ntmps106
  go_wp2_with fail
  refine (gcdD_any A' B' (by omega) (by omega)).mono ?_
  rintro e w1 ⟨r1, rfl, gs, gd, gc, G, hG, lG, hb1⟩
  have hs1 := hb1.size
  have A1 := A'.later hb1
  have B1 := B'.later hb1
  have hgs : 0 < valD gs := by rw [hG]; exact hgp
  have HG := Lib.hid hG
  have eG := G.is
  subst eG
  clear hG hgp hW
  go_wp2_with fail
  refine (divD_any A1 G (by omega) (by omega) hgs).mono ?_
  rintro e w2 ⟨r2, s2, rfl, hb2, ⟨z2, q2, l2⟩, _⟩
  have hs2 := hb2.size
  obtain ⟨ad2, cp2, rfl, q2, A2⟩ := q2.slice
  have B2 := B1.later hb2
  have G2 := G.later hb2
  go_wp2_with fail
  refine (divD_any B2 G2 (by omega) (by omega) hgs).mono ?_
  rintro e w3 ⟨r3, s3, rfl, hb3, ⟨z3, q3, l3⟩, _⟩
  have hs3 := hb3.size
  obtain ⟨ad3, cp3, rfl, q3, A3⟩ := q3.slice
  have A2' := A2.later hb3
  have P3 := ((R0.later hb1).later hb2).later hb3
  have v2 := q2.eq
  have v3 := q3.eq
  rw [HG.out] at v2 v3
  have V2 := Lib.hid v2
  have V3 := Lib.hid v3
  have Q2 := Lib.hid (q2.later hb3)
  have Q3 := Lib.hid q3
  clear v2 v3 q2 q3
  obtain ⟨u0, u1, u2, g0, g1, g2⟩ := P3.three
  go_wp2_with fail
  refine bodyPost_ret (v := .agg #[.bool m1, .slice ad2 z2.length cp2, .slice ad3 z3.length cp3]) (by simp [results, Tryz.results106, go_sem, u0, u1, u2]) rfl ⟨_, rfl, ⟨z2, z3, ad2, ad3, cp2, cp3, by rw [E1.out], ?_, ?_, by omega, by omega⟩, ?_⟩
  · exact ((Q2.out.mono (by omega)).far P3 (by decide) (kept3 _ _ _)).eqTo (by rw [V2.out, E2.out])
  · exact ((Q3.out.mono (by omega)).far P3 (by decide) (kept3 _ _ _)).eqTo (by rw [V3.out, E3.out])
  · exact below_set3 (((hBW.trans (hb1.mono (by omega))).trans (hb2.mono (by omega))).trans (hb3.mono (by omega))) (by omega) _ _ _
set_option maxRecDepth 100000 in
set_option maxHeartbeats 4000000 in
theorem ofRR_any {n : Nat} {w : World} {v : Value} {X : Rat} (h : ArgQ w v X n) (hn : n ≤ 134217728) :
    Calls Tryz.prog 79 #[v] w fun e w' => ∃ r, e = .returned r ∧ ResR w.heap.size w' r X (5 * n + 1) ∧ Below w.heap.size w w' := by
  obtain ⟨m1, xs, ds, a1, a2, c1, c2, rfl, A, B, hX, hx, hd⟩ := h
  obtain ⟨W, hW⟩ : ∃ W, ((w.alloc (.cells #[.bool m1, .slice a1 xs.length c1, .slice a2 ds.length c2] 58)).alloc (.cells #[.bool false, .slice none 0 0, .slice none 0 0] 75)) = W := ⟨_, rfl⟩
  have R0 : Row W (w.heap.size) 58 #[.bool m1, .slice a1 xs.length c1, .slice a2 ds.length c2] := by rw [← hW]; exact ((Row.new _ _ _).alloc _)
  have R1 : Row W (w.heap.size + 1) 75 #[.bool false, .slice none 0 0, .slice none 0 0] := by rw [← hW]; have h := (Row.new (w.alloc (.cells #[.bool m1, .slice a1 xs.length c1, .slice a2 ds.length c2] 58)) 75 #[.bool false, .slice none 0 0, .slice none 0 0]); simp only [World.size_alloc] at h; exact h
  have hBW : Below w.heap.size w W := by rw [← hW]; exact (((Below.refl _ _).alloc (by (try simp) <;> omega) _).alloc (by (try simp) <;> omega) _)
  have hsW : w.heap.size + 1 + 1 ≤ W.heap.size := by rw [← hW]; simp
  have HX := Lib.hid hX
  clear hX
  have mkS : ∀ X, Kept (w.heap.size + 1) W X → X.cell? ⟨w.heap.size, 0, none⟩ = some (.bool m1) ∧ X.cell? ⟨w.heap.size, 1, none⟩ = some (.slice a1 xs.length c1) ∧ X.cell? ⟨w.heap.size, 2, none⟩ = some (.slice a2 ds.length c2) ∧ Kept (w.heap.size + 1) W X := fun X h => ⟨(R0.kept h (by omega)).cell 0, (R0.kept h (by omega)).cell 1, (R0.kept h (by omega)).cell 2, h⟩
  go_enter Tryz.func79, Tryz.ntmps79
  go_wp2_with fail
  clear hW
  go_region_held3 (fun X => X.cell? ⟨w.heap.size, 0, none⟩ = some (.bool m1) ∧ X.cell? ⟨w.heap.size, 1, none⟩ = some (.slice a1 xs.length c1) ∧ X.cell? ⟨w.heap.size, 2, none⟩ = some (.slice a2 ds.length c2) ∧ Kept (w.heap.size + 1) W X)
    (((refine mkS _ ?_; (repeat' (first | exact Kept.refl _ _ | refine Kept.drew ?_ | refine Kept.alloc ?_ _ | refine Kept.set ?_ _ _ | refine Kept.below ?_ (by assumption))))))
    ((first
      | (go_at_call 106; refine (makeRR_any (n := 5 * n) (A3.later hb4) A4 (by omega) (by omega) (by omega)).mono ?_; rintro e w5 ⟨r5, rfl, q5, hb5⟩; rw [HV.out] at q5; obtain ⟨fs, gs, f1, f2, j1, j2, e5, _⟩ := id q5; subst e5; have P5 := R1.kept (show Kept (w.heap.size + 1 + 1 + 1) W w5 by (repeat' (first | exact Kept.refl _ _ | refine Kept.drew ?_ | refine Kept.alloc ?_ _ | refine Kept.set ?_ _ _ | refine Kept.below ?_ (by assumption)))) (by omega); obtain ⟨u0, u1, u2, g0, g1, g2⟩ := P5.three)
      | (go_at_call 107; (with_reducible refine (of_any (B.later (Kept.under (show Kept (w.heap.size + 1) W _ by (repeat' (first | exact Kept.refl _ _ | refine Kept.drew ?_ | refine Kept.alloc ?_ _ | refine Kept.set ?_ _ _ | refine Kept.below ?_ (by assumption)))) hBW (by omega) (by omega))) (by omega)).mono ?_); rintro e w4 ⟨r4, rfl, z4, q4, l4, hb4⟩; obtain ⟨ad4, cp4, rfl, q4, A4⟩ := q4.slice; have HV := Lib.hid ((show ratOf m1 (valD z3) (valD z4) = ratOf m1 (val xs) (val ds) by rw [q3.eq, q4.eq]).trans HX.out))
      | (go_at_call 107; (with_reducible refine (of_any (A.later (Kept.under (show Kept (w.heap.size + 1) W _ by (repeat' (first | exact Kept.refl _ _ | refine Kept.drew ?_ | refine Kept.alloc ?_ _ | refine Kept.set ?_ _ _ | refine Kept.below ?_ (by assumption)))) hBW (by omega) (by omega))) (by omega)).mono ?_); rintro e w3 ⟨r3, rfl, z3, q3, l3, hb3⟩; obtain ⟨ad3, cp3, rfl, q3, A3⟩ := q3.slice)))
  have hs5 := hb5.size
  have hk5 := (show Kept (w.heap.size + 1 + 1 + 1) W w5 by (repeat' (first | exact Kept.refl _ _ | refine Kept.drew ?_ | refine Kept.alloc ?_ _ | refine Kept.set ?_ _ _ | refine Kept.below ?_ (by assumption)))).size
  have hk4 := (show Kept (w.heap.size + 1 + 1 + 1) W w4 by (repeat' (first | exact Kept.refl _ _ | refine Kept.drew ?_ | refine Kept.alloc ?_ _ | refine Kept.set ?_ _ _ | refine Kept.below ?_ (by assumption)))).size
  have hK5 := (Kept.under (show Kept (w.heap.size + 1 + 1 + 1) W w5 by (repeat' (first | exact Kept.refl _ _ | refine Kept.drew ?_ | refine Kept.alloc ?_ _ | refine Kept.set ?_ _ _ | refine Kept.below ?_ (by assumption)))) hBW (by omega) (by omega))
  go_wp2_with fail
  refine bodyPost_ret (v := .agg #[.bool (decide (X.num < 0)), .slice f1 fs.length j1, .slice f2 gs.length j2]) (by simp [results, Tryz.results79, go_sem, u0, u1, u2]) rfl ⟨_, rfl, ?_, below_set3 hK5 (by omega) _ _ _⟩
  exact (q5.far P5 (by decide) (kept3 _ _ _)).mono (by omega)
set_option maxRecDepth 100000 in
set_option maxHeartbeats 4000000 in
theorem ownRR_any {w : World} {m1 : Bool} {xs ds : List Int} {a1 a2 : Option Addr} {c1 c2 : Nat} (A : Arg w (.slice a1 xs.length c1) xs a1 c1) (B : Arg w (.slice a2 ds.length c2) ds a2 c2)
    (hx : xs.length ≤ 134217728) (hd : ds.length ≤ 134217728) (n1 : a1 = none → c1 = 0) (n2 : a2 = none → c2 = 0) :
    Calls Tryz.prog 45 #[.agg #[.bool m1, .slice a1 xs.length c1, .slice a2 ds.length c2]] w fun e w' => ∃ r, e = .returned r ∧ RawO w.heap.size w' r ⟨m1, xs, ds⟩ ∧ Below w.heap.size w w' := by
  have HWX := Lib.hid A.wf
  have HWD := Lib.hid B.wf
  have N1 := Lib.hid n1
  have N2 := Lib.hid n2
  clear n1 n2
  obtain ⟨W, hW⟩ : ∃ W, ((w.alloc (.cells #[.bool m1, .slice a1 xs.length c1, .slice a2 ds.length c2] 58)).alloc (.cells #[.bool false, .slice none 0 0, .slice none 0 0] 58)) = W := ⟨_, rfl⟩
  have R0 : Row W (w.heap.size) 58 #[.bool m1, .slice a1 xs.length c1, .slice a2 ds.length c2] := by rw [← hW]; exact ((Row.new _ _ _).alloc _)
  have R1 : Row W (w.heap.size + 1) 58 #[.bool false, .slice none 0 0, .slice none 0 0] := by rw [← hW]; have h := (Row.new (w.alloc (.cells #[.bool m1, .slice a1 xs.length c1, .slice a2 ds.length c2] 58)) 58 #[.bool false, .slice none 0 0, .slice none 0 0]); simp only [World.size_alloc] at h; exact h
  have hBW : Below w.heap.size w W := by rw [← hW]; exact (((Below.refl _ _).alloc (by (try simp) <;> omega) _).alloc (by (try simp) <;> omega) _)
  have hsW : w.heap.size + 1 + 1 ≤ W.heap.size := by rw [← hW]; simp
  have mkS : ∀ X, Kept (w.heap.size + 1) W X → X.cell? ⟨w.heap.size, 0, none⟩ = some (.bool m1) ∧ X.cell? ⟨w.heap.size, 1, none⟩ = some (.slice a1 xs.length c1) ∧ X.cell? ⟨w.heap.size, 2, none⟩ = some (.slice a2 ds.length c2) ∧ Kept (w.heap.size + 1) W X := fun X h => ⟨(R0.kept h (by omega)).cell 0, (R0.kept h (by omega)).cell 1, (R0.kept h (by omega)).cell 2, h⟩
  go_enter Tryz.func45, Tryz.ntmps45
  go_wp2_with fail
  clear hW
  go_region_held3 (fun X => X.cell? ⟨w.heap.size, 0, none⟩ = some (.bool m1) ∧ X.cell? ⟨w.heap.size, 1, none⟩ = some (.slice a1 xs.length c1) ∧ X.cell? ⟨w.heap.size, 2, none⟩ = some (.slice a2 ds.length c2) ∧ Kept (w.heap.size + 1) W X)
    (((refine mkS _ ?_; (repeat' (first | exact Kept.refl _ _ | refine Kept.drew ?_ | refine Kept.alloc ?_ _ | refine Kept.set ?_ _ _ | refine Kept.below ?_ (by assumption))))))
    ((first
      | (go_at_call 89; (with_reducible refine (own_any (B.later (Kept.under (show Kept (w.heap.size + 1) W _ by (repeat' (first | exact Kept.refl _ _ | refine Kept.drew ?_ | refine Kept.alloc ?_ _ | refine Kept.set ?_ _ _ | refine Kept.below ?_ (by assumption)))) hBW (by omega) (by omega))) hd N2.out).mono ?_); rintro e w4 ⟨r4, rfl, q4, ad4, cp4, A4, hn4, hb4⟩; have e4 := A4.is; subst e4; have P4 := R1.kept (show Kept (w.heap.size + 1 + 1 + 1) W w4 by (repeat' (first | exact Kept.refl _ _ | refine Kept.drew ?_ | refine Kept.alloc ?_ _ | refine Kept.set ?_ _ _ | refine Kept.below ?_ (by assumption)))) (by omega); have M4 := Lib.hid hn4; clear hn4; obtain ⟨u0, u1, u2, g0, g1, g2⟩ := P4.three)
      | (go_at_call 89; (with_reducible refine (own_any (A.later (Kept.under (show Kept (w.heap.size + 1) W _ by (repeat' (first | exact Kept.refl _ _ | refine Kept.drew ?_ | refine Kept.alloc ?_ _ | refine Kept.set ?_ _ _ | refine Kept.below ?_ (by assumption)))) hBW (by omega) (by omega))) hx N1.out).mono ?_); rintro e w3 ⟨r3, rfl, q3, ad3, cp3, A3, hn3, hb3⟩; have e3 := A3.is; subst e3; have M3 := Lib.hid hn3; clear hn3)))
  have Q3 := Lib.hid (q3.later hb4)
  have Q4 := Lib.hid q4
  clear q3 q4
  have hk4 := (show Kept (w.heap.size + 1 + 1 + 1) W w4 by (repeat' (first | exact Kept.refl _ _ | refine Kept.drew ?_ | refine Kept.alloc ?_ _ | refine Kept.set ?_ _ _ | refine Kept.below ?_ (by assumption)))).size
  have hk3 := (show Kept (w.heap.size + 1 + 1 + 1) W w3 by (repeat' (first | exact Kept.refl _ _ | refine Kept.drew ?_ | refine Kept.alloc ?_ _ | refine Kept.set ?_ _ _ | refine Kept.below ?_ (by assumption)))).size
  have hK4 := (Kept.under (show Kept (w.heap.size + 1 + 1 + 1) W w4 by (repeat' (first | exact Kept.refl _ _ | refine Kept.drew ?_ | refine Kept.alloc ?_ _ | refine Kept.set ?_ _ _ | refine Kept.below ?_ (by assumption)))) hBW (by omega) (by omega))
  go_wp2_with fail
  refine bodyPost_ret (v := .agg #[.bool m1, .slice ad3 xs.length cp3, .slice ad4 ds.length cp4]) (by simp [results, Tryz.results45, go_sem, u0, u1, u2]) rfl ⟨_, rfl, ⟨ad3, ad4, cp3, cp4, rfl, ?_, ?_, HWX.out, HWD.out⟩, below_set3 hK4 (by omega) _ _ _⟩
  · exact (Q3.out.mono (by show w.heap.size ≤ W.heap.size; omega)).far P4 (by decide) (kept3 _ _ _)
  · exact (Q4.out.mono (by omega)).far P4 (by decide) (kept3 _ _ _)
end
end Go.Proofs.YtooglnhlhgmhdaaGreat
