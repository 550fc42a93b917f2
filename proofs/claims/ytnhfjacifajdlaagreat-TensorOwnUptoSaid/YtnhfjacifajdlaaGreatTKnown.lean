/-
  The laws of layer 7: known.
-/
import Derived.Test.YtnhfjacifajdlaaGreatTSpec
import Derived.Deep.RegionHeld3
namespace Go.Proofs.YtnhfjacifajdlaaGreat
open Go.RowKit
set_option linter.unusedVariables false
set_option linter.unusedSimpArgs false

theorem belowJ {a x y : World} (h : Below a.heap.size a x) (k : Below x.heap.size x y) : Below a.heap.size a y := h.trans (k.mono h.size)
theorem may22 : mayC [2, 2] = 0 := by decide +kernel
theorem count22 : countS [2, 2] = 4 := by decide +kernel
theorem intQ_fit (k : Int) (b : Nat) (h : k.natAbs ≤ 2 ^ b) : FitQ (intQ k) b := by
  obtain ⟨_, h2, h3⟩ := intQ_parts k
  have hp : 1 ≤ 2 ^ b := Nat.one_le_two_pow
  constructor
  · omega
  · omega
theorem dot30 : dotN [intQ 1, intQ 2, intQ 3, intQ 4] [intQ 1, intQ 2, intQ 3, intQ 4] 4 = intQ 30 := by decide +kernel
theorem dotFit {k : Nat} (h : k ≤ 4) : FitQ (dotN [intQ 1, intQ 2, intQ 3, intQ 4] [intQ 1, intQ 2, intQ 3, intQ 4] k) 10 := by
  rcases (show k = 0 ∨ k = 1 ∨ k = 2 ∨ k = 3 ∨ k = 4 by omega) with rfl | rfl | rfl | rfl | rfl
  · unfold FitQ; decide +kernel
  · unfold FitQ; decide +kernel
  · unfold FitQ; decide +kernel
  · unfold FitQ; decide +kernel
  · unfold FitQ; decide +kernel
theorem nbits_eq {n k : Nat} (h : IsBits (n : Int) k) : nbits n = k := (nbits_is n).unique h
theorem bits3 : bitsN7 [intQ 1, intQ 2, intQ 3, intQ 4] 4 = 3 := by
  have b1 : bitsX (intQ 1) = 1 := by
    unfold bitsX
    rw [show (intQ 1).num.natAbs = 1 by decide +kernel, show (intQ 1).den = 1 by decide +kernel, nbits_eq (n := 1) (k := 1) (.inr ⟨0, by decide, by decide, by decide⟩)]
    decide
  have b2 : bitsX (intQ 2) = 2 := by
    unfold bitsX
    rw [show (intQ 2).num.natAbs = 2 by decide +kernel, show (intQ 2).den = 1 by decide +kernel, nbits_eq (n := 2) (k := 2) (.inr ⟨1, by decide, by decide, by decide⟩), nbits_eq (n := 1) (k := 1) (.inr ⟨0, by decide, by decide, by decide⟩)]
    decide
  have b3 : bitsX (intQ 3) = 2 := by
    unfold bitsX
    rw [show (intQ 3).num.natAbs = 3 by decide +kernel, show (intQ 3).den = 1 by decide +kernel, nbits_eq (n := 3) (k := 2) (.inr ⟨1, by decide, by decide, by decide⟩), nbits_eq (n := 1) (k := 1) (.inr ⟨0, by decide, by decide, by decide⟩)]
    decide
  have b4 : bitsX (intQ 4) = 3 := by
    unfold bitsX
    rw [show (intQ 4).num.natAbs = 4 by decide +kernel, show (intQ 4).den = 1 by decide +kernel, nbits_eq (n := 4) (k := 3) (.inr ⟨2, by decide, by decide, by decide⟩), nbits_eq (n := 1) (k := 1) (.inr ⟨0, by decide, by decide, by decide⟩)]
    decide
  simp only [bitsN7, List.getD_cons_zero, List.getD_cons_succ, b1, b2, b3, b4]
  decide
theorem atC22 {qs : List Q3} (h : mayT [2, 2] qs = 0) : atC [2, 2] qs [1, 0] = 0 := by
  unfold atC
  rw [if_neg (by rw [h]; simp)]
  decide +kernel
theorem offV22 : (offV [2, 2] [1, 0]).toNat = 2 := by decide +kernel
theorem makeC22 : makeC [2, 2] 3 = 13 := by decide +kernel
theorem mayT_22 {qs : List Q3} (h : qs.length = 4) (h2 : ∀ q ∈ qs, okQ q = true) : mayT [2, 2] qs = 0 := mayT_ok may22 (by rw [h, count22]; rfl) h2
theorem dotC22 {qs : List Q3} (h : mayT [2, 2] qs = 0) : dotC [2, 2] [2, 2] qs qs = 0 := by
  unfold dotC
  rw [if_neg (by rw [h]; simp), if_neg (by rw [h]; simp), if_neg (by simp)]

set_option maxRecDepth 100000 in
set_option maxHeartbeats 8000000 in
theorem known7_any (w : World) : Calls Tryz.prog 14 #[] w fun e w' => e = .returned (.bool true) ∧ Below w.heap.size w w' := by
  go_enter Tryz.func14, Tryz.ntmps14
  go_wp2_with fail
  have L1 := (ArgS.lit w [2, 2] (by intro x hx; simp at hx; omega)).later ((Below.refl _ _).alloc (Nat.le_refl _) (.cells #[.int .i64 1, .int .i64 2, .int .i64 3, .int .i64 4] 3))
  have L2 := ArgS.lit (w.alloc (.cells #[.int .i64 2, .int .i64 2] 3)) [1, 2, 3, 4] (by intro x hx; simp at hx; omega)
  simp only [World.size_alloc] at L2
  have hB0 : Below w.heap.size w ((w.alloc (.cells #[.int .i64 2, .int .i64 2] 3)).alloc (.cells #[.int .i64 1, .int .i64 2, .int .i64 3, .int .i64 4] 3)) := ((Below.refl _ _).alloc (by simp) _).alloc (by simp) _
  refine (whole_any L1 (by intro h; cases h) L2 (by simp) (by simp)).mono ?_
  rintro e w1 ⟨r1, rfl, rt, hb1⟩
  have hB1 : Below w.heap.size w w1 := hB0.trans (hb1.mono hB0.size)
  clear hB0 hb1 L1 L2
  obtain ⟨qs, a, b, ca, cb, T, hqs, hlq, hok⟩ := rt.tens
  have hq4 : qs.length = 4 := by have := congrArg List.length hqs; simpa using this
  have hmay := mayT_22 hq4 hok
  have T0 := T.is
  rw [hq4] at T0
  subst T0
  have HT := Lib.hid T
  have HQS := Lib.hid hqs
  have HLQ := Lib.hid hlq
  have HM := Lib.hid hmay
  have HQ4 := Lib.hid hq4
  have hs1 := hB1.size
  clear T rt hqs hlq hok hmay hq4
  go_wp2_with fail
  have L3 := ArgS.lit (w1.alloc (.cells #[.slice a 2 ca, .slice b 4 cb] 26)) [1, 0] (by intro x hx; simp at hx; omega)
  simp only [World.size_alloc] at L3
  have hB2 : Below w1.heap.size w1 ((w1.alloc (.cells #[.slice a 2 ca, .slice b 4 cb] 26)).alloc (.cells #[.int .i64 1, .int .i64 0] 3)) := ((Below.refl _ _).alloc (by simp) _).alloc (by simp) _
  have R1 : Row ((w1.alloc (.cells #[.slice a 2 ca, .slice b 4 cb] 26)).alloc (.cells #[.int .i64 1, .int .i64 0] 3)) w1.heap.size 26 #[.slice a 2 ca, .slice b 4 cb] := (Row.new _ _ _).alloc _
  refine (atT7_any (n := 6) (HT.out.later hB2) L3 (by intro h; cases h) (by simp) (by rw [HQ4.out]; omega) HLQ.out (by omega) (by simp)).mono ?_
  rintro e w2 ⟨r2, rfl, h2, _, hb2⟩
  have hat := atC22 HM.out
  obtain ⟨q, hq, X2⟩ := h2 hat
  rw [offV22] at hq
  have hqx : q.rat = intQ 3 := by
    have h3 := congrArg (fun l => l[2]?) HQS.out
    simp [hq] at h3
    exact h3
  rw [hqx] at X2
  obtain ⟨m2, f1, l1, j1, f2, l2, j2, rfl⟩ := X2.shape
  rw [hat]
  have T2 := HT.out.later (hB2.trans (hb2.mono hB2.size))
  have R2 := R1.later hb2
  have hB2w : Below w.heap.size w w2 := hB1.trans ((hB2.trans (hb2.mono hB2.size)).mono hs1)
  have R2a := R2.alloc (.cells #[.bool m2, .slice f1 l1 j1, .slice f2 l2 j2] 44)
  have RX2 := Row.new w2 44 #[.bool m2, .slice f1 l1 j1, .slice f2 l2 j2]
  obtain ⟨c0, c1, _, _⟩ := R2a.two
  have hB3 : Below w2.heap.size w2 (w2.alloc (.cells #[.bool m2, .slice f1 l1 j1, .slice f2 l2 j2] 44)) := (Below.refl _ _).alloc (Nat.le_refl _) _
  have HX2 := Lib.hid (X2.later hB3)
  have HT2 := Lib.hid (T2.later hB3)
  have hlt1 := R2.lt
  have HB2w := Lib.hid (hB2w.trans (hB3.mono hB2w.size))
  have HRX2 := Lib.hid RX2
  have HR2 := Lib.hid R2a
  clear h2 hat hq hqx X2 T2 L3 R1 hb2 hB2 hB1 hs1 RX2 R2a R2 hB3 hB2w HT
  go_wp2_with fail
  have hfit : ∀ k, k ≤ qs.length → FitQ (dotN (qs.map Q3.rat) (qs.map Q3.rat) k) 10 := fun k hk => by
    rw [HQ4.out] at hk
    rw [HQS.out]
    exact dotFit hk
  refine (dotT7_any (n := 6) (B := 10) HT2.out HT2.out (by simp) (by simp) (by rw [HQ4.out]; omega) (by rw [HQ4.out]; omega) HLQ.out HLQ.out (by omega) (fun _ => hfit) (by omega)).mono ?_
  rintro e w3 ⟨r3, rfl, h3, _, hb3⟩
  have hd0 := dotC22 HM.out
  have X3 := h3 hd0
  rw [HQ4.out, HQS.out, show ([1, 2, 3, 4] : List Int).map intQ = [intQ 1, intQ 2, intQ 3, intQ 4] from rfl, dot30] at X3
  obtain ⟨m3, f3, l3, j3, f4, l4, j4, rfl⟩ := X3.shape
  rw [hd0]
  generalize w2.alloc (.cells #[.bool m2, .slice f1 l1 j1, .slice f2 l2 j2] 44) = V2 at *
  obtain ⟨V3, hV3⟩ : ∃ V, (w3.alloc (.cells #[.bool m3, .slice f3 l3 j3, .slice f4 l4 j4] 44)).alloc (.cells #[.int .i64 2, .int .i64 2] 3) = V := ⟨_, rfl⟩
  have hbV : Below w3.heap.size w3 V3 := by rw [← hV3]; exact ((Below.refl _ _).alloc (by simp) _).alloc (by simp) _
  have hbV2 : Below V2.heap.size V2 V3 := hb3.trans (hbV.mono hb3.size)
  have RX3 : Row V3 w3.heap.size 44 #[.bool m3, .slice f3 l3 j3, .slice f4 l4 j4] := by rw [← hV3]; exact (Row.new _ _ _).alloc _
  have L4 : ArgS V3 (.slice (some ⟨w3.heap.size + 1, 0, none⟩) 2 2) [2, 2] (some ⟨w3.heap.size + 1, 0, none⟩) 2 := by
    rw [← hV3]
    have h := ArgS.lit (w3.alloc (.cells #[.bool m3, .slice f3 l3 j3, .slice f4 l4 j4] 44)) [2, 2] (by intro x hx; simp at hx; omega)
    simp only [World.size_alloc] at h
    exact h
  have HX3 := Lib.hid (X3.later hbV)
  have HX2' := Lib.hid (HX2.out.later hbV2)
  have HT2' := Lib.hid (HT2.out.later hbV2)
  have HRX2' := Lib.hid (HRX2.out.later hbV2)
  have HR2' := Lib.hid (HR2.out.later hbV2)
  have HBV := Lib.hid (HB2w.out.trans (hbV2.mono HB2w.out.size))
  have HRX3 := Lib.hid RX3
  have HL4 := Lib.hid L4
  have q1 := int_any 1 V3 (by omega) (by omega)
  clear h3 hd0 X3 hb3 hbV hbV2 RX3 L4 c0 c1 hfit HX2 HT2 HRX2 HR2 HB2w
  go_wp2_with (go_at_call 50; refine q1.mono ?_; rintro e x1 ⟨i1, rfl, I1, g1⟩)
  have q2 := int_any 2 x1 (by omega) (by omega)
  go_wp2_with fail
  refine q2.mono ?_
  rintro e x2 ⟨i2, rfl, I2, g2⟩
  have q3 := int_any 3 x2 (by omega) (by omega)
  go_wp2_with fail
  refine q3.mono ?_
  rintro e x3 ⟨i3, rfl, I3, g3⟩
  have hg12 : Below x1.heap.size x1 x3 := g2.trans (g3.mono g2.size)
  have hg : Below V3.heap.size V3 x3 := g1.trans (hg12.mono g1.size)
  obtain ⟨p1, W1, e1, lp1, lp1', _⟩ := ResQ.raw (I1.later hg12)
  obtain ⟨p2, W2, e2, lp2, lp2', _⟩ := ResQ.raw (I2.later g3)
  obtain ⟨p3, W3, e3, lp3, lp3', _⟩ := ResQ.raw I3
  obtain ⟨u1, n1a, n1, n1c, n2a, n2, n2c, rfl⟩ := I1.shape
  obtain ⟨u2, n3a, n3, n3c, n4a, n4, n4c, rfl⟩ := I2.shape
  obtain ⟨u3, n5a, n5, n5c, n6a, n6, n6c, rfl⟩ := I3.shape
  clear q1 q2 q3 I1 I2 I3 hg12 g1 g2 g3
  go_wp2_with fail
  have hB4 : Below x3.heap.size x3 (x3.alloc (.cells #[.bool u1, .slice n1a n1 n1c, .slice n2a n2 n2c, .bool u2, .slice n3a n3 n3c, .slice n4a n4 n4c, .bool u3, .slice n5a n5 n5c, .slice n6a n6 n6c] 44)) := (Below.refl _ _).alloc (Nat.le_refl _) _
  have RL := Row.new x3 44 #[.bool u1, .slice n1a n1 n1c, .slice n2a n2 n2c, .bool u2, .slice n3a n3 n3c, .slice n4a n4 n4c, .bool u3, .slice n5a n5 n5c, .slice n6a n6 n6c]
  have hE : RowA RawQ (x3.alloc (.cells #[.bool u1, .slice n1a n1 n1c, .slice n2a n2 n2c, .bool u2, .slice n3a n3 n3c, .slice n4a n4 n4c, .bool u3, .slice n5a n5 n5c, .slice n6a n6 n6c] 44)) (.slice (some ⟨x3.heap.size, 0, none⟩) 3 3) [p1, p2, p3] (some ⟨x3.heap.size, 0, none⟩) 3 := by
    refine ⟨rfl, Nat.le_refl _, .inr ⟨x3.heap.size, 0, [⟨.bool u1, .slice n1a n1 n1c, .slice n2a n2 n2c⟩, ⟨.bool u2, .slice n3a n3 n3c, .slice n4a n4 n4c⟩, ⟨.bool u3, .slice n5a n5 n5c, .slice n6a n6 n6c⟩], rfl, fun i e he => ?_, rfl, fun i e x he hx => ?_⟩⟩
    · match i, he with
      | 0, he => simp at he; subst he; exact ⟨RL.cell 0, RL.cell 1, RL.cell 2⟩
      | 1, he => simp at he; subst he; exact ⟨RL.cell 3, RL.cell 4, RL.cell 5⟩
      | 2, he => simp at he; subst he; exact ⟨RL.cell 6, RL.cell 7, RL.cell 8⟩
      | i + 3, he => simp at he
    · match i, he, hx with
      | 0, he, hx => simp at he hx; subst he; subst hx; exact W1.later hB4
      | 1, he, hx => simp at he hx; subst he; subst hx; exact W2.later hB4
      | 2, he, hx => simp at he hx; subst he; subst hx; exact W3.later hB4
      | i + 3, he, hx => simp at he
  have hlp : lensQ [p1, p2, p3] 2 := fun q hq => by
    simp only [List.mem_cons, List.not_mem_nil, or_false] at hq
    rcases hq with rfl | rfl | rfl
    · exact ⟨lp1, lp1'⟩
    · exact ⟨lp2, lp2'⟩
    · exact ⟨lp3, lp3'⟩
  have hgB : Below V3.heap.size V3 _ := hg.trans (hB4.mono hg.size)
  refine (makeT7_any (n := 2) (HL4.out.later hgB) (by intro h; cases h) hE (by intro h; cases h) (by simp) (by simp) hlp (by omega)).mono ?_
  rintro e w4 ⟨r4, rfl, _, h4, hb4⟩
  have hm4 : makeC [2, 2] [p1, p2, p3].length = 13 := makeC22
  have hr4 := h4 (by rw [hm4]; decide)
  subst hr4
  rw [hm4]
  have hV4 : Below V3.heap.size V3 w4 := hgB.trans (hb4.mono hgB.size)
  have hT9 := HT2'.out.later hV4
  have r1c := HR2'.out.later hV4
  have r2c := HRX2'.out.later hV4
  have r3c := HRX3.out.later hV4
  have x2c := HX2'.out.later hV4
  have x3c := HX3.out.later hV4
  have hBw := HBV.out.trans (hV4.mono HBV.out.size)
  clear hE hlp hgB h4 hm4 hb4 RL hB4 W1 W2 W3 e1 e2 e3 hg
  unfold noTensor
  have hB5 : Below w4.heap.size w4 (w4.alloc (.cells #[.slice none 0 0, .slice none 0 0] 26)) := (Below.refl _ _).alloc (Nat.le_refl _) _
  have hT5 := hT9.later hB5
  have r15 := r1c.later hB5
  have r25 := r2c.later hB5
  have r35 := r3c.later hB5
  have x25 := x2c.later hB5
  have x35 := x3c.later hB5
  have hBw5 := hBw.trans (hB5.mono hBw.size)
  clear hT9 r1c r2c r3c x2c x3c hBw hB5
  go_wp2_with fail
  generalize w4.alloc (.cells #[.slice none 0 0, .slice none 0 0] 26) = V5 at *
  have hIs3 : ∀ X u, Below V5.heap.size V5 X → ArgR X u (intQ 3) 6 → Calls Tryz.prog 30 #[u, .agg #[.bool m2, .slice f1 l1 j1, .slice f2 l2 j2]] X fun e w' => e = .returned (.bool true) ∧ Below X.heap.size X w' := fun X u hX hu => isR_true hu (x25.later hX) (by omega) (by omega)
  have hIs30 : ∀ X u, Below V5.heap.size V5 X → ArgR X u (intQ 30) 6 → Calls Tryz.prog 30 #[u, .agg #[.bool m3, .slice f3 l3 j3, .slice f4 l4 j4]] X fun e w' => e = .returned (.bool true) ∧ Below X.heap.size X w' := fun X u hX hu => isR_true hu (x35.later hX) (by omega) (by omega)
  have hBits : ∀ X, Below V5.heap.size V5 X → Calls Tryz.prog 33 #[.agg #[.slice a 2 ca, .slice b 4 cb]] X fun e w' => e = .returned (.int .i64 3) ∧ Below X.heap.size X w' := fun X hX => by
    have h := bitsT7_any (n := 6) (hT5.later hX) (by simp) (by rw [HQ4.out]; omega) HLQ.out (by omega)
    rw [HQS.out, HQ4.out, show ([1, 2, 3, 4] : List Int).map intQ = [intQ 1, intQ 2, intQ 3, intQ 4] from rfl, bits3] at h
    exact h
  have mkS : ∀ X, Below V5.heap.size V5 X → (X.cell? ⟨w2.heap.size, 0, none⟩ = some (.bool m2) ∧ X.cell? ⟨w2.heap.size, 1, none⟩ = some (.slice f1 l1 j1) ∧ X.cell? ⟨w2.heap.size, 2, none⟩ = some (.slice f2 l2 j2)) ∧ (X.cell? ⟨w3.heap.size, 0, none⟩ = some (.bool m3) ∧ X.cell? ⟨w3.heap.size, 1, none⟩ = some (.slice f3 l3 j3) ∧ X.cell? ⟨w3.heap.size, 2, none⟩ = some (.slice f4 l4 j4)) ∧
      (X.cell? ⟨w1.heap.size, 0, none⟩ = some (.slice a 2 ca) ∧ X.cell? ⟨w1.heap.size, 1, none⟩ = some (.slice b 4 cb)) ∧ Below V5.heap.size V5 X := fun X h =>
    ⟨⟨(r25.later h).cell 0, (r25.later h).cell 1, (r25.later h).cell 2⟩, ⟨(r35.later h).cell 0, (r35.later h).cell 1, (r35.later h).cell 2⟩, ⟨(r15.later h).cell 0, (r15.later h).cell 1⟩, h⟩
  clear r15 r25 r35 x25 x35 hT5
  go_region_held3 (fun X => (X.cell? ⟨w2.heap.size, 0, none⟩ = some (.bool m2) ∧ X.cell? ⟨w2.heap.size, 1, none⟩ = some (.slice f1 l1 j1) ∧ X.cell? ⟨w2.heap.size, 2, none⟩ = some (.slice f2 l2 j2)) ∧ (X.cell? ⟨w3.heap.size, 0, none⟩ = some (.bool m3) ∧ X.cell? ⟨w3.heap.size, 1, none⟩ = some (.slice f3 l3 j3) ∧ X.cell? ⟨w3.heap.size, 2, none⟩ = some (.slice f4 l4 j4)) ∧
      (X.cell? ⟨w1.heap.size, 0, none⟩ = some (.slice a 2 ca) ∧ X.cell? ⟨w1.heap.size, 1, none⟩ = some (.slice b 4 cb)) ∧ Below V5.heap.size V5 X)
    (((refine mkS _ ?_; (first | assumption | exact (Below.refl _ _).drew))))
    ((first
      | (go_at_call 51; (with_reducible refine (intR_any 3 _ (by omega) (by omega)).mono ?_); rintro e y1 ⟨k1, rfl, K1, hy1⟩; have hz1 : Below V5.heap.size V5 y1 := belowJ (show Below V5.heap.size V5 _ by first | assumption | exact (Below.refl _ _).drew) hy1; clear hy1)
      | (go_at_call 51; (with_reducible refine (intR_any 30 _ (by omega) (by omega)).mono ?_); rintro e y3 ⟨k3, rfl, K3, hy3⟩; have hz3 : Below V5.heap.size V5 y3 := belowJ (show Below V5.heap.size V5 _ by first | assumption | exact (Below.refl _ _).drew) hy3; clear hy3)
      | (go_at_call 30; (with_reducible refine (hIs3 _ _ (by assumption) (by assumption)).mono ?_); rintro e y2 ⟨rfl, hy2⟩; have hz2 : Below V5.heap.size V5 y2 := belowJ (by assumption) hy2; clear hy2)
      | (go_at_call 30; (with_reducible refine (hIs30 _ _ (by assumption) (by assumption)).mono ?_); rintro e y4 ⟨rfl, hy4⟩; have hz4 : Below V5.heap.size V5 y4 := belowJ (by assumption) hy4; clear hy4)
      | (go_at_call 33; (with_reducible refine (hBits _ (by assumption)).mono ?_); rintro e y5 ⟨rfl, hy5⟩; have hz5 : Below V5.heap.size V5 y5 := belowJ (by assumption) hy5; clear hy5)))
  go_wp2_with fail
  go_ret
  exact ⟨rfl, hBw5.trans (by first | exact hz5.mono hBw5.size | exact (hz5.drew).mono hBw5.size)⟩
end Go.Proofs.YtnhfjacifajdlaaGreat
