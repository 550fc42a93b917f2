/-
  Layer 7's law TensorLinear: for any three tensors and any number the law holds (arguments that hold together at most 1048576 values).
-/
import Derived.Test.YtnhfjacifajdlaaGreatTLinM
import Derived.Test.YtnhfjacifajdlaaGreatTReg
namespace Go.Proofs.YtnhfjacifajdlaaGreat
open Go.RowKit
set_option linter.unusedVariables false
set_option linter.unusedSimpArgs false

theorem sameQR_true {n : Nat} {w : World} {u v : Value} {X : Rat} (hu : ArgQ w u X n) (hv : ArgQ w v X n) (hn : n ≤ 16777000) :
    Calls Tryz.prog 39 #[u, v] w fun e w' => e = .returned (.bool true) ∧ Below w.heap.size w w' := by
  have h := sameQR_any hu hv hn
  rwa [decide_eq_true (rfl : X = X)] at h
/-- the product of two valid tensors of one shape -/
theorem dot_good {n B N : Nat} {w : World} {u v : Value} {s1 s2 : List Int} {q1 q2 : List Q3} {a1 b1 a2 b2 : Option Addr} {ca1 cb1 ca2 cb2 : Nat} {x : Rat} (T1 : TensQ w u s1 q1 a1 ca1 b1 cb1) (T2 : TensQ w v s2 q2 a2 ca2 b2 cb2) (hss : s1 = s2) (hs1 : s1.length ≤ 1048576) (hq1 : q1.length ≤ 1048576) (hq2 : q2.length ≤ 1048576) (hl1 : lensQ q1 n) (hl2 : lensQ q2 n) (hn : n ≤ 4000000)
    (m1 : mayT s1 q1 = 0) (m2 : mayT s2 q2 = 0) (hfit : ∀ k, k ≤ q1.length → FitQ (dotN (q1.map Q3.rat) (q2.map Q3.rat) k) B) (hB : B ≤ 100000000) (hx : dotN (q1.map Q3.rat) (q2.map Q3.rat) q1.length = x) (hN : B / 32 + 1 ≤ N) :
    Calls Tryz.prog 35 #[u, v] w fun e w' => ∃ r, e = .returned (.tuple #[r, .int .i64 0]) ∧ ResQ w.heap.size w' r x N ∧ Below w.heap.size w w' := by
  subst hss
  have hd : dotC s1 s1 q1 q2 = 0 := by unfold dotC; simp [m1, m2]
  have h := dotT7_any T1 T2 hs1 hs1 hq1 hq2 hl1 hl2 hn (fun _ => hfit) hB
  rw [hd, hx] at h
  refine h.mono ?_
  rintro e w' ⟨r, rfl, g, _, hb⟩
  exact ⟨r, rfl, (g rfl).more hN, hb⟩
theorem lens_more {qs : List Q3} {n m : Nat} (h : lensQ qs n) (hm : n ≤ m) : lensQ qs m := fun q hq => ⟨Nat.le_trans (h q hq).1 hm, Nat.le_trans (h q hq).2 hm⟩
set_option maxRecDepth 100000 in
set_option maxHeartbeats 40000000 in
theorem tensorLinear_walk {u1 u2 u3 u4 : Value} {s1 s2 s3 : List Int} {q1 q2 q3 : List Q3} {x : Q3} {a1 b1 a2 b2 a3 b3 : Option Addr} {ca1 cb1 ca2 cb2 ca3 cb3 : Nat} (w : World) (T1 : TensQ w u1 s1 q1 a1 ca1 b1 cb1) (T2 : TensQ w u2 s2 q2 a2 ca2 b2 cb2) (T3 : TensQ w u3 s3 q3 a3 ca3 b3 cb3) (X0 : RawQ w u4 x)
    (hsum : sizeQs q1 + sizeQs q2 + sizeQs q3 + sizeQ x ≤ 1048576) (ls1 : s1.length ≤ 1048576) (ls2 : s2.length ≤ 1048576) (ls3 : s3.length ≤ 1048576) :
    Calls Tryz.prog 9 #[u1, u2, u3, u4] w fun e W' => e = .returned (.bool true) ∧ Below w.heap.size w W' := by
  have HT1 := Lib.hid T1
  have WF1 := Lib.hid T1.wfs
  have hlen1 := sizeQs_len q1
  have HL1 := Lib.hid (lensQ.of (show sizeQs q1 ≤ 1048577 by omega))
  have hq1 : q1.length ≤ 1048576 := by omega
  obtain rfl := T1.is
  have HT2 := Lib.hid T2
  have WF2 := Lib.hid T2.wfs
  have hlen2 := sizeQs_len q2
  have HL2 := Lib.hid (lensQ.of (show sizeQs q2 ≤ 1048577 by omega))
  have hq2 : q2.length ≤ 1048576 := by omega
  obtain rfl := T2.is
  have HT3 := Lib.hid T3
  have WF3 := Lib.hid T3.wfs
  have hlen3 := sizeQs_len q3
  have HL3 := Lib.hid (lensQ.of (show sizeQs q3 ≤ 1048577 by omega))
  have hq3 : q3.length ≤ 1048576 := by omega
  obtain rfl := T3.is
  have HX := Lib.hid X0
  have hxl : x.num.length ≤ 1048576 ∧ x.den.length ≤ 1048576 := by have h : sizeQ x ≤ 1048576 := by omega
                                                                   unfold sizeQ at h; omega
  have HXL := Lib.hid hxl
  have HSUM := Lib.hid hsum
  obtain ⟨e1, e2, k1, k2, hv, AX1, AX2, _⟩ := id X0
  have WX := Lib.hid (And.intro AX1.wf AX2.wf)
  subst hv
  obtain ⟨W, hW⟩ : ∃ W, ((((w.alloc (.cells #[.slice a1 s1.length ca1, .slice b1 q1.length cb1] 26)).alloc (.cells #[.slice a2 s2.length ca2, .slice b2 q2.length cb2] 26)).alloc (.cells #[.slice a3 s3.length ca3, .slice b3 q3.length cb3] 26)).alloc (.cells #[.bool x.neg, .slice e1 x.num.length k1, .slice e2 x.den.length k2] 44)) = W := ⟨_, rfl⟩
  have R0 : Row W (w.heap.size) 26 #[.slice a1 s1.length ca1, .slice b1 q1.length cb1] := by rw [← hW]; exact ((((Row.new _ _ _).alloc _).alloc _).alloc _)
  have R1 : Row W (w.heap.size + 1) 26 #[.slice a2 s2.length ca2, .slice b2 q2.length cb2] := by rw [← hW]; have h := (Row.new (w.alloc (.cells #[.slice a1 s1.length ca1, .slice b1 q1.length cb1] 26)) 26 #[.slice a2 s2.length ca2, .slice b2 q2.length cb2]); simp only [World.size_alloc] at h; exact ((h.alloc _).alloc _)
  have R2 : Row W (w.heap.size + 1 + 1) 26 #[.slice a3 s3.length ca3, .slice b3 q3.length cb3] := by rw [← hW]; have h := (Row.new ((w.alloc (.cells #[.slice a1 s1.length ca1, .slice b1 q1.length cb1] 26)).alloc (.cells #[.slice a2 s2.length ca2, .slice b2 q2.length cb2] 26)) 26 #[.slice a3 s3.length ca3, .slice b3 q3.length cb3]); simp only [World.size_alloc] at h; exact (h.alloc _)
  have R3 : Row W (w.heap.size + 1 + 1 + 1) 44 #[.bool x.neg, .slice e1 x.num.length k1, .slice e2 x.den.length k2] := by rw [← hW]; have h := (Row.new (((w.alloc (.cells #[.slice a1 s1.length ca1, .slice b1 q1.length cb1] 26)).alloc (.cells #[.slice a2 s2.length ca2, .slice b2 q2.length cb2] 26)).alloc (.cells #[.slice a3 s3.length ca3, .slice b3 q3.length cb3] 26)) 44 #[.bool x.neg, .slice e1 x.num.length k1, .slice e2 x.den.length k2]); simp only [World.size_alloc] at h; exact h
  have hBW : Below w.heap.size w W := by rw [← hW]; exact (((((Below.refl _ _).alloc (by (try simp) <;> omega) _).alloc (by (try simp) <;> omega) _).alloc (by (try simp) <;> omega) _).alloc (by (try simp) <;> omega) _)
  have hsW : w.heap.size + 1 + 1 + 1 + 1 ≤ W.heap.size := by rw [← hW]; simp
  have tX1 : ∀ X, Below W.heap.size W X → TensQ X (.agg #[.slice a1 s1.length ca1, .slice b1 q1.length cb1]) s1 q1 a1 ca1 b1 cb1 := fun X h => HT1.out.later (hBW.trans (h.mono hBW.size))
  have ref1 := fun X (h : Below W.heap.size W X) => mayT_any (tX1 X h) (by omega) (fun q hq => ⟨Nat.le_trans (HL1.out q hq).1 (by omega), Nat.le_trans (HL1.out q hq).2 (by omega)⟩)
  have tX2 : ∀ X, Below W.heap.size W X → TensQ X (.agg #[.slice a2 s2.length ca2, .slice b2 q2.length cb2]) s2 q2 a2 ca2 b2 cb2 := fun X h => HT2.out.later (hBW.trans (h.mono hBW.size))
  have ref2 := fun X (h : Below W.heap.size W X) => mayT_any (tX2 X h) (by omega) (fun q hq => ⟨Nat.le_trans (HL2.out q hq).1 (by omega), Nat.le_trans (HL2.out q hq).2 (by omega)⟩)
  have tX3 : ∀ X, Below W.heap.size W X → TensQ X (.agg #[.slice a3 s3.length ca3, .slice b3 q3.length cb3]) s3 q3 a3 ca3 b3 cb3 := fun X h => HT3.out.later (hBW.trans (h.mono hBW.size))
  have ref3 := fun X (h : Below W.heap.size W X) => mayT_any (tX3 X h) (by omega) (fun q hq => ⟨Nat.le_trans (HL3.out q hq).1 (by omega), Nat.le_trans (HL3.out q hq).2 (by omega)⟩)
  have xX : ∀ X, Below W.heap.size W X → RawQ X (.agg #[.bool x.neg, .slice e1 x.num.length k1, .slice e2 x.den.length k2]) x := fun X h => HX.out.later (hBW.trans (h.mono hBW.size))
  have hs12 := fun X (h : Below W.heap.size W X) => sameSh_any (tX1 X h).sh (tX2 X h).sh (by omega)
  have hs13 := fun X (h : Below W.heap.size W X) => sameSh_any (tX1 X h).sh (tX3 X h).sh (by omega)
  have mkS : ∀ X, Below W.heap.size W X → (X.cell? ⟨w.heap.size, 0, none⟩ = some (.slice a1 s1.length ca1) ∧ X.cell? ⟨w.heap.size, 1, none⟩ = some (.slice b1 q1.length cb1)) ∧ (X.cell? ⟨w.heap.size + 1, 0, none⟩ = some (.slice a2 s2.length ca2) ∧ X.cell? ⟨w.heap.size + 1, 1, none⟩ = some (.slice b2 q2.length cb2)) ∧ (X.cell? ⟨w.heap.size + 1 + 1, 0, none⟩ = some (.slice a3 s3.length ca3) ∧ X.cell? ⟨w.heap.size + 1 + 1, 1, none⟩ = some (.slice b3 q3.length cb3)) ∧ X.cell? ⟨w.heap.size + 1 + 1 + 1, 0, none⟩ = some (.bool x.neg) ∧ X.cell? ⟨w.heap.size + 1 + 1 + 1, 1, none⟩ = some (.slice e1 x.num.length k1) ∧ X.cell? ⟨w.heap.size + 1 + 1 + 1, 2, none⟩ = some (.slice e2 x.den.length k2) := fun X h => by
    obtain ⟨x0, x1, _⟩ := (R0.later h).two
    obtain ⟨x2, x3, _⟩ := (R1.later h).two
    obtain ⟨x4, x5, _⟩ := (R2.later h).two
    obtain ⟨x6, x7, x8, _⟩ := (R3.later h).three
    exact ⟨⟨x0, x1⟩, ⟨x2, x3⟩, ⟨x4, x5⟩, x6, x7, x8⟩
  obtain ⟨m1, hm1⟩ : ∃ m, mayT s1 q1 = m := ⟨_, rfl⟩
  obtain ⟨m2, hm2⟩ : ∃ m, mayT s2 q2 = m := ⟨_, rfl⟩
  obtain ⟨m3, hm3⟩ : ∃ m, mayT s3 q3 = m := ⟨_, rfl⟩
  obtain ⟨t2, ht2⟩ : ∃ t, decide (s1 = s2) = t := ⟨_, rfl⟩
  obtain ⟨t3, ht3⟩ : ∃ t, decide (s1 = s3) = t := ⟨_, rfl⟩
  rw [hm1] at ref1
  rw [hm2] at ref2
  rw [hm3] at ref3
  rw [ht2] at hs12
  rw [ht3] at hs13
  have HM1 := Lib.hid hm1
  have HM2 := Lib.hid hm2
  have HM3 := Lib.hid hm3
  have HT12 := Lib.hid ht2
  have HT13 := Lib.hid ht3
  have hmay1 := ref1 _ (Below.refl _ W)
  obtain ⟨⟨c0, c1⟩, ⟨c2, c3⟩, ⟨c4, c5⟩, c6, c7, c8⟩ := mkS _ (Below.refl _ W)
  clear T1 T2 T3 X0 hxl AX1 AX2 hm1 hm2 hm3 ht2 ht3 hsum
  by_cases h1 : m1 = 0
  · subst h1
    by_cases h2 : m2 = 0
    · subst h2
      by_cases h3 : m3 = 0
      · subst h3
        cases t2
        · go_enter Tryz.func9, Tryz.ntmps9
          go_wp2_with (first
            | (go_at_call 13; (with_reducible refine hmay1.mono ?_); rintro e y1 ⟨rfl, B1⟩; obtain ⟨⟨d0, d1⟩, ⟨d2, d3⟩, ⟨d4, d5⟩, d6, d7, d8⟩ := mkS _ B1; have hmay2 := ref2 _ B1; clear hmay1 c0 c1 c2 c3 c4 c5 c6 c7 c8)
            | (go_at_call 13; (with_reducible refine hmay2.mono ?_); rintro e y2 ⟨rfl, hb2⟩; have B2 := B1.trans (hb2.mono B1.size); obtain ⟨⟨f0, f1⟩, ⟨f2, f3⟩, ⟨f4, f5⟩, f6, f7, f8⟩ := mkS _ B2; have hmay3 := ref3 _ B2; clear hmay2 d0 d1 d2 d3 d4 d5 d6 d7 d8)
            | (go_at_call 13; (with_reducible refine hmay3.mono ?_); rintro e y3 ⟨rfl, hb3⟩; have B3 := B2.trans (hb3.mono B2.size); obtain ⟨⟨g0, g1⟩, ⟨g2, g3⟩, ⟨g4, g5⟩, g6, g7, g8⟩ := mkS _ B3; have hsh2 := hs12 _ B3; clear hmay3 f0 f1 f2 f3 f4 f5 f6 f7 f8)
            | (go_at_call 36; (with_reducible refine hsh2.mono ?_); rintro e y4 ⟨rfl, hb4⟩; have B4 := B3.trans (hb4.mono B3.size); obtain ⟨⟨h0, h1⟩, ⟨h2, h3⟩, ⟨h4, h5⟩, h6, h7, h8⟩ := mkS _ B4; have hsh3 := hs13 _ B4; clear hsh2 g0 g1 g2 g3 g4 g5 g6 g7 g8)
            | (go_at_call 14; refine (known7_any _).mono ?_; rintro e y9 ⟨rfl, hb9⟩))
          go_ret
          exact ⟨rfl, hBW.trans ((B4.trans (hb9.mono B4.size)).mono hBW.size)⟩
        · cases t3
          · go_enter Tryz.func9, Tryz.ntmps9
            go_wp2_with (first
              | (go_at_call 13; (with_reducible refine hmay1.mono ?_); rintro e y1 ⟨rfl, B1⟩; obtain ⟨⟨d0, d1⟩, ⟨d2, d3⟩, ⟨d4, d5⟩, d6, d7, d8⟩ := mkS _ B1; have hmay2 := ref2 _ B1; clear hmay1 c0 c1 c2 c3 c4 c5 c6 c7 c8)
              | (go_at_call 13; (with_reducible refine hmay2.mono ?_); rintro e y2 ⟨rfl, hb2⟩; have B2 := B1.trans (hb2.mono B1.size); obtain ⟨⟨f0, f1⟩, ⟨f2, f3⟩, ⟨f4, f5⟩, f6, f7, f8⟩ := mkS _ B2; have hmay3 := ref3 _ B2; clear hmay2 d0 d1 d2 d3 d4 d5 d6 d7 d8)
              | (go_at_call 13; (with_reducible refine hmay3.mono ?_); rintro e y3 ⟨rfl, hb3⟩; have B3 := B2.trans (hb3.mono B2.size); obtain ⟨⟨g0, g1⟩, ⟨g2, g3⟩, ⟨g4, g5⟩, g6, g7, g8⟩ := mkS _ B3; have hsh2 := hs12 _ B3; clear hmay3 f0 f1 f2 f3 f4 f5 f6 f7 f8)
              | (go_at_call 36; (with_reducible refine hsh2.mono ?_); rintro e y4 ⟨rfl, hb4⟩; have B4 := B3.trans (hb4.mono B3.size); obtain ⟨⟨h0, h1⟩, ⟨h2, h3⟩, ⟨h4, h5⟩, h6, h7, h8⟩ := mkS _ B4; have hsh3 := hs13 _ B4; clear hsh2 g0 g1 g2 g3 g4 g5 g6 g7 g8)
              | (go_at_call 36; (with_reducible refine hsh3.mono ?_); rintro e y5 ⟨rfl, hb5⟩; have B5 := B4.trans (hb5.mono B4.size); obtain ⟨⟨j0, j1⟩, ⟨j2, j3⟩, ⟨j4, j5⟩, j6, j7, j8⟩ := mkS _ B5; clear hsh3 h0 h1 h2 h3 h4 h5 h6 h7 h8)
              | (go_at_call 14; refine (known7_any _).mono ?_; rintro e y9 ⟨rfl, hb9⟩))
            go_ret
            exact ⟨rfl, hBW.trans ((B5.trans (hb9.mono B5.size)).mono hBW.size)⟩
          · obtain rfl : s1 = s2 := of_decide_eq_true HT12.out
            obtain rfl : s1 = s3 := of_decide_eq_true HT13.out
            have p1 := mayT_zero HM1.out
            have p2 := mayT_zero HM2.out
            have p3 := mayT_zero HM3.out
            have h21 : q2.length = q1.length := by have := p1.2.1; have := p2.2.1; omega
            have h13 : q1.length = q3.length := by have := p1.2.1; have := p3.2.1; omega
            have HOK := Lib.hid p1
            have H21 := Lib.hid h21
            have H13 := Lib.hid h13
            obtain ⟨xac, hxac⟩ : ∃ r, dotN (q1.map Q3.rat) (q3.map Q3.rat) q1.length = r := ⟨_, rfl⟩
            obtain ⟨xbc, hxbc⟩ : ∃ r, dotN (q2.map Q3.rat) (q3.map Q3.rat) q2.length = r := ⟨_, rfl⟩
            obtain ⟨xaa, hxaa⟩ : ∃ r, dotN (q1.map Q3.rat) (q1.map Q3.rat) q1.length = r := ⟨_, rfl⟩
            have HXAC := Lib.hid hxac
            have HXBC := Lib.hid hxbc
            have HXAA := Lib.hid hxaa
            have hac := fun X (h : Below W.heap.size W X) => dot_good (B := 67108865) (N := 2097153) (tX1 X h) (tX3 X h) rfl ls1 hq1 hq3 HL1.out HL3.out (by omega) HM1.out HM3.out (dotN_fitA WF1.out WF3.out h13 (by have := HSUM.out; omega)) (by omega) hxac (by omega)
            have hca := fun X (h : Below W.heap.size W X) => dot_good (B := 67108865) (N := 2097153) (tX3 X h) (tX1 X h) rfl ls1 hq3 hq1 HL3.out HL1.out (by omega) HM3.out HM1.out (dotN_fitA WF3.out WF1.out h13.symm (by have := HSUM.out; omega)) (by omega) (show dotN (q3.map Q3.rat) (q1.map Q3.rat) q3.length = xac by rw [dotN_comm, ← h13]; exact hxac) (by omega)
            have hbc := fun X (h : Below W.heap.size W X) => dot_good (B := 67108865) (N := 2097153) (tX2 X h) (tX3 X h) rfl ls1 hq2 hq3 HL2.out HL3.out (by omega) HM2.out HM3.out (dotN_fitA WF2.out WF3.out (h21.trans h13) (by have := HSUM.out; omega)) (by omega) hxbc (by omega)
            have haa := fun X (h : Below W.heap.size W X) => dot_good (B := 67108865) (N := 2097153) (tX1 X h) (tX1 X h) rfl ls1 hq1 hq1 HL1.out HL1.out (by omega) HM1.out HM1.out (dotN_fitA WF1.out WF1.out rfl (by have := HSUM.out; omega)) (by omega) hxaa (by omega)
            have hmix := fun X (h : Below W.heap.size W X) => mixT_any (n := 1048576) (B := 33554433) (tX1 X h) (tX2 X h) (xX X h) h21 hq1 (lensQ.of (by have := HSUM.out; omega)) (lensQ.of (by have := HSUM.out; omega)) HXL.out (by omega) (fun k p q hp hq => ((fit_Q3 (WF1.out p (List.mem_of_getElem? hp))).add ((fit_Q3 WX.out).mul (fit_Q3 (WF2.out q (List.mem_of_getElem? hq))))).mono (by have := HSUM.out; have := sizeQs_mem (List.mem_of_getElem? hp); have := sizeQs_mem (List.mem_of_getElem? hq); have := sizeQ_pos p; have := sizeQ_pos q; have := sizeQ_pos x; omega))
            clear p1 p2 p3 h21 h13 hxac hxbc hxaa
            go_enter Tryz.func9, Tryz.ntmps9
            go_wp2_with (first
              | (go_at_call 13; (with_reducible refine hmay1.mono ?_); rintro e y1 ⟨rfl, B1⟩; obtain ⟨⟨d0, d1⟩, ⟨d2, d3⟩, ⟨d4, d5⟩, d6, d7, d8⟩ := mkS _ B1; have hmay2 := ref2 _ B1; clear hmay1 c0 c1 c2 c3 c4 c5 c6 c7 c8)
              | (go_at_call 13; (with_reducible refine hmay2.mono ?_); rintro e y2 ⟨rfl, hb2⟩; have B2 := B1.trans (hb2.mono B1.size); obtain ⟨⟨f0, f1⟩, ⟨f2, f3⟩, ⟨f4, f5⟩, f6, f7, f8⟩ := mkS _ B2; have hmay3 := ref3 _ B2; clear hmay2 d0 d1 d2 d3 d4 d5 d6 d7 d8)
              | (go_at_call 13; (with_reducible refine hmay3.mono ?_); rintro e y3 ⟨rfl, hb3⟩; have B3 := B2.trans (hb3.mono B2.size); obtain ⟨⟨g0, g1⟩, ⟨g2, g3⟩, ⟨g4, g5⟩, g6, g7, g8⟩ := mkS _ B3; have hsh2 := hs12 _ B3; clear hmay3 f0 f1 f2 f3 f4 f5 f6 f7 f8)
              | (go_at_call 36; (with_reducible refine hsh2.mono ?_); rintro e y4 ⟨rfl, hb4⟩; have B4 := B3.trans (hb4.mono B3.size); obtain ⟨⟨h0, h1⟩, ⟨h2, h3⟩, ⟨h4, h5⟩, h6, h7, h8⟩ := mkS _ B4; have hsh3 := hs13 _ B4; clear hsh2 g0 g1 g2 g3 g4 g5 g6 g7 g8)
              | (go_at_call 36; (with_reducible refine hsh3.mono ?_); rintro e y5 ⟨rfl, hb5⟩; have B5 := B4.trans (hb5.mono B4.size); obtain ⟨⟨j0, j1⟩, ⟨j2, j3⟩, ⟨j4, j5⟩, j6, j7, j8⟩ := mkS _ B5; clear hsh3 h0 h1 h2 h3 h4 h5 h6 h7 h8))
            refine (hac _ B5).mono ?_
            rintro e y6 ⟨r6, rfl, Qac, hb6⟩
            have B6 : Below W.heap.size W y6 := B5.trans (hb6.mono B5.size)
            obtain ⟨mac, fac, lac, jac, gac, nac, iac, rfl⟩ := Qac.shape
            obtain ⟨z6, hz6⟩ : ∃ Y, y6.alloc (.cells #[.bool mac, .slice fac lac jac, .slice gac nac iac] 44) = Y := ⟨_, rfl⟩
            have hc6 : Below y6.heap.size y6 z6 := by rw [← hz6]; exact (Below.refl _ _).alloc (Nat.le_refl _) _
            have Rac : Row z6 y6.heap.size 44 #[.bool mac, .slice fac lac jac, .slice gac nac iac] := by rw [← hz6]; exact Row.new _ _ _
            have C6 : Below W.heap.size W z6 := B6.trans (hc6.mono B6.size)
            have HRac := Lib.hid Rac
            have HQac := Lib.hid (Qac.later hc6)
            obtain ⟨⟨v0, v1⟩, ⟨v2, v3⟩, ⟨v4, v5⟩, v6, v7, v8⟩ := mkS _ C6
            clear Qac Rac j0 j1 j2 j3 j4 j5 j6 j7 j8
            go_wp2_with fail
            (try rw [hz6])
            clear hz6
            refine (hca _ C6).mono ?_
            rintro e y7 ⟨r7, rfl, Qca, hb7⟩
            have B7 : Below W.heap.size W y7 := C6.trans (hb7.mono C6.size)
            obtain ⟨mca, fca, lca, jca, gca, nca, ica, rfl⟩ := Qca.shape
            obtain ⟨z7, hz7⟩ : ∃ Y, y7.alloc (.cells #[.bool mca, .slice fca lca jca, .slice gca nca ica] 44) = Y := ⟨_, rfl⟩
            have hc7 : Below y7.heap.size y7 z7 := by rw [← hz7]; exact (Below.refl _ _).alloc (Nat.le_refl _) _
            have Rca : Row z7 y7.heap.size 44 #[.bool mca, .slice fca lca jca, .slice gca nca ica] := by rw [← hz7]; exact Row.new _ _ _
            have C7 : Below W.heap.size W z7 := B7.trans (hc7.mono B7.size)
            have HRca := Lib.hid Rca
            have HQca := Lib.hid (Qca.later hc7)
            obtain ⟨⟨c0, c1⟩, ⟨c2, c3⟩, ⟨c4, c5⟩, c6, c7, c8⟩ := mkS _ C7
            clear Qca Rca v0 v1 v2 v3 v4 v5 v6 v7 v8
            go_wp2_with fail
            (try rw [hz7])
            clear hz7
            refine (hbc _ C7).mono ?_
            rintro e y8 ⟨r8, rfl, Qbc, hb8⟩
            have B8 : Below W.heap.size W y8 := C7.trans (hb8.mono C7.size)
            obtain ⟨mbc, fbc, lbc, jbc, gbc, nbc, ibc, rfl⟩ := Qbc.shape
            obtain ⟨z8, hz8⟩ : ∃ Y, y8.alloc (.cells #[.bool mbc, .slice fbc lbc jbc, .slice gbc nbc ibc] 44) = Y := ⟨_, rfl⟩
            have hc8 : Below y8.heap.size y8 z8 := by rw [← hz8]; exact (Below.refl _ _).alloc (Nat.le_refl _) _
            have Rbc : Row z8 y8.heap.size 44 #[.bool mbc, .slice fbc lbc jbc, .slice gbc nbc ibc] := by rw [← hz8]; exact Row.new _ _ _
            have C8 : Below W.heap.size W z8 := B8.trans (hc8.mono B8.size)
            have HRbc := Lib.hid Rbc
            have HQbc := Lib.hid (Qbc.later hc8)
            clear Qbc Rbc c0 c1 c2 c3 c4 c5 c6 c7 c8
            go_upto_region 6 with fail
            (try rw [hz8])
            clear hz8
            have D76 : Below z6.heap.size z6 z7 := hb7.trans (hc7.mono hb7.size)
            have D87 : Below z7.heap.size z7 z8 := hb8.trans (hc8.mono hb8.size)
            have D86 : Below z6.heap.size z6 z8 := D76.trans (D87.mono D76.size)
            go_cut [15, 16] (fun s15 s16 wx => ∃ (g : Nat) (mM : Bool) (fM gM : Option Addr) (lM jM nM iM : Nat), s15 = .pointer (some ⟨g, 0, none⟩) ∧ s16 = .int .i64 0 ∧ Row wx g 44 #[.bool mM, .slice fM lM jM, .slice gM nM iM] ∧ ResQ z8.heap.size wx (.agg #[.bool mM, .slice fM lM jM, .slice gM nM iM]) (xac + x.rat * xbc) 2097153 ∧ Below z8.heap.size z8 wx)
            case first =>
              refine wp_region_held_drew (S := fun X => (X.cell? ⟨w.heap.size, 0, none⟩ = some (.slice a1 s1.length ca1) ∧ X.cell? ⟨w.heap.size, 1, none⟩ = some (.slice b1 q1.length cb1)) ∧ (X.cell? ⟨w.heap.size + 1, 0, none⟩ = some (.slice a2 s1.length ca2) ∧ X.cell? ⟨w.heap.size + 1, 1, none⟩ = some (.slice b2 q2.length cb2)) ∧ (X.cell? ⟨w.heap.size + 1 + 1, 0, none⟩ = some (.slice a3 s1.length ca3) ∧ X.cell? ⟨w.heap.size + 1 + 1, 1, none⟩ = some (.slice b3 q3.length cb3)) ∧ X.cell? ⟨w.heap.size + 1 + 1 + 1, 0, none⟩ = some (.bool x.neg) ∧ X.cell? ⟨w.heap.size + 1 + 1 + 1, 1, none⟩ = some (.slice e1 x.num.length k1) ∧ X.cell? ⟨w.heap.size + 1 + 1 + 1, 2, none⟩ = some (.slice e2 x.den.length k2)) (by kernel_rfl) (mkS _ (C8.trans ((((Below.refl z8.heap.size z8).drew) : Below z8.heap.size z8 _).mono C8.size))) (fun hHeld => ?_)
              refine wpAnyH_take (i := 0) (v := ?vT1_0) rfl (by kernel_rfl) (by kernel_rfl) (by kernel_rfl) (fun _ _ _ h => h) (Or.inl ⟨by rfl, ?hT1_0⟩) (by assumption) ?rT1_0
              case hT1_0 =>
                intro w hSw
                try dsimp only at hSw
                go_simp
                try with_reducible rfl
              try simp only [Act.put, List.setIfInBounds_toArray, List.set_cons_zero, List.set_cons_succ]
              refine wpAnyH_take (i := 1) (v := ?vT2_1) rfl (by kernel_rfl) (by kernel_rfl) (by kernel_rfl) (fun _ _ _ h => h) (Or.inl ⟨by rfl, ?hT2_1⟩) (by assumption) ?rT2_1
              case hT2_1 =>
                intro w hSw
                try dsimp only at hSw
                go_simp
                try with_reducible rfl
              try simp only [Act.put, List.setIfInBounds_toArray, List.set_cons_zero, List.set_cons_succ]
              refine wpAnyH_take (i := 2) (v := ?vT3_2) rfl (by kernel_rfl) (by kernel_rfl) (by kernel_rfl) (fun _ _ _ h => h) (Or.inl ⟨by rfl, ?hT3_2⟩) (by assumption) ?rT3_2
              case hT3_2 =>
                intro w hSw
                try dsimp only at hSw
                go_simp
                try with_reducible rfl
              try simp only [Act.put, List.setIfInBounds_toArray, List.set_cons_zero, List.set_cons_succ]
              refine wpAnyH_take (i := 4) (v := ?vT4_4) rfl (by kernel_rfl) (by kernel_rfl) (by kernel_rfl) (fun _ _ _ h => h) (Or.inl ⟨by rfl, ?hT4_4⟩) (by assumption) ?rT4_4
              case hT4_4 =>
                intro w hSw
                try dsimp only at hSw
                go_simp
                try with_reducible rfl
              try simp only [Act.put, List.setIfInBounds_toArray, List.set_cons_zero, List.set_cons_succ]
              obtain ⟨X0, hV0⟩ : ∃ Y, z8.drew = Y := ⟨_, rfl⟩
              rw [hV0] at hHeld
              rw [hV0]
              have hb0 : Below z8.heap.size z8 X0 := by rw [← hV0]; exact (Below.refl _ _).drew
              have hs0 : z8.heap.size ≤ X0.heap.size := hb0.size
              clear hV0
              refine wpAnyH_ready (rs := [3, 9]) (by kernel_rfl) (by simp) ?_
              refine AllReadyH.cons rfl (fun K hK => ?o5_3) (AllReadyH.cons rfl (fun K hK => ?o5_9) AllReadyH.nil)
              case o5_3 =>
                go_simp
                refine (hmix _ (C8.trans (hb0.mono C8.size))).mono ?_
                rintro e X6 ⟨b6', cb6', rfl, RO6, hc6⟩
                obtain ⟨qm, hln, REL6, nb6, hmap, hlens, hoks⟩ := rowQ_raw RO6
                have hlq : qm.length = q1.length := by have h := congrArg List.length hmap; rw [List.length_map, ← hln] at h; exact h
                have TM6 : TensQ X6 (.agg #[.slice a1 s1.length ca1, .slice b6' q1.length cb6']) s1 qm a1 ca1 b6' cb6' := ⟨by rw [hlq], (tX1 _ ((C8.trans (hb0.mono C8.size)).trans (hc6.mono (C8.trans (hb0.mono C8.size)).size))).sh, (tX1 _ ((C8.trans (hb0.mono C8.size)).trans (hc6.mono (C8.trans (hb0.mono C8.size)).size))).nila, REL6, nb6⟩
                have HQM := Lib.hid hlq
                have HMAP := Lib.hid hmap
                have HLM := Lib.hid hlens
                have HOM := Lib.hid hoks
                clear hlq hmap hlens hoks hln RO6 REL6
                go_simp
                have hbX6 : Below z8.heap.size z8 X6 := hb0.trans (hc6.mono hs0)
                have hsX6 : z8.heap.size ≤ X6.heap.size := hbX6.size
                refine hK.out _ _ (mkS _ (C8.trans ((hbX6 : Below z8.heap.size z8 _).mono C8.size))) (fun hHeld2 => ?_)
                clear hK K hHeld
                have hHeld := hHeld2
                clear hHeld2
                try simp only [Act.put, List.setIfInBounds_toArray, List.set_cons_zero, List.set_cons_succ]
                refine wpAnyH_ready (rs := [5, 9]) (by kernel_rfl) (by simp) ?_
                refine AllReadyH.cons rfl (fun K hK => ?o7_5) (AllReadyH.cons rfl (fun K hK => ?o7_9) AllReadyH.nil)
                case o7_5 =>
                  go_simp
                  refine (dot_good (n := 1048578) (B := 67108865) (N := 2097153) (x := xac + x.rat * xbc) TM6 (tX3 _ (C8.trans (hbX6.mono C8.size))) rfl ls1 (by have := HQM.out; omega) hq3 (lens_more HLM.out (by omega)) (lens_more HL3.out (by omega)) (by omega) (mayT_ok (mayC_ok HOK.out.1) (by rw [HOK.out.1.count, HQM.out]; exact HOK.out.2.1) HOM.out) HM3.out (fun k hk => mix_fit WF1.out WF2.out WF3.out WX.out H21.out H13.out HMAP.out (by have := HSUM.out; omega) k (by have := HQM.out; omega)) (by omega) (by rw [HMAP.out, HQM.out, dotN_mix (by rw [List.length_map, List.length_map]; exact H21.out) _ (by rw [List.length_map]; exact Nat.le_refl _), HXAC.out, ← H21.out, HXBC.out]) (by omega)).mono ?_
                  rintro e X8 ⟨r8, rfl, QM8, hc8⟩
                  obtain ⟨m8, f8, l8, j8, g8, n8, i8, rfl⟩ := QM8.shape
                  go_simp
                  have hbX8 : Below z8.heap.size z8 X8 := hbX6.trans (hc8.mono hsX6)
                  have hsX8 : z8.heap.size ≤ X8.heap.size := hbX8.size
                  have tmX8 := TM6.later hc8
                  refine hK.out _ _ (mkS _ (C8.trans ((hbX8 : Below z8.heap.size z8 _).mono C8.size))) (fun hHeld2 => ?_)
                  clear hK K hHeld
                  have hHeld := hHeld2
                  clear hHeld2
                  try simp only [Act.put, List.setIfInBounds_toArray, List.set_cons_zero, List.set_cons_succ]
                  refine wpAnyH_take (i := 6) (v := ?vT9_6) rfl (by kernel_rfl) (by kernel_rfl) (by kernel_rfl) (fun _ _ _ h => h) (Or.inl ⟨by rfl, ?hT9_6⟩) (by assumption) ?rT9_6
                  case hT9_6 =>
                    intro w hSw
                    try dsimp only at hSw
                    go_simp
                    try with_reducible rfl
                  try simp only [Act.put, List.setIfInBounds_toArray, List.set_cons_zero, List.set_cons_succ]
                  refine wpAnyH_take (i := 7) (v := ?vT10_7) rfl (by kernel_rfl) (by kernel_rfl) (by kernel_rfl) (fun _ _ _ h => h) (Or.inl ⟨by rfl, ?hT10_7⟩) (by assumption) ?rT10_7
                  case hT10_7 =>
                    intro w hSw
                    try dsimp only at hSw
                    go_simp
                    try with_reducible rfl
                  try simp only [Act.put, List.setIfInBounds_toArray, List.set_cons_zero, List.set_cons_succ]
                  refine wpAnyH_take (i := 8) (v := ?vT11_8) rfl (by kernel_rfl) (by kernel_rfl) (by kernel_rfl) (fun _ _ _ h => h) (Or.inl ⟨by rfl, ?hT11_8⟩) (by assumption) ?rT11_8
                  case hT11_8 =>
                    intro w hSw
                    try dsimp only at hSw
                    go_simp
                    try with_reducible rfl
                  try simp only [Act.put, List.setIfInBounds_toArray, List.set_cons_zero, List.set_cons_succ]
                  refine wpAnyH_ready (rs := [9]) (by kernel_rfl) (by simp) ?_
                  refine AllReadyH.cons rfl (fun K hK => ?o12_9) AllReadyH.nil
                  go_simp
                  refine afterAlloc (fun X13 hc13 hl13 zn13 => ?_)
                  have hbX13 : Below z8.heap.size z8 X13 := hbX8.trans (hc13.mono hsX8)
                  have hsX13 : z8.heap.size ≤ X13.heap.size := hbX13.size
                  have tmX13 := tmX8.later hc13
                  have qmX13 := QM8.later hc13
                  refine hK.out _ _ (mkS _ (C8.trans ((hbX13 : Below z8.heap.size z8 _).mono C8.size))) (fun hHeld2 => ?_)
                  clear hK K hHeld
                  have hHeld := hHeld2
                  clear hHeld2
                  try simp only [Act.put, List.setIfInBounds_toArray, List.set_cons_zero, List.set_cons_succ]
                  obtain ⟨d14_0, d14_1, d14_2, d14_3, d14_4, d14_5⟩ := zn13.three
                  refine wpAnyH_ready (rs := [10]) (by kernel_rfl) (by simp) ?_
                  refine AllReadyH.cons rfl (fun K hK => ?s14) AllReadyH.nil
                  go_simp
                  refine afterSet3 zn13 (fun X14 o14 zs14 => ?_)
                  clear d14_0 d14_1 d14_2 d14_3 d14_4 d14_5
                  have hbX14 : Below z8.heap.size z8 X14 := hbX13.trans (o14.below hsX8)
                  have hsX14 : z8.heap.size ≤ X14.heap.size := hbX14.size
                  have qmX14 := qmX13.only zn13 o14
                  refine hK.out _ _ (mkS _ (C8.trans ((hbX14 : Below z8.heap.size z8 _).mono C8.size))) (fun hHeld2 => ?_)
                  clear hK K hHeld
                  have hHeld := hHeld2
                  clear hHeld2
                  try simp only [Act.put, List.setIfInBounds_toArray, List.set_cons_zero, List.set_cons_succ]
                  refine wpAnyH_ready (rs := [11]) (by kernel_rfl) (by simp) ?_
                  refine AllReadyH.cons rfl (fun K hK => ?sD15_11) AllReadyH.nil
                  go_simp
                  refine hK.out _ _ ?kD15_11 (fun hHeld => ?mD15_11)
                  case kD15_11 =>
                    try dsimp only
                    exact mkS _ (C8.trans ((hbX14 : Below z8.heap.size z8 _).mono C8.size))
                  clear hK K
                  try simp only [Act.put, List.setIfInBounds_toArray, List.set_cons_zero, List.set_cons_succ]
                  refine wpAnyH_done (by kernel_rfl) ?_ _
                  go_wp2_with fail
                  go_meet
                  exact ⟨_, m8, f8, g8, l8, j8, n8, i8, rfl, rfl, zs14, qmX14.mono (by omega), hbX14⟩
                case o7_9 =>
                  go_simp
                  refine afterAlloc (fun X16 hc16 hl16 zn16 => ?_)
                  have hbX16 : Below z8.heap.size z8 X16 := hbX6.trans (hc16.mono hsX6)
                  have hsX16 : z8.heap.size ≤ X16.heap.size := hbX16.size
                  have tmX16 := TM6.later hc16
                  refine hK.out _ _ (mkS _ (C8.trans ((hbX16 : Below z8.heap.size z8 _).mono C8.size))) (fun hHeld2 => ?_)
                  clear hK K hHeld
                  have hHeld := hHeld2
                  clear hHeld2
                  try simp only [Act.put, List.setIfInBounds_toArray, List.set_cons_zero, List.set_cons_succ]
                  refine wpAnyH_ready (rs := [5]) (by kernel_rfl) (by simp) ?_
                  refine AllReadyH.cons rfl (fun K hK => ?o17_5) AllReadyH.nil
                  go_simp
                  refine (dot_good (n := 1048578) (B := 67108865) (N := 2097153) (x := xac + x.rat * xbc) tmX16 (tX3 _ (C8.trans (hbX16.mono C8.size))) rfl ls1 (by have := HQM.out; omega) hq3 (lens_more HLM.out (by omega)) (lens_more HL3.out (by omega)) (by omega) (mayT_ok (mayC_ok HOK.out.1) (by rw [HOK.out.1.count, HQM.out]; exact HOK.out.2.1) HOM.out) HM3.out (fun k hk => mix_fit WF1.out WF2.out WF3.out WX.out H21.out H13.out HMAP.out (by have := HSUM.out; omega) k (by have := HQM.out; omega)) (by omega) (by rw [HMAP.out, HQM.out, dotN_mix (by rw [List.length_map, List.length_map]; exact H21.out) _ (by rw [List.length_map]; exact Nat.le_refl _), HXAC.out, ← H21.out, HXBC.out]) (by omega)).mono ?_
                  rintro e X18 ⟨r18, rfl, QM18, hc18⟩
                  obtain ⟨m18, f18, l18, j18, g18, n18, i18, rfl⟩ := QM18.shape
                  go_simp
                  have hbX18 : Below z8.heap.size z8 X18 := hbX16.trans (hc18.mono hsX16)
                  have hsX18 : z8.heap.size ≤ X18.heap.size := hbX18.size
                  have tmX18 := tmX16.later hc18
                  have zAX18 := zn16.later hc18
                  have ltAX18 := zAX18.lt
                  refine hK.out _ _ (mkS _ (C8.trans ((hbX18 : Below z8.heap.size z8 _).mono C8.size))) (fun hHeld2 => ?_)
                  clear hK K hHeld
                  have hHeld := hHeld2
                  clear hHeld2
                  try simp only [Act.put, List.setIfInBounds_toArray, List.set_cons_zero, List.set_cons_succ]
                  refine wpAnyH_take (i := 6) (v := ?vT19_6) rfl (by kernel_rfl) (by kernel_rfl) (by kernel_rfl) (fun _ _ _ h => h) (Or.inl ⟨by rfl, ?hT19_6⟩) (by assumption) ?rT19_6
                  case hT19_6 =>
                    intro w hSw
                    try dsimp only at hSw
                    go_simp
                    try with_reducible rfl
                  try simp only [Act.put, List.setIfInBounds_toArray, List.set_cons_zero, List.set_cons_succ]
                  refine wpAnyH_take (i := 7) (v := ?vT20_7) rfl (by kernel_rfl) (by kernel_rfl) (by kernel_rfl) (fun _ _ _ h => h) (Or.inl ⟨by rfl, ?hT20_7⟩) (by assumption) ?rT20_7
                  case hT20_7 =>
                    intro w hSw
                    try dsimp only at hSw
                    go_simp
                    try with_reducible rfl
                  try simp only [Act.put, List.setIfInBounds_toArray, List.set_cons_zero, List.set_cons_succ]
                  refine wpAnyH_take (i := 8) (v := ?vT21_8) rfl (by kernel_rfl) (by kernel_rfl) (by kernel_rfl) (fun _ _ _ h => h) (Or.inl ⟨by rfl, ?hT21_8⟩) (by assumption) ?rT21_8
                  case hT21_8 =>
                    intro w hSw
                    try dsimp only at hSw
                    go_simp
                    try with_reducible rfl
                  try simp only [Act.put, List.setIfInBounds_toArray, List.set_cons_zero, List.set_cons_succ]
                  obtain ⟨d22_0, d22_1, d22_2, d22_3, d22_4, d22_5⟩ := zAX18.three
                  refine wpAnyH_ready (rs := [10]) (by kernel_rfl) (by simp) ?_
                  refine AllReadyH.cons rfl (fun K hK => ?s22) AllReadyH.nil
                  go_simp
                  refine afterSet3 zAX18 (fun X22 o22 zs22 => ?_)
                  clear d22_0 d22_1 d22_2 d22_3 d22_4 d22_5
                  have hbX22 : Below z8.heap.size z8 X22 := hbX18.trans (o22.below hsX6)
                  have hsX22 : z8.heap.size ≤ X22.heap.size := hbX22.size
                  have qmX22 := QM18.only zAX18 o22
                  refine hK.out _ _ (mkS _ (C8.trans ((hbX22 : Below z8.heap.size z8 _).mono C8.size))) (fun hHeld2 => ?_)
                  clear hK K hHeld
                  have hHeld := hHeld2
                  clear hHeld2
                  try simp only [Act.put, List.setIfInBounds_toArray, List.set_cons_zero, List.set_cons_succ]
                  refine wpAnyH_ready (rs := [11]) (by kernel_rfl) (by simp) ?_
                  refine AllReadyH.cons rfl (fun K hK => ?sD23_11) AllReadyH.nil
                  go_simp
                  refine hK.out _ _ ?kD23_11 (fun hHeld => ?mD23_11)
                  case kD23_11 =>
                    try dsimp only
                    exact mkS _ (C8.trans ((hbX22 : Below z8.heap.size z8 _).mono C8.size))
                  clear hK K
                  try simp only [Act.put, List.setIfInBounds_toArray, List.set_cons_zero, List.set_cons_succ]
                  refine wpAnyH_done (by kernel_rfl) ?_ _
                  go_wp2_with fail
                  go_meet
                  exact ⟨_, m18, f18, g18, l18, j18, n18, i18, rfl, rfl, zs22, qmX22.mono (by omega), hbX22⟩
              case o5_9 =>
                go_simp
                refine afterAlloc (fun X24 hc24 hl24 zn24 => ?_)
                have hbX24 : Below z8.heap.size z8 X24 := hb0.trans (hc24.mono hs0)
                have hsX24 : z8.heap.size ≤ X24.heap.size := hbX24.size
                refine hK.out _ _ (mkS _ (C8.trans ((hbX24 : Below z8.heap.size z8 _).mono C8.size))) (fun hHeld2 => ?_)
                clear hK K hHeld
                have hHeld := hHeld2
                clear hHeld2
                try simp only [Act.put, List.setIfInBounds_toArray, List.set_cons_zero, List.set_cons_succ]
                refine wpAnyH_ready (rs := [3]) (by kernel_rfl) (by simp) ?_
                refine AllReadyH.cons rfl (fun K hK => ?o25_3) AllReadyH.nil
                go_simp
                refine (hmix _ (C8.trans (hbX24.mono C8.size))).mono ?_
                rintro e X26 ⟨b26', cb26', rfl, RO26, hc26⟩
                obtain ⟨qm, hln, REL26, nb26, hmap, hlens, hoks⟩ := rowQ_raw RO26
                have hlq : qm.length = q1.length := by have h := congrArg List.length hmap; rw [List.length_map, ← hln] at h; exact h
                have TM26 : TensQ X26 (.agg #[.slice a1 s1.length ca1, .slice b26' q1.length cb26']) s1 qm a1 ca1 b26' cb26' := ⟨by rw [hlq], (tX1 _ ((C8.trans (hbX24.mono C8.size)).trans (hc26.mono (C8.trans (hbX24.mono C8.size)).size))).sh, (tX1 _ ((C8.trans (hbX24.mono C8.size)).trans (hc26.mono (C8.trans (hbX24.mono C8.size)).size))).nila, REL26, nb26⟩
                have HQM := Lib.hid hlq
                have HMAP := Lib.hid hmap
                have HLM := Lib.hid hlens
                have HOM := Lib.hid hoks
                clear hlq hmap hlens hoks hln RO26 REL26
                go_simp
                have hbX26 : Below z8.heap.size z8 X26 := hbX24.trans (hc26.mono hsX24)
                have hsX26 : z8.heap.size ≤ X26.heap.size := hbX26.size
                have zAX26 := zn24.later hc26
                have ltAX26 := zAX26.lt
                refine hK.out _ _ (mkS _ (C8.trans ((hbX26 : Below z8.heap.size z8 _).mono C8.size))) (fun hHeld2 => ?_)
                clear hK K hHeld
                have hHeld := hHeld2
                clear hHeld2
                try simp only [Act.put, List.setIfInBounds_toArray, List.set_cons_zero, List.set_cons_succ]
                refine wpAnyH_ready (rs := [5]) (by kernel_rfl) (by simp) ?_
                refine AllReadyH.cons rfl (fun K hK => ?o27_5) AllReadyH.nil
                go_simp
                refine (dot_good (n := 1048578) (B := 67108865) (N := 2097153) (x := xac + x.rat * xbc) TM26 (tX3 _ (C8.trans (hbX26.mono C8.size))) rfl ls1 (by have := HQM.out; omega) hq3 (lens_more HLM.out (by omega)) (lens_more HL3.out (by omega)) (by omega) (mayT_ok (mayC_ok HOK.out.1) (by rw [HOK.out.1.count, HQM.out]; exact HOK.out.2.1) HOM.out) HM3.out (fun k hk => mix_fit WF1.out WF2.out WF3.out WX.out H21.out H13.out HMAP.out (by have := HSUM.out; omega) k (by have := HQM.out; omega)) (by omega) (by rw [HMAP.out, HQM.out, dotN_mix (by rw [List.length_map, List.length_map]; exact H21.out) _ (by rw [List.length_map]; exact Nat.le_refl _), HXAC.out, ← H21.out, HXBC.out]) (by omega)).mono ?_
                rintro e X28 ⟨r28, rfl, QM28, hc28⟩
                obtain ⟨m28, f28, l28, j28, g28, n28, i28, rfl⟩ := QM28.shape
                go_simp
                have hbX28 : Below z8.heap.size z8 X28 := hbX26.trans (hc28.mono hsX26)
                have hsX28 : z8.heap.size ≤ X28.heap.size := hbX28.size
                have tmX28 := TM26.later hc28
                have zAX28 := zAX26.later hc28
                have ltAX28 := zAX28.lt
                refine hK.out _ _ (mkS _ (C8.trans ((hbX28 : Below z8.heap.size z8 _).mono C8.size))) (fun hHeld2 => ?_)
                clear hK K hHeld
                have hHeld := hHeld2
                clear hHeld2
                try simp only [Act.put, List.setIfInBounds_toArray, List.set_cons_zero, List.set_cons_succ]
                refine wpAnyH_take (i := 6) (v := ?vT29_6) rfl (by kernel_rfl) (by kernel_rfl) (by kernel_rfl) (fun _ _ _ h => h) (Or.inl ⟨by rfl, ?hT29_6⟩) (by assumption) ?rT29_6
                case hT29_6 =>
                  intro w hSw
                  try dsimp only at hSw
                  go_simp
                  try with_reducible rfl
                try simp only [Act.put, List.setIfInBounds_toArray, List.set_cons_zero, List.set_cons_succ]
                refine wpAnyH_take (i := 7) (v := ?vT30_7) rfl (by kernel_rfl) (by kernel_rfl) (by kernel_rfl) (fun _ _ _ h => h) (Or.inl ⟨by rfl, ?hT30_7⟩) (by assumption) ?rT30_7
                case hT30_7 =>
                  intro w hSw
                  try dsimp only at hSw
                  go_simp
                  try with_reducible rfl
                try simp only [Act.put, List.setIfInBounds_toArray, List.set_cons_zero, List.set_cons_succ]
                refine wpAnyH_take (i := 8) (v := ?vT31_8) rfl (by kernel_rfl) (by kernel_rfl) (by kernel_rfl) (fun _ _ _ h => h) (Or.inl ⟨by rfl, ?hT31_8⟩) (by assumption) ?rT31_8
                case hT31_8 =>
                  intro w hSw
                  try dsimp only at hSw
                  go_simp
                  try with_reducible rfl
                try simp only [Act.put, List.setIfInBounds_toArray, List.set_cons_zero, List.set_cons_succ]
                obtain ⟨d32_0, d32_1, d32_2, d32_3, d32_4, d32_5⟩ := zAX28.three
                refine wpAnyH_ready (rs := [10]) (by kernel_rfl) (by simp) ?_
                refine AllReadyH.cons rfl (fun K hK => ?s32) AllReadyH.nil
                go_simp
                refine afterSet3 zAX28 (fun X32 o32 zs32 => ?_)
                clear d32_0 d32_1 d32_2 d32_3 d32_4 d32_5
                have hbX32 : Below z8.heap.size z8 X32 := hbX28.trans (o32.below hs0)
                have hsX32 : z8.heap.size ≤ X32.heap.size := hbX32.size
                have qmX32 := QM28.only zAX28 o32
                refine hK.out _ _ (mkS _ (C8.trans ((hbX32 : Below z8.heap.size z8 _).mono C8.size))) (fun hHeld2 => ?_)
                clear hK K hHeld
                have hHeld := hHeld2
                clear hHeld2
                try simp only [Act.put, List.setIfInBounds_toArray, List.set_cons_zero, List.set_cons_succ]
                refine wpAnyH_ready (rs := [11]) (by kernel_rfl) (by simp) ?_
                refine AllReadyH.cons rfl (fun K hK => ?sD33_11) AllReadyH.nil
                go_simp
                refine hK.out _ _ ?kD33_11 (fun hHeld => ?mD33_11)
                case kD33_11 =>
                  try dsimp only
                  exact mkS _ (C8.trans ((hbX32 : Below z8.heap.size z8 _).mono C8.size))
                clear hK K
                try simp only [Act.put, List.setIfInBounds_toArray, List.set_cons_zero, List.set_cons_succ]
                refine wpAnyH_done (by kernel_rfl) ?_ _
                go_wp2_with fail
                go_meet
                exact ⟨_, m28, f28, g28, l28, j28, n28, i28, rfl, rfl, zs32, qmX32.mono (by omega), hbX32⟩
            case rest =>
              obtain ⟨gm, mM, fM, gM, lM, jM, nM, iM, rfl, rfl, RM, QM, hbc8⟩ := hcut
              have D10 : Below z8.heap.size z8 wc := hbc8
              have C10 : Below W.heap.size W wc := C8.trans (D10.mono C8.size)
              have HRM := Lib.hid RM
              have HQM := Lib.hid QM
              obtain ⟨⟨c0, c1⟩, ⟨c2, c3⟩, ⟨c4, c5⟩, c6, c7, c8⟩ := mkS _ C10
              clear RM QM hbc8
              go_wp2_with fail
              refine (haa _ C10).mono ?_
              rintro e y11 ⟨r11, rfl, Qaa, hb11⟩
              have B11 : Below W.heap.size W y11 := C10.trans (hb11.mono C10.size)
              obtain ⟨maa, faa, laa, jaa, gaa, naa, iaa, rfl⟩ := Qaa.shape
              obtain ⟨z11, hz11⟩ : ∃ Y, y11.alloc (.cells #[.bool maa, .slice faa laa jaa, .slice gaa naa iaa] 44) = Y := ⟨_, rfl⟩
              have hc11 : Below y11.heap.size y11 z11 := by rw [← hz11]; exact (Below.refl _ _).alloc (Nat.le_refl _) _
              have Raa : Row z11 y11.heap.size 44 #[.bool maa, .slice faa laa jaa, .slice gaa naa iaa] := by rw [← hz11]; exact Row.new _ _ _
              have C11 : Below W.heap.size W z11 := B11.trans (hc11.mono B11.size)
              have HRaa := Lib.hid Raa
              have HQaa := Lib.hid (Qaa.later hc11)
              have D1 : Below wc.heap.size wc z11 := hb11.trans (hc11.mono hb11.size)
              have D2 : Below z8.heap.size z8 z11 := D10.trans (D1.mono D10.size)
              have D3 : Below z7.heap.size z7 z11 := D87.trans (D2.mono D87.size)
              have D4 : Below z6.heap.size z6 z11 := D76.trans (D3.mono D76.size)
              clear Qaa Raa c0 c1 c2 c3 c4 c5 c6 c7 c8
              go_wp2_with fail
              (try rw [hz11])
              clear hz11
              go_loopw [19, 20] (fun s19 s20 wr => ∃ k : Nat, s20 = .int .i64 (k : Int) ∧ s19 = .bool (noughtQ (q1.take k)) ∧ k ≤ q1.length ∧ Below z11.heap.size z11 wr) (fun _ i _ => q1.length - (intOf i).toNat)
              case atStart => exact ⟨0, rfl, rfl, Nat.zero_le _, Below.refl _ _⟩
              case round =>
                obtain ⟨k, rfl, rfl, hk, hbr⟩ := hrel
                have CR : Below W.heap.size W wr := C11.trans (hbr.mono C11.size)
                obtain ⟨⟨c0, c1⟩, ⟨c2, c3⟩, ⟨c4, c5⟩, c6, c7, c8⟩ := mkS _ CR
                obtain ⟨nb, hnb⟩ : ∃ b, noughtQ (q1.take k) = b := ⟨_, rfl⟩
                rw [hnb]
                have HNB := Lib.hid hnb
                clear hnb
                by_cases hlt : k < q1.length
                · obtain ⟨bb, o, x0, x1, x2, q, hbo, hqk, d0, d1, d2, hraw⟩ := ((tX1 _ CR).el).at hlt
                  subst hbo
                  have hltI : (k : Int) < (q1.length : Int) := by omega
                  have hnx := Lib.hid (noughtQ_next hqk)
                  obtain ⟨ad, bd, cad, cbd, hxx, _⟩ := hraw
                  simp only [Value.agg.injEq, Array.mk.injEq, List.cons.injEq, and_true] at hxx
                  obtain ⟨rfl, rfl, rfl⟩ := hxx
                  clear hqk
                  cases nb
                  · go_wp2
                    go_roundw
                    case rel => exact ⟨k + 1, by go_num, by rw [hnx.out, HNB.out]; rfl, by omega, hbr⟩
                    case measure => simp [intOf]; omega
                  · by_cases hz : q.num.length = 0
                    · rw [hz] at d1
                      go_wp2
                      go_roundw
                      case rel => exact ⟨k + 1, by go_num, by rw [hnx.out, HNB.out, hz]; rfl, by omega, hbr⟩
                      case measure => simp [intOf]; omega
                    · have hzI : ((q.num.length : Int) == 0) = false := by rw [beq_eq_false_iff_ne]; omega
                      have hzN : (q.num.length == 0) = false := by simp [hz]
                      have HZN := Lib.hid hzN
                      clear hzN hz
                      go_wp2
                      go_roundw
                      case rel => exact ⟨k + 1, by go_num, by rw [hnx.out, HNB.out, HZN.out]; rfl, by omega, hbr⟩
                      case measure => simp [intOf]; omega
                · obtain rfl : k = q1.length := by omega
                  have hltI : ¬ (q1.length : Int) < (q1.length : Int) := by omega
                  obtain ⟨sg, hsg⟩ : ∃ s, sgR xaa = s := ⟨_, rfl⟩
                  have hsgE : (sg == 0) = nb := by
                    have h := HNB.out
                    rw [List.take_length, noughtQ_dot WF1.out HOK.out.2.2, HXAA.out, hsg] at h
                    exact h
                  have hsg0 : 0 ≤ sg := by rw [← hsg, ← HXAA.out]; exact sgR_nonneg (dotN_self_nonneg _ _)
                  have HSG := Lib.hid hsg
                  have E1 := D1.trans (hbr.mono D1.size)
                  have E2 := D2.trans (hbr.mono D2.size)
                  have E3 := D3.trans (hbr.mono D3.size)
                  have E4 := D4.trans (hbr.mono D4.size)
                  have qac := HQac.out.later E4
                  have qca := HQca.out.later E3
                  have qbc := HQbc.out.later E2
                  have qmc := HQM.out.later E1
                  have qaa := HQaa.out.later hbr
                  have rac := HRac.out.later E4
                  have rca := HRca.out.later E3
                  have rbc := HRbc.out.later E2
                  have rmc := HRM.out.later E1
                  have raa := HRaa.out.later hbr
                  have fxb : FitQ (x.rat * xbc) 67108864 := by
                    have h2 := dotN_fitA (B := 33554432) WF2.out WF3.out (H21.out.trans H13.out) (by have := HSUM.out; omega) q2.length (Nat.le_refl _)
                    rw [HXBC.out] at h2
                    exact ((fit_Q3 WX.out).mul h2).mono (by have := HSUM.out; omega)
                  have fsum : FitQ (xac + x.rat * xbc) 67108865 := by
                    have h1 := dotN_fitA (B := 32 * (sizeQs q1 + sizeQs q3)) WF1.out WF3.out H13.out (Nat.le_refl _) q1.length (Nat.le_refl _)
                    have h2 := dotN_fitA (B := 32 * (sizeQs q2 + sizeQs q3)) WF2.out WF3.out (H21.out.trans H13.out) (Nat.le_refl _) q2.length (Nat.le_refl _)
                    rw [HXAC.out] at h1
                    rw [HXBC.out] at h2
                    exact (h1.add ((fit_Q3 WX.out).mul h2)).mono (by have := HSUM.out; omega)
                  have HFXB := Lib.hid fxb
                  have HFS := Lib.hid fsum
                  have mkS2 : ∀ X, Below wr.heap.size wr X → (X.cell? ⟨w.heap.size + 1 + 1 + 1, 0, none⟩ = some (.bool x.neg) ∧ X.cell? ⟨w.heap.size + 1 + 1 + 1, 1, none⟩ = some (.slice e1 x.num.length k1) ∧ X.cell? ⟨w.heap.size + 1 + 1 + 1, 2, none⟩ = some (.slice e2 x.den.length k2)) ∧ (X.cell? ⟨y6.heap.size, 0, none⟩ = some (.bool mac) ∧ X.cell? ⟨y6.heap.size, 1, none⟩ = some (.slice fac lac jac) ∧ X.cell? ⟨y6.heap.size, 2, none⟩ = some (.slice gac nac iac)) ∧ (X.cell? ⟨y7.heap.size, 0, none⟩ = some (.bool mca) ∧ X.cell? ⟨y7.heap.size, 1, none⟩ = some (.slice fca lca jca) ∧ X.cell? ⟨y7.heap.size, 2, none⟩ = some (.slice gca nca ica)) ∧ (X.cell? ⟨y8.heap.size, 0, none⟩ = some (.bool mbc) ∧ X.cell? ⟨y8.heap.size, 1, none⟩ = some (.slice fbc lbc jbc) ∧ X.cell? ⟨y8.heap.size, 2, none⟩ = some (.slice gbc nbc ibc)) ∧ (X.cell? ⟨gm, 0, none⟩ = some (.bool mM) ∧ X.cell? ⟨gm, 1, none⟩ = some (.slice fM lM jM) ∧ X.cell? ⟨gm, 2, none⟩ = some (.slice gM nM iM)) ∧ X.cell? ⟨y11.heap.size, 0, none⟩ = some (.bool maa) ∧ X.cell? ⟨y11.heap.size, 1, none⟩ = some (.slice faa laa jaa) ∧ X.cell? ⟨y11.heap.size, 2, none⟩ = some (.slice gaa naa iaa) := fun X h => by
                    obtain ⟨_, _, _, t0, t1, t2⟩ := mkS _ (CR.trans (h.mono CR.size))
                    obtain ⟨t3, t4, t5, _⟩ := (rac.later h).three
                    obtain ⟨t6, t7, t8, _⟩ := (rca.later h).three
                    obtain ⟨t9, t10, t11, _⟩ := (rbc.later h).three
                    obtain ⟨t12, t13, t14, _⟩ := (rmc.later h).three
                    obtain ⟨t15, t16, t17, _⟩ := (raa.later h).three
                    exact ⟨⟨t0, t1, t2⟩, ⟨t3, t4, t5⟩, ⟨t6, t7, t8⟩, ⟨t9, t10, t11⟩, ⟨t12, t13, t14⟩, t15, t16, t17⟩
                  have F0 : Below wr.heap.size wr wr.drew := (Below.refl _ wr).drew
                  have toW : ∀ X, Below wr.heap.size wr X → Below W.heap.size W X := fun X h => CR.trans (h.mono CR.size)
                  clear hsg fxb fsum
                  go_wp2_with fail
                  refine wp_region_held (S := fun X => (X.cell? ⟨w.heap.size + 1 + 1 + 1, 0, none⟩ = some (.bool x.neg) ∧ X.cell? ⟨w.heap.size + 1 + 1 + 1, 1, none⟩ = some (.slice e1 x.num.length k1) ∧ X.cell? ⟨w.heap.size + 1 + 1 + 1, 2, none⟩ = some (.slice e2 x.den.length k2)) ∧ (X.cell? ⟨y6.heap.size, 0, none⟩ = some (.bool mac) ∧ X.cell? ⟨y6.heap.size, 1, none⟩ = some (.slice fac lac jac) ∧ X.cell? ⟨y6.heap.size, 2, none⟩ = some (.slice gac nac iac)) ∧ (X.cell? ⟨y7.heap.size, 0, none⟩ = some (.bool mca) ∧ X.cell? ⟨y7.heap.size, 1, none⟩ = some (.slice fca lca jca) ∧ X.cell? ⟨y7.heap.size, 2, none⟩ = some (.slice gca nca ica)) ∧ (X.cell? ⟨y8.heap.size, 0, none⟩ = some (.bool mbc) ∧ X.cell? ⟨y8.heap.size, 1, none⟩ = some (.slice fbc lbc jbc) ∧ X.cell? ⟨y8.heap.size, 2, none⟩ = some (.slice gbc nbc ibc)) ∧ (X.cell? ⟨gm, 0, none⟩ = some (.bool mM) ∧ X.cell? ⟨gm, 1, none⟩ = some (.slice fM lM jM) ∧ X.cell? ⟨gm, 2, none⟩ = some (.slice gM nM iM)) ∧ X.cell? ⟨y11.heap.size, 0, none⟩ = some (.bool maa) ∧ X.cell? ⟨y11.heap.size, 1, none⟩ = some (.slice faa laa jaa) ∧ X.cell? ⟨y11.heap.size, 2, none⟩ = some (.slice gaa naa iaa)) (by kernel_rfl) ?_
                  have hHeld := mkS2 _ F0
                  refine wpAnyH_take (i := 0) (v := ?ve0a0) rfl (by kernel_rfl) (by kernel_rfl) (by kernel_rfl) (fun _ _ _ h => h) (Or.inl ⟨by rfl, ?he0a0⟩) (by assumption) ?re0a0
                  case he0a0 =>
                    intro w hSw
                    try dsimp only at hSw
                    go_simp
                    try with_reducible rfl
                  try simp only [Act.put, List.getElem_toArray, List.getElem_cons_succ, List.getElem_cons_zero, List.setIfInBounds_toArray, List.set_cons_zero, List.set_cons_succ]
                  refine wpAnyH_take (i := 1) (v := ?ve0a1) rfl (by kernel_rfl) (by kernel_rfl) (by kernel_rfl) (fun _ _ _ h => h) (Or.inl ⟨by rfl, ?he0a1⟩) (by assumption) ?re0a1
                  case he0a1 =>
                    intro w hSw
                    try dsimp only at hSw
                    go_simp
                    try with_reducible rfl
                  try simp only [Act.put, List.getElem_toArray, List.getElem_cons_succ, List.getElem_cons_zero, List.setIfInBounds_toArray, List.set_cons_zero, List.set_cons_succ]
                  refine wpAnyH_take (i := 2) (v := ?ve0a2) rfl (by kernel_rfl) (by kernel_rfl) (by kernel_rfl) (fun _ _ _ h => h) (Or.inl ⟨by rfl, ?he0a2⟩) (by assumption) ?re0a2
                  case he0a2 =>
                    intro w hSw
                    try dsimp only at hSw
                    go_simp
                    try with_reducible rfl
                  try simp only [Act.put, List.getElem_toArray, List.getElem_cons_succ, List.getElem_cons_zero, List.setIfInBounds_toArray, List.set_cons_zero, List.set_cons_succ]
                  refine wpAnyH_take (i := 3) (v := ?ve0a3) rfl (by kernel_rfl) (by kernel_rfl) (by kernel_rfl) (fun _ _ _ h => h) (Or.inl ⟨by rfl, ?he0a3⟩) (by assumption) ?re0a3
                  case he0a3 =>
                    intro w hSw
                    try dsimp only at hSw
                    go_simp
                    try with_reducible rfl
                  try simp only [Act.put, List.getElem_toArray, List.getElem_cons_succ, List.getElem_cons_zero, List.setIfInBounds_toArray, List.set_cons_zero, List.set_cons_succ]
                  refine wpAnyH_take (i := 4) (v := ?ve0a4) rfl (by kernel_rfl) (by kernel_rfl) (by kernel_rfl) (fun _ _ _ h => h) (Or.inl ⟨by rfl, ?he0a4⟩) (by assumption) ?re0a4
                  case he0a4 =>
                    intro w hSw
                    try dsimp only at hSw
                    go_simp
                    try with_reducible rfl
                  try simp only [Act.put, List.getElem_toArray, List.getElem_cons_succ, List.getElem_cons_zero, List.setIfInBounds_toArray, List.set_cons_zero, List.set_cons_succ]
                  refine wpAnyH_take (i := 5) (v := ?ve0a5) rfl (by kernel_rfl) (by kernel_rfl) (by kernel_rfl) (fun _ _ _ h => h) (Or.inl ⟨by rfl, ?he0a5⟩) (by assumption) ?re0a5
                  case he0a5 =>
                    intro w hSw
                    try dsimp only at hSw
                    go_simp
                    try with_reducible rfl
                  try simp only [Act.put, List.getElem_toArray, List.getElem_cons_succ, List.getElem_cons_zero, List.setIfInBounds_toArray, List.set_cons_zero, List.set_cons_succ]
                  refine wpAnyH_take (i := 6) (v := ?ve0a6) rfl (by kernel_rfl) (by kernel_rfl) (by kernel_rfl) (fun _ _ _ h => h) (Or.inl ⟨by rfl, ?he0a6⟩) (by assumption) ?re0a6
                  case he0a6 =>
                    intro w hSw
                    try dsimp only at hSw
                    go_simp
                    try with_reducible rfl
                  try simp only [Act.put, List.getElem_toArray, List.getElem_cons_succ, List.getElem_cons_zero, List.setIfInBounds_toArray, List.set_cons_zero, List.set_cons_succ]
                  refine wpAnyH_take (i := 7) (v := ?ve0a7) rfl (by kernel_rfl) (by kernel_rfl) (by kernel_rfl) (fun _ _ _ h => h) (Or.inl ⟨by rfl, ?he0a7⟩) (by assumption) ?re0a7
                  case he0a7 =>
                    intro w hSw
                    try dsimp only at hSw
                    go_simp
                    try with_reducible rfl
                  try simp only [Act.put, List.getElem_toArray, List.getElem_cons_succ, List.getElem_cons_zero, List.setIfInBounds_toArray, List.set_cons_zero, List.set_cons_succ]
                  refine wpAnyH_take (i := 8) (v := ?ve0a8) rfl (by kernel_rfl) (by kernel_rfl) (by kernel_rfl) (fun _ _ _ h => h) (Or.inl ⟨by rfl, ?he0a8⟩) (by assumption) ?re0a8
                  case he0a8 =>
                    intro w hSw
                    try dsimp only at hSw
                    go_simp
                    try with_reducible rfl
                  try simp only [Act.put, List.getElem_toArray, List.getElem_cons_succ, List.getElem_cons_zero, List.setIfInBounds_toArray, List.set_cons_zero, List.set_cons_succ]
                  refine wpAnyH_take (i := 9) (v := ?ve0a9) rfl (by kernel_rfl) (by kernel_rfl) (by kernel_rfl) (fun _ _ _ h => h) (Or.inl ⟨by rfl, ?he0a9⟩) (by assumption) ?re0a9
                  case he0a9 =>
                    intro w hSw
                    try dsimp only at hSw
                    go_simp
                    try with_reducible rfl
                  try simp only [Act.put, List.getElem_toArray, List.getElem_cons_succ, List.getElem_cons_zero, List.setIfInBounds_toArray, List.set_cons_zero, List.set_cons_succ]
                  refine wpAnyH_take (i := 10) (v := ?ve0a10) rfl (by kernel_rfl) (by kernel_rfl) (by kernel_rfl) (fun _ _ _ h => h) (Or.inl ⟨by rfl, ?he0a10⟩) (by assumption) ?re0a10
                  case he0a10 =>
                    intro w hSw
                    try dsimp only at hSw
                    go_simp
                    try with_reducible rfl
                  try simp only [Act.put, List.getElem_toArray, List.getElem_cons_succ, List.getElem_cons_zero, List.setIfInBounds_toArray, List.set_cons_zero, List.set_cons_succ]
                  refine wpAnyH_take (i := 11) (v := ?ve0a11) rfl (by kernel_rfl) (by kernel_rfl) (by kernel_rfl) (fun _ _ _ h => h) (Or.inl ⟨by rfl, ?he0a11⟩) (by assumption) ?re0a11
                  case he0a11 =>
                    intro w hSw
                    try dsimp only at hSw
                    go_simp
                    try with_reducible rfl
                  try simp only [Act.put, List.getElem_toArray, List.getElem_cons_succ, List.getElem_cons_zero, List.setIfInBounds_toArray, List.set_cons_zero, List.set_cons_succ]
                  refine wpAnyH_take (i := 12) (v := ?ve0a12) rfl (by kernel_rfl) (by kernel_rfl) (by kernel_rfl) (fun _ _ _ h => h) (Or.inl ⟨by rfl, ?he0a12⟩) (by assumption) ?re0a12
                  case he0a12 =>
                    intro w hSw
                    try dsimp only at hSw
                    go_simp
                    try with_reducible rfl
                  try simp only [Act.put, List.getElem_toArray, List.getElem_cons_succ, List.getElem_cons_zero, List.setIfInBounds_toArray, List.set_cons_zero, List.set_cons_succ]
                  refine wpAnyH_take (i := 13) (v := ?ve0a13) rfl (by kernel_rfl) (by kernel_rfl) (by kernel_rfl) (fun _ _ _ h => h) (Or.inl ⟨by rfl, ?he0a13⟩) (by assumption) ?re0a13
                  case he0a13 =>
                    intro w hSw
                    try dsimp only at hSw
                    go_simp
                    try with_reducible rfl
                  try simp only [Act.put, List.getElem_toArray, List.getElem_cons_succ, List.getElem_cons_zero, List.setIfInBounds_toArray, List.set_cons_zero, List.set_cons_succ]
                  refine wpAnyH_take (i := 14) (v := ?ve0a14) rfl (by kernel_rfl) (by kernel_rfl) (by kernel_rfl) (fun _ _ _ h => h) (Or.inl ⟨by rfl, ?he0a14⟩) (by assumption) ?re0a14
                  case he0a14 =>
                    intro w hSw
                    try dsimp only at hSw
                    go_simp
                    try with_reducible rfl
                  try simp only [Act.put, List.getElem_toArray, List.getElem_cons_succ, List.getElem_cons_zero, List.setIfInBounds_toArray, List.set_cons_zero, List.set_cons_succ]
                  refine wpAnyH_take (i := 15) (v := ?ve0a15) rfl (by kernel_rfl) (by kernel_rfl) (by kernel_rfl) (fun _ _ _ h => h) (Or.inl ⟨by rfl, ?he0a15⟩) (by assumption) ?re0a15
                  case he0a15 =>
                    intro w hSw
                    try dsimp only at hSw
                    go_simp
                    try with_reducible rfl
                  try simp only [Act.put, List.getElem_toArray, List.getElem_cons_succ, List.getElem_cons_zero, List.setIfInBounds_toArray, List.set_cons_zero, List.set_cons_succ]
                  refine wpAnyH_take (i := 16) (v := ?ve0a16) rfl (by kernel_rfl) (by kernel_rfl) (by kernel_rfl) (fun _ _ _ h => h) (Or.inl ⟨by rfl, ?he0a16⟩) (by assumption) ?re0a16
                  case he0a16 =>
                    intro w hSw
                    try dsimp only at hSw
                    go_simp
                    try with_reducible rfl
                  try simp only [Act.put, List.getElem_toArray, List.getElem_cons_succ, List.getElem_cons_zero, List.setIfInBounds_toArray, List.set_cons_zero, List.set_cons_succ]
                  refine wpAnyH_take (i := 17) (v := ?ve0a17) rfl (by kernel_rfl) (by kernel_rfl) (by kernel_rfl) (fun _ _ _ h => h) (Or.inl ⟨by rfl, ?he0a17⟩) (by assumption) ?re0a17
                  case he0a17 =>
                    intro w hSw
                    try dsimp only at hSw
                    go_simp
                    try with_reducible rfl
                  try simp only [Act.put, List.getElem_toArray, List.getElem_cons_succ, List.getElem_cons_zero, List.setIfInBounds_toArray, List.set_cons_zero, List.set_cons_succ]
                  refine wpAnyH_take (i := 18) (v := ?ve0a18) rfl (by kernel_rfl) (by kernel_rfl) (by kernel_rfl) (fun _ _ _ h => h) (Or.inl ⟨by rfl, ?he0a18⟩) (by assumption) ?re0a18
                  case he0a18 =>
                    intro w hSw
                    try dsimp only at hSw
                    go_simp
                    try with_reducible rfl
                  try simp only [Act.put, List.getElem_toArray, List.getElem_cons_succ, List.getElem_cons_zero, List.setIfInBounds_toArray, List.set_cons_zero, List.set_cons_succ]
                  refine wpAnyH_take (i := 19) (v := ?ve0a19) rfl (by kernel_rfl) (by kernel_rfl) (by kernel_rfl) (fun _ _ _ h => h) (Or.inl ⟨by rfl, ?he0a19⟩) (by assumption) ?re0a19
                  case he0a19 =>
                    intro w hSw
                    try dsimp only at hSw
                    go_simp
                    try with_reducible rfl
                  try simp only [Act.put, List.getElem_toArray, List.getElem_cons_succ, List.getElem_cons_zero, List.setIfInBounds_toArray, List.set_cons_zero, List.set_cons_succ]
                  refine wpAnyH_take (i := 20) (v := ?ve0a20) rfl (by kernel_rfl) (by kernel_rfl) (by kernel_rfl) (fun _ _ _ h => h) (Or.inl ⟨by rfl, ?he0a20⟩) (by assumption) ?re0a20
                  case he0a20 =>
                    intro w hSw
                    try dsimp only at hSw
                    go_simp
                    try with_reducible rfl
                  try simp only [Act.put, List.getElem_toArray, List.getElem_cons_succ, List.getElem_cons_zero, List.setIfInBounds_toArray, List.set_cons_zero, List.set_cons_succ]
                  refine wpAnyH_ready (rs := [21]) (by kernel_rfl) (by simp) ?_
                  refine AllReadyH.cons rfl (fun K hK => ?se1c21) AllReadyH.nil
                  go_simp
                  refine (sameQR_true (qac.arg.later F0) (qca.arg.later F0) (by omega)).mono ?_
                  rintro e u1 ⟨rfl, hy⟩
                  have F1 : Below wr.heap.size wr u1 := F0.trans (hy.mono F0.size)
                  have G1 := hy
                  clear hy
                  go_simp
                  refine hK.out _ _ ?ke1c21 (fun hHeld => ?me1c21)
                  case ke1c21 =>
                    try dsimp only
                    exact mkS2 _ F1
                  clear hK K
                  try simp only [Act.put, List.getElem_toArray, List.getElem_cons_succ, List.getElem_cons_zero, List.setIfInBounds_toArray, List.set_cons_zero, List.set_cons_succ]
                  refine wpAnyH_take (i := 22) (v := ?ve1a22) rfl (by kernel_rfl) (by kernel_rfl) (by kernel_rfl) (fun _ _ _ h => h) (Or.inl ⟨by rfl, ?he1a22⟩) (by assumption) ?re1a22
                  case he1a22 =>
                    intro w hSw
                    try dsimp only at hSw
                    go_simp
                    try with_reducible rfl
                  try simp only [Act.put, List.getElem_toArray, List.getElem_cons_succ, List.getElem_cons_zero, List.setIfInBounds_toArray, List.set_cons_zero, List.set_cons_succ]
                  refine wpAnyH_take (i := 23) (v := ?ve1a23) rfl (by kernel_rfl) (by kernel_rfl) (by kernel_rfl) (fun _ _ _ h => h) (Or.inl ⟨by rfl, ?he1a23⟩) (by assumption) ?re1a23
                  case he1a23 =>
                    intro w hSw
                    try dsimp only at hSw
                    go_simp
                    try with_reducible rfl
                  try simp only [Act.put, List.getElem_toArray, List.getElem_cons_succ, List.getElem_cons_zero, List.setIfInBounds_toArray, List.set_cons_zero, List.set_cons_succ]
                  refine wpAnyH_take (i := 24) (v := ?ve1a24) rfl (by kernel_rfl) (by kernel_rfl) (by kernel_rfl) (fun _ _ _ h => h) (Or.inl ⟨by rfl, ?he1a24⟩) (by assumption) ?re1a24
                  case he1a24 =>
                    intro w hSw
                    try dsimp only at hSw
                    go_simp
                    try with_reducible rfl
                  try simp only [Act.put, List.getElem_toArray, List.getElem_cons_succ, List.getElem_cons_zero, List.setIfInBounds_toArray, List.set_cons_zero, List.set_cons_succ]
                  refine wpAnyH_take (i := 25) (v := ?ve1a25) rfl (by kernel_rfl) (by kernel_rfl) (by kernel_rfl) (fun _ _ _ h => h) (Or.inl ⟨by rfl, ?he1a25⟩) (by assumption) ?re1a25
                  case he1a25 =>
                    intro w hSw
                    try dsimp only at hSw
                    go_simp
                    try with_reducible rfl
                  try simp only [Act.put, List.getElem_toArray, List.getElem_cons_succ, List.getElem_cons_zero, List.setIfInBounds_toArray, List.set_cons_zero, List.set_cons_succ]
                  refine wpAnyH_take (i := 26) (v := ?ve1a26) rfl (by kernel_rfl) (by kernel_rfl) (by kernel_rfl) (fun _ _ _ h => h) (Or.inl ⟨by rfl, ?he1a26⟩) (by assumption) ?re1a26
                  case he1a26 =>
                    intro w hSw
                    try dsimp only at hSw
                    go_simp
                    try with_reducible rfl
                  try simp only [Act.put, List.getElem_toArray, List.getElem_cons_succ, List.getElem_cons_zero, List.setIfInBounds_toArray, List.set_cons_zero, List.set_cons_succ]
                  refine wpAnyH_take (i := 27) (v := ?ve1a27) rfl (by kernel_rfl) (by kernel_rfl) (by kernel_rfl) (fun _ _ _ h => h) (Or.inl ⟨by rfl, ?he1a27⟩) (by assumption) ?re1a27
                  case he1a27 =>
                    intro w hSw
                    try dsimp only at hSw
                    go_simp
                    try with_reducible rfl
                  try simp only [Act.put, List.getElem_toArray, List.getElem_cons_succ, List.getElem_cons_zero, List.setIfInBounds_toArray, List.set_cons_zero, List.set_cons_succ]
                  refine wpAnyH_ready (rs := [28]) (by kernel_rfl) (by simp) ?_
                  refine AllReadyH.cons rfl (fun K hK => ?se2c28) AllReadyH.nil
                  go_simp
                  refine (mulQ_any (n := 2097153) ((xX _ (toW _ F1)).arg (Nat.le_trans HXL.out.1 (by omega)) (Nat.le_trans HXL.out.2 (by omega))) (qbc.arg.later F1) (by omega)).mono ?_
                  rintro e u2 ⟨rp, rfl, QP, hy⟩
                  have F2 : Below wr.heap.size wr u2 := F1.trans (hy.mono F1.size)
                  have G2 := hy
                  clear hy
                  have QP2 := ((QP.refit HFXB.out).more (show _ ≤ 2097153 by omega)).arg
                  obtain ⟨mp, fp, lp, jp, gp, np, ip, rfl⟩ := QP.shape
                  go_simp
                  refine hK.out _ _ ?ke2c28 (fun hHeld => ?me2c28)
                  case ke2c28 =>
                    try dsimp only
                    exact mkS2 _ F2
                  clear hK K
                  try simp only [Act.put, List.getElem_toArray, List.getElem_cons_succ, List.getElem_cons_zero, List.setIfInBounds_toArray, List.set_cons_zero, List.set_cons_succ]
                  refine wpAnyH_ready (rs := [29]) (by kernel_rfl) (by simp) ?_
                  refine AllReadyH.cons rfl (fun K hK => ?se3c29) AllReadyH.nil
                  go_simp
                  refine (addQ_any (n := 2097153) (qac.arg.later F2) QP2 (by omega)).mono ?_
                  rintro e u3 ⟨rq, rfl, QS, hy⟩
                  have F3 : Below wr.heap.size wr u3 := F2.trans (hy.mono F2.size)
                  have G3 := hy
                  clear hy
                  have QS2 := ((QS.refit HFS.out).more (show _ ≤ 2097153 by omega)).arg
                  obtain ⟨mq, fq, lq, jq, gq, nq, iq, rfl⟩ := QS.shape
                  go_simp
                  refine hK.out _ _ ?ke3c29 (fun hHeld => ?me3c29)
                  case ke3c29 =>
                    try dsimp only
                    exact mkS2 _ F3
                  clear hK K
                  try simp only [Act.put, List.getElem_toArray, List.getElem_cons_succ, List.getElem_cons_zero, List.setIfInBounds_toArray, List.set_cons_zero, List.set_cons_succ]
                  refine wpAnyH_ready (rs := [30]) (by kernel_rfl) (by simp) ?_
                  refine AllReadyH.cons rfl (fun K hK => ?se4c30) AllReadyH.nil
                  go_simp
                  refine (sameQR_true (qmc.arg.later F3) QS2 (by omega)).mono ?_
                  rintro e u4 ⟨rfl, hy⟩
                  have F4 : Below wr.heap.size wr u4 := F3.trans (hy.mono F3.size)
                  have G4 := hy
                  clear hy
                  go_simp
                  refine hK.out _ _ ?ke4c30 (fun hHeld => ?me4c30)
                  case ke4c30 =>
                    try dsimp only
                    exact mkS2 _ F4
                  clear hK K
                  try simp only [Act.put, List.getElem_toArray, List.getElem_cons_succ, List.getElem_cons_zero, List.setIfInBounds_toArray, List.set_cons_zero, List.set_cons_succ]
                  refine wpAnyH_take (i := 31) (v := ?ve4a31) rfl (by kernel_rfl) (by kernel_rfl) (by kernel_rfl) (fun _ _ _ h => h) (Or.inl ⟨by rfl, ?he4a31⟩) (by assumption) ?re4a31
                  case he4a31 =>
                    intro w hSw
                    try dsimp only at hSw
                    go_simp
                    try with_reducible rfl
                  try simp only [Act.put, List.getElem_toArray, List.getElem_cons_succ, List.getElem_cons_zero, List.setIfInBounds_toArray, List.set_cons_zero, List.set_cons_succ]
                  refine wpAnyH_take (i := 32) (v := ?ve4a32) rfl (by kernel_rfl) (by kernel_rfl) (by kernel_rfl) (fun _ _ _ h => h) (Or.inl ⟨by rfl, ?he4a32⟩) (by assumption) ?re4a32
                  case he4a32 =>
                    intro w hSw
                    try dsimp only at hSw
                    go_simp
                    try with_reducible rfl
                  try simp only [Act.put, List.getElem_toArray, List.getElem_cons_succ, List.getElem_cons_zero, List.setIfInBounds_toArray, List.set_cons_zero, List.set_cons_succ]
                  refine wpAnyH_take (i := 33) (v := ?ve4a33) rfl (by kernel_rfl) (by kernel_rfl) (by kernel_rfl) (fun _ _ _ h => h) (Or.inl ⟨by rfl, ?he4a33⟩) (by assumption) ?re4a33
                  case he4a33 =>
                    intro w hSw
                    try dsimp only at hSw
                    go_simp
                    try with_reducible rfl
                  try simp only [Act.put, List.getElem_toArray, List.getElem_cons_succ, List.getElem_cons_zero, List.setIfInBounds_toArray, List.set_cons_zero, List.set_cons_succ]
                  refine wpAnyH_take (i := 36) (v := ?ve4a36) rfl (by kernel_rfl) (by kernel_rfl) (by kernel_rfl) (fun _ _ _ h => h) (Or.inl ⟨by rfl, ?he4a36⟩) (by assumption) ?re4a36
                  case he4a36 =>
                    intro w hSw
                    try dsimp only at hSw
                    go_simp
                    try with_reducible rfl
                  try simp only [Act.put, List.getElem_toArray, List.getElem_cons_succ, List.getElem_cons_zero, List.setIfInBounds_toArray, List.set_cons_zero, List.set_cons_succ]
                  refine wpAnyH_ready (rs := [34]) (by kernel_rfl) (by simp) ?_
                  refine AllReadyH.cons rfl (fun K hK => ?se5c34) AllReadyH.nil
                  go_simp
                  refine (signQ_any (n := 2097153) (qaa.arg.later F4) (by omega)).mono ?_
                  rintro e u5 ⟨rfl, hy⟩
                  have F5 : Below wr.heap.size wr u5 := F4.trans (hy.mono F4.size)
                  have G5 := hy
                  clear hy
                  rw [HSG.out]
                  go_simp
                  refine hK.out _ _ ?ke5c34 (fun hHeld => ?me5c34)
                  case ke5c34 =>
                    try dsimp only
                    exact mkS2 _ F5
                  clear hK K
                  try simp only [Act.put, List.getElem_toArray, List.getElem_cons_succ, List.getElem_cons_zero, List.setIfInBounds_toArray, List.set_cons_zero, List.set_cons_succ]
                  refine wpAnyH_take (i := 35) (v := ?ve5a35) rfl (by kernel_rfl) (by kernel_rfl) (by kernel_rfl) (fun _ _ _ h => h) (Or.inl ⟨by rfl, ?he5a35⟩) (by assumption) ?re5a35
                  case he5a35 =>
                    intro w hSw
                    try dsimp only at hSw
                    go_simp
                    try with_reducible rfl
                  try simp only [Act.put, List.getElem_toArray, List.getElem_cons_succ, List.getElem_cons_zero, List.setIfInBounds_toArray, List.set_cons_zero, List.set_cons_succ]
                  refine wpAnyH_take (i := 37) (v := ?ve5a37) rfl (by kernel_rfl) (by kernel_rfl) (by kernel_rfl) (fun _ _ _ h => h) (Or.inl ⟨by rfl, ?he5a37⟩) (by assumption) ?re5a37
                  case he5a37 =>
                    intro w hSw
                    try dsimp only at hSw
                    go_simp
                    try with_reducible rfl
                  try simp only [Act.put, List.getElem_toArray, List.getElem_cons_succ, List.getElem_cons_zero, List.setIfInBounds_toArray, List.set_cons_zero, List.set_cons_succ]
                  refine wpAnyH_take (i := 38) (v := ?ve5a38) rfl (by kernel_rfl) (by kernel_rfl) (by kernel_rfl) (fun _ _ _ h => h) (Or.inl ⟨by rfl, ?he5a38⟩) (by assumption) ?re5a38
                  case he5a38 =>
                    intro w hSw
                    try dsimp only at hSw
                    go_simp
                    try with_reducible rfl
                  try simp only [Act.put, List.getElem_toArray, List.getElem_cons_succ, List.getElem_cons_zero, List.setIfInBounds_toArray, List.set_cons_zero, List.set_cons_succ]
                  refine wpAnyH_take (i := 39) (v := ?ve5a39) rfl (by kernel_rfl) (by kernel_rfl) (by kernel_rfl) (fun _ _ _ h => h) (Or.inl ⟨by rfl, ?he5a39⟩) (by assumption) ?re5a39
                  case he5a39 =>
                    intro w hSw
                    try dsimp only at hSw
                    go_simp
                    try with_reducible rfl
                  try simp only [Act.put, List.getElem_toArray, List.getElem_cons_succ, List.getElem_cons_zero, List.setIfInBounds_toArray, List.set_cons_zero, List.set_cons_succ]
                  refine wpAnyH_take (i := 40) (v := ?ve5a40) rfl (by kernel_rfl) (by kernel_rfl) (by kernel_rfl) (fun _ _ _ h => h) (Or.inl ⟨by rfl, ?he5a40⟩) (by assumption) ?re5a40
                  case he5a40 =>
                    intro w hSw
                    try dsimp only at hSw
                    go_simp
                    try with_reducible rfl
                  try simp only [Act.put, List.getElem_toArray, List.getElem_cons_succ, List.getElem_cons_zero, List.setIfInBounds_toArray, List.set_cons_zero, List.set_cons_succ]
                  refine wpAnyH_ready (rs := [41]) (by kernel_rfl) (by simp) ?_
                  refine AllReadyH.cons rfl (fun K hK => ?se6c41) AllReadyH.nil
                  go_simp
                  refine (signQ_any (n := 2097153) (qaa.arg.later F5) (by omega)).mono ?_
                  rintro e u6 ⟨rfl, hy⟩
                  have F6 : Below wr.heap.size wr u6 := F5.trans (hy.mono F5.size)
                  have G6 := hy
                  clear hy
                  rw [HSG.out]
                  go_simp
                  refine hK.out _ _ ?ke6c41 (fun hHeld => ?me6c41)
                  case ke6c41 =>
                    try dsimp only
                    exact mkS2 _ F6
                  clear hK K
                  try simp only [Act.put, List.getElem_toArray, List.getElem_cons_succ, List.getElem_cons_zero, List.setIfInBounds_toArray, List.set_cons_zero, List.set_cons_succ]
                  refine wpAnyH_take (i := 42) (v := ?ve6a42) rfl (by kernel_rfl) (by kernel_rfl) (by kernel_rfl) (fun _ _ _ h => h) (Or.inl ⟨by rfl, ?he6a42⟩) (by assumption) ?re6a42
                  case he6a42 =>
                    intro w hSw
                    try dsimp only at hSw
                    go_simp
                    try with_reducible rfl
                  try simp only [Act.put, List.getElem_toArray, List.getElem_cons_succ, List.getElem_cons_zero, List.setIfInBounds_toArray, List.set_cons_zero, List.set_cons_succ]
                  refine wpAnyH_take (i := 43) (v := ?ve6a43) rfl (by kernel_rfl) (by kernel_rfl) (by kernel_rfl) (fun _ _ _ h => h) (Or.inl ⟨by rfl, ?he6a43⟩) (by assumption) ?re6a43
                  case he6a43 =>
                    intro w hSw
                    try dsimp only at hSw
                    go_simp
                    try with_reducible rfl
                  try simp only [Act.put, List.getElem_toArray, List.getElem_cons_succ, List.getElem_cons_zero, List.setIfInBounds_toArray, List.set_cons_zero, List.set_cons_succ]
                  refine wpAnyH_take (i := 44) (v := ?ve6a44) rfl (by kernel_rfl) (by kernel_rfl) (by kernel_rfl) (fun _ _ _ h => h) (Or.inl ⟨by rfl, ?he6a44⟩) (by assumption) ?re6a44
                  case he6a44 =>
                    intro w hSw
                    try dsimp only at hSw
                    go_simp
                    try with_reducible rfl
                  try simp only [Act.put, List.getElem_toArray, List.getElem_cons_succ, List.getElem_cons_zero, List.setIfInBounds_toArray, List.set_cons_zero, List.set_cons_succ]
                  refine wpAnyH_ready (rs := [45]) (by kernel_rfl) (by simp) ?_
                  refine AllReadyH.cons rfl (fun K hK => ?se7c45) AllReadyH.nil
                  go_simp
                  refine (known7_any _).mono ?_
                  rintro e u7 ⟨rfl, hy⟩
                  have F7 : Below wr.heap.size wr u7 := F6.trans (hy.mono F6.size)
                  have G7 := hy
                  clear hy
                  go_simp
                  refine hK.out _ _ ?ke7c45 (fun hHeld => ?me7c45)
                  case ke7c45 =>
                    try dsimp only
                    exact mkS2 _ F7
                  clear hK K
                  try simp only [Act.put, List.getElem_toArray, List.getElem_cons_succ, List.getElem_cons_zero, List.setIfInBounds_toArray, List.set_cons_zero, List.set_cons_succ]
                  refine wpAnyH_take (i := 46) (v := ?ve7a46) rfl (by kernel_rfl) (by kernel_rfl) (by kernel_rfl) (fun _ _ _ h => h) (Or.inl ⟨by rfl, ?he7a46⟩) (by assumption) ?re7a46
                  case he7a46 =>
                    intro w hSw
                    try dsimp only at hSw
                    go_simp
                    try with_reducible rfl
                  try simp only [Act.put, List.getElem_toArray, List.getElem_cons_succ, List.getElem_cons_zero, List.setIfInBounds_toArray, List.set_cons_zero, List.set_cons_succ]
                  refine wpAnyH_ready (rs := [47]) (by kernel_rfl) (by simp) ?_
                  refine AllReadyH.cons rfl (fun K hK => ?se7d47) AllReadyH.nil
                  go_simp
                  refine hK.out _ _ ?ke7d47 (fun hHeld => ?me7d47)
                  case ke7d47 =>
                    try dsimp only
                    exact mkS2 _ F7
                  clear hK K
                  try simp only [Act.put, List.getElem_toArray, List.getElem_cons_succ, List.getElem_cons_zero, List.setIfInBounds_toArray, List.set_cons_zero, List.set_cons_succ]
                  refine wpAnyH_done (by kernel_rfl) ?_ _
                  go_wp2
                  go_ret
                  exact ⟨rfl, hBW.trans ((toW _ F7).mono hBW.size)⟩
      · have hne : (m3 != 0) = true := by simp [h3]
        go_enter Tryz.func9, Tryz.ntmps9
        go_wp2_with (first
          | (go_at_call 13; (with_reducible refine hmay1.mono ?_); rintro e y1 ⟨rfl, B1⟩; obtain ⟨⟨d0, d1⟩, ⟨d2, d3⟩, ⟨d4, d5⟩, d6, d7, d8⟩ := mkS _ B1; have hmay2 := ref2 _ B1; clear hmay1 c0 c1 c2 c3 c4 c5 c6 c7 c8)
          | (go_at_call 13; (with_reducible refine hmay2.mono ?_); rintro e y2 ⟨rfl, hb2⟩; have B2 := B1.trans (hb2.mono B1.size); obtain ⟨⟨f0, f1⟩, ⟨f2, f3⟩, ⟨f4, f5⟩, f6, f7, f8⟩ := mkS _ B2; have hmay3 := ref3 _ B2; clear hmay2 d0 d1 d2 d3 d4 d5 d6 d7 d8)
          | (go_at_call 13; (with_reducible refine hmay3.mono ?_); rintro e y3 ⟨rfl, hb3⟩; have B3 := B2.trans (hb3.mono B2.size); obtain ⟨⟨g0, g1⟩, ⟨g2, g3⟩, ⟨g4, g5⟩, g6, g7, g8⟩ := mkS _ B3; have hsh2 := hs12 _ B3; clear hmay3 f0 f1 f2 f3 f4 f5 f6 f7 f8)
          | (go_at_call 14; refine (known7_any _).mono ?_; rintro e y9 ⟨rfl, hb9⟩))
        go_ret
        exact ⟨rfl, hBW.trans ((B3.trans (hb9.mono B3.size)).mono hBW.size)⟩
    · have hne : (m2 != 0) = true := by simp [h2]
      go_enter Tryz.func9, Tryz.ntmps9
      go_wp2_with (first
        | (go_at_call 13; (with_reducible refine hmay1.mono ?_); rintro e y1 ⟨rfl, B1⟩; obtain ⟨⟨d0, d1⟩, ⟨d2, d3⟩, ⟨d4, d5⟩, d6, d7, d8⟩ := mkS _ B1; have hmay2 := ref2 _ B1; clear hmay1 c0 c1 c2 c3 c4 c5 c6 c7 c8)
        | (go_at_call 13; (with_reducible refine hmay2.mono ?_); rintro e y2 ⟨rfl, hb2⟩; have B2 := B1.trans (hb2.mono B1.size); obtain ⟨⟨f0, f1⟩, ⟨f2, f3⟩, ⟨f4, f5⟩, f6, f7, f8⟩ := mkS _ B2; have hmay3 := ref3 _ B2; clear hmay2 d0 d1 d2 d3 d4 d5 d6 d7 d8)
        | (go_at_call 14; refine (known7_any _).mono ?_; rintro e y9 ⟨rfl, hb9⟩))
      go_ret
      exact ⟨rfl, hBW.trans ((B2.trans (hb9.mono B2.size)).mono hBW.size)⟩
  · have hne : (m1 != 0) = true := by simp [h1]
    go_enter Tryz.func9, Tryz.ntmps9
    go_wp2_with (first
      | (go_at_call 13; (with_reducible refine hmay1.mono ?_); rintro e y1 ⟨rfl, B1⟩; obtain ⟨⟨d0, d1⟩, ⟨d2, d3⟩, ⟨d4, d5⟩, d6, d7, d8⟩ := mkS _ B1; have hmay2 := ref2 _ B1; clear hmay1 c0 c1 c2 c3 c4 c5 c6 c7 c8)
      | (go_at_call 14; refine (known7_any _).mono ?_; rintro e y9 ⟨rfl, hb9⟩))
    go_ret
    exact ⟨rfl, hBW.trans ((B1.trans (hb9.mono B1.size)).mono hBW.size)⟩
end Go.Proofs.YtnhfjacifajdlaaGreat
