/-
  Layer 8's law PointProducts: for any two tensors the law holds.
-/
import Derived.Test.YtjcacmnmbbnffaaGreatPKnown
import Derived.Test.YtjcacmnmbbnffaaGreatPRefG
namespace Go.Proofs.YtjcacmnmbbnffaaGreat
open Go.RowKit
set_option linter.unusedVariables false
set_option linter.unusedSimpArgs false

/-- what a function of the reference answers, where it answers at all -/
def TwoV (w : World) (v : Value) (c : Int) (s : List Int) (L : List Rat) (N : Nat) : Prop := c = 0 → TenR w v s L N
theorem TwoV.later {w w' : World} {v : Value} {c : Int} {s : List Int} {L : List Rat} {N : Nat} (h : TwoV w v c s L N) (hb : Below w.heap.size w w') : TwoV w' v c s L N := fun e => (h e).later hb
theorem TwoV.only {w w' : World} {v : Value} {c : Int} {s : List Int} {L : List Rat} {N g : Nat} {t : TypeId} {p1 p2 : Option Addr} {l1 l2 k1 k2 : Nat} (h : TwoV w v c s L N) (R : Row w g t #[.slice p1 l1 k1, .slice p2 l2 k2]) (o : Only g w w') : TwoV w' v c s L N := fun e => by
  obtain ⟨a, ca, b, cb, U⟩ := h e
  exact ⟨a, ca, b, cb, U.far R (fun k hk => o.block k hk)⟩
theorem first_dot {s1 s2 : List Int} {q1 q2 : List Q3} : (firstC s1 s2 q1 q2 ≠ 0 → dotC s1 s2 q1 q2 = firstC s1 s2 q1 q2) ∧ (firstC s1 s2 q1 q2 = 0 → dotC s1 s2 q1 q2 = shC s1 s2 ∧ mayT s1 q1 = 0 ∧ mayT s2 q2 = 0) := by
  unfold firstC dotC shC
  by_cases h1 : mayT s1 q1 = 0
  · by_cases h2 : mayT s2 q2 = 0
    · rw [h1, h2]
      refine ⟨fun h => absurd rfl h, fun _ => ⟨?_, rfl, rfl⟩⟩
      by_cases h : s1 = s2
      · simp [h]
      · have h' : s2 ≠ s1 := fun e => h e.symm
        simp [h, h']
    · rw [h1]
      exact ⟨fun _ => by simp [h2], fun h => absurd (show mayT s2 q2 = 0 by rw [if_neg (by simp)] at h; exact h) h2⟩
  · exact ⟨fun _ => by simp [h1], fun h => absurd (show mayT s1 q1 = 0 by rw [if_pos h1] at h; exact h) h1⟩
theorem twoC_true (c : Int) : twoC c true = c := by
  unfold twoC
  by_cases h : c = 0
  · simp [h]
  · simp [h]
theorem zipQ_le {f : Rat → Rat → Rat} {q1 q2 : List Q3} : (zipQ f q1 q2).length ≤ q1.length := by
  unfold zipQ
  rw [List.length_zipWith]
  omega
theorem same_len {s1 s2 : List Int} {q1 q2 : List Q3} (h1 : mayT s1 q1 = 0) (h2 : mayT s2 q2 = 0) (h : s2 = s1) : q2.length = q1.length := by
  subst h
  have g1 := (mayT_valid h1).1
  have g2 := (mayT_valid h2).1
  omega
theorem div_ok {q1 q2 : List Q3} (hl : q2.length = q1.length) : zipOk (fun _ y => decide (y ≠ 0)) q1 q2 = !decide ((0 : Rat) ∈ q2.map Q3.rat) := by
  by_cases h : (0 : Rat) ∈ q2.map Q3.rat
  · rw [decide_eq_true h]
    obtain ⟨i, hi, h0⟩ := List.mem_iff_getElem.1 h
    have j2 : i < q2.length := by simpa using hi
    refine zipOk_bad (k := i) (by omega) hl ?_
    simp at h0
    simp [j2, h0]
  · rw [decide_eq_false h, zipOk_eq rfl rfl]
    rw [show (!false) = true from rfl, List.all_eq_true]
    intro x hx
    obtain ⟨i, hi, rfl⟩ := List.mem_iff_getElem.1 hx
    simp only [List.length_zipWith] at hi
    have hne : (q2.map Q3.rat)[i] ≠ 0 := fun e => h (by rw [← e]; exact List.getElem_mem _)
    simp at hne
    simp [hne]
theorem div_code {s1 s2 : List Int} {q1 q2 : List Q3} (h : dotC s1 s2 q1 q2 = shC s1 s2) (hl : s2 = s1 → q2.length = q1.length) : twoC (dotC s1 s2 q1 q2) (zipOk (fun _ y => decide (y ≠ 0)) q1 q2) = divC s1 s2 (q2.map Q3.rat) := by
  rw [h]
  unfold shC divC
  by_cases e : s2 = s1
  · rw [if_pos e, if_pos e, div_ok (hl e)]
    unfold twoC
    by_cases k : (0 : Rat) ∈ q2.map Q3.rat
    · rw [decide_eq_true k, if_pos k]; rfl
    · rw [decide_eq_false k, if_neg k]; rfl
  · rw [if_neg e, if_neg e]
    rfl
set_option maxRecDepth 100000 in
set_option maxHeartbeats 8000000 in
theorem pointProducts_walk {v : Value} {s : List Int} {qs : List Q3} {a b : Option Addr} {ca cb : Nat} {v2 : Value} {s2 : List Int} {qs2 : List Q3} {a2 b2 : Option Addr} {ca2 cb2 : Nat} (w : World) (T : TensQ w v s qs a ca b cb) (ls : s.length ≤ 17592186044416) (T2 : TensQ w v2 s2 qs2 a2 ca2 b2 cb2) (ls2 : s2.length ≤ 17592186044416) :
    Calls Tryz.prog 4 #[v, v2] w fun e W' => e = .returned (.bool true) ∧ Below w.heap.size w W' := by
  have HT := Lib.hid T
  have HT2 := Lib.hid T2
  obtain rfl := T.is
  obtain rfl := T2.is
  obtain ⟨W, hW⟩ : ∃ W, ((w.alloc (.cells #[.slice a s.length ca, .slice b qs.length cb] 26)).alloc (.cells #[.slice a2 s2.length ca2, .slice b2 qs2.length cb2] 26)) = W := ⟨_, rfl⟩
  have R0 : Row W (w.heap.size) 26 #[.slice a s.length ca, .slice b qs.length cb] := by rw [← hW]; have h := Row.new w 26 #[.slice a s.length ca, .slice b qs.length cb]; (try simp only [World.size_alloc] at h); exact (h.alloc _)
  have R1 : Row W (w.heap.size + 1) 26 #[.slice a2 s2.length ca2, .slice b2 qs2.length cb2] := by rw [← hW]; have h := Row.new (w.alloc (.cells #[.slice a s.length ca, .slice b qs.length cb] 26)) 26 #[.slice a2 s2.length ca2, .slice b2 qs2.length cb2]; (try simp only [World.size_alloc] at h); exact h
  have hBW : Below w.heap.size w W := by rw [← hW]; exact (((Below.refl _ _).alloc (by (try simp) <;> omega) _).alloc (by (try simp) <;> omega) _)
  have hsW : W.heap.size = w.heap.size + 1 + 1 := by rw [← hW]; simp
  have hfew := few_any (HT.out.later hBW)
  have hfew2 := fun (X : World) (hX : Below W.heap.size W X) => few_any (HT2.out.later (hBW.trans (hX.mono (by omega))))
  obtain ⟨t, ht⟩ : ∃ t, fewB qs = t := ⟨_, rfl⟩
  obtain ⟨t2, ht2⟩ : ∃ t, fewB qs2 = t := ⟨_, rfl⟩
  rw [ht] at hfew
  rw [ht2] at hfew2
  have HF := Lib.hid ht
  have HF2 := Lib.hid ht2
  obtain ⟨x0, x1, _, _⟩ := R0.two
  clear T T2 ht ht2
  cases t with
  | false =>
    go_enter Tryz.func4, Tryz.ntmps4
    (try rw [hW])
    go_wp2_with fail
    refine (hfew).mono ?_
    rintro e y1 ⟨rfl, hb1⟩
    have hk1 := hBW.trans (hb1.mono (by omega))
    go_wp2_with fail
    refine (known8_any _).mono ?_
    rintro e y9 ⟨rfl, hb9⟩
    go_wp2_with fail
    go_ret
    exact ⟨rfl, hk1.trans (hb9.mono hk1.size)⟩
  | true =>
    cases t2 with
    | false =>
      go_enter Tryz.func4, Tryz.ntmps4
      (try rw [hW])
      go_wp2_with fail
      refine (hfew).mono ?_
      rintro e y1 ⟨rfl, hb1⟩
      have hk1 := hBW.trans (hb1.mono (by omega))
      obtain ⟨x2', x3', _, _⟩ := (R1.later hb1).two
      go_wp2_with fail
      refine (hfew2 _ hb1).mono ?_
      rintro e y2 ⟨rfl, hb2⟩
      have hk2 := hk1.trans (hb2.mono hk1.size)
      go_wp2_with fail
      refine (known8_any _).mono ?_
      rintro e y9 ⟨rfl, hb9⟩
      go_wp2_with fail
      go_ret
      exact ⟨rfl, hk2.trans (hb9.mono hk2.size)⟩
    | true =>
      obtain ⟨hq64, hl6⟩ := fewB_true HF.out
      obtain ⟨hq64b, hl6b⟩ := fewB_true HF2.out
      have HL := Lib.hid hl6
      have HL2 := Lib.hid hl6b
      clear hl6 hl6b
      obtain ⟨f, hf⟩ : ∃ f, firstC s s2 qs qs2 = f := ⟨_, rfl⟩
      have HFC := Lib.hid hf
      clear hf
      go_enter Tryz.func4, Tryz.ntmps4
      (try rw [hW])
      go_wp2_with fail
      refine (hfew).mono ?_
      rintro e y1 ⟨rfl, hb1⟩
      have hk1 := hBW.trans (hb1.mono (by omega))
      obtain ⟨x2', x3', _, _⟩ := (R1.later hb1).two
      go_wp2_with fail
      refine (hfew2 _ hb1).mono ?_
      rintro e y2 ⟨rfl, hb2⟩
      have C2 : Below W.heap.size W y2 := hb1.trans (hb2.mono hb1.size)
      have tX := fun (X : World) (h : Below W.heap.size W X) => HT.out.later (hBW.trans (h.mono (by omega)))
      have tY := fun (X : World) (h : Below W.heap.size W X) => HT2.out.later (hBW.trans (h.mono (by omega)))
      have HX := Lib.hid tX
      have HY := Lib.hid tY
      have mk4 : ∀ X, Below W.heap.size W X → X.cell? ⟨w.heap.size, 0, none⟩ = some (.slice a s.length ca) ∧ X.cell? ⟨w.heap.size, 1, none⟩ = some (.slice b qs.length cb) ∧ X.cell? ⟨w.heap.size + 1, 0, none⟩ = some (.slice a2 s2.length ca2) ∧ X.cell? ⟨w.heap.size + 1, 1, none⟩ = some (.slice b2 qs2.length cb2) := fun X h => by
        obtain ⟨u0, u1, _⟩ := (R0.later h).two
        obtain ⟨u2, u3, _⟩ := (R1.later h).two
        exact ⟨u0, u1, u2, u3⟩
      clear tX tY hk1 x0 x1 x2' x3'
      obtain ⟨x0, x1, x2, x3⟩ := mk4 _ C2
      go_wp2_with fail
      refine (mulP_any (n := 6) (HX.out _ C2) (HY.out _ C2) ls ls2 (by omega) (by omega) HL.out HL2.out (by omega)).mono ?_
      rintro e y3 ⟨h, hb3⟩
      obtain ⟨e1, he1⟩ : ∃ e, dotC s s2 qs qs2 = e := ⟨_, rfl⟩
      rw [zipOk_true, twoC_true, he1] at h
      have HE1 := Lib.hid he1
      obtain ⟨ga1, gb1, n1, m1, gca1, gcb1, rfl, hA1⟩ := h.ans
      clear he1 h
      obtain ⟨y4, hV⟩ : ∃ X, y3.alloc (.cells #[.slice ga1 n1 gca1, .slice gb1 m1 gcb1] 26) = X := ⟨_, rfl⟩
      have bz : Below y3.heap.size y3 y4 := by rw [← hV]; exact (Below.refl _ _).alloc (Nat.le_refl _) _
      have N1 : Row y4 y3.heap.size 26 #[.slice ga1 n1 gca1, .slice gb1 m1 gcb1] := by rw [← hV]; exact Row.new _ _ _
      have E1 : Below y2.heap.size y2 y4 := hb3.trans (bz.mono hb3.size)
      have C4 : Below W.heap.size W y4 := C2.trans (E1.mono C2.size)
      have hA1' := hA1.later bz
      have HA1 := Lib.hid hA1'
      clear x0 x1 x2 x3 hA1 hA1' bz
      obtain ⟨x0, x1, x2, x3⟩ := mk4 _ C4
      go_wp2_with fail
      (try rw [hV])
      (try clear hV)
      refine (divP_any (n := 6) (HX.out _ C4) (HY.out _ C4) ls ls2 (by omega) (by omega) HL.out HL2.out (by omega)).mono ?_
      rintro e y5 ⟨h, hb5⟩
      obtain ⟨e2, he2⟩ : ∃ e, twoC (dotC s s2 qs qs2) (zipOk (fun _ y => decide (y ≠ 0)) qs qs2) = e := ⟨_, rfl⟩
      rw [he2] at h
      have HE2 := Lib.hid he2
      obtain ⟨ga2, gb2, n2, m2, gca2, gcb2, rfl, hA2⟩ := h.ans
      clear he2 h
      obtain ⟨y6, hV⟩ : ∃ X, y5.alloc (.cells #[.slice ga2 n2 gca2, .slice gb2 m2 gcb2] 26) = X := ⟨_, rfl⟩
      have bz : Below y5.heap.size y5 y6 := by rw [← hV]; exact (Below.refl _ _).alloc (Nat.le_refl _) _
      have N2 : Row y6 y5.heap.size 26 #[.slice ga2 n2 gca2, .slice gb2 m2 gcb2] := by rw [← hV]; exact Row.new _ _ _
      have E2 : Below y4.heap.size y4 y6 := hb5.trans (bz.mono hb5.size)
      have C6 : Below W.heap.size W y6 := C4.trans (E2.mono C4.size)
      have hA2' := hA2.later bz
      have HA2 := Lib.hid hA2'
      replace N1 := N1.later E2
      replace HA1 := Lib.hid (HA1.out.later E2)
      clear x0 x1 x2 x3 hA2 hA2' bz
      obtain ⟨x0, x1, x2, x3⟩ := mk4 _ C6
      go_wp2_with fail
      (try rw [hV])
      (try clear hV)
      refine (first_any (HX.out _ C6) (HY.out _ C6) (by omega) (by omega) (fun p hp => by have := HL.out p hp; omega) (fun p hp => by have := HL2.out p hp; omega)).mono ?_
      rintro e y7 ⟨rfl, hb7⟩
      rw [HFC.out]
      have C7 : Below W.heap.size W y7 := C6.trans (hb7.mono C6.size)
      have N1' := N1.later hb7
      have N2' := N2.later hb7
      have HA1' := Lib.hid (HA1.out.later hb7)
      have HA2' := Lib.hid (HA2.out.later hb7)
      have hk7 : Below w.heap.size w y7 := hBW.trans (C7.mono (by omega))
      clear x0 x1 x2 x3 N1 N2 HA1 HA2 E1 E2 hb1 hb2 hb3 hb5 hb7 C2 C4 C6 hfew2 hfew
      obtain ⟨w0, w1, _, _⟩ := N1'.two
      obtain ⟨w2, w3, _, _⟩ := N2'.two
      by_cases hf : f = 0
      case neg =>
        have hne : (f != 0) = true := by simp [hf]
        have hdot := (first_dot (s1 := s) (s2 := s2) (q1 := qs) (q2 := qs2)).1 (by rw [HFC.out]; exact hf)
        rw [HFC.out] at hdot
        obtain rfl : e1 = f := by rw [← HE1.out]; exact hdot
        obtain rfl : e2 = e1 := by rw [← HE2.out]; rw [hdot]; unfold twoC; rw [if_pos hf]
        have HNF := Lib.hid hf
        clear hdot hf
        go_wp2_with fail
        refine (told_any HA1'.out (n := 0) ⟨_, _, _, _, _, _, rfl⟩ (fun h => absurd h HNF.out) ls (Nat.le_trans zipQ_le (by omega)) (by omega) (by omega)).mono ?_
        rintro e y8 ⟨rfl, hb8⟩
        have hk8 := hk7.trans (hb8.mono hk7.size)
        obtain ⟨w2', w3', _, _⟩ := (N2'.later hb8).two
        go_wp2_with fail
        refine (told_any (HA2'.out.later hb8) (n := 0) ⟨_, _, _, _, _, _, rfl⟩ (fun h => absurd h HNF.out) ls (Nat.le_trans zipQ_le (by omega)) (by omega) (by omega)).mono ?_
        rintro e y10 ⟨rfl, hb10⟩
        have hk10 := hk8.trans (hb10.mono hk8.size)
        go_wp2_with fail
        refine (known8_any _).mono ?_
        rintro e y9 ⟨rfl, hb9⟩
        go_wp2_with fail
        go_ret
        exact ⟨rfl, hk10.trans (hb9.mono hk10.size)⟩
      case pos =>
        subst hf
        obtain ⟨hdot, hm1, hm2⟩ := (first_dot (s1 := s) (s2 := s2) (q1 := qs) (q2 := qs2)).2 HFC.out
        have hlen : s2 = s → (qs2.map Q3.rat).length = (qs.map Q3.rat).length := fun h => by rw [List.length_map, List.length_map]; exact same_len hm1 hm2 h
        have HLEN := Lib.hid hlen
        have HM1 := Lib.hid hm1
        have HM2 := Lib.hid hm2
        obtain ⟨c1, hc1⟩ : ∃ c, shC s s2 = c := ⟨_, rfl⟩
        obtain ⟨c2, hc2⟩ : ∃ c, divC s s2 (qs2.map Q3.rat) = c := ⟨_, rfl⟩
        obtain rfl : e1 = c1 := by rw [← HE1.out, ← hc1]; exact hdot
        obtain rfl : e2 = c2 := by rw [← HE2.out, ← hc2]; exact div_code hdot (fun h => same_len hm1 hm2 h)
        have HC1 := Lib.hid hc1
        have HC2 := Lib.hid hc2
        have mkS : ∀ X, Below y7.heap.size y7 X → X.cell? ⟨w.heap.size, 0, none⟩ = some (.slice a s.length ca) ∧ X.cell? ⟨w.heap.size, 1, none⟩ = some (.slice b qs.length cb) ∧ X.cell? ⟨w.heap.size + 1, 0, none⟩ = some (.slice a2 s2.length ca2) ∧ X.cell? ⟨w.heap.size + 1, 1, none⟩ = some (.slice b2 qs2.length cb2) := fun X h => mk4 X (C7.trans (h.mono C7.size))
        have of1 := fun (X : World) (h : Below y7.heap.size y7 X) => ofT_any (n := 6) (HX.out X (C7.trans (h.mono C7.size))) (by omega) (by omega) HL.out (by omega)
        have of2 := fun (X : World) (h : Below y7.heap.size y7 X) => ofT_any (n := 6) (HY.out X (C7.trans (h.mono C7.size))) (by omega) (by omega) HL2.out (by omega)
        have OF1 := Lib.hid of1
        have OF2 := Lib.hid of2
        clear hdot hm1 hm2 hlen hc1 hc2 of1 of2 mk4
        go_upto_region 8 with fail
        go_cut [10, 11] (fun sa sb wx => ∃ (g : Nat) (f1 f2 : Option Addr) (l1 j1 l2 j2 : Nat), sa = .pointer (some ⟨g, 0, none⟩) ∧ sb = .int .i64 e1 ∧ Row wx g 36 #[.slice f1 l1 j1, .slice f2 l2 j2] ∧ TwoV wx (.agg #[.slice f1 l1 j1, .slice f2 l2 j2]) e1 s (zipQ (fun x y => x * y) qs qs2) 98 ∧ Below y7.heap.size y7 wx)
        case first =>
          refine wp_region_held_drew (S := fun X => X.cell? ⟨w.heap.size, 0, none⟩ = some (.slice a s.length ca) ∧ X.cell? ⟨w.heap.size, 1, none⟩ = some (.slice b qs.length cb) ∧ X.cell? ⟨w.heap.size + 1, 0, none⟩ = some (.slice a2 s2.length ca2) ∧ X.cell? ⟨w.heap.size + 1, 1, none⟩ = some (.slice b2 qs2.length cb2)) (by kernel_rfl) (mkS _ ((Below.refl y7.heap.size y7).drew)) (fun hHeld => ?_)
          refine todo [0, 2] ?_
          iterate 2
           refine todoH (v := ?_) rfl (by kernel_rfl) (fun _ _ _ h => h) (by assumption) (Or.inl ⟨by rfl, ?_⟩) ?_
           rotate_left
           · intro w hSw; (try dsimp only at hSw); go_simp; (try with_reducible rfl)
           try simp only [Act.put, List.getElem_toArray, List.getElem_cons_succ, List.getElem_cons_zero, List.setIfInBounds_toArray, List.set_cons_zero, List.set_cons_succ]
          refine todone ?_
          obtain ⟨X1_0, hV0⟩ : ∃ Y, y7.drew = Y := ⟨_, rfl⟩
          rw [hV0] at hHeld
          rw [hV0]
          have hb0 : Below y7.heap.size y7 X1_0 := by rw [← hV0]; exact (Below.refl _ _).drew
          have hs0 : y7.heap.size ≤ X1_0.heap.size := hb0.size
          clear hV0
          refine wpAnyH_ready (rs := [1, 8]) (by kernel_rfl) (by simp) ?_
          refine AllReadyH.cons rfl (fun K hK => ?o1003_1) (AllReadyH.cons rfl (fun K hK => ?o1003_8) AllReadyH.nil)
          case o1003_1 =>
            go_simp
            refine (OF1.out _ hb0).mono ?_
            rintro e X1_1004 ⟨pa1004, pb1004, pca1004, pcb1004, rfl, S1004, E1004, hc1004⟩
            have U1004 := ofT_tens (m := qs.length) (by simp) S1004 E1004
            clear S1004 E1004
            go_simp
            have hbX1_1004 : Below y7.heap.size y7 X1_1004 := hb0.trans (hc1004.mono hs0)
            have hsX1_1004 : y7.heap.size ≤ X1_1004.heap.size := hbX1_1004.size
            refine hK.out _ _ (mkS _ hbX1_1004) (fun hHeld2 => ?_)
            clear hK K hHeld
            have hHeld := hHeld2
            clear hHeld2
            try simp only [Act.put, List.setIfInBounds_toArray, List.set_cons_zero, List.set_cons_succ]
            refine wpAnyH_ready (rs := [3, 8]) (by kernel_rfl) (by simp) ?_
            refine AllReadyH.cons rfl (fun K hK => ?o1005_3) (AllReadyH.cons rfl (fun K hK => ?o1005_8) AllReadyH.nil)
            case o1005_3 =>
              go_simp
              refine (OF2.out _ hbX1_1004).mono ?_
              rintro e X1_1006 ⟨pa1006, pb1006, pca1006, pcb1006, rfl, S1006, E1006, hc1006⟩
              have U1006 := ofT_tens (m := qs2.length) (by simp) S1006 E1006
              clear S1006 E1006
              go_simp
              have hbX1_1006 : Below y7.heap.size y7 X1_1006 := hbX1_1004.trans (hc1006.mono hsX1_1004)
              have hsX1_1006 : y7.heap.size ≤ X1_1006.heap.size := hbX1_1006.size
              have u1X1_1006 := U1004.later hc1006
              refine hK.out _ _ (mkS _ hbX1_1006) (fun hHeld2 => ?_)
              clear hK K hHeld
              have hHeld := hHeld2
              clear hHeld2
              try simp only [Act.put, List.setIfInBounds_toArray, List.set_cons_zero, List.set_cons_succ]
              refine wpAnyH_ready (rs := [4, 8]) (by kernel_rfl) (by simp) ?_
              refine AllReadyH.cons rfl (fun K hK => ?o1007_4) (AllReadyH.cons rfl (fun K hK => ?o1007_8) AllReadyH.nil)
              case o1007_4 =>
                go_simp
                refine ((mulT2_any u1X1_1006 U1006 ls (by simp; omega) (by omega) HLEN.out)).mono ?_
                rintro e X1_1008 ⟨h1008, hc1008⟩
                rw [HC1.out, ← zipQ_eq (f := fun x y => x * y) (q1 := qs) (q2 := qs2) rfl rfl] at h1008
                obtain ⟨f1008, g1008, l1008, n1008, j1008, i1008, rfl, tr1008⟩ := h1008
                have tv1008 : TwoV X1_1008 (.agg #[.slice f1008 l1008 j1008, .slice g1008 n1008 i1008]) e1 s (zipQ (fun x y => x * y) qs qs2) 98 := tr1008
                go_simp
                have hbX1_1008 : Below y7.heap.size y7 X1_1008 := hbX1_1006.trans (hc1008.mono hsX1_1006)
                have hsX1_1008 : y7.heap.size ≤ X1_1008.heap.size := hbX1_1008.size
                have u1X1_1008 := u1X1_1006.later hc1008
                have u2X1_1008 := U1006.later hc1008
                refine hK.out _ _ (mkS _ hbX1_1008) (fun hHeld2 => ?_)
                clear hK K hHeld
                have hHeld := hHeld2
                clear hHeld2
                try simp only [Act.put, List.setIfInBounds_toArray, List.set_cons_zero, List.set_cons_succ]
                refine todo [5, 6, 7] ?_
                iterate 3
                 refine todoH (v := ?_) rfl (by kernel_rfl) (fun _ _ _ h => h) (by assumption) (Or.inl ⟨by rfl, ?_⟩) ?_
                 rotate_left
                 · intro w hSw; (try dsimp only at hSw); go_simp; (try with_reducible rfl)
                 try simp only [Act.put, List.getElem_toArray, List.getElem_cons_succ, List.getElem_cons_zero, List.setIfInBounds_toArray, List.set_cons_zero, List.set_cons_succ]
                refine todone ?_
                refine wpAnyH_ready (rs := [8]) (by kernel_rfl) (by simp) ?_
                refine AllReadyH.cons rfl (fun K hK => ?o1012_8) AllReadyH.nil
                go_simp
                refine afterAlloc (fun X1_1013 hc1013 hl1013 zn1013 => ?_)
                have hbX1_1013 : Below y7.heap.size y7 X1_1013 := hbX1_1008.trans (hc1013.mono hsX1_1008)
                have hsX1_1013 : y7.heap.size ≤ X1_1013.heap.size := hbX1_1013.size
                have u1X1_1013 := u1X1_1008.later hc1013
                have u2X1_1013 := u2X1_1008.later hc1013
                have tvX1_1013 := tv1008.later hc1013
                refine hK.out _ _ (mkS _ hbX1_1013) (fun hHeld2 => ?_)
                clear hK K hHeld
                have hHeld := hHeld2
                clear hHeld2
                try simp only [Act.put, List.setIfInBounds_toArray, List.set_cons_zero, List.set_cons_succ]
                obtain ⟨d1014_0, d1014_1, d1014_2, d1014_3⟩ := zn1013.two
                refine wpAnyH_ready (rs := [9]) (by kernel_rfl) (by simp) ?_
                refine AllReadyH.cons rfl (fun K hK => ?s1014) AllReadyH.nil
                go_simp
                refine afterSet2 zn1013 (fun X1_1014 o1014 zs1014 => ?_)
                clear d1014_0 d1014_1 d1014_2 d1014_3
                have hbX1_1014 : Below y7.heap.size y7 X1_1014 := hbX1_1013.trans (o1014.below hsX1_1008)
                have hsX1_1014 : y7.heap.size ≤ X1_1014.heap.size := hbX1_1014.size
                have tvX1_1014 := tvX1_1013.only zn1013 o1014
                refine hK.out _ _ (mkS _ hbX1_1014) (fun hHeld2 => ?_)
                clear hK K hHeld
                have hHeld := hHeld2
                clear hHeld2
                try simp only [Act.put, List.setIfInBounds_toArray, List.set_cons_zero, List.set_cons_succ]
                refine wpAnyH_ready (rs := [10]) (by kernel_rfl) (by simp) ?_
                refine AllReadyH.cons rfl (fun K hK => ?sD1015_10) AllReadyH.nil
                go_simp
                refine hK.out _ _ ?kD1015_10 (fun hHeld => ?mD1015_10)
                case kD1015_10 =>
                  try dsimp only
                  exact mkS _ hbX1_1014
                clear hK K
                try simp only [Act.put, List.setIfInBounds_toArray, List.set_cons_zero, List.set_cons_succ]
                refine wpAnyH_done (by kernel_rfl) ?_ _
                (try dsimp only [Straight])
                go_wp2_with fail
                go_meet
                exact ⟨_, f1008, g1008, l1008, j1008, n1008, i1008, rfl, rfl, zs1014, tvX1_1014, hbX1_1014⟩
              case o1007_8 =>
                go_simp
                refine afterAlloc (fun X1_1016 hc1016 hl1016 zn1016 => ?_)
                have hbX1_1016 : Below y7.heap.size y7 X1_1016 := hbX1_1006.trans (hc1016.mono hsX1_1006)
                have hsX1_1016 : y7.heap.size ≤ X1_1016.heap.size := hbX1_1016.size
                have u1X1_1016 := u1X1_1006.later hc1016
                have u2X1_1016 := U1006.later hc1016
                refine hK.out _ _ (mkS _ hbX1_1016) (fun hHeld2 => ?_)
                clear hK K hHeld
                have hHeld := hHeld2
                clear hHeld2
                try simp only [Act.put, List.setIfInBounds_toArray, List.set_cons_zero, List.set_cons_succ]
                refine wpAnyH_ready (rs := [4]) (by kernel_rfl) (by simp) ?_
                refine AllReadyH.cons rfl (fun K hK => ?o1017_4) AllReadyH.nil
                go_simp
                refine ((mulT2_any u1X1_1016 u2X1_1016 ls (by simp; omega) (by omega) HLEN.out)).mono ?_
                rintro e X1_1018 ⟨h1018, hc1018⟩
                rw [HC1.out, ← zipQ_eq (f := fun x y => x * y) (q1 := qs) (q2 := qs2) rfl rfl] at h1018
                obtain ⟨f1018, g1018, l1018, n1018, j1018, i1018, rfl, tr1018⟩ := h1018
                have tv1018 : TwoV X1_1018 (.agg #[.slice f1018 l1018 j1018, .slice g1018 n1018 i1018]) e1 s (zipQ (fun x y => x * y) qs qs2) 98 := tr1018
                go_simp
                have hbX1_1018 : Below y7.heap.size y7 X1_1018 := hbX1_1016.trans (hc1018.mono hsX1_1016)
                have hsX1_1018 : y7.heap.size ≤ X1_1018.heap.size := hbX1_1018.size
                have u1X1_1018 := u1X1_1016.later hc1018
                have u2X1_1018 := u2X1_1016.later hc1018
                have zAX1_1018 := zn1016.later hc1018
                have ltAX1_1018 := zAX1_1018.lt
                refine hK.out _ _ (mkS _ hbX1_1018) (fun hHeld2 => ?_)
                clear hK K hHeld
                have hHeld := hHeld2
                clear hHeld2
                try simp only [Act.put, List.setIfInBounds_toArray, List.set_cons_zero, List.set_cons_succ]
                refine todo [5, 6, 7] ?_
                iterate 3
                 refine todoH (v := ?_) rfl (by kernel_rfl) (fun _ _ _ h => h) (by assumption) (Or.inl ⟨by rfl, ?_⟩) ?_
                 rotate_left
                 · intro w hSw; (try dsimp only at hSw); go_simp; (try with_reducible rfl)
                 try simp only [Act.put, List.getElem_toArray, List.getElem_cons_succ, List.getElem_cons_zero, List.setIfInBounds_toArray, List.set_cons_zero, List.set_cons_succ]
                refine todone ?_
                obtain ⟨d1022_0, d1022_1, d1022_2, d1022_3⟩ := zAX1_1018.two
                refine wpAnyH_ready (rs := [9]) (by kernel_rfl) (by simp) ?_
                refine AllReadyH.cons rfl (fun K hK => ?s1022) AllReadyH.nil
                go_simp
                refine afterSet2 zAX1_1018 (fun X1_1022 o1022 zs1022 => ?_)
                clear d1022_0 d1022_1 d1022_2 d1022_3
                have hbX1_1022 : Below y7.heap.size y7 X1_1022 := hbX1_1018.trans (o1022.below hsX1_1006)
                have hsX1_1022 : y7.heap.size ≤ X1_1022.heap.size := hbX1_1022.size
                have tvX1_1022 := tv1018.only zAX1_1018 o1022
                refine hK.out _ _ (mkS _ hbX1_1022) (fun hHeld2 => ?_)
                clear hK K hHeld
                have hHeld := hHeld2
                clear hHeld2
                try simp only [Act.put, List.setIfInBounds_toArray, List.set_cons_zero, List.set_cons_succ]
                refine wpAnyH_ready (rs := [10]) (by kernel_rfl) (by simp) ?_
                refine AllReadyH.cons rfl (fun K hK => ?sD1023_10) AllReadyH.nil
                go_simp
                refine hK.out _ _ ?kD1023_10 (fun hHeld => ?mD1023_10)
                case kD1023_10 =>
                  try dsimp only
                  exact mkS _ hbX1_1022
                clear hK K
                try simp only [Act.put, List.setIfInBounds_toArray, List.set_cons_zero, List.set_cons_succ]
                refine wpAnyH_done (by kernel_rfl) ?_ _
                (try dsimp only [Straight])
                go_wp2_with fail
                go_meet
                exact ⟨_, f1018, g1018, l1018, j1018, n1018, i1018, rfl, rfl, zs1022, tvX1_1022, hbX1_1022⟩
            case o1005_8 =>
              go_simp
              refine afterAlloc (fun X1_1024 hc1024 hl1024 zn1024 => ?_)
              have hbX1_1024 : Below y7.heap.size y7 X1_1024 := hbX1_1004.trans (hc1024.mono hsX1_1004)
              have hsX1_1024 : y7.heap.size ≤ X1_1024.heap.size := hbX1_1024.size
              have u1X1_1024 := U1004.later hc1024
              refine hK.out _ _ (mkS _ hbX1_1024) (fun hHeld2 => ?_)
              clear hK K hHeld
              have hHeld := hHeld2
              clear hHeld2
              try simp only [Act.put, List.setIfInBounds_toArray, List.set_cons_zero, List.set_cons_succ]
              refine wpAnyH_ready (rs := [3]) (by kernel_rfl) (by simp) ?_
              refine AllReadyH.cons rfl (fun K hK => ?o1025_3) AllReadyH.nil
              go_simp
              refine (OF2.out _ hbX1_1024).mono ?_
              rintro e X1_1026 ⟨pa1026, pb1026, pca1026, pcb1026, rfl, S1026, E1026, hc1026⟩
              have U1026 := ofT_tens (m := qs2.length) (by simp) S1026 E1026
              clear S1026 E1026
              go_simp
              have hbX1_1026 : Below y7.heap.size y7 X1_1026 := hbX1_1024.trans (hc1026.mono hsX1_1024)
              have hsX1_1026 : y7.heap.size ≤ X1_1026.heap.size := hbX1_1026.size
              have u1X1_1026 := u1X1_1024.later hc1026
              have zAX1_1026 := zn1024.later hc1026
              have ltAX1_1026 := zAX1_1026.lt
              refine hK.out _ _ (mkS _ hbX1_1026) (fun hHeld2 => ?_)
              clear hK K hHeld
              have hHeld := hHeld2
              clear hHeld2
              try simp only [Act.put, List.setIfInBounds_toArray, List.set_cons_zero, List.set_cons_succ]
              refine wpAnyH_ready (rs := [4]) (by kernel_rfl) (by simp) ?_
              refine AllReadyH.cons rfl (fun K hK => ?o1027_4) AllReadyH.nil
              go_simp
              refine ((mulT2_any u1X1_1026 U1026 ls (by simp; omega) (by omega) HLEN.out)).mono ?_
              rintro e X1_1028 ⟨h1028, hc1028⟩
              rw [HC1.out, ← zipQ_eq (f := fun x y => x * y) (q1 := qs) (q2 := qs2) rfl rfl] at h1028
              obtain ⟨f1028, g1028, l1028, n1028, j1028, i1028, rfl, tr1028⟩ := h1028
              have tv1028 : TwoV X1_1028 (.agg #[.slice f1028 l1028 j1028, .slice g1028 n1028 i1028]) e1 s (zipQ (fun x y => x * y) qs qs2) 98 := tr1028
              go_simp
              have hbX1_1028 : Below y7.heap.size y7 X1_1028 := hbX1_1026.trans (hc1028.mono hsX1_1026)
              have hsX1_1028 : y7.heap.size ≤ X1_1028.heap.size := hbX1_1028.size
              have u1X1_1028 := u1X1_1026.later hc1028
              have u2X1_1028 := U1026.later hc1028
              have zAX1_1028 := zAX1_1026.later hc1028
              have ltAX1_1028 := zAX1_1028.lt
              refine hK.out _ _ (mkS _ hbX1_1028) (fun hHeld2 => ?_)
              clear hK K hHeld
              have hHeld := hHeld2
              clear hHeld2
              try simp only [Act.put, List.setIfInBounds_toArray, List.set_cons_zero, List.set_cons_succ]
              refine todo [5, 6, 7] ?_
              iterate 3
               refine todoH (v := ?_) rfl (by kernel_rfl) (fun _ _ _ h => h) (by assumption) (Or.inl ⟨by rfl, ?_⟩) ?_
               rotate_left
               · intro w hSw; (try dsimp only at hSw); go_simp; (try with_reducible rfl)
               try simp only [Act.put, List.getElem_toArray, List.getElem_cons_succ, List.getElem_cons_zero, List.setIfInBounds_toArray, List.set_cons_zero, List.set_cons_succ]
              refine todone ?_
              obtain ⟨d1032_0, d1032_1, d1032_2, d1032_3⟩ := zAX1_1028.two
              refine wpAnyH_ready (rs := [9]) (by kernel_rfl) (by simp) ?_
              refine AllReadyH.cons rfl (fun K hK => ?s1032) AllReadyH.nil
              go_simp
              refine afterSet2 zAX1_1028 (fun X1_1032 o1032 zs1032 => ?_)
              clear d1032_0 d1032_1 d1032_2 d1032_3
              have hbX1_1032 : Below y7.heap.size y7 X1_1032 := hbX1_1028.trans (o1032.below hsX1_1004)
              have hsX1_1032 : y7.heap.size ≤ X1_1032.heap.size := hbX1_1032.size
              have tvX1_1032 := tv1028.only zAX1_1028 o1032
              refine hK.out _ _ (mkS _ hbX1_1032) (fun hHeld2 => ?_)
              clear hK K hHeld
              have hHeld := hHeld2
              clear hHeld2
              try simp only [Act.put, List.setIfInBounds_toArray, List.set_cons_zero, List.set_cons_succ]
              refine wpAnyH_ready (rs := [10]) (by kernel_rfl) (by simp) ?_
              refine AllReadyH.cons rfl (fun K hK => ?sD1033_10) AllReadyH.nil
              go_simp
              refine hK.out _ _ ?kD1033_10 (fun hHeld => ?mD1033_10)
              case kD1033_10 =>
                try dsimp only
                exact mkS _ hbX1_1032
              clear hK K
              try simp only [Act.put, List.setIfInBounds_toArray, List.set_cons_zero, List.set_cons_succ]
              refine wpAnyH_done (by kernel_rfl) ?_ _
              (try dsimp only [Straight])
              go_wp2_with fail
              go_meet
              exact ⟨_, f1028, g1028, l1028, j1028, n1028, i1028, rfl, rfl, zs1032, tvX1_1032, hbX1_1032⟩
          case o1003_8 =>
            go_simp
            refine afterAlloc (fun X1_1034 hc1034 hl1034 zn1034 => ?_)
            have hbX1_1034 : Below y7.heap.size y7 X1_1034 := hb0.trans (hc1034.mono hs0)
            have hsX1_1034 : y7.heap.size ≤ X1_1034.heap.size := hbX1_1034.size
            refine hK.out _ _ (mkS _ hbX1_1034) (fun hHeld2 => ?_)
            clear hK K hHeld
            have hHeld := hHeld2
            clear hHeld2
            try simp only [Act.put, List.setIfInBounds_toArray, List.set_cons_zero, List.set_cons_succ]
            refine wpAnyH_ready (rs := [1]) (by kernel_rfl) (by simp) ?_
            refine AllReadyH.cons rfl (fun K hK => ?o1035_1) AllReadyH.nil
            go_simp
            refine (OF1.out _ hbX1_1034).mono ?_
            rintro e X1_1036 ⟨pa1036, pb1036, pca1036, pcb1036, rfl, S1036, E1036, hc1036⟩
            have U1036 := ofT_tens (m := qs.length) (by simp) S1036 E1036
            clear S1036 E1036
            go_simp
            have hbX1_1036 : Below y7.heap.size y7 X1_1036 := hbX1_1034.trans (hc1036.mono hsX1_1034)
            have hsX1_1036 : y7.heap.size ≤ X1_1036.heap.size := hbX1_1036.size
            have zAX1_1036 := zn1034.later hc1036
            have ltAX1_1036 := zAX1_1036.lt
            refine hK.out _ _ (mkS _ hbX1_1036) (fun hHeld2 => ?_)
            clear hK K hHeld
            have hHeld := hHeld2
            clear hHeld2
            try simp only [Act.put, List.setIfInBounds_toArray, List.set_cons_zero, List.set_cons_succ]
            refine wpAnyH_ready (rs := [3]) (by kernel_rfl) (by simp) ?_
            refine AllReadyH.cons rfl (fun K hK => ?o1037_3) AllReadyH.nil
            go_simp
            refine (OF2.out _ hbX1_1036).mono ?_
            rintro e X1_1038 ⟨pa1038, pb1038, pca1038, pcb1038, rfl, S1038, E1038, hc1038⟩
            have U1038 := ofT_tens (m := qs2.length) (by simp) S1038 E1038
            clear S1038 E1038
            go_simp
            have hbX1_1038 : Below y7.heap.size y7 X1_1038 := hbX1_1036.trans (hc1038.mono hsX1_1036)
            have hsX1_1038 : y7.heap.size ≤ X1_1038.heap.size := hbX1_1038.size
            have u1X1_1038 := U1036.later hc1038
            have zAX1_1038 := zAX1_1036.later hc1038
            have ltAX1_1038 := zAX1_1038.lt
            refine hK.out _ _ (mkS _ hbX1_1038) (fun hHeld2 => ?_)
            clear hK K hHeld
            have hHeld := hHeld2
            clear hHeld2
            try simp only [Act.put, List.setIfInBounds_toArray, List.set_cons_zero, List.set_cons_succ]
            refine wpAnyH_ready (rs := [4]) (by kernel_rfl) (by simp) ?_
            refine AllReadyH.cons rfl (fun K hK => ?o1039_4) AllReadyH.nil
            go_simp
            refine ((mulT2_any u1X1_1038 U1038 ls (by simp; omega) (by omega) HLEN.out)).mono ?_
            rintro e X1_1040 ⟨h1040, hc1040⟩
            rw [HC1.out, ← zipQ_eq (f := fun x y => x * y) (q1 := qs) (q2 := qs2) rfl rfl] at h1040
            obtain ⟨f1040, g1040, l1040, n1040, j1040, i1040, rfl, tr1040⟩ := h1040
            have tv1040 : TwoV X1_1040 (.agg #[.slice f1040 l1040 j1040, .slice g1040 n1040 i1040]) e1 s (zipQ (fun x y => x * y) qs qs2) 98 := tr1040
            go_simp
            have hbX1_1040 : Below y7.heap.size y7 X1_1040 := hbX1_1038.trans (hc1040.mono hsX1_1038)
            have hsX1_1040 : y7.heap.size ≤ X1_1040.heap.size := hbX1_1040.size
            have u1X1_1040 := u1X1_1038.later hc1040
            have u2X1_1040 := U1038.later hc1040
            have zAX1_1040 := zAX1_1038.later hc1040
            have ltAX1_1040 := zAX1_1040.lt
            refine hK.out _ _ (mkS _ hbX1_1040) (fun hHeld2 => ?_)
            clear hK K hHeld
            have hHeld := hHeld2
            clear hHeld2
            try simp only [Act.put, List.setIfInBounds_toArray, List.set_cons_zero, List.set_cons_succ]
            refine todo [5, 6, 7] ?_
            iterate 3
             refine todoH (v := ?_) rfl (by kernel_rfl) (fun _ _ _ h => h) (by assumption) (Or.inl ⟨by rfl, ?_⟩) ?_
             rotate_left
             · intro w hSw; (try dsimp only at hSw); go_simp; (try with_reducible rfl)
             try simp only [Act.put, List.getElem_toArray, List.getElem_cons_succ, List.getElem_cons_zero, List.setIfInBounds_toArray, List.set_cons_zero, List.set_cons_succ]
            refine todone ?_
            obtain ⟨d1044_0, d1044_1, d1044_2, d1044_3⟩ := zAX1_1040.two
            refine wpAnyH_ready (rs := [9]) (by kernel_rfl) (by simp) ?_
            refine AllReadyH.cons rfl (fun K hK => ?s1044) AllReadyH.nil
            go_simp
            refine afterSet2 zAX1_1040 (fun X1_1044 o1044 zs1044 => ?_)
            clear d1044_0 d1044_1 d1044_2 d1044_3
            have hbX1_1044 : Below y7.heap.size y7 X1_1044 := hbX1_1040.trans (o1044.below hs0)
            have hsX1_1044 : y7.heap.size ≤ X1_1044.heap.size := hbX1_1044.size
            have tvX1_1044 := tv1040.only zAX1_1040 o1044
            refine hK.out _ _ (mkS _ hbX1_1044) (fun hHeld2 => ?_)
            clear hK K hHeld
            have hHeld := hHeld2
            clear hHeld2
            try simp only [Act.put, List.setIfInBounds_toArray, List.set_cons_zero, List.set_cons_succ]
            refine wpAnyH_ready (rs := [10]) (by kernel_rfl) (by simp) ?_
            refine AllReadyH.cons rfl (fun K hK => ?sD1045_10) AllReadyH.nil
            go_simp
            refine hK.out _ _ ?kD1045_10 (fun hHeld => ?mD1045_10)
            case kD1045_10 =>
              try dsimp only
              exact mkS _ hbX1_1044
            clear hK K
            try simp only [Act.put, List.setIfInBounds_toArray, List.set_cons_zero, List.set_cons_succ]
            refine wpAnyH_done (by kernel_rfl) ?_ _
            (try dsimp only [Straight])
            go_wp2_with fail
            go_meet
            exact ⟨_, f1040, g1040, l1040, j1040, n1040, i1040, rfl, rfl, zs1044, tvX1_1044, hbX1_1044⟩
        case rest =>
          obtain ⟨ua, va1, va2, vl1, vj1, vl2, vj2, rfl, rfl, RA, TA, B8⟩ := hcut
          obtain ⟨y8, hy8⟩ : ∃ y, wc = y := ⟨_, rfl⟩
          rw [hy8] at RA TA B8 ⊢
          clear hy8
          have HTA := Lib.hid TA
          clear TA
          go_upto_region 9 with fail
          go_cut [12, 13] (fun sa sb wx => ∃ (g : Nat) (f1 f2 : Option Addr) (l1 j1 l2 j2 : Nat), sa = .pointer (some ⟨g, 0, none⟩) ∧ sb = .int .i64 e2 ∧ Row wx g 36 #[.slice f1 l1 j1, .slice f2 l2 j2] ∧ TwoV wx (.agg #[.slice f1 l1 j1, .slice f2 l2 j2]) e2 s (zipQ (fun x y => x / y) qs qs2) 98 ∧ Below y8.heap.size y8 wx)
          case first =>
            refine wp_region_held_drew (S := fun X => X.cell? ⟨w.heap.size, 0, none⟩ = some (.slice a s.length ca) ∧ X.cell? ⟨w.heap.size, 1, none⟩ = some (.slice b qs.length cb) ∧ X.cell? ⟨w.heap.size + 1, 0, none⟩ = some (.slice a2 s2.length ca2) ∧ X.cell? ⟨w.heap.size + 1, 1, none⟩ = some (.slice b2 qs2.length cb2)) (by kernel_rfl) (mkS _ (B8.trans (((Below.refl y8.heap.size y8).drew).mono B8.size))) (fun hHeld => ?_)
            refine todo [0, 2] ?_
            iterate 2
             refine todoH (v := ?_) rfl (by kernel_rfl) (fun _ _ _ h => h) (by assumption) (Or.inl ⟨by rfl, ?_⟩) ?_
             rotate_left
             · intro w hSw; (try dsimp only at hSw); go_simp; (try with_reducible rfl)
             try simp only [Act.put, List.getElem_toArray, List.getElem_cons_succ, List.getElem_cons_zero, List.setIfInBounds_toArray, List.set_cons_zero, List.set_cons_succ]
            refine todone ?_
            obtain ⟨X2_0, hV0⟩ : ∃ Y, y8.drew = Y := ⟨_, rfl⟩
            rw [hV0] at hHeld
            rw [hV0]
            have hb0 : Below y8.heap.size y8 X2_0 := by rw [← hV0]; exact (Below.refl _ _).drew
            have hs0 : y8.heap.size ≤ X2_0.heap.size := hb0.size
            clear hV0
            refine wpAnyH_ready (rs := [1, 8]) (by kernel_rfl) (by simp) ?_
            refine AllReadyH.cons rfl (fun K hK => ?o2003_1) (AllReadyH.cons rfl (fun K hK => ?o2003_8) AllReadyH.nil)
            case o2003_1 =>
              go_simp
              refine (OF1.out _ (B8.trans (hb0.mono B8.size))).mono ?_
              rintro e X2_2004 ⟨pa2004, pb2004, pca2004, pcb2004, rfl, S2004, E2004, hc2004⟩
              have U2004 := ofT_tens (m := qs.length) (by simp) S2004 E2004
              clear S2004 E2004
              go_simp
              have hbX2_2004 : Below y8.heap.size y8 X2_2004 := hb0.trans (hc2004.mono hs0)
              have hsX2_2004 : y8.heap.size ≤ X2_2004.heap.size := hbX2_2004.size
              refine hK.out _ _ (mkS _ (B8.trans (hbX2_2004.mono B8.size))) (fun hHeld2 => ?_)
              clear hK K hHeld
              have hHeld := hHeld2
              clear hHeld2
              try simp only [Act.put, List.setIfInBounds_toArray, List.set_cons_zero, List.set_cons_succ]
              refine wpAnyH_ready (rs := [3, 8]) (by kernel_rfl) (by simp) ?_
              refine AllReadyH.cons rfl (fun K hK => ?o2005_3) (AllReadyH.cons rfl (fun K hK => ?o2005_8) AllReadyH.nil)
              case o2005_3 =>
                go_simp
                refine (OF2.out _ (B8.trans (hbX2_2004.mono B8.size))).mono ?_
                rintro e X2_2006 ⟨pa2006, pb2006, pca2006, pcb2006, rfl, S2006, E2006, hc2006⟩
                have U2006 := ofT_tens (m := qs2.length) (by simp) S2006 E2006
                clear S2006 E2006
                go_simp
                have hbX2_2006 : Below y8.heap.size y8 X2_2006 := hbX2_2004.trans (hc2006.mono hsX2_2004)
                have hsX2_2006 : y8.heap.size ≤ X2_2006.heap.size := hbX2_2006.size
                have u1X2_2006 := U2004.later hc2006
                refine hK.out _ _ (mkS _ (B8.trans (hbX2_2006.mono B8.size))) (fun hHeld2 => ?_)
                clear hK K hHeld
                have hHeld := hHeld2
                clear hHeld2
                try simp only [Act.put, List.setIfInBounds_toArray, List.set_cons_zero, List.set_cons_succ]
                refine wpAnyH_ready (rs := [4, 8]) (by kernel_rfl) (by simp) ?_
                refine AllReadyH.cons rfl (fun K hK => ?o2007_4) (AllReadyH.cons rfl (fun K hK => ?o2007_8) AllReadyH.nil)
                case o2007_4 =>
                  go_simp
                  refine ((divT2_any u1X2_2006 U2006 ls (by simp; omega) (by omega) HLEN.out)).mono ?_
                  rintro e X2_2008 ⟨h2008, hc2008⟩
                  rw [HC2.out, ← zipQ_eq (f := fun x y => x / y) (q1 := qs) (q2 := qs2) rfl rfl] at h2008
                  obtain ⟨f2008, g2008, l2008, n2008, j2008, i2008, rfl, tr2008⟩ := h2008
                  have tv2008 : TwoV X2_2008 (.agg #[.slice f2008 l2008 j2008, .slice g2008 n2008 i2008]) e2 s (zipQ (fun x y => x / y) qs qs2) 98 := tr2008
                  go_simp
                  have hbX2_2008 : Below y8.heap.size y8 X2_2008 := hbX2_2006.trans (hc2008.mono hsX2_2006)
                  have hsX2_2008 : y8.heap.size ≤ X2_2008.heap.size := hbX2_2008.size
                  have u1X2_2008 := u1X2_2006.later hc2008
                  have u2X2_2008 := U2006.later hc2008
                  refine hK.out _ _ (mkS _ (B8.trans (hbX2_2008.mono B8.size))) (fun hHeld2 => ?_)
                  clear hK K hHeld
                  have hHeld := hHeld2
                  clear hHeld2
                  try simp only [Act.put, List.setIfInBounds_toArray, List.set_cons_zero, List.set_cons_succ]
                  refine todo [5, 6, 7] ?_
                  iterate 3
                   refine todoH (v := ?_) rfl (by kernel_rfl) (fun _ _ _ h => h) (by assumption) (Or.inl ⟨by rfl, ?_⟩) ?_
                   rotate_left
                   · intro w hSw; (try dsimp only at hSw); go_simp; (try with_reducible rfl)
                   try simp only [Act.put, List.getElem_toArray, List.getElem_cons_succ, List.getElem_cons_zero, List.setIfInBounds_toArray, List.set_cons_zero, List.set_cons_succ]
                  refine todone ?_
                  refine wpAnyH_ready (rs := [8]) (by kernel_rfl) (by simp) ?_
                  refine AllReadyH.cons rfl (fun K hK => ?o2012_8) AllReadyH.nil
                  go_simp
                  refine afterAlloc (fun X2_2013 hc2013 hl2013 zn2013 => ?_)
                  have hbX2_2013 : Below y8.heap.size y8 X2_2013 := hbX2_2008.trans (hc2013.mono hsX2_2008)
                  have hsX2_2013 : y8.heap.size ≤ X2_2013.heap.size := hbX2_2013.size
                  have u1X2_2013 := u1X2_2008.later hc2013
                  have u2X2_2013 := u2X2_2008.later hc2013
                  have tvX2_2013 := tv2008.later hc2013
                  refine hK.out _ _ (mkS _ (B8.trans (hbX2_2013.mono B8.size))) (fun hHeld2 => ?_)
                  clear hK K hHeld
                  have hHeld := hHeld2
                  clear hHeld2
                  try simp only [Act.put, List.setIfInBounds_toArray, List.set_cons_zero, List.set_cons_succ]
                  obtain ⟨d2014_0, d2014_1, d2014_2, d2014_3⟩ := zn2013.two
                  refine wpAnyH_ready (rs := [9]) (by kernel_rfl) (by simp) ?_
                  refine AllReadyH.cons rfl (fun K hK => ?s2014) AllReadyH.nil
                  go_simp
                  refine afterSet2 zn2013 (fun X2_2014 o2014 zs2014 => ?_)
                  clear d2014_0 d2014_1 d2014_2 d2014_3
                  have hbX2_2014 : Below y8.heap.size y8 X2_2014 := hbX2_2013.trans (o2014.below hsX2_2008)
                  have hsX2_2014 : y8.heap.size ≤ X2_2014.heap.size := hbX2_2014.size
                  have tvX2_2014 := tvX2_2013.only zn2013 o2014
                  refine hK.out _ _ (mkS _ (B8.trans (hbX2_2014.mono B8.size))) (fun hHeld2 => ?_)
                  clear hK K hHeld
                  have hHeld := hHeld2
                  clear hHeld2
                  try simp only [Act.put, List.setIfInBounds_toArray, List.set_cons_zero, List.set_cons_succ]
                  refine wpAnyH_ready (rs := [10]) (by kernel_rfl) (by simp) ?_
                  refine AllReadyH.cons rfl (fun K hK => ?sD2015_10) AllReadyH.nil
                  go_simp
                  refine hK.out _ _ ?kD2015_10 (fun hHeld => ?mD2015_10)
                  case kD2015_10 =>
                    try dsimp only
                    exact mkS _ (B8.trans (hbX2_2014.mono B8.size))
                  clear hK K
                  try simp only [Act.put, List.setIfInBounds_toArray, List.set_cons_zero, List.set_cons_succ]
                  refine wpAnyH_done (by kernel_rfl) ?_ _
                  (try dsimp only [Straight])
                  go_wp2_with fail
                  go_meet
                  exact ⟨_, f2008, g2008, l2008, j2008, n2008, i2008, rfl, rfl, zs2014, tvX2_2014, hbX2_2014⟩
                case o2007_8 =>
                  go_simp
                  refine afterAlloc (fun X2_2016 hc2016 hl2016 zn2016 => ?_)
                  have hbX2_2016 : Below y8.heap.size y8 X2_2016 := hbX2_2006.trans (hc2016.mono hsX2_2006)
                  have hsX2_2016 : y8.heap.size ≤ X2_2016.heap.size := hbX2_2016.size
                  have u1X2_2016 := u1X2_2006.later hc2016
                  have u2X2_2016 := U2006.later hc2016
                  refine hK.out _ _ (mkS _ (B8.trans (hbX2_2016.mono B8.size))) (fun hHeld2 => ?_)
                  clear hK K hHeld
                  have hHeld := hHeld2
                  clear hHeld2
                  try simp only [Act.put, List.setIfInBounds_toArray, List.set_cons_zero, List.set_cons_succ]
                  refine wpAnyH_ready (rs := [4]) (by kernel_rfl) (by simp) ?_
                  refine AllReadyH.cons rfl (fun K hK => ?o2017_4) AllReadyH.nil
                  go_simp
                  refine ((divT2_any u1X2_2016 u2X2_2016 ls (by simp; omega) (by omega) HLEN.out)).mono ?_
                  rintro e X2_2018 ⟨h2018, hc2018⟩
                  rw [HC2.out, ← zipQ_eq (f := fun x y => x / y) (q1 := qs) (q2 := qs2) rfl rfl] at h2018
                  obtain ⟨f2018, g2018, l2018, n2018, j2018, i2018, rfl, tr2018⟩ := h2018
                  have tv2018 : TwoV X2_2018 (.agg #[.slice f2018 l2018 j2018, .slice g2018 n2018 i2018]) e2 s (zipQ (fun x y => x / y) qs qs2) 98 := tr2018
                  go_simp
                  have hbX2_2018 : Below y8.heap.size y8 X2_2018 := hbX2_2016.trans (hc2018.mono hsX2_2016)
                  have hsX2_2018 : y8.heap.size ≤ X2_2018.heap.size := hbX2_2018.size
                  have u1X2_2018 := u1X2_2016.later hc2018
                  have u2X2_2018 := u2X2_2016.later hc2018
                  have zAX2_2018 := zn2016.later hc2018
                  have ltAX2_2018 := zAX2_2018.lt
                  refine hK.out _ _ (mkS _ (B8.trans (hbX2_2018.mono B8.size))) (fun hHeld2 => ?_)
                  clear hK K hHeld
                  have hHeld := hHeld2
                  clear hHeld2
                  try simp only [Act.put, List.setIfInBounds_toArray, List.set_cons_zero, List.set_cons_succ]
                  refine todo [5, 6, 7] ?_
                  iterate 3
                   refine todoH (v := ?_) rfl (by kernel_rfl) (fun _ _ _ h => h) (by assumption) (Or.inl ⟨by rfl, ?_⟩) ?_
                   rotate_left
                   · intro w hSw; (try dsimp only at hSw); go_simp; (try with_reducible rfl)
                   try simp only [Act.put, List.getElem_toArray, List.getElem_cons_succ, List.getElem_cons_zero, List.setIfInBounds_toArray, List.set_cons_zero, List.set_cons_succ]
                  refine todone ?_
                  obtain ⟨d2022_0, d2022_1, d2022_2, d2022_3⟩ := zAX2_2018.two
                  refine wpAnyH_ready (rs := [9]) (by kernel_rfl) (by simp) ?_
                  refine AllReadyH.cons rfl (fun K hK => ?s2022) AllReadyH.nil
                  go_simp
                  refine afterSet2 zAX2_2018 (fun X2_2022 o2022 zs2022 => ?_)
                  clear d2022_0 d2022_1 d2022_2 d2022_3
                  have hbX2_2022 : Below y8.heap.size y8 X2_2022 := hbX2_2018.trans (o2022.below hsX2_2006)
                  have hsX2_2022 : y8.heap.size ≤ X2_2022.heap.size := hbX2_2022.size
                  have tvX2_2022 := tv2018.only zAX2_2018 o2022
                  refine hK.out _ _ (mkS _ (B8.trans (hbX2_2022.mono B8.size))) (fun hHeld2 => ?_)
                  clear hK K hHeld
                  have hHeld := hHeld2
                  clear hHeld2
                  try simp only [Act.put, List.setIfInBounds_toArray, List.set_cons_zero, List.set_cons_succ]
                  refine wpAnyH_ready (rs := [10]) (by kernel_rfl) (by simp) ?_
                  refine AllReadyH.cons rfl (fun K hK => ?sD2023_10) AllReadyH.nil
                  go_simp
                  refine hK.out _ _ ?kD2023_10 (fun hHeld => ?mD2023_10)
                  case kD2023_10 =>
                    try dsimp only
                    exact mkS _ (B8.trans (hbX2_2022.mono B8.size))
                  clear hK K
                  try simp only [Act.put, List.setIfInBounds_toArray, List.set_cons_zero, List.set_cons_succ]
                  refine wpAnyH_done (by kernel_rfl) ?_ _
                  (try dsimp only [Straight])
                  go_wp2_with fail
                  go_meet
                  exact ⟨_, f2018, g2018, l2018, j2018, n2018, i2018, rfl, rfl, zs2022, tvX2_2022, hbX2_2022⟩
              case o2005_8 =>
                go_simp
                refine afterAlloc (fun X2_2024 hc2024 hl2024 zn2024 => ?_)
                have hbX2_2024 : Below y8.heap.size y8 X2_2024 := hbX2_2004.trans (hc2024.mono hsX2_2004)
                have hsX2_2024 : y8.heap.size ≤ X2_2024.heap.size := hbX2_2024.size
                have u1X2_2024 := U2004.later hc2024
                refine hK.out _ _ (mkS _ (B8.trans (hbX2_2024.mono B8.size))) (fun hHeld2 => ?_)
                clear hK K hHeld
                have hHeld := hHeld2
                clear hHeld2
                try simp only [Act.put, List.setIfInBounds_toArray, List.set_cons_zero, List.set_cons_succ]
                refine wpAnyH_ready (rs := [3]) (by kernel_rfl) (by simp) ?_
                refine AllReadyH.cons rfl (fun K hK => ?o2025_3) AllReadyH.nil
                go_simp
                refine (OF2.out _ (B8.trans (hbX2_2024.mono B8.size))).mono ?_
                rintro e X2_2026 ⟨pa2026, pb2026, pca2026, pcb2026, rfl, S2026, E2026, hc2026⟩
                have U2026 := ofT_tens (m := qs2.length) (by simp) S2026 E2026
                clear S2026 E2026
                go_simp
                have hbX2_2026 : Below y8.heap.size y8 X2_2026 := hbX2_2024.trans (hc2026.mono hsX2_2024)
                have hsX2_2026 : y8.heap.size ≤ X2_2026.heap.size := hbX2_2026.size
                have u1X2_2026 := u1X2_2024.later hc2026
                have zAX2_2026 := zn2024.later hc2026
                have ltAX2_2026 := zAX2_2026.lt
                refine hK.out _ _ (mkS _ (B8.trans (hbX2_2026.mono B8.size))) (fun hHeld2 => ?_)
                clear hK K hHeld
                have hHeld := hHeld2
                clear hHeld2
                try simp only [Act.put, List.setIfInBounds_toArray, List.set_cons_zero, List.set_cons_succ]
                refine wpAnyH_ready (rs := [4]) (by kernel_rfl) (by simp) ?_
                refine AllReadyH.cons rfl (fun K hK => ?o2027_4) AllReadyH.nil
                go_simp
                refine ((divT2_any u1X2_2026 U2026 ls (by simp; omega) (by omega) HLEN.out)).mono ?_
                rintro e X2_2028 ⟨h2028, hc2028⟩
                rw [HC2.out, ← zipQ_eq (f := fun x y => x / y) (q1 := qs) (q2 := qs2) rfl rfl] at h2028
                obtain ⟨f2028, g2028, l2028, n2028, j2028, i2028, rfl, tr2028⟩ := h2028
                have tv2028 : TwoV X2_2028 (.agg #[.slice f2028 l2028 j2028, .slice g2028 n2028 i2028]) e2 s (zipQ (fun x y => x / y) qs qs2) 98 := tr2028
                go_simp
                have hbX2_2028 : Below y8.heap.size y8 X2_2028 := hbX2_2026.trans (hc2028.mono hsX2_2026)
                have hsX2_2028 : y8.heap.size ≤ X2_2028.heap.size := hbX2_2028.size
                have u1X2_2028 := u1X2_2026.later hc2028
                have u2X2_2028 := U2026.later hc2028
                have zAX2_2028 := zAX2_2026.later hc2028
                have ltAX2_2028 := zAX2_2028.lt
                refine hK.out _ _ (mkS _ (B8.trans (hbX2_2028.mono B8.size))) (fun hHeld2 => ?_)
                clear hK K hHeld
                have hHeld := hHeld2
                clear hHeld2
                try simp only [Act.put, List.setIfInBounds_toArray, List.set_cons_zero, List.set_cons_succ]
                refine todo [5, 6, 7] ?_
                iterate 3
                 refine todoH (v := ?_) rfl (by kernel_rfl) (fun _ _ _ h => h) (by assumption) (Or.inl ⟨by rfl, ?_⟩) ?_
                 rotate_left
                 · intro w hSw; (try dsimp only at hSw); go_simp; (try with_reducible rfl)
                 try simp only [Act.put, List.getElem_toArray, List.getElem_cons_succ, List.getElem_cons_zero, List.setIfInBounds_toArray, List.set_cons_zero, List.set_cons_succ]
                refine todone ?_
                obtain ⟨d2032_0, d2032_1, d2032_2, d2032_3⟩ := zAX2_2028.two
                refine wpAnyH_ready (rs := [9]) (by kernel_rfl) (by simp) ?_
                refine AllReadyH.cons rfl (fun K hK => ?s2032) AllReadyH.nil
                go_simp
                refine afterSet2 zAX2_2028 (fun X2_2032 o2032 zs2032 => ?_)
                clear d2032_0 d2032_1 d2032_2 d2032_3
                have hbX2_2032 : Below y8.heap.size y8 X2_2032 := hbX2_2028.trans (o2032.below hsX2_2004)
                have hsX2_2032 : y8.heap.size ≤ X2_2032.heap.size := hbX2_2032.size
                have tvX2_2032 := tv2028.only zAX2_2028 o2032
                refine hK.out _ _ (mkS _ (B8.trans (hbX2_2032.mono B8.size))) (fun hHeld2 => ?_)
                clear hK K hHeld
                have hHeld := hHeld2
                clear hHeld2
                try simp only [Act.put, List.setIfInBounds_toArray, List.set_cons_zero, List.set_cons_succ]
                refine wpAnyH_ready (rs := [10]) (by kernel_rfl) (by simp) ?_
                refine AllReadyH.cons rfl (fun K hK => ?sD2033_10) AllReadyH.nil
                go_simp
                refine hK.out _ _ ?kD2033_10 (fun hHeld => ?mD2033_10)
                case kD2033_10 =>
                  try dsimp only
                  exact mkS _ (B8.trans (hbX2_2032.mono B8.size))
                clear hK K
                try simp only [Act.put, List.setIfInBounds_toArray, List.set_cons_zero, List.set_cons_succ]
                refine wpAnyH_done (by kernel_rfl) ?_ _
                (try dsimp only [Straight])
                go_wp2_with fail
                go_meet
                exact ⟨_, f2028, g2028, l2028, j2028, n2028, i2028, rfl, rfl, zs2032, tvX2_2032, hbX2_2032⟩
            case o2003_8 =>
              go_simp
              refine afterAlloc (fun X2_2034 hc2034 hl2034 zn2034 => ?_)
              have hbX2_2034 : Below y8.heap.size y8 X2_2034 := hb0.trans (hc2034.mono hs0)
              have hsX2_2034 : y8.heap.size ≤ X2_2034.heap.size := hbX2_2034.size
              refine hK.out _ _ (mkS _ (B8.trans (hbX2_2034.mono B8.size))) (fun hHeld2 => ?_)
              clear hK K hHeld
              have hHeld := hHeld2
              clear hHeld2
              try simp only [Act.put, List.setIfInBounds_toArray, List.set_cons_zero, List.set_cons_succ]
              refine wpAnyH_ready (rs := [1]) (by kernel_rfl) (by simp) ?_
              refine AllReadyH.cons rfl (fun K hK => ?o2035_1) AllReadyH.nil
              go_simp
              refine (OF1.out _ (B8.trans (hbX2_2034.mono B8.size))).mono ?_
              rintro e X2_2036 ⟨pa2036, pb2036, pca2036, pcb2036, rfl, S2036, E2036, hc2036⟩
              have U2036 := ofT_tens (m := qs.length) (by simp) S2036 E2036
              clear S2036 E2036
              go_simp
              have hbX2_2036 : Below y8.heap.size y8 X2_2036 := hbX2_2034.trans (hc2036.mono hsX2_2034)
              have hsX2_2036 : y8.heap.size ≤ X2_2036.heap.size := hbX2_2036.size
              have zAX2_2036 := zn2034.later hc2036
              have ltAX2_2036 := zAX2_2036.lt
              refine hK.out _ _ (mkS _ (B8.trans (hbX2_2036.mono B8.size))) (fun hHeld2 => ?_)
              clear hK K hHeld
              have hHeld := hHeld2
              clear hHeld2
              try simp only [Act.put, List.setIfInBounds_toArray, List.set_cons_zero, List.set_cons_succ]
              refine wpAnyH_ready (rs := [3]) (by kernel_rfl) (by simp) ?_
              refine AllReadyH.cons rfl (fun K hK => ?o2037_3) AllReadyH.nil
              go_simp
              refine (OF2.out _ (B8.trans (hbX2_2036.mono B8.size))).mono ?_
              rintro e X2_2038 ⟨pa2038, pb2038, pca2038, pcb2038, rfl, S2038, E2038, hc2038⟩
              have U2038 := ofT_tens (m := qs2.length) (by simp) S2038 E2038
              clear S2038 E2038
              go_simp
              have hbX2_2038 : Below y8.heap.size y8 X2_2038 := hbX2_2036.trans (hc2038.mono hsX2_2036)
              have hsX2_2038 : y8.heap.size ≤ X2_2038.heap.size := hbX2_2038.size
              have u1X2_2038 := U2036.later hc2038
              have zAX2_2038 := zAX2_2036.later hc2038
              have ltAX2_2038 := zAX2_2038.lt
              refine hK.out _ _ (mkS _ (B8.trans (hbX2_2038.mono B8.size))) (fun hHeld2 => ?_)
              clear hK K hHeld
              have hHeld := hHeld2
              clear hHeld2
              try simp only [Act.put, List.setIfInBounds_toArray, List.set_cons_zero, List.set_cons_succ]
              refine wpAnyH_ready (rs := [4]) (by kernel_rfl) (by simp) ?_
              refine AllReadyH.cons rfl (fun K hK => ?o2039_4) AllReadyH.nil
              go_simp
              refine ((divT2_any u1X2_2038 U2038 ls (by simp; omega) (by omega) HLEN.out)).mono ?_
              rintro e X2_2040 ⟨h2040, hc2040⟩
              rw [HC2.out, ← zipQ_eq (f := fun x y => x / y) (q1 := qs) (q2 := qs2) rfl rfl] at h2040
              obtain ⟨f2040, g2040, l2040, n2040, j2040, i2040, rfl, tr2040⟩ := h2040
              have tv2040 : TwoV X2_2040 (.agg #[.slice f2040 l2040 j2040, .slice g2040 n2040 i2040]) e2 s (zipQ (fun x y => x / y) qs qs2) 98 := tr2040
              go_simp
              have hbX2_2040 : Below y8.heap.size y8 X2_2040 := hbX2_2038.trans (hc2040.mono hsX2_2038)
              have hsX2_2040 : y8.heap.size ≤ X2_2040.heap.size := hbX2_2040.size
              have u1X2_2040 := u1X2_2038.later hc2040
              have u2X2_2040 := U2038.later hc2040
              have zAX2_2040 := zAX2_2038.later hc2040
              have ltAX2_2040 := zAX2_2040.lt
              refine hK.out _ _ (mkS _ (B8.trans (hbX2_2040.mono B8.size))) (fun hHeld2 => ?_)
              clear hK K hHeld
              have hHeld := hHeld2
              clear hHeld2
              try simp only [Act.put, List.setIfInBounds_toArray, List.set_cons_zero, List.set_cons_succ]
              refine todo [5, 6, 7] ?_
              iterate 3
               refine todoH (v := ?_) rfl (by kernel_rfl) (fun _ _ _ h => h) (by assumption) (Or.inl ⟨by rfl, ?_⟩) ?_
               rotate_left
               · intro w hSw; (try dsimp only at hSw); go_simp; (try with_reducible rfl)
               try simp only [Act.put, List.getElem_toArray, List.getElem_cons_succ, List.getElem_cons_zero, List.setIfInBounds_toArray, List.set_cons_zero, List.set_cons_succ]
              refine todone ?_
              obtain ⟨d2044_0, d2044_1, d2044_2, d2044_3⟩ := zAX2_2040.two
              refine wpAnyH_ready (rs := [9]) (by kernel_rfl) (by simp) ?_
              refine AllReadyH.cons rfl (fun K hK => ?s2044) AllReadyH.nil
              go_simp
              refine afterSet2 zAX2_2040 (fun X2_2044 o2044 zs2044 => ?_)
              clear d2044_0 d2044_1 d2044_2 d2044_3
              have hbX2_2044 : Below y8.heap.size y8 X2_2044 := hbX2_2040.trans (o2044.below hs0)
              have hsX2_2044 : y8.heap.size ≤ X2_2044.heap.size := hbX2_2044.size
              have tvX2_2044 := tv2040.only zAX2_2040 o2044
              refine hK.out _ _ (mkS _ (B8.trans (hbX2_2044.mono B8.size))) (fun hHeld2 => ?_)
              clear hK K hHeld
              have hHeld := hHeld2
              clear hHeld2
              try simp only [Act.put, List.setIfInBounds_toArray, List.set_cons_zero, List.set_cons_succ]
              refine wpAnyH_ready (rs := [10]) (by kernel_rfl) (by simp) ?_
              refine AllReadyH.cons rfl (fun K hK => ?sD2045_10) AllReadyH.nil
              go_simp
              refine hK.out _ _ ?kD2045_10 (fun hHeld => ?mD2045_10)
              case kD2045_10 =>
                try dsimp only
                exact mkS _ (B8.trans (hbX2_2044.mono B8.size))
              clear hK K
              try simp only [Act.put, List.setIfInBounds_toArray, List.set_cons_zero, List.set_cons_succ]
              refine wpAnyH_done (by kernel_rfl) ?_ _
              (try dsimp only [Straight])
              go_wp2_with fail
              go_meet
              exact ⟨_, f2040, g2040, l2040, j2040, n2040, i2040, rfl, rfl, zs2044, tvX2_2044, hbX2_2044⟩
          case rest =>
            obtain ⟨ub, vb1, vb2, ul1, uj1, ul2, uj2, rfl, rfl, RB, TB, B9⟩ := hcut
            have RA9 := RA.later B9
            have TA9 := Lib.hid (HTA.out.later B9)
            have TB9 := Lib.hid TB
            have B79 : Below y7.heap.size y7 wc := B8.trans (B9.mono B8.size)
            have N19 := N1'.later B79
            have N29 := N2'.later B79
            have A19 := Lib.hid (HA1'.out.later B79)
            have A29 := Lib.hid (HA2'.out.later B79)
            have hk9 := hk7.trans (B79.mono hk7.size)
            clear w0 w1 w2 w3 TB HA1' HA2' mkS
            obtain ⟨w0, w1, _, _⟩ := N19.two
            obtain ⟨w4, w5, _, _⟩ := RA9.two
            go_wp2_with fail
            refine (told_any A19.out ⟨_, _, _, _, _, _, rfl⟩ TA9.out ls (Nat.le_trans zipQ_le (by omega)) (by omega) (by omega)).mono ?_
            rintro e y10 ⟨rfl, hb10⟩
            have hk10 := hk9.trans (hb10.mono hk9.size)
            obtain ⟨w2', w3', _, _⟩ := (N29.later hb10).two
            obtain ⟨w6', w7', _, _⟩ := (RB.later hb10).two
            go_wp2_with fail
            refine (told_any (A29.out.later hb10) ⟨_, _, _, _, _, _, rfl⟩ (TB9.out.later hb10) ls (Nat.le_trans zipQ_le (by omega)) (by omega) (by omega)).mono ?_
            rintro e y11 ⟨rfl, hb11⟩
            have hk11 := hk10.trans (hb11.mono hk10.size)
            go_wp2_with fail
            refine (known8_any _).mono ?_
            rintro e y9 ⟨rfl, hb9⟩
            go_wp2_with fail
            go_ret
            exact ⟨rfl, hk11.trans (hb9.mono hk11.size)⟩
end Go.Proofs.YtjcacmnmbbnffaaGreat
