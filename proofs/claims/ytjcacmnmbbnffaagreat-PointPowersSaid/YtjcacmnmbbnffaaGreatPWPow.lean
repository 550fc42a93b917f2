/-
  Layer 8's law PointPowers: for any tensor and any exponent the law holds.
-/
import Derived.Test.YtjcacmnmbbnffaaGreatPKnown
import Derived.Test.YtjcacmnmbbnffaaGreatPPowR
import Derived.Test.YtjcacmnmbbnffaaGreatPRefE
namespace Go.Proofs.YtjcacmnmbbnffaaGreat
open Go.RowKit
set_option linter.unusedVariables false
set_option linter.unusedSimpArgs false

/-- some answer, whichever -/
def AnyB (w w' : World) (e : Ending) : Prop := ∃ t : Bool, e = .returned (.bool t) ∧ Below w.heap.size w w'
set_option maxRecDepth 100000 in
set_option maxHeartbeats 8000000 in
theorem small8_any {n : Nat} {w : World} {v : Value} {s : List Int} {L : List Rat} {a b : Option Addr} {ca cb : Nat} (T : TensR w v s L n a ca b cb) :
    Calls Tryz.prog 31 #[v, .int .i64 64, .int .i64 5] w fun e w' => AnyB w w' e := by
  have HT := Lib.hid T
  obtain rfl := T.is
  obtain ⟨W, hW⟩ : ∃ W, (w.alloc (.cells #[.slice a s.length ca, .slice b L.length cb] 36)) = W := ⟨_, rfl⟩
  have R0 : Row W (w.heap.size) 36 #[.slice a s.length ca, .slice b L.length cb] := by rw [← hW]; have h := Row.new w 36 #[.slice a s.length ca, .slice b L.length cb]; (try simp only [World.size_alloc] at h); exact h
  have hBW : Below w.heap.size w W := by rw [← hW]; exact ((Below.refl _ _).alloc (by (try simp) <;> omega) _)
  have hsW : W.heap.size = w.heap.size + 1 := by rw [← hW]; simp
  obtain ⟨c0, c1, _, _⟩ := R0.two
  clear T
  by_cases hlong : 64 < L.length
  · have hI : (L.length : Int) > 64 := by omega
    go_enter Tryz.func31, Tryz.ntmps31
    (try rw [hW])
    go_wp2
    go_ret
    exact ⟨_, rfl, hBW⟩
  · have hI : ¬ (L.length : Int) > 64 := by omega
    have H0 := Lib.hid R0
    have HB := Lib.hid hBW
    go_enter Tryz.func31, Tryz.ntmps31
    (try rw [hW])
    go_wp2_with fail
    clear c0 c1 R0 hBW hsW hW
    go_loopw [7] (fun i wr => ∃ k : Nat, i = .int .i64 (k : Int) ∧ k ≤ L.length ∧ Row wr w.heap.size 36 #[.slice a s.length ca, .slice b L.length cb] ∧ Below w.heap.size w wr) (fun i _ => L.length - (intOf i).toNat)
    case atStart => exact ⟨0, rfl, Nat.zero_le _, H0.out, HB.out⟩
    case round =>
      obtain ⟨k, rfl, hk, r0, hb⟩ := hrel
      obtain ⟨c0, c1, _, _⟩ := r0.two
      by_cases hlt : k < L.length
      · obtain ⟨bb, o, x0, x1, x2, q, hbo, hqk, e0', e1', e2', hraw⟩ := HT.out.el.at hlt
        subst hbo
        obtain ⟨y0, y1, z1, t1, y2, z2, t2, hxx⟩ := hraw.shape
        simp only [Value.agg.injEq, Array.mk.injEq, List.cons.injEq, and_true] at hxx
        obtain ⟨rfl, rfl, rfl⟩ := hxx
        have e1 := (hb.cell (World.block_lt_of_cell? _ _ e1')).trans e1'
        have e2 := (hb.cell (World.block_lt_of_cell? _ _ e2')).trans e2'
        have hltI : (k : Int) < (L.length : Int) := by omega
        clear hqk hraw e0' e1' e2'
        by_cases h1 : z1 ≤ 5
        · have h1I : ¬ (z1 : Int) > 5 := by omega
          by_cases h2 : z2 ≤ 5
          · have h2I : ¬ (z2 : Int) > 5 := by omega
            go_wp2
            go_roundw
            case rel => exact ⟨k + 1, by go_num, by omega, r0, hb⟩
            case measure => simp [intOf]; omega
          · have h2I : (z2 : Int) > 5 := by omega
            go_wp2
            go_ret
            exact ⟨_, rfl, hb⟩
        · have h1I : (z1 : Int) > 5 := by omega
          go_wp2
          go_ret
          exact ⟨_, rfl, hb⟩
      · obtain rfl : k = L.length := by omega
        have hltI : ¬ (L.length : Int) < (L.length : Int) := by omega
        go_wp2
        go_ret
        exact ⟨_, rfl, hb⟩
theorem powT2_any {n : Nat} {w : World} {v : Value} {s : List Int} {L1 : List Rat} {a b : Option Addr} {ca cb : Nat} {k : Int} (T : TensR w v s L1 n a ca b cb) (hs : s.length ≤ 17592186044416) (hq : L1.length ≤ 1000000) (hn : n ≤ 1000) :
    Calls Tryz.prog 33 #[v, .int .i64 k] w fun e w' => TwoR w' e (powC k) s (L1.map fun x => x ^ k.toNat) (18 * n + 20) ∧ Below w.heap.size w w' := by
  unfold powC
  by_cases h : k < 0 ∨ 16 < k
  · rw [if_pos h]
    exact (powT_bad T h).mono fun e w' ⟨h1, h3⟩ => ⟨⟨_, _, _, _, _, _, h1, fun h => by cases h⟩, h3⟩
  · rw [if_neg h]
    obtain ⟨E, rfl⟩ : ∃ E : Nat, k = (E : Int) := ⟨k.toNat, by omega⟩
    refine (powT_any T hs hq (by omega) hn (by omega)).mono fun e w' ⟨r, h1, h2, h3⟩ => ⟨?_, h3⟩
    obtain ⟨a', ca', b', cb', U⟩ := h2
    obtain rfl := U.is
    refine ⟨_, _, _, _, _, _, h1, fun _ => ?_⟩
    rw [Int.toNat_natCast]
    exact ⟨a', ca', b', cb', U⟩
set_option maxRecDepth 100000 in
set_option maxHeartbeats 8000000 in
theorem pointPowers_walk {v : Value} {s : List Int} {qs : List Q3} {a b : Option Addr} {ca cb : Nat} {k : Int} (w : World) (T : TensQ w v s qs a ca b cb) (ls : s.length ≤ 17592186044416) (hki : -9223372036854775808 ≤ k ∧ k ≤ 9223372036854775807) :
    Calls Tryz.prog 6 #[v, .int .i64 k] w fun e W' => e = .returned (.bool true) ∧ Below w.heap.size w W' := by
  have HT := Lib.hid T
  obtain rfl := T.is
  obtain ⟨W, hW⟩ : ∃ W, (w.alloc (.cells #[.slice a s.length ca, .slice b qs.length cb] 26)) = W := ⟨_, rfl⟩
  have R0 : Row W (w.heap.size) 26 #[.slice a s.length ca, .slice b qs.length cb] := by rw [← hW]; have h := Row.new w 26 #[.slice a s.length ca, .slice b qs.length cb]; (try simp only [World.size_alloc] at h); exact h
  have hBW : Below w.heap.size w W := by rw [← hW]; exact ((Below.refl _ _).alloc (by (try simp) <;> omega) _)
  have hsW : W.heap.size = w.heap.size + 1 := by rw [← hW]; simp
  have hfew := few_any (HT.out.later hBW)
  obtain ⟨t, ht⟩ : ∃ t, fewB qs = t := ⟨_, rfl⟩
  rw [ht] at hfew
  have HF := Lib.hid ht
  obtain ⟨x0, x1, _, _⟩ := R0.two
  clear T ht hki
  cases t with
  | false =>
    go_enter Tryz.func6, Tryz.ntmps6
    (try rw [hW])
    go_wp2_with fail
    refine (hfew).mono ?_
    rintro e y1 ⟨rfl, hb1⟩
    have hk1 := hBW.trans (hb1.mono (by omega))
    go_wp2_with fail
    refine (known8_any _).mono ?_
    rintro e y9 ⟨rfl, hb9⟩
    go_wp2_with fail
    go_ret
    exact ⟨rfl, hk1.trans (hb9.mono hk1.size)⟩
  | true =>
    obtain ⟨hq64, hl6⟩ := fewB_true HF.out
    have HL := Lib.hid hl6
    have tX := fun (X : World) (h : Below W.heap.size W X) => HT.out.later (hBW.trans (h.mono (by omega)))
    have HX := Lib.hid tX
    have hmay := fun (X : World) (hX : Below W.heap.size W X) => mayT_any (tX X hX) (by omega) (fun p hp => by have := HL.out p hp; omega)
    obtain ⟨m, hm⟩ : ∃ m, mayT s qs = m := ⟨_, rfl⟩
    rw [hm] at hmay
    have HM := Lib.hid hm
    have HMY := Lib.hid hmay
    clear tX hl6 hm hmay
    by_cases h0 : m = 0
    case neg =>
      have hne : (m != 0) = true := by simp [h0]
      have hne2 : (m == 0) = false := by simp [h0]
      go_enter Tryz.func6, Tryz.ntmps6
      (try rw [hW])
      go_wp2_with fail
      refine (hfew).mono ?_
      rintro e y1 ⟨rfl, hb1⟩
      have hk1 := hBW.trans (hb1.mono (by omega))
      clear x0 x1
      have C1 := hb1
      obtain ⟨x0, x1, _, _⟩ := (R0.later C1).two
      go_wp2_with fail
      refine (HMY.out _ C1).mono ?_
      rintro e y2 ⟨rfl, hb2⟩
      have C2 : Below W.heap.size W y2 := C1.trans (hb2.mono C1.size)
      clear x0 x1
      obtain ⟨x0, x1, _, _⟩ := (R0.later C2).two
      go_wp2_with fail
      refine (powP_any (n := 6) (k := k) (HX.out _ C2) ls (by omega) HL.out (by omega)).mono ?_
      rintro e z1 ⟨h, hz1⟩
      obtain ⟨c, hc⟩ : ∃ c, powT s qs k = c := ⟨_, rfl⟩
      rw [hc] at h
      have HCC := Lib.hid hc
      obtain ⟨g1, g2, n3, n4, g3, g4, rfl, hA⟩ := h.ans
      obtain ⟨z2, hV⟩ : ∃ X, z1.alloc (.cells #[.slice g1 n3 g3, .slice g2 n4 g4] 26) = X := ⟨_, rfl⟩
      have bz : Below z1.heap.size z1 z2 := by rw [← hV]; exact (Below.refl _ _).alloc (Nat.le_refl _) _
      have N1 : Row z2 z1.heap.size 26 #[.slice g1 n3 g3, .slice g2 n4 g4] := by rw [← hV]; exact Row.new _ _ _
      have C5 : Below W.heap.size W z2 := C2.trans ((hz1.trans (bz.mono hz1.size)).mono C2.size)
      have hA' := hA.later bz
      have HA := Lib.hid hA'
      clear x0 x1 hA hA' h hc bz
      obtain ⟨x0, x1, _, _⟩ := (R0.later C5).two
      go_wp2_with fail
      (try rw [hV])
      (try clear hV)
      refine (HMY.out _ C5).mono ?_
      rintro e z3 ⟨rfl, hz3⟩
      have C6 : Below W.heap.size W z3 := C5.trans (hz3.mono C5.size)
      have N3 := N1.later hz3
      have hk3 : Below w.heap.size w z3 := hBW.trans (C6.mono (by omega))
      clear x0 x1
      obtain ⟨x0, x1, _, _⟩ := (R0.later C6).two
      have hcm : c = m := by rw [← HCC.out]; unfold powT; rw [HM.out, if_pos h0]
      subst hcm
      obtain ⟨w0, w1, _, _⟩ := N3.two
      have HNF := Lib.hid h0
      clear h0
      go_wp2_with fail
      refine (told_any (HA.out.later hz3) (n := 0) ⟨_, _, _, _, _, _, rfl⟩ (fun h => absurd h HNF.out) ls (by rw [List.length_map]; omega) (by omega) (by omega)).mono ?_
      rintro e z4 ⟨rfl, hz4⟩
      have hk4 := hk3.trans (hz4.mono hk3.size)
      go_wp2_with fail
      refine (known8_any _).mono ?_
      rintro e y9 ⟨rfl, hb9⟩
      go_wp2_with fail
      go_ret
      exact ⟨rfl, hk4.trans (hb9.mono hk4.size)⟩
    case pos =>
      subst h0
      go_enter Tryz.func6, Tryz.ntmps6
      (try rw [hW])
      go_wp2_with fail
      refine (hfew).mono ?_
      rintro e y1 ⟨rfl, hb1⟩
      have hk1 := hBW.trans (hb1.mono (by omega))
      clear x0 x1
      have C1 := hb1
      obtain ⟨x0, x1, _, _⟩ := (R0.later C1).two
      go_wp2_with fail
      refine (HMY.out _ C1).mono ?_
      rintro e y2 ⟨rfl, hb2⟩
      have C2 : Below W.heap.size W y2 := C1.trans (hb2.mono C1.size)
      clear x0 x1
      obtain ⟨x0, x1, _, _⟩ := (R0.later C2).two
      go_wp2_with fail
      refine (ofT_any (n := 6) (HX.out _ C2) (by omega) (by omega) HL.out (by omega)).mono ?_
      rintro e y3 ⟨pa, pb, pca, pcb, rfl, S1, E1, hb3⟩
      have U1 := ofT_tens (m := qs.length) (by simp) S1 E1
      have C3 : Below W.heap.size W y3 := C2.trans (hb3.mono C2.size)
      have HU := Lib.hid U1
      clear S1 E1 U1
      go_wp2_with fail
      refine (small8_any HU.out).mono ?_
      rintro e y4 ⟨ts, rfl, hb4⟩
      have C4 : Below W.heap.size W y4 := C3.trans (hb4.mono C3.size)
      have hk5 : Below w.heap.size w y4 := hBW.trans (C4.mono (by omega))
      clear x0 x1 HU
      obtain ⟨x0, x1, _, _⟩ := (R0.later C4).two
      cases ts with
      | false =>
        go_wp2_with fail
        refine (known8_any _).mono ?_
        rintro e y9 ⟨rfl, hb9⟩
        go_wp2_with fail
        go_ret
        exact ⟨rfl, hk5.trans (hb9.mono hk5.size)⟩
      | true =>
        go_wp2_with fail
        refine (powP_any (n := 6) (k := k) (HX.out _ C4) ls (by omega) HL.out (by omega)).mono ?_
        rintro e z1 ⟨h, hz1⟩
        obtain ⟨c, hc⟩ : ∃ c, powT s qs k = c := ⟨_, rfl⟩
        rw [hc] at h
        have HCC := Lib.hid hc
        obtain ⟨g1, g2, n3, n4, g3, g4, rfl, hA⟩ := h.ans
        obtain ⟨z2, hV⟩ : ∃ X, z1.alloc (.cells #[.slice g1 n3 g3, .slice g2 n4 g4] 26) = X := ⟨_, rfl⟩
        have bz : Below z1.heap.size z1 z2 := by rw [← hV]; exact (Below.refl _ _).alloc (Nat.le_refl _) _
        have N1 : Row z2 z1.heap.size 26 #[.slice g1 n3 g3, .slice g2 n4 g4] := by rw [← hV]; exact Row.new _ _ _
        have C5 : Below W.heap.size W z2 := C4.trans ((hz1.trans (bz.mono hz1.size)).mono C4.size)
        have hA' := hA.later bz
        have HA := Lib.hid hA'
        clear x0 x1 hA hA' h hc bz
        obtain ⟨x0, x1, _, _⟩ := (R0.later C5).two
        go_wp2_with fail
        (try rw [hV])
        (try clear hV)
        refine (HMY.out _ C5).mono ?_
        rintro e z3 ⟨rfl, hz3⟩
        have C6 : Below W.heap.size W z3 := C5.trans (hz3.mono C5.size)
        have N3 := N1.later hz3
        have hk3 : Below w.heap.size w z3 := hBW.trans (C6.mono (by omega))
        clear x0 x1
        obtain ⟨x0, x1, _, _⟩ := (R0.later C6).two
        have hcm : c = powC k := by rw [← HCC.out]; unfold powT; rw [HM.out, if_neg (by simp)]
        have HCM := Lib.hid hcm
        clear hcm
        go_wp2_with fail
        refine (ofT_any (n := 6) (HX.out _ C6) (by omega) (by omega) HL.out (by omega)).mono ?_
        rintro e z4 ⟨pa, pb, pca, pcb, rfl, S1, E1, hz4⟩
        have U1 := ofT_tens (m := qs.length) (by simp) S1 E1
        have HU := Lib.hid U1
        have D4 : Below z3.heap.size z3 z4 := hz4
        clear U1 S1 E1
        go_wp2_with fail
        refine (powT2_any (n := 31) (k := k) HU.out ls (by simp; omega) (by omega)).mono ?_
        rintro e z5 ⟨h, hz5⟩
        rw [← HCM.out] at h
        obtain ⟨f1, f2, l1, l2, j1, j2, rfl, TR⟩ := h
        have HTR := Lib.hid TR
        obtain ⟨z6, hV⟩ : ∃ X, z5.alloc (.cells #[.slice f1 l1 j1, .slice f2 l2 j2] 36) = X := ⟨_, rfl⟩
        have bz : Below z5.heap.size z5 z6 := by rw [← hV]; exact (Below.refl _ _).alloc (Nat.le_refl _) _
        have NR : Row z6 z5.heap.size 36 #[.slice f1 l1 j1, .slice f2 l2 j2] := by rw [← hV]; exact Row.new _ _ _
        have D6 : Below z3.heap.size z3 z6 := D4.trans ((hz5.trans (bz.mono hz5.size)).mono D4.size)
        have N6 := N3.later D6
        have HA6 := Lib.hid ((HA.out.later hz3).later D6)
        have hk6 := hk3.trans (D6.mono hk3.size)
        have HT6 : Hid (c = 0 → TenR z6 (.agg #[.slice f1 l1 j1, .slice f2 l2 j2]) s ((qs.map Q3.rat).map fun x => x ^ k.toNat) (18 * 31 + 20)) := Lib.hid (fun e => (HTR.out e).later bz)
        have hmm : (qs.map fun q => q.rat ^ k.toNat) = (qs.map Q3.rat).map fun x => x ^ k.toNat := mapQ_eq (f := fun x => x ^ k.toNat) rfl
        rw [hmm] at HA6
        have HA6' := Lib.hid HA6.out
        clear x0 x1 TR bz hmm HA6
        obtain ⟨w0, w1, _, _⟩ := N6.two
        obtain ⟨w2, w3, _, _⟩ := NR.two
        go_wp2_with fail
        (try rw [hV])
        (try clear hV)
        refine (told_any HA6'.out ⟨_, _, _, _, _, _, rfl⟩ HT6.out ls (by rw [List.length_map, List.length_map]; omega) (by omega) (by omega)).mono ?_
        rintro e z7 ⟨rfl, hz7⟩
        have hk7 := hk6.trans (hz7.mono hk6.size)
        go_wp2_with fail
        refine (known8_any _).mono ?_
        rintro e y9 ⟨rfl, hb9⟩
        go_wp2_with fail
        go_ret
        exact ⟨rfl, hk7.trans (hb9.mono hk7.size)⟩
end Go.Proofs.YtjcacmnmbbnffaaGreat
