/-
  Layer 7's law TensorOwn: for every tensor the law holds (arguments that hold together at most 1048576 values).
-/
import Derived.Test.YtnhfjacifajdlaaGreatTWSame
import Derived.Test.YtnhfjacifajdlaaGreatTLoot
namespace Go.Proofs.YtnhfjacifajdlaaGreat
open Go.RowKit
set_option linter.unusedVariables false
set_option linter.unusedSimpArgs false

theorem infoT7 : (Tryz.prog.info? 26).map (fun i => (i.zero, i.size, i.bytes)) = some (some (.agg #[.slice none 0 0, .slice none 0 0]), 2, 48) := by kernel_rfl
theorem ownsRow_two {w : World} {gb base : Nat} {v0 v1 v2 v3 : Value} (R : Row w gb 26 #[v0, v1, v2, v3]) (hb : base ≤ gb) : w.ownsRow base 26 2 (.slice (some ⟨gb, 0, none⟩) 2 2) 2 [v0, v1, v2, v3] :=
  ⟨rfl, .inr ⟨gb, 2, #[v0, v1, v2, v3], rfl, hb, R, Nat.le_refl _, by decide, rfl, rfl⟩⟩
theorem cell_two_new (w : World) (a b : Value) (t : TypeId) : ∀ j u, [a, b][j]? = some u → (w.alloc (.cells #[a, b] t)).cell? ((⟨w.heap.size, 0, none⟩ : Addr).add j) = some u := by
  intro j u hj
  match j, hj with
  | 0, hj => simp at hj; subst hj; simp [Addr.add]
  | 1, hj => simp at hj; subst hj; simp [Addr.add]
  | j + 2, hj => simp at hj
set_option maxRecDepth 100000 in
set_option maxHeartbeats 20000000 in
theorem tensorOwn_walk {v : Value} {s : List Int} {qs : List Q3} {a b : Option Addr} {ca cb : Nat} (W : World) (T : TensQ W v s qs a ca b cb) (ls : s.length ≤ 1048576) (lq : sizeQs qs ≤ 1048576) :
    Calls Tryz.prog 10 #[v] W fun e W' => e = .returned (.bool true) ∧ Below W.heap.size W W' := by
  have HT := Lib.hid T
  have hlen := sizeQs_len qs
  have HL := Lib.hid (lensQ.of lq)
  have hq1 : qs.length ≤ 1048576 := by omega
  obtain rfl := T.is
  obtain ⟨V, hV⟩ : ∃ V, W.alloc (.cells #[.slice a s.length ca, .slice b qs.length cb] 26) = V := ⟨_, rfl⟩
  have R0 : Row V W.heap.size 26 #[.slice a s.length ca, .slice b qs.length cb] := by rw [← hV]; exact Row.new _ _ _
  have hBV : Below W.heap.size W V := by rw [← hV]; exact (Below.refl _ _).alloc (by simp) _
  have tX : ∀ X, Below V.heap.size V X → TensQ X (.agg #[.slice a s.length ca, .slice b qs.length cb]) s qs a ca b cb := fun X h => HT.out.later (hBV.trans (h.mono hBV.size))
  have own1 := fun X (h : Below V.heap.size V X) => ownT_any (tX X h) (by omega) (by omega) (fun q hq => ⟨Nat.le_trans (HL.out q hq).1 (by omega), Nat.le_trans (HL.out q hq).2 (by omega)⟩)
  have ref1 := fun X (h : Below V.heap.size V X) => mayT_any (tX X h) (by omega) (fun q hq => ⟨Nat.le_trans (HL.out q hq).1 (by omega), Nat.le_trans (HL.out q hq).2 (by omega)⟩)
  obtain ⟨c0, c1, _, _⟩ := R0.two
  obtain ⟨m, hm⟩ : ∃ m, mayT s qs = m := ⟨_, rfl⟩
  rw [hm] at ref1
  have HM := Lib.hid hm
  obtain ⟨i0, hi, hz0, hz1, hz2⟩ := info_parts infoT7
  clear T hm
  by_cases h0 : m = 0
  · subst h0
    have hz := mayT_zero HM.out
    have HOK := Lib.hid hz
    have hmk0 : makeC s qs.length = 0 := by unfold makeC; rw [if_neg (by rw [mayC_ok hz.1]; simp), if_neg (by rw [hz.1.count]; simp [hz.2.1])]
    have HMK0 := Lib.hid hmk0
    clear hz hmk0
    go_enter Tryz.func10, Tryz.ntmps10
    go_wp2_with (go_at_call 13; refine (ref1 _ (Below.refl _ V)).mono ?_; rintro e y1 ⟨rfl, B1⟩; obtain ⟨c2, c3, _, _⟩ := (R0.later B1).two; clear c0 c1 hV)
    refine (own1 _ B1).mono ?_
    rintro e y2 ⟨p2, r2, cx2, cy2, rfl, S2, E2, hb2⟩
    have TO2 := ownT_tens S2 E2
    have B2 : Below V.heap.size V y2 := B1.trans (hb2.mono B1.size)
    obtain ⟨y3, hy3⟩ : ∃ Y, y2.alloc (.cells #[.slice p2 s.length cx2, .slice r2 qs.length cy2] 26) = Y := ⟨_, rfl⟩
    have hc3 : Below y2.heap.size y2 y3 := by rw [← hy3]; exact (Below.refl _ _).alloc (Nat.le_refl _) _
    have O3 : Row y3 y2.heap.size 26 #[.slice p2 s.length cx2, .slice r2 qs.length cy2] := by rw [← hy3]; exact Row.new _ _ _
    have B3 : Below V.heap.size V y3 := B2.trans (hc3.mono B2.size)
    have TO3 := TO2.later hc3
    obtain ⟨o0, o1, _, _⟩ := O3.two
    clear c2 c3 S2 E2 TO2
    go_wp2_with fail
    (try rw [hy3])
    refine (makeT7_any (n := 1048576) TO3.sh TO3.nila TO3.el TO3.nilb ls hq1 HL.out (by omega)).mono ?_
    rw [HMK0.out]
    rintro e y4 ⟨r4, rfl, hgood, _, hb4⟩
    have RT4 := hgood rfl
    obtain ⟨g0, g1, g2, g3, hr4, _, _⟩ := id RT4
    have hr4' : r4 = .agg #[.slice g0 s.length g2, .slice g1 qs.length g3] := by rw [hr4, List.length_map]
    subst hr4'
    clear hr4 hgood hy3 o0 o1
    have LM4 := RT4.loot
    obtain ⟨y5, hy5⟩ : ∃ Y, y4.alloc (.cells #[.slice g0 s.length g2, .slice g1 qs.length g3] 26) = Y := ⟨_, rfl⟩
    have hc5 : Below y4.heap.size y4 y5 := by rw [← hy5]; exact (Below.refl _ _).alloc (Nat.le_refl _) _
    have M5 : Row y5 y4.heap.size 26 #[.slice g0 s.length g2, .slice g1 qs.length g3] := by rw [← hy5]; exact Row.new _ _ _
    have D5 : Below y3.heap.size y3 y5 := hb4.trans (hc5.mono hb4.size)
    have mkS5 : ∀ X, Below y5.heap.size y5 X → (X.cell? ⟨y2.heap.size, 0, none⟩ = some (.slice p2 s.length cx2) ∧ X.cell? ⟨y2.heap.size, 1, none⟩ = some (.slice r2 qs.length cy2)) ∧ X.cell? ⟨y4.heap.size, 0, none⟩ = some (.slice g0 s.length g2) ∧ X.cell? ⟨y4.heap.size, 1, none⟩ = some (.slice g1 qs.length g3) := fun X h => by
      obtain ⟨o0, o1, _, _⟩ := (O3.later (D5.trans (h.mono D5.size))).two
      obtain ⟨o2, o3, _, _⟩ := (M5.later h).two
      exact ⟨⟨o0, o1⟩, o2, o3⟩
    have E0 : Below y5.heap.size y5 y5.drew := (Below.refl _ y5).drew
    clear RT4
    go_wp2_with fail
    (try rw [hy5])
    refine wp_region_held (S := fun X => (X.cell? ⟨y2.heap.size, 0, none⟩ = some (.slice p2 s.length cx2) ∧ X.cell? ⟨y2.heap.size, 1, none⟩ = some (.slice r2 qs.length cy2)) ∧ X.cell? ⟨y4.heap.size, 0, none⟩ = some (.slice g0 s.length g2) ∧ X.cell? ⟨y4.heap.size, 1, none⟩ = some (.slice g1 qs.length g3)) (by kernel_rfl) ?_
    have hHeld := mkS5 _ E0
    refine wpAnyH_take (i := 0) (v := ?vq0a0) rfl (by kernel_rfl) (by kernel_rfl) (by kernel_rfl) (fun _ _ _ h => h) (Or.inl ⟨by rfl, ?hq0a0⟩) (by assumption) ?rq0a0
    case hq0a0 =>
      intro w hSw
      try dsimp only at hSw
      go_simp
      try with_reducible rfl
    try simp only [Act.put, List.setIfInBounds_toArray, List.set_cons_zero, List.set_cons_succ]
    refine wpAnyH_take (i := 2) (v := ?vq0a2) rfl (by kernel_rfl) (by kernel_rfl) (by kernel_rfl) (fun _ _ _ h => h) (Or.inl ⟨by rfl, ?hq0a2⟩) (by assumption) ?rq0a2
    case hq0a2 =>
      intro w hSw
      try dsimp only at hSw
      go_simp
      try with_reducible rfl
    try simp only [Act.put, List.setIfInBounds_toArray, List.set_cons_zero, List.set_cons_succ]
    refine wpAnyH_ready (rs := [1]) (by kernel_rfl) (by simp) ?_
    refine AllReadyH.cons rfl (fun K hK => ?sq1c1) AllReadyH.nil
    go_simp
    refine (copyT7_any (n := 1048576) (TO3.later (D5.trans (E0.mono D5.size))) ls hq1 HL.out (by omega)).mono ?_
    rintro e x1 ⟨r6, rfl, RC6, hy⟩
    have E1 : Below y5.heap.size y5 x1 := E0.trans (hy.mono E0.size)
    have H1 := hy
    clear hy
    obtain ⟨h0, h1, h2, h3, hr6, _, _⟩ := id RC6
    subst hr6
    go_simp
    refine hK.out _ _ ?kq1c1 (fun hHeld => ?mq1c1)
    case kq1c1 =>
      try dsimp only
      exact mkS5 _ E1
    clear hK K
    try simp only [Act.put, List.setIfInBounds_toArray, List.set_cons_zero, List.set_cons_succ]
    refine wpAnyH_ready (rs := [3]) (by kernel_rfl) (by simp) ?_
    refine AllReadyH.cons rfl (fun K hK => ?sq1b3) AllReadyH.nil
    go_simp
    refine afterAlloc (fun x2 hc2 hl2 zn2 => ?_)
    have E2 : Below y5.heap.size y5 x2 := E1.trans (hc2.mono E1.size)
    refine hK.out _ _ ?kq1b3 (fun hHeld => ?mq1b3)
    case kq1b3 =>
      try dsimp only
      exact mkS5 _ E2
    clear hK K
    try simp only [Act.put, List.setIfInBounds_toArray, List.set_cons_zero, List.set_cons_succ]
    refine wpAnyH_ready (rs := [4]) (by kernel_rfl) (by simp) ?_
    refine AllReadyH.cons rfl (fun K hK => ?sq2d4) AllReadyH.nil
    go_simp
    refine hK.out _ _ ?kq2d4 (fun hHeld => ?mq2d4)
    case kq2d4 =>
      try dsimp only
      exact mkS5 _ E2
    clear hK K
    try simp only [Act.put, List.setIfInBounds_toArray, List.set_cons_zero, List.set_cons_succ]
    refine wpAnyH_done (by kernel_rfl) ?_ _
    have DX : Below y3.heap.size y3 x2 := D5.trans (E2.mono D5.size)
    have D42 : Below y4.heap.size y4 x2 := hc5.trans (E2.mono hc5.size)
    have s35 := D5.size
    have s12 := hc2.size
    have s51 := E1.size
    have s45 := hc5.size
    have s34 := hb4.size
    have sdr : y5.drew.heap.size = y5.heap.size := rfl
    have LC2 : LootT y3.heap.size x2.heap.size x2 (.slice h0 s.length h2) (.slice h1 qs.length h3) := (RC6.loot.loose (Loose.of hc2 (Nat.le_refl _) : Loose x1.heap.size x1 x2)).mono (by omega) (by omega)
    have LM2 : LootT y3.heap.size x2.heap.size x2 (.slice g0 s.length g2) (.slice g1 qs.length g3) := (LM4.loose (Loose.of D42 (Nat.le_refl _) : Loose y4.heap.size y4 x2)).mono (by omega) (by omega)
    obtain ⟨⟨o0, o1⟩, _, _⟩ := mkS5 _ E2
    have hgb : y3.heap.size ≤ x1.heap.size := by omega
    have HGB := Lib.hid hgb
    have HLC := Lib.hid LC2
    have HLM := Lib.hid LM2
    have HZN := Lib.hid zn2
    clear LM4 RC6 E0 E1 hHeld LC2 LM2 zn2 mkS5 hgb hl2 hy5 sdr s35 s12 s51 s45 s34
    by_cases hs0 : s.length = 0
    · have hsI : ((s.length : Int) == 0) = true := by rw [hs0]; rfl
      have HS0 := Lib.hid hs0
      have hq0 : 0 < qs.length := by
        have h := HOK.out.2.1
        rw [List.eq_nil_of_length_eq_zero hs0] at h
        simp only [prodS] at h
        omega
      have hq0I : (0 : Int) < (qs.length : Int) := by omega
      obtain ⟨bb, ob, t0, t1, t2, q, hbo, hqk, f0, f1, f2, hraw⟩ := (TO3.later DX).el.at hq0
      simp only [Nat.zero_mul, Nat.add_zero] at f0 f1 f2
      have hmem := List.mem_of_getElem? hqk
      have hbo2 : r2 = some ⟨bb, ob, none⟩ := hbo
      subst hbo2
      clear hs0 hq0 hqk hbo
      go_wp2_with (first
        | (go_at_call 23; refine (scalarT7_any (n := 1048576) hraw (HL.out q hmem) (by omega)).mono ?_; rintro e y7 ⟨r7, rfl, RT7, hb7⟩; obtain ⟨v4, v5, n4, n5, hr7, _, _⟩ := id RT7; have hr7' : r7 = .agg #[.slice v4 0 n4, .slice v5 1 n5] := hr7; subst hr7'; have zn7 := HZN.out.later hb7; clear hr7 f0 f1 f2 o0 o1)
        | (at_builtin; refine wpList_append_own _ rfl _ _ 70 rfl y3.heap.size 26 i0 (.agg #[.slice none 0 0, .slice none 0 0]) 2 48 Tryz.underlying70 hi hz0 hz1 hz2 rfl (by decide) _ 2 _ rfl (ownsRow_two (zn7.alloc _) HGB.out) ⟨y7.heap.size, 0, none⟩ 1 1 [.slice v4 0 n4, .slice v5 1 n5] rfl rfl (cell_two_new _ _ _ _) (by simp [Value.oneCell']) (by unfold maxLen; omega) (by omega) (by have := DX.size; have := hb7.size; simp; omega) ?_; intro v' x9 hown' hgrow _; have K9 : Kept x1.heap.size y7 x9 := ((Kept.refl _ _).alloc _).grown hgrow (.inr rfl); obtain ⟨gb, cap, cs, rfl, LL⟩ := Loots.three (G := y3.heap.size) (gl := y7.heap.size) hown' (((HLC.out.loose (Loose.of hb7 (Nat.le_refl _) : Loose x2.heap.size x2 y7)).mono (Nat.le_refl _) hb7.size).kept K9 zn7) (((HLM.out.loose (Loose.of hb7 (Nat.le_refl _) : Loose x2.heap.size x2 y7)).mono (Nat.le_refl _) hb7.size).kept K9 zn7) ((RT7.loot.mono DX.size (Nat.le_refl _)).kept K9 zn7); have D9 : Below y3.heap.size y3 x9 := (DX.trans (hb7.mono DX.size)).trans (keptBelow K9 HGB.out (Nat.le_trans DX.size hb7.size))))
      clear hown' hgrow K9 RT7 zn7
      have HLL := Lib.hid LL
      clear LL
      go_loopw [7, 8, 9] (fun i _ _ wr => ∃ k : Nat, i = .int .i64 (k : Int) ∧ k ≤ 3 ∧ Loose y3.heap.size x9 wr) (fun i _ _ _ => 3 - (intOf i).toNat)
      case atStart => exact ⟨0, rfl, Nat.zero_le _, Loose.refl _ _⟩
      case round =>
        obtain ⟨k, rfl, hk, hL⟩ := hrel
        by_cases hlt : k < 3
        · have hltI : (k : Int) < 3 := by omega
          obtain ⟨va, vb, e1, e2, LT⟩ := HLL.out.2 k hlt
          have HLT := Lib.hid LT
          obtain ⟨hS, hE⟩ := LT
          obtain ⟨ad1, n1, cp1, rfl, hn1, -⟩ := hS
          obtain ⟨b2, n2, cp2, rfl, hn2, -⟩ := hE
          unfold maxLen at hn1 hn2
          have kA : ∀ X, Loose y3.heap.size x9 X → X.cell? ⟨gb, k * 2, none⟩ = some (.slice ad1 n1 cp1) := fun X L => ((HLL.out.loose L).1.cell _).trans e1
          have kB : ∀ X, Loose y3.heap.size x9 X → X.cell? ⟨gb, k * 2 + 1, none⟩ = some (.slice b2 n2 cp2) := fun X L => ((HLL.out.loose L).1.cell _).trans e2
          have hca := kA _ hL
          have KA := Lib.hid kA
          have KB := Lib.hid kB
          clear e1 e2 kA kB
          go_wp2
          go_loopw [8] (fun j wr' => ∃ i : Nat, j = .int .i64 (i : Int) ∧ i ≤ n1 ∧ Loose y3.heap.size x9 wr') (fun j _ => n1 - (intOf j).toNat)
          case atStart => exact ⟨0, rfl, Nat.zero_le _, hL⟩
          case round =>
            clear hL hca
            obtain ⟨i, rfl, hi2, hL⟩ := hrel
            have hce := KA.out _ hL
            obtain ⟨ad', n', cp', hsl, _, hxx⟩ := hL.cellzS HLT.out.1
            cases hsl
            by_cases hin : i < n1
            · have hin2 : (i : Int) < (n1 : Int) := by omega
              rcases hxx with h0 | ⟨b, cur, rfl, w1, w2, w3, w4⟩
              · exact absurd hin (by omega)
              obtain ⟨z, hz⟩ := w4 i hin
              have hcb : wr.cell? ⟨b, i, none⟩ = some (.int .i64 z) := (cell_of_row wr b i cur _ _ w3).trans hz
              have hfb : wr.frozen? ⟨b, i, none⟩ = false := frozen_of_row wr b i cur _ w3
              have HL2 := Lib.hid (fun z' => hL.trans (Loose.setI (k := i) (z := z') w1 w3))
              clear w4 hz hL
              go_wp2
              go_roundw
              case rel => exact ⟨i + 1, by go_num, by omega, HL2.out _⟩
              case measure => simp [intOf]; omega
            · have hin2 : ¬ (i : Int) < (n1 : Int) := by omega
              have hcd := KB.out _ hL
              clear hxx
              go_wp2
              go_loopw [9] (fun j wr' => ∃ i : Nat, j = .int .i64 (i : Int) ∧ i ≤ n2 ∧ Loose y3.heap.size x9 wr') (fun j _ => n2 - (intOf j).toNat)
              case atStart => exact ⟨0, rfl, Nat.zero_le _, hL⟩
              case round =>
                clear hL hce hcd
                obtain ⟨i, rfl, hi3, hL⟩ := hrel
                have hcd := KB.out _ hL
                obtain ⟨b', n', cp', hsl, _, hxx⟩ := HLT.out.2.loose hL
                cases hsl
                by_cases hin : i < n2
                · have hin2 : (i : Int) < (n2 : Int) := by omega
                  rcases hxx with h0 | ⟨bb, cr, rfl, R, hk2⟩
                  · exact absurd hin (by omega)
                  obtain ⟨x, y, w1, w2, w3, w4⟩ := hk2 i hin
                  have HSP := Lib.hid (spoil_any R (by decide) (by decide) w1 w2 w3 w4)
                  clear hk2 w1 w2 w3 w4 R
                  go_wp2_with (go_at_call 43; refine HSP.out.mono ?_; rintro e w9 ⟨rfl, L9⟩)
                  go_roundw
                  case rel => exact ⟨i + 1, by go_num, by omega, hL.trans L9⟩
                  case measure => simp [intOf]; omega
                · have hin2 : ¬ (i : Int) < (n2 : Int) := by omega
                  clear hxx
                  go_wp2
                  go_roundw
                  case rel => exact ⟨k + 1, by go_num, by omega, hL⟩
                  case measure => simp [intOf]; omega
        · obtain rfl : k = 3 := by omega
          have hltI : ¬ ((3 : Int) < 3) := by omega
          have DW : Below y3.heap.size y3 wr := D9.trans (hL.1)
          obtain ⟨Z, hZ⟩ : ∃ Y, wr.alloc (.cells (madeCells #[.int .i64 0] s.length) 3) = Y := ⟨_, rfl⟩
          have hcZ : Below wr.heap.size wr Z := by rw [← hZ]; exact (Below.refl _ _).alloc (Nat.le_refl _) _
          have hmk := make_runS s.length (by omega) wr
          have hzS := zeroS wr.heap.size wr s.length (Nat.le_refl _) (by omega)
          rw [hZ] at hmk hzS
          obtain ⟨hEq, AZ, nZ⟩ := hzS.at_
          clear hEq
          have DZ : Below y3.heap.size y3 Z := DW.trans (hcZ.mono DW.size)
          have BW : Below V.heap.size V wr := B3.trans (DW.mono B3.size)
          obtain ⟨c0, c1, _, _⟩ := (R0.later BW).two
          obtain ⟨o0, o1, _, _⟩ := (O3.later DZ).two
          have hatc : atC s qs (List.replicate s.length 0) = 0 := by
            unfold atC
            rw [if_neg (by rw [HM.out]; simp)]
            exact offC_in (mayC_ok HOK.out.1) (inS_zeros HOK.out.1.pos)
          have HATC := Lib.hid hatc
          clear hzS hatc hZ
          go_wp2_with fail
          refine (atT7_any (n := 1048576) (TO3.later DZ) AZ nZ ls hq1 HL.out (by omega) (by simp; omega)).mono ?_
          rw [HATC.out]
          rintro e y9 ⟨r9, rfl, hg9, _, hb9⟩
          obtain ⟨q9, _, RQ9⟩ := hg9 rfl
          obtain ⟨m9, f1, l1, j1, f2, l2, j2, rfl⟩ := RQ9.shape
          obtain ⟨y10, hy10⟩ : ∃ Y, y9.alloc (.cells #[.bool m9, .slice f1 l1 j1, .slice f2 l2 j2] 44) = Y := ⟨_, rfl⟩
          have hc10 : Below y9.heap.size y9 y10 := by rw [← hy10]; exact (Below.refl _ _).alloc (Nat.le_refl _) _
          have X10 : Row y10 y9.heap.size 44 #[.bool m9, .slice f1 l1 j1, .slice f2 l2 j2] := by rw [← hy10]; exact Row.new _ _ _
          obtain ⟨_, _, _, hv9, z1, z2⟩ := RQ9.loot
          cases hv9
          have hsp := spoil_any (off := 0) X10 (by decide) (by decide) rfl rfl (z1.later hc10) (z2.later hc10)
          clear hg9 RQ9 c0 c1 o0 o1 AZ
          go_wp2_with fail
          (try rw [hy10])
          refine hsp.mono ?_
          rintro e y11 ⟨rfl, L11⟩
          have sZ9 := hb9.size
          have D11 : Below y3.heap.size y3 y11 := ((DZ.trans (hb9.mono DZ.size)).trans (hc10.mono (Nat.le_trans DZ.size hb9.size))).trans (L11.1.mono DZ.size)
          have B11 : Below V.heap.size V y11 := B3.trans (D11.mono B3.size)
          obtain ⟨c0, c1, _, _⟩ := (R0.later B11).two
          obtain ⟨o0, o1, _, _⟩ := (O3.later D11).two
          clear hsp z1 z2 X10 hy10
          go_wp2_with (first
            | (go_at_call 26; refine (sameW_true (n := 1048576) (TO3.later D11) (tX _ B11) (by omega) (by omega) (by omega) HL.out).mono ?_; rintro e y12 ⟨rfl, hb12⟩)
            | (go_at_call 14; refine (known7_any _).mono ?_; rintro e y13 ⟨rfl, hb13⟩))
          go_ret
          exact ⟨rfl, hBV.trans ((B11.trans ((hb12.trans (hb13.mono hb12.size)).mono B11.size)).mono hBV.size)⟩
    · have hsI : ((s.length : Int) == 0) = false := by rw [beq_eq_false_iff_ne]; omega
      have LL := Loots.two HZN.out HLC.out HLM.out
      have D9 := DX
      clear hs0
      go_wp2_with fail
      have HLL := Lib.hid LL
      clear LL
      go_loopw [7, 8, 9] (fun i _ _ wr => ∃ k : Nat, i = .int .i64 (k : Int) ∧ k ≤ 2 ∧ Loose y3.heap.size x2 wr) (fun i _ _ _ => 2 - (intOf i).toNat)
      case atStart => exact ⟨0, rfl, Nat.zero_le _, Loose.refl _ _⟩
      case round =>
        obtain ⟨k, rfl, hk, hL⟩ := hrel
        by_cases hlt : k < 2
        · have hltI : (k : Int) < 2 := by omega
          obtain ⟨va, vb, e1, e2, LT⟩ := HLL.out.2 k hlt
          have HLT := Lib.hid LT
          obtain ⟨hS, hE⟩ := LT
          obtain ⟨ad1, n1, cp1, rfl, hn1, -⟩ := hS
          obtain ⟨b2, n2, cp2, rfl, hn2, -⟩ := hE
          unfold maxLen at hn1 hn2
          have kA : ∀ X, Loose y3.heap.size x2 X → X.cell? ⟨x1.heap.size, k * 2, none⟩ = some (.slice ad1 n1 cp1) := fun X L => ((HLL.out.loose L).1.cell _).trans e1
          have kB : ∀ X, Loose y3.heap.size x2 X → X.cell? ⟨x1.heap.size, k * 2 + 1, none⟩ = some (.slice b2 n2 cp2) := fun X L => ((HLL.out.loose L).1.cell _).trans e2
          have hca := kA _ hL
          have KA := Lib.hid kA
          have KB := Lib.hid kB
          clear e1 e2 kA kB
          go_wp2
          go_loopw [8] (fun j wr' => ∃ i : Nat, j = .int .i64 (i : Int) ∧ i ≤ n1 ∧ Loose y3.heap.size x2 wr') (fun j _ => n1 - (intOf j).toNat)
          case atStart => exact ⟨0, rfl, Nat.zero_le _, hL⟩
          case round =>
            clear hL hca
            obtain ⟨i, rfl, hi2, hL⟩ := hrel
            have hce := KA.out _ hL
            obtain ⟨ad', n', cp', hsl, _, hxx⟩ := hL.cellzS HLT.out.1
            cases hsl
            by_cases hin : i < n1
            · have hin2 : (i : Int) < (n1 : Int) := by omega
              rcases hxx with h0 | ⟨b, cur, rfl, w1, w2, w3, w4⟩
              · exact absurd hin (by omega)
              obtain ⟨z, hz⟩ := w4 i hin
              have hcb : wr.cell? ⟨b, i, none⟩ = some (.int .i64 z) := (cell_of_row wr b i cur _ _ w3).trans hz
              have hfb : wr.frozen? ⟨b, i, none⟩ = false := frozen_of_row wr b i cur _ w3
              have HL2 := Lib.hid (fun z' => hL.trans (Loose.setI (k := i) (z := z') w1 w3))
              clear w4 hz hL
              go_wp2
              go_roundw
              case rel => exact ⟨i + 1, by go_num, by omega, HL2.out _⟩
              case measure => simp [intOf]; omega
            · have hin2 : ¬ (i : Int) < (n1 : Int) := by omega
              have hcd := KB.out _ hL
              clear hxx
              go_wp2
              go_loopw [9] (fun j wr' => ∃ i : Nat, j = .int .i64 (i : Int) ∧ i ≤ n2 ∧ Loose y3.heap.size x2 wr') (fun j _ => n2 - (intOf j).toNat)
              case atStart => exact ⟨0, rfl, Nat.zero_le _, hL⟩
              case round =>
                clear hL hce hcd
                obtain ⟨i, rfl, hi3, hL⟩ := hrel
                have hcd := KB.out _ hL
                obtain ⟨b', n', cp', hsl, _, hxx⟩ := HLT.out.2.loose hL
                cases hsl
                by_cases hin : i < n2
                · have hin2 : (i : Int) < (n2 : Int) := by omega
                  rcases hxx with h0 | ⟨bb, cr, rfl, R, hk2⟩
                  · exact absurd hin (by omega)
                  obtain ⟨x, y, w1, w2, w3, w4⟩ := hk2 i hin
                  have HSP := Lib.hid (spoil_any R (by decide) (by decide) w1 w2 w3 w4)
                  clear hk2 w1 w2 w3 w4 R
                  go_wp2_with (go_at_call 43; refine HSP.out.mono ?_; rintro e w9 ⟨rfl, L9⟩)
                  go_roundw
                  case rel => exact ⟨i + 1, by go_num, by omega, hL.trans L9⟩
                  case measure => simp [intOf]; omega
                · have hin2 : ¬ (i : Int) < (n2 : Int) := by omega
                  clear hxx
                  go_wp2
                  go_roundw
                  case rel => exact ⟨k + 1, by go_num, by omega, hL⟩
                  case measure => simp [intOf]; omega
        · obtain rfl : k = 2 := by omega
          have hltI : ¬ ((2 : Int) < 2) := by omega
          have DW : Below y3.heap.size y3 wr := D9.trans (hL.1)
          obtain ⟨Z, hZ⟩ : ∃ Y, wr.alloc (.cells (madeCells #[.int .i64 0] s.length) 3) = Y := ⟨_, rfl⟩
          have hcZ : Below wr.heap.size wr Z := by rw [← hZ]; exact (Below.refl _ _).alloc (Nat.le_refl _) _
          have hmk := make_runS s.length (by omega) wr
          have hzS := zeroS wr.heap.size wr s.length (Nat.le_refl _) (by omega)
          rw [hZ] at hmk hzS
          obtain ⟨hEq, AZ, nZ⟩ := hzS.at_
          clear hEq
          have DZ : Below y3.heap.size y3 Z := DW.trans (hcZ.mono DW.size)
          have BW : Below V.heap.size V wr := B3.trans (DW.mono B3.size)
          obtain ⟨c0, c1, _, _⟩ := (R0.later BW).two
          obtain ⟨o0, o1, _, _⟩ := (O3.later DZ).two
          have hatc : atC s qs (List.replicate s.length 0) = 0 := by
            unfold atC
            rw [if_neg (by rw [HM.out]; simp)]
            exact offC_in (mayC_ok HOK.out.1) (inS_zeros HOK.out.1.pos)
          have HATC := Lib.hid hatc
          clear hzS hatc hZ
          go_wp2_with fail
          refine (atT7_any (n := 1048576) (TO3.later DZ) AZ nZ ls hq1 HL.out (by omega) (by simp; omega)).mono ?_
          rw [HATC.out]
          rintro e y9 ⟨r9, rfl, hg9, _, hb9⟩
          obtain ⟨q9, _, RQ9⟩ := hg9 rfl
          obtain ⟨m9, f1, l1, j1, f2, l2, j2, rfl⟩ := RQ9.shape
          obtain ⟨y10, hy10⟩ : ∃ Y, y9.alloc (.cells #[.bool m9, .slice f1 l1 j1, .slice f2 l2 j2] 44) = Y := ⟨_, rfl⟩
          have hc10 : Below y9.heap.size y9 y10 := by rw [← hy10]; exact (Below.refl _ _).alloc (Nat.le_refl _) _
          have X10 : Row y10 y9.heap.size 44 #[.bool m9, .slice f1 l1 j1, .slice f2 l2 j2] := by rw [← hy10]; exact Row.new _ _ _
          obtain ⟨_, _, _, hv9, z1, z2⟩ := RQ9.loot
          cases hv9
          have hsp := spoil_any (off := 0) X10 (by decide) (by decide) rfl rfl (z1.later hc10) (z2.later hc10)
          clear hg9 RQ9 c0 c1 o0 o1 AZ
          go_wp2_with fail
          (try rw [hy10])
          refine hsp.mono ?_
          rintro e y11 ⟨rfl, L11⟩
          have sZ9 := hb9.size
          have D11 : Below y3.heap.size y3 y11 := ((DZ.trans (hb9.mono DZ.size)).trans (hc10.mono (Nat.le_trans DZ.size hb9.size))).trans (L11.1.mono DZ.size)
          have B11 : Below V.heap.size V y11 := B3.trans (D11.mono B3.size)
          obtain ⟨c0, c1, _, _⟩ := (R0.later B11).two
          obtain ⟨o0, o1, _, _⟩ := (O3.later D11).two
          clear hsp z1 z2 X10 hy10
          go_wp2_with (first
            | (go_at_call 26; refine (sameW_true (n := 1048576) (TO3.later D11) (tX _ B11) (by omega) (by omega) (by omega) HL.out).mono ?_; rintro e y12 ⟨rfl, hb12⟩)
            | (go_at_call 14; refine (known7_any _).mono ?_; rintro e y13 ⟨rfl, hb13⟩))
          go_ret
          exact ⟨rfl, hBV.trans ((B11.trans ((hb12.trans (hb13.mono hb12.size)).mono B11.size)).mono hBV.size)⟩
  · have hne : (m != 0) = true := by simp [h0]
    go_enter Tryz.func10, Tryz.ntmps10
    go_wp2_with (first
      | (go_at_call 13; refine (ref1 _ (Below.refl _ V)).mono ?_; rintro e y1 ⟨rfl, B1⟩)
      | (go_at_call 14; refine (known7_any _).mono ?_; rintro e y9 ⟨rfl, hb9⟩))
    go_ret
    exact ⟨rfl, hBV.trans ((B1.trans (hb9.mono B1.size)).mono hBV.size)⟩
end Go.Proofs.YtnhfjacifajdlaaGreat
