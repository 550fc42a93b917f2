/-
  Layer 9's law MoveOwn: for every tensor the law holds (a tensor that holds at most 1048576 values). (Made by wip/gen/gen_mown.py.)
-/
import Derived.Test.YtooglnhlhgmhdaaGreatMOwnA
import Derived.Test.YtooglnhlhgmhdaaGreatK32
namespace Go.Proofs.YtooglnhlhgmhdaaGreat
open Go.RowKit
set_option linter.unusedVariables false
set_option linter.unusedSimpArgs false

set_option maxRecDepth 100000 in
set_option maxHeartbeats 40000000 in
theorem moveOwn_walk {v : Value} {s : List Int} {qs : List Q3} {a b : Option Addr} {ca cb : Nat} (W : World) (T : TensQ W v s qs a ca b cb) (ls : s.length ≤ 1048576) (lq : sizeQs qs ≤ 1048576) :
    Calls Tryz.prog 12 #[v] W fun e W' => e = .returned (.bool true) ∧ Below W.heap.size W W' := by
  have HT := Lib.hid T
  have hlen := sizeQs_len qs
  have HL := Lib.hid (lensQ.of lq)
  have hq1 : qs.length ≤ 1048576 := by omega
  obtain rfl := T.is
  obtain ⟨V, hV⟩ : ∃ V, W.alloc (.cells #[.slice a s.length ca, .slice b qs.length cb] 26) = V := ⟨_, rfl⟩
  have R0 : Row V W.heap.size 26 #[.slice a s.length ca, .slice b qs.length cb] := by rw [← hV]; exact Row.new _ _ _
  have hBV : Below W.heap.size W V := by rw [← hV]; exact (Below.refl _ _).alloc (by simp) _
  have tX : ∀ X, Below V.heap.size V X → TensQ X (.agg #[.slice a s.length ca, .slice b qs.length cb]) s qs a ca b cb := fun X h => HT.out.later (hBV.trans (h.mono hBV.size))
  have TX := Lib.hid tX
  have own1 := fun X (h : Below V.heap.size V X) => ownT_any (tX X h) (by omega) (by omega) (fun q hq => ⟨Nat.le_trans (HL.out q hq).1 (by omega), Nat.le_trans (HL.out q hq).2 (by omega)⟩)
  have ref1 := mayT_any (tX V (Below.refl _ _)) (by omega) (fun q hq => ⟨Nat.le_trans (HL.out q hq).1 (by omega), Nat.le_trans (HL.out q hq).2 (by omega)⟩)
  obtain ⟨c0, c1, _, _⟩ := R0.two
  obtain ⟨m, hm⟩ : ∃ m, mayT s qs = m := ⟨_, rfl⟩
  rw [hm] at ref1
  have HM := Lib.hid hm
  obtain ⟨i0, hiS, hz0, hz1, hz2⟩ := info_parts infoS
  clear T hm tX lq hlen
  by_cases h0 : m = 0
  · subst h0
    obtain ⟨LL, hL⟩ : ∃ L, qs.map Q3.rat = L := ⟨_, rfl⟩
    have hll : LL.length = qs.length := by rw [← hL]; simp
    have HOK : Hid (Ok9 s LL.length) := Lib.hid (by rw [hll]; exact ok9_of HM.out)
    have HLQ := Lib.hid hL
    have HLL := Lib.hid hll
    have HS4 := Lib.hid HOK.out.le
    have hs4 := HOK.out.le.1
    have hk4 := HOK.out.le.2
    clear hL hll
    go_enter Tryz.func12, Tryz.ntmps12
    go_wp2_with fail
    (try rw [hV])
    clear hV
    refine ref1.mono ?_
    rintro e y1 ⟨rfl, B1⟩
    obtain ⟨c2, c3, _, _⟩ := (R0.later B1).two
    clear c0 c1 ref1
    go_wp2_with fail
    refine (own1 _ B1).mono ?_
    rintro e y2 ⟨p2, r2, cx2, cy2, rfl, S2, E2, hb2⟩
    have TO2 := ownT_tens S2 E2
    have B2 : Below V.heap.size V y2 := B1.trans (hb2.mono B1.size)
    obtain ⟨y3, hy3⟩ : ∃ Y, y2.alloc (.cells #[.slice p2 s.length cx2, .slice r2 qs.length cy2] 26) = Y := ⟨_, rfl⟩
    have hc3 : Below y2.heap.size y2 y3 := by rw [← hy3]; exact (Below.refl _ _).alloc (Nat.le_refl _) _
    have O3 : Row y3 y2.heap.size 26 #[.slice p2 s.length cx2, .slice r2 qs.length cy2] := by rw [← hy3]; exact Row.new _ _ _
    have B3 : Below V.heap.size V y3 := B2.trans (hc3.mono B2.size)
    have HTO := Lib.hid (TO2.later hc3)
    clear c2 c3 S2 E2 TO2 own1 hb2 hc3
    go_wp2_with fail
    (try rw [hy3])
    clear hy3
    go_loopw [4, 5, 6] (fun v4 v5 i wr => ∃ (k : Nat), i = .int .i64 (k : Int) ∧ k ≤ s.length ∧ TwoI y3.heap.size wr v4 v5 (upS k) (cutK s k) ∧ Below y3.heap.size y3 wr) (fun _ _ i _ => s.length - (intOf i).toNat)
    case atStart => exact ⟨0, rfl, Nat.zero_le _, TwoI.nil _ _, Below.refl _ _⟩
    case round =>
      rename World => X0
      obtain ⟨k, rfl, hk, hTw, hb0⟩ := hrel
      have hsz := hb0.size
      have BX : Below V.heap.size V X0 := B3.trans (hb0.mono B3.size)
      have HTw := Lib.hid hTw
      obtain ⟨c0, c1, _, _⟩ := (R0.later BX).two
      by_cases hlt : k < s.length
      · have hltI : (k : Int) < (s.length : Int) := by omega
        obtain ⟨bs, os, rfl, _⟩ := (TX.out _ BX).sh.at (i := k) hlt
        obtain ⟨d, hd⟩ : ∃ d, s.getD k 0 = d := ⟨_, rfl⟩
        have cX : ∀ X, Below V.heap.size V X → X.cell? ⟨bs, os + k, none⟩ = some (.int .i64 d) := fun X h => by
          obtain ⟨b', o', e', c'⟩ := (TX.out X h).sh.at (i := k) hlt
          cases e'
          rw [hd] at c'
          exact c'
        obtain ⟨A, hA⟩ : ∃ A, upS k = A := ⟨_, rfl⟩
        obtain ⟨C, hC⟩ : ∃ C, cutK s k = C := ⟨_, rfl⟩
        have hAl : A.length ≤ 16 := by rw [← hA, upS_length]; omega
        have hCl : C.length ≤ 16 := by rw [← hC, cutK_len]; omega
        have nxA := upS_next k
        have nxC := cutK_next s k
        rw [hA] at nxA hTw
        rw [hC, hd] at nxC
        rw [hC] at hTw
        have NXA := Lib.hid nxA
        have NXC := Lib.hid nxC
        have h4 := hTw.1
        have CX := Lib.hid cX
        clear hd hA hC nxA nxC cX
        go_upto_region 9 with (at_builtin; (refine wpList_append_lies _ rfl _ _ 22 rfl y3.heap.size 3 i0 (.int .i64 0) 1 8 Tryz.underlying22 hiS hz0 hz1 hz2 rfl (by decide) _ A.length (A.map (Value.int .i64)) rfl (h4.later ((Below.refl _ _).alloc (Nat.le_refl _) _)) ⟨X0.heap.size, 0, none⟩ 1 1 [.int .i64 (k : Int)] rfl rfl (cell_one9 _ _ _) (by simp [Value.oneCell']) (by omega) (by unfold maxLen; omega) (by omega) (by simp; omega) _ rfl ?_; intro g4 cp4 w4 hown4 hgrow4 hg4 hlt4))
        obtain ⟨hTw4, hb4⟩ := hTw.push (C := [(k : Int)]) (by simp) hown4 hgrow4 hg4 hsz
        have hb4' : Below y3.heap.size y3 w4 := hb0.trans hb4
        have hsz4 := hb4'.size
        have BX4 : Below V.heap.size V w4 := B3.trans (hb4'.mono B3.size)
        have cs4 := CX.out _ BX4
        have h5 := hTw4.2.1
        clear c0 c1 hown4 hgrow4 hg4 hlt4 h4
        obtain ⟨c0, c1, _, _⟩ := (R0.later BX4).two
        go_wp2_with (at_builtin; refine wpList_append_lies _ rfl _ _ 22 rfl y3.heap.size 3 i0 (.int .i64 0) 1 8 Tryz.underlying22 hiS hz0 hz1 hz2 rfl (by decide) _ C.length (C.map (Value.int .i64)) rfl (h5.later ((Below.refl _ _).alloc (Nat.le_refl _) _)) ⟨w4.heap.size, 0, none⟩ 2 2 [.int .i64 0, .int .i64 d] rfl rfl (cell_two9 _ _ _ _) (by simp [Value.oneCell']) (by omega) (by unfold maxLen; omega) (by omega) (by simp; omega) _ rfl ?_; intro g5 cp5 w5 hown5 hgrow5 hg5 hlt5)
        obtain ⟨hTw5, hb5⟩ := hTw4.swap.push (C := [0, d]) (by simp) hown5 hgrow5 hg5 hsz4
        clear hown5 hgrow5 hg5 hlt5
        go_roundw
        case rel => exact ⟨k + 1, by go_num, by omega, by rw [NXA.out, NXC.out]; exact hTw5.swap, hb4'.trans hb5⟩
        case measure => simp [intOf]; omega
      · obtain rfl : k = s.length := by omega
        have hltI : ¬ (s.length : Int) < (s.length : Int) := by omega
        obtain ⟨a4, ca4, AS, nS⟩ := (show ResS y3.heap.size X0 _ (upS s.length) from ⟨hTw.1, upS_wid (by omega)⟩).arg2
        obtain ⟨a5, ca5, AC, nC⟩ := (show ResS y3.heap.size X0 _ (cutK s s.length) from ⟨hTw.2.1, cutK_wid (wid_of9 HOK.out.ok) _⟩).arg2
        obtain rfl := AS.is
        obtain rfl := AC.is
        have HAS := Lib.hid AS
        have HAC := Lib.hid AC
        have NS := Lib.hid nS
        have NC := Lib.hid nC
        have HB0 := Lib.hid hb0
        clear hTw HTw AS AC nS nC c1
        obtain ⟨o0, o1, _, _⟩ := (O3.later hb0).two
        go_wp2_with fail
        skip
        skip
        refine (transU (n := 1048576) (HTO.out.later HB0.out) HM.out HLQ.out HL.out (by omega) (HAS.out) NS.out).mono ?_
        rintro e z1 ⟨⟨ra1, rb1, rca1, rcb1, rfl, TT1⟩, hz1⟩
        obtain ⟨q1, hq1⟩ : ∃ Y, z1.alloc (.cells #[.slice ra1 s.length rca1, .slice rb1 LL.length rcb1] 26) = Y := ⟨_, rfl⟩
        have R1 : Row q1 z1.heap.size 26 #[.slice ra1 s.length rca1, .slice rb1 LL.length rcb1] := by rw [← hq1]; exact Row.new _ _ _
        have b1 : Below z1.heap.size z1 q1 := by rw [← hq1]; exact (Below.refl _ _).alloc (Nat.le_refl _) _
        have D1 : Below X0.heap.size X0 q1 := hz1.trans (b1.mono hz1.size)
        have HQ1 : Hid (Below y3.heap.size y3 q1) := Lib.hid (HB0.out.trans (D1.mono HB0.out.size))
        have HTT1 : Hid (ResT X0.heap.size z1 (.agg #[.slice ra1 s.length rca1, .slice rb1 LL.length rcb1]) s LL 1048578) := Lib.hid TT1
        have HZ1 := Lib.hid hz1
        clear o0 o1 TT1 hz1
        obtain ⟨o0, o1, _, _⟩ := (O3.later HQ1.out).two
        go_wp2_with fail
        (try rw [hq1])
        clear hq1
        refine (reshU (n := 1048576) (HTO.out.later HQ1.out) HM.out HLQ.out HL.out (by omega) (HTO.out.later HQ1.out).sh (HTO.out.later HQ1.out).nila).mono ?_
        rintro e z2 ⟨⟨ra2, rb2, rca2, rcb2, rfl, TT2⟩, hz2⟩
        obtain ⟨q2, hq2⟩ : ∃ Y, z2.alloc (.cells #[.slice ra2 s.length rca2, .slice rb2 LL.length rcb2] 26) = Y := ⟨_, rfl⟩
        have R2 : Row q2 z2.heap.size 26 #[.slice ra2 s.length rca2, .slice rb2 LL.length rcb2] := by rw [← hq2]; exact Row.new _ _ _
        have b2 : Below z2.heap.size z2 q2 := by rw [← hq2]; exact (Below.refl _ _).alloc (Nat.le_refl _) _
        have D2 : Below q1.heap.size q1 q2 := hz2.trans (b2.mono hz2.size)
        have HQ2 : Hid (Below y3.heap.size y3 q2) := Lib.hid (HQ1.out.trans (D2.mono HQ1.out.size))
        have HTT2 : Hid (ResT q1.heap.size z2 (.agg #[.slice ra2 s.length rca2, .slice rb2 LL.length rcb2]) s LL 1048578) := Lib.hid TT2
        have HZ2 := Lib.hid hz2
        clear o0 o1 TT2 hz2
        obtain ⟨o0, o1, _, _⟩ := (O3.later HQ2.out).two
        go_wp2_with fail
        (try rw [hq2])
        clear hq2
        refine (broadU (n := 1048576) (HTO.out.later HQ2.out) HM.out HLQ.out HL.out (by omega) (HTO.out.later HQ2.out).sh (HTO.out.later HQ2.out).nila).mono ?_
        rintro e z3 ⟨⟨ra3, rb3, rca3, rcb3, rfl, TT3⟩, hz3⟩
        obtain ⟨q3, hq3⟩ : ∃ Y, z3.alloc (.cells #[.slice ra3 s.length rca3, .slice rb3 LL.length rcb3] 26) = Y := ⟨_, rfl⟩
        have R3 : Row q3 z3.heap.size 26 #[.slice ra3 s.length rca3, .slice rb3 LL.length rcb3] := by rw [← hq3]; exact Row.new _ _ _
        have b3 : Below z3.heap.size z3 q3 := by rw [← hq3]; exact (Below.refl _ _).alloc (Nat.le_refl _) _
        have D3 : Below q2.heap.size q2 q3 := hz3.trans (b3.mono hz3.size)
        have HQ3 : Hid (Below y3.heap.size y3 q3) := Lib.hid (HQ2.out.trans (D3.mono HQ2.out.size))
        have HTT3 : Hid (ResT q2.heap.size z3 (.agg #[.slice ra3 s.length rca3, .slice rb3 LL.length rcb3]) s LL 1048578) := Lib.hid TT3
        have HZ3 := Lib.hid hz3
        clear o0 o1 TT3 hz3
        obtain ⟨o0, o1, _, _⟩ := (O3.later HQ3.out).two
        go_wp2_with fail
        (try rw [hq3])
        clear hq3
        refine (sliceU (n := 1048576) (HTO.out.later HQ3.out) HM.out HLQ.out HL.out (by omega) (HAC.out.later ((D1.trans (D2.mono D1.size)).trans (D3.mono (D1.trans (D2.mono D1.size)).size))) NC.out).mono ?_
        rintro e z4 ⟨⟨ra4, rb4, rca4, rcb4, rfl, TT4⟩, hz4⟩
        obtain ⟨q4, hq4⟩ : ∃ Y, z4.alloc (.cells #[.slice ra4 s.length rca4, .slice rb4 LL.length rcb4] 26) = Y := ⟨_, rfl⟩
        have R4 : Row q4 z4.heap.size 26 #[.slice ra4 s.length rca4, .slice rb4 LL.length rcb4] := by rw [← hq4]; exact Row.new _ _ _
        have b4 : Below z4.heap.size z4 q4 := by rw [← hq4]; exact (Below.refl _ _).alloc (Nat.le_refl _) _
        have D4 : Below q3.heap.size q3 q4 := hz4.trans (b4.mono hz4.size)
        have HQ4 : Hid (Below y3.heap.size y3 q4) := Lib.hid (HQ3.out.trans (D4.mono HQ3.out.size))
        have HTT4 : Hid (ResT q3.heap.size z4 (.agg #[.slice ra4 s.length rca4, .slice rb4 LL.length rcb4]) s LL 1048578) := Lib.hid TT4
        have HZ4 := Lib.hid hz4
        clear o0 o1 TT4 hz4
        obtain ⟨o0, o1, _, _⟩ := (O3.later HQ4.out).two
        have hqn : (cutK s s.length).length = 2 * s.length := cutK_len _ _
        have HQN := Lib.hid hqn
        obtain ⟨kk, hkk⟩ : ∃ n, (cutK s s.length).length = n := ⟨_, rfl⟩
        have HKK : Hid (kk = 2 * s.length) := Lib.hid (by rw [← hkk]; exact hqn)
        have hk8 : kk ≤ 8 := by omega
        have hmk := make_runS kk (by omega)
        clear hqn HQN
        go_upto_region 14 with fail
        (try rw [hq4])
        (try rw [hkk])
        clear hq4 hkk
        go_cut [15, 16] (fun s15 s16 wx => ∃ (h : Nat) (ra rb : Option Addr) (rca rcb : Nat), s15 = .pointer (some ⟨h, 0, none⟩) ∧ s16 = .int .i64 0 ∧ Row wx h 26 #[.slice ra s.length rca, .slice rb LL.length rcb] ∧ ResT q4.heap.size wx (.agg #[.slice ra s.length rca, .slice rb LL.length rcb]) s LL 1048578 ∧ Below q4.heap.size q4 wx)
        case first =>
          have mk4 : ∀ X, Below q4.heap.size q4 X → X.cell? ⟨y2.heap.size, 0, none⟩ = some (.slice p2 s.length cx2) ∧ X.cell? ⟨y2.heap.size, 1, none⟩ = some (.slice r2 qs.length cy2) := fun X h => by
            obtain ⟨e0, e1, _⟩ := (O3.later (HQ4.out.trans (h.mono HQ4.out.size))).two
            exact ⟨e0, e1⟩
          clear o0 o1
          refine wp_region_held_drew (S := fun X => X.cell? ⟨y2.heap.size, 0, none⟩ = some (.slice p2 s.length cx2) ∧ X.cell? ⟨y2.heap.size, 1, none⟩ = some (.slice r2 qs.length cy2)) (by kernel_rfl) (mk4 _ ((Below.refl q4.heap.size q4).drew)) (fun hHeld => ?_)
          refine wpAnyH_take (i := 0) (v := ?vT1_0) rfl (by kernel_rfl) (by kernel_rfl) (by kernel_rfl) (fun _ _ _ h => h) (Or.inl ⟨by rfl, ?hT1_0⟩) (by assumption) ?rT1_0
          case hT1_0 =>
            intro w hSw
            try dsimp only at hSw
            go_simp
            try with_reducible rfl
          try simp only [Act.put, List.getElem_toArray, List.getElem_cons_succ, List.getElem_cons_zero, List.setIfInBounds_toArray, List.set_cons_zero, List.set_cons_succ]
          refine wpAnyH_take (i := 1) (v := ?vT2_1) rfl (by kernel_rfl) (by kernel_rfl) (by kernel_rfl) (fun _ _ _ h => h) (Or.inl ⟨by rfl, ?hT2_1⟩) (by assumption) ?rT2_1
          case hT2_1 =>
            intro w hSw
            try dsimp only at hSw
            go_simp
            try with_reducible rfl
          try simp only [Act.put, List.getElem_toArray, List.getElem_cons_succ, List.getElem_cons_zero, List.setIfInBounds_toArray, List.set_cons_zero, List.set_cons_succ]
          refine wpAnyH_take (i := 2) (v := ?vT3_2) rfl (by kernel_rfl) (by kernel_rfl) (by kernel_rfl) (fun _ _ _ h => h) (Or.inl ⟨by rfl, ?hT3_2⟩) (by assumption) ?rT3_2
          case hT3_2 =>
            intro w hSw
            try dsimp only at hSw
            go_simp
            try with_reducible rfl
          try simp only [Act.put, List.getElem_toArray, List.getElem_cons_succ, List.getElem_cons_zero, List.setIfInBounds_toArray, List.set_cons_zero, List.set_cons_succ]
          obtain ⟨K0, hV0⟩ : ∃ Y, q4.drew = Y := ⟨_, rfl⟩
          rw [hV0] at hHeld
          rw [hV0]
          have hb0 : Below q4.heap.size q4 K0 := by rw [← hV0]; exact (Below.refl _ _).drew
          have hs0 : q4.heap.size ≤ K0.heap.size := hb0.size
          clear hV0
          refine wpAnyH_ready (rs := [3, 8]) (by kernel_rfl) (by simp) ?_
          refine AllReadyH.cons rfl (fun K hK => ?o4_3) (AllReadyH.cons rfl (fun K hK => ?o4_8) AllReadyH.nil)
          case o4_3 =>
            go_simp
            obtain ⟨K5, hX5⟩ : ∃ Y, K0.alloc (.cells (madeCells #[.int .i64 0] kk) 3) = Y := ⟨_, rfl⟩
            have hc5 : Below K0.heap.size K0 K5 := by rw [← hX5]; exact (Below.refl _ _).alloc (Nat.le_refl _) _
            have zf5 : ResS K0.heap.size K5 (.slice (some ⟨K0.heap.size, 0, none⟩) kk kk) (List.replicate kk 0) := by rw [← hX5]; exact zero9 _ _ _ (Nat.le_refl _) (by omega)
            rw [hX5]
            clear hX5
            obtain ⟨ZE5, ZA5, ZN5⟩ := zf5.at_
            clear ZE5
            have ZN5' := Lib.hid ZN5
            clear zf5 ZN5
            have hbK5 : Below q4.heap.size q4 K5 := hb0.trans (hc5.mono hs0)
            have hsK5 : q4.heap.size ≤ K5.heap.size := hbK5.size
            refine hK.out _ _ (mk4 _ hbK5) (fun hHeld2 => ?_)
            clear hK K hHeld
            have hHeld := hHeld2
            clear hHeld2
            try simp only [Act.put, List.getElem_toArray, List.getElem_cons_succ, List.getElem_cons_zero, List.setIfInBounds_toArray, List.set_cons_zero, List.set_cons_succ]
            refine wpAnyH_ready (rs := [4, 8]) (by kernel_rfl) (by simp) ?_
            refine AllReadyH.cons rfl (fun K hK => ?o6_4) (AllReadyH.cons rfl (fun K hK => ?o6_8) AllReadyH.nil)
            case o6_4 =>
              go_simp
              refine (padU (n := 1048576) (HTO.out.later (HQ4.out.trans ((hbK5 : Below q4.heap.size q4 _).mono HQ4.out.size))) HM.out HLQ.out HL.out (by omega) HKK.out ZA5 (fun h => by cases h)).mono ?_
              rintro e K7 ⟨⟨ra7, rb7, rca7, rcb7, rfl, TT7⟩, hc7⟩
              have TT7' := TT7.mono hsK5
              clear TT7
              go_simp
              have hbK7 : Below q4.heap.size q4 K7 := hbK5.trans (hc7.mono hsK5)
              have hsK7 : q4.heap.size ≤ K7.heap.size := hbK7.size
              have zzK7 := ZA5.later hc7
              refine hK.out _ _ (mk4 _ hbK7) (fun hHeld2 => ?_)
              clear hK K hHeld
              have hHeld := hHeld2
              clear hHeld2
              try simp only [Act.put, List.getElem_toArray, List.getElem_cons_succ, List.getElem_cons_zero, List.setIfInBounds_toArray, List.set_cons_zero, List.set_cons_succ]
              refine wpAnyH_take (i := 5) (v := ?vT8_5) rfl (by kernel_rfl) (by kernel_rfl) (by kernel_rfl) (fun _ _ _ h => h) (Or.inl ⟨by rfl, ?hT8_5⟩) (by assumption) ?rT8_5
              case hT8_5 =>
                intro w hSw
                try dsimp only at hSw
                go_simp
                try with_reducible rfl
              try simp only [Act.put, List.getElem_toArray, List.getElem_cons_succ, List.getElem_cons_zero, List.setIfInBounds_toArray, List.set_cons_zero, List.set_cons_succ]
              refine wpAnyH_take (i := 6) (v := ?vT9_6) rfl (by kernel_rfl) (by kernel_rfl) (by kernel_rfl) (fun _ _ _ h => h) (Or.inl ⟨by rfl, ?hT9_6⟩) (by assumption) ?rT9_6
              case hT9_6 =>
                intro w hSw
                try dsimp only at hSw
                go_simp
                try with_reducible rfl
              try simp only [Act.put, List.getElem_toArray, List.getElem_cons_succ, List.getElem_cons_zero, List.setIfInBounds_toArray, List.set_cons_zero, List.set_cons_succ]
              refine wpAnyH_take (i := 7) (v := ?vT10_7) rfl (by kernel_rfl) (by kernel_rfl) (by kernel_rfl) (fun _ _ _ h => h) (Or.inl ⟨by rfl, ?hT10_7⟩) (by assumption) ?rT10_7
              case hT10_7 =>
                intro w hSw
                try dsimp only at hSw
                go_simp
                try with_reducible rfl
              try simp only [Act.put, List.getElem_toArray, List.getElem_cons_succ, List.getElem_cons_zero, List.setIfInBounds_toArray, List.set_cons_zero, List.set_cons_succ]
              refine wpAnyH_ready (rs := [8]) (by kernel_rfl) (by simp) ?_
              refine AllReadyH.cons rfl (fun K hK => ?o11_8) AllReadyH.nil
              go_simp
              refine afterAlloc (fun K12 hc12 hl12 zn12 => ?_)
              have hbK12 : Below q4.heap.size q4 K12 := hbK7.trans (hc12.mono hsK7)
              have hsK12 : q4.heap.size ≤ K12.heap.size := hbK12.size
              have zzK12 := zzK7.later hc12
              have ttK12 := TT7'.later hc12
              refine hK.out _ _ (mk4 _ hbK12) (fun hHeld2 => ?_)
              clear hK K hHeld
              have hHeld := hHeld2
              clear hHeld2
              try simp only [Act.put, List.getElem_toArray, List.getElem_cons_succ, List.getElem_cons_zero, List.setIfInBounds_toArray, List.set_cons_zero, List.set_cons_succ]
              obtain ⟨d13_0, d13_1, d13_2, d13_3⟩ := zn12.two
              refine wpAnyH_ready (rs := [9]) (by kernel_rfl) (by simp) ?_
              refine AllReadyH.cons rfl (fun K hK => ?s13) AllReadyH.nil
              go_simp
              refine afterSet2 zn12 (fun K13 o13 zs13 => ?_)
              clear d13_0 d13_1 d13_2 d13_3
              have hbK13 : Below q4.heap.size q4 K13 := hbK12.trans (o13.below hsK7)
              have hsK13 : q4.heap.size ≤ K13.heap.size := hbK13.size
              have ttK13 := ttK12.far zn12 (by decide) (by decide) (by decide) o13.block
              refine hK.out _ _ (mk4 _ hbK13) (fun hHeld2 => ?_)
              clear hK K hHeld
              have hHeld := hHeld2
              clear hHeld2
              try simp only [Act.put, List.getElem_toArray, List.getElem_cons_succ, List.getElem_cons_zero, List.setIfInBounds_toArray, List.set_cons_zero, List.set_cons_succ]
              refine wpAnyH_ready (rs := [10]) (by kernel_rfl) (by simp) ?_
              refine AllReadyH.cons rfl (fun K hK => ?sD14_10) AllReadyH.nil
              go_simp
              refine hK.out _ _ ?kD14_10 (fun hHeld => ?mD14_10)
              case kD14_10 =>
                try dsimp only
                exact mk4 _ hbK13
              clear hK K
              try simp only [Act.put, List.getElem_toArray, List.getElem_cons_succ, List.getElem_cons_zero, List.setIfInBounds_toArray, List.set_cons_zero, List.set_cons_succ]
              refine wpAnyH_done (by kernel_rfl) ?_ _
              (try dsimp only [Straight])
              (try go_wp2_with fail)
              go_meet
              exact ⟨_, ra7, rb7, rca7, rcb7, rfl, rfl, zs13, ttK13, hbK13⟩
            case o6_8 =>
              go_simp
              refine afterAlloc (fun K15 hc15 hl15 zn15 => ?_)
              have hbK15 : Below q4.heap.size q4 K15 := hbK5.trans (hc15.mono hsK5)
              have hsK15 : q4.heap.size ≤ K15.heap.size := hbK15.size
              have zzK15 := ZA5.later hc15
              refine hK.out _ _ (mk4 _ hbK15) (fun hHeld2 => ?_)
              clear hK K hHeld
              have hHeld := hHeld2
              clear hHeld2
              try simp only [Act.put, List.getElem_toArray, List.getElem_cons_succ, List.getElem_cons_zero, List.setIfInBounds_toArray, List.set_cons_zero, List.set_cons_succ]
              refine wpAnyH_ready (rs := [4]) (by kernel_rfl) (by simp) ?_
              refine AllReadyH.cons rfl (fun K hK => ?o16_4) AllReadyH.nil
              go_simp
              refine (padU (n := 1048576) (HTO.out.later (HQ4.out.trans ((hbK15 : Below q4.heap.size q4 _).mono HQ4.out.size))) HM.out HLQ.out HL.out (by omega) HKK.out zzK15 (fun h => by cases h)).mono ?_
              rintro e K17 ⟨⟨ra17, rb17, rca17, rcb17, rfl, TT17⟩, hc17⟩
              have TT17' := TT17.mono hsK15
              clear TT17
              go_simp
              have hbK17 : Below q4.heap.size q4 K17 := hbK15.trans (hc17.mono hsK15)
              have hsK17 : q4.heap.size ≤ K17.heap.size := hbK17.size
              have zzK17 := zzK15.later hc17
              have zalK17 := zn15.later hc17
              have ltalK17 := zalK17.lt
              refine hK.out _ _ (mk4 _ hbK17) (fun hHeld2 => ?_)
              clear hK K hHeld
              have hHeld := hHeld2
              clear hHeld2
              try simp only [Act.put, List.getElem_toArray, List.getElem_cons_succ, List.getElem_cons_zero, List.setIfInBounds_toArray, List.set_cons_zero, List.set_cons_succ]
              refine wpAnyH_take (i := 5) (v := ?vT18_5) rfl (by kernel_rfl) (by kernel_rfl) (by kernel_rfl) (fun _ _ _ h => h) (Or.inl ⟨by rfl, ?hT18_5⟩) (by assumption) ?rT18_5
              case hT18_5 =>
                intro w hSw
                try dsimp only at hSw
                go_simp
                try with_reducible rfl
              try simp only [Act.put, List.getElem_toArray, List.getElem_cons_succ, List.getElem_cons_zero, List.setIfInBounds_toArray, List.set_cons_zero, List.set_cons_succ]
              refine wpAnyH_take (i := 6) (v := ?vT19_6) rfl (by kernel_rfl) (by kernel_rfl) (by kernel_rfl) (fun _ _ _ h => h) (Or.inl ⟨by rfl, ?hT19_6⟩) (by assumption) ?rT19_6
              case hT19_6 =>
                intro w hSw
                try dsimp only at hSw
                go_simp
                try with_reducible rfl
              try simp only [Act.put, List.getElem_toArray, List.getElem_cons_succ, List.getElem_cons_zero, List.setIfInBounds_toArray, List.set_cons_zero, List.set_cons_succ]
              refine wpAnyH_take (i := 7) (v := ?vT20_7) rfl (by kernel_rfl) (by kernel_rfl) (by kernel_rfl) (fun _ _ _ h => h) (Or.inl ⟨by rfl, ?hT20_7⟩) (by assumption) ?rT20_7
              case hT20_7 =>
                intro w hSw
                try dsimp only at hSw
                go_simp
                try with_reducible rfl
              try simp only [Act.put, List.getElem_toArray, List.getElem_cons_succ, List.getElem_cons_zero, List.setIfInBounds_toArray, List.set_cons_zero, List.set_cons_succ]
              obtain ⟨d21_0, d21_1, d21_2, d21_3⟩ := zalK17.two
              refine wpAnyH_ready (rs := [9]) (by kernel_rfl) (by simp) ?_
              refine AllReadyH.cons rfl (fun K hK => ?s21) AllReadyH.nil
              go_simp
              refine afterSet2 zalK17 (fun K21 o21 zs21 => ?_)
              clear d21_0 d21_1 d21_2 d21_3
              have hbK21 : Below q4.heap.size q4 K21 := hbK17.trans (o21.below hsK5)
              have hsK21 : q4.heap.size ≤ K21.heap.size := hbK21.size
              have ttK21 := TT17'.far zalK17 (by decide) (by decide) (by decide) o21.block
              refine hK.out _ _ (mk4 _ hbK21) (fun hHeld2 => ?_)
              clear hK K hHeld
              have hHeld := hHeld2
              clear hHeld2
              try simp only [Act.put, List.getElem_toArray, List.getElem_cons_succ, List.getElem_cons_zero, List.setIfInBounds_toArray, List.set_cons_zero, List.set_cons_succ]
              refine wpAnyH_ready (rs := [10]) (by kernel_rfl) (by simp) ?_
              refine AllReadyH.cons rfl (fun K hK => ?sD22_10) AllReadyH.nil
              go_simp
              refine hK.out _ _ ?kD22_10 (fun hHeld => ?mD22_10)
              case kD22_10 =>
                try dsimp only
                exact mk4 _ hbK21
              clear hK K
              try simp only [Act.put, List.getElem_toArray, List.getElem_cons_succ, List.getElem_cons_zero, List.setIfInBounds_toArray, List.set_cons_zero, List.set_cons_succ]
              refine wpAnyH_done (by kernel_rfl) ?_ _
              (try dsimp only [Straight])
              (try go_wp2_with fail)
              go_meet
              exact ⟨_, ra17, rb17, rca17, rcb17, rfl, rfl, zs21, ttK21, hbK21⟩
          case o4_8 =>
            go_simp
            refine afterAlloc (fun K23 hc23 hl23 zn23 => ?_)
            have hbK23 : Below q4.heap.size q4 K23 := hb0.trans (hc23.mono hs0)
            have hsK23 : q4.heap.size ≤ K23.heap.size := hbK23.size
            refine hK.out _ _ (mk4 _ hbK23) (fun hHeld2 => ?_)
            clear hK K hHeld
            have hHeld := hHeld2
            clear hHeld2
            try simp only [Act.put, List.getElem_toArray, List.getElem_cons_succ, List.getElem_cons_zero, List.setIfInBounds_toArray, List.set_cons_zero, List.set_cons_succ]
            refine wpAnyH_ready (rs := [3]) (by kernel_rfl) (by simp) ?_
            refine AllReadyH.cons rfl (fun K hK => ?o24_3) AllReadyH.nil
            go_simp
            obtain ⟨K25, hX25⟩ : ∃ Y, K23.alloc (.cells (madeCells #[.int .i64 0] kk) 3) = Y := ⟨_, rfl⟩
            have hc25 : Below K23.heap.size K23 K25 := by rw [← hX25]; exact (Below.refl _ _).alloc (Nat.le_refl _) _
            have zf25 : ResS K23.heap.size K25 (.slice (some ⟨K23.heap.size, 0, none⟩) kk kk) (List.replicate kk 0) := by rw [← hX25]; exact zero9 _ _ _ (Nat.le_refl _) (by omega)
            rw [hX25]
            clear hX25
            obtain ⟨ZE25, ZA25, ZN25⟩ := zf25.at_
            clear ZE25
            have ZN25' := Lib.hid ZN25
            clear zf25 ZN25
            have hbK25 : Below q4.heap.size q4 K25 := hbK23.trans (hc25.mono hsK23)
            have hsK25 : q4.heap.size ≤ K25.heap.size := hbK25.size
            have zalK25 := zn23.later hc25
            have ltalK25 := zalK25.lt
            refine hK.out _ _ (mk4 _ hbK25) (fun hHeld2 => ?_)
            clear hK K hHeld
            have hHeld := hHeld2
            clear hHeld2
            try simp only [Act.put, List.getElem_toArray, List.getElem_cons_succ, List.getElem_cons_zero, List.setIfInBounds_toArray, List.set_cons_zero, List.set_cons_succ]
            refine wpAnyH_ready (rs := [4]) (by kernel_rfl) (by simp) ?_
            refine AllReadyH.cons rfl (fun K hK => ?o26_4) AllReadyH.nil
            go_simp
            refine (padU (n := 1048576) (HTO.out.later (HQ4.out.trans ((hbK25 : Below q4.heap.size q4 _).mono HQ4.out.size))) HM.out HLQ.out HL.out (by omega) HKK.out ZA25 (fun h => by cases h)).mono ?_
            rintro e K27 ⟨⟨ra27, rb27, rca27, rcb27, rfl, TT27⟩, hc27⟩
            have TT27' := TT27.mono hsK25
            clear TT27
            go_simp
            have hbK27 : Below q4.heap.size q4 K27 := hbK25.trans (hc27.mono hsK25)
            have hsK27 : q4.heap.size ≤ K27.heap.size := hbK27.size
            have zzK27 := ZA25.later hc27
            have zalK27 := zalK25.later hc27
            have ltalK27 := zalK27.lt
            refine hK.out _ _ (mk4 _ hbK27) (fun hHeld2 => ?_)
            clear hK K hHeld
            have hHeld := hHeld2
            clear hHeld2
            try simp only [Act.put, List.getElem_toArray, List.getElem_cons_succ, List.getElem_cons_zero, List.setIfInBounds_toArray, List.set_cons_zero, List.set_cons_succ]
            refine wpAnyH_take (i := 5) (v := ?vT28_5) rfl (by kernel_rfl) (by kernel_rfl) (by kernel_rfl) (fun _ _ _ h => h) (Or.inl ⟨by rfl, ?hT28_5⟩) (by assumption) ?rT28_5
            case hT28_5 =>
              intro w hSw
              try dsimp only at hSw
              go_simp
              try with_reducible rfl
            try simp only [Act.put, List.getElem_toArray, List.getElem_cons_succ, List.getElem_cons_zero, List.setIfInBounds_toArray, List.set_cons_zero, List.set_cons_succ]
            refine wpAnyH_take (i := 6) (v := ?vT29_6) rfl (by kernel_rfl) (by kernel_rfl) (by kernel_rfl) (fun _ _ _ h => h) (Or.inl ⟨by rfl, ?hT29_6⟩) (by assumption) ?rT29_6
            case hT29_6 =>
              intro w hSw
              try dsimp only at hSw
              go_simp
              try with_reducible rfl
            try simp only [Act.put, List.getElem_toArray, List.getElem_cons_succ, List.getElem_cons_zero, List.setIfInBounds_toArray, List.set_cons_zero, List.set_cons_succ]
            refine wpAnyH_take (i := 7) (v := ?vT30_7) rfl (by kernel_rfl) (by kernel_rfl) (by kernel_rfl) (fun _ _ _ h => h) (Or.inl ⟨by rfl, ?hT30_7⟩) (by assumption) ?rT30_7
            case hT30_7 =>
              intro w hSw
              try dsimp only at hSw
              go_simp
              try with_reducible rfl
            try simp only [Act.put, List.getElem_toArray, List.getElem_cons_succ, List.getElem_cons_zero, List.setIfInBounds_toArray, List.set_cons_zero, List.set_cons_succ]
            obtain ⟨d31_0, d31_1, d31_2, d31_3⟩ := zalK27.two
            refine wpAnyH_ready (rs := [9]) (by kernel_rfl) (by simp) ?_
            refine AllReadyH.cons rfl (fun K hK => ?s31) AllReadyH.nil
            go_simp
            refine afterSet2 zalK27 (fun K31 o31 zs31 => ?_)
            clear d31_0 d31_1 d31_2 d31_3
            have hbK31 : Below q4.heap.size q4 K31 := hbK27.trans (o31.below hs0)
            have hsK31 : q4.heap.size ≤ K31.heap.size := hbK31.size
            have ttK31 := TT27'.far zalK27 (by decide) (by decide) (by decide) o31.block
            refine hK.out _ _ (mk4 _ hbK31) (fun hHeld2 => ?_)
            clear hK K hHeld
            have hHeld := hHeld2
            clear hHeld2
            try simp only [Act.put, List.getElem_toArray, List.getElem_cons_succ, List.getElem_cons_zero, List.setIfInBounds_toArray, List.set_cons_zero, List.set_cons_succ]
            refine wpAnyH_ready (rs := [10]) (by kernel_rfl) (by simp) ?_
            refine AllReadyH.cons rfl (fun K hK => ?sD32_10) AllReadyH.nil
            go_simp
            refine hK.out _ _ ?kD32_10 (fun hHeld => ?mD32_10)
            case kD32_10 =>
              try dsimp only
              exact mk4 _ hbK31
            clear hK K
            try simp only [Act.put, List.getElem_toArray, List.getElem_cons_succ, List.getElem_cons_zero, List.setIfInBounds_toArray, List.set_cons_zero, List.set_cons_succ]
            refine wpAnyH_done (by kernel_rfl) ?_ _
            (try dsimp only [Straight])
            (try go_wp2_with fail)
            go_meet
            exact ⟨_, ra27, rb27, rca27, rcb27, rfl, rfl, zs31, ttK31, hbK31⟩
        case rest =>
          rename World => q5
          obtain ⟨h5, ra5, rb5, rca5, rcb5, rfl, rfl, R5, TT5, D5⟩ := hcut
          have HT5 : Hid (ResT q4.heap.size q5 (.agg #[.slice ra5 s.length rca5, .slice rb5 LL.length rcb5]) s LL 1048578) := Lib.hid TT5
          have HQ5 : Hid (Below y3.heap.size y3 q5) := Lib.hid (HQ4.out.trans (D5.mono HQ4.out.size))
          have e1 := (R1.later (((D2.trans (D3.mono D2.size)).trans (D4.mono (D2.trans (D3.mono D2.size)).size)).trans (D5.mono ((D2.trans (D3.mono D2.size)).trans (D4.mono (D2.trans (D3.mono D2.size)).size)).size))).two
          have e2 := (R2.later ((D3.trans (D4.mono D3.size)).trans (D5.mono (D3.trans (D4.mono D3.size)).size))).two
          have e3 := (R3.later (D4.trans (D5.mono D4.size))).two
          have e4 := (R4.later D5).two
          have e5 := R5.two
          obtain ⟨e10, e11, _, _⟩ := e1
          obtain ⟨e20, e21, _, _⟩ := e2
          obtain ⟨e30, e31, _, _⟩ := e3
          obtain ⟨e40, e41, _, _⟩ := e4
          obtain ⟨e50, e51, _, _⟩ := e5
          obtain ⟨cs, hcs⟩ : ∃ c : Array Value, #[.slice ra1 s.length rca1, .slice rb1 LL.length rcb1, .slice ra2 s.length rca2, .slice rb2 LL.length rcb2, .slice ra3 s.length rca3, .slice rb3 LL.length rcb3, .slice ra4 s.length rca4, .slice rb4 LL.length rcb4, .slice ra5 s.length rca5, .slice rb5 LL.length rcb5] = c := ⟨_, rfl⟩
          obtain ⟨Z, hZ⟩ : ∃ Y, q5.alloc (.cells cs 26) = Y := ⟨_, rfl⟩
          have RZ : Row Z q5.heap.size 26 cs := by rw [← hZ]; exact Row.new _ _ _
          have bZ : Below q5.heap.size q5 Z := by rw [← hZ]; exact (Below.refl _ _).alloc (Nat.le_refl _) _
          have s1 := D1.size
          have s2 := D2.size
          have s3 := D3.size
          have s4 := D4.size
          have s5 := D5.size
          have t1 := b1.size
          have t2 := b2.size
          have t3 := b3.size
          have t4 := b4.size
          have u1 := HZ1.out.size
          have u2 := HZ2.out.size
          have u3 := HZ3.out.size
          have u4 := HZ4.out.size
          obtain ⟨B, hB⟩ : ∃ B : Nat → Nat, (∀ n, B n = [X0.heap.size, q1.heap.size, q2.heap.size, q3.heap.size, q4.heap.size, q5.heap.size].getD n 0) := ⟨_, fun n => rfl⟩
          have hTN : ∀ n, n < 5 → ∃ (a' b' : Option Addr) (ca' cb' : Nat) (X : World), cs[n * 2]? = some (.slice a' s.length ca') ∧ cs[n * 2 + 1]? = some (.slice b' LL.length cb') ∧ ResT (B n) X (.agg #[.slice a' s.length ca', .slice b' LL.length cb']) s LL 1048578 ∧ Below X.heap.size X Z ∧ X.heap.size ≤ B (n + 1) ∧ B 0 ≤ B n ∧ B (n + 1) ≤ q5.heap.size ∧ B n ≤ X.heap.size := by
            intro n hn
            rw [← hcs]
            match n, hn with
            | 0, _ => exact ⟨_, _, _, _, z1, rfl, rfl, by rw [hB]; exact HTT1.out, (b1.trans ((((D2.trans (D3.mono D2.size)).trans (D4.mono (D2.trans (D3.mono D2.size)).size)).trans (D5.mono ((D2.trans (D3.mono D2.size)).trans (D4.mono (D2.trans (D3.mono D2.size)).size)).size)).mono b1.size)).trans (bZ.mono (by omega)), by rw [hB]; exact t1, by omega, by rw [hB]; show q1.heap.size ≤ _; omega, by rw [hB]; exact u1⟩
            | 1, _ => exact ⟨_, _, _, _, z2, rfl, rfl, by rw [hB]; exact HTT2.out, (b2.trans (((D3.trans (D4.mono D3.size)).trans (D5.mono (D3.trans (D4.mono D3.size)).size)).mono b2.size)).trans (bZ.mono (by omega)), by rw [hB]; exact t2, by rw [hB, hB]; exact s1, by rw [hB]; show q2.heap.size ≤ _; omega, by rw [hB]; exact u2⟩
            | 2, _ => exact ⟨_, _, _, _, z3, rfl, rfl, by rw [hB]; exact HTT3.out, (b3.trans ((D4.trans (D5.mono D4.size)).mono b3.size)).trans (bZ.mono (by omega)), by rw [hB]; exact t3, by rw [hB, hB]; show X0.heap.size ≤ q2.heap.size; omega, by rw [hB]; show q3.heap.size ≤ _; omega, by rw [hB]; exact u3⟩
            | 3, _ => exact ⟨_, _, _, _, z4, rfl, rfl, by rw [hB]; exact HTT4.out, (b4.trans (D5.mono b4.size)).trans (bZ.mono (by omega)), by rw [hB]; exact t4, by rw [hB, hB]; show X0.heap.size ≤ q3.heap.size; omega, by rw [hB]; show q4.heap.size ≤ _; omega, by rw [hB]; exact u4⟩
            | 4, _ => exact ⟨_, _, _, _, q5, rfl, rfl, by rw [hB]; exact HT5.out, bZ, by rw [hB]; exact Nat.le_refl _, by rw [hB, hB]; show X0.heap.size ≤ q4.heap.size; omega, by rw [hB]; exact Nat.le_refl _, by rw [hB]; exact s5⟩
          have HTN := Lib.hid hTN
          have hB0 : B 0 = X0.heap.size := hB 0
          have HQZ : Hid (Below y3.heap.size y3 Z) := Lib.hid (HQ5.out.trans (bZ.mono HQ5.out.size))
          have G0 : y3.heap.size ≤ B 0 := by rw [hB0]; exact hsz
          have HXZ : Hid (B 0 ≤ Z.heap.size) := Lib.hid (by rw [hB0]; have := bZ.size; omega)
          have HRZ := Lib.hid RZ
          obtain ⟨gl, hgl⟩ : ∃ g, q5.heap.size = g := ⟨_, rfl⟩
          clear hTN hB
          clear TT5 R1 R2 R3 R4 R5 D1 D2 D3 D4 b1 b2 b3 b4 o0 o1
          go_wp2_with fail
          (try rw [hcs])
          (try rw [hZ])
          rw [hgl] at HRZ HTN
          (try rw [hgl])
          clear e10 e11 e20 e21 e30 e31 e40 e41 e50 e51 hZ hcs RZ bZ D5 s1 s2 s3 s4 s5 t1 t2 t3 t4 u1 u2 u3 u4 hgl
          have KX : ∀ wi, Loose8 (B 0) Z wi → Below V.heap.size V wi := fun wi L => B3.trans ((HQZ.out.trans (L.1.mono G0)).mono B3.size)
          have KO : ∀ wi, Loose8 (B 0) Z wi → Below y3.heap.size y3 wi := fun wi L => HQZ.out.trans (L.1.mono G0)
          have HKX := Lib.hid KX
          have HKO := Lib.hid KO
          clear KX KO
          go_loopw [18, 19, 20, 21] (fun i _ _ _ wr => ∃ (n : Nat), i = .int .i64 (n : Int) ∧ n ≤ 5 ∧ Loose8 (B 0) Z wr ∧ Tail (B n) Z wr) (fun i _ _ _ _ => 5 - (intOf i).toNat)
          case atStart => exact ⟨0, rfl, Nat.zero_le _, Loose8.refl _ _, Tail.refl _ _⟩
          case round =>
            rename World => w1
            obtain ⟨n, rfl, hn, hJ, hTl⟩ := hrel
            by_cases hlt5 : n < 5
            · have hlt5I : (n : Int) < 5 := by omega
              obtain ⟨a', b', ca', cb', X, f0, f1, RT, hXZ, hXB, hB0n, hBgl, hBX⟩ := HTN.out n hlt5
              have HRT := Lib.hid RT
              have sZ1 := hJ.1.size
              have RT1 := (RT.later hXZ).tail hTl
              have hsame := fun Y (h : Below w1.heap.size w1 Y) => sameX9 (m := 1048576) (RT1.later h) (TX.out _ ((HKX.out _ hJ).trans (h.mono (HKX.out _ hJ).size))) HLQ.out HL.out (by omega) (by omega) (by omega) (by omega)
              have LX : ∀ wi, Loose8 (B 0) Z wi → Loose8 (B 0) X wi := fun wi L => (Loose8.of hXZ (by omega)).trans L
              have kA : ∀ wi, Tail (B (n + 1)) Z wi → wi.cell? ⟨gl, n * 2, none⟩ = some (.slice a' s.length ca') ∧ wi.cell? ⟨gl, n * 2 + 1, none⟩ = some (.slice b' LL.length cb') := fun wi h => by
                have R := h.row HRZ.out hBgl
                exact ⟨(R.cell _).trans f0, (R.cell _).trans f1⟩
              have hBn : B n ≤ B (n + 1) := by omega
              have kB : ∀ wi, Below w1.heap.size w1 wi → (wi.cell? ⟨gl, n * 2, none⟩ = some (.slice a' s.length ca') ∧ wi.cell? ⟨gl, n * 2 + 1, none⟩ = some (.slice b' LL.length cb')) ∧ wi.cell? ⟨W.heap.size, 0, none⟩ = some (.slice a s.length ca) ∧ wi.cell? ⟨W.heap.size, 1, none⟩ = some (.slice b qs.length cb) := fun wi h => by
                have e := kA wi ((hTl.mono hBn).trans sZ1 (Tail.of h))
                obtain ⟨g0, g1, _⟩ := (R0.later ((HKX.out _ hJ).trans (h.mono (HKX.out _ hJ).size))).two
                exact ⟨e, g0, g1⟩
              have HKA := Lib.hid kA
              have HLX := Lib.hid LX
              have HJ1 := Lib.hid hJ
              have HT1 := Lib.hid hTl
              clear RT RT1 LX f0 f1 kA
              go_wp2_with fail
              refine wp_region_held_drew (S := fun X => (X.cell? ⟨gl, n * 2, none⟩ = some (.slice a' s.length ca') ∧ X.cell? ⟨gl, n * 2 + 1, none⟩ = some (.slice b' LL.length cb')) ∧ X.cell? ⟨W.heap.size, 0, none⟩ = some (.slice a s.length ca) ∧ X.cell? ⟨W.heap.size, 1, none⟩ = some (.slice b qs.length cb)) (by kernel_rfl) (kB _ ((Below.refl w1.heap.size w1).drew)) (fun hHeld => ?_)
              refine wpAnyH_take (i := 0) (v := ?vS0) rfl (by kernel_rfl) (by kernel_rfl) (by kernel_rfl) (fun _ _ _ h => h) (Or.inl ⟨by rfl, ?hS0⟩) (by assumption) ?rS0
              case hS0 =>
                intro w hSw
                try dsimp only at hSw
                go_simp
                try with_reducible rfl
              try simp only [Act.put, List.getElem_toArray, List.getElem_cons_succ, List.getElem_cons_zero, List.setIfInBounds_toArray, List.set_cons_zero, List.set_cons_succ]
              refine wpAnyH_take (i := 1) (v := ?vS1) rfl (by kernel_rfl) (by kernel_rfl) (by kernel_rfl) (fun _ _ _ h => h) (Or.inl ⟨by rfl, ?hS1⟩) (by assumption) ?rS1
              case hS1 =>
                intro w hSw
                try dsimp only at hSw
                go_simp
                try with_reducible rfl
              try simp only [Act.put, List.getElem_toArray, List.getElem_cons_succ, List.getElem_cons_zero, List.setIfInBounds_toArray, List.set_cons_zero, List.set_cons_succ]
              refine wpAnyH_take (i := 2) (v := ?vS2) rfl (by kernel_rfl) (by kernel_rfl) (by kernel_rfl) (fun _ _ _ h => h) (Or.inl ⟨by rfl, ?hS2⟩) (by assumption) ?rS2
              case hS2 =>
                intro w hSw
                try dsimp only at hSw
                go_simp
                try with_reducible rfl
              try simp only [Act.put, List.getElem_toArray, List.getElem_cons_succ, List.getElem_cons_zero, List.setIfInBounds_toArray, List.set_cons_zero, List.set_cons_succ]
              refine wpAnyH_take (i := 3) (v := ?vS3) rfl (by kernel_rfl) (by kernel_rfl) (by kernel_rfl) (fun _ _ _ h => h) (Or.inl ⟨by rfl, ?hS3⟩) (by assumption) ?rS3
              case hS3 =>
                intro w hSw
                try dsimp only at hSw
                go_simp
                try with_reducible rfl
              try simp only [Act.put, List.getElem_toArray, List.getElem_cons_succ, List.getElem_cons_zero, List.setIfInBounds_toArray, List.set_cons_zero, List.set_cons_succ]
              refine wpAnyH_take (i := 4) (v := ?vS4) rfl (by kernel_rfl) (by kernel_rfl) (by kernel_rfl) (fun _ _ _ h => h) (Or.inl ⟨by rfl, ?hS4⟩) (by assumption) ?rS4
              case hS4 =>
                intro w hSw
                try dsimp only at hSw
                go_simp
                try with_reducible rfl
              try simp only [Act.put, List.getElem_toArray, List.getElem_cons_succ, List.getElem_cons_zero, List.setIfInBounds_toArray, List.set_cons_zero, List.set_cons_succ]
              refine wpAnyH_ready (rs := [5]) (by kernel_rfl) (by simp) ?_
              refine AllReadyH.cons rfl (fun K hK => ?sS5) AllReadyH.nil
              go_simp
              have hbd1 : Below w1.heap.size w1 w1.drew := (Below.refl _ _).drew
              refine (hsame _ hbd1).mono ?_
              rintro e w5 ⟨rfl, hy5⟩
              have hb15 : Below w1.heap.size w1 w5 := hbd1.trans hy5
              clear hy5 hbd1 hsame
              go_simp
              refine hK.out _ _ ?kS5 (fun hHeld => ?mS5)
              case kS5 =>
                try dsimp only
                exact kB _ hb15
              clear hK K
              try simp only [Act.put, List.getElem_toArray, List.getElem_cons_succ, List.getElem_cons_zero, List.setIfInBounds_toArray, List.set_cons_zero, List.set_cons_succ]
              refine wpAnyH_take (i := 6) (v := ?vS6) rfl (by kernel_rfl) (by kernel_rfl) (by kernel_rfl) (fun _ _ _ h => h) (Or.inl ⟨by rfl, ?hS6⟩) (by assumption) ?rS6
              case hS6 =>
                intro w hSw
                try dsimp only at hSw
                go_simp
                try with_reducible rfl
              try simp only [Act.put, List.getElem_toArray, List.getElem_cons_succ, List.getElem_cons_zero, List.setIfInBounds_toArray, List.set_cons_zero, List.set_cons_succ]
              refine wpAnyH_done (by kernel_rfl) ?_ _
              have hJ5 : Loose8 (B 0) Z w5 := HJ1.out.trans (Loose8.of hb15 (by have := HXZ.out; omega))
              have hT5 : Tail (B (n + 1)) Z w5 := (HT1.out.mono hBn).trans sZ1 (Tail.of hb15)
              have HJ5 := Lib.hid hJ5
              have HT5' := Lib.hid hT5
              clear kB hb15 hJ hTl hJ5 hT5
              go_wp2_with fail
              obtain ⟨a9, b9, ca9, cb9, hv9, RS9, RE9⟩ := HRT.out
              simp only [Value.agg.injEq, Array.mk.injEq, List.cons.injEq, and_true, true_and, Value.slice.injEq] at hv9
              obtain ⟨⟨rfl, rfl⟩, rfl, rfl⟩ := hv9
              have CI := Lib.hid (cellsI_of RS9.num (Nat.le_refl (B n)))
              have EI := Lib.hid (elemI_of RE9 (Nat.le_refl (B n)))
              clear RS9 RE9
              go_loopw [19] (fun j wi => ∃ (k : Nat), j = .int .i64 (k : Int) ∧ k ≤ s.length ∧ Loose8 (B 0) Z wi ∧ Tail (B (n + 1)) Z wi) (fun j _ => s.length - (intOf j).toNat)
              case atStart => exact ⟨0, rfl, Nat.zero_le _, HJ5.out, HT5'.out⟩
              case round =>
                rename World => wi
                obtain ⟨k, rfl, hk, hJi, hTi⟩ := hrel
                obtain ⟨g0, g1⟩ := HKA.out _ hTi
                by_cases hlt6 : k < s.length
                · have hlt6I : (k : Int) < (s.length : Int) := by omega
                  obtain ⟨ad, nn, cap, hvv, hmx, hcell⟩ := CI.out
                  simp only [Value.slice.injEq] at hvv
                  obtain ⟨rfl, rfl, rfl⟩ := hvv
                  obtain ⟨bw, cur, t, rfl, hBb, hh, hz⟩ := hcell.resolve_left (by omega)
                  obtain ⟨z, hz⟩ := hz k hlt6
                  obtain ⟨c', z', e1, e2, e3, e4⟩ := wcell (HLX.out _ hJi) hh hz
                  have hlo : B 0 ≤ bw := by omega
                  have hup : bw < B (n + 1) := Nat.lt_of_lt_of_le (lt_of_block hh) hXB
                  have HN := Lib.hid (And.intro (hJi.trans (Loose8.set (k := k) (u := .int .i64 0) hlo e1 e2 (.inr (.inl ⟨_, _, _, rfl, rfl⟩)))) (hTi.set (k := k) hup (.int .i64 0)))
                  clear hcell hh hz e1 e2 hJi hTi
                  go_wp2_with fail
                  go_roundw
                  case rel => exact ⟨k + 1, by go_num, by omega, HN.out.1, HN.out.2⟩
                  case measure => simp [intOf]; omega
                · obtain rfl : k = s.length := by omega
                  have hlt6I : ¬ (s.length : Int) < (s.length : Int) := by omega
                  have HJ6 := Lib.hid hJi
                  have HT6 := Lib.hid hTi
                  clear hJi hTi
                  go_wp2_with fail
                  clear g0 g1
                  go_loopw [20, 21] (fun j _ wi => ∃ (k : Nat), j = .int .i64 (k : Int) ∧ k ≤ LL.length ∧ Loose8 (B 0) Z wi ∧ Tail (B (n + 1)) Z wi) (fun j _ _ => LL.length - (intOf j).toNat)
                  case atStart => exact ⟨0, rfl, Nat.zero_le _, HJ6.out, HT6.out⟩
                  case round =>
                    rename World => wj
                    obtain ⟨k, rfl, hk, hJi, hTi⟩ := hrel
                    obtain ⟨g0, g1⟩ := HKA.out _ hTi
                    by_cases hlt7 : k < LL.length
                    · have hlt7I : (k : Int) < (LL.length : Int) := by omega
                      obtain ⟨bd, nn, cap, hvv, hmx, hcell⟩ := EI.out
                      simp only [Value.slice.injEq] at hvv
                      obtain ⟨rfl, rfl, rfl⟩ := hvv
                      obtain ⟨bb, cs2, t2, rfl, hBb, hh, hz⟩ := hcell.resolve_left (by omega)
                      obtain ⟨p, x, y, d0, d1, d2, _, hyc⟩ := hz k hlt7
                      obtain ⟨ay, ny, cy, rfl, hmy, hyc⟩ := hyc
                      unfold maxLen at hmy
                      have kD : ∀ wi, Loose8 (B 0) Z wi → wi.cell? ⟨bb, k * 3 + 2, none⟩ = some (.slice ay ny cy) := fun wi L => (HLX.out _ L).slice hh d2
                      have HKD := Lib.hid kD
                      have HYC := Lib.hid hyc
                      have HJ7 := Lib.hid hJi
                      have HT7 := Lib.hid hTi
                      clear hcell hh hz d0 d1 d2 hyc kD hJi hTi
                      go_wp2_with fail
                      clear g0 g1
                      go_loopw [21] (fun j wi => ∃ (i : Nat), j = .int .i64 (i : Int) ∧ i ≤ ny ∧ Loose8 (B 0) Z wi ∧ Tail (B (n + 1)) Z wi) (fun j _ => ny - (intOf j).toNat)
                      case atStart => exact ⟨0, rfl, Nat.zero_le _, HJ7.out, HT7.out⟩
                      case round =>
                        rename World => wk
                        obtain ⟨i, rfl, hi, hJi, hTi⟩ := hrel
                        obtain ⟨g0, g1⟩ := HKA.out _ hTi
                        have g2 := HKD.out _ hJi
                        by_cases hlt8 : i < ny
                        · have hlt8I : (i : Int) < (ny : Int) := by omega
                          obtain ⟨bw, cur, t, rfl, hBw, hh, hz⟩ := HYC.out.resolve_left (by omega)
                          obtain ⟨z, hz⟩ := hz i hlt8
                          obtain ⟨c', z', e1, e2, e3, e4⟩ := wcell (HLX.out _ hJi) hh hz
                          have hlo : B 0 ≤ bw := by omega
                          have hup : bw < B (n + 1) := Nat.lt_of_lt_of_le (lt_of_block hh) hXB
                          have HN := Lib.hid (And.intro (hJi.trans (Loose8.set (k := i) (u := .int .u32 77) hlo e1 e2 (.inr (.inl ⟨_, _, _, rfl, rfl⟩)))) (hTi.set (k := i) hup (.int .u32 77)))
                          clear hh hz e1 e2 hJi hTi
                          go_wp2_with fail
                          go_roundw
                          case rel => exact ⟨i + 1, by go_num, by omega, HN.out.1, HN.out.2⟩
                          case measure => simp [intOf]; omega
                        · obtain rfl : ny = i := by omega
                          have hlt8I : ¬ (ny : Int) < (ny : Int) := by omega
                          have HN := Lib.hid (And.intro hJi hTi)
                          clear hJi hTi
                          go_wp2_with fail
                          go_roundw
                          case rel => exact ⟨k + 1, by go_num, by omega, HN.out.1, HN.out.2⟩
                          case measure => simp [intOf]; omega
                    · obtain rfl : k = LL.length := by omega
                      have hlt7I : ¬ (LL.length : Int) < (LL.length : Int) := by omega
                      have HN := Lib.hid (And.intro hJi hTi)
                      clear hJi hTi
                      go_wp2_with fail
                      go_roundw
                      case rel => exact ⟨n + 1, by go_num, by omega, HN.out.1, HN.out.2⟩
                      case measure => simp [intOf]; omega
            · obtain rfl : n = 5 := by omega
              have hlt5I : ¬ ((5 : Int) < 5) := by omega
              have hO := HKO.out _ hJ
              have hX := HKX.out _ hJ
              obtain ⟨o0, o1, _, _⟩ := (O3.later hO).two
              obtain ⟨g0, g1, _, _⟩ := (R0.later hX).two
              have hsame := sameTT9 (m := 1048576) (HTO.out.later hO) (TX.out _ hX) HL.out (by omega) (by have := HLL.out; omega) (by omega)
              clear hJ hTl
              go_wp2_with fail
              refine hsame.mono ?_
              rintro e y5 ⟨rfl, hy5⟩
              clear hsame o0 o1 g0 g1
              go_wp2_with fail
              refine (known9_any y5).mono ?_
              rintro e y6 ⟨rfl, hy6⟩
              go_wp2_with fail
              go_ret
              exact ⟨rfl, hBV.trans ((hX.trans ((hy5.trans (hy6.mono hy5.size)).mono hX.size)).mono hBV.size)⟩
  · have hne : (m != 0) = true := by simp [h0]
    clear h0
    go_enter Tryz.func12, Tryz.ntmps12
    go_wp2_with fail
    (try rw [hV])
    clear hV
    refine ref1.mono ?_
    rintro e y1 ⟨rfl, hb1⟩
    clear ref1 c0 c1 own1
    go_wp2_with fail
    refine (known9_any y1).mono ?_
    rintro e y2 ⟨rfl, hb2⟩
    go_wp2_with fail
    go_ret
    exact ⟨rfl, hBV.trans ((hb1.trans (hb2.mono hb1.size)).mono hBV.size)⟩
end Go.Proofs.YtooglnhlhgmhdaaGreat
