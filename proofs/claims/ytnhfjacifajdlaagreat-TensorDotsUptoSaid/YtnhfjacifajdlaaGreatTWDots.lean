/-
  Layer 7's law TensorDots: for any two tensors the law holds (arguments that hold together at most 1048576 values).
-/
import Derived.Test.YtnhfjacifajdlaaGreatTWSame
import Derived.Test.YtnhfjacifajdlaaGreatTRaw
import Derived.Test.YtnhfjacifajdlaaGreatTDotFit
namespace Go.Proofs.YtnhfjacifajdlaaGreat
open Go.RowKit
set_option linter.unusedVariables false
set_option linter.unusedSimpArgs false

set_option maxRecDepth 100000 in
set_option maxHeartbeats 8000000 in
theorem tensorDots_walk {u v : Value} {s1 s2 : List Int} {q1 q2 : List Q3} {a1 b1 a2 b2 : Option Addr} {ca1 cb1 ca2 cb2 : Nat} (W : World) (T1 : TensQ W u s1 q1 a1 ca1 b1 cb1) (T2 : TensQ W v s2 q2 a2 ca2 b2 cb2) (ls1 : s1.length ≤ 1048576) (ls2 : s2.length ≤ 1048576) (lq1 : sizeQs q1 ≤ 1048576) (lq2 : sizeQs q2 ≤ 1048576) :
    Calls Tryz.prog 8 #[u, v] W fun e W' => e = .returned (.bool true) ∧ Below W.heap.size W W' := by
  have WF1 := Lib.hid T1.wfs
  have WF2 := Lib.hid T2.wfs
  have HT1 := Lib.hid T1
  have HT2 := Lib.hid T2
  have hlen1 := sizeQs_len q1
  have hlen2 := sizeQs_len q2
  have HL1 := Lib.hid (lensQ.of lq1)
  have HL2 := Lib.hid (lensQ.of lq2)
  have hq1 : q1.length ≤ 1048576 := by omega
  have hq2 : q2.length ≤ 1048576 := by omega
  obtain rfl := T1.is
  obtain rfl := T2.is
  obtain ⟨V1, hV1⟩ : ∃ V1, W.alloc (.cells #[.slice a1 s1.length ca1, .slice b1 q1.length cb1] 26) = V1 := ⟨_, rfl⟩
  obtain ⟨V, hV⟩ : ∃ V, V1.alloc (.cells #[.slice a2 s2.length ca2, .slice b2 q2.length cb2] 26) = V := ⟨_, rfl⟩
  have sV1 : V1.heap.size = W.heap.size + 1 := by rw [← hV1]; simp
  have R0 : Row V W.heap.size 26 #[.slice a1 s1.length ca1, .slice b1 q1.length cb1] := by rw [← hV, ← hV1]; exact (Row.new _ _ _).alloc _
  have R1 : Row V (W.heap.size + 1) 26 #[.slice a2 s2.length ca2, .slice b2 q2.length cb2] := by rw [← hV, ← sV1]; exact Row.new _ _ _
  have hBV : Below W.heap.size W V := by rw [← hV, ← hV1]; exact ((Below.refl _ _).alloc (by simp) _).alloc (by simp) _
  have tX1 : ∀ X, Below V.heap.size V X → TensQ X (.agg #[.slice a1 s1.length ca1, .slice b1 q1.length cb1]) s1 q1 a1 ca1 b1 cb1 := fun X h => HT1.out.later (hBV.trans (h.mono hBV.size))
  have tX2 : ∀ X, Below V.heap.size V X → TensQ X (.agg #[.slice a2 s2.length ca2, .slice b2 q2.length cb2]) s2 q2 a2 ca2 b2 cb2 := fun X h => HT2.out.later (hBV.trans (h.mono hBV.size))
  have own1 := fun X (h : Below V.heap.size V X) => ownT_any (tX1 X h) (by omega) (by omega) (fun q hq => ⟨Nat.le_trans (HL1.out q hq).1 (by omega), Nat.le_trans (HL1.out q hq).2 (by omega)⟩)
  have own2 := fun X (h : Below V.heap.size V X) => ownT_any (tX2 X h) (by omega) (by omega) (fun q hq => ⟨Nat.le_trans (HL2.out q hq).1 (by omega), Nat.le_trans (HL2.out q hq).2 (by omega)⟩)
  have ref1 := fun X (h : Below V.heap.size V X) => mayT_any (tX1 X h) (by omega) (fun q hq => ⟨Nat.le_trans (HL1.out q hq).1 (by omega), Nat.le_trans (HL1.out q hq).2 (by omega)⟩)
  have ref2 := fun X (h : Below V.heap.size V X) => mayT_any (tX2 X h) (by omega) (fun q hq => ⟨Nat.le_trans (HL2.out q hq).1 (by omega), Nat.le_trans (HL2.out q hq).2 (by omega)⟩)
  have of1 := fun X (h : Below V.heap.size V X) => ofT_any (n := 1048576) (tX1 X h) (by omega) (by omega) HL1.out (by omega)
  have of2 := fun X (h : Below V.heap.size V X) => ofT_any (n := 1048576) (tX2 X h) (by omega) (by omega) HL2.out (by omega)
  have mkS : ∀ X, Below V.heap.size V X → X.cell? ⟨W.heap.size, 0, none⟩ = some (.slice a1 s1.length ca1) ∧ X.cell? ⟨W.heap.size, 1, none⟩ = some (.slice b1 q1.length cb1) ∧ X.cell? ⟨W.heap.size + 1, 0, none⟩ = some (.slice a2 s2.length ca2) ∧ X.cell? ⟨W.heap.size + 1, 1, none⟩ = some (.slice b2 q2.length cb2) := fun X h => by
    obtain ⟨x0, x1, _⟩ := (R0.later h).two
    obtain ⟨x2, x3, _⟩ := (R1.later h).two
    exact ⟨x0, x1, x2, x3⟩
  have B0 : Below V.heap.size V V.drew := (Below.refl _ V).drew
  obtain ⟨c0, c1, _, _⟩ := R0.two
  obtain ⟨c2, c3, _, _⟩ := R1.two
  have hshape := fun X (h : Below V.heap.size V X) => sameSh_any (tX1 X h).sh (tX2 X h).sh (by omega)
  obtain ⟨m1, hm1⟩ : ∃ m, mayT s1 q1 = m := ⟨_, rfl⟩
  obtain ⟨m2, hm2⟩ : ∃ m, mayT s2 q2 = m := ⟨_, rfl⟩
  obtain ⟨t, ht⟩ : ∃ t, decide (s1 = s2) = t := ⟨_, rfl⟩
  obtain ⟨d, hd⟩ : ∃ d, dotC s1 s2 q1 q2 = d := ⟨_, rfl⟩
  have hdm : d = if m1 ≠ 0 then m1 else if m2 ≠ 0 then m2 else if t = true then 0 else 13 := by
    rw [← hd, ← hm1, ← hm2, ← ht]
    unfold dotC
    by_cases hs : s1 = s2 <;> simp [hs]
  obtain ⟨x, hx⟩ : ∃ x, dotN (q1.map Q3.rat) (q2.map Q3.rat) q1.length = x := ⟨_, rfl⟩
  have hfit : dotC s1 s2 q1 q2 = 0 → ∀ k, k ≤ q1.length → FitQ (dotN (q1.map Q3.rat) (q2.map Q3.rat) k) 67108864 := fun h => dotN_fitA WF1.out WF2.out (dotC_len h).2.1 (by omega)
  have hcode : ∀ X u v x1 y1 x2 y2 cx1 cy1 cx2 cy2 (h1 : TensQ X u s1 q1 x1 cx1 y1 cy1) (h2 : TensQ X v s2 q2 x2 cx2 y2 cy2), Calls Tryz.prog 35 #[u, v] X fun e w' => ∃ r, e = .returned (.tuple #[r, .int .i64 d]) ∧ DotQ X.heap.size w' r x 2097153 d ∧ Below X.heap.size X w' := fun X u v x1 y1 x2 y2 cx1 cy1 cx2 cy2 h1 h2 => by
    have h := dotT7_any (n := 1048576) (B := 67108864) h1 h2 ls1 ls2 hq1 hq2 HL1.out HL2.out (by omega) hfit (by omega)
    rw [hd, hx] at h
    refine h.mono ?_
    rintro e w' ⟨r, rfl, g, b, hb⟩
    exact ⟨r, rfl, ⟨g, b⟩, hb⟩
  have hrefd : d = 0 → ∀ X u v x1 y1 x2 y2 cx1 cy1 cx2 cy2 (h1 : TensR X u s1 (q1.map Q3.rat) (5 * 1048576 + 1) x1 cx1 y1 cy1) (h2 : TensR X v s2 (q2.map Q3.rat) (5 * 1048576 + 1) x2 cx2 y2 cy2), Calls Tryz.prog 37 #[u, v] X fun e w' => ∃ r, e = .returned r ∧ ArgR w' r x (67108864 / 13 + 1) ∧ Below X.heap.size X w' := fun h0 X u v x1 y1 x2 y2 cx1 cy1 cx2 cy2 h1 h2 => by
    have hl := (dotC_len (hd.trans h0)).2.1
    have h := dotT_any (B := 67108864) h1 h2 (by simp [hl]) (by rw [List.length_map]; exact hfit (hd.trans h0)) (by omega) (by omega) (by omega) (by rw [List.length_map]; omega)
    rw [List.length_map, hx] at h
    exact h
  rw [hm1] at ref1
  rw [hm2] at ref2
  rw [ht] at hshape
  have HDM := Lib.hid hdm
  clear T1 T2 hd hdm hx hm1 hm2 ht hfit
  go_enter Tryz.func8, Tryz.ntmps8
  go_upto_region 1 with fail
  clear hV hV1 c0 c1 c2 c3
  go_cut [5, 6] (fun s5 s6 wx => ∃ (g : Nat) (m : Bool) (f1 f2 : Option Addr) (l1 j1 l2 j2 : Nat), s5 = .pointer (some ⟨g, 0, none⟩) ∧ s6 = .int .i64 d ∧ V.heap.size ≤ g ∧ Row wx g 44 #[.bool m, .slice f1 l1 j1, .slice f2 l2 j2] ∧ DotQ V.heap.size wx (.agg #[.bool m, .slice f1 l1 j1, .slice f2 l2 j2]) x 2097153 d ∧ (d ≠ 0 → l1 = 0 ∧ l2 = 0) ∧ Below V.heap.size V wx)
  case first =>
    (try rw [hV1])
    refine wp_region_held_drew (S := fun X => X.cell? ⟨W.heap.size, 0, none⟩ = some (.slice a1 s1.length ca1) ∧ X.cell? ⟨W.heap.size, 1, none⟩ = some (.slice b1 q1.length cb1) ∧ X.cell? ⟨W.heap.size + 1, 0, none⟩ = some (.slice a2 s2.length ca2) ∧ X.cell? ⟨W.heap.size + 1, 1, none⟩ = some (.slice b2 q2.length cb2)) (by kernel_rfl) (mkS _ ((Below.refl V.heap.size V).drew)) (fun hHeld => ?_)
    refine wpAnyH_take (i := 0) (v := ?vT1_0) rfl (by kernel_rfl) (by kernel_rfl) (by kernel_rfl) (fun _ _ _ h => h) (Or.inl ⟨by rfl, ?hT1_0⟩) (by assumption) ?rT1_0
    case hT1_0 =>
      intro w hSw
      try dsimp only at hSw
      go_simp
      try with_reducible rfl
    try simp only [Act.put, List.setIfInBounds_toArray, List.set_cons_zero, List.set_cons_succ]
    refine wpAnyH_take (i := 2) (v := ?vT2_2) rfl (by kernel_rfl) (by kernel_rfl) (by kernel_rfl) (fun _ _ _ h => h) (Or.inl ⟨by rfl, ?hT2_2⟩) (by assumption) ?rT2_2
    case hT2_2 =>
      intro w hSw
      try dsimp only at hSw
      go_simp
      try with_reducible rfl
    try simp only [Act.put, List.setIfInBounds_toArray, List.set_cons_zero, List.set_cons_succ]
    obtain ⟨X0, hV0⟩ : ∃ Y, V.drew = Y := ⟨_, rfl⟩
    rw [hV0] at hHeld
    rw [hV0]
    have hb0 : Below V.heap.size V X0 := by rw [← hV0]; exact (Below.refl _ _).drew
    have hs0 : V.heap.size ≤ X0.heap.size := hb0.size
    clear hV0
    refine wpAnyH_ready (rs := [1, 8]) (by kernel_rfl) (by simp) ?_
    refine AllReadyH.cons rfl (fun K hK => ?o3_1) (AllReadyH.cons rfl (fun K hK => ?o3_8) AllReadyH.nil)
    case o3_1 =>
      go_simp
      refine (own1 _ hb0).mono ?_
      rintro e X4 ⟨p4, r4, cx4, cy4, rfl, S4, E4, hc4⟩
      have TO4 := ownT_tens S4 E4
      go_simp
      have hbX4 : Below V.heap.size V X4 := hb0.trans (hc4.mono hs0)
      have hsX4 : V.heap.size ≤ X4.heap.size := hbX4.size
      refine hK.out _ _ (mkS _ hbX4) (fun hHeld2 => ?_)
      clear hK K hHeld
      have hHeld := hHeld2
      clear hHeld2
      try simp only [Act.put, List.setIfInBounds_toArray, List.set_cons_zero, List.set_cons_succ]
      refine wpAnyH_ready (rs := [3, 8]) (by kernel_rfl) (by simp) ?_
      refine AllReadyH.cons rfl (fun K hK => ?o5_3) (AllReadyH.cons rfl (fun K hK => ?o5_8) AllReadyH.nil)
      case o5_3 =>
        go_simp
        refine (own2 _ hbX4).mono ?_
        rintro e X6 ⟨p6, r6, cx6, cy6, rfl, S6, E6, hc6⟩
        have TO6 := ownT_tens S6 E6
        go_simp
        have hbX6 : Below V.heap.size V X6 := hbX4.trans (hc6.mono hsX4)
        have hsX6 : V.heap.size ≤ X6.heap.size := hbX6.size
        have o1X6 := TO4.later hc6
        refine hK.out _ _ (mkS _ hbX6) (fun hHeld2 => ?_)
        clear hK K hHeld
        have hHeld := hHeld2
        clear hHeld2
        try simp only [Act.put, List.setIfInBounds_toArray, List.set_cons_zero, List.set_cons_succ]
        refine wpAnyH_ready (rs := [4, 8]) (by kernel_rfl) (by simp) ?_
        refine AllReadyH.cons rfl (fun K hK => ?o7_4) (AllReadyH.cons rfl (fun K hK => ?o7_8) AllReadyH.nil)
        case o7_4 =>
          go_simp
          refine (hcode _ _ _ _ _ _ _ _ _ _ _ o1X6 TO6).mono ?_
          rintro e X8 ⟨r8, rfl, DQ8, hc8⟩
          obtain ⟨m8, f8, l8, j8, g8, n8, i8, rfl, sh8⟩ := DQ8.shape
          go_simp
          have hbX8 : Below V.heap.size V X8 := hbX6.trans (hc8.mono hsX6)
          have hsX8 : V.heap.size ≤ X8.heap.size := hbX8.size
          have o1X8 := o1X6.later hc8
          have o2X8 := TO6.later hc8
          refine hK.out _ _ (mkS _ hbX8) (fun hHeld2 => ?_)
          clear hK K hHeld
          have hHeld := hHeld2
          clear hHeld2
          try simp only [Act.put, List.setIfInBounds_toArray, List.set_cons_zero, List.set_cons_succ]
          refine wpAnyH_take (i := 5) (v := ?vT9_5) rfl (by kernel_rfl) (by kernel_rfl) (by kernel_rfl) (fun _ _ _ h => h) (Or.inl ⟨by rfl, ?hT9_5⟩) (by assumption) ?rT9_5
          case hT9_5 =>
            intro w hSw
            try dsimp only at hSw
            go_simp
            try with_reducible rfl
          try simp only [Act.put, List.setIfInBounds_toArray, List.set_cons_zero, List.set_cons_succ]
          refine wpAnyH_take (i := 6) (v := ?vT10_6) rfl (by kernel_rfl) (by kernel_rfl) (by kernel_rfl) (fun _ _ _ h => h) (Or.inl ⟨by rfl, ?hT10_6⟩) (by assumption) ?rT10_6
          case hT10_6 =>
            intro w hSw
            try dsimp only at hSw
            go_simp
            try with_reducible rfl
          try simp only [Act.put, List.setIfInBounds_toArray, List.set_cons_zero, List.set_cons_succ]
          refine wpAnyH_take (i := 7) (v := ?vT11_7) rfl (by kernel_rfl) (by kernel_rfl) (by kernel_rfl) (fun _ _ _ h => h) (Or.inl ⟨by rfl, ?hT11_7⟩) (by assumption) ?rT11_7
          case hT11_7 =>
            intro w hSw
            try dsimp only at hSw
            go_simp
            try with_reducible rfl
          try simp only [Act.put, List.setIfInBounds_toArray, List.set_cons_zero, List.set_cons_succ]
          refine wpAnyH_ready (rs := [8]) (by kernel_rfl) (by simp) ?_
          refine AllReadyH.cons rfl (fun K hK => ?o12_8) AllReadyH.nil
          go_simp
          refine afterAlloc (fun X13 hc13 hl13 zn13 => ?_)
          have hbX13 : Below V.heap.size V X13 := hbX8.trans (hc13.mono hsX8)
          have hsX13 : V.heap.size ≤ X13.heap.size := hbX13.size
          have o1X13 := o1X8.later hc13
          have o2X13 := o2X8.later hc13
          have dqX13 := DQ8.later hc13
          refine hK.out _ _ (mkS _ hbX13) (fun hHeld2 => ?_)
          clear hK K hHeld
          have hHeld := hHeld2
          clear hHeld2
          try simp only [Act.put, List.setIfInBounds_toArray, List.set_cons_zero, List.set_cons_succ]
          obtain ⟨d14_0, d14_1, d14_2, d14_3, d14_4, d14_5⟩ := zn13.three
          refine wpAnyH_ready (rs := [9]) (by kernel_rfl) (by simp) ?_
          refine AllReadyH.cons rfl (fun K hK => ?s14) AllReadyH.nil
          go_simp
          refine afterSet3 zn13 (fun X14 o14 zs14 => ?_)
          clear d14_0 d14_1 d14_2 d14_3 d14_4 d14_5
          have hbX14 : Below V.heap.size V X14 := hbX13.trans (o14.below hsX8)
          have hsX14 : V.heap.size ≤ X14.heap.size := hbX14.size
          have dqX14 := dqX13.only zn13 o14
          refine hK.out _ _ (mkS _ hbX14) (fun hHeld2 => ?_)
          clear hK K hHeld
          have hHeld := hHeld2
          clear hHeld2
          try simp only [Act.put, List.setIfInBounds_toArray, List.set_cons_zero, List.set_cons_succ]
          refine wpAnyH_ready (rs := [10]) (by kernel_rfl) (by simp) ?_
          refine AllReadyH.cons rfl (fun K hK => ?sD15_10) AllReadyH.nil
          go_simp
          refine hK.out _ _ ?kD15_10 (fun hHeld => ?mD15_10)
          case kD15_10 =>
            try dsimp only
            exact mkS _ hbX14
          clear hK K
          try simp only [Act.put, List.setIfInBounds_toArray, List.set_cons_zero, List.set_cons_succ]
          refine wpAnyH_done (by kernel_rfl) ?_ _
          go_wp2_with fail
          go_meet
          exact ⟨_, m8, f8, g8, l8, j8, n8, i8, rfl, rfl, hsX8, zs14, ⟨fun h => (dqX14.1 h).mono (by omega), dqX14.2⟩, sh8, hbX14⟩
        case o7_8 =>
          go_simp
          refine afterAlloc (fun X16 hc16 hl16 zn16 => ?_)
          have hbX16 : Below V.heap.size V X16 := hbX6.trans (hc16.mono hsX6)
          have hsX16 : V.heap.size ≤ X16.heap.size := hbX16.size
          have o1X16 := o1X6.later hc16
          have o2X16 := TO6.later hc16
          refine hK.out _ _ (mkS _ hbX16) (fun hHeld2 => ?_)
          clear hK K hHeld
          have hHeld := hHeld2
          clear hHeld2
          try simp only [Act.put, List.setIfInBounds_toArray, List.set_cons_zero, List.set_cons_succ]
          refine wpAnyH_ready (rs := [4]) (by kernel_rfl) (by simp) ?_
          refine AllReadyH.cons rfl (fun K hK => ?o17_4) AllReadyH.nil
          go_simp
          refine (hcode _ _ _ _ _ _ _ _ _ _ _ o1X16 o2X16).mono ?_
          rintro e X18 ⟨r18, rfl, DQ18, hc18⟩
          obtain ⟨m18, f18, l18, j18, g18, n18, i18, rfl, sh18⟩ := DQ18.shape
          go_simp
          have hbX18 : Below V.heap.size V X18 := hbX16.trans (hc18.mono hsX16)
          have hsX18 : V.heap.size ≤ X18.heap.size := hbX18.size
          have o1X18 := o1X16.later hc18
          have o2X18 := o2X16.later hc18
          have zAX18 := zn16.later hc18
          have ltAX18 := zAX18.lt
          refine hK.out _ _ (mkS _ hbX18) (fun hHeld2 => ?_)
          clear hK K hHeld
          have hHeld := hHeld2
          clear hHeld2
          try simp only [Act.put, List.setIfInBounds_toArray, List.set_cons_zero, List.set_cons_succ]
          refine wpAnyH_take (i := 5) (v := ?vT19_5) rfl (by kernel_rfl) (by kernel_rfl) (by kernel_rfl) (fun _ _ _ h => h) (Or.inl ⟨by rfl, ?hT19_5⟩) (by assumption) ?rT19_5
          case hT19_5 =>
            intro w hSw
            try dsimp only at hSw
            go_simp
            try with_reducible rfl
          try simp only [Act.put, List.setIfInBounds_toArray, List.set_cons_zero, List.set_cons_succ]
          refine wpAnyH_take (i := 6) (v := ?vT20_6) rfl (by kernel_rfl) (by kernel_rfl) (by kernel_rfl) (fun _ _ _ h => h) (Or.inl ⟨by rfl, ?hT20_6⟩) (by assumption) ?rT20_6
          case hT20_6 =>
            intro w hSw
            try dsimp only at hSw
            go_simp
            try with_reducible rfl
          try simp only [Act.put, List.setIfInBounds_toArray, List.set_cons_zero, List.set_cons_succ]
          refine wpAnyH_take (i := 7) (v := ?vT21_7) rfl (by kernel_rfl) (by kernel_rfl) (by kernel_rfl) (fun _ _ _ h => h) (Or.inl ⟨by rfl, ?hT21_7⟩) (by assumption) ?rT21_7
          case hT21_7 =>
            intro w hSw
            try dsimp only at hSw
            go_simp
            try with_reducible rfl
          try simp only [Act.put, List.setIfInBounds_toArray, List.set_cons_zero, List.set_cons_succ]
          obtain ⟨d22_0, d22_1, d22_2, d22_3, d22_4, d22_5⟩ := zAX18.three
          refine wpAnyH_ready (rs := [9]) (by kernel_rfl) (by simp) ?_
          refine AllReadyH.cons rfl (fun K hK => ?s22) AllReadyH.nil
          go_simp
          refine afterSet3 zAX18 (fun X22 o22 zs22 => ?_)
          clear d22_0 d22_1 d22_2 d22_3 d22_4 d22_5
          have hbX22 : Below V.heap.size V X22 := hbX18.trans (o22.below hsX6)
          have hsX22 : V.heap.size ≤ X22.heap.size := hbX22.size
          have dqX22 := DQ18.only zAX18 o22
          refine hK.out _ _ (mkS _ hbX22) (fun hHeld2 => ?_)
          clear hK K hHeld
          have hHeld := hHeld2
          clear hHeld2
          try simp only [Act.put, List.setIfInBounds_toArray, List.set_cons_zero, List.set_cons_succ]
          refine wpAnyH_ready (rs := [10]) (by kernel_rfl) (by simp) ?_
          refine AllReadyH.cons rfl (fun K hK => ?sD23_10) AllReadyH.nil
          go_simp
          refine hK.out _ _ ?kD23_10 (fun hHeld => ?mD23_10)
          case kD23_10 =>
            try dsimp only
            exact mkS _ hbX22
          clear hK K
          try simp only [Act.put, List.setIfInBounds_toArray, List.set_cons_zero, List.set_cons_succ]
          refine wpAnyH_done (by kernel_rfl) ?_ _
          go_wp2_with fail
          go_meet
          exact ⟨_, m18, f18, g18, l18, j18, n18, i18, rfl, rfl, hsX6, zs22, ⟨fun h => (dqX22.1 h).mono (by omega), dqX22.2⟩, sh18, hbX22⟩
      case o5_8 =>
        go_simp
        refine afterAlloc (fun X24 hc24 hl24 zn24 => ?_)
        have hbX24 : Below V.heap.size V X24 := hbX4.trans (hc24.mono hsX4)
        have hsX24 : V.heap.size ≤ X24.heap.size := hbX24.size
        have o1X24 := TO4.later hc24
        refine hK.out _ _ (mkS _ hbX24) (fun hHeld2 => ?_)
        clear hK K hHeld
        have hHeld := hHeld2
        clear hHeld2
        try simp only [Act.put, List.setIfInBounds_toArray, List.set_cons_zero, List.set_cons_succ]
        refine wpAnyH_ready (rs := [3]) (by kernel_rfl) (by simp) ?_
        refine AllReadyH.cons rfl (fun K hK => ?o25_3) AllReadyH.nil
        go_simp
        refine (own2 _ hbX24).mono ?_
        rintro e X26 ⟨p26, r26, cx26, cy26, rfl, S26, E26, hc26⟩
        have TO26 := ownT_tens S26 E26
        go_simp
        have hbX26 : Below V.heap.size V X26 := hbX24.trans (hc26.mono hsX24)
        have hsX26 : V.heap.size ≤ X26.heap.size := hbX26.size
        have o1X26 := o1X24.later hc26
        have zAX26 := zn24.later hc26
        have ltAX26 := zAX26.lt
        refine hK.out _ _ (mkS _ hbX26) (fun hHeld2 => ?_)
        clear hK K hHeld
        have hHeld := hHeld2
        clear hHeld2
        try simp only [Act.put, List.setIfInBounds_toArray, List.set_cons_zero, List.set_cons_succ]
        refine wpAnyH_ready (rs := [4]) (by kernel_rfl) (by simp) ?_
        refine AllReadyH.cons rfl (fun K hK => ?o27_4) AllReadyH.nil
        go_simp
        refine (hcode _ _ _ _ _ _ _ _ _ _ _ o1X26 TO26).mono ?_
        rintro e X28 ⟨r28, rfl, DQ28, hc28⟩
        obtain ⟨m28, f28, l28, j28, g28, n28, i28, rfl, sh28⟩ := DQ28.shape
        go_simp
        have hbX28 : Below V.heap.size V X28 := hbX26.trans (hc28.mono hsX26)
        have hsX28 : V.heap.size ≤ X28.heap.size := hbX28.size
        have o1X28 := o1X26.later hc28
        have o2X28 := TO26.later hc28
        have zAX28 := zAX26.later hc28
        have ltAX28 := zAX28.lt
        refine hK.out _ _ (mkS _ hbX28) (fun hHeld2 => ?_)
        clear hK K hHeld
        have hHeld := hHeld2
        clear hHeld2
        try simp only [Act.put, List.setIfInBounds_toArray, List.set_cons_zero, List.set_cons_succ]
        refine wpAnyH_take (i := 5) (v := ?vT29_5) rfl (by kernel_rfl) (by kernel_rfl) (by kernel_rfl) (fun _ _ _ h => h) (Or.inl ⟨by rfl, ?hT29_5⟩) (by assumption) ?rT29_5
        case hT29_5 =>
          intro w hSw
          try dsimp only at hSw
          go_simp
          try with_reducible rfl
        try simp only [Act.put, List.setIfInBounds_toArray, List.set_cons_zero, List.set_cons_succ]
        refine wpAnyH_take (i := 6) (v := ?vT30_6) rfl (by kernel_rfl) (by kernel_rfl) (by kernel_rfl) (fun _ _ _ h => h) (Or.inl ⟨by rfl, ?hT30_6⟩) (by assumption) ?rT30_6
        case hT30_6 =>
          intro w hSw
          try dsimp only at hSw
          go_simp
          try with_reducible rfl
        try simp only [Act.put, List.setIfInBounds_toArray, List.set_cons_zero, List.set_cons_succ]
        refine wpAnyH_take (i := 7) (v := ?vT31_7) rfl (by kernel_rfl) (by kernel_rfl) (by kernel_rfl) (fun _ _ _ h => h) (Or.inl ⟨by rfl, ?hT31_7⟩) (by assumption) ?rT31_7
        case hT31_7 =>
          intro w hSw
          try dsimp only at hSw
          go_simp
          try with_reducible rfl
        try simp only [Act.put, List.setIfInBounds_toArray, List.set_cons_zero, List.set_cons_succ]
        obtain ⟨d32_0, d32_1, d32_2, d32_3, d32_4, d32_5⟩ := zAX28.three
        refine wpAnyH_ready (rs := [9]) (by kernel_rfl) (by simp) ?_
        refine AllReadyH.cons rfl (fun K hK => ?s32) AllReadyH.nil
        go_simp
        refine afterSet3 zAX28 (fun X32 o32 zs32 => ?_)
        clear d32_0 d32_1 d32_2 d32_3 d32_4 d32_5
        have hbX32 : Below V.heap.size V X32 := hbX28.trans (o32.below hsX4)
        have hsX32 : V.heap.size ≤ X32.heap.size := hbX32.size
        have dqX32 := DQ28.only zAX28 o32
        refine hK.out _ _ (mkS _ hbX32) (fun hHeld2 => ?_)
        clear hK K hHeld
        have hHeld := hHeld2
        clear hHeld2
        try simp only [Act.put, List.setIfInBounds_toArray, List.set_cons_zero, List.set_cons_succ]
        refine wpAnyH_ready (rs := [10]) (by kernel_rfl) (by simp) ?_
        refine AllReadyH.cons rfl (fun K hK => ?sD33_10) AllReadyH.nil
        go_simp
        refine hK.out _ _ ?kD33_10 (fun hHeld => ?mD33_10)
        case kD33_10 =>
          try dsimp only
          exact mkS _ hbX32
        clear hK K
        try simp only [Act.put, List.setIfInBounds_toArray, List.set_cons_zero, List.set_cons_succ]
        refine wpAnyH_done (by kernel_rfl) ?_ _
        go_wp2_with fail
        go_meet
        exact ⟨_, m28, f28, g28, l28, j28, n28, i28, rfl, rfl, hsX4, zs32, ⟨fun h => (dqX32.1 h).mono (by omega), dqX32.2⟩, sh28, hbX32⟩
    case o3_8 =>
      go_simp
      refine afterAlloc (fun X34 hc34 hl34 zn34 => ?_)
      have hbX34 : Below V.heap.size V X34 := hb0.trans (hc34.mono hs0)
      have hsX34 : V.heap.size ≤ X34.heap.size := hbX34.size
      refine hK.out _ _ (mkS _ hbX34) (fun hHeld2 => ?_)
      clear hK K hHeld
      have hHeld := hHeld2
      clear hHeld2
      try simp only [Act.put, List.setIfInBounds_toArray, List.set_cons_zero, List.set_cons_succ]
      refine wpAnyH_ready (rs := [1]) (by kernel_rfl) (by simp) ?_
      refine AllReadyH.cons rfl (fun K hK => ?o35_1) AllReadyH.nil
      go_simp
      refine (own1 _ hbX34).mono ?_
      rintro e X36 ⟨p36, r36, cx36, cy36, rfl, S36, E36, hc36⟩
      have TO36 := ownT_tens S36 E36
      go_simp
      have hbX36 : Below V.heap.size V X36 := hbX34.trans (hc36.mono hsX34)
      have hsX36 : V.heap.size ≤ X36.heap.size := hbX36.size
      have zAX36 := zn34.later hc36
      have ltAX36 := zAX36.lt
      refine hK.out _ _ (mkS _ hbX36) (fun hHeld2 => ?_)
      clear hK K hHeld
      have hHeld := hHeld2
      clear hHeld2
      try simp only [Act.put, List.setIfInBounds_toArray, List.set_cons_zero, List.set_cons_succ]
      refine wpAnyH_ready (rs := [3]) (by kernel_rfl) (by simp) ?_
      refine AllReadyH.cons rfl (fun K hK => ?o37_3) AllReadyH.nil
      go_simp
      refine (own2 _ hbX36).mono ?_
      rintro e X38 ⟨p38, r38, cx38, cy38, rfl, S38, E38, hc38⟩
      have TO38 := ownT_tens S38 E38
      go_simp
      have hbX38 : Below V.heap.size V X38 := hbX36.trans (hc38.mono hsX36)
      have hsX38 : V.heap.size ≤ X38.heap.size := hbX38.size
      have o1X38 := TO36.later hc38
      have zAX38 := zAX36.later hc38
      have ltAX38 := zAX38.lt
      refine hK.out _ _ (mkS _ hbX38) (fun hHeld2 => ?_)
      clear hK K hHeld
      have hHeld := hHeld2
      clear hHeld2
      try simp only [Act.put, List.setIfInBounds_toArray, List.set_cons_zero, List.set_cons_succ]
      refine wpAnyH_ready (rs := [4]) (by kernel_rfl) (by simp) ?_
      refine AllReadyH.cons rfl (fun K hK => ?o39_4) AllReadyH.nil
      go_simp
      refine (hcode _ _ _ _ _ _ _ _ _ _ _ o1X38 TO38).mono ?_
      rintro e X40 ⟨r40, rfl, DQ40, hc40⟩
      obtain ⟨m40, f40, l40, j40, g40, n40, i40, rfl, sh40⟩ := DQ40.shape
      go_simp
      have hbX40 : Below V.heap.size V X40 := hbX38.trans (hc40.mono hsX38)
      have hsX40 : V.heap.size ≤ X40.heap.size := hbX40.size
      have o1X40 := o1X38.later hc40
      have o2X40 := TO38.later hc40
      have zAX40 := zAX38.later hc40
      have ltAX40 := zAX40.lt
      refine hK.out _ _ (mkS _ hbX40) (fun hHeld2 => ?_)
      clear hK K hHeld
      have hHeld := hHeld2
      clear hHeld2
      try simp only [Act.put, List.setIfInBounds_toArray, List.set_cons_zero, List.set_cons_succ]
      refine wpAnyH_take (i := 5) (v := ?vT41_5) rfl (by kernel_rfl) (by kernel_rfl) (by kernel_rfl) (fun _ _ _ h => h) (Or.inl ⟨by rfl, ?hT41_5⟩) (by assumption) ?rT41_5
      case hT41_5 =>
        intro w hSw
        try dsimp only at hSw
        go_simp
        try with_reducible rfl
      try simp only [Act.put, List.setIfInBounds_toArray, List.set_cons_zero, List.set_cons_succ]
      refine wpAnyH_take (i := 6) (v := ?vT42_6) rfl (by kernel_rfl) (by kernel_rfl) (by kernel_rfl) (fun _ _ _ h => h) (Or.inl ⟨by rfl, ?hT42_6⟩) (by assumption) ?rT42_6
      case hT42_6 =>
        intro w hSw
        try dsimp only at hSw
        go_simp
        try with_reducible rfl
      try simp only [Act.put, List.setIfInBounds_toArray, List.set_cons_zero, List.set_cons_succ]
      refine wpAnyH_take (i := 7) (v := ?vT43_7) rfl (by kernel_rfl) (by kernel_rfl) (by kernel_rfl) (fun _ _ _ h => h) (Or.inl ⟨by rfl, ?hT43_7⟩) (by assumption) ?rT43_7
      case hT43_7 =>
        intro w hSw
        try dsimp only at hSw
        go_simp
        try with_reducible rfl
      try simp only [Act.put, List.setIfInBounds_toArray, List.set_cons_zero, List.set_cons_succ]
      obtain ⟨d44_0, d44_1, d44_2, d44_3, d44_4, d44_5⟩ := zAX40.three
      refine wpAnyH_ready (rs := [9]) (by kernel_rfl) (by simp) ?_
      refine AllReadyH.cons rfl (fun K hK => ?s44) AllReadyH.nil
      go_simp
      refine afterSet3 zAX40 (fun X44 o44 zs44 => ?_)
      clear d44_0 d44_1 d44_2 d44_3 d44_4 d44_5
      have hbX44 : Below V.heap.size V X44 := hbX40.trans (o44.below hs0)
      have hsX44 : V.heap.size ≤ X44.heap.size := hbX44.size
      have dqX44 := DQ40.only zAX40 o44
      refine hK.out _ _ (mkS _ hbX44) (fun hHeld2 => ?_)
      clear hK K hHeld
      have hHeld := hHeld2
      clear hHeld2
      try simp only [Act.put, List.setIfInBounds_toArray, List.set_cons_zero, List.set_cons_succ]
      refine wpAnyH_ready (rs := [10]) (by kernel_rfl) (by simp) ?_
      refine AllReadyH.cons rfl (fun K hK => ?sD45_10) AllReadyH.nil
      go_simp
      refine hK.out _ _ ?kD45_10 (fun hHeld => ?mD45_10)
      case kD45_10 =>
        try dsimp only
        exact mkS _ hbX44
      clear hK K
      try simp only [Act.put, List.setIfInBounds_toArray, List.set_cons_zero, List.set_cons_succ]
      refine wpAnyH_done (by kernel_rfl) ?_ _
      go_wp2_with fail
      go_meet
      exact ⟨_, m40, f40, g40, l40, j40, n40, i40, rfl, rfl, hs0, zs44, ⟨fun h => (dqX44.1 h).mono (by omega), dqX44.2⟩, sh40, hbX44⟩
  case rest =>
    obtain ⟨g, m, f1, f2, l1, j1, l2, j2, rfl, rfl, hg, RG, DQ, hsh, B1⟩ := hcut
    have HSH := Lib.hid hsh
    have HDQ := Lib.hid DQ
    have HRG := Lib.hid RG
    have HB1 := Lib.hid B1
    have A1 := mkS _ B1
    obtain ⟨c0, c1, c2, c3⟩ := A1
    have hmayX := ref1 _ B1
    clear hsh DQ RG B1
    by_cases h1 : m1 = 0
    · subst h1
      by_cases h2 : m2 = 0
      · subst h2
        cases t
        · have d0 : d = 13 := by rw [HDM.out]; simp
          subst d0
          obtain ⟨rfl, rfl⟩ := HSH.out (by decide)
          go_wp2_with (first
            | (go_at_call 13; refine hmayX.mono ?_; rintro e y2 ⟨rfl, hb2⟩; have B2 := HB1.out.trans (hb2.mono HB1.out.size); have D2 := hb2; obtain ⟨c4, c5, c6, c7⟩ := mkS _ B2; have hmay2 := ref2 _ B2; clear hmayX c0 c1 c2 c3)
            | (go_at_call 13; refine hmay2.mono ?_; rintro e y3 ⟨rfl, hb3⟩; have B3 := B2.trans (hb3.mono B2.size); have D3 := D2.trans (hb3.mono D2.size); obtain ⟨c8, c9, c10, c11⟩ := mkS _ B3; have hs3 := hshape _ B3; clear hmay2 c4 c5 c6 c7)
            | (go_at_call 36; refine hs3.mono ?_; rintro e y4 ⟨rfl, hb4⟩; have B4 := B3.trans (hb4.mono B3.size); have D4 := D3.trans (hb4.mono D3.size); have RG4 := HRG.out.later D4; obtain ⟨x0, x1, x2, _, _, _⟩ := RG4.three; clear hs3 c8 c9 c10 c11)
            | (go_at_call 14; refine (known7_any _).mono ?_; rintro e y5 ⟨rfl, hb5⟩))
          go_ret
          exact ⟨rfl, hBV.trans ((B4.trans (hb5.mono B4.size)).mono hBV.size)⟩
        · have d0 : d = 0 := by rw [HDM.out]; simp
          subst d0
          go_wp2_with (first
            | (go_at_call 13; refine hmayX.mono ?_; rintro e y2 ⟨rfl, hb2⟩; have B2 := HB1.out.trans (hb2.mono HB1.out.size); have D2 := hb2; obtain ⟨c4, c5, c6, c7⟩ := mkS _ B2; have hmay2 := ref2 _ B2; clear hmayX c0 c1 c2 c3)
            | (go_at_call 13; refine hmay2.mono ?_; rintro e y3 ⟨rfl, hb3⟩; have B3 := B2.trans (hb3.mono B2.size); have D3 := D2.trans (hb3.mono D2.size); obtain ⟨c8, c9, c10, c11⟩ := mkS _ B3; have hs3 := hshape _ B3; clear hmay2 c4 c5 c6 c7)
            | (go_at_call 36; refine hs3.mono ?_; rintro e y4 ⟨rfl, hb4⟩; have B4 := B3.trans (hb4.mono B3.size); have D4 := D3.trans (hb4.mono D3.size); have RG4 := HRG.out.later D4; clear hs3 c8 c9 c10 c11))
          have DQ4 := (HDQ.out.1 rfl).later D4
          have mkS2 : ∀ X, Below y4.heap.size y4 X → X.cell? ⟨W.heap.size, 0, none⟩ = some (.slice a1 s1.length ca1) ∧ X.cell? ⟨W.heap.size, 1, none⟩ = some (.slice b1 q1.length cb1) ∧ X.cell? ⟨W.heap.size + 1, 0, none⟩ = some (.slice a2 s2.length ca2) ∧ X.cell? ⟨W.heap.size + 1, 1, none⟩ = some (.slice b2 q2.length cb2) ∧ X.cell? ⟨g, 0, none⟩ = some (.bool m) ∧ X.cell? ⟨g, 1, none⟩ = some (.slice f1 l1 j1) ∧ X.cell? ⟨g, 2, none⟩ = some (.slice f2 l2 j2) := fun X h => by
            obtain ⟨k0, k1, k2, k3⟩ := mkS _ (B4.trans (h.mono B4.size))
            obtain ⟨k4, k5, k6, _⟩ := (RG4.later h).three
            exact ⟨k0, k1, k2, k3, k4, k5, k6⟩
          have toV : ∀ X, Below y4.heap.size y4 X → Below V.heap.size V X := fun X h => B4.trans (h.mono B4.size)
          have F0 : Below y4.heap.size y4 y4.drew := (Below.refl _ y4).drew
          refine wp_region_held (S := fun X => X.cell? ⟨W.heap.size, 0, none⟩ = some (.slice a1 s1.length ca1) ∧ X.cell? ⟨W.heap.size, 1, none⟩ = some (.slice b1 q1.length cb1) ∧ X.cell? ⟨W.heap.size + 1, 0, none⟩ = some (.slice a2 s2.length ca2) ∧ X.cell? ⟨W.heap.size + 1, 1, none⟩ = some (.slice b2 q2.length cb2) ∧ X.cell? ⟨g, 0, none⟩ = some (.bool m) ∧ X.cell? ⟨g, 1, none⟩ = some (.slice f1 l1 j1) ∧ X.cell? ⟨g, 2, none⟩ = some (.slice f2 l2 j2)) (by kernel_rfl) ?_
          have hHeld := mkS2 _ F0
          refine wpAnyH_take (i := 0) (v := ?vg0a0) rfl (by kernel_rfl) (by kernel_rfl) (by kernel_rfl) (fun _ _ _ h => h) (Or.inl ⟨by rfl, ?hg0a0⟩) (by assumption) ?rg0a0
          case hg0a0 =>
            intro w hSw
            try dsimp only at hSw
            go_simp
            try with_reducible rfl
          try simp only [Act.put, List.setIfInBounds_toArray, List.set_cons_zero, List.set_cons_succ]
          refine wpAnyH_take (i := 1) (v := ?vg0a1) rfl (by kernel_rfl) (by kernel_rfl) (by kernel_rfl) (fun _ _ _ h => h) (Or.inl ⟨by rfl, ?hg0a1⟩) (by assumption) ?rg0a1
          case hg0a1 =>
            intro w hSw
            try dsimp only at hSw
            go_simp
            try with_reducible rfl
          try simp only [Act.put, List.setIfInBounds_toArray, List.set_cons_zero, List.set_cons_succ]
          refine wpAnyH_take (i := 2) (v := ?vg0a2) rfl (by kernel_rfl) (by kernel_rfl) (by kernel_rfl) (fun _ _ _ h => h) (Or.inl ⟨by rfl, ?hg0a2⟩) (by assumption) ?rg0a2
          case hg0a2 =>
            intro w hSw
            try dsimp only at hSw
            go_simp
            try with_reducible rfl
          try simp only [Act.put, List.setIfInBounds_toArray, List.set_cons_zero, List.set_cons_succ]
          refine wpAnyH_take (i := 3) (v := ?vg0a3) rfl (by kernel_rfl) (by kernel_rfl) (by kernel_rfl) (fun _ _ _ h => h) (Or.inl ⟨by rfl, ?hg0a3⟩) (by assumption) ?rg0a3
          case hg0a3 =>
            intro w hSw
            try dsimp only at hSw
            go_simp
            try with_reducible rfl
          try simp only [Act.put, List.setIfInBounds_toArray, List.set_cons_zero, List.set_cons_succ]
          refine wpAnyH_take (i := 5) (v := ?vg0a5) rfl (by kernel_rfl) (by kernel_rfl) (by kernel_rfl) (fun _ _ _ h => h) (Or.inl ⟨by rfl, ?hg0a5⟩) (by assumption) ?rg0a5
          case hg0a5 =>
            intro w hSw
            try dsimp only at hSw
            go_simp
            try with_reducible rfl
          try simp only [Act.put, List.setIfInBounds_toArray, List.set_cons_zero, List.set_cons_succ]
          refine wpAnyH_take (i := 8) (v := ?vg0a8) rfl (by kernel_rfl) (by kernel_rfl) (by kernel_rfl) (fun _ _ _ h => h) (Or.inl ⟨by rfl, ?hg0a8⟩) (by assumption) ?rg0a8
          case hg0a8 =>
            intro w hSw
            try dsimp only at hSw
            go_simp
            try with_reducible rfl
          try simp only [Act.put, List.setIfInBounds_toArray, List.set_cons_zero, List.set_cons_succ]
          refine wpAnyH_ready (rs := [4]) (by kernel_rfl) (by simp) ?_
          refine AllReadyH.cons rfl (fun K hK => ?sg1c4) AllReadyH.nil
          go_simp
          refine (of1 _ (toV _ F0)).mono ?_
          rintro e w1 ⟨p4, r4, cx4, cy4, rfl, S4, E4, hy⟩
          have F1 : Below y4.heap.size y4 w1 := F0.trans (hy.mono F0.size)
          have G1 := hy
          clear hy
          have TD := ofT_tens (by simp) S4 E4
          go_simp
          refine hK.out _ _ ?kg1c4 (fun hHeld => ?mg1c4)
          case kg1c4 =>
            try dsimp only
            exact mkS2 _ F1
          clear hK K
          try simp only [Act.put, List.setIfInBounds_toArray, List.set_cons_zero, List.set_cons_succ]
          refine wpAnyH_ready (rs := [6]) (by kernel_rfl) (by simp) ?_
          refine AllReadyH.cons rfl (fun K hK => ?sg2c6) AllReadyH.nil
          go_simp
          refine (of2 _ (toV _ F1)).mono ?_
          rintro e w2 ⟨p5, r5, cx5, cy5, rfl, S5, E5, hy⟩
          have F2 : Below y4.heap.size y4 w2 := F1.trans (hy.mono F1.size)
          have G2 := hy
          clear hy
          have TE := ofT_tens (by simp) S5 E5
          have TD2 := TD.later G2
          go_simp
          refine hK.out _ _ ?kg2c6 (fun hHeld => ?mg2c6)
          case kg2c6 =>
            try dsimp only
            exact mkS2 _ F2
          clear hK K
          try simp only [Act.put, List.setIfInBounds_toArray, List.set_cons_zero, List.set_cons_succ]
          refine wpAnyH_ready (rs := [7]) (by kernel_rfl) (by simp) ?_
          refine AllReadyH.cons rfl (fun K hK => ?sg3c7) AllReadyH.nil
          go_simp
          refine (hrefd (by first | rfl | trivial) _ _ _ _ _ _ _ _ _ _ _ TD2 TE).mono ?_
          rintro e w3 ⟨rd, rfl, AD, hy⟩
          have F3 : Below y4.heap.size y4 w3 := F2.trans (hy.mono F2.size)
          have G3 := hy
          clear hy
          go_simp
          refine hK.out _ _ ?kg3c7 (fun hHeld => ?mg3c7)
          case kg3c7 =>
            try dsimp only
            exact mkS2 _ F3
          clear hK K
          try simp only [Act.put, List.setIfInBounds_toArray, List.set_cons_zero, List.set_cons_succ]
          refine wpAnyH_ready (rs := [9]) (by kernel_rfl) (by simp) ?_
          refine AllReadyH.cons rfl (fun K hK => ?sg4c9) AllReadyH.nil
          go_simp
          refine (isR_true AD (DQ4.later F3) (by omega) (by omega)).mono ?_
          rintro e w4 ⟨rfl, hy⟩
          have F4 : Below y4.heap.size y4 w4 := F3.trans (hy.mono F3.size)
          have G4 := hy
          clear hy
          go_simp
          refine hK.out _ _ ?kg4c9 (fun hHeld => ?mg4c9)
          case kg4c9 =>
            try dsimp only
            exact mkS2 _ F4
          clear hK K
          try simp only [Act.put, List.setIfInBounds_toArray, List.set_cons_zero, List.set_cons_succ]
          refine wpAnyH_take (i := 10) (v := ?vg4a10) rfl (by kernel_rfl) (by kernel_rfl) (by kernel_rfl) (fun _ _ _ h => h) (Or.inl ⟨by rfl, ?hg4a10⟩) (by assumption) ?rg4a10
          case hg4a10 =>
            intro w hSw
            try dsimp only at hSw
            go_simp
            try with_reducible rfl
          try simp only [Act.put, List.setIfInBounds_toArray, List.set_cons_zero, List.set_cons_succ]
          refine wpAnyH_take (i := 11) (v := ?vg4a11) rfl (by kernel_rfl) (by kernel_rfl) (by kernel_rfl) (fun _ _ _ h => h) (Or.inl ⟨by rfl, ?hg4a11⟩) (by assumption) ?rg4a11
          case hg4a11 =>
            intro w hSw
            try dsimp only at hSw
            go_simp
            try with_reducible rfl
          try simp only [Act.put, List.setIfInBounds_toArray, List.set_cons_zero, List.set_cons_succ]
          refine wpAnyH_ready (rs := [12]) (by kernel_rfl) (by simp) ?_
          refine AllReadyH.cons rfl (fun K hK => ?sg5c12) AllReadyH.nil
          go_simp
          refine (known7_any _).mono ?_
          rintro e w5 ⟨rfl, hy⟩
          have F5 : Below y4.heap.size y4 w5 := F4.trans (hy.mono F4.size)
          have G5 := hy
          clear hy
          go_simp
          refine hK.out _ _ ?kg5c12 (fun hHeld => ?mg5c12)
          case kg5c12 =>
            try dsimp only
            exact mkS2 _ F5
          clear hK K
          try simp only [Act.put, List.setIfInBounds_toArray, List.set_cons_zero, List.set_cons_succ]
          refine wpAnyH_take (i := 13) (v := ?vg5a13) rfl (by kernel_rfl) (by kernel_rfl) (by kernel_rfl) (fun _ _ _ h => h) (Or.inl ⟨by rfl, ?hg5a13⟩) (by assumption) ?rg5a13
          case hg5a13 =>
            intro w hSw
            try dsimp only at hSw
            go_simp
            try with_reducible rfl
          try simp only [Act.put, List.setIfInBounds_toArray, List.set_cons_zero, List.set_cons_succ]
          refine wpAnyH_ready (rs := [14]) (by kernel_rfl) (by simp) ?_
          refine AllReadyH.cons rfl (fun K hK => ?sg5d14) AllReadyH.nil
          go_simp
          refine hK.out _ _ ?kg5d14 (fun hHeld => ?mg5d14)
          case kg5d14 =>
            try dsimp only
            exact mkS2 _ F5
          clear hK K
          try simp only [Act.put, List.setIfInBounds_toArray, List.set_cons_zero, List.set_cons_succ]
          refine wpAnyH_done (by kernel_rfl) ?_ _
          go_wp2
          go_ret
          exact ⟨rfl, hBV.trans ((toV _ F5).mono hBV.size)⟩
      · have hne : (m2 != 0) = true := by simp [h2]
        have hne2 : (m2 == 0) = false := by simp [h2]
        obtain rfl : d = m2 := by rw [HDM.out]; simp [h2]
        obtain ⟨rfl, rfl⟩ := HSH.out h2
        go_wp2_with (first
          | (go_at_call 13; refine hmayX.mono ?_; rintro e y2 ⟨rfl, hb2⟩; have B2 := HB1.out.trans (hb2.mono HB1.out.size); have D2 := hb2; obtain ⟨c4, c5, c6, c7⟩ := mkS _ B2; have hmay2 := ref2 _ B2; clear hmayX c0 c1 c2 c3)
          | (go_at_call 13; refine hmay2.mono ?_; rintro e y3 ⟨rfl, hb3⟩; have B3 := B2.trans (hb3.mono B2.size); have D3 := D2.trans (hb3.mono D2.size); obtain ⟨x0, x1, x2, _, _, _⟩ := (HRG.out.later D3).three; clear hmay2 c4 c5 c6 c7)
          | (go_at_call 14; refine (known7_any _).mono ?_; rintro e y5 ⟨rfl, hb5⟩))
        go_ret
        exact ⟨rfl, hBV.trans ((B3.trans (hb5.mono B3.size)).mono hBV.size)⟩
    · have hne : (m1 != 0) = true := by simp [h1]
      have hne2 : (m1 == 0) = false := by simp [h1]
      obtain rfl : d = m1 := by rw [HDM.out]; simp [h1]
      obtain ⟨rfl, rfl⟩ := HSH.out h1
      go_wp2_with (first
        | (go_at_call 13; refine hmayX.mono ?_; rintro e y2 ⟨rfl, hb2⟩; have B2 := HB1.out.trans (hb2.mono HB1.out.size); obtain ⟨x0, x1, x2, _, _, _⟩ := (HRG.out.later hb2).three; clear hmayX c0 c1 c2 c3)
        | (go_at_call 14; refine (known7_any _).mono ?_; rintro e y5 ⟨rfl, hb5⟩))
      go_ret
      exact ⟨rfl, hBV.trans ((B2.trans (hb5.mono B2.size)).mono hBV.size)⟩
end Go.Proofs.YtnhfjacifajdlaaGreat
