/-
  Layer 7's laws: the helper sameRaw, of two tensors that hold the same.
-/
import Derived.Test.YtnhfjacifajdlaaGreatTLimb
import Derived.Test.YtnhfjacifajdlaaGreatTReg
namespace Go.Proofs.YtnhfjacifajdlaaGreat
open Go.RowKit
set_option linter.unusedVariables false
set_option linter.unusedSimpArgs false

set_option maxRecDepth 100000 in
set_option maxHeartbeats 8000000 in
theorem sameW_true {n : Nat} {w : World} {u v : Value} {s : List Int} {qs : List Q3} {a1 b1 a2 b2 : Option Addr} {ca1 cb1 ca2 cb2 : Nat} (T1 : TensQ w u s qs a1 ca1 b1 cb1) (T2 : TensQ w v s qs a2 ca2 b2 cb2) (hs : s.length ≤ 140737488355328) (hq : qs.length ≤ 1000000000) (hn : n ≤ 4000000) (hl : ∀ q ∈ qs, q.num.length ≤ n ∧ q.den.length ≤ n) :
    Calls Tryz.prog 26 #[u, v] w fun e w' => e = .returned (.bool true) ∧ Below w.heap.size w w' := by
  have HT1 := Lib.hid T1
  have HT2 := Lib.hid T2
  obtain rfl := T1.is
  obtain rfl := T2.is
  obtain ⟨W, hW⟩ : ∃ W, ((w.alloc (.cells #[.slice a1 s.length ca1, .slice b1 qs.length cb1] 26)).alloc (.cells #[.slice a2 s.length ca2, .slice b2 qs.length cb2] 26)) = W := ⟨_, rfl⟩
  have R0 : Row W w.heap.size 26 #[.slice a1 s.length ca1, .slice b1 qs.length cb1] := by rw [← hW]; exact (Row.new _ _ _).alloc _
  have R1 : Row W (w.heap.size + 1) 26 #[.slice a2 s.length ca2, .slice b2 qs.length cb2] := by rw [← hW]; have h := (Row.new (w.alloc (.cells #[.slice a1 s.length ca1, .slice b1 qs.length cb1] 26)) 26 #[.slice a2 s.length ca2, .slice b2 qs.length cb2]); simp only [World.size_alloc] at h; exact h
  have hBW : Below w.heap.size w W := by rw [← hW]; exact ((Below.refl _ _).alloc (by simp) _).alloc (by simp) _
  have q1 := sameSh_any (HT1.out.sh.later hBW) (HT2.out.sh.later hBW) hs
  rw [decide_eq_true (rfl : s = s)] at q1
  obtain ⟨p0, p1, _, _⟩ := R0.two
  obtain ⟨o0, o1, _, _⟩ := R1.two
  clear T1 T2
  have hne : ((qs.length : Int) != (qs.length : Int)) = false := by simp
  go_enter Tryz.func26, Tryz.ntmps26
  go_wp2_with (go_at_call 36; refine q1.mono ?_; rintro e w1 ⟨rfl, hb1⟩; have R0' := R0.later hb1; have R1' := R1.later hb1; obtain ⟨c00, c01, _, _⟩ := R0'.two; obtain ⟨c10, c11, _, _⟩ := R1'.two)
  have hBW1 : Below w.heap.size w w1 := hBW.trans (hb1.mono hBW.size)
  clear hne q1 hW c00 c01 c10 c11
  go_loopw [5] (fun i wr => ∃ k : Nat, i = .int .i64 (k : Int) ∧ k ≤ qs.length ∧ Below w1.heap.size w1 wr) (fun i _ => qs.length - (intOf i).toNat)
  case atStart => exact ⟨0, rfl, Nat.zero_le _, Below.refl _ _⟩
  case round =>
    obtain ⟨k, rfl, hk, hb⟩ := hrel
    have r0 := R0'.later hb
    have r1 := R1'.later hb
    obtain ⟨c00, c01, _, _⟩ := r0.two
    obtain ⟨c10, c11, _, _⟩ := r1.two
    by_cases hlt : k < qs.length
    · have hbw := hBW1.trans (hb.mono hBW1.size)
      obtain ⟨bb, o, x0, x1, x2, q, hbo, hqk, e0, e1, e2, hraw⟩ := (HT1.out.el.later hbw (fun v x _ k => k.later hbw)).at hlt
      obtain ⟨bd, od, y0, y1, y2, t, hbd, htk, d0, d1, d2, hrat⟩ := (HT2.out.el.later hbw (fun v x _ k => k.later hbw)).at hlt
      rw [hqk] at htk
      cases htk
      have hm1 := List.mem_of_getElem? hqk
      subst hbo
      subst hbd
      obtain ⟨lq1, lq2⟩ := hl q hm1
      have hltI : (k : Int) < (qs.length : Int) := by omega
      obtain ⟨ad1, bd1, ca1', cb1', hx, A1, B1, _⟩ := hraw
      obtain ⟨ad2, bd2, ca2', cb2', hy, A2, B2, _⟩ := hrat
      simp only [Value.agg.injEq, Array.mk.injEq, List.cons.injEq, and_true] at hx hy
      obtain ⟨rfl, rfl, rfl⟩ := hx
      obtain ⟨rfl, rfl, rfl⟩ := hy
      have HA1 := Lib.hid A1
      have HA2 := Lib.hid A2
      have HB1 := Lib.hid B1
      have HB2 := Lib.hid B2
      clear A1 A2 B1 B2 hqk hm1
      have mkS : ∀ X, Below wr.heap.size wr X → X.cell? ⟨w.heap.size, 1, none⟩ = some (.slice (some ⟨bb, o, none⟩) qs.length cb1) ∧ X.cell? ⟨w.heap.size + 1, 1, none⟩ = some (.slice (some ⟨bd, od, none⟩) qs.length cb2) ∧ X.cell? ⟨bb, o + k * 3, none⟩ = some (.bool q.neg) ∧ X.cell? ⟨bb, o + k * 3 + 1, none⟩ = some (.slice ad1 q.num.length ca1') ∧ X.cell? ⟨bb, o + k * 3 + 2, none⟩ = some (.slice bd1 q.den.length cb1') ∧ X.cell? ⟨bd, od + k * 3, none⟩ = some (.bool q.neg) ∧ X.cell? ⟨bd, od + k * 3 + 1, none⟩ = some (.slice ad2 q.num.length ca2') ∧ X.cell? ⟨bd, od + k * 3 + 2, none⟩ = some (.slice bd2 q.den.length cb2') := fun X h =>
        ⟨(h.cell (World.block_lt_of_cell? wr _ c01)).trans c01, (h.cell (World.block_lt_of_cell? wr _ c11)).trans c11, (h.cell (World.block_lt_of_cell? wr _ e0)).trans e0, (h.cell (World.block_lt_of_cell? wr _ e1)).trans e1, (h.cell (World.block_lt_of_cell? wr _ e2)).trans e2, (h.cell (World.block_lt_of_cell? wr _ d0)).trans d0, (h.cell (World.block_lt_of_cell? wr _ d1)).trans d1, (h.cell (World.block_lt_of_cell? wr _ d2)).trans d2⟩
      go_wp2
      refine wp_region_held_drew (S := fun X => X.cell? ⟨w.heap.size, 1, none⟩ = some (.slice (some ⟨bb, o, none⟩) qs.length cb1) ∧ X.cell? ⟨w.heap.size + 1, 1, none⟩ = some (.slice (some ⟨bd, od, none⟩) qs.length cb2) ∧ X.cell? ⟨bb, o + k * 3, none⟩ = some (.bool q.neg) ∧ X.cell? ⟨bb, o + k * 3 + 1, none⟩ = some (.slice ad1 q.num.length ca1') ∧ X.cell? ⟨bb, o + k * 3 + 2, none⟩ = some (.slice bd1 q.den.length cb1') ∧ X.cell? ⟨bd, od + k * 3, none⟩ = some (.bool q.neg) ∧ X.cell? ⟨bd, od + k * 3 + 1, none⟩ = some (.slice ad2 q.num.length ca2') ∧ X.cell? ⟨bd, od + k * 3 + 2, none⟩ = some (.slice bd2 q.den.length cb2')) (by kernel_rfl) (mkS _ ((Below.refl wr.heap.size wr).drew)) (fun hHeld => ?_)
      refine wpAnyH_take (i := 0) (v := ?vT1_0) rfl (by kernel_rfl) (by kernel_rfl) (by kernel_rfl) (fun _ _ _ h => h) (Or.inl ⟨by rfl, ?hT1_0⟩) (by assumption) ?rT1_0
      case hT1_0 =>
        intro w hSw
        try dsimp only at hSw
        go_simp
        try with_reducible rfl
      try simp only [Act.put, List.setIfInBounds_toArray, List.set_cons_zero, List.set_cons_succ]
      refine wpAnyH_take (i := 1) (v := ?vT2_1) rfl (by kernel_rfl) (by kernel_rfl) (by kernel_rfl) (fun _ _ _ h => h) (Or.inl ⟨by rfl, ?hT2_1⟩) (by assumption) ?rT2_1
      case hT2_1 =>
        intro w hSw
        try dsimp only at hSw
        go_simp
        try with_reducible rfl
      try simp only [Act.put, List.setIfInBounds_toArray, List.set_cons_zero, List.set_cons_succ]
      refine wpAnyH_take (i := 2) (v := ?vT3_2) rfl (by kernel_rfl) (by kernel_rfl) (by kernel_rfl) (fun _ _ _ h => h) (Or.inl ⟨by rfl, ?hT3_2⟩) (by assumption) ?rT3_2
      case hT3_2 =>
        intro w hSw
        try dsimp only at hSw
        go_simp
        try with_reducible rfl
      try simp only [Act.put, List.setIfInBounds_toArray, List.set_cons_zero, List.set_cons_succ]
      refine wpAnyH_take (i := 3) (v := ?vT4_3) rfl (by kernel_rfl) (by kernel_rfl) (by kernel_rfl) (fun _ _ _ h => h) (Or.inl ⟨by rfl, ?hT4_3⟩) (by assumption) ?rT4_3
      case hT4_3 =>
        intro w hSw
        try dsimp only at hSw
        go_simp
        try with_reducible rfl
      try simp only [Act.put, List.setIfInBounds_toArray, List.set_cons_zero, List.set_cons_succ]
      refine wpAnyH_take (i := 4) (v := ?vT5_4) rfl (by kernel_rfl) (by kernel_rfl) (by kernel_rfl) (fun _ _ _ h => h) (Or.inl ⟨by rfl, ?hT5_4⟩) (by assumption) ?rT5_4
      case hT5_4 =>
        intro w hSw
        try dsimp only at hSw
        go_simp
        try with_reducible rfl
      try simp only [Act.put, List.setIfInBounds_toArray, List.set_cons_zero, List.set_cons_succ]
      refine wpAnyH_take (i := 5) (v := ?vT6_5) rfl (by kernel_rfl) (by kernel_rfl) (by kernel_rfl) (fun _ _ _ h => h) (Or.inl ⟨by rfl, ?hT6_5⟩) (by assumption) ?rT6_5
      case hT6_5 =>
        intro w hSw
        try dsimp only at hSw
        go_simp
        try with_reducible rfl
      try simp only [Act.put, List.setIfInBounds_toArray, List.set_cons_zero, List.set_cons_succ]
      refine wpAnyH_take (i := 6) (v := ?vT7_6) rfl (by kernel_rfl) (by kernel_rfl) (by kernel_rfl) (fun _ _ _ h => h) (Or.inl ⟨by rfl, ?hT7_6⟩) (by assumption) ?rT7_6
      case hT7_6 =>
        intro w hSw
        try dsimp only at hSw
        go_simp
        try with_reducible rfl
      try simp only [Act.put, List.setIfInBounds_toArray, List.set_cons_zero, List.set_cons_succ]
      refine wpAnyH_take (i := 7) (v := ?vT8_7) rfl (by kernel_rfl) (by kernel_rfl) (by kernel_rfl) (fun _ _ _ h => h) (Or.inl ⟨by rfl, ?hT8_7⟩) (by assumption) ?rT8_7
      case hT8_7 =>
        intro w hSw
        try dsimp only at hSw
        go_simp
        try with_reducible rfl
      try simp only [Act.put, List.setIfInBounds_toArray, List.set_cons_zero, List.set_cons_succ]
      refine wpAnyH_take (i := 8) (v := ?vT9_8) rfl (by kernel_rfl) (by kernel_rfl) (by kernel_rfl) (fun _ _ _ h => h) (Or.inl ⟨by rfl, ?hT9_8⟩) (by assumption) ?rT9_8
      case hT9_8 =>
        intro w hSw
        try dsimp only at hSw
        go_simp
        try with_reducible rfl
      try simp only [Act.put, List.setIfInBounds_toArray, List.set_cons_zero, List.set_cons_succ]
      refine wpAnyH_take (i := 9) (v := ?vT10_9) rfl (by kernel_rfl) (by kernel_rfl) (by kernel_rfl) (fun _ _ _ h => h) (Or.inl ⟨by rfl, ?hT10_9⟩) (by assumption) ?rT10_9
      case hT10_9 =>
        intro w hSw
        try dsimp only at hSw
        go_simp
        try with_reducible rfl
      try simp only [Act.put, List.setIfInBounds_toArray, List.set_cons_zero, List.set_cons_succ]
      obtain ⟨X0, hV0⟩ : ∃ V, wr.drew = V := ⟨_, rfl⟩
      rw [hV0] at hHeld
      rw [hV0]
      have hb0 : Below wr.heap.size wr X0 := by rw [← hV0]; exact (Below.refl _ _).drew
      have hs0 : wr.heap.size ≤ X0.heap.size := hb0.size
      clear hV0
      refine wpAnyH_ready (rs := [10, 11]) (by kernel_rfl) (by simp) ?_
      refine AllReadyH.cons rfl (fun K hK => ?o11_10) (AllReadyH.cons rfl (fun K hK => ?o11_11) AllReadyH.nil)
      case o11_10 =>
        go_simp
        refine afterAlloc (fun X12 hc12 hl12 zn12 => ?_)
        have hbX12 : Below wr.heap.size wr X12 := hb0.trans (hc12.mono hs0)
        have hsX12 : wr.heap.size ≤ X12.heap.size := hbX12.size
        refine hK.out _ _ (mkS _ hbX12) (fun hHeld2 => ?_)
        clear hK K hHeld
        have hHeld := hHeld2
        clear hHeld2
        try simp only [Act.put, List.setIfInBounds_toArray, List.set_cons_zero, List.set_cons_succ]
        refine wpAnyH_ready (rs := [11]) (by kernel_rfl) (by simp) ?_
        refine AllReadyH.cons rfl (fun K hK => ?o13_11) AllReadyH.nil
        go_simp
        refine afterAlloc (fun X14 hc14 hl14 zn14 => ?_)
        have hbX14 : Below wr.heap.size wr X14 := hbX12.trans (hc14.mono hsX12)
        have hsX14 : wr.heap.size ≤ X14.heap.size := hbX14.size
        have zAX14 := zn12.later hc14
        have ltAX14 := zAX14.lt
        refine hK.out _ _ (mkS _ hbX14) (fun hHeld2 => ?_)
        clear hK K hHeld
        have hHeld := hHeld2
        clear hHeld2
        try simp only [Act.put, List.setIfInBounds_toArray, List.set_cons_zero, List.set_cons_succ]
        obtain ⟨d15_0, d15_1, d15_2, d15_3, d15_4, d15_5⟩ := zAX14.three
        refine wpAnyH_ready (rs := [12]) (by kernel_rfl) (by simp) ?_
        refine AllReadyH.cons rfl (fun K hK => ?s15) AllReadyH.nil
        go_simp
        refine afterSet3 zAX14 (fun X15 o15 zs15 => ?_)
        clear d15_0 d15_1 d15_2 d15_3 d15_4 d15_5
        have hbX15 : Below wr.heap.size wr X15 := hbX14.trans (o15.below hs0)
        have hsX15 : wr.heap.size ≤ X15.heap.size := hbX15.size
        have zBX15 := zn14.only o15 (by omega)
        refine hK.out _ _ (mkS _ hbX15) (fun hHeld2 => ?_)
        clear hK K hHeld
        have hHeld := hHeld2
        clear hHeld2
        try simp only [Act.put, List.setIfInBounds_toArray, List.set_cons_zero, List.set_cons_succ]
        obtain ⟨d16_0, d16_1, d16_2, d16_3, d16_4, d16_5⟩ := zBX15.three
        refine wpAnyH_ready (rs := [13]) (by kernel_rfl) (by simp) ?_
        refine AllReadyH.cons rfl (fun K hK => ?s16) AllReadyH.nil
        go_simp
        refine afterSet3 zBX15 (fun X16 o16 zs16 => ?_)
        clear d16_0 d16_1 d16_2 d16_3 d16_4 d16_5
        have hbX16 : Below wr.heap.size wr X16 := hbX15.trans (o16.below hsX12)
        have hsX16 : wr.heap.size ≤ X16.heap.size := hbX16.size
        have zAX16 := zs15.only o16 (by omega)
        refine hK.out _ _ (mkS _ hbX16) (fun hHeld2 => ?_)
        clear hK K hHeld
        have hHeld := hHeld2
        clear hHeld2
        try simp only [Act.put, List.setIfInBounds_toArray, List.set_cons_zero, List.set_cons_succ]
        refine wpAnyH_done (by kernel_rfl) ?_ _
        have hbX : Below wr.heap.size wr X16 := hbX16
        obtain ⟨m0, m1, m2, _, _, _⟩ := zAX16.three
        obtain ⟨l0, l1, l2, _, _, _⟩ := zs16.three
        have k1 := limbs7_any (HA1.out.later hbX) (HA2.out.later hbX) (by omega)
        rw [decide_eq_true (rfl : q.num = q.num)] at k1
        have HRA := Lib.hid zAX16
        have HRB := Lib.hid zs16
        have hqq : (q.neg != q.neg) = false := by simp
        go_wp2_with (first
          | (go_at_call 62; refine k1.mono ?_; rintro e w3 ⟨rfl, hb3⟩; obtain ⟨m3, m4, m5, _, _, _⟩ := (HRA.out.later hb3).three; obtain ⟨l3, l4, l5, _, _, _⟩ := (HRB.out.later hb3).three; have k2 := limbs7_any ((HB1.out.later hbX).later hb3) ((HB2.out.later hbX).later hb3) (by omega); rw [decide_eq_true (rfl : q.den = q.den)] at k2; clear k1)
          | (go_at_call 62; refine k2.mono ?_; rintro e w4 ⟨rfl, hb4⟩))
        go_roundw
        case rel => exact ⟨k + 1, by go_num, by omega, hb.trans ((hbX.trans ((hb3.trans (hb4.mono hb3.size)).mono hbX.size)).mono hb.size)⟩
        case measure => simp [intOf]; omega
      case o11_11 =>
        go_simp
        refine afterAlloc (fun X17 hc17 hl17 zn17 => ?_)
        have hbX17 : Below wr.heap.size wr X17 := hb0.trans (hc17.mono hs0)
        have hsX17 : wr.heap.size ≤ X17.heap.size := hbX17.size
        refine hK.out _ _ (mkS _ hbX17) (fun hHeld2 => ?_)
        clear hK K hHeld
        have hHeld := hHeld2
        clear hHeld2
        try simp only [Act.put, List.setIfInBounds_toArray, List.set_cons_zero, List.set_cons_succ]
        refine wpAnyH_ready (rs := [10]) (by kernel_rfl) (by simp) ?_
        refine AllReadyH.cons rfl (fun K hK => ?o18_10) AllReadyH.nil
        go_simp
        refine afterAlloc (fun X19 hc19 hl19 zn19 => ?_)
        have hbX19 : Below wr.heap.size wr X19 := hbX17.trans (hc19.mono hsX17)
        have hsX19 : wr.heap.size ≤ X19.heap.size := hbX19.size
        have zBX19 := zn17.later hc19
        have ltBX19 := zBX19.lt
        refine hK.out _ _ (mkS _ hbX19) (fun hHeld2 => ?_)
        clear hK K hHeld
        have hHeld := hHeld2
        clear hHeld2
        try simp only [Act.put, List.setIfInBounds_toArray, List.set_cons_zero, List.set_cons_succ]
        obtain ⟨d20_0, d20_1, d20_2, d20_3, d20_4, d20_5⟩ := zn19.three
        refine wpAnyH_ready (rs := [12]) (by kernel_rfl) (by simp) ?_
        refine AllReadyH.cons rfl (fun K hK => ?s20) AllReadyH.nil
        go_simp
        refine afterSet3 zn19 (fun X20 o20 zs20 => ?_)
        clear d20_0 d20_1 d20_2 d20_3 d20_4 d20_5
        have hbX20 : Below wr.heap.size wr X20 := hbX19.trans (o20.below hsX17)
        have hsX20 : wr.heap.size ≤ X20.heap.size := hbX20.size
        have zBX20 := zBX19.only o20 (by omega)
        refine hK.out _ _ (mkS _ hbX20) (fun hHeld2 => ?_)
        clear hK K hHeld
        have hHeld := hHeld2
        clear hHeld2
        try simp only [Act.put, List.setIfInBounds_toArray, List.set_cons_zero, List.set_cons_succ]
        obtain ⟨d21_0, d21_1, d21_2, d21_3, d21_4, d21_5⟩ := zBX20.three
        refine wpAnyH_ready (rs := [13]) (by kernel_rfl) (by simp) ?_
        refine AllReadyH.cons rfl (fun K hK => ?s21) AllReadyH.nil
        go_simp
        refine afterSet3 zBX20 (fun X21 o21 zs21 => ?_)
        clear d21_0 d21_1 d21_2 d21_3 d21_4 d21_5
        have hbX21 : Below wr.heap.size wr X21 := hbX20.trans (o21.below hs0)
        have hsX21 : wr.heap.size ≤ X21.heap.size := hbX21.size
        have zAX21 := zs20.only o21 (by omega)
        refine hK.out _ _ (mkS _ hbX21) (fun hHeld2 => ?_)
        clear hK K hHeld
        have hHeld := hHeld2
        clear hHeld2
        try simp only [Act.put, List.setIfInBounds_toArray, List.set_cons_zero, List.set_cons_succ]
        refine wpAnyH_done (by kernel_rfl) ?_ _
        have hbX : Below wr.heap.size wr X21 := hbX21
        obtain ⟨m0, m1, m2, _, _, _⟩ := zAX21.three
        obtain ⟨l0, l1, l2, _, _, _⟩ := zs21.three
        have k1 := limbs7_any (HA1.out.later hbX) (HA2.out.later hbX) (by omega)
        rw [decide_eq_true (rfl : q.num = q.num)] at k1
        have HRA := Lib.hid zAX21
        have HRB := Lib.hid zs21
        have hqq : (q.neg != q.neg) = false := by simp
        go_wp2_with (first
          | (go_at_call 62; refine k1.mono ?_; rintro e w3 ⟨rfl, hb3⟩; obtain ⟨m3, m4, m5, _, _, _⟩ := (HRA.out.later hb3).three; obtain ⟨l3, l4, l5, _, _, _⟩ := (HRB.out.later hb3).three; have k2 := limbs7_any ((HB1.out.later hbX).later hb3) ((HB2.out.later hbX).later hb3) (by omega); rw [decide_eq_true (rfl : q.den = q.den)] at k2; clear k1)
          | (go_at_call 62; refine k2.mono ?_; rintro e w4 ⟨rfl, hb4⟩))
        go_roundw
        case rel => exact ⟨k + 1, by go_num, by omega, hb.trans ((hbX.trans ((hb3.trans (hb4.mono hb3.size)).mono hbX.size)).mono hb.size)⟩
        case measure => simp [intOf]; omega
    · obtain rfl : k = qs.length := by omega
      have hltI : ¬ (qs.length : Int) < (qs.length : Int) := by omega
      go_wp2
      go_ret
      exact ⟨rfl, hBW1.trans (hb.mono hBW1.size)⟩
end Go.Proofs.YtnhfjacifajdlaaGreat
