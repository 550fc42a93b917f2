/-
  The reference of layer 7: Dot. (Made by wip/gen/gen_tdot.py.)
-/
import Derived.Test.YtnhfjacifajdlaaGreatTFit
namespace Go.Proofs.YtnhfjacifajdlaaGreat
open Go.RowKit
set_option linter.unusedVariables false
set_option linter.unusedSimpArgs false

set_option maxRecDepth 100000 in
set_option maxHeartbeats 8000000 in
theorem dotT_any {n B : Nat} {w : World} {u v : Value} {s1 s2 : List Int} {L1 L2 : List Rat} {a1 b1 a2 b2 : Option Addr} {ca1 cb1 ca2 cb2 : Nat} (T1 : TensR w u s1 L1 n a1 ca1 b1 cb1) (T2 : TensR w v s2 L2 n a2 ca2 b2 cb2) (hlen : L2.length = L1.length)
    (hfit : ∀ k, k ≤ L1.length → FitQ (dotN L1 L2 k) B) (hn : n ≤ 100000000) (h5 : 5 ≤ n) (hB : B ≤ 100000000) (hq : L1.length ≤ 1000000000) :
    Calls Tryz.prog 37 #[u, v] w fun e w' => ∃ r, e = .returned r ∧ ArgR w' r (dotN L1 L2 L1.length) (B / 13 + 1) ∧ Below w.heap.size w w' := by
  have HT1 := Lib.hid T1
  have HT2 := Lib.hid T2
  obtain rfl := T1.is
  obtain rfl := T2.is
  rw [hlen]
  have HLN := Lib.hid hlen
  obtain ⟨W, hW⟩ : ∃ W, ((w.alloc (.cells #[.slice a1 s1.length ca1, .slice b1 L1.length cb1] 39)).alloc (.cells #[.slice a2 s2.length ca2, .slice b2 L1.length cb2] 39)).alloc (.cells #[.bool false, .slice none 0 0, .slice none 0 0] 50) = W := ⟨_, rfl⟩
  have R0 : Row W w.heap.size 39 #[.slice a1 s1.length ca1, .slice b1 L1.length cb1] := by rw [← hW]; exact ((Row.new _ _ _).alloc _).alloc _
  have R1 : Row W (w.heap.size + 1) 39 #[.slice a2 s2.length ca2, .slice b2 L1.length cb2] := by rw [← hW]; have h := (Row.new (w.alloc (.cells #[.slice a1 s1.length ca1, .slice b1 L1.length cb1] 39)) 39 #[.slice a2 s2.length ca2, .slice b2 L1.length cb2]).alloc (.cells #[.bool false, .slice none 0 0, .slice none 0 0] 50); simp only [World.size_alloc] at h; exact h
  have RR : Row W (w.heap.size + 1 + 1) 50 #[.bool false, .slice none 0 0, .slice none 0 0] := by rw [← hW]; have h := (Row.new ((w.alloc (.cells #[.slice a1 s1.length ca1, .slice b1 L1.length cb1] 39)).alloc (.cells #[.slice a2 s2.length ca2, .slice b2 L1.length cb2] 39)) 50 #[.bool false, .slice none 0 0, .slice none 0 0]); simp only [World.size_alloc] at h; exact h
  have hBW : Below w.heap.size w W := by rw [← hW]; exact (((Below.refl _ _).alloc (by simp) _).alloc (by simp) _).alloc (by simp; omega) _
  have hsW : w.heap.size + 1 + 1 + 1 ≤ W.heap.size := by rw [← hW]; simp
  have q1 := intR_any 0 W (by omega) (by omega)
  rw [intQ_zero] at q1
  clear T1 T2 hlen
  go_enter Tryz.func37, Tryz.ntmps37
  go_wp2_with (go_at_call 51; refine q1.mono ?_; rintro e w1 ⟨r0v, rfl, z0, hb1⟩; have Z0 := Lib.hid (z0.refit (FitQ.zero B)); obtain ⟨zz, yy, fz, gz, jz, kz, rfl, _⟩ := z0)
  have hs1 := hb1.size
  have hB1 : Below w.heap.size w w1 := hBW.trans (hb1.mono (by omega))
  clear hW q1
  have hz : decide ((0 : Rat).num < 0) = false := rfl
  have Z1 := Z0.out
  rw [hz] at Z1
  have hB2 : Below w.heap.size w (w1.alloc (.cells #[.bool false, .slice fz zz.length jz, .slice gz yy.length kz] 50)) := hB1.alloc (by omega) _
  have r0 := (R0.later hb1).alloc (.cells #[.bool false, .slice fz zz.length jz, .slice gz yy.length kz] 50)
  have r1 := (R1.later hb1).alloc (.cells #[.bool false, .slice fz zz.length jz, .slice gz yy.length kz] 50)
  have rr := (RR.later hb1).alloc (.cells #[.bool false, .slice fz zz.length jz, .slice gz yy.length kz] 50)
  have r2 := Row.new w1 50 #[.bool false, .slice fz zz.length jz, .slice gz yy.length kz]
  have Z2 := Z1.later ((Below.refl _ w1).alloc (Nat.le_refl _) (.cells #[.bool false, .slice fz zz.length jz, .slice gz yy.length kz] 50))
  obtain ⟨g, hg⟩ : ∃ g, w1.heap.size = g := ⟨_, rfl⟩
  have hg2 : w.heap.size + 1 + 1 + 1 ≤ g := by omega
  rw [hg] at r2 ⊢
  generalize w1.alloc (.cells #[.bool false, .slice fz zz.length jz, .slice gz yy.length kz] 50) = V at *
  have H0 := Lib.hid r0
  have H1 := Lib.hid r1
  have HR := Lib.hid rr
  have H2 := Lib.hid r2
  have HZ := Lib.hid Z2
  have HB2 := Lib.hid hB2
  have HFIT := Lib.hid hfit
  clear r0 r1 rr r2 Z2 Z1 Z0 hB2 hB1 hb1 hs1 R0 R1 RR hBW hsW hg hz hfit
  go_loopw [6] (fun i wr => ∃ (k : Nat) (m0 : Bool) (f0 : Option Addr) (l0 j0 : Nat) (f1 : Option Addr) (l1 j1 : Nat), i = .int .i64 (k : Int) ∧ k ≤ L1.length ∧ Row wr w.heap.size 39 #[.slice a1 s1.length ca1, .slice b1 L1.length cb1] ∧ Row wr (w.heap.size + 1) 39 #[.slice a2 s2.length ca2, .slice b2 L1.length cb2] ∧
    Row wr (w.heap.size + 1 + 1) 50 #[.bool false, .slice none 0 0, .slice none 0 0] ∧ Row wr g 50 #[.bool m0, .slice f0 l0 j0, .slice f1 l1 j1] ∧ ArgR wr (.agg #[.bool m0, .slice f0 l0 j0, .slice f1 l1 j1]) (dotN L1 L2 k) (B / 13 + 1) ∧ Below w.heap.size w wr) (fun i _ => L1.length - (intOf i).toNat)
  case atStart => exact ⟨0, _, _, _, _, _, _, _, rfl, Nat.zero_le _, H0.out, H1.out, HR.out, H2.out, HZ.out, HB2.out⟩
  case round =>
    obtain ⟨k, m0, f0, l0, j0, f1, l1, j1, rfl, hk, r0, r1, rr, r2, hsum, hb⟩ := hrel
    have hsz := hb.size
    have c01 := r0.cell 1
    have c11 := r1.cell 1
    obtain ⟨e20, e21, e22, _, _, _⟩ := r2.three
    by_cases hlt : k < L1.length
    · have hlt2 : k < L2.length := by rw [HLN.out]; exact hlt
      obtain ⟨bb, o, x0, x1, x2, X1, hbo, hqk, p0, p1, p2, hq⟩ := (HT1.out.el.later hb (fun v x _ k => k.later hb)).at hlt
      obtain ⟨bd, od, y0, y1, y2, Y1, hbd, htk, d0, d1, d2, ht⟩ := (HT2.out.el.later hb (fun v x _ k => k.later hb)).at hlt2
      subst hbo
      subst hbd
      have hnext : dotN L1 L2 (k + 1) = dotN L1 L2 k + X1 * Y1 := by
        simp only [dotN, List.getD_eq_getElem?_getD, hqk, htk, Option.getD_some]
      have hfk := HFIT.out (k + 1) (by omega)
      rw [hnext] at hfk
      have HNX := Lib.hid hnext
      have hd0 : Below wr.heap.size wr wr.drew := (Below.refl _ _).drew
      have mkS : ∀ X, Below wr.heap.size wr X → (X.cell? ⟨g, 0, none⟩ = some (.bool m0) ∧ X.cell? ⟨g, 1, none⟩ = some (.slice f0 l0 j0) ∧ X.cell? ⟨g, 2, none⟩ = some (.slice f1 l1 j1)) ∧ X.cell? ⟨w.heap.size, 1, none⟩ = some (.slice (some ⟨bb, o, none⟩) L1.length cb1) ∧ X.cell? ⟨w.heap.size + 1, 1, none⟩ = some (.slice (some ⟨bd, od, none⟩) L1.length cb2) ∧ X.cell? ⟨bb, o + k * 3, none⟩ = some x0 ∧ X.cell? ⟨bb, o + k * 3 + 1, none⟩ = some x1 ∧ X.cell? ⟨bb, o + k * 3 + 2, none⟩ = some x2 ∧
          X.cell? ⟨bd, od + k * 3, none⟩ = some y0 ∧ X.cell? ⟨bd, od + k * 3 + 1, none⟩ = some y1 ∧ X.cell? ⟨bd, od + k * 3 + 2, none⟩ = some y2 ∧ Below wr.heap.size wr X := fun X h =>
        ⟨⟨(r2.later h).cell 0, (r2.later h).cell 1, (r2.later h).cell 2⟩, (r0.later h).cell 1, (r1.later h).cell 1, (h.cell (World.block_lt_of_cell? wr _ p0)).trans p0, (h.cell (World.block_lt_of_cell? wr _ p1)).trans p1, (h.cell (World.block_lt_of_cell? wr _ p2)).trans p2, (h.cell (World.block_lt_of_cell? wr _ d0)).trans d0, (h.cell (World.block_lt_of_cell? wr _ d1)).trans d1, (h.cell (World.block_lt_of_cell? wr _ d2)).trans d2, h⟩
      have hltI : (k : Int) < (L1.length : Int) := by omega
      have hS0 := mkS wr.drew hd0
      clear hqk htk hnext
      go_wp2_with fail
      refine wp_region_L (S := (fun X => (X.cell? ⟨g, 0, none⟩ = some (.bool m0) ∧ X.cell? ⟨g, 1, none⟩ = some (.slice f0 l0 j0) ∧ X.cell? ⟨g, 2, none⟩ = some (.slice f1 l1 j1)) ∧ X.cell? ⟨w.heap.size, 1, none⟩ = some (.slice (some ⟨bb, o, none⟩) L1.length cb1) ∧ X.cell? ⟨w.heap.size + 1, 1, none⟩ = some (.slice (some ⟨bd, od, none⟩) L1.length cb2) ∧ X.cell? ⟨bb, o + k * 3, none⟩ = some x0 ∧ X.cell? ⟨bb, o + k * 3 + 1, none⟩ = some x1 ∧ X.cell? ⟨bb, o + k * 3 + 2, none⟩ = some x2 ∧ X.cell? ⟨bd, od + k * 3, none⟩ = some y0 ∧ X.cell? ⟨bd, od + k * 3 + 1, none⟩ = some y1 ∧ X.cell? ⟨bd, od + k * 3 + 2, none⟩ = some y2 ∧ Below wr.heap.size wr X)) (z := 13) (by kernel_rfl) hS0 (fun hHeld => ?_)
      refine wpAnyL_take (i := 0) (v := ?va0) rfl (by kernel_rfl) (by kernel_rfl) (by kernel_rfl) (by kernel_rfl) (fun _ _ _ h => h) (Or.inl ⟨by rfl, ?ha0⟩) (by assumption) ?ra0
      case ha0 =>
        intro w hSw
        try dsimp only at hSw
        go_simp
        try with_reducible rfl
      try simp only [Act.put, List.setIfInBounds_toArray, List.set_cons_zero, List.set_cons_succ]
      refine wpAnyL_take (i := 1) (v := ?va1) rfl (by kernel_rfl) (by kernel_rfl) (by kernel_rfl) (by kernel_rfl) (fun _ _ _ h => h) (Or.inl ⟨by rfl, ?ha1⟩) (by assumption) ?ra1
      case ha1 =>
        intro w hSw
        try dsimp only at hSw
        go_simp
        try with_reducible rfl
      try simp only [Act.put, List.setIfInBounds_toArray, List.set_cons_zero, List.set_cons_succ]
      refine wpAnyL_take (i := 2) (v := ?va2) rfl (by kernel_rfl) (by kernel_rfl) (by kernel_rfl) (by kernel_rfl) (fun _ _ _ h => h) (Or.inl ⟨by rfl, ?ha2⟩) (by assumption) ?ra2
      case ha2 =>
        intro w hSw
        try dsimp only at hSw
        go_simp
        try with_reducible rfl
      try simp only [Act.put, List.setIfInBounds_toArray, List.set_cons_zero, List.set_cons_succ]
      refine wpAnyL_take (i := 3) (v := ?va3) rfl (by kernel_rfl) (by kernel_rfl) (by kernel_rfl) (by kernel_rfl) (fun _ _ _ h => h) (Or.inl ⟨by rfl, ?ha3⟩) (by assumption) ?ra3
      case ha3 =>
        intro w hSw
        try dsimp only at hSw
        go_simp
        try with_reducible rfl
      try simp only [Act.put, List.setIfInBounds_toArray, List.set_cons_zero, List.set_cons_succ]
      refine wpAnyL_take (i := 4) (v := ?va4) rfl (by kernel_rfl) (by kernel_rfl) (by kernel_rfl) (by kernel_rfl) (fun _ _ _ h => h) (Or.inl ⟨by rfl, ?ha4⟩) (by assumption) ?ra4
      case ha4 =>
        intro w hSw
        try dsimp only at hSw
        go_simp
        try with_reducible rfl
      try simp only [Act.put, List.setIfInBounds_toArray, List.set_cons_zero, List.set_cons_succ]
      refine wpAnyL_take (i := 5) (v := ?va5) rfl (by kernel_rfl) (by kernel_rfl) (by kernel_rfl) (by kernel_rfl) (fun _ _ _ h => h) (Or.inl ⟨by rfl, ?ha5⟩) (by assumption) ?ra5
      case ha5 =>
        intro w hSw
        try dsimp only at hSw
        go_simp
        try with_reducible rfl
      try simp only [Act.put, List.setIfInBounds_toArray, List.set_cons_zero, List.set_cons_succ]
      refine wpAnyL_take (i := 6) (v := ?va6) rfl (by kernel_rfl) (by kernel_rfl) (by kernel_rfl) (by kernel_rfl) (fun _ _ _ h => h) (Or.inl ⟨by rfl, ?ha6⟩) (by assumption) ?ra6
      case ha6 =>
        intro w hSw
        try dsimp only at hSw
        go_simp
        try with_reducible rfl
      try simp only [Act.put, List.setIfInBounds_toArray, List.set_cons_zero, List.set_cons_succ]
      refine wpAnyL_take (i := 7) (v := ?va7) rfl (by kernel_rfl) (by kernel_rfl) (by kernel_rfl) (by kernel_rfl) (fun _ _ _ h => h) (Or.inl ⟨by rfl, ?ha7⟩) (by assumption) ?ra7
      case ha7 =>
        intro w hSw
        try dsimp only at hSw
        go_simp
        try with_reducible rfl
      try simp only [Act.put, List.setIfInBounds_toArray, List.set_cons_zero, List.set_cons_succ]
      refine wpAnyL_take (i := 8) (v := ?va8) rfl (by kernel_rfl) (by kernel_rfl) (by kernel_rfl) (by kernel_rfl) (fun _ _ _ h => h) (Or.inl ⟨by rfl, ?ha8⟩) (by assumption) ?ra8
      case ha8 =>
        intro w hSw
        try dsimp only at hSw
        go_simp
        try with_reducible rfl
      try simp only [Act.put, List.setIfInBounds_toArray, List.set_cons_zero, List.set_cons_succ]
      refine wpAnyL_take (i := 9) (v := ?va9) rfl (by kernel_rfl) (by kernel_rfl) (by kernel_rfl) (by kernel_rfl) (fun _ _ _ h => h) (Or.inl ⟨by rfl, ?ha9⟩) (by assumption) ?ra9
      case ha9 =>
        intro w hSw
        try dsimp only at hSw
        go_simp
        try with_reducible rfl
      try simp only [Act.put, List.setIfInBounds_toArray, List.set_cons_zero, List.set_cons_succ]
      refine wpAnyL_take (i := 10) (v := ?va10) rfl (by kernel_rfl) (by kernel_rfl) (by kernel_rfl) (by kernel_rfl) (fun _ _ _ h => h) (Or.inl ⟨by rfl, ?ha10⟩) (by assumption) ?ra10
      case ha10 =>
        intro w hSw
        try dsimp only at hSw
        go_simp
        try with_reducible rfl
      try simp only [Act.put, List.setIfInBounds_toArray, List.set_cons_zero, List.set_cons_succ]
      refine wpAnyL_one (i := 11) (by kernel_rfl) rfl (fun K hK => ?sb11)
      go_simp
      refine (mulR_any (ArgR.later hq hd0) (ArgR.later ht hd0) (by omega)).mono ?_
      rintro e w5 ⟨rv, rfl, qv, hb5⟩
      have hB5 : Below wr.heap.size wr w5 := hd0.trans hb5
      go_simp
      refine hK.out _ _ (fun _ => mkS _ hB5) (fun hHeld2 => ?mb11)
      clear hK K hHeld
      have hHeld := hHeld2 (by decide)
      clear hHeld2
      try simp only [Act.put, List.setIfInBounds_toArray, List.set_cons_zero, List.set_cons_succ]
      refine wpAnyL_one (i := 12) (by kernel_rfl) rfl (fun K hK => ?sb12)
      go_simp
      refine (addR_any (n := 3 * n + 5 + B) ((ArgR.later hsum hB5).more (by omega)) (qv.more (by omega)) (by omega)).mono ?_
      rintro e w6 ⟨rs, rfl, qs6, hb6⟩
      have hB6 : Below wr.heap.size wr w6 := hB5.trans (hb6.mono hB5.size)
      have Q6 := Lib.hid (qs6.refit hfk)
      obtain ⟨zs6, ys6, f6, g6, j6, k6, rfl, _⟩ := qs6
      go_simp
      refine hK.out _ _ (fun _ => mkS _ hB6) (fun hHeld2 => ?mb12)
      clear hK K hHeld
      have hHeld := hHeld2 (by decide)
      clear hHeld2
      try simp only [Act.put, List.setIfInBounds_toArray, List.set_cons_zero, List.set_cons_succ]
      have R26 := r2.later hB6
      obtain ⟨d20, d21, d22, f20, f21, f22⟩ := R26.three
      refine wpAnyL_one (i := 13) (by kernel_rfl) rfl (fun K hK => ?sb13)
      go_simp
      refine hK.out _ _ (fun h => absurd rfl h) (fun _ => ?mb13)
      clear hK K
      try simp only [Act.put, List.setIfInBounds_toArray, List.set_cons_zero, List.set_cons_succ]
      refine wpAnyL_done (by kernel_rfl) ?_ _
      go_wp2
      go_roundw
      case rel =>
        have hBw6 : Below w.heap.size w w6 := hb.trans (hB6.mono hsz)
        have hsq : ArgR w6 (.agg #[.bool (decide ((dotN L1 L2 k + X1 * Y1).num < 0)), .slice f6 zs6.length j6, .slice g6 ys6.length k6]) (dotN L1 L2 k + X1 * Y1) (B / 13 + 1) := Q6.out
        refine ⟨k + 1, _, _, _, _, _, _, _, by go_num, by omega, (r0.later hB6).kept3g _ _ _ (by omega), (r1.later hB6).kept3g _ _ _ (by omega), (rr.later hB6).kept3g _ _ _ (by omega), R26.set3 _ _ _, ?_, below_set3 hBw6 (by omega) _ _ _⟩
        rw [HNX.out]
        exact hsq.far R26 (noInts3 _ _ _ _ _ _ _) (kept3 _ _ _)
      case measure => simp [intOf]; omega
    · obtain rfl : k = L1.length := by omega
      have hltI : ¬ (L1.length : Int) < (L1.length : Int) := by omega
      obtain ⟨u0, u1, u2, v0, v1, v2⟩ := rr.three
      have RRs := rr.set3 (.bool m0) (.slice f0 l0 j0) (.slice f1 l1 j1)
      obtain ⟨z0, z1, z2, _, _, _⟩ := RRs.three
      have HRR := Lib.hid rr
      have HSUM := Lib.hid hsum
      clear RRs rr hsum
      go_wp2
      refine bodyPost_ret (v := .agg #[.bool m0, .slice f0 l0 j0, .slice f1 l1 j1]) (by simp [results, Tryz.results37, go_sem, z0, z1, z2]) rfl ⟨_, rfl, ?_, below_set3 hb (by omega) _ _ _⟩
      exact HSUM.out.far HRR.out (noInts3 _ _ _ _ _ _ _) (kept3 _ _ _)
end Go.Proofs.YtnhfjacifajdlaaGreat
