/-
  The reference of layer 6: Next, Indexes, Offset.
-/
import Derived.Test.YtnhfjacifajdlaaGreatC3
import Derived.Lib.SmallJoins
import Derived.IntWalk
import Derived.Deep.DeepCutAuto
namespace Go.Proofs.YtnhfjacifajdlaaGreat
set_option maxRecDepth 100000
section
open Go.RowKit
set_option linter.unusedVariables false
set_option linter.unusedSimpArgs false
set_option maxRecDepth 100000 in
set_option maxHeartbeats 8000000 in
theorem addQ_any {n : Nat} {w : World} {u v : Value} {X Y : Rat} (hu : ArgQ w u X n) (hv : ArgQ w v Y n) (hn : n ≤ 16777000) :
    Calls Tryz.prog 40 #[u, v] w fun e w' => ∃ r, e = .returned r ∧ ResQ w.heap.size w' r (X + Y) (2 * n + 10) ∧ Below w.heap.size w w' := by
  obtain ⟨n1, ps, qs, e1, e2, k1, k2, rfl⟩ := hu.box
  obtain ⟨n2, rs, ss, e3, e4, k3, k4, rfl⟩ := hv.box
  obtain ⟨W, hW⟩ : ∃ W, (((w.alloc (.cells #[.bool n1, .slice e1 ps.length k1, .slice e2 qs.length k2] 44)).alloc (.cells #[.bool n2, .slice e3 rs.length k3, .slice e4 ss.length k4] 44)).alloc (.cells #[.bool false, .slice none 0 0, .slice none 0 0] 44)) = W := ⟨_, rfl⟩
  have R0 : Row W (w.heap.size) 44 #[.bool n1, .slice e1 ps.length k1, .slice e2 qs.length k2] := by rw [← hW]; exact (((Row.new _ _ _).alloc _).alloc _)
  have R1 : Row W (w.heap.size + 1) 44 #[.bool n2, .slice e3 rs.length k3, .slice e4 ss.length k4] := by rw [← hW]; have h := (Row.new (w.alloc (.cells #[.bool n1, .slice e1 ps.length k1, .slice e2 qs.length k2] 44)) 44 #[.bool n2, .slice e3 rs.length k3, .slice e4 ss.length k4]); simp only [World.size_alloc] at h; exact (h.alloc _)
  have R2 : Row W (w.heap.size + 1 + 1) 44 #[.bool false, .slice none 0 0, .slice none 0 0] := by rw [← hW]; have h := (Row.new ((w.alloc (.cells #[.bool n1, .slice e1 ps.length k1, .slice e2 qs.length k2] 44)).alloc (.cells #[.bool n2, .slice e3 rs.length k3, .slice e4 ss.length k4] 44)) 44 #[.bool false, .slice none 0 0, .slice none 0 0]); simp only [World.size_alloc] at h; exact h
  have hBW : Below w.heap.size w W := by rw [← hW]; exact ((((Below.refl _ _).alloc (by (try simp) <;> omega) _).alloc (by (try simp) <;> omega) _).alloc (by (try simp) <;> omega) _)
  have hsW : w.heap.size + 1 + 1 + 1 ≤ W.heap.size := by rw [← hW]; simp
  have hu' := (hu.later hBW).later (Below.refl _ W).drew
  have hv' := hv.later hBW
  obtain ⟨p0, p1, p2, p3, p4, p5⟩ := R0.three
  obtain ⟨o0, o1, o2, o3, o4, o5⟩ := R1.three
  have hmf : ∀ (fn : Fn) (first cap : Array Value) (w : World), (Instr.makeFunc fn first cap).run Tryz.prog w = .ok (.func fn first cap) w := fun _ _ _ _ => rfl
  go_enter Tryz.func40, Tryz.ntmps40
  go_wp2_with fail
  clear hW
  refine wp_region_noPanic ?_
  refine wp_region_held_drew (S := fun _ => True) (by kernel_rfl) trivial (fun hHeld => ?_)
  clear hHeld
  refine wpAnyH_ready (rs := [0, 2]) (by kernel_rfl) (by simp) ?_
  refine AllReadyH.cons rfl (fun K hK => ?o1_0) (AllReadyH.cons rfl (fun K hK => ?o1_2) AllReadyH.nil)
  case o1_0 =>
    go_simp
    refine hK.out _ _ trivial (fun hHeld => ?_)
    clear hK K hHeld
    try simp only [Act.put, List.setIfInBounds_toArray, List.set_cons_zero, List.set_cons_succ]
    refine wpAnyH_ready (rs := [1, 2]) (by kernel_rfl) (by simp) ?_
    refine AllReadyH.cons rfl (fun K hK => ?o2_1) (AllReadyH.cons rfl (fun K hK => ?o2_2) AllReadyH.nil)
    case o2_1 =>
      go_simp
      (refine (plain_any hu' (by omega)).mono ?_)
      rintro e w1 ⟨r1, rfl, h1, hb1⟩
      have hb1d : Below W.heap.size W w1 := ⟨hb1.os, hb1.tape, hb1.output, hb1.size, hb1.block⟩
      obtain ⟨m1, xs, ds, a1, a2, c1, c2, rfl, A, B, hX, hx, hd, hB, _⟩ := h1
      have R0' := R0.later hb1d
      have R1' := R1.later hb1d
      obtain ⟨i0, i1, i2, _, _, _⟩ := R1'.three
      go_simp
      refine hK.out _ _ trivial (fun hHeld => ?_)
      clear hK K hHeld
      try simp only [Act.put, List.setIfInBounds_toArray, List.set_cons_zero, List.set_cons_succ]
      refine wpAnyH_ready (rs := [2]) (by kernel_rfl) (by simp) ?_
      refine AllReadyH.cons rfl (fun K hK => ?o3_2) AllReadyH.nil
      case o3_2 =>
        go_simp
        refine hK.out _ _ trivial (fun hHeld => ?_)
        clear hK K hHeld
        try simp only [Act.put, List.setIfInBounds_toArray, List.set_cons_zero, List.set_cons_succ]
        refine wpAnyH_ready (rs := [3]) (by kernel_rfl) (by simp) ?_
        refine AllReadyH.cons rfl (fun K hK => ?o4_3) AllReadyH.nil
        case o4_3 =>
          go_simp
          (refine (plain_any (hv'.later (show Below W.heap.size W w1 from hb1d)) (by omega)).mono ?_)
          rintro e w2 ⟨r2, rfl, h2, hb2⟩
          obtain ⟨m2, zs, es, a3, a4, c3, c4, rfl, C, D, hY, hz, he, hD, _⟩ := h2
          obtain ⟨t0, t1, t2, t3, t4, t5⟩ := (R0'.later hb2).three
          obtain ⟨s0, s1, s2, s3, s4, s5⟩ := (R1'.later hb2).three
          go_simp
          refine hK.out _ _ trivial (fun hHeld => ?_)
          clear hK K hHeld
          try simp only [Act.put, List.setIfInBounds_toArray, List.set_cons_zero, List.set_cons_succ]
          refine wpAnyH_ready (rs := [4]) (by kernel_rfl) (by simp) ?_
          refine AllReadyH.cons rfl (fun K hK => ?o5_4) AllReadyH.nil
          case o5_4 =>
            go_simp
            refine hK.out _ _ trivial (fun hHeld => ?_)
            clear hK K hHeld
            try simp only [Act.put, List.setIfInBounds_toArray, List.set_cons_zero, List.set_cons_succ]
            refine wpAnyH_ready (rs := [5]) (by kernel_rfl) (by simp) ?_
            refine AllReadyH.cons rfl (fun K hK => ?o6_5) AllReadyH.nil
            case o6_5 =>
              go_simp
              refine hK.out _ _ trivial (fun hHeld => ?_)
              clear hK K hHeld
              try simp only [Act.put, List.setIfInBounds_toArray, List.set_cons_zero, List.set_cons_succ]
              refine wpAnyH_done (by kernel_rfl) ?_ _
              refine NoPanic.normal ?_
              have hs1 := hb1d.size
              have hs2 := hb2.size
              obtain ⟨V, hV⟩ : ∃ V, (((((w2.setCell ⟨w.heap.size, 0, none⟩ (.bool m1)).setCell ⟨w.heap.size, 1, none⟩ (.slice a1 xs.length c1)).setCell ⟨w.heap.size, 2, none⟩ (.slice a2 ds.length c2)).setCell ⟨w.heap.size + 1, 0, none⟩ (.bool m2)).setCell ⟨w.heap.size + 1, 1, none⟩ (.slice a3 zs.length c3)).setCell ⟨w.heap.size + 1, 2, none⟩ (.slice a4 es.length c4) = V := ⟨_, rfl⟩
              have Z0 := (R0'.later hb2)
              have Z1 := (R1'.later hb2)
              have Z1' : Row (((w2.setCell ⟨w.heap.size, 0, none⟩ (.bool m1)).setCell ⟨w.heap.size, 1, none⟩ (.slice a1 xs.length c1)).setCell ⟨w.heap.size, 2, none⟩ (.slice a2 ds.length c2)) (w.heap.size + 1) 44 #[.bool n2, .slice e3 rs.length k3, .slice e4 ss.length k4] := ((Z1.far (by simp) _).far (by simp) _).far (by simp) _
              have P0 : Row V (w.heap.size) 44 #[.bool m1, .slice a1 xs.length c1, .slice a2 ds.length c2] := by rw [← hV]; exact (((Z0.set3 _ _ _).far (by simp) _).far (by simp) _).far (by simp) _
              have P1 : Row V (w.heap.size + 1) 44 #[.bool m2, .slice a3 zs.length c3, .slice a4 es.length c4] := by rw [← hV]; exact Z1'.set3 _ _ _
              have P2 : Row V (w.heap.size + 1 + 1) 44 #[.bool false, .slice none 0 0, .slice none 0 0] := by rw [← hV]; exact ((((((((R2.later hb1d).later hb2)).far (by simp <;> omega) _).far (by simp <;> omega) _).far (by simp <;> omega) _).far (by simp <;> omega) _).far (by simp <;> omega) _).far (by simp <;> omega) _
              have hsV : w2.heap.size ≤ V.heap.size := by rw [← hV]; simp
              have hB2 : Below w.heap.size w V := by rw [← hV]; exact below_set3 (below_set3 ((hBW.trans (hb1d.mono (by omega))).trans (hb2.mono (by omega))) (by omega) _ _ _) (by omega) _ _ _
              have AV : Arg V (.slice a1 xs.length c1) xs a1 c1 := by rw [← hV]; exact ((A.later hb2).far Z0 (noInts3 _ _ _ _ _ _ _) (kept3 _ _ _)).far Z1' (noInts3 _ _ _ _ _ _ _) (kept3 _ _ _)
              have BV : Arg V (.slice a2 ds.length c2) ds a2 c2 := by rw [← hV]; exact ((B.later hb2).far Z0 (noInts3 _ _ _ _ _ _ _) (kept3 _ _ _)).far Z1' (noInts3 _ _ _ _ _ _ _) (kept3 _ _ _)
              have CV : Arg V (.slice a3 zs.length c3) zs a3 c3 := by rw [← hV]; exact (C.far Z0 (noInts3 _ _ _ _ _ _ _) (kept3 _ _ _)).far Z1' (noInts3 _ _ _ _ _ _ _) (kept3 _ _ _)
              have DV : Arg V (.slice a4 es.length c4) es a4 c4 := by rw [← hV]; exact (D.far Z0 (noInts3 _ _ _ _ _ _ _) (kept3 _ _ _)).far Z1' (noInts3 _ _ _ _ _ _ _) (kept3 _ _ _)
              have hfin : ratOf m1 (val xs) (val ds) + ratOf m2 (val zs) (val es) = X + Y := by rw [hX, hY]
              have HF := Lib.hid hfin
              have mkS : ∀ X, Kept (w.heap.size + 1 + 1) V X → X.cell? ⟨w.heap.size, 0, none⟩ = some (.bool m1) ∧ X.cell? ⟨w.heap.size, 1, none⟩ = some (.slice a1 xs.length c1) ∧ X.cell? ⟨w.heap.size, 2, none⟩ = some (.slice a2 ds.length c2) ∧ X.cell? ⟨w.heap.size + 1, 0, none⟩ = some (.bool m2) ∧ X.cell? ⟨w.heap.size + 1, 1, none⟩ = some (.slice a3 zs.length c3) ∧ X.cell? ⟨w.heap.size + 1, 2, none⟩ = some (.slice a4 es.length c4) ∧ Kept (w.heap.size + 1 + 1) V X := fun X h => ⟨(P0.kept h (by omega)).cell 0, (P0.kept h (by omega)).cell 1, (P0.kept h (by omega)).cell 2, (P1.kept h (by omega)).cell 0, (P1.kept h (by omega)).cell 1, (P1.kept h (by omega)).cell 2, h⟩
              clear hfin hX hY Z0 Z1 Z1' A B C D R0 R1 R2 R0' R1' hu hv hu' hv' hb1 hb1d hb2 hBW p0 p1 p2 p3 p4 p5 o0 o1 o2 o3 o4 o5 t0 t1 t2 t3 t4 t5 s0 s1 s2 s3 s4 s5 i0 i1 i2
              go_wp2_with fail
              (try rw [hV])
              clear hV
              go_region_held3 (fun X => X.cell? ⟨w.heap.size, 0, none⟩ = some (.bool m1) ∧ X.cell? ⟨w.heap.size, 1, none⟩ = some (.slice a1 xs.length c1) ∧ X.cell? ⟨w.heap.size, 2, none⟩ = some (.slice a2 ds.length c2) ∧ X.cell? ⟨w.heap.size + 1, 0, none⟩ = some (.bool m2) ∧ X.cell? ⟨w.heap.size + 1, 1, none⟩ = some (.slice a3 zs.length c3) ∧ X.cell? ⟨w.heap.size + 1, 2, none⟩ = some (.slice a4 es.length c4) ∧ Kept (w.heap.size + 1 + 1) V X)
                (((refine mkS _ ?_; (repeat' (first | exact Kept.refl _ _ | refine Kept.drew ?_ | refine Kept.alloc ?_ _ | refine Kept.set ?_ _ _ | refine Kept.below ?_ (by assumption))))))
                ((first
                  | (go_at_call 77; refine (joinedP_any (n := n + 2) (AV.later hb3d) (BV.later hb3d) (CV.later hb3d) (DV.later hb3d) (by omega) (by omega) (by omega) (by omega) (by omega) hB hD (h3.later (Below.refl _ _))).mono ?_; rintro e w4 ⟨r4, rfl, q4, hb4⟩; rw [HF.out] at q4; obtain ⟨ng, fs, gs, f1, f2, j1, j2, rfl⟩ := q4.arg.box; have P4 := P3.later hb4; obtain ⟨u0, u1, u2, g0, g1, g2⟩ := P4.three)
                  | (go_at_call 78; refine (over_any (AV.later (Below.refl _ V).drew) (DV.later (Below.refl _ V).drew) (show xs.length ≤ n + 2 by omega) (by omega) (by omega)).mono ?_; rintro e w3 ⟨r3, rfl, h3, hb3⟩; have hb3d : Below V.heap.size V w3 := ⟨hb3.os, hb3.tape, hb3.output, hb3.size, hb3.block⟩; have P3 := P2.later hb3d)))
              have hs3 := hb3d.size
              have hs4 := hb4.size
              go_wp2_with fail
              refine bodyPost_ret (v := .agg #[.bool ng, .slice f1 fs.length j1, .slice f2 gs.length j2]) (by simp [results, Tryz.results40, go_sem, u0, u1, u2]) rfl ⟨_, rfl, ?_, ?_⟩
              · exact ((q4.far P4 (by decide) (kept3 _ _ _)).mono (by omega)).more (by omega)
              · exact below_set3 ((hB2.trans (hb3d.mono (by omega))).trans (hb4.mono (by omega))) (by omega) _ _ _
    case o2_2 =>
      go_simp
      refine hK.out _ _ trivial (fun hHeld => ?_)
      clear hK K hHeld
      try simp only [Act.put, List.setIfInBounds_toArray, List.set_cons_zero, List.set_cons_succ]
      refine wpAnyH_ready (rs := [1]) (by kernel_rfl) (by simp) ?_
      refine AllReadyH.cons rfl (fun K hK => ?o7_1) AllReadyH.nil
      case o7_1 =>
        go_simp
        (refine (plain_any hu' (by omega)).mono ?_)
        rintro e w1 ⟨r1, rfl, h1, hb1⟩
        have hb1d : Below W.heap.size W w1 := ⟨hb1.os, hb1.tape, hb1.output, hb1.size, hb1.block⟩
        obtain ⟨m1, xs, ds, a1, a2, c1, c2, rfl, A, B, hX, hx, hd, hB, _⟩ := h1
        have R0' := R0.later hb1d
        have R1' := R1.later hb1d
        obtain ⟨i0, i1, i2, _, _, _⟩ := R1'.three
        go_simp
        refine hK.out _ _ trivial (fun hHeld => ?_)
        clear hK K hHeld
        try simp only [Act.put, List.setIfInBounds_toArray, List.set_cons_zero, List.set_cons_succ]
        refine wpAnyH_ready (rs := [3]) (by kernel_rfl) (by simp) ?_
        refine AllReadyH.cons rfl (fun K hK => ?o8_3) AllReadyH.nil
        case o8_3 =>
          go_simp
          (refine (plain_any (hv'.later (show Below W.heap.size W w1 from hb1d)) (by omega)).mono ?_)
          rintro e w2 ⟨r2, rfl, h2, hb2⟩
          obtain ⟨m2, zs, es, a3, a4, c3, c4, rfl, C, D, hY, hz, he, hD, _⟩ := h2
          obtain ⟨t0, t1, t2, t3, t4, t5⟩ := (R0'.later hb2).three
          obtain ⟨s0, s1, s2, s3, s4, s5⟩ := (R1'.later hb2).three
          go_simp
          refine hK.out _ _ trivial (fun hHeld => ?_)
          clear hK K hHeld
          try simp only [Act.put, List.setIfInBounds_toArray, List.set_cons_zero, List.set_cons_succ]
          refine wpAnyH_ready (rs := [4]) (by kernel_rfl) (by simp) ?_
          refine AllReadyH.cons rfl (fun K hK => ?o9_4) AllReadyH.nil
          case o9_4 =>
            go_simp
            refine hK.out _ _ trivial (fun hHeld => ?_)
            clear hK K hHeld
            try simp only [Act.put, List.setIfInBounds_toArray, List.set_cons_zero, List.set_cons_succ]
            refine wpAnyH_ready (rs := [5]) (by kernel_rfl) (by simp) ?_
            refine AllReadyH.cons rfl (fun K hK => ?o10_5) AllReadyH.nil
            case o10_5 =>
              go_simp
              refine hK.out _ _ trivial (fun hHeld => ?_)
              clear hK K hHeld
              try simp only [Act.put, List.setIfInBounds_toArray, List.set_cons_zero, List.set_cons_succ]
              refine wpAnyH_done (by kernel_rfl) ?_ _
              refine NoPanic.normal ?_
              have hs1 := hb1d.size
              have hs2 := hb2.size
              obtain ⟨V, hV⟩ : ∃ V, (((((w2.setCell ⟨w.heap.size, 0, none⟩ (.bool m1)).setCell ⟨w.heap.size, 1, none⟩ (.slice a1 xs.length c1)).setCell ⟨w.heap.size, 2, none⟩ (.slice a2 ds.length c2)).setCell ⟨w.heap.size + 1, 0, none⟩ (.bool m2)).setCell ⟨w.heap.size + 1, 1, none⟩ (.slice a3 zs.length c3)).setCell ⟨w.heap.size + 1, 2, none⟩ (.slice a4 es.length c4) = V := ⟨_, rfl⟩
              have Z0 := (R0'.later hb2)
              have Z1 := (R1'.later hb2)
              have Z1' : Row (((w2.setCell ⟨w.heap.size, 0, none⟩ (.bool m1)).setCell ⟨w.heap.size, 1, none⟩ (.slice a1 xs.length c1)).setCell ⟨w.heap.size, 2, none⟩ (.slice a2 ds.length c2)) (w.heap.size + 1) 44 #[.bool n2, .slice e3 rs.length k3, .slice e4 ss.length k4] := ((Z1.far (by simp) _).far (by simp) _).far (by simp) _
              have P0 : Row V (w.heap.size) 44 #[.bool m1, .slice a1 xs.length c1, .slice a2 ds.length c2] := by rw [← hV]; exact (((Z0.set3 _ _ _).far (by simp) _).far (by simp) _).far (by simp) _
              have P1 : Row V (w.heap.size + 1) 44 #[.bool m2, .slice a3 zs.length c3, .slice a4 es.length c4] := by rw [← hV]; exact Z1'.set3 _ _ _
              have P2 : Row V (w.heap.size + 1 + 1) 44 #[.bool false, .slice none 0 0, .slice none 0 0] := by rw [← hV]; exact ((((((((R2.later hb1d).later hb2)).far (by simp <;> omega) _).far (by simp <;> omega) _).far (by simp <;> omega) _).far (by simp <;> omega) _).far (by simp <;> omega) _).far (by simp <;> omega) _
              have hsV : w2.heap.size ≤ V.heap.size := by rw [← hV]; simp
              have hB2 : Below w.heap.size w V := by rw [← hV]; exact below_set3 (below_set3 ((hBW.trans (hb1d.mono (by omega))).trans (hb2.mono (by omega))) (by omega) _ _ _) (by omega) _ _ _
              have AV : Arg V (.slice a1 xs.length c1) xs a1 c1 := by rw [← hV]; exact ((A.later hb2).far Z0 (noInts3 _ _ _ _ _ _ _) (kept3 _ _ _)).far Z1' (noInts3 _ _ _ _ _ _ _) (kept3 _ _ _)
              have BV : Arg V (.slice a2 ds.length c2) ds a2 c2 := by rw [← hV]; exact ((B.later hb2).far Z0 (noInts3 _ _ _ _ _ _ _) (kept3 _ _ _)).far Z1' (noInts3 _ _ _ _ _ _ _) (kept3 _ _ _)
              have CV : Arg V (.slice a3 zs.length c3) zs a3 c3 := by rw [← hV]; exact (C.far Z0 (noInts3 _ _ _ _ _ _ _) (kept3 _ _ _)).far Z1' (noInts3 _ _ _ _ _ _ _) (kept3 _ _ _)
              have DV : Arg V (.slice a4 es.length c4) es a4 c4 := by rw [← hV]; exact (D.far Z0 (noInts3 _ _ _ _ _ _ _) (kept3 _ _ _)).far Z1' (noInts3 _ _ _ _ _ _ _) (kept3 _ _ _)
              have hfin : ratOf m1 (val xs) (val ds) + ratOf m2 (val zs) (val es) = X + Y := by rw [hX, hY]
              have HF := Lib.hid hfin
              have mkS : ∀ X, Kept (w.heap.size + 1 + 1) V X → X.cell? ⟨w.heap.size, 0, none⟩ = some (.bool m1) ∧ X.cell? ⟨w.heap.size, 1, none⟩ = some (.slice a1 xs.length c1) ∧ X.cell? ⟨w.heap.size, 2, none⟩ = some (.slice a2 ds.length c2) ∧ X.cell? ⟨w.heap.size + 1, 0, none⟩ = some (.bool m2) ∧ X.cell? ⟨w.heap.size + 1, 1, none⟩ = some (.slice a3 zs.length c3) ∧ X.cell? ⟨w.heap.size + 1, 2, none⟩ = some (.slice a4 es.length c4) ∧ Kept (w.heap.size + 1 + 1) V X := fun X h => ⟨(P0.kept h (by omega)).cell 0, (P0.kept h (by omega)).cell 1, (P0.kept h (by omega)).cell 2, (P1.kept h (by omega)).cell 0, (P1.kept h (by omega)).cell 1, (P1.kept h (by omega)).cell 2, h⟩
              clear hfin hX hY Z0 Z1 Z1' A B C D R0 R1 R2 R0' R1' hu hv hu' hv' hb1 hb1d hb2 hBW p0 p1 p2 p3 p4 p5 o0 o1 o2 o3 o4 o5 t0 t1 t2 t3 t4 t5 s0 s1 s2 s3 s4 s5 i0 i1 i2
              go_wp2_with fail
              (try rw [hV])
              clear hV
              go_region_held3 (fun X => X.cell? ⟨w.heap.size, 0, none⟩ = some (.bool m1) ∧ X.cell? ⟨w.heap.size, 1, none⟩ = some (.slice a1 xs.length c1) ∧ X.cell? ⟨w.heap.size, 2, none⟩ = some (.slice a2 ds.length c2) ∧ X.cell? ⟨w.heap.size + 1, 0, none⟩ = some (.bool m2) ∧ X.cell? ⟨w.heap.size + 1, 1, none⟩ = some (.slice a3 zs.length c3) ∧ X.cell? ⟨w.heap.size + 1, 2, none⟩ = some (.slice a4 es.length c4) ∧ Kept (w.heap.size + 1 + 1) V X)
                (((refine mkS _ ?_; (repeat' (first | exact Kept.refl _ _ | refine Kept.drew ?_ | refine Kept.alloc ?_ _ | refine Kept.set ?_ _ _ | refine Kept.below ?_ (by assumption))))))
                ((first
                  | (go_at_call 77; refine (joinedP_any (n := n + 2) (AV.later hb3d) (BV.later hb3d) (CV.later hb3d) (DV.later hb3d) (by omega) (by omega) (by omega) (by omega) (by omega) hB hD (h3.later (Below.refl _ _))).mono ?_; rintro e w4 ⟨r4, rfl, q4, hb4⟩; rw [HF.out] at q4; obtain ⟨ng, fs, gs, f1, f2, j1, j2, rfl⟩ := q4.arg.box; have P4 := P3.later hb4; obtain ⟨u0, u1, u2, g0, g1, g2⟩ := P4.three)
                  | (go_at_call 78; refine (over_any (AV.later (Below.refl _ V).drew) (DV.later (Below.refl _ V).drew) (show xs.length ≤ n + 2 by omega) (by omega) (by omega)).mono ?_; rintro e w3 ⟨r3, rfl, h3, hb3⟩; have hb3d : Below V.heap.size V w3 := ⟨hb3.os, hb3.tape, hb3.output, hb3.size, hb3.block⟩; have P3 := P2.later hb3d)))
              have hs3 := hb3d.size
              have hs4 := hb4.size
              go_wp2_with fail
              refine bodyPost_ret (v := .agg #[.bool ng, .slice f1 fs.length j1, .slice f2 gs.length j2]) (by simp [results, Tryz.results40, go_sem, u0, u1, u2]) rfl ⟨_, rfl, ?_, ?_⟩
              · exact ((q4.far P4 (by decide) (kept3 _ _ _)).mono (by omega)).more (by omega)
              · exact below_set3 ((hB2.trans (hb3d.mono (by omega))).trans (hb4.mono (by omega))) (by omega) _ _ _
  case o1_2 =>
    go_simp
    refine hK.out _ _ trivial (fun hHeld => ?_)
    clear hK K hHeld
    try simp only [Act.put, List.setIfInBounds_toArray, List.set_cons_zero, List.set_cons_succ]
    refine wpAnyH_ready (rs := [0]) (by kernel_rfl) (by simp) ?_
    refine AllReadyH.cons rfl (fun K hK => ?o11_0) AllReadyH.nil
    case o11_0 =>
      go_simp
      refine hK.out _ _ trivial (fun hHeld => ?_)
      clear hK K hHeld
      try simp only [Act.put, List.setIfInBounds_toArray, List.set_cons_zero, List.set_cons_succ]
      refine wpAnyH_ready (rs := [1]) (by kernel_rfl) (by simp) ?_
      refine AllReadyH.cons rfl (fun K hK => ?o12_1) AllReadyH.nil
      case o12_1 =>
        go_simp
        (refine (plain_any hu' (by omega)).mono ?_)
        rintro e w1 ⟨r1, rfl, h1, hb1⟩
        have hb1d : Below W.heap.size W w1 := ⟨hb1.os, hb1.tape, hb1.output, hb1.size, hb1.block⟩
        obtain ⟨m1, xs, ds, a1, a2, c1, c2, rfl, A, B, hX, hx, hd, hB, _⟩ := h1
        have R0' := R0.later hb1d
        have R1' := R1.later hb1d
        obtain ⟨i0, i1, i2, _, _, _⟩ := R1'.three
        go_simp
        refine hK.out _ _ trivial (fun hHeld => ?_)
        clear hK K hHeld
        try simp only [Act.put, List.setIfInBounds_toArray, List.set_cons_zero, List.set_cons_succ]
        refine wpAnyH_ready (rs := [3]) (by kernel_rfl) (by simp) ?_
        refine AllReadyH.cons rfl (fun K hK => ?o13_3) AllReadyH.nil
        case o13_3 =>
          go_simp
          (refine (plain_any (hv'.later (show Below W.heap.size W w1 from hb1d)) (by omega)).mono ?_)
          rintro e w2 ⟨r2, rfl, h2, hb2⟩
          obtain ⟨m2, zs, es, a3, a4, c3, c4, rfl, C, D, hY, hz, he, hD, _⟩ := h2
          obtain ⟨t0, t1, t2, t3, t4, t5⟩ := (R0'.later hb2).three
          obtain ⟨s0, s1, s2, s3, s4, s5⟩ := (R1'.later hb2).three
          go_simp
          refine hK.out _ _ trivial (fun hHeld => ?_)
          clear hK K hHeld
          try simp only [Act.put, List.setIfInBounds_toArray, List.set_cons_zero, List.set_cons_succ]
          refine wpAnyH_ready (rs := [4]) (by kernel_rfl) (by simp) ?_
          refine AllReadyH.cons rfl (fun K hK => ?o14_4) AllReadyH.nil
          case o14_4 =>
            go_simp
            refine hK.out _ _ trivial (fun hHeld => ?_)
            clear hK K hHeld
            try simp only [Act.put, List.setIfInBounds_toArray, List.set_cons_zero, List.set_cons_succ]
            refine wpAnyH_ready (rs := [5]) (by kernel_rfl) (by simp) ?_
            refine AllReadyH.cons rfl (fun K hK => ?o15_5) AllReadyH.nil
            case o15_5 =>
              go_simp
              refine hK.out _ _ trivial (fun hHeld => ?_)
              clear hK K hHeld
              try simp only [Act.put, List.setIfInBounds_toArray, List.set_cons_zero, List.set_cons_succ]
              refine wpAnyH_done (by kernel_rfl) ?_ _
              refine NoPanic.normal ?_
              have hs1 := hb1d.size
              have hs2 := hb2.size
              obtain ⟨V, hV⟩ : ∃ V, (((((w2.setCell ⟨w.heap.size, 0, none⟩ (.bool m1)).setCell ⟨w.heap.size, 1, none⟩ (.slice a1 xs.length c1)).setCell ⟨w.heap.size, 2, none⟩ (.slice a2 ds.length c2)).setCell ⟨w.heap.size + 1, 0, none⟩ (.bool m2)).setCell ⟨w.heap.size + 1, 1, none⟩ (.slice a3 zs.length c3)).setCell ⟨w.heap.size + 1, 2, none⟩ (.slice a4 es.length c4) = V := ⟨_, rfl⟩
              have Z0 := (R0'.later hb2)
              have Z1 := (R1'.later hb2)
              have Z1' : Row (((w2.setCell ⟨w.heap.size, 0, none⟩ (.bool m1)).setCell ⟨w.heap.size, 1, none⟩ (.slice a1 xs.length c1)).setCell ⟨w.heap.size, 2, none⟩ (.slice a2 ds.length c2)) (w.heap.size + 1) 44 #[.bool n2, .slice e3 rs.length k3, .slice e4 ss.length k4] := ((Z1.far (by simp) _).far (by simp) _).far (by simp) _
              have P0 : Row V (w.heap.size) 44 #[.bool m1, .slice a1 xs.length c1, .slice a2 ds.length c2] := by rw [← hV]; exact (((Z0.set3 _ _ _).far (by simp) _).far (by simp) _).far (by simp) _
              have P1 : Row V (w.heap.size + 1) 44 #[.bool m2, .slice a3 zs.length c3, .slice a4 es.length c4] := by rw [← hV]; exact Z1'.set3 _ _ _
              have P2 : Row V (w.heap.size + 1 + 1) 44 #[.bool false, .slice none 0 0, .slice none 0 0] := by rw [← hV]; exact ((((((((R2.later hb1d).later hb2)).far (by simp <;> omega) _).far (by simp <;> omega) _).far (by simp <;> omega) _).far (by simp <;> omega) _).far (by simp <;> omega) _).far (by simp <;> omega) _
              have hsV : w2.heap.size ≤ V.heap.size := by rw [← hV]; simp
              have hB2 : Below w.heap.size w V := by rw [← hV]; exact below_set3 (below_set3 ((hBW.trans (hb1d.mono (by omega))).trans (hb2.mono (by omega))) (by omega) _ _ _) (by omega) _ _ _
              have AV : Arg V (.slice a1 xs.length c1) xs a1 c1 := by rw [← hV]; exact ((A.later hb2).far Z0 (noInts3 _ _ _ _ _ _ _) (kept3 _ _ _)).far Z1' (noInts3 _ _ _ _ _ _ _) (kept3 _ _ _)
              have BV : Arg V (.slice a2 ds.length c2) ds a2 c2 := by rw [← hV]; exact ((B.later hb2).far Z0 (noInts3 _ _ _ _ _ _ _) (kept3 _ _ _)).far Z1' (noInts3 _ _ _ _ _ _ _) (kept3 _ _ _)
              have CV : Arg V (.slice a3 zs.length c3) zs a3 c3 := by rw [← hV]; exact (C.far Z0 (noInts3 _ _ _ _ _ _ _) (kept3 _ _ _)).far Z1' (noInts3 _ _ _ _ _ _ _) (kept3 _ _ _)
              have DV : Arg V (.slice a4 es.length c4) es a4 c4 := by rw [← hV]; exact (D.far Z0 (noInts3 _ _ _ _ _ _ _) (kept3 _ _ _)).far Z1' (noInts3 _ _ _ _ _ _ _) (kept3 _ _ _)
              have hfin : ratOf m1 (val xs) (val ds) + ratOf m2 (val zs) (val es) = X + Y := by rw [hX, hY]
              have HF := Lib.hid hfin
              have mkS : ∀ X, Kept (w.heap.size + 1 + 1) V X → X.cell? ⟨w.heap.size, 0, none⟩ = some (.bool m1) ∧ X.cell? ⟨w.heap.size, 1, none⟩ = some (.slice a1 xs.length c1) ∧ X.cell? ⟨w.heap.size, 2, none⟩ = some (.slice a2 ds.length c2) ∧ X.cell? ⟨w.heap.size + 1, 0, none⟩ = some (.bool m2) ∧ X.cell? ⟨w.heap.size + 1, 1, none⟩ = some (.slice a3 zs.length c3) ∧ X.cell? ⟨w.heap.size + 1, 2, none⟩ = some (.slice a4 es.length c4) ∧ Kept (w.heap.size + 1 + 1) V X := fun X h => ⟨(P0.kept h (by omega)).cell 0, (P0.kept h (by omega)).cell 1, (P0.kept h (by omega)).cell 2, (P1.kept h (by omega)).cell 0, (P1.kept h (by omega)).cell 1, (P1.kept h (by omega)).cell 2, h⟩
              clear hfin hX hY Z0 Z1 Z1' A B C D R0 R1 R2 R0' R1' hu hv hu' hv' hb1 hb1d hb2 hBW p0 p1 p2 p3 p4 p5 o0 o1 o2 o3 o4 o5 t0 t1 t2 t3 t4 t5 s0 s1 s2 s3 s4 s5 i0 i1 i2
              go_wp2_with fail
              (try rw [hV])
              clear hV
              go_region_held3 (fun X => X.cell? ⟨w.heap.size, 0, none⟩ = some (.bool m1) ∧ X.cell? ⟨w.heap.size, 1, none⟩ = some (.slice a1 xs.length c1) ∧ X.cell? ⟨w.heap.size, 2, none⟩ = some (.slice a2 ds.length c2) ∧ X.cell? ⟨w.heap.size + 1, 0, none⟩ = some (.bool m2) ∧ X.cell? ⟨w.heap.size + 1, 1, none⟩ = some (.slice a3 zs.length c3) ∧ X.cell? ⟨w.heap.size + 1, 2, none⟩ = some (.slice a4 es.length c4) ∧ Kept (w.heap.size + 1 + 1) V X)
                (((refine mkS _ ?_; (repeat' (first | exact Kept.refl _ _ | refine Kept.drew ?_ | refine Kept.alloc ?_ _ | refine Kept.set ?_ _ _ | refine Kept.below ?_ (by assumption))))))
                ((first
                  | (go_at_call 77; refine (joinedP_any (n := n + 2) (AV.later hb3d) (BV.later hb3d) (CV.later hb3d) (DV.later hb3d) (by omega) (by omega) (by omega) (by omega) (by omega) hB hD (h3.later (Below.refl _ _))).mono ?_; rintro e w4 ⟨r4, rfl, q4, hb4⟩; rw [HF.out] at q4; obtain ⟨ng, fs, gs, f1, f2, j1, j2, rfl⟩ := q4.arg.box; have P4 := P3.later hb4; obtain ⟨u0, u1, u2, g0, g1, g2⟩ := P4.three)
                  | (go_at_call 78; refine (over_any (AV.later (Below.refl _ V).drew) (DV.later (Below.refl _ V).drew) (show xs.length ≤ n + 2 by omega) (by omega) (by omega)).mono ?_; rintro e w3 ⟨r3, rfl, h3, hb3⟩; have hb3d : Below V.heap.size V w3 := ⟨hb3.os, hb3.tape, hb3.output, hb3.size, hb3.block⟩; have P3 := P2.later hb3d)))
              have hs3 := hb3d.size
              have hs4 := hb4.size
              go_wp2_with fail
              refine bodyPost_ret (v := .agg #[.bool ng, .slice f1 fs.length j1, .slice f2 gs.length j2]) (by simp [results, Tryz.results40, go_sem, u0, u1, u2]) rfl ⟨_, rfl, ?_, ?_⟩
              · exact ((q4.far P4 (by decide) (kept3 _ _ _)).mono (by omega)).more (by omega)
              · exact below_set3 ((hB2.trans (hb3d.mono (by omega))).trans (hb4.mono (by omega))) (by omega) _ _ _
end
section
open Go.RowKit
set_option linter.unusedVariables false
set_option linter.unusedSimpArgs false
theorem sgR_diff {m n : Bool} {A B C D : Int} (hB : 0 < B) (hD : 0 < D) : sgR (ratOf m A B - ratOf n C D) = (sgn m (A * D) - sgn n (C * B)).sign := by
  have h := rat_diff (m := m) (n := n) (r := false) (S := sgn m (A * D) - sgn n (C * B)) hB hD (by rw [sgn_not, sgn_pos, Int.sub_eq_add_neg])
  rw [← h, sgR_ratOf _ _ (Int.mul_pos hB hD), sgn_pos]
set_option maxRecDepth 100000 in
set_option maxHeartbeats 8000000 in
theorem cmpQ_any {n : Nat} {w : World} {u v : Value} {X Y : Rat} (hu : ArgQ w u X n) (hv : ArgQ w v Y n) (hn : n ≤ 16777000) :
    Calls Tryz.prog 106 #[u, v] w fun e w' => e = .returned (.int .i64 (sgR (X - Y))) ∧ Below w.heap.size w w' := by
  obtain ⟨n1, ps, qs, e1, e2, k1, k2, rfl⟩ := hu.box
  obtain ⟨n2, rs, ss, e3, e4, k3, k4, rfl⟩ := hv.box
  obtain ⟨W, hW⟩ : ∃ W, ((w.alloc (.cells #[.bool n1, .slice e1 ps.length k1, .slice e2 qs.length k2] 44)).alloc (.cells #[.bool n2, .slice e3 rs.length k3, .slice e4 ss.length k4] 44)) = W := ⟨_, rfl⟩
  have R0 : Row W (w.heap.size) 44 #[.bool n1, .slice e1 ps.length k1, .slice e2 qs.length k2] := by rw [← hW]; exact ((Row.new _ _ _).alloc _)
  have R1 : Row W (w.heap.size + 1) 44 #[.bool n2, .slice e3 rs.length k3, .slice e4 ss.length k4] := by rw [← hW]; have h := (Row.new (w.alloc (.cells #[.bool n1, .slice e1 ps.length k1, .slice e2 qs.length k2] 44)) 44 #[.bool n2, .slice e3 rs.length k3, .slice e4 ss.length k4]); simp only [World.size_alloc] at h; exact h
  have hBW : Below w.heap.size w W := by rw [← hW]; exact (((Below.refl _ _).alloc (by (try simp) <;> omega) _).alloc (by (try simp) <;> omega) _)
  have hsW : w.heap.size + 1 + 1 ≤ W.heap.size := by rw [← hW]; simp
  have hu' := (hu.later hBW).later (Below.refl _ W).drew
  have hv' := hv.later hBW
  obtain ⟨p0, p1, p2, p3, p4, p5⟩ := R0.three
  obtain ⟨o0, o1, o2, o3, o4, o5⟩ := R1.three
  have hmf : ∀ (fn : Fn) (first cap : Array Value) (w : World), (Instr.makeFunc fn first cap).run Tryz.prog w = .ok (.func fn first cap) w := fun _ _ _ _ => rfl
  go_enter Tryz.func106, Tryz.ntmps106
  go_wp2_with fail
  clear hW
  refine wp_region_noPanic ?_
  refine wp_region_held_drew (S := fun _ => True) (by kernel_rfl) trivial (fun hHeld => ?_)
  clear hHeld
  refine wpAnyH_ready (rs := [0, 2]) (by kernel_rfl) (by simp) ?_
  refine AllReadyH.cons rfl (fun K hK => ?o1_0) (AllReadyH.cons rfl (fun K hK => ?o1_2) AllReadyH.nil)
  case o1_0 =>
    go_simp
    refine hK.out _ _ trivial (fun hHeld => ?_)
    clear hK K hHeld
    try simp only [Act.put, List.setIfInBounds_toArray, List.set_cons_zero, List.set_cons_succ]
    refine wpAnyH_ready (rs := [1, 2]) (by kernel_rfl) (by simp) ?_
    refine AllReadyH.cons rfl (fun K hK => ?o2_1) (AllReadyH.cons rfl (fun K hK => ?o2_2) AllReadyH.nil)
    case o2_1 =>
      go_simp
      (refine (plain_any hu' (by omega)).mono ?_)
      rintro e w1 ⟨r1, rfl, h1, hb1⟩
      have hb1d : Below W.heap.size W w1 := ⟨hb1.os, hb1.tape, hb1.output, hb1.size, hb1.block⟩
      obtain ⟨m1, xs, ds, a1, a2, c1, c2, rfl, A, B, hX, hx, hd, hB, _⟩ := h1
      have R0' := R0.later hb1d
      have R1' := R1.later hb1d
      obtain ⟨i0, i1, i2, _, _, _⟩ := R1'.three
      go_simp
      refine hK.out _ _ trivial (fun hHeld => ?_)
      clear hK K hHeld
      try simp only [Act.put, List.setIfInBounds_toArray, List.set_cons_zero, List.set_cons_succ]
      refine wpAnyH_ready (rs := [2]) (by kernel_rfl) (by simp) ?_
      refine AllReadyH.cons rfl (fun K hK => ?o3_2) AllReadyH.nil
      case o3_2 =>
        go_simp
        refine hK.out _ _ trivial (fun hHeld => ?_)
        clear hK K hHeld
        try simp only [Act.put, List.setIfInBounds_toArray, List.set_cons_zero, List.set_cons_succ]
        refine wpAnyH_ready (rs := [3]) (by kernel_rfl) (by simp) ?_
        refine AllReadyH.cons rfl (fun K hK => ?o4_3) AllReadyH.nil
        case o4_3 =>
          go_simp
          (refine (plain_any (hv'.later (show Below W.heap.size W w1 from hb1d)) (by omega)).mono ?_)
          rintro e w2 ⟨r2, rfl, h2, hb2⟩
          obtain ⟨m2, zs, es, a3, a4, c3, c4, rfl, C, D, hY, hz, he, hD, _⟩ := h2
          obtain ⟨t0, t1, t2, t3, t4, t5⟩ := (R0'.later hb2).three
          obtain ⟨s0, s1, s2, s3, s4, s5⟩ := (R1'.later hb2).three
          go_simp
          refine hK.out _ _ trivial (fun hHeld => ?_)
          clear hK K hHeld
          try simp only [Act.put, List.setIfInBounds_toArray, List.set_cons_zero, List.set_cons_succ]
          refine wpAnyH_ready (rs := [4]) (by kernel_rfl) (by simp) ?_
          refine AllReadyH.cons rfl (fun K hK => ?o5_4) AllReadyH.nil
          case o5_4 =>
            go_simp
            refine hK.out _ _ trivial (fun hHeld => ?_)
            clear hK K hHeld
            try simp only [Act.put, List.setIfInBounds_toArray, List.set_cons_zero, List.set_cons_succ]
            refine wpAnyH_ready (rs := [5]) (by kernel_rfl) (by simp) ?_
            refine AllReadyH.cons rfl (fun K hK => ?o6_5) AllReadyH.nil
            case o6_5 =>
              go_simp
              refine hK.out _ _ trivial (fun hHeld => ?_)
              clear hK K hHeld
              try simp only [Act.put, List.setIfInBounds_toArray, List.set_cons_zero, List.set_cons_succ]
              refine wpAnyH_done (by kernel_rfl) ?_ _
              refine NoPanic.normal ?_
              have hs1 := hb1d.size
              have hs2 := hb2.size
              obtain ⟨V, hV⟩ : ∃ V, (((((w2.setCell ⟨w.heap.size, 0, none⟩ (.bool m1)).setCell ⟨w.heap.size, 1, none⟩ (.slice a1 xs.length c1)).setCell ⟨w.heap.size, 2, none⟩ (.slice a2 ds.length c2)).setCell ⟨w.heap.size + 1, 0, none⟩ (.bool m2)).setCell ⟨w.heap.size + 1, 1, none⟩ (.slice a3 zs.length c3)).setCell ⟨w.heap.size + 1, 2, none⟩ (.slice a4 es.length c4) = V := ⟨_, rfl⟩
              have Z0 := (R0'.later hb2)
              have Z1 := (R1'.later hb2)
              have Z1' : Row (((w2.setCell ⟨w.heap.size, 0, none⟩ (.bool m1)).setCell ⟨w.heap.size, 1, none⟩ (.slice a1 xs.length c1)).setCell ⟨w.heap.size, 2, none⟩ (.slice a2 ds.length c2)) (w.heap.size + 1) 44 #[.bool n2, .slice e3 rs.length k3, .slice e4 ss.length k4] := ((Z1.far (by simp) _).far (by simp) _).far (by simp) _
              have P0 : Row V (w.heap.size) 44 #[.bool m1, .slice a1 xs.length c1, .slice a2 ds.length c2] := by rw [← hV]; exact (((Z0.set3 _ _ _).far (by simp) _).far (by simp) _).far (by simp) _
              have P1 : Row V (w.heap.size + 1) 44 #[.bool m2, .slice a3 zs.length c3, .slice a4 es.length c4] := by rw [← hV]; exact Z1'.set3 _ _ _
              have hsV : w2.heap.size ≤ V.heap.size := by rw [← hV]; simp
              have hB2 : Below w.heap.size w V := by rw [← hV]; exact below_set3 (below_set3 ((hBW.trans (hb1d.mono (by omega))).trans (hb2.mono (by omega))) (by omega) _ _ _) (by omega) _ _ _
              have AV : Arg V (.slice a1 xs.length c1) xs a1 c1 := by rw [← hV]; exact ((A.later hb2).far Z0 (noInts3 _ _ _ _ _ _ _) (kept3 _ _ _)).far Z1' (noInts3 _ _ _ _ _ _ _) (kept3 _ _ _)
              have BV : Arg V (.slice a2 ds.length c2) ds a2 c2 := by rw [← hV]; exact ((B.later hb2).far Z0 (noInts3 _ _ _ _ _ _ _) (kept3 _ _ _)).far Z1' (noInts3 _ _ _ _ _ _ _) (kept3 _ _ _)
              have CV : Arg V (.slice a3 zs.length c3) zs a3 c3 := by rw [← hV]; exact (C.far Z0 (noInts3 _ _ _ _ _ _ _) (kept3 _ _ _)).far Z1' (noInts3 _ _ _ _ _ _ _) (kept3 _ _ _)
              have DV : Arg V (.slice a4 es.length c4) es a4 c4 := by rw [← hV]; exact (D.far Z0 (noInts3 _ _ _ _ _ _ _) (kept3 _ _ _)).far Z1' (noInts3 _ _ _ _ _ _ _) (kept3 _ _ _)
              have hfin : (sgn m1 (val xs * val es) - sgn m2 (val zs * val ds)).sign = sgR (X - Y) := by rw [← sgR_diff hB hD, hX, hY]
              have HF := Lib.hid hfin
              have mkS : ∀ X, Kept (w.heap.size + 1 + 1) V X → X.cell? ⟨w.heap.size, 0, none⟩ = some (.bool m1) ∧ X.cell? ⟨w.heap.size, 1, none⟩ = some (.slice a1 xs.length c1) ∧ X.cell? ⟨w.heap.size, 2, none⟩ = some (.slice a2 ds.length c2) ∧ X.cell? ⟨w.heap.size + 1, 0, none⟩ = some (.bool m2) ∧ X.cell? ⟨w.heap.size + 1, 1, none⟩ = some (.slice a3 zs.length c3) ∧ X.cell? ⟨w.heap.size + 1, 2, none⟩ = some (.slice a4 es.length c4) ∧ Kept (w.heap.size + 1 + 1) V X := fun X h => ⟨(P0.kept h (by omega)).cell 0, (P0.kept h (by omega)).cell 1, (P0.kept h (by omega)).cell 2, (P1.kept h (by omega)).cell 0, (P1.kept h (by omega)).cell 1, (P1.kept h (by omega)).cell 2, h⟩
              clear hfin hX hY Z0 Z1 Z1' A B C D R0 R1 R0' R1' hu hv hu' hv' hb1 hb1d hb2 hBW p0 p1 p2 p3 p4 p5 o0 o1 o2 o3 o4 o5 t0 t1 t2 t3 t4 t5 s0 s1 s2 s3 s4 s5 i0 i1 i2
              go_wp2_with fail
              (try rw [hV])
              clear hV
              go_region_held3 (fun X => X.cell? ⟨w.heap.size, 0, none⟩ = some (.bool m1) ∧ X.cell? ⟨w.heap.size, 1, none⟩ = some (.slice a1 xs.length c1) ∧ X.cell? ⟨w.heap.size, 2, none⟩ = some (.slice a2 ds.length c2) ∧ X.cell? ⟨w.heap.size + 1, 0, none⟩ = some (.bool m2) ∧ X.cell? ⟨w.heap.size + 1, 1, none⟩ = some (.slice a3 zs.length c3) ∧ X.cell? ⟨w.heap.size + 1, 2, none⟩ = some (.slice a4 es.length c4) ∧ Kept (w.heap.size + 1 + 1) V X)
                (((refine mkS _ ?_; (repeat' (first | exact Kept.refl _ _ | refine Kept.drew ?_ | refine Kept.alloc ?_ _ | refine Kept.set ?_ _ _ | refine Kept.below ?_ (by assumption))))))
                ((first
                  | (go_at_call 81; refine (sign_any h5 (by omega)).mono ?_; rintro e w6 ⟨rfl, hb6⟩)
                  | (go_at_call 133; refine (minus_any (h3.later hb4) h4 (by omega)).mono ?_; rintro e w5 ⟨r5, rfl, h5, hb5⟩)
                  | (go_at_call 78; (with_reducible refine (over_any (m := n + 2) (CV.later hb3d) (BV.later hb3d) hz hd (by omega)).mono ?_); rintro e w4 ⟨r4, rfl, h4, hb4⟩)
                  | (go_at_call 78; (with_reducible refine (over_any (m := n + 2) (AV.later (Below.refl _ V).drew) (DV.later (Below.refl _ V).drew) hx he (by omega)).mono ?_); rintro e w3 ⟨r3, rfl, h3, hb3⟩; have hb3d : Below V.heap.size V w3 := ⟨hb3.os, hb3.tape, hb3.output, hb3.size, hb3.block⟩)))
              have hs3 := hb3d.size
              have hs4 := hb4.size
              have hs5 := hb5.size
              go_wp2_with fail
              go_ret
              exact ⟨by rw [← HF.out]; rfl, (((hB2.trans (hb3d.mono (by omega))).trans (hb4.mono (by omega))).trans (hb5.mono (by omega))).trans (hb6.mono (by omega))⟩
    case o2_2 =>
      go_simp
      refine hK.out _ _ trivial (fun hHeld => ?_)
      clear hK K hHeld
      try simp only [Act.put, List.setIfInBounds_toArray, List.set_cons_zero, List.set_cons_succ]
      refine wpAnyH_ready (rs := [1]) (by kernel_rfl) (by simp) ?_
      refine AllReadyH.cons rfl (fun K hK => ?o7_1) AllReadyH.nil
      case o7_1 =>
        go_simp
        (refine (plain_any hu' (by omega)).mono ?_)
        rintro e w1 ⟨r1, rfl, h1, hb1⟩
        have hb1d : Below W.heap.size W w1 := ⟨hb1.os, hb1.tape, hb1.output, hb1.size, hb1.block⟩
        obtain ⟨m1, xs, ds, a1, a2, c1, c2, rfl, A, B, hX, hx, hd, hB, _⟩ := h1
        have R0' := R0.later hb1d
        have R1' := R1.later hb1d
        obtain ⟨i0, i1, i2, _, _, _⟩ := R1'.three
        go_simp
        refine hK.out _ _ trivial (fun hHeld => ?_)
        clear hK K hHeld
        try simp only [Act.put, List.setIfInBounds_toArray, List.set_cons_zero, List.set_cons_succ]
        refine wpAnyH_ready (rs := [3]) (by kernel_rfl) (by simp) ?_
        refine AllReadyH.cons rfl (fun K hK => ?o8_3) AllReadyH.nil
        case o8_3 =>
          go_simp
          (refine (plain_any (hv'.later (show Below W.heap.size W w1 from hb1d)) (by omega)).mono ?_)
          rintro e w2 ⟨r2, rfl, h2, hb2⟩
          obtain ⟨m2, zs, es, a3, a4, c3, c4, rfl, C, D, hY, hz, he, hD, _⟩ := h2
          obtain ⟨t0, t1, t2, t3, t4, t5⟩ := (R0'.later hb2).three
          obtain ⟨s0, s1, s2, s3, s4, s5⟩ := (R1'.later hb2).three
          go_simp
          refine hK.out _ _ trivial (fun hHeld => ?_)
          clear hK K hHeld
          try simp only [Act.put, List.setIfInBounds_toArray, List.set_cons_zero, List.set_cons_succ]
          refine wpAnyH_ready (rs := [4]) (by kernel_rfl) (by simp) ?_
          refine AllReadyH.cons rfl (fun K hK => ?o9_4) AllReadyH.nil
          case o9_4 =>
            go_simp
            refine hK.out _ _ trivial (fun hHeld => ?_)
            clear hK K hHeld
            try simp only [Act.put, List.setIfInBounds_toArray, List.set_cons_zero, List.set_cons_succ]
            refine wpAnyH_ready (rs := [5]) (by kernel_rfl) (by simp) ?_
            refine AllReadyH.cons rfl (fun K hK => ?o10_5) AllReadyH.nil
            case o10_5 =>
              go_simp
              refine hK.out _ _ trivial (fun hHeld => ?_)
              clear hK K hHeld
              try simp only [Act.put, List.setIfInBounds_toArray, List.set_cons_zero, List.set_cons_succ]
              refine wpAnyH_done (by kernel_rfl) ?_ _
              refine NoPanic.normal ?_
              have hs1 := hb1d.size
              have hs2 := hb2.size
              obtain ⟨V, hV⟩ : ∃ V, (((((w2.setCell ⟨w.heap.size, 0, none⟩ (.bool m1)).setCell ⟨w.heap.size, 1, none⟩ (.slice a1 xs.length c1)).setCell ⟨w.heap.size, 2, none⟩ (.slice a2 ds.length c2)).setCell ⟨w.heap.size + 1, 0, none⟩ (.bool m2)).setCell ⟨w.heap.size + 1, 1, none⟩ (.slice a3 zs.length c3)).setCell ⟨w.heap.size + 1, 2, none⟩ (.slice a4 es.length c4) = V := ⟨_, rfl⟩
              have Z0 := (R0'.later hb2)
              have Z1 := (R1'.later hb2)
              have Z1' : Row (((w2.setCell ⟨w.heap.size, 0, none⟩ (.bool m1)).setCell ⟨w.heap.size, 1, none⟩ (.slice a1 xs.length c1)).setCell ⟨w.heap.size, 2, none⟩ (.slice a2 ds.length c2)) (w.heap.size + 1) 44 #[.bool n2, .slice e3 rs.length k3, .slice e4 ss.length k4] := ((Z1.far (by simp) _).far (by simp) _).far (by simp) _
              have P0 : Row V (w.heap.size) 44 #[.bool m1, .slice a1 xs.length c1, .slice a2 ds.length c2] := by rw [← hV]; exact (((Z0.set3 _ _ _).far (by simp) _).far (by simp) _).far (by simp) _
              have P1 : Row V (w.heap.size + 1) 44 #[.bool m2, .slice a3 zs.length c3, .slice a4 es.length c4] := by rw [← hV]; exact Z1'.set3 _ _ _
              have hsV : w2.heap.size ≤ V.heap.size := by rw [← hV]; simp
              have hB2 : Below w.heap.size w V := by rw [← hV]; exact below_set3 (below_set3 ((hBW.trans (hb1d.mono (by omega))).trans (hb2.mono (by omega))) (by omega) _ _ _) (by omega) _ _ _
              have AV : Arg V (.slice a1 xs.length c1) xs a1 c1 := by rw [← hV]; exact ((A.later hb2).far Z0 (noInts3 _ _ _ _ _ _ _) (kept3 _ _ _)).far Z1' (noInts3 _ _ _ _ _ _ _) (kept3 _ _ _)
              have BV : Arg V (.slice a2 ds.length c2) ds a2 c2 := by rw [← hV]; exact ((B.later hb2).far Z0 (noInts3 _ _ _ _ _ _ _) (kept3 _ _ _)).far Z1' (noInts3 _ _ _ _ _ _ _) (kept3 _ _ _)
              have CV : Arg V (.slice a3 zs.length c3) zs a3 c3 := by rw [← hV]; exact (C.far Z0 (noInts3 _ _ _ _ _ _ _) (kept3 _ _ _)).far Z1' (noInts3 _ _ _ _ _ _ _) (kept3 _ _ _)
              have DV : Arg V (.slice a4 es.length c4) es a4 c4 := by rw [← hV]; exact (D.far Z0 (noInts3 _ _ _ _ _ _ _) (kept3 _ _ _)).far Z1' (noInts3 _ _ _ _ _ _ _) (kept3 _ _ _)
              have hfin : (sgn m1 (val xs * val es) - sgn m2 (val zs * val ds)).sign = sgR (X - Y) := by rw [← sgR_diff hB hD, hX, hY]
              have HF := Lib.hid hfin
              have mkS : ∀ X, Kept (w.heap.size + 1 + 1) V X → X.cell? ⟨w.heap.size, 0, none⟩ = some (.bool m1) ∧ X.cell? ⟨w.heap.size, 1, none⟩ = some (.slice a1 xs.length c1) ∧ X.cell? ⟨w.heap.size, 2, none⟩ = some (.slice a2 ds.length c2) ∧ X.cell? ⟨w.heap.size + 1, 0, none⟩ = some (.bool m2) ∧ X.cell? ⟨w.heap.size + 1, 1, none⟩ = some (.slice a3 zs.length c3) ∧ X.cell? ⟨w.heap.size + 1, 2, none⟩ = some (.slice a4 es.length c4) ∧ Kept (w.heap.size + 1 + 1) V X := fun X h => ⟨(P0.kept h (by omega)).cell 0, (P0.kept h (by omega)).cell 1, (P0.kept h (by omega)).cell 2, (P1.kept h (by omega)).cell 0, (P1.kept h (by omega)).cell 1, (P1.kept h (by omega)).cell 2, h⟩
              clear hfin hX hY Z0 Z1 Z1' A B C D R0 R1 R0' R1' hu hv hu' hv' hb1 hb1d hb2 hBW p0 p1 p2 p3 p4 p5 o0 o1 o2 o3 o4 o5 t0 t1 t2 t3 t4 t5 s0 s1 s2 s3 s4 s5 i0 i1 i2
              go_wp2_with fail
              (try rw [hV])
              clear hV
              go_region_held3 (fun X => X.cell? ⟨w.heap.size, 0, none⟩ = some (.bool m1) ∧ X.cell? ⟨w.heap.size, 1, none⟩ = some (.slice a1 xs.length c1) ∧ X.cell? ⟨w.heap.size, 2, none⟩ = some (.slice a2 ds.length c2) ∧ X.cell? ⟨w.heap.size + 1, 0, none⟩ = some (.bool m2) ∧ X.cell? ⟨w.heap.size + 1, 1, none⟩ = some (.slice a3 zs.length c3) ∧ X.cell? ⟨w.heap.size + 1, 2, none⟩ = some (.slice a4 es.length c4) ∧ Kept (w.heap.size + 1 + 1) V X)
                (((refine mkS _ ?_; (repeat' (first | exact Kept.refl _ _ | refine Kept.drew ?_ | refine Kept.alloc ?_ _ | refine Kept.set ?_ _ _ | refine Kept.below ?_ (by assumption))))))
                ((first
                  | (go_at_call 81; refine (sign_any h5 (by omega)).mono ?_; rintro e w6 ⟨rfl, hb6⟩)
                  | (go_at_call 133; refine (minus_any (h3.later hb4) h4 (by omega)).mono ?_; rintro e w5 ⟨r5, rfl, h5, hb5⟩)
                  | (go_at_call 78; (with_reducible refine (over_any (m := n + 2) (CV.later hb3d) (BV.later hb3d) hz hd (by omega)).mono ?_); rintro e w4 ⟨r4, rfl, h4, hb4⟩)
                  | (go_at_call 78; (with_reducible refine (over_any (m := n + 2) (AV.later (Below.refl _ V).drew) (DV.later (Below.refl _ V).drew) hx he (by omega)).mono ?_); rintro e w3 ⟨r3, rfl, h3, hb3⟩; have hb3d : Below V.heap.size V w3 := ⟨hb3.os, hb3.tape, hb3.output, hb3.size, hb3.block⟩)))
              have hs3 := hb3d.size
              have hs4 := hb4.size
              have hs5 := hb5.size
              go_wp2_with fail
              go_ret
              exact ⟨by rw [← HF.out]; rfl, (((hB2.trans (hb3d.mono (by omega))).trans (hb4.mono (by omega))).trans (hb5.mono (by omega))).trans (hb6.mono (by omega))⟩
  case o1_2 =>
    go_simp
    refine hK.out _ _ trivial (fun hHeld => ?_)
    clear hK K hHeld
    try simp only [Act.put, List.setIfInBounds_toArray, List.set_cons_zero, List.set_cons_succ]
    refine wpAnyH_ready (rs := [0]) (by kernel_rfl) (by simp) ?_
    refine AllReadyH.cons rfl (fun K hK => ?o11_0) AllReadyH.nil
    case o11_0 =>
      go_simp
      refine hK.out _ _ trivial (fun hHeld => ?_)
      clear hK K hHeld
      try simp only [Act.put, List.setIfInBounds_toArray, List.set_cons_zero, List.set_cons_succ]
      refine wpAnyH_ready (rs := [1]) (by kernel_rfl) (by simp) ?_
      refine AllReadyH.cons rfl (fun K hK => ?o12_1) AllReadyH.nil
      case o12_1 =>
        go_simp
        (refine (plain_any hu' (by omega)).mono ?_)
        rintro e w1 ⟨r1, rfl, h1, hb1⟩
        have hb1d : Below W.heap.size W w1 := ⟨hb1.os, hb1.tape, hb1.output, hb1.size, hb1.block⟩
        obtain ⟨m1, xs, ds, a1, a2, c1, c2, rfl, A, B, hX, hx, hd, hB, _⟩ := h1
        have R0' := R0.later hb1d
        have R1' := R1.later hb1d
        obtain ⟨i0, i1, i2, _, _, _⟩ := R1'.three
        go_simp
        refine hK.out _ _ trivial (fun hHeld => ?_)
        clear hK K hHeld
        try simp only [Act.put, List.setIfInBounds_toArray, List.set_cons_zero, List.set_cons_succ]
        refine wpAnyH_ready (rs := [3]) (by kernel_rfl) (by simp) ?_
        refine AllReadyH.cons rfl (fun K hK => ?o13_3) AllReadyH.nil
        case o13_3 =>
          go_simp
          (refine (plain_any (hv'.later (show Below W.heap.size W w1 from hb1d)) (by omega)).mono ?_)
          rintro e w2 ⟨r2, rfl, h2, hb2⟩
          obtain ⟨m2, zs, es, a3, a4, c3, c4, rfl, C, D, hY, hz, he, hD, _⟩ := h2
          obtain ⟨t0, t1, t2, t3, t4, t5⟩ := (R0'.later hb2).three
          obtain ⟨s0, s1, s2, s3, s4, s5⟩ := (R1'.later hb2).three
          go_simp
          refine hK.out _ _ trivial (fun hHeld => ?_)
          clear hK K hHeld
          try simp only [Act.put, List.setIfInBounds_toArray, List.set_cons_zero, List.set_cons_succ]
          refine wpAnyH_ready (rs := [4]) (by kernel_rfl) (by simp) ?_
          refine AllReadyH.cons rfl (fun K hK => ?o14_4) AllReadyH.nil
          case o14_4 =>
            go_simp
            refine hK.out _ _ trivial (fun hHeld => ?_)
            clear hK K hHeld
            try simp only [Act.put, List.setIfInBounds_toArray, List.set_cons_zero, List.set_cons_succ]
            refine wpAnyH_ready (rs := [5]) (by kernel_rfl) (by simp) ?_
            refine AllReadyH.cons rfl (fun K hK => ?o15_5) AllReadyH.nil
            case o15_5 =>
              go_simp
              refine hK.out _ _ trivial (fun hHeld => ?_)
              clear hK K hHeld
              try simp only [Act.put, List.setIfInBounds_toArray, List.set_cons_zero, List.set_cons_succ]
              refine wpAnyH_done (by kernel_rfl) ?_ _
              refine NoPanic.normal ?_
              have hs1 := hb1d.size
              have hs2 := hb2.size
              obtain ⟨V, hV⟩ : ∃ V, (((((w2.setCell ⟨w.heap.size, 0, none⟩ (.bool m1)).setCell ⟨w.heap.size, 1, none⟩ (.slice a1 xs.length c1)).setCell ⟨w.heap.size, 2, none⟩ (.slice a2 ds.length c2)).setCell ⟨w.heap.size + 1, 0, none⟩ (.bool m2)).setCell ⟨w.heap.size + 1, 1, none⟩ (.slice a3 zs.length c3)).setCell ⟨w.heap.size + 1, 2, none⟩ (.slice a4 es.length c4) = V := ⟨_, rfl⟩
              have Z0 := (R0'.later hb2)
              have Z1 := (R1'.later hb2)
              have Z1' : Row (((w2.setCell ⟨w.heap.size, 0, none⟩ (.bool m1)).setCell ⟨w.heap.size, 1, none⟩ (.slice a1 xs.length c1)).setCell ⟨w.heap.size, 2, none⟩ (.slice a2 ds.length c2)) (w.heap.size + 1) 44 #[.bool n2, .slice e3 rs.length k3, .slice e4 ss.length k4] := ((Z1.far (by simp) _).far (by simp) _).far (by simp) _
              have P0 : Row V (w.heap.size) 44 #[.bool m1, .slice a1 xs.length c1, .slice a2 ds.length c2] := by rw [← hV]; exact (((Z0.set3 _ _ _).far (by simp) _).far (by simp) _).far (by simp) _
              have P1 : Row V (w.heap.size + 1) 44 #[.bool m2, .slice a3 zs.length c3, .slice a4 es.length c4] := by rw [← hV]; exact Z1'.set3 _ _ _
              have hsV : w2.heap.size ≤ V.heap.size := by rw [← hV]; simp
              have hB2 : Below w.heap.size w V := by rw [← hV]; exact below_set3 (below_set3 ((hBW.trans (hb1d.mono (by omega))).trans (hb2.mono (by omega))) (by omega) _ _ _) (by omega) _ _ _
              have AV : Arg V (.slice a1 xs.length c1) xs a1 c1 := by rw [← hV]; exact ((A.later hb2).far Z0 (noInts3 _ _ _ _ _ _ _) (kept3 _ _ _)).far Z1' (noInts3 _ _ _ _ _ _ _) (kept3 _ _ _)
              have BV : Arg V (.slice a2 ds.length c2) ds a2 c2 := by rw [← hV]; exact ((B.later hb2).far Z0 (noInts3 _ _ _ _ _ _ _) (kept3 _ _ _)).far Z1' (noInts3 _ _ _ _ _ _ _) (kept3 _ _ _)
              have CV : Arg V (.slice a3 zs.length c3) zs a3 c3 := by rw [← hV]; exact (C.far Z0 (noInts3 _ _ _ _ _ _ _) (kept3 _ _ _)).far Z1' (noInts3 _ _ _ _ _ _ _) (kept3 _ _ _)
              have DV : Arg V (.slice a4 es.length c4) es a4 c4 := by rw [← hV]; exact (D.far Z0 (noInts3 _ _ _ _ _ _ _) (kept3 _ _ _)).far Z1' (noInts3 _ _ _ _ _ _ _) (kept3 _ _ _)
              have hfin : (sgn m1 (val xs * val es) - sgn m2 (val zs * val ds)).sign = sgR (X - Y) := by rw [← sgR_diff hB hD, hX, hY]
              have HF := Lib.hid hfin
              have mkS : ∀ X, Kept (w.heap.size + 1 + 1) V X → X.cell? ⟨w.heap.size, 0, none⟩ = some (.bool m1) ∧ X.cell? ⟨w.heap.size, 1, none⟩ = some (.slice a1 xs.length c1) ∧ X.cell? ⟨w.heap.size, 2, none⟩ = some (.slice a2 ds.length c2) ∧ X.cell? ⟨w.heap.size + 1, 0, none⟩ = some (.bool m2) ∧ X.cell? ⟨w.heap.size + 1, 1, none⟩ = some (.slice a3 zs.length c3) ∧ X.cell? ⟨w.heap.size + 1, 2, none⟩ = some (.slice a4 es.length c4) ∧ Kept (w.heap.size + 1 + 1) V X := fun X h => ⟨(P0.kept h (by omega)).cell 0, (P0.kept h (by omega)).cell 1, (P0.kept h (by omega)).cell 2, (P1.kept h (by omega)).cell 0, (P1.kept h (by omega)).cell 1, (P1.kept h (by omega)).cell 2, h⟩
              clear hfin hX hY Z0 Z1 Z1' A B C D R0 R1 R0' R1' hu hv hu' hv' hb1 hb1d hb2 hBW p0 p1 p2 p3 p4 p5 o0 o1 o2 o3 o4 o5 t0 t1 t2 t3 t4 t5 s0 s1 s2 s3 s4 s5 i0 i1 i2
              go_wp2_with fail
              (try rw [hV])
              clear hV
              go_region_held3 (fun X => X.cell? ⟨w.heap.size, 0, none⟩ = some (.bool m1) ∧ X.cell? ⟨w.heap.size, 1, none⟩ = some (.slice a1 xs.length c1) ∧ X.cell? ⟨w.heap.size, 2, none⟩ = some (.slice a2 ds.length c2) ∧ X.cell? ⟨w.heap.size + 1, 0, none⟩ = some (.bool m2) ∧ X.cell? ⟨w.heap.size + 1, 1, none⟩ = some (.slice a3 zs.length c3) ∧ X.cell? ⟨w.heap.size + 1, 2, none⟩ = some (.slice a4 es.length c4) ∧ Kept (w.heap.size + 1 + 1) V X)
                (((refine mkS _ ?_; (repeat' (first | exact Kept.refl _ _ | refine Kept.drew ?_ | refine Kept.alloc ?_ _ | refine Kept.set ?_ _ _ | refine Kept.below ?_ (by assumption))))))
                ((first
                  | (go_at_call 81; refine (sign_any h5 (by omega)).mono ?_; rintro e w6 ⟨rfl, hb6⟩)
                  | (go_at_call 133; refine (minus_any (h3.later hb4) h4 (by omega)).mono ?_; rintro e w5 ⟨r5, rfl, h5, hb5⟩)
                  | (go_at_call 78; (with_reducible refine (over_any (m := n + 2) (CV.later hb3d) (BV.later hb3d) hz hd (by omega)).mono ?_); rintro e w4 ⟨r4, rfl, h4, hb4⟩)
                  | (go_at_call 78; (with_reducible refine (over_any (m := n + 2) (AV.later (Below.refl _ V).drew) (DV.later (Below.refl _ V).drew) hx he (by omega)).mono ?_); rintro e w3 ⟨r3, rfl, h3, hb3⟩; have hb3d : Below V.heap.size V w3 := ⟨hb3.os, hb3.tape, hb3.output, hb3.size, hb3.block⟩)))
              have hs3 := hb3d.size
              have hs4 := hb4.size
              have hs5 := hb5.size
              go_wp2_with fail
              go_ret
              exact ⟨by rw [← HF.out]; rfl, (((hB2.trans (hb3d.mono (by omega))).trans (hb4.mono (by omega))).trans (hb5.mono (by omega))).trans (hb6.mono (by omega))⟩
end
section
open Go.RowKit
set_option linter.unusedVariables false
set_option linter.unusedSimpArgs false
theorem Row.at {w : World} {g : Nat} {t : TypeId} {cs : Array Value} (h : g = w.heap.size) : Row (w.alloc (.cells cs t)) g t cs := h ▸ Row.new w t cs
set_option maxRecDepth 100000 in
set_option maxHeartbeats 4000000 in
theorem mulQ_any {n : Nat} {w : World} {u v : Value} {X Y : Rat} (hu : ArgQ w u X n) (hv : ArgQ w v Y n) (hn : n ≤ 16777000) :
    Calls Tryz.prog 41 #[u, v] w fun e w' => ∃ r, e = .returned r ∧ ResQ w.heap.size w' r (X * Y) (2 * n + 4) ∧ Below w.heap.size w w' := by
  obtain ⟨m1, xs, ds, a1, a2, c1, c2, rfl, A, B, hX, hx, hd⟩ := hu
  obtain ⟨m2, zs, es, a3, a4, c3, c4, rfl, C, D, hY, hz, he⟩ := hv
  obtain ⟨W, hW⟩ : ∃ W, (((w.alloc (.cells #[.bool m1, .slice a1 xs.length c1, .slice a2 ds.length c2] 44)).alloc (.cells #[.bool m2, .slice a3 zs.length c3, .slice a4 es.length c4] 44)).alloc (.cells #[.bool false, .slice none 0 0, .slice none 0 0] 44)) = W := ⟨_, rfl⟩
  have R0 : Row W (w.heap.size) 44 #[.bool m1, .slice a1 xs.length c1, .slice a2 ds.length c2] := by rw [← hW]; exact (((Row.new _ _ _).alloc _).alloc _)
  have R1 : Row W (w.heap.size + 1) 44 #[.bool m2, .slice a3 zs.length c3, .slice a4 es.length c4] := by rw [← hW]; have h := (Row.new (w.alloc (.cells #[.bool m1, .slice a1 xs.length c1, .slice a2 ds.length c2] 44)) 44 #[.bool m2, .slice a3 zs.length c3, .slice a4 es.length c4]); simp only [World.size_alloc] at h; exact (h.alloc _)
  have R2 : Row W (w.heap.size + 1 + 1) 44 #[.bool false, .slice none 0 0, .slice none 0 0] := by rw [← hW]; have h := (Row.new ((w.alloc (.cells #[.bool m1, .slice a1 xs.length c1, .slice a2 ds.length c2] 44)).alloc (.cells #[.bool m2, .slice a3 zs.length c3, .slice a4 es.length c4] 44)) 44 #[.bool false, .slice none 0 0, .slice none 0 0]); simp only [World.size_alloc] at h; exact h
  have hBW : Below w.heap.size w W := by rw [← hW]; exact ((((Below.refl _ _).alloc (by (try simp) <;> omega) _).alloc (by (try simp) <;> omega) _).alloc (by (try simp) <;> omega) _)
  have hsW : w.heap.size + 1 + 1 + 1 ≤ W.heap.size := by rw [← hW]; simp
  have hfin : ratOf (!(m1 == m2)) (val xs * val zs) (val ds * val es) = X * Y := by rw [← hX, ← hY]; exact rat_prod m1 m2 _ _ _ _
  have HF := Lib.hid hfin
  clear hfin hX hY
  have mkS : ∀ X, Kept (w.heap.size + 1 + 1) W X → X.cell? ⟨w.heap.size, 0, none⟩ = some (.bool m1) ∧ X.cell? ⟨w.heap.size, 1, none⟩ = some (.slice a1 xs.length c1) ∧ X.cell? ⟨w.heap.size, 2, none⟩ = some (.slice a2 ds.length c2) ∧ X.cell? ⟨w.heap.size + 1, 0, none⟩ = some (.bool m2) ∧ X.cell? ⟨w.heap.size + 1, 1, none⟩ = some (.slice a3 zs.length c3) ∧ X.cell? ⟨w.heap.size + 1, 2, none⟩ = some (.slice a4 es.length c4) ∧ Kept (w.heap.size + 1 + 1) W X := fun X h => ⟨(R0.kept h (by omega)).cell 0, (R0.kept h (by omega)).cell 1, (R0.kept h (by omega)).cell 2, (R1.kept h (by omega)).cell 0, (R1.kept h (by omega)).cell 1, (R1.kept h (by omega)).cell 2, h⟩
  go_enter Tryz.func41, Tryz.ntmps41
  go_wp2_with fail
  clear hW
  go_region_held3 (fun X => X.cell? ⟨w.heap.size, 0, none⟩ = some (.bool m1) ∧ X.cell? ⟨w.heap.size, 1, none⟩ = some (.slice a1 xs.length c1) ∧ X.cell? ⟨w.heap.size, 2, none⟩ = some (.slice a2 ds.length c2) ∧ X.cell? ⟨w.heap.size + 1, 0, none⟩ = some (.bool m2) ∧ X.cell? ⟨w.heap.size + 1, 1, none⟩ = some (.slice a3 zs.length c3) ∧ X.cell? ⟨w.heap.size + 1, 2, none⟩ = some (.slice a4 es.length c4) ∧ Kept (w.heap.size + 1 + 1) W X)
    (((refine mkS _ ?_; (repeat' (first | exact Kept.refl _ _ | refine Kept.drew ?_ | refine Kept.alloc ?_ _ | refine Kept.set ?_ _ _ | refine Kept.below ?_ (by assumption))))))
    ((first
      | (go_at_call 54; refine (norm_any (n := 2 * n + 2) ⟨!(m1 == m2), z3, z4, ad3, ad4, cp3, cp4, rfl, A3', A4, HV.out, by omega, by omega⟩ (by omega)).mono ?_; rintro e w5 ⟨r5, rfl, q5, hb5⟩; obtain ⟨ng, fs, gs, f1, f2, j1, j2, rfl⟩ := q5.arg.box; have P5 := R2.kept (show Kept (w.heap.size + 1 + 1 + 1) W w5 by (repeat' (first | exact Kept.refl _ _ | refine Kept.drew ?_ | refine Kept.alloc ?_ _ | refine Kept.set ?_ _ _ | refine Kept.below ?_ (by assumption)))) (by omega); obtain ⟨u0, u1, u2, g0, g1, g2⟩ := P5.three)
      | (go_at_call 80; refine (product_any (xs := ds) (ys := es) (ad := a2) (bd := a4) (ca := c2) (cb := c4) (by first | (first | exact Row.at (by simp) | exact (Row.at (by simp)).drew | exact (Row.at (by simp)).alloc _ | exact ((Row.at (by simp)).alloc _).drew) | (refine Row.later ?_ hb3; first | exact Row.at (by simp) | exact (Row.at (by simp)).drew | exact (Row.at (by simp)).alloc _ | exact ((Row.at (by simp)).alloc _).drew)) (B.later (Kept.under (show Kept (w.heap.size + 1 + 1) W _ by (repeat' (first | exact Kept.refl _ _ | refine Kept.drew ?_ | refine Kept.alloc ?_ _ | refine Kept.set ?_ _ _ | refine Kept.below ?_ (by assumption)))) hBW (by omega) (by omega))) (D.later (Kept.under (show Kept (w.heap.size + 1 + 1) W _ by (repeat' (first | exact Kept.refl _ _ | refine Kept.drew ?_ | refine Kept.alloc ?_ _ | refine Kept.set ?_ _ _ | refine Kept.below ?_ (by assumption)))) hBW (by omega) (by omega))) hd he (by omega)).mono ?_; rintro e w4 ⟨r4, z4, rfl, q4, l4, hb4⟩; obtain ⟨ad4, cp4, rfl, q4, A4⟩ := q4.slice; have A3' := A3.later (show Below w3.heap.size w3 w4 by (repeat' (first | exact Below.refl _ _ | refine Below.drew ?_ | refine Below.alloc ?_ (by (try simp) <;> omega) _ | refine below_set3 ?_ (by (try simp) <;> omega) _ _ _ | refine below_set2 ?_ (by (try simp) <;> omega) _ _ | refine Below.setCell ?_ (by (try simp) <;> omega) _ | refine Below.trans ?_ (Below.mono (by assumption) (by (try simp) <;> omega))))); have HV := Lib.hid ((show ratOf (!(m1 == m2)) (val z3) (val z4) = ratOf (!(m1 == m2)) (val xs * val zs) (val ds * val es) by rw [q3.eq, q4.eq]).trans HF.out))
      | (go_at_call 80; refine (product_any (xs := xs) (ys := zs) (ad := a1) (bd := a3) (ca := c1) (cb := c3) (by first | (first | exact Row.at (by simp) | exact (Row.at (by simp)).drew | exact (Row.at (by simp)).alloc _ | exact ((Row.at (by simp)).alloc _).drew) | (refine Row.later ?_ hb3; first | exact Row.at (by simp) | exact (Row.at (by simp)).drew | exact (Row.at (by simp)).alloc _ | exact ((Row.at (by simp)).alloc _).drew)) (A.later (Kept.under (show Kept (w.heap.size + 1 + 1) W _ by (repeat' (first | exact Kept.refl _ _ | refine Kept.drew ?_ | refine Kept.alloc ?_ _ | refine Kept.set ?_ _ _ | refine Kept.below ?_ (by assumption)))) hBW (by omega) (by omega))) (C.later (Kept.under (show Kept (w.heap.size + 1 + 1) W _ by (repeat' (first | exact Kept.refl _ _ | refine Kept.drew ?_ | refine Kept.alloc ?_ _ | refine Kept.set ?_ _ _ | refine Kept.below ?_ (by assumption)))) hBW (by omega) (by omega))) hx hz (by omega)).mono ?_; rintro e w3 ⟨r3, z3, rfl, q3, l3, hb3⟩; obtain ⟨ad3, cp3, rfl, q3, A3⟩ := q3.slice)))
  all_goals (
    have hs4 := hb4.size
    have hs5 := hb5.size
    have hk5 := (show Kept (w.heap.size + 1 + 1 + 1) W w5 by (repeat' (first | exact Kept.refl _ _ | refine Kept.drew ?_ | refine Kept.alloc ?_ _ | refine Kept.set ?_ _ _ | refine Kept.below ?_ (by assumption)))).size
    have hk4 := (show Kept (w.heap.size + 1 + 1 + 1) W w4 by (repeat' (first | exact Kept.refl _ _ | refine Kept.drew ?_ | refine Kept.alloc ?_ _ | refine Kept.set ?_ _ _ | refine Kept.below ?_ (by assumption)))).size
    have hK4 := (Kept.under (show Kept (w.heap.size + 1 + 1 + 1) W w5 by (repeat' (first | exact Kept.refl _ _ | refine Kept.drew ?_ | refine Kept.alloc ?_ _ | refine Kept.set ?_ _ _ | refine Kept.below ?_ (by assumption)))) hBW (by omega) (by omega))
    go_wp2_with fail
    refine bodyPost_ret (v := .agg #[.bool ng, .slice f1 fs.length j1, .slice f2 gs.length j2]) (by simp [results, Tryz.results41, go_sem, u0, u1, u2]) rfl ⟨_, rfl, ?_, below_set3 hK4 (by omega) _ _ _⟩
    exact ((q5.far P5 (by decide) (kept3 _ _ _)).mono (by omega)).more (by omega))
end
section
open Go.RowKit
set_option linter.unusedVariables false
set_option linter.unusedSimpArgs false
set_option maxRecDepth 100000 in
set_option maxHeartbeats 4000000 in
theorem signQ_any {n : Nat} {w : World} {u : Value} {X : Rat} (hu : ArgQ w u X n) (hn : n ≤ 16777000) :
    Calls Tryz.prog 42 #[u] w fun e w' => e = .returned (.int .i64 (sgR X)) ∧ Below w.heap.size w w' := by
  obtain ⟨n1, ps, qs, e1, e2, k1, k2, rfl⟩ := hu.box
  obtain ⟨W, hW⟩ : ∃ W, (w.alloc (.cells #[.bool n1, .slice e1 ps.length k1, .slice e2 qs.length k2] 44)) = W := ⟨_, rfl⟩
  have R0 : Row W (w.heap.size) 44 #[.bool n1, .slice e1 ps.length k1, .slice e2 qs.length k2] := by rw [← hW]; exact (Row.new _ _ _)
  have hBW : Below w.heap.size w W := by rw [← hW]; exact ((Below.refl _ _).alloc (by (try simp) <;> omega) _)
  have hsW : w.heap.size + 1 ≤ W.heap.size := by rw [← hW]; simp
  have hu' := hu.later hBW
  obtain ⟨p0, p1, p2, p3, p4, p5⟩ := R0.three
  go_enter Tryz.func42, Tryz.ntmps42
  go_wp2_with fail
  refine (plain_any hu' (by omega)).mono ?_
  rintro e w1 ⟨r1, rfl, h1, hb1⟩
  have hs1 := hb1.size
  replace R0 := R0.later hb1
  clear p0 p1 p2 p3 p4 p5 hW
  obtain ⟨m1, xs, ds, a1, a2, c1, c2, rfl, A, B, hX, hx, hd, hB, _⟩ := h1
  obtain ⟨p0, p1, p2, p3, p4, p5⟩ := R0.three
  obtain ⟨V, hV⟩ : ∃ V, ((w1.setCell ⟨w.heap.size, 0, none⟩ (.bool m1)).setCell ⟨w.heap.size, 1, none⟩ (.slice a1 xs.length c1)).setCell ⟨w.heap.size, 2, none⟩ (.slice a2 ds.length c2) = V := ⟨_, rfl⟩
  have P0 : Row V (w.heap.size) 44 #[.bool m1, .slice a1 xs.length c1, .slice a2 ds.length c2] := by rw [← hV]; exact R0.set3 _ _ _
  have hBV : Below w.heap.size w V := by rw [← hV]; exact below_set3 (hBW.trans (hb1.mono (by omega))) (by omega) _ _ _
  have hsV : w1.heap.size ≤ V.heap.size := by rw [← hV]; simp
  have AV : Arg V (.slice a1 xs.length c1) xs a1 c1 := by rw [← hV]; exact A.far R0 (noInts3 _ _ _ _ _ _ _) (kept3 _ _ _)
  have hs : SgnQ V (.agg #[.bool m1, .slice a1 xs.length c1]) (sgn m1 (val xs)) (n + 2) := ⟨m1, xs, a1, c1, rfl, AV, rfl, hx⟩
  have hfin : (sgn m1 (val xs)).sign = sgR X := by rw [← hX, sgR_ratOf _ _ hB]
  have HF := Lib.hid hfin
  obtain ⟨o0, o1, o2, _, _, _⟩ := P0.three
  clear hfin hX
  go_wp2_with fail
  (try rw [hV])
  refine (sign_any hs (by omega)).mono ?_
  rintro e w2 ⟨rfl, hb2⟩
  clear p0 p1 p2 p3 p4 p5 o0 o1 o2 hV
  go_wp2_with fail
  go_ret
  exact ⟨by rw [← HF.out]; rfl, hBV.trans (hb2.mono (by omega))⟩
end
section
open Go.RowKit
set_option linter.unusedVariables false
set_option linter.unusedSimpArgs false
set_option maxRecDepth 100000 in
set_option maxHeartbeats 1000000 in
theorem smallL_any (N : Int) (w : World) (hN : 0 ≤ N) (hN2 : N ≤ 9223372036854775807) :
    Calls Tryz.prog 100 #[.int .i64 N] w fun e w' => ∃ u, e = .returned u ∧ ∃ zs, ResD w.heap.size w' u zs N ∧ zs.length ≤ 5 ∧ Below w.heap.size w w' := by
  obtain ⟨i0, hi, hz0, hz1, hz2⟩ := info_parts infoInt
  go_enter Tryz.func100, Tryz.ntmps100
  go_wp2
  go_loopw [0, 3] (fun n s wr => ∃ (m : Int) (ds : List Int) (v : Value), n = .int .i64 m ∧ v = s ∧ 0 ≤ m ∧ m ≤ 9223372036854775807 ∧ ds.length ≤ 5 ∧ NumI w.heap.size wr v ds ∧ WfD ds ∧ valD ds + 10000 ^ ds.length * m = N ∧ (m = 0 → trimN ds ds.length = ds.length) ∧ Below w.heap.size w wr) (fun n _ _ => (intOf n).toNat)
  case atStart => exact ⟨N, [], _, rfl, rfl, hN, hN2, by simp, World.ownsRow_nil _ _ _ _, WfD.nil, by simp [valD], fun _ => rfl, Below.refl _ _⟩
  case round =>
    obtain ⟨m, ds, v, rfl, rfl, hm, hm2, hlen, hown, hwf, hval, hfull, hb⟩ := hrel
    have hsz := hb.size
    have HV := Lib.hid hval
    have HF := Lib.hid hfull
    have HO := Lib.hid hown
    have hrow : wr.ownsRow w.heap.size 3 1 v ds.length (ds.map (Value.int .i64)) := hown
    have h0v := val_nonnegD hwf
    have hle : 10000 ^ ds.length * m ≤ N := by omega
    have hlen4 : 0 < m → ds.length ≤ 4 := by
      intro hp
      rcases Nat.lt_or_ge 4 ds.length with k | k
      · exfalso
        have e5 : ds.length = 5 := by omega
        rw [e5] at hle
        simp at hle
        omega
      · exact k
    clear hval hfull hown hle h0v
    by_cases hpos : 0 < m
    · have hl4 := hlen4 hpos
      clear hlen4
      go_wp2_with (at_builtin; refine wpList_append_own _ rfl _ _ 48 rfl w.heap.size 3 i0 (.int .i64 0) 1 8 Tryz.underlying48 hi hz0 hz1 hz2 rfl (by decide) _ _ _ rfl (hrow.alloc _) ⟨wr.heap.size, 0, none⟩ 1 1 [.int .i64 (m % 10000)] rfl rfl (cell_one_new _ _ _) (by simp [Value.oneCell']) (by unfold maxLen; omega) (by omega) (by simp; omega) ?_; intro v' w1 hown' hgrow _)
      go_roundw
      case rel =>
        obtain ⟨hn, hbw⟩ := push_num hb hsz HO.out hown' hgrow
        refine ⟨m / 10000, ds ++ [m % 10000], v', rfl, rfl, by omega, by omega, ?_, hn, hwf.snoc (by omega), ?_, fun h0 => full_snoc ds (by omega), hbw⟩
        · rw [List.length_append, List.length_singleton]
          omega
        · rw [valD_snoc, List.length_append, List.length_singleton, Int.pow_succ]
          have h1 := HV.out
          have h2 : m % 10000 + 10000 * (m / 10000) = m := by omega
          generalize m % 10000 = r at *
          generalize m / 10000 = q at *
          generalize (10000 : Int) ^ ds.length = P at *
          grind
      case measure => simp [intOf]; omega
    · have h0 : m = 0 := by omega
      subst h0
      go_wp2
      go_ret
      exact ⟨_, rfl, ds, ⟨HO.out, hwf, (by have h := HF.out; simpa using h), by have := HV.out; simpa using this⟩, hlen, hb⟩
/-- a literal of one digit -/
theorem digit_lit {w : World} {g : Nat} {x : Int} (h : Row w g 3 #[.int .i64 x]) (hx : 0 < x ∧ x < 10000) : ArgD w (.slice (some ⟨g, 0, none⟩) 1 1) [x] (some ⟨g, 0, none⟩) 1 := by
  refine ⟨rfl, .inr ⟨g, 0, rfl, fun i hi => ?_⟩, by simp, WfD.cons (by omega) WfD.nil, ?_⟩
  · obtain rfl : i = 0 := by simpa using hi
    exact h.cell 0
  · show trimN [x] 1 = 1
    unfold trimN
    rw [if_neg (by simp; omega)]
set_option maxHeartbeats 1000000 in
theorem sizeR_any (n : Int) (w : World) (h0 : -9223372036854775808 ≤ n) (h1 : n ≤ 9223372036854775807) :
    Calls Tryz.prog 87 #[.int .i64 n] w fun e w' => ∃ r, e = .returned r ∧ ∃ zs, ResD w.heap.size w' r zs (n.natAbs : Int) ∧ zs.length ≤ 6 ∧ Below w.heap.size w w' := by
  by_cases hn : n < 0
  · have hd : decide (n < 0) = true := decide_eq_true hn
    obtain ⟨m, hm⟩ : ∃ m : Int, n = -m - 1 := ⟨-n - 1, by omega⟩
    have e1 : ((n.natAbs : Nat) : Int) = m + 1 := by omega
    rw [e1]
    subst hm
    have hs1 : -m - 1 + 1 = -m := by omega
    have hw1 : IntKind.i64.wrap (-m - 1 + 1) = -m := by rw [hs1]; exact IntWalk.i64_in _ (by omega)
    have hw2 : IntKind.i64.wrap (- -m) = m := by rw [Int.neg_neg]; exact IntWalk.i64_in _ (by omega)
    clear e1
    go_enter Tryz.func87, Tryz.ntmps87
    go_wp2_with fail
    have key : ∀ q : Int, q = m → Calls Tryz.prog 100 #[.int .i64 q] w fun e w' => ∃ u, e = .returned u ∧ ∃ zs, ResD w.heap.size w' u zs m ∧ zs.length ≤ 5 ∧ Below w.heap.size w w' := by
      rintro q rfl; exact smallL_any _ _ (by omega) (by omega)
    refine (key _ (by first | rfl | omega | (unfold wrap64; omega))).mono ?_
    rintro e w1 ⟨r1, rfl, z1, q1, n1, hb1⟩
    obtain ⟨ad1, c1, rfl, q1, A1⟩ := q1.slice
    have hb2 : Below w1.heap.size w1 (w1.alloc (.cells #[.int .i64 1] 3)) := (Below.refl _ _).alloc (Nat.le_refl _) _
    have A1' := A1.later hb2
    have L := digit_lit (Row.new w1 3 #[.int .i64 1]) (by omega)
    have hs1' := hb1.size
    clear hw1 hw2 hs1 key
    go_wp2_with fail
    refine (addD_any A1' L (by omega) (by simp)).mono ?_
    rintro e w2 ⟨r2, rfl, z2, q2, n2, hb3⟩
    have hv : valD z2 = m + 1 := by rw [q2.eq, q1.eq]; simp [valD]
    have HV := Lib.hid hv
    have hs2 : w.heap.size ≤ (w1.alloc (.cells #[.int .i64 1] 3)).heap.size := by simp; omega
    simp only [List.length_cons, List.length_nil] at n2
    clear hv
    go_wp2_with fail
    go_ret
    exact ⟨_, rfl, z2, ⟨q2.num.mono hs2, q2.wf, q2.full, HV.out⟩, by omega, (hb1.trans (hb2.mono hs1')).trans (hb3.mono hs2)⟩
  · have hd : decide (n < 0) = false := decide_eq_false hn
    have e1 : ((n.natAbs : Nat) : Int) = n := by omega
    rw [e1]
    clear e1
    go_enter Tryz.func87, Tryz.ntmps87
    go_wp2_with fail
    refine (smallL_any n _ (by omega) (by omega)).mono ?_
    rintro e w' ⟨r, rfl, z, q, nz, hb⟩
    go_wp2_with fail
    go_ret
    exact ⟨r, rfl, z, q, by omega, hb⟩
end
section
open Go.RowKit
set_option linter.unusedVariables false
set_option linter.unusedSimpArgs false
set_option maxRecDepth 100000 in
set_option maxHeartbeats 4000000 in
theorem makeR_any {n : Nat} {w : World} {m1 : Bool} {xs ds : List Int} {a1 a2 : Option Addr} {c1 c2 : Nat} (A : ArgD w (.slice a1 xs.length c1) xs a1 c1) (B : ArgD w (.slice a2 ds.length c2) ds a2 c2) (hx : xs.length ≤ n) (hd : ds.length ≤ n) (hn : n ≤ 4294967296) :
    Calls Tryz.prog 60 #[.bool m1, .slice a1 xs.length c1, .slice a2 ds.length c2] w fun e w' => ∃ r, e = .returned r ∧ ArgR w' r (ratOf m1 (valD xs) (valD ds)) (n + 1) ∧ Below w.heap.size w w' := by
  have h0x := val_nonnegD A.wf
  have h0d := val_nonnegD B.wf
  obtain ⟨W, hW⟩ : ∃ W, (w.alloc (.cells #[.bool false, .slice none 0 0, .slice none 0 0] 50)) = W := ⟨_, rfl⟩
  have R0 : Row W (w.heap.size) 50 #[.bool false, .slice none 0 0, .slice none 0 0] := by rw [← hW]; exact (Row.new _ _ _)
  have hBW : Below w.heap.size w W := by rw [← hW]; exact ((Below.refl _ _).alloc (by (try simp) <;> omega) _)
  have hsW : w.heap.size + 1 ≤ W.heap.size := by rw [← hW]; simp
  by_cases z1 : valD xs = 0
  · have d1 := lenD_zero A.wf A.full z1
    have hX : ratOf m1 (valD xs) (valD ds) = 0 := by rw [z1]; exact ratOf_zero_left _ _
    have HX := Lib.hid hX
    have hb2 : Below W.heap.size W (W.alloc (.cells #[.int .i64 1] 3)) := (Below.refl _ _).alloc (Nat.le_refl _) _
    have L := digit_lit (Row.new W 3 #[.int .i64 1]) (by omega)
    have R0' := R0.later hb2
    obtain ⟨u0, u1, u2, g0, g1, g2⟩ := R0'.three
    obtain ⟨p0, p1, p2, p3, p4, p5⟩ := R0.three
    clear hX
    go_enter Tryz.func60, Tryz.ntmps60
    go_wp2_with fail
    refine bodyPost_ret (v := .agg #[.bool false, .slice none 0 0, .slice (some ⟨W.heap.size, 0, none⟩) 1 1]) (by simp [results, Tryz.results60, go_sem, u0, u1, u2]) rfl ⟨_, rfl, ⟨[], [1], none, some ⟨W.heap.size, 0, none⟩, 0, 1, ?_, ?_, ?_, ?_, ?_, by simp, by simp⟩, ?_⟩
    · rw [HX.out]; rfl
    · exact ⟨rfl, .inl rfl, Nat.le_refl _, WfD.nil, rfl⟩
    · exact L.far R0' (noInts3 _ _ _ _ _ _ _) (kept3 _ _ _)
    · rw [HX.out]; rfl
    · rw [HX.out]; rfl
    · exact below_set3 (hBW.trans (hb2.mono (by omega))) (by omega) _ _ _
  by_cases z2 : valD ds = 0
  · have d1 := lenD_pos (show 0 < valD xs by omega)
    have d2 := lenD_zero B.wf B.full z2
    have hX : ratOf m1 (valD xs) (valD ds) = 0 := by rw [z2]; exact ratOf_zero_right _ _
    have HX := Lib.hid hX
    have hb2 : Below W.heap.size W (W.alloc (.cells #[.int .i64 1] 3)) := (Below.refl _ _).alloc (Nat.le_refl _) _
    have L := digit_lit (Row.new W 3 #[.int .i64 1]) (by omega)
    have R0' := R0.later hb2
    obtain ⟨u0, u1, u2, g0, g1, g2⟩ := R0'.three
    obtain ⟨p0, p1, p2, p3, p4, p5⟩ := R0.three
    clear hX
    go_enter Tryz.func60, Tryz.ntmps60
    go_wp2_with fail
    refine bodyPost_ret (v := .agg #[.bool false, .slice none 0 0, .slice (some ⟨W.heap.size, 0, none⟩) 1 1]) (by simp [results, Tryz.results60, go_sem, u0, u1, u2]) rfl ⟨_, rfl, ⟨[], [1], none, some ⟨W.heap.size, 0, none⟩, 0, 1, ?_, ?_, ?_, ?_, ?_, by simp, by simp⟩, ?_⟩
    · rw [HX.out]; rfl
    · exact ⟨rfl, .inl rfl, Nat.le_refl _, WfD.nil, rfl⟩
    · exact L.far R0' (noInts3 _ _ _ _ _ _ _) (kept3 _ _ _)
    · rw [HX.out]; rfl
    · rw [HX.out]; rfl
    · exact below_set3 (hBW.trans (hb2.mono (by omega))) (by omega) _ _ _
  have hpx : 0 < valD xs := by omega
  have hpd : 0 < valD ds := by omega
  have d1 := lenD_pos hpx
  have d2 := lenD_pos hpd
  have A' := A.later hBW
  have B' := B.later hBW
  have e1 := ratOf_neg (n := m1) h0x hpd (fun h => absurd h z1)
  have e2 := ratOf_abs (n := m1) h0x hpd
  have e3 := ratOf_den (n := m1) (A := valD xs) hpd
  have hgp : 0 < (Int.gcd (valD xs) (valD ds) : Int) := gcd_pos hpx
  have E1 := Lib.hid e1
  have E2 := Lib.hid e2
  have E3 := Lib.hid e3
  clear e1 e2 e3 z1 z2
  go_enter Tryz.func60, Tryz.ntmps60
  go_wp2_with fail
  refine (gcdD_any A' B' (by omega) (by omega)).mono ?_
  rintro e w1 ⟨r1, rfl, gs, gd, gc, G, hG, lG, hb1⟩
  have hs1 := hb1.size
  have A1 := A'.later hb1
  have B1 := B'.later hb1
  have hgs : 0 < valD gs := by rw [hG]; exact hgp
  have HG := Lib.hid hG
  have eG := G.is
  subst eG
  clear hG hgp hW
  go_wp2_with fail
  refine (divD_any A1 G (by omega) (by omega) hgs).mono ?_
  rintro e w2 ⟨r2, s2, rfl, hb2, ⟨z2, q2, l2⟩, _⟩
  have hs2 := hb2.size
  obtain ⟨ad2, cp2, rfl, q2, A2⟩ := q2.slice
  have B2 := B1.later hb2
  have G2 := G.later hb2
  go_wp2_with fail
  refine (divD_any B2 G2 (by omega) (by omega) hgs).mono ?_
  rintro e w3 ⟨r3, s3, rfl, hb3, ⟨z3, q3, l3⟩, _⟩
  have hs3 := hb3.size
  obtain ⟨ad3, cp3, rfl, q3, A3⟩ := q3.slice
  have A2' := A2.later hb3
  have P3 := ((R0.later hb1).later hb2).later hb3
  have v2 := q2.eq
  have v3 := q3.eq
  rw [HG.out] at v2 v3
  have V2 := Lib.hid v2
  have V3 := Lib.hid v3
  clear v2 v3 q2 q3
  obtain ⟨u0, u1, u2, g0, g1, g2⟩ := P3.three
  go_wp2_with fail
  refine bodyPost_ret (v := .agg #[.bool m1, .slice ad2 z2.length cp2, .slice ad3 z3.length cp3]) (by simp [results, Tryz.results60, go_sem, u0, u1, u2]) rfl ⟨_, rfl, ⟨z2, z3, ad2, ad3, cp2, cp3, by rw [E1.out], ?_, ?_, ?_, ?_, by omega, by omega⟩, ?_⟩
  · exact A2'.far P3 (noInts3 _ _ _ _ _ _ _) (kept3 _ _ _)
  · exact A3.far P3 (noInts3 _ _ _ _ _ _ _) (kept3 _ _ _)
  · rw [V2.out, E2.out]
  · rw [V3.out, E3.out]
  · exact below_set3 (((hBW.trans (hb1.mono (by omega))).trans (hb2.mono (by omega))).trans (hb3.mono (by omega))) (by omega) _ _ _
set_option maxRecDepth 100000 in
set_option maxHeartbeats 4000000 in
theorem ofR_any {n : Nat} {w : World} {v : Value} {X : Rat} (h : ArgQ w v X n) (hn : n ≤ 134217728) :
    Calls Tryz.prog 25 #[v] w fun e w' => ∃ r, e = .returned r ∧ ArgR w' r X (5 * n + 1) ∧ Below w.heap.size w w' := by
  obtain ⟨m1, xs, ds, a1, a2, c1, c2, rfl, A, B, hX, hx, hd⟩ := h
  obtain ⟨W, hW⟩ : ∃ W, ((w.alloc (.cells #[.bool m1, .slice a1 xs.length c1, .slice a2 ds.length c2] 44)).alloc (.cells #[.bool false, .slice none 0 0, .slice none 0 0] 50)) = W := ⟨_, rfl⟩
  have R0 : Row W (w.heap.size) 44 #[.bool m1, .slice a1 xs.length c1, .slice a2 ds.length c2] := by rw [← hW]; exact ((Row.new _ _ _).alloc _)
  have R1 : Row W (w.heap.size + 1) 50 #[.bool false, .slice none 0 0, .slice none 0 0] := by rw [← hW]; have h := (Row.new (w.alloc (.cells #[.bool m1, .slice a1 xs.length c1, .slice a2 ds.length c2] 44)) 50 #[.bool false, .slice none 0 0, .slice none 0 0]); simp only [World.size_alloc] at h; exact h
  have hBW : Below w.heap.size w W := by rw [← hW]; exact (((Below.refl _ _).alloc (by (try simp) <;> omega) _).alloc (by (try simp) <;> omega) _)
  have hsW : w.heap.size + 1 + 1 ≤ W.heap.size := by rw [← hW]; simp
  have HX := Lib.hid hX
  clear hX
  have mkS : ∀ X, Kept (w.heap.size + 1) W X → X.cell? ⟨w.heap.size, 0, none⟩ = some (.bool m1) ∧ X.cell? ⟨w.heap.size, 1, none⟩ = some (.slice a1 xs.length c1) ∧ X.cell? ⟨w.heap.size, 2, none⟩ = some (.slice a2 ds.length c2) ∧ Kept (w.heap.size + 1) W X := fun X h => ⟨(R0.kept h (by omega)).cell 0, (R0.kept h (by omega)).cell 1, (R0.kept h (by omega)).cell 2, h⟩
  go_enter Tryz.func25, Tryz.ntmps25
  go_wp2_with fail
  clear hW
  go_region_held3 (fun X => X.cell? ⟨w.heap.size, 0, none⟩ = some (.bool m1) ∧ X.cell? ⟨w.heap.size, 1, none⟩ = some (.slice a1 xs.length c1) ∧ X.cell? ⟨w.heap.size, 2, none⟩ = some (.slice a2 ds.length c2) ∧ Kept (w.heap.size + 1) W X)
    (((refine mkS _ ?_; (repeat' (first | exact Kept.refl _ _ | refine Kept.drew ?_ | refine Kept.alloc ?_ _ | refine Kept.set ?_ _ _ | refine Kept.below ?_ (by assumption))))))
    ((first
      | (go_at_call 60; refine (makeR_any (n := 5 * n) (A3.later hb4) A4 (by omega) (by omega) (by omega)).mono ?_; rintro e w5 ⟨r5, rfl, q5, hb5⟩; rw [HV.out] at q5; obtain ⟨fs, gs, f1, f2, j1, j2, e5, _⟩ := id q5; subst e5; have P5 := R1.kept (show Kept (w.heap.size + 1 + 1 + 1) W w5 by (repeat' (first | exact Kept.refl _ _ | refine Kept.drew ?_ | refine Kept.alloc ?_ _ | refine Kept.set ?_ _ _ | refine Kept.below ?_ (by assumption)))) (by omega); obtain ⟨u0, u1, u2, g0, g1, g2⟩ := P5.three)
      | (go_at_call 61; (with_reducible refine (of_any (B.later (Kept.under (show Kept (w.heap.size + 1) W _ by (repeat' (first | exact Kept.refl _ _ | refine Kept.drew ?_ | refine Kept.alloc ?_ _ | refine Kept.set ?_ _ _ | refine Kept.below ?_ (by assumption)))) hBW (by omega) (by omega))) (by omega)).mono ?_); rintro e w4 ⟨r4, rfl, z4, q4, l4, hb4⟩; obtain ⟨ad4, cp4, rfl, q4, A4⟩ := q4.slice; have HV := Lib.hid ((show ratOf m1 (valD z3) (valD z4) = ratOf m1 (val xs) (val ds) by rw [q3.eq, q4.eq]).trans HX.out))
      | (go_at_call 61; (with_reducible refine (of_any (A.later (Kept.under (show Kept (w.heap.size + 1) W _ by (repeat' (first | exact Kept.refl _ _ | refine Kept.drew ?_ | refine Kept.alloc ?_ _ | refine Kept.set ?_ _ _ | refine Kept.below ?_ (by assumption)))) hBW (by omega) (by omega))) (by omega)).mono ?_); rintro e w3 ⟨r3, rfl, z3, q3, l3, hb3⟩; obtain ⟨ad3, cp3, rfl, q3, A3⟩ := q3.slice)))
  have hs5 := hb5.size
  have hk5 := (show Kept (w.heap.size + 1 + 1 + 1) W w5 by (repeat' (first | exact Kept.refl _ _ | refine Kept.drew ?_ | refine Kept.alloc ?_ _ | refine Kept.set ?_ _ _ | refine Kept.below ?_ (by assumption)))).size
  have hK5 := (Kept.under (show Kept (w.heap.size + 1 + 1 + 1) W w5 by (repeat' (first | exact Kept.refl _ _ | refine Kept.drew ?_ | refine Kept.alloc ?_ _ | refine Kept.set ?_ _ _ | refine Kept.below ?_ (by assumption)))) hBW (by omega) (by omega))
  go_wp2_with fail
  refine bodyPost_ret (v := .agg #[.bool (decide (X.num < 0)), .slice f1 fs.length j1, .slice f2 gs.length j2]) (by simp [results, Tryz.results25, go_sem, u0, u1, u2]) rfl ⟨_, rfl, ?_, below_set3 hK5 (by omega) _ _ _⟩
  exact (q5.far P5 (noInts3 _ _ _ _ _ _ _) (kept3 _ _ _))
end
section
open Go.RowKit
set_option linter.unusedVariables false
set_option linter.unusedSimpArgs false
set_option maxRecDepth 100000 in
set_option maxHeartbeats 4000000 in
theorem addR_any {n : Nat} {w : World} {u v : Value} {X Y : Rat} (hu : ArgR w u X n) (hv : ArgR w v Y n) (hn : n ≤ 1000000000) :
    Calls Tryz.prog 73 #[u, v] w fun e w' => ∃ r, e = .returned r ∧ ArgR w' r (X + Y) (3 * n + 6) ∧ Below w.heap.size w w' := by
  obtain ⟨xs, ds, a1, a2, c1, c2, rfl, A, B, hX1, hX2, hx, hd⟩ := hu
  obtain ⟨zs, es, a3, a4, c3, c4, rfl, C, D, hY1, hY2, hz, he⟩ := hv
  obtain ⟨m1, hm1⟩ : ∃ m, decide (X.num < 0) = m := ⟨_, rfl⟩
  obtain ⟨m2, hm2⟩ : ∃ m, decide (Y.num < 0) = m := ⟨_, rfl⟩
  have hsame : m1 = m2 → ratOf m1 (valD xs * valD es + valD zs * valD ds) (valD ds * valD es) = X + Y := by
    intro h; rw [hX1, hX2, hY1, hY2, ← hm1]; exact rat_add_same X Y (by rw [hm1, hm2, h])
  have hleft : m1 ≠ m2 → ratOf m1 (valD xs * valD es - valD zs * valD ds) (valD ds * valD es) = X + Y := by
    intro h; rw [hX1, hX2, hY1, hY2, ← hm1]; exact rat_add_left X Y (by rw [hm1, hm2]; exact h)
  have hright : m1 ≠ m2 → ratOf m2 (valD zs * valD ds - valD xs * valD es) (valD ds * valD es) = X + Y := by
    intro h; rw [hX1, hX2, hY1, hY2, ← hm2]; exact rat_add_right X Y (by rw [hm1, hm2]; exact h)
  rw [hm1, hm2]
  have HS := Lib.hid hsame
  have HL := Lib.hid hleft
  have HR := Lib.hid hright
  clear hsame hleft hright hX1 hX2 hY1 hY2 hm1 hm2
  obtain ⟨W, hW⟩ : ∃ W, (((w.alloc (.cells #[.bool m1, .slice a1 xs.length c1, .slice a2 ds.length c2] 50)).alloc (.cells #[.bool m2, .slice a3 zs.length c3, .slice a4 es.length c4] 50)).alloc (.cells #[.bool false, .slice none 0 0, .slice none 0 0] 50)) = W := ⟨_, rfl⟩
  have R0 : Row W (w.heap.size) 50 #[.bool m1, .slice a1 xs.length c1, .slice a2 ds.length c2] := by rw [← hW]; exact (((Row.new _ _ _).alloc _).alloc _)
  have R1 : Row W (w.heap.size + 1) 50 #[.bool m2, .slice a3 zs.length c3, .slice a4 es.length c4] := by rw [← hW]; have h := (Row.new (w.alloc (.cells #[.bool m1, .slice a1 xs.length c1, .slice a2 ds.length c2] 50)) 50 #[.bool m2, .slice a3 zs.length c3, .slice a4 es.length c4]); simp only [World.size_alloc] at h; exact (h.alloc _)
  have R2 : Row W (w.heap.size + 1 + 1) 50 #[.bool false, .slice none 0 0, .slice none 0 0] := by rw [← hW]; have h := (Row.new ((w.alloc (.cells #[.bool m1, .slice a1 xs.length c1, .slice a2 ds.length c2] 50)).alloc (.cells #[.bool m2, .slice a3 zs.length c3, .slice a4 es.length c4] 50)) 50 #[.bool false, .slice none 0 0, .slice none 0 0]); simp only [World.size_alloc] at h; exact h
  have hBW : Below w.heap.size w W := by rw [← hW]; exact ((((Below.refl _ _).alloc (by (try simp) <;> omega) _).alloc (by (try simp) <;> omega) _).alloc (by (try simp) <;> omega) _)
  have hsW : w.heap.size + 1 + 1 + 1 ≤ W.heap.size := by rw [← hW]; simp
  have mkS : ∀ X, Kept (w.heap.size + 1 + 1 + 1) W X → X.cell? ⟨w.heap.size, 0, none⟩ = some (.bool m1) ∧ X.cell? ⟨w.heap.size, 1, none⟩ = some (.slice a1 xs.length c1) ∧ X.cell? ⟨w.heap.size, 2, none⟩ = some (.slice a2 ds.length c2) ∧ X.cell? ⟨w.heap.size + 1, 0, none⟩ = some (.bool m2) ∧ X.cell? ⟨w.heap.size + 1, 1, none⟩ = some (.slice a3 zs.length c3) ∧ X.cell? ⟨w.heap.size + 1, 2, none⟩ = some (.slice a4 es.length c4) ∧ Kept (w.heap.size + 1 + 1 + 1) W X := fun X h => ⟨(R0.kept h (by omega)).cell 0, (R0.kept h (by omega)).cell 1, (R0.kept h (by omega)).cell 2, (R1.kept h (by omega)).cell 0, (R1.kept h (by omega)).cell 1, (R1.kept h (by omega)).cell 2, h⟩
  go_enter Tryz.func73, Tryz.ntmps73
  go_wp2_with fail
  clear hW
  go_region_held3 (fun X => X.cell? ⟨w.heap.size, 0, none⟩ = some (.bool m1) ∧ X.cell? ⟨w.heap.size, 1, none⟩ = some (.slice a1 xs.length c1) ∧ X.cell? ⟨w.heap.size, 2, none⟩ = some (.slice a2 ds.length c2) ∧ X.cell? ⟨w.heap.size + 1, 0, none⟩ = some (.bool m2) ∧ X.cell? ⟨w.heap.size + 1, 1, none⟩ = some (.slice a3 zs.length c3) ∧ X.cell? ⟨w.heap.size + 1, 2, none⟩ = some (.slice a4 es.length c4) ∧ Kept (w.heap.size + 1 + 1 + 1) W X)
    (((refine mkS _ ?_; (repeat' (first | exact Kept.refl _ _ | refine Kept.drew ?_ | refine Kept.alloc ?_ _ | refine Kept.set ?_ _ _ | refine Kept.below ?_ (by assumption))))))
    ((first
      | (go_at_call 109; (with_reducible refine (mulD_any (C.later (Kept.under (show Kept (w.heap.size + 1 + 1 + 1) W _ by (repeat' (first | exact Kept.refl _ _ | refine Kept.drew ?_ | refine Kept.alloc ?_ _ | refine Kept.set ?_ _ _ | refine Kept.below ?_ (by assumption)))) hBW (by omega) (by omega))) (B.later (Kept.under (show Kept (w.heap.size + 1 + 1 + 1) W _ by (repeat' (first | exact Kept.refl _ _ | refine Kept.drew ?_ | refine Kept.alloc ?_ _ | refine Kept.set ?_ _ _ | refine Kept.below ?_ (by assumption)))) hBW (by omega) (by omega))) (by omega) (by omega)).mono ?_); rintro e w2 ⟨r2, rfl, z2, q2, l2, hb2⟩; obtain ⟨ad2, cp2, rfl, q2, A2⟩ := q2.slice)
      | (go_at_call 109; (with_reducible refine (mulD_any (A.later (Kept.under (show Kept (w.heap.size + 1 + 1 + 1) W _ by (repeat' (first | exact Kept.refl _ _ | refine Kept.drew ?_ | refine Kept.alloc ?_ _ | refine Kept.set ?_ _ _ | refine Kept.below ?_ (by assumption)))) hBW (by omega) (by omega))) (D.later (Kept.under (show Kept (w.heap.size + 1 + 1 + 1) W _ by (repeat' (first | exact Kept.refl _ _ | refine Kept.drew ?_ | refine Kept.alloc ?_ _ | refine Kept.set ?_ _ _ | refine Kept.below ?_ (by assumption)))) hBW (by omega) (by omega))) (by omega) (by omega)).mono ?_); rintro e w1 ⟨r1, rfl, z1, q1, l1, hb1⟩; obtain ⟨ad1, cp1, rfl, q1, A1⟩ := q1.slice)))
  have hK2 : Below W.heap.size W w2 := Kept.under (g := W.heap.size) (show Kept (W.heap.size) W w2 by (repeat' (first | exact Kept.refl _ _ | refine Kept.drew ?_ | refine Kept.alloc ?_ _ | refine Kept.set ?_ _ _ | refine Kept.below ?_ (by assumption)))) (Below.refl _ _) (by omega) (by omega)
  have hB2 : Below w.heap.size w w2 := hBW.trans (hK2.mono (by omega))
  have hs2 := hK2.size
  have A1' := A1.later hb2
  have e1 := q1.eq
  have e2 := q2.eq
  have E1 := Lib.hid e1
  have E2 := Lib.hid e2
  have B2 := B.later hB2
  have D2 := D.later hB2
  replace R0 := R0.later hK2
  replace R1 := R1.later hK2
  replace R2 := R2.later hK2
  obtain ⟨p0, p1, p2, _, _, _⟩ := R0.three
  obtain ⟨o0, o1, o2, _, _, _⟩ := R1.three
  clear mkS e1 e2 q1 q2 hb1 hK2 A B C D A1
  go_wp2_with fail
  refine (mulD_any B2 D2 (by omega) (by omega)).mono ?_
  rintro e w3 ⟨r3, rfl, z3, q3, l3, hb3⟩
  obtain ⟨ad3, cp3, rfl, q3, A3⟩ := q3.slice
  have hs3 := hb3.size
  have e3 := q3.eq
  have E3 := Lib.hid e3
  have Q0 := R0.later hb3
  have Q1 := R1.later hb3
  have Q2 := R2.later hb3
  have A1' := A1'.later hb3
  have A2' := A2.later hb3
  have hB3 : Below w.heap.size w w3 := hB2.trans (hb3.mono (by omega))
  clear p0 p1 p2 o0 o1 o2 e3 q3
  obtain ⟨p0, p1, p2, _, _, _⟩ := Q0.three
  obtain ⟨o0, o1, o2, _, _, _⟩ := Q1.three
  by_cases hm : m1 = m2
  · subst hm
    have HS2 := Lib.hid (HS.out rfl)
    clear HS HL HR
    have hbb : (m1 == m1) = true := by simp
    have mkS : ∀ X, Kept (w.heap.size + 1 + 1) w3 X → X.cell? ⟨w.heap.size, 0, none⟩ = some (.bool m1) ∧ X.cell? ⟨w.heap.size, 1, none⟩ = some (.slice a1 xs.length c1) ∧ X.cell? ⟨w.heap.size, 2, none⟩ = some (.slice a2 ds.length c2) ∧ X.cell? ⟨w.heap.size + 1, 0, none⟩ = some (.bool m1) ∧ X.cell? ⟨w.heap.size + 1, 1, none⟩ = some (.slice a3 zs.length c3) ∧ X.cell? ⟨w.heap.size + 1, 2, none⟩ = some (.slice a4 es.length c4) ∧ Kept (w.heap.size + 1 + 1) w3 X := fun X h => ⟨(Q0.kept h (by omega)).cell 0, (Q0.kept h (by omega)).cell 1, (Q0.kept h (by omega)).cell 2, (Q1.kept h (by omega)).cell 0, (Q1.kept h (by omega)).cell 1, (Q1.kept h (by omega)).cell 2, h⟩
    go_wp2_with fail
    clear p0 p1 p2 o0 o1 o2
    go_region_held3 (fun X => X.cell? ⟨w.heap.size, 0, none⟩ = some (.bool m1) ∧ X.cell? ⟨w.heap.size, 1, none⟩ = some (.slice a1 xs.length c1) ∧ X.cell? ⟨w.heap.size, 2, none⟩ = some (.slice a2 ds.length c2) ∧ X.cell? ⟨w.heap.size + 1, 0, none⟩ = some (.bool m1) ∧ X.cell? ⟨w.heap.size + 1, 1, none⟩ = some (.slice a3 zs.length c3) ∧ X.cell? ⟨w.heap.size + 1, 2, none⟩ = some (.slice a4 es.length c4) ∧ Kept (w.heap.size + 1 + 1) w3 X)
      (((refine mkS _ ?_; (repeat' (first | exact Kept.refl _ _ | refine Kept.drew ?_ | refine Kept.alloc ?_ _ | refine Kept.set ?_ _ _ | refine Kept.below ?_ (by assumption))))))
      ((first
        | (go_at_call 60; refine (makeR_any (n := 3 * n + 4) A4 (A3.later hb4d) (by omega) (by omega) (by omega)).mono ?_; rintro e w5 ⟨r5, rfl, q5, hb5⟩; rw [HV.out] at q5; obtain ⟨fs, gs, f1, f2, j1, j2, e5, _⟩ := id q5; subst e5; have P5 := (Q2.later hb4d).later hb5; obtain ⟨u0, u1, u2, g0, g1, g2⟩ := P5.three)
        | (go_at_call 98; refine (addD_any (A1'.later (Below.refl _ w3).drew) (A2'.later (Below.refl _ w3).drew) (by omega) (by omega)).mono ?_; rintro e w4 ⟨r4, rfl, z4, q4, l4, hb4⟩; have hb4d : Below w3.heap.size w3 w4 := ⟨hb4.os, hb4.tape, hb4.output, hb4.size, hb4.block⟩; obtain ⟨ad4, cp4, rfl, q4, A4⟩ := q4.slice; have HV := Lib.hid ((show ratOf m1 (valD z4) (valD z3) = ratOf m1 (valD xs * valD es + valD zs * valD ds) (valD ds * valD es) by rw [q4.eq, E1.out, E2.out, E3.out]).trans HS2.out))))
    have hs4 := hb4d.size
    go_wp2_with fail
    refine bodyPost_ret (v := .agg #[.bool (decide ((X + Y).num < 0)), .slice f1 fs.length j1, .slice f2 gs.length j2]) (by simp [results, Tryz.results73, go_sem, u0, u1, u2]) rfl ⟨_, rfl, (q5.far P5 (noInts3 _ _ _ _ _ _ _) (kept3 _ _ _)).more (by omega), below_set3 ((hB3.trans (hb4d.mono (by omega))).trans (hb5.mono (by omega))) (by omega) _ _ _⟩
  · have hbb : (m1 == m2) = false := by simpa using hm

    by_cases hlt : valD z1 < valD z2
    · have hcmp := cmpD_any A1' A2' (by omega) (by omega)
      rw [sign_lt hlt] at hcmp
      go_wp2_with fail
      refine hcmp.mono ?_
      rintro e w4 ⟨rfl, hb4⟩
      have hs4 := hb4.size
      have A1b := A1'.later hb4
      have A2b := A2'.later hb4
      have A3b := A3.later hb4
      have Q1b := Q1.later hb4
      have Q2b := Q2.later hb4
      clear hcmp p0 p1 p2 o0 o1 o2
      go_wp2_with fail
      refine (subD_any A2b A1b (by omega) (by omega)).mono ?_
      rintro e w5 ⟨r5, f5, rfl, hb5, _, h5⟩
      obtain ⟨rfl, z5, q5, l5⟩ := h5 (by omega)
      have hs5 := hb5.size
      obtain ⟨ad5, cp5, rfl, q5, A5⟩ := q5.slice
      have A3c := A3b.later hb5
      have Q1c := Q1b.later hb5
      have Q2c := Q2b.later hb5
      obtain ⟨o0, o1, o2, _, _, _⟩ := Q1c.three
      have HV := Lib.hid ((show ratOf m2 (valD z5) (valD z3) = ratOf m2 (valD zs * valD ds - valD xs * valD es) (valD ds * valD es) by rw [q5.eq, E1.out, E2.out, E3.out]).trans (HR.out hm))
      clear h5
      go_wp2_with fail
      refine (makeR_any (n := 3 * n + 4) A5 A3c (by omega) (by omega) (by omega)).mono ?_
      rintro e w6 ⟨r6, rfl, q6, hb6⟩
      rw [HV.out] at q6
      obtain ⟨fs, gs, f1, f2, j1, j2, e6, _⟩ := id q6
      subst e6
      have P6 := Q2c.later hb6
      clear o0 o1 o2
      obtain ⟨u0, u1, u2, g0, g1, g2⟩ := P6.three
      go_wp2_with fail
      refine bodyPost_ret (v := .agg #[.bool (decide ((X + Y).num < 0)), .slice f1 fs.length j1, .slice f2 gs.length j2]) (by simp [results, Tryz.results73, go_sem, u0, u1, u2]) rfl ⟨_, rfl, (q6.far P6 (noInts3 _ _ _ _ _ _ _) (kept3 _ _ _)).more (by omega), below_set3 (((hB3.trans (hb4.mono (by omega))).trans (hb5.mono (by omega))).trans (hb6.mono (by omega))) (by omega) _ _ _⟩
    · have hge : decide ((0 : Int) ≤ sign (valD z1) (valD z2)) = true := decide_eq_true (by unfold sign; rw [if_neg hlt]; split <;> omega)
      have hcmp := cmpD_any A1' A2' (by omega) (by omega)
      obtain ⟨sg, hsg⟩ : ∃ s, sign (valD z1) (valD z2) = s := ⟨_, rfl⟩
      rw [hsg] at hge hcmp
      clear hsg
      go_wp2_with fail
      refine hcmp.mono ?_
      rintro e w4 ⟨rfl, hb4⟩
      have hs4 := hb4.size
      have A1b := A1'.later hb4
      have A2b := A2'.later hb4
      have A3b := A3.later hb4
      have Q0b := Q0.later hb4
      have Q2b := Q2.later hb4
      clear hcmp p0 p1 p2 o0 o1 o2
      go_wp2_with fail
      refine (subD_any A1b A2b (by omega) (by omega)).mono ?_
      rintro e w5 ⟨r5, f5, rfl, hb5, _, h5⟩
      obtain ⟨rfl, z5, q5, l5⟩ := h5 (by omega)
      have hs5 := hb5.size
      obtain ⟨ad5, cp5, rfl, q5, A5⟩ := q5.slice
      have A3c := A3b.later hb5
      have Q0c := Q0b.later hb5
      have Q2c := Q2b.later hb5
      obtain ⟨o0, o1, o2, _, _, _⟩ := Q0c.three
      have HV := Lib.hid ((show ratOf m1 (valD z5) (valD z3) = ratOf m1 (valD xs * valD es - valD zs * valD ds) (valD ds * valD es) by rw [q5.eq, E1.out, E2.out, E3.out]).trans (HL.out hm))
      clear h5
      go_wp2_with fail
      refine (makeR_any (n := 3 * n + 4) A5 A3c (by omega) (by omega) (by omega)).mono ?_
      rintro e w6 ⟨r6, rfl, q6, hb6⟩
      rw [HV.out] at q6
      obtain ⟨fs, gs, f1, f2, j1, j2, e6, _⟩ := id q6
      subst e6
      have P6 := Q2c.later hb6
      clear o0 o1 o2
      obtain ⟨u0, u1, u2, g0, g1, g2⟩ := P6.three
      go_wp2_with fail
      refine bodyPost_ret (v := .agg #[.bool (decide ((X + Y).num < 0)), .slice f1 fs.length j1, .slice f2 gs.length j2]) (by simp [results, Tryz.results73, go_sem, u0, u1, u2]) rfl ⟨_, rfl, (q6.far P6 (noInts3 _ _ _ _ _ _ _) (kept3 _ _ _)).more (by omega), below_set3 (((hB3.trans (hb4.mono (by omega))).trans (hb5.mono (by omega))).trans (hb6.mono (by omega))) (by omega) _ _ _⟩
end
section
open Go.RowKit
set_option linter.unusedVariables false
set_option linter.unusedSimpArgs false
set_option maxRecDepth 100000 in
set_option maxHeartbeats 4000000 in
theorem mulR_gen {n : Nat} {w : World} {m1 m2 : Bool} {xs ds zs es : List Int} {a1 a2 a3 a4 : Option Addr} {c1 c2 c3 c4 : Nat}
    (A : ArgD w (.slice a1 xs.length c1) xs a1 c1) (B : ArgD w (.slice a2 ds.length c2) ds a2 c2) (C : ArgD w (.slice a3 zs.length c3) zs a3 c3) (D : ArgD w (.slice a4 es.length c4) es a4 c4)
    (hx : xs.length ≤ n) (hd : ds.length ≤ n) (hz : zs.length ≤ n) (he : es.length ≤ n) (hn : n ≤ 1000000000) :
    Calls Tryz.prog 74 #[.agg #[.bool m1, .slice a1 xs.length c1, .slice a2 ds.length c2], .agg #[.bool m2, .slice a3 zs.length c3, .slice a4 es.length c4]] w fun e w' => ∃ r, e = .returned r ∧ ArgR w' r (ratOf m1 (valD xs) (valD ds) * ratOf m2 (valD zs) (valD es)) (3 * n + 5) ∧ Below w.heap.size w w' := by
  obtain ⟨X, hX⟩ : ∃ X, ratOf m1 (valD xs) (valD ds) * ratOf m2 (valD zs) (valD es) = X := ⟨_, rfl⟩
  have hfin : ratOf (!(m1 == m2)) (valD xs * valD zs) (valD ds * valD es) = X := by rw [← hX]; exact rat_prod m1 m2 _ _ _ _
  have HF := Lib.hid hfin
  rw [hX]
  clear hfin hX
  obtain ⟨W, hW⟩ : ∃ W, (((w.alloc (.cells #[.bool m1, .slice a1 xs.length c1, .slice a2 ds.length c2] 50)).alloc (.cells #[.bool m2, .slice a3 zs.length c3, .slice a4 es.length c4] 50)).alloc (.cells #[.bool false, .slice none 0 0, .slice none 0 0] 50)) = W := ⟨_, rfl⟩
  have R0 : Row W (w.heap.size) 50 #[.bool m1, .slice a1 xs.length c1, .slice a2 ds.length c2] := by rw [← hW]; exact (((Row.new _ _ _).alloc _).alloc _)
  have R1 : Row W (w.heap.size + 1) 50 #[.bool m2, .slice a3 zs.length c3, .slice a4 es.length c4] := by rw [← hW]; have h := (Row.new (w.alloc (.cells #[.bool m1, .slice a1 xs.length c1, .slice a2 ds.length c2] 50)) 50 #[.bool m2, .slice a3 zs.length c3, .slice a4 es.length c4]); simp only [World.size_alloc] at h; exact (h.alloc _)
  have R2 : Row W (w.heap.size + 1 + 1) 50 #[.bool false, .slice none 0 0, .slice none 0 0] := by rw [← hW]; have h := (Row.new ((w.alloc (.cells #[.bool m1, .slice a1 xs.length c1, .slice a2 ds.length c2] 50)).alloc (.cells #[.bool m2, .slice a3 zs.length c3, .slice a4 es.length c4] 50)) 50 #[.bool false, .slice none 0 0, .slice none 0 0]); simp only [World.size_alloc] at h; exact h
  have hBW : Below w.heap.size w W := by rw [← hW]; exact ((((Below.refl _ _).alloc (by (try simp) <;> omega) _).alloc (by (try simp) <;> omega) _).alloc (by (try simp) <;> omega) _)
  have hsW : w.heap.size + 1 + 1 + 1 ≤ W.heap.size := by rw [← hW]; simp
  have mkS : ∀ X, Kept (w.heap.size + 1 + 1) W X → X.cell? ⟨w.heap.size, 0, none⟩ = some (.bool m1) ∧ X.cell? ⟨w.heap.size, 1, none⟩ = some (.slice a1 xs.length c1) ∧ X.cell? ⟨w.heap.size, 2, none⟩ = some (.slice a2 ds.length c2) ∧ X.cell? ⟨w.heap.size + 1, 0, none⟩ = some (.bool m2) ∧ X.cell? ⟨w.heap.size + 1, 1, none⟩ = some (.slice a3 zs.length c3) ∧ X.cell? ⟨w.heap.size + 1, 2, none⟩ = some (.slice a4 es.length c4) ∧ Kept (w.heap.size + 1 + 1) W X := fun X h => ⟨(R0.kept h (by omega)).cell 0, (R0.kept h (by omega)).cell 1, (R0.kept h (by omega)).cell 2, (R1.kept h (by omega)).cell 0, (R1.kept h (by omega)).cell 1, (R1.kept h (by omega)).cell 2, h⟩
  go_enter Tryz.func74, Tryz.ntmps74
  go_wp2_with fail
  clear hW
  go_region_held3 (fun X => X.cell? ⟨w.heap.size, 0, none⟩ = some (.bool m1) ∧ X.cell? ⟨w.heap.size, 1, none⟩ = some (.slice a1 xs.length c1) ∧ X.cell? ⟨w.heap.size, 2, none⟩ = some (.slice a2 ds.length c2) ∧ X.cell? ⟨w.heap.size + 1, 0, none⟩ = some (.bool m2) ∧ X.cell? ⟨w.heap.size + 1, 1, none⟩ = some (.slice a3 zs.length c3) ∧ X.cell? ⟨w.heap.size + 1, 2, none⟩ = some (.slice a4 es.length c4) ∧ Kept (w.heap.size + 1 + 1) W X)
    (((refine mkS _ ?_; (repeat' (first | exact Kept.refl _ _ | refine Kept.drew ?_ | refine Kept.alloc ?_ _ | refine Kept.set ?_ _ _ | refine Kept.below ?_ (by assumption))))))
    ((first
      | (go_at_call 60; refine (makeR_any (n := 3 * n + 4) (A3.later hb4) A4 (by omega) (by omega) (by omega)).mono ?_; rintro e w5 ⟨r5, rfl, q5, hb5⟩; rw [HV.out] at q5; obtain ⟨fs, gs, f1, f2, j1, j2, e5, _⟩ := id q5; subst e5; have P5 := R2.kept (show Kept (w.heap.size + 1 + 1 + 1) W w5 by (repeat' (first | exact Kept.refl _ _ | refine Kept.drew ?_ | refine Kept.alloc ?_ _ | refine Kept.set ?_ _ _ | refine Kept.below ?_ (by assumption)))) (by omega); obtain ⟨u0, u1, u2, g0, g1, g2⟩ := P5.three)
      | (go_at_call 109; (with_reducible refine (mulD_any (B.later (Kept.under (show Kept (w.heap.size + 1 + 1) W _ by (repeat' (first | exact Kept.refl _ _ | refine Kept.drew ?_ | refine Kept.alloc ?_ _ | refine Kept.set ?_ _ _ | refine Kept.below ?_ (by assumption)))) hBW (by omega) (by omega))) (D.later (Kept.under (show Kept (w.heap.size + 1 + 1) W _ by (repeat' (first | exact Kept.refl _ _ | refine Kept.drew ?_ | refine Kept.alloc ?_ _ | refine Kept.set ?_ _ _ | refine Kept.below ?_ (by assumption)))) hBW (by omega) (by omega))) (by omega) (by omega)).mono ?_); rintro e w4 ⟨r4, rfl, z4, q4, l4, hb4⟩; obtain ⟨ad4, cp4, rfl, q4, A4⟩ := q4.slice; have HV := Lib.hid ((show ratOf (!(m1 == m2)) (valD z3) (valD z4) = ratOf (!(m1 == m2)) (valD xs * valD zs) (valD ds * valD es) by rw [q3.eq, q4.eq]).trans HF.out))
      | (go_at_call 109; (with_reducible refine (mulD_any (A.later (Kept.under (show Kept (w.heap.size + 1 + 1) W _ by (repeat' (first | exact Kept.refl _ _ | refine Kept.drew ?_ | refine Kept.alloc ?_ _ | refine Kept.set ?_ _ _ | refine Kept.below ?_ (by assumption)))) hBW (by omega) (by omega))) (C.later (Kept.under (show Kept (w.heap.size + 1 + 1) W _ by (repeat' (first | exact Kept.refl _ _ | refine Kept.drew ?_ | refine Kept.alloc ?_ _ | refine Kept.set ?_ _ _ | refine Kept.below ?_ (by assumption)))) hBW (by omega) (by omega))) (by omega) (by omega)).mono ?_); rintro e w3 ⟨r3, rfl, z3, q3, l3, hb3⟩; obtain ⟨ad3, cp3, rfl, q3, A3⟩ := q3.slice)))
  have hs5 := hb5.size
  have hk5 := (show Kept (w.heap.size + 1 + 1 + 1) W w5 by (repeat' (first | exact Kept.refl _ _ | refine Kept.drew ?_ | refine Kept.alloc ?_ _ | refine Kept.set ?_ _ _ | refine Kept.below ?_ (by assumption)))).size
  have hK5 := (Kept.under (show Kept (w.heap.size + 1 + 1 + 1) W w5 by (repeat' (first | exact Kept.refl _ _ | refine Kept.drew ?_ | refine Kept.alloc ?_ _ | refine Kept.set ?_ _ _ | refine Kept.below ?_ (by assumption)))) hBW (by omega) (by omega))
  go_wp2_with fail
  refine bodyPost_ret (v := .agg #[.bool (decide (X.num < 0)), .slice f1 fs.length j1, .slice f2 gs.length j2]) (by simp [results, Tryz.results74, go_sem, u0, u1, u2]) rfl ⟨_, rfl, ?_, below_set3 hK5 (by omega) _ _ _⟩
  exact (q5.far P5 (noInts3 _ _ _ _ _ _ _) (kept3 _ _ _))
theorem ArgR.parts {w : World} {v : Value} {x : Rat} {n : Nat} (h : ArgR w v x n) : ∃ (m : Bool) (zs ys : List Int) (ad bd : Option Addr) (ca cb : Nat), v = .agg #[.bool m, .slice ad zs.length ca, .slice bd ys.length cb] ∧
    ArgD w (.slice ad zs.length ca) zs ad ca ∧ ArgD w (.slice bd ys.length cb) ys bd cb ∧ ratOf m (valD zs) (valD ys) = x ∧ zs.length ≤ n ∧ ys.length ≤ n := by
  obtain ⟨zs, ys, ad, bd, ca, cb, rfl, A, B, h1, h2, h3, h4⟩ := h
  exact ⟨_, zs, ys, ad, bd, ca, cb, rfl, A, B, by rw [h1, h2, ratOf_self], h3, h4⟩
theorem mulR_any {n : Nat} {w : World} {u v : Value} {X Y : Rat} (hu : ArgR w u X n) (hv : ArgR w v Y n) (hn : n ≤ 1000000000) :
    Calls Tryz.prog 74 #[u, v] w fun e w' => ∃ r, e = .returned r ∧ ArgR w' r (X * Y) (3 * n + 5) ∧ Below w.heap.size w w' := by
  obtain ⟨m1, xs, ds, a1, a2, c1, c2, rfl, A, B, hX, hx, hd⟩ := hu.parts
  obtain ⟨m2, zs, es, a3, a4, c3, c4, rfl, C, D, hY, hz, he⟩ := hv.parts
  rw [← hX, ← hY]
  exact mulR_gen A B C D hx hd hz he hn
end
section
open Go.RowKit
set_option linter.unusedVariables false
set_option linter.unusedSimpArgs false
theorem ArgR.box {w : World} {v : Value} {x : Rat} {n : Nat} (h : ArgR w v x n) : ∃ (m : Bool) (zs ys : List Int) (ad bd : Option Addr) (ca cb : Nat), v = .agg #[.bool m, .slice ad zs.length ca, .slice bd ys.length cb] := by
  obtain ⟨zs, ys, ad, bd, ca, cb, rfl, _⟩ := h
  exact ⟨_, zs, ys, ad, bd, ca, cb, rfl⟩
set_option maxRecDepth 100000 in
set_option maxHeartbeats 4000000 in
theorem intR_any (k : Int) (w : World) (h0 : -9223372036854775808 ≤ k) (h1 : k ≤ 9223372036854775807) :
    Calls Tryz.prog 51 #[.int .i64 k] w fun e w' => ∃ r, e = .returned r ∧ ArgR w' r (intQ k) 6 ∧ Below w.heap.size w w' := by
  obtain ⟨i1, i2, i3⟩ := intQ_parts k
  obtain ⟨m1, hm1⟩ : ∃ m, decide (k < 0) = m := ⟨_, rfl⟩
  rw [hm1] at i1
  have I1 := Lib.hid i1
  have I2 := Lib.hid i2
  have I3 := Lib.hid i3
  clear i1 i2 i3
  obtain ⟨W, hW⟩ : ∃ W, (w.alloc (.cells #[.bool false, .slice none 0 0, .slice none 0 0] 50)) = W := ⟨_, rfl⟩
  have R0 : Row W (w.heap.size) 50 #[.bool false, .slice none 0 0, .slice none 0 0] := by rw [← hW]; exact (Row.new _ _ _)
  have hBW : Below w.heap.size w W := by rw [← hW]; exact ((Below.refl _ _).alloc (by (try simp) <;> omega) _)
  have hsW : w.heap.size + 1 ≤ W.heap.size := by rw [← hW]; simp
  go_enter Tryz.func51, Tryz.ntmps51
  go_wp2_with fail
  refine (sizeR_any k _ h0 h1).mono ?_
  rintro e w1 ⟨r1, rfl, z1, q1, l1, hb1⟩
  have hs1 := hb1.size
  obtain ⟨ad1, cp1, rfl, q1, A1⟩ := q1.slice
  have v1 : valD z1 = (((intQ k).num.natAbs : Nat) : Int) := by rw [q1.eq, I2.out]
  have V1 := Lib.hid v1
  have hb2 : Below w1.heap.size w1 (w1.alloc (.cells #[.int .i64 1] 3)) := (Below.refl _ _).alloc (Nat.le_refl _) _
  have L := digit_lit (Row.new w1 3 #[.int .i64 1]) (by omega)
  have P2 := (R0.later hb1).later hb2
  have A2 := A1.later hb2
  clear v1 q1 hW
  obtain ⟨q0, q1, q2, h0', h1', h2'⟩ := (R0.later hb1).three
  obtain ⟨u0, u1, u2, g0, g1, g2⟩ := P2.three
  go_wp2_with fail
  refine bodyPost_ret (v := .agg #[.bool m1, .slice ad1 z1.length cp1, .slice (some ⟨w1.heap.size, 0, none⟩) 1 1]) (by simp [results, Tryz.results51, go_sem, u0, u1, u2]) rfl ⟨_, rfl, ⟨z1, [1], ad1, some ⟨w1.heap.size, 0, none⟩, cp1, 1, by rw [I1.out]; rfl, ?_, ?_, V1.out, by rw [I3.out]; rfl, l1, by simp⟩, ?_⟩
  · exact A2.far P2 (noInts3 _ _ _ _ _ _ _) (kept3 _ _ _)
  · exact L.far P2 (noInts3 _ _ _ _ _ _ _) (kept3 _ _ _)
  · exact below_set3 ((hBW.trans (hb1.mono (by omega))).trans (hb2.mono (by omega))) (by omega) _ _ _
theorem dig_two (k : Nat) : (10000 : Int) ^ k ≤ 2 ^ (14 * k) := by
  induction k with
  | zero => simp
  | succ k ih =>
    rw [Int.pow_succ, show 14 * (k + 1) = 14 * k + 14 from by omega, Int.pow_add]
    have h1 := pow_posD k
    have h2 : (2 : Int) ^ 14 = 16384 := by decide
    rw [h2]
    omega
theorem bitsD_le {ds : List Int} {k : Nat} (h : WfD ds) (hk : IsBits (valD ds) k) : k ≤ 14 * ds.length := by
  have h1 := val_ltD h
  have h2 := dig_two ds.length
  exact hk.le (by omega)
set_option maxRecDepth 100000 in
set_option maxHeartbeats 4000000 in
theorem bitsR_any {n k1 k2 : Nat} {w : World} {u : Value} {X : Rat} (hu : ArgR w u X n) (hn : n ≤ 1000000000) (h1 : IsBits (X.num.natAbs : Int) k1) (h2 : IsBits (X.den : Int) k2) :
    Calls Tryz.prog 71 #[u] w fun e w' => e = .returned (.int .i64 (max (k1 : Int) (k2 : Int))) ∧ Below w.heap.size w w' := by
  obtain ⟨xs, ds, a1, a2, c1, c2, rfl, A, B, hX1, hX2, hx, hd⟩ := hu
  obtain ⟨m1, hm1⟩ : ∃ m, decide (X.num < 0) = m := ⟨_, rfl⟩
  rw [← hX1] at h1
  rw [← hX2] at h2
  have l1 := bitsD_le A.wf h1
  have l2 := bitsD_le B.wf h2
  rw [hm1]
  clear hm1 hX1 hX2
  obtain ⟨W, hW⟩ : ∃ W, (w.alloc (.cells #[.bool m1, .slice a1 xs.length c1, .slice a2 ds.length c2] 50)) = W := ⟨_, rfl⟩
  have R0 : Row W (w.heap.size) 50 #[.bool m1, .slice a1 xs.length c1, .slice a2 ds.length c2] := by rw [← hW]; exact (Row.new _ _ _)
  have hBW : Below w.heap.size w W := by rw [← hW]; exact ((Below.refl _ _).alloc (by (try simp) <;> omega) _)
  have hsW : w.heap.size + 1 ≤ W.heap.size := by rw [← hW]; simp
  have mkS : ∀ X, Kept (w.heap.size + 1 + 1 + 1) W X → X.cell? ⟨w.heap.size, 0, none⟩ = some (.bool m1) ∧ X.cell? ⟨w.heap.size, 1, none⟩ = some (.slice a1 xs.length c1) ∧ X.cell? ⟨w.heap.size, 2, none⟩ = some (.slice a2 ds.length c2) ∧ Kept (w.heap.size + 1 + 1 + 1) W X := fun X h => ⟨(R0.kept h (by omega)).cell 0, (R0.kept h (by omega)).cell 1, (R0.kept h (by omega)).cell 2, h⟩
  go_enter Tryz.func71, Tryz.ntmps71
  go_wp2_with fail
  clear hW
  go_region_held3 (fun X => X.cell? ⟨w.heap.size, 0, none⟩ = some (.bool m1) ∧ X.cell? ⟨w.heap.size, 1, none⟩ = some (.slice a1 xs.length c1) ∧ X.cell? ⟨w.heap.size, 2, none⟩ = some (.slice a2 ds.length c2) ∧ Kept (w.heap.size + 1 + 1 + 1) W X)
    (((refine mkS _ ?_; (repeat' (first | exact Kept.refl _ _ | refine Kept.drew ?_ | refine Kept.alloc ?_ _ | refine Kept.set ?_ _ _ | refine Kept.below ?_ (by assumption))))))
    ((first
      | (go_at_call 108; (with_reducible refine (bitsD_any (B.later (Kept.under (show Kept (w.heap.size + 1 + 1 + 1) W _ by (repeat' (first | exact Kept.refl _ _ | refine Kept.drew ?_ | refine Kept.alloc ?_ _ | refine Kept.set ?_ _ _ | refine Kept.below ?_ (by assumption)))) hBW (by omega) (by omega))) (by omega) h2 (by omega)).mono ?_); rintro e w4 ⟨rfl, hb4⟩)
      | (go_at_call 108; (with_reducible refine (bitsD_any (A.later (Kept.under (show Kept (w.heap.size + 1 + 1 + 1) W _ by (repeat' (first | exact Kept.refl _ _ | refine Kept.drew ?_ | refine Kept.alloc ?_ _ | refine Kept.set ?_ _ _ | refine Kept.below ?_ (by assumption)))) hBW (by omega) (by omega))) (by omega) h1 (by omega)).mono ?_); rintro e w3 ⟨rfl, hb3⟩)))
  have hK4 := (Kept.under (show Kept (w.heap.size + 1 + 1 + 1) W w4 by (repeat' (first | exact Kept.refl _ _ | refine Kept.drew ?_ | refine Kept.alloc ?_ _ | refine Kept.set ?_ _ _ | refine Kept.below ?_ (by assumption)))) hBW (by omega) (by omega))
  go_wp2_with fail
  go_ret
  exact ⟨rfl, hK4⟩
end
section
open Go.RowKit
set_option linter.unusedVariables false
set_option linter.unusedSimpArgs false
set_option maxRecDepth 100000 in
set_option maxHeartbeats 4000000 in
theorem canonical_false {u : Value} {xs : List Int} {a : Option Addr} {capa : Nat} {w : World} (h1 : Arg w u xs a capa) (hx : xs.length ≤ 70368744177664) (hf : ¬ trimN xs xs.length = xs.length) :
    Calls Tryz.prog 103 #[u] w fun e w' => e = .returned (.bool false) ∧ w = w' := by
  obtain ⟨rfl, lx, _, _⟩ := h1
  have hpos : 0 < xs.length := by
    rcases Nat.eq_zero_or_pos xs.length with h | h
    · exact absurd (by rw [h]; rfl) hf
    · exact h
  obtain ⟨m, hm⟩ : ∃ m, xs.length = m + 1 := ⟨xs.length - 1, by omega⟩
  have hz : xs.getD m 0 = 0 := by
    by_cases h : xs.getD m 0 = 0
    · exact h
    · exfalso
      apply hf
      rw [hm]
      show (if xs.getD m 0 = 0 then trimN xs m else m + 1) = m + 1
      rw [if_neg h]
  rcases lx with rfl | ⟨b, off, rfl, hc⟩
  · simp at hpos
  have hj := hc m (by omega)
  rw [hz] at hj
  rw [hm] at hx
  rw [hm]
  have h2 : ((m : Int) + 1 == 0) = false := by simp; omega
  clear hc hz hf hpos hm
  go_enter Tryz.func103, Tryz.ntmps103
  go_wp2
  go_ret
  exact ⟨rfl, rfl⟩
/-- the limbs zs are those of the number N, as it is answered -/
def isB (zs : List Int) (N : Int) : Bool := decide (trimN zs zs.length = zs.length ∧ val zs = N)
theorem sign_zero {a b : Int} (h : sign a b = 0) : a = b := by unfold sign at h; split at h <;> (try split at h) <;> omega
set_option maxRecDepth 100000 in
set_option maxHeartbeats 4000000 in
theorem is_dec {u v : Value} {ds zs : List Int} {a b : Option Addr} {capa capb : Nat} {w : World} (h1 : ArgD w u ds a capa) (h2 : Arg w v zs b capb) (hx : ds.length ≤ 68719476736) (hy : zs.length ≤ 134217728) :
    Calls Tryz.prog 66 #[u, v] w fun e w' => e = .returned (.bool (isB zs (valD ds))) ∧ Below w.heap.size w w' := by
  by_cases hf : trimN zs zs.length = zs.length
  · by_cases hv : val zs = valD ds
    · have e1 : isB zs (valD ds) = true := decide_eq_true ⟨hf, hv⟩
      rw [e1]
      exact is_true h1 h2 hx hy hf hv.symm
    · have e1 : isB zs (valD ds) = false := decide_eq_false (fun h => hv h.2)
      rw [e1]
      have hne : (sign (val zs) (valD ds) == 0) = false := by simp; exact fun h => hv (sign_zero h)
      go_enter Tryz.func66, Tryz.ntmps66
      go_wp2_with fail
      refine (canonical_true h2 (by omega) hf).mono ?_
      rintro e w' ⟨rfl, rfl⟩
      have HF := Lib.hid hf
      clear hf e1
      go_wp2_with fail
      refine (of_any h2 hy).mono ?_
      rintro e w1 ⟨r, rfl, qs, hq, hl, hb⟩
      obtain ⟨ad, cap, A⟩ := hq.arg
      have h1' := h1.later hb
      have hc := cmpD_any A h1' (by omega) hx
      rw [hq.eq] at hc
      obtain ⟨s, hs⟩ : ∃ s, sign (val zs) (valD ds) = s := ⟨_, rfl⟩
      rw [hs] at hc hne
      clear hs hv
      go_wp2_with fail
      refine hc.mono ?_
      rintro e w2 ⟨rfl, hb2⟩
      clear hc
      go_wp2_with fail
      go_ret
      exact ⟨rfl, hb.trans (hb2.mono hb.size)⟩
  · have e1 : isB zs (valD ds) = false := decide_eq_false (fun h => hf h.1)
    rw [e1]
    go_enter Tryz.func66, Tryz.ntmps66
    go_wp2_with fail
    refine (canonical_false h2 (by omega) hf).mono ?_
    rintro e w' ⟨rfl, rfl⟩
    clear hf e1
    go_wp2_with fail
    go_ret
    exact ⟨rfl, Below.refl _ _⟩
/-- a sign and two rows of limbs are the number X in its valid form -/
def validB (m : Bool) (xs ys : List Int) (X : Rat) : Bool := (m == decide (X.num < 0)) && (isB xs (X.num.natAbs : Int) && isB ys (X.den : Int))
set_option maxRecDepth 100000 in
set_option maxHeartbeats 4000000 in
theorem isR_dec {n : Nat} {w : World} {u : Value} {X : Rat} {m2 : Bool} {zs es : List Int} {a3 a4 : Option Addr} {c3 c4 : Nat} (hu : ArgR w u X n) (C : Arg w (.slice a3 zs.length c3) zs a3 c3) (D : Arg w (.slice a4 es.length c4) es a4 c4)
    (hn : n ≤ 1000000000) (hz : zs.length ≤ 134217728) (he : es.length ≤ 134217728) :
    Calls Tryz.prog 30 #[u, .agg #[.bool m2, .slice a3 zs.length c3, .slice a4 es.length c4]] w fun e w' => e = .returned (.bool (validB m2 zs es X)) ∧ Below w.heap.size w w' := by
  obtain ⟨xs, ds, a1, a2, c1, c2, rfl, A, B, hX1, hX2, hx, hd⟩ := hu
  obtain ⟨m1, hm1⟩ : ∃ m, decide (X.num < 0) = m := ⟨_, rfl⟩
  have hv : validB m2 zs es X = ((m2 == m1) && (isB zs (valD xs) && isB es (valD ds))) := by unfold validB; rw [hm1, hX1, hX2]
  rw [hm1, hv]
  clear hm1 hv hX1 hX2
  obtain ⟨W, hW⟩ : ∃ W, ((w.alloc (.cells #[.bool m1, .slice a1 xs.length c1, .slice a2 ds.length c2] 50)).alloc (.cells #[.bool m2, .slice a3 zs.length c3, .slice a4 es.length c4] 44)) = W := ⟨_, rfl⟩
  have R0 : Row W (w.heap.size) 50 #[.bool m1, .slice a1 xs.length c1, .slice a2 ds.length c2] := by rw [← hW]; exact ((Row.new _ _ _).alloc _)
  have R1 : Row W (w.heap.size + 1) 44 #[.bool m2, .slice a3 zs.length c3, .slice a4 es.length c4] := by rw [← hW]; have h := (Row.new (w.alloc (.cells #[.bool m1, .slice a1 xs.length c1, .slice a2 ds.length c2] 50)) 44 #[.bool m2, .slice a3 zs.length c3, .slice a4 es.length c4]); simp only [World.size_alloc] at h; exact h
  have hBW : Below w.heap.size w W := by rw [← hW]; exact (((Below.refl _ _).alloc (by (try simp) <;> omega) _).alloc (by (try simp) <;> omega) _)
  have hsW : w.heap.size + 1 + 1 ≤ W.heap.size := by rw [← hW]; simp
  have i1 := is_dec (A.later hBW) (C.later hBW) (by omega) hz
  have D1 := D.later hBW
  have B1 := B.later hBW
  obtain ⟨p0, p1, p2, _, _, _⟩ := R0.three
  obtain ⟨o0, o1, o2, _, _, _⟩ := R1.three
  obtain ⟨b1, hb1⟩ : ∃ b, isB zs (valD xs) = b := ⟨_, rfl⟩
  obtain ⟨b2, hb2⟩ : ∃ b, isB es (valD ds) = b := ⟨_, rfl⟩
  rw [hb1] at i1
  rw [hb1, hb2]
  have HB2 := Lib.hid hb2
  clear hb1 hb2
  obtain ⟨b0, hb0⟩ : ∃ b, (m2 == m1) = b := ⟨_, rfl⟩
  rw [hb0]
  cases b0 with
  | false =>
    go_enter Tryz.func30, Tryz.ntmps30
    go_wp2_with fail
    go_ret
    exact ⟨rfl, hBW⟩
  | true =>
    cases b1 with
    | false =>
      go_enter Tryz.func30, Tryz.ntmps30
      go_wp2_with fail
      refine i1.mono ?_
      rintro e w1 ⟨rfl, hb1⟩
      have hs1 := hb1.size
      clear i1
      go_wp2_with fail
      go_ret
      exact ⟨rfl, hBW.trans (hb1.mono (by omega))⟩
    | true =>
      go_enter Tryz.func30, Tryz.ntmps30
      go_wp2_with fail
      refine i1.mono ?_
      rintro e w1 ⟨rfl, hb1⟩
      have hs1 := hb1.size
      have i2 := is_dec (B1.later hb1) (D1.later hb1) (by omega) he
      rw [HB2.out] at i2
      clear i1 p0 p1 p2 o0 o1 o2
      obtain ⟨p0, p1, p2, _, _, _⟩ := (R0.later hb1).three
      obtain ⟨o0, o1, o2, _, _, _⟩ := (R1.later hb1).three
      go_wp2_with fail
      refine i2.mono ?_
      rintro e w2 ⟨rfl, hb2⟩
      clear i2
      go_wp2_with fail
      go_ret
      exact ⟨by cases b2 <;> rfl, (hBW.trans (hb1.mono (by omega))).trans (hb2.mono (by omega))⟩
theorem ResQ.valid {base : Nat} {w : World} {v : Value} {x : Rat} {n : Nat} (h : ResQ base w v x n) : ∃ (m : Bool) (xs ys : List Int) (ad bd : Option Addr) (ca cb : Nat), v = .agg #[.bool m, .slice ad xs.length ca, .slice bd ys.length cb] ∧
    Arg w (.slice ad xs.length ca) xs ad ca ∧ Arg w (.slice bd ys.length cb) ys bd cb ∧ validB m xs ys x = true ∧ xs.length ≤ n ∧ ys.length ≤ n := by
  obtain ⟨zs, ys, ad, bd, ca, cb, rfl, A, B, h1, h2⟩ := h
  refine ⟨_, zs, ys, ad, bd, ca, cb, rfl, A.at_.2, B.at_.2, ?_, h1, h2⟩
  have e1 : isB zs (x.num.natAbs : Int) = true := decide_eq_true ⟨A.full, A.eq⟩
  have e2 : isB ys (x.den : Int) = true := decide_eq_true ⟨B.full, B.eq⟩
  unfold validB
  rw [e1, e2]
  simp
theorem isR_true {base n m : Nat} {w : World} {u v : Value} {X : Rat} (hu : ArgR w u X n) (hv : ResQ base w v X m) (hn : n ≤ 1000000000) (hm : m ≤ 134217728) :
    Calls Tryz.prog 30 #[u, v] w fun e w' => e = .returned (.bool true) ∧ Below w.heap.size w w' := by
  obtain ⟨b, zs, es, a3, a4, c3, c4, rfl, C, D, hvb, hz, he⟩ := hv.valid
  have k := isR_dec (m2 := b) hu C D hn (by omega) (by omega)
  rwa [hvb] at k
set_option maxRecDepth 100000 in
set_option maxHeartbeats 4000000 in
theorem mayR_any {n : Nat} {w : World} {m1 : Bool} {xs ds : List Int} {a1 a2 : Option Addr} {c1 c2 : Nat} (A : Arg w (.slice a1 xs.length c1) xs a1 c1) (B : Arg w (.slice a2 ds.length c2) ds a2 c2)
    (hx : xs.length ≤ n) (hd : ds.length ≤ n) (hn : n ≤ 134217728) :
    Calls Tryz.prog 48 #[.agg #[.bool m1, .slice a1 xs.length c1, .slice a2 ds.length c2]] w fun e w' => e = .returned (.int .i64 (if validB m1 xs ds (ratOf m1 (val xs) (val ds)) = true then 0 else 6)) ∧ Below w.heap.size w w' := by
  obtain ⟨X, hX⟩ : ∃ X, ratOf m1 (val xs) (val ds) = X := ⟨_, rfl⟩
  have hq : ArgQ w (.agg #[.bool m1, .slice a1 xs.length c1, .slice a2 ds.length c2]) X n := ⟨m1, xs, ds, a1, a2, c1, c2, rfl, A, B, hX, hx, hd⟩
  rw [hX]
  clear hX
  obtain ⟨W, hW⟩ : ∃ W, (w.alloc (.cells #[.bool m1, .slice a1 xs.length c1, .slice a2 ds.length c2] 44)) = W := ⟨_, rfl⟩
  have R0 : Row W (w.heap.size) 44 #[.bool m1, .slice a1 xs.length c1, .slice a2 ds.length c2] := by rw [← hW]; exact (Row.new _ _ _)
  have hBW : Below w.heap.size w W := by rw [← hW]; exact ((Below.refl _ _).alloc (by (try simp) <;> omega) _)
  have hsW : w.heap.size + 1 ≤ W.heap.size := by rw [← hW]; simp
  obtain ⟨p0, p1, p2, _, _, _⟩ := R0.three
  have hq' := hq.later hBW
  obtain ⟨b, hb⟩ : ∃ b, validB m1 xs ds X = b := ⟨_, rfl⟩
  have HB := Lib.hid hb
  rw [hb]
  clear hb hq
  go_enter Tryz.func48, Tryz.ntmps48
  go_wp2_with fail
  refine (ofR_any hq' hn).mono ?_
  rintro e w1 ⟨r1, rfl, h1, hb1⟩
  have hs1 := hb1.size
  obtain ⟨m4, fs, gs, f1, f2, j1, j2, rfl⟩ := h1.box
  clear p0 p1 p2 hW
  have Q0 := R0.later hb1
  obtain ⟨U, hU⟩ : ∃ U, w1.alloc (.cells #[.bool m4, .slice f1 fs.length j1, .slice f2 gs.length j2] 50) = U := ⟨_, rfl⟩
  have hBU : Below w1.heap.size w1 U := by rw [← hU]; exact (Below.refl _ _).alloc (Nat.le_refl _) _
  have R5 : Row U w1.heap.size 50 #[.bool m4, .slice f1 fs.length j1, .slice f2 gs.length j2] := by rw [← hU]; exact Row.new _ _ _
  have hsU : w1.heap.size + 1 ≤ U.heap.size := by rw [← hU]; simp
  have k := isR_dec (m2 := m1) (h1.later hBU) (((A.later hBW).later hb1).later hBU) (((B.later hBW).later hb1).later hBU) (by omega) (by omega) (by omega)
  rw [HB.out] at k
  obtain ⟨p0, p1, p2, _, _, _⟩ := Q0.three
  obtain ⟨q0, q1, q2, _, _, _⟩ := (Q0.later hBU).three
  obtain ⟨o0, o1, o2, _, _, _⟩ := R5.three
  have hB2 : Below w.heap.size w U := (hBW.trans (hb1.mono (by omega))).trans (hBU.mono (by omega))
  cases b with
  | true =>
    go_wp2_with fail
    (try rw [hU])
    refine k.mono ?_
    rintro e w2 ⟨rfl, hb2⟩
    clear k hU
    go_wp2_with fail
    go_ret
    exact ⟨rfl, hB2.trans (hb2.mono (by omega))⟩
  | false =>
    go_wp2_with fail
    (try rw [hU])
    refine k.mono ?_
    rintro e w2 ⟨rfl, hb2⟩
    clear k hU
    go_wp2_with fail
    go_ret
    exact ⟨rfl, hB2.trans (hb2.mono (by omega))⟩
end
section
open Go.RowKit
set_option linter.unusedVariables false
set_option linter.unusedSimpArgs false
set_option maxRecDepth 100000 in
set_option maxHeartbeats 4000000 in
theorem sameQ_any {n : Nat} {w : World} {u v : Value} {X Y : Rat} (hu : ArgQ w u X n) (hv : ArgQ w v Y n) (hn : n ≤ 16777000) :
    Calls Tryz.prog 69 #[u, v] w fun e w' => e = .returned (.bool (sgR (X - Y) == 0)) ∧ Below w.heap.size w w' := by
  obtain ⟨m1, xs, ds, a1, a2, c1, c2, rfl⟩ := hu.box
  obtain ⟨m2, zs, es, a3, a4, c3, c4, rfl⟩ := hv.box
  obtain ⟨W, hW⟩ : ∃ W, ((w.alloc (.cells #[.bool m1, .slice a1 xs.length c1, .slice a2 ds.length c2] 44)).alloc (.cells #[.bool m2, .slice a3 zs.length c3, .slice a4 es.length c4] 44)) = W := ⟨_, rfl⟩
  have R0 : Row W (w.heap.size) 44 #[.bool m1, .slice a1 xs.length c1, .slice a2 ds.length c2] := by rw [← hW]; exact ((Row.new _ _ _).alloc _)
  have R1 : Row W (w.heap.size + 1) 44 #[.bool m2, .slice a3 zs.length c3, .slice a4 es.length c4] := by rw [← hW]; have h := (Row.new (w.alloc (.cells #[.bool m1, .slice a1 xs.length c1, .slice a2 ds.length c2] 44)) 44 #[.bool m2, .slice a3 zs.length c3, .slice a4 es.length c4]); simp only [World.size_alloc] at h; exact h
  have hBW : Below w.heap.size w W := by rw [← hW]; exact (((Below.refl _ _).alloc (by (try simp) <;> omega) _).alloc (by (try simp) <;> omega) _)
  have hsW : w.heap.size + 1 + 1 ≤ W.heap.size := by rw [← hW]; simp
  have hc := cmpQ_any (hu.later hBW) (hv.later hBW) hn
  obtain ⟨s, hs⟩ : ∃ s, sgR (X - Y) = s := ⟨_, rfl⟩
  rw [hs] at hc ⊢
  clear hs
  obtain ⟨p0, p1, p2, _, _, _⟩ := R0.three
  obtain ⟨o0, o1, o2, _, _, _⟩ := R1.three
  go_enter Tryz.func69, Tryz.ntmps69
  go_wp2_with fail
  refine hc.mono ?_
  rintro e w1 ⟨rfl, hb1⟩
  clear hc hW p0 p1 p2 o0 o1 o2
  go_wp2_with fail
  go_ret
  exact ⟨rfl, hBW.trans (hb1.mono (by omega))⟩
set_option maxRecDepth 100000 in
set_option maxHeartbeats 4000000 in
theorem bitsQ_any {n k1 k2 : Nat} {w : World} {u : Value} {X : Rat} (hu : ArgQ w u X n) (hn : n ≤ 16777000) (h1 : IsBits (X.num.natAbs : Int) k1) (h2 : IsBits (X.den : Int) k2) :
    Calls Tryz.prog 70 #[u] w fun e w' => e = .returned (.int .i64 (max (k1 : Int) (k2 : Int))) ∧ Below w.heap.size w w' := by
  obtain ⟨m1, xs, ds, a1, a2, c1, c2, rfl⟩ := hu.box
  obtain ⟨W, hW⟩ : ∃ W, (w.alloc (.cells #[.bool m1, .slice a1 xs.length c1, .slice a2 ds.length c2] 44)) = W := ⟨_, rfl⟩
  have R0 : Row W (w.heap.size) 44 #[.bool m1, .slice a1 xs.length c1, .slice a2 ds.length c2] := by rw [← hW]; exact (Row.new _ _ _)
  have hBW : Below w.heap.size w W := by rw [← hW]; exact ((Below.refl _ _).alloc (by (try simp) <;> omega) _)
  have hsW : w.heap.size + 1 ≤ W.heap.size := by rw [← hW]; simp
  have hu' := hu.later hBW
  obtain ⟨p0, p1, p2, p3, p4, p5⟩ := R0.three
  go_enter Tryz.func70, Tryz.ntmps70
  go_wp2_with fail
  refine (norm_any hu' (by omega)).mono ?_
  rintro e w1 ⟨r1, rfl, q1, hb1⟩
  have hs1 := hb1.size
  obtain ⟨fs, gs, f1, f2, j1, j2, rfl, A, B, lf, lg⟩ := q1
  obtain ⟨m4, hm4⟩ : ∃ m, decide (X.num < 0) = m := ⟨_, rfl⟩
  rw [hm4]
  rw [← A.eq] at h1
  rw [← B.eq] at h2
  have A1 := A.at_.2
  have B1 := B.at_.2
  have P0 := R0.later hb1
  clear p0 p1 p2 p3 p4 p5 hW hm4 A B hu hu'
  obtain ⟨p0, p1, p2, p3, p4, p5⟩ := P0.three
  obtain ⟨V, hV⟩ : ∃ V, ((w1.setCell ⟨w.heap.size, 0, none⟩ (.bool m4)).setCell ⟨w.heap.size, 1, none⟩ (.slice f1 fs.length j1)).setCell ⟨w.heap.size, 2, none⟩ (.slice f2 gs.length j2) = V := ⟨_, rfl⟩
  have Q0 : Row V (w.heap.size) 44 #[.bool m4, .slice f1 fs.length j1, .slice f2 gs.length j2] := by rw [← hV]; exact P0.set3 _ _ _
  have hBV : Below w.heap.size w V := by rw [← hV]; exact below_set3 (hBW.trans (hb1.mono (by omega))) (by omega) _ _ _
  have hsV : w1.heap.size ≤ V.heap.size := by rw [← hV]; simp
  have AV : Arg V (.slice f1 fs.length j1) fs f1 j1 := by rw [← hV]; exact A1.far P0 (noInts3 _ _ _ _ _ _ _) (kept3 _ _ _)
  have BV : Arg V (.slice f2 gs.length j2) gs f2 j2 := by rw [← hV]; exact B1.far P0 (noInts3 _ _ _ _ _ _ _) (kept3 _ _ _)
  have mkS : ∀ X, Kept (w.heap.size + 1 + 1 + 1) V X → X.cell? ⟨w.heap.size, 0, none⟩ = some (.bool m4) ∧ X.cell? ⟨w.heap.size, 1, none⟩ = some (.slice f1 fs.length j1) ∧ X.cell? ⟨w.heap.size, 2, none⟩ = some (.slice f2 gs.length j2) ∧ Kept (w.heap.size + 1 + 1 + 1) V X := fun X h => ⟨(Q0.kept h (by omega)).cell 0, (Q0.kept h (by omega)).cell 1, (Q0.kept h (by omega)).cell 2, h⟩
  go_wp2_with fail
  (try rw [hV])
  clear hV p0 p1 p2 p3 p4 p5
  go_region_held3 (fun X => X.cell? ⟨w.heap.size, 0, none⟩ = some (.bool m4) ∧ X.cell? ⟨w.heap.size, 1, none⟩ = some (.slice f1 fs.length j1) ∧ X.cell? ⟨w.heap.size, 2, none⟩ = some (.slice f2 gs.length j2) ∧ Kept (w.heap.size + 1 + 1 + 1) V X)
    (((refine mkS _ ?_; (repeat' (first | exact Kept.refl _ _ | refine Kept.drew ?_ | refine Kept.alloc ?_ _ | refine Kept.set ?_ _ _ | refine Kept.below ?_ (by assumption))))))
    ((first
      | (go_at_call 107; (with_reducible refine (bits_res (BV.later (show Below V.heap.size V _ by (repeat' (first | exact Below.refl _ _ | refine Below.drew ?_ | refine Below.alloc ?_ (by (try simp) <;> omega) _ | refine below_set3 ?_ (by (try simp) <;> omega) _ _ _ | refine below_set2 ?_ (by (try simp) <;> omega) _ _ | refine Below.setCell ?_ (by (try simp) <;> omega) _ | refine Below.trans ?_ (Below.mono (by assumption) (by (try simp) <;> omega)))))) (by omega) h2).mono ?_); rintro e w' ⟨rfl, rfl⟩)
      | (go_at_call 107; (with_reducible refine (bits_res (AV.later (show Below V.heap.size V _ by (repeat' (first | exact Below.refl _ _ | refine Below.drew ?_ | refine Below.alloc ?_ (by (try simp) <;> omega) _ | refine below_set3 ?_ (by (try simp) <;> omega) _ _ _ | refine below_set2 ?_ (by (try simp) <;> omega) _ _ | refine Below.setCell ?_ (by (try simp) <;> omega) _ | refine Below.trans ?_ (Below.mono (by assumption) (by (try simp) <;> omega)))))) (by omega) h1).mono ?_); rintro e w' ⟨rfl, rfl⟩)))
  go_wp2_with fail
  go_ret
  exact ⟨rfl, by first | exact hBV | exact hBV.drew⟩
set_option maxRecDepth 100000 in
set_option maxHeartbeats 4000000 in
theorem eqS_any {w : World} {xs ys : List Int} {a b : Option Addr} {c d : Nat} (A : Arg w (.slice a xs.length c) xs a c) (B : Arg w (.slice b ys.length d) ys b d) (hx : xs.length ≤ 70368744177664) (hy : ys.length ≤ 70368744177664) :
    Calls Tryz.prog 83 #[.slice a xs.length c, .slice b ys.length d] w fun e w' => e = .returned (.bool (decide (xs = ys))) ∧ Below w.heap.size w w' := by
  by_cases hl : xs.length = ys.length
  case neg =>
    have hne : decide (xs = ys) = false := decide_eq_false (fun h => hl (by rw [h]))
    have hn1 : ((xs.length : Int) != (ys.length : Int)) = true := by simp; omega
    rw [hne]
    clear hl hne
    go_enter Tryz.func83, Tryz.ntmps83
    go_wp2_with fail
    go_ret
    exact ⟨rfl, Below.refl _ _⟩
  obtain ⟨m, hm⟩ : ∃ m, xs.length = m := ⟨_, rfl⟩
  have hm2 : ys.length = m := by omega
  have la := A.lim
  have lb := B.lim
  have hext : (∀ j, j < m → xs.getD j 0 = ys.getD j 0) → xs = ys := by
    intro h
    apply List.ext_getElem (by omega)
    intro i h1 h2
    have := h i (by omega)
    simpa [h1, h2] using this
  have HX := Lib.hid hext
  have hmm : ((m : Int) != (m : Int)) = false := by simp
  have HL1 := Lib.hid hm
  have HL2 := Lib.hid hm2
  rw [hm] at hx ⊢
  rw [hm2]
  clear hl hm hm2 hext A B hy
  go_enter Tryz.func83, Tryz.ntmps83
  go_wp2_with fail
  go_loopw [5, 13] (fun _ i wr => ∃ k : Nat, i = .int .i64 k ∧ k ≤ m ∧ (∀ j, j < k → xs.getD j 0 = ys.getD j 0) ∧ Below w.heap.size w wr) (fun _ i _ => m - (intOf i).toNat)
  case atStart => exact ⟨0, rfl, Nat.zero_le _, fun j hj => by omega, Below.refl _ _⟩
  case round =>
    obtain ⟨k, rfl, hk, hall, hb⟩ := hrel
    have HA := Lib.hid hall
    clear hall
    by_cases hlt : k < m
    · have HK := Lib.hid hlt
      obtain ⟨p, o, rfl, c1⟩ : ∃ p o, a = some ⟨p, o, none⟩ ∧ wr.cell? ⟨p, o + k, none⟩ = some (.int .u32 (xs.getD k 0)) := by
        rcases la.later hb with e | ⟨p, o, e, hc⟩
        · rw [e] at HL1; have := HL1.out; simp at this; omega
        · exact ⟨p, o, e, hc k (by rw [HL1.out]; exact hlt)⟩
      obtain ⟨p2, o2, rfl, c2⟩ : ∃ p o, b = some ⟨p, o, none⟩ ∧ wr.cell? ⟨p, o + k, none⟩ = some (.int .u32 (ys.getD k 0)) := by
        rcases lb.later hb with e | ⟨p, o, e, hc⟩
        · rw [e] at HL2; have := HL2.out; simp at this; omega
        · exact ⟨p, o, e, hc k (by rw [HL2.out]; exact hlt)⟩
      obtain ⟨x, hxk⟩ : ∃ x, xs.getD k 0 = x := ⟨_, rfl⟩
      obtain ⟨y, hyk⟩ : ∃ y, ys.getD k 0 = y := ⟨_, rfl⟩
      rw [hxk] at c1
      rw [hyk] at c2
      have HXK := Lib.hid hxk
      have HYK := Lib.hid hyk
      have hk0 : (0 : Int) ≤ (k : Int) := Int.natCast_nonneg _
      have hk1 : (k : Int) < (m : Int) := by omega
      clear hxk hyk la lb
      by_cases e : x = y
      · have hne : (x != y) = false := by simp [e]
        have fin : ∃ j : Nat, Value.int .i64 ((k : Int) + 1) = .int .i64 j ∧ j ≤ m ∧ (∀ i, i < j → xs.getD i 0 = ys.getD i 0) :=
          ⟨k + 1, by go_num, HK.out, fun i hi => by
            by_cases h : i = k
            · subst h; rw [HXK.out, HYK.out]; exact e
            · exact HA.out i (by omega)⟩
        have FIN := Lib.hid fin
        clear fin e
        go_wp2_with fail
        go_quiet (fail)
        go_wp2_with fail
        go_roundw
        case rel =>
          obtain ⟨j, h1, h2, h3⟩ := FIN.out
          exact ⟨j, h1, h2, h3, ⟨hb.os, hb.tape, hb.output, hb.size, hb.block⟩⟩
        case measure => have := HK.out; simp [intOf]; omega
      · have hne : (x != y) = true := by simp [e]
        have hd : decide (xs = ys) = false := decide_eq_false (fun h => e (by rw [← HXK.out, ← HYK.out, h]))
        have HD := Lib.hid hd
        clear e hd
        go_wp2_with fail
        go_quiet (fail)
        go_wp2_with fail
        go_ret
        exact ⟨by rw [HD.out]; rfl, ⟨hb.os, hb.tape, hb.output, hb.size, hb.block⟩⟩
    · obtain rfl : k = m := by omega
      have hd : decide (xs = ys) = true := decide_eq_true (HX.out HA.out)
      have HD := Lib.hid hd
      clear hd
      go_wp2_with fail
      go_ret
      exact ⟨by rw [HD.out]; rfl, hb⟩
/-- May's answer: is it valid? -/
def mayCode (b : Bool) : Int := if b = true then 0 else 6
theorem eq_isB {base : Nat} {w : World} {u : Value} {xs zs : List Int} {N : Int} (hx : Wf xs) (h : Res base w u zs N) : decide (xs = zs) = isB xs N := by
  unfold isB
  by_cases e : xs = zs
  · rw [decide_eq_true e, e]
    exact (decide_eq_true ⟨h.full, h.eq⟩).symm
  · rw [decide_eq_false e]
    exact (decide_eq_false (fun k => e (canon hx h.wf k.1 h.full (k.2.trans h.eq.symm)))).symm
set_option maxRecDepth 100000 in
set_option maxHeartbeats 4000000 in
theorem mayQ_any {n : Nat} {w : World} {m1 : Bool} {xs ds : List Int} {a1 a2 : Option Addr} {c1 c2 : Nat} (A : Arg w (.slice a1 xs.length c1) xs a1 c1) (B : Arg w (.slice a2 ds.length c2) ds a2 c2)
    (hx : xs.length ≤ n) (hd : ds.length ≤ n) (hn : n ≤ 16777000) :
    Calls Tryz.prog 47 #[.agg #[.bool m1, .slice a1 xs.length c1, .slice a2 ds.length c2]] w fun e w' => e = .returned (.int .i64 (mayCode (validB m1 xs ds (ratOf m1 (val xs) (val ds))))) ∧ Below w.heap.size w w' := by
  obtain ⟨X, hX⟩ : ∃ X, ratOf m1 (val xs) (val ds) = X := ⟨_, rfl⟩
  have hq : ArgQ w (.agg #[.bool m1, .slice a1 xs.length c1, .slice a2 ds.length c2]) X n := ⟨m1, xs, ds, a1, a2, c1, c2, rfl, A, B, hX, hx, hd⟩
  rw [hX]
  clear hX
  obtain ⟨vb, hvb⟩ : ∃ b, validB m1 xs ds X = b := ⟨_, rfl⟩
  rw [hvb]
  have HVB := Lib.hid hvb
  clear hvb
  obtain ⟨W, hW⟩ : ∃ W, (w.alloc (.cells #[.bool m1, .slice a1 xs.length c1, .slice a2 ds.length c2] 44)) = W := ⟨_, rfl⟩
  have R0 : Row W (w.heap.size) 44 #[.bool m1, .slice a1 xs.length c1, .slice a2 ds.length c2] := by rw [← hW]; exact (Row.new _ _ _)
  have hBW : Below w.heap.size w W := by rw [← hW]; exact ((Below.refl _ _).alloc (by (try simp) <;> omega) _)
  have hsW : w.heap.size + 1 ≤ W.heap.size := by rw [← hW]; simp
  obtain ⟨p0, p1, p2, _, _, _⟩ := R0.three
  have hq' := hq.later hBW
  have AW := A.later hBW
  have BW := B.later hBW
  go_enter Tryz.func47, Tryz.ntmps47
  go_wp2_with fail
  refine (norm_any hq' (by omega)).mono ?_
  rintro e w1 ⟨r1, rfl, h1, hb1⟩
  have hs1 := hb1.size
  obtain ⟨fs, gs, f1, f2, j1, j2, rfl, Rf, Rg, lf, lg⟩ := h1
  obtain ⟨m4, hm4⟩ : ∃ m, decide (X.num < 0) = m := ⟨_, rfl⟩
  have hv : vb = ((m1 == m4) && (decide (xs = fs) && decide (ds = gs))) := by rw [← HVB.out, eq_isB A.wf Rf, eq_isB B.wf Rg]; unfold validB; rw [hm4]
  rw [hm4]
  have HV0 := Lib.hid hv
  have Cf := Rf.at_.2
  have Cg := Rg.at_.2
  clear p0 p1 p2 hW hq hq' hv hm4 Rf Rg A B
  have Q0 := R0.later hb1
  obtain ⟨U, hU⟩ : ∃ U, w1.alloc (.cells #[.bool m4, .slice f1 fs.length j1, .slice f2 gs.length j2] 44) = U := ⟨_, rfl⟩
  have hBU : Below w1.heap.size w1 U := by rw [← hU]; exact (Below.refl _ _).alloc (Nat.le_refl _) _
  have R5 : Row U w1.heap.size 44 #[.bool m4, .slice f1 fs.length j1, .slice f2 gs.length j2] := by rw [← hU]; exact Row.new _ _ _
  have hsU : w1.heap.size + 1 ≤ U.heap.size := by rw [← hU]; simp
  have AU := (AW.later hb1).later hBU
  have BU := (BW.later hb1).later hBU
  have CfU := Cf.later hBU
  have CgU := Cg.later hBU
  have k1 := eqS_any AU CfU (by omega) (by omega)
  obtain ⟨b1, hb1'⟩ : ∃ b, decide (xs = fs) = b := ⟨_, rfl⟩
  obtain ⟨b2, hb2'⟩ : ∃ b, decide (ds = gs) = b := ⟨_, rfl⟩
  rw [hb1'] at k1
  have hv1 := HV0.out
  rw [hb1', hb2'] at hv1
  have HB2 := Lib.hid hb2'
  clear hb1' hb2' HV0
  obtain ⟨p0, p1, p2, _, _, _⟩ := Q0.three
  obtain ⟨q0, q1, q2, _, _, _⟩ := (Q0.later hBU).three
  obtain ⟨o0, o1, o2, _, _, _⟩ := R5.three
  have hB2 : Below w.heap.size w U := (hBW.trans (hb1.mono (by omega))).trans (hBU.mono (by omega))
  obtain ⟨b0, hb0⟩ : ∃ b, (m1 == m4) = b := ⟨_, rfl⟩
  rw [hb0] at hv1
  have hb1' : (m1 != m4) = !b0 := by rw [← hb0]; cases m1 <;> cases m4 <;> rfl
  have HV := Lib.hid hv1
  clear hv1
  cases b0 with
  | false =>
    have e0 : (m1 != m4) = true := hb1'
    clear hb1'
    go_wp2_with fail
    go_ret
    exact ⟨by rw [HV.out]; rfl, by first | exact hB2 | (rw [hU]; exact hB2)⟩
  | true =>
    have e0 : (m1 != m4) = false := hb1'
    clear hb1'
    cases b1 with
    | false =>
      go_wp2_with fail
      (try rw [hU])
      refine k1.mono ?_
      rintro e w2 ⟨rfl, hb2⟩
      clear k1
      go_wp2_with fail
      go_ret
      exact ⟨by rw [HV.out]; rfl, hB2.trans (hb2.mono (by omega))⟩
    | true =>
      go_wp2_with fail
      (try rw [hU])
      refine k1.mono ?_
      rintro e w2 ⟨rfl, hb2⟩
      have hs2 := hb2.size
      have k2 := eqS_any (BU.later hb2) (CgU.later hb2) (by omega) (by omega)
      rw [HB2.out] at k2
      clear k1 p0 p1 p2 q0 q1 q2 o0 o1 o2 hU
      obtain ⟨q0, q1, q2, _, _, _⟩ := ((Q0.later hBU).later hb2).three
      obtain ⟨o0, o1, o2, _, _, _⟩ := (R5.later hb2).three
      go_wp2_with fail
      refine k2.mono ?_
      rintro e w3 ⟨rfl, hb3⟩
      clear k2
      cases b2 with
      | true =>
        go_wp2_with fail
        go_ret
        exact ⟨by rw [HV.out]; rfl, (hB2.trans (hb2.mono (by omega))).trans (hb3.mono (by omega))⟩
      | false =>
        go_wp2_with fail
        go_ret
        exact ⟨by rw [HV.out]; rfl, (hB2.trans (hb2.mono (by omega))).trans (hb3.mono (by omega))⟩
end
section
open Go.RowKit Go.ChangeShapes Go.WideShapes Go.ChangeAt Go.Joins
set_option linter.unusedVariables false
set_option linter.unusedSimpArgs false
set_option maxRecDepth 100000
theorem cellsRat : Tryz.prog.cellsOf 44 = 3 := by kernel_rfl
end
section
open Go.RowKit Go.ChangeShapes Go.WideShapes Go.ChangeAt
set_option linter.unusedVariables false
set_option linter.unusedSimpArgs false
theorem afterAlloc {K : World → Prop} {V : World} {t : TypeId} {cs : Array Value} (h : ∀ X, Below V.heap.size V X → V.heap.size < X.heap.size → Row X V.heap.size t cs → K X) : K (V.alloc (.cells cs t)) :=
  h _ ((Below.refl _ _).alloc (Nat.le_refl _) _) (by simp) (Row.new _ _ _)
theorem afterSet3 {K : World → Prop} {V : World} {g : Nat} {t : TypeId} {a b c x y z : Value} (R : Row V g t #[a, b, c]) (h : ∀ X, Only g V X → Row X g t #[x, y, z] → K X) :
    K (((V.setCell ⟨g, 0, none⟩ x).setCell ⟨g, 1, none⟩ y).setCell ⟨g, 2, none⟩ z) :=
  h _ (((Only.set V g 0 x).trans (Only.set _ g 1 y)).trans (Only.set _ g 2 z)) (R.set3 x y z)
theorem Row.only {w w' : World} {g b : Nat} {t : TypeId} {cs : Array Value} (R : Row w g t cs) (h : Only b w w') (hb : g ≠ b) : Row w' g t cs := (h.block g hb).trans R
theorem ArgR.only {w w' : World} {v : Value} {x : Rat} {n g : Nat} {t : TypeId} {p : Bool} {ad bd : Option Addr} {l cap m cbp : Nat} (h : ArgR w v x n) (R : Row w g t #[.bool p, .slice ad l cap, .slice bd m cbp]) (k : Only g w w') : ArgR w' v x n :=
  h.far R (noInts3 _ _ _ _ _ _ _) k.block
theorem ArgQ.only {w w' : World} {v : Value} {x : Rat} {n g : Nat} {t : TypeId} {p : Bool} {ad bd : Option Addr} {l cap m cbp : Nat} (h : ArgQ w v x n) (R : Row w g t #[.bool p, .slice ad l cap, .slice bd m cbp]) (k : Only g w w') : ArgQ w' v x n :=
  h.far R (noInts3 _ _ _ _ _ _ _) k.block
theorem ResQ.only {base : Nat} {w w' : World} {v : Value} {x : Rat} {n g : Nat} {cs : Array Value} (h : ResQ base w v x n) (R : Row w g 44 cs) (k : Only g w w') : ResQ base w' v x n :=
  h.far R (by decide) k.block
end
section
open Go.RowKit
set_option linter.unusedVariables false
set_option linter.unusedSimpArgs false
/-- the numbers xs lie from the address ad on -/
def LimS (w : World) (ad : Option Addr) (xs : List Int) : Prop :=
  xs = [] ∨ ∃ b off, ad = some ⟨b, off, none⟩ ∧ ∀ i, i < xs.length → w.cell? ⟨b, off + i, none⟩ = some (.int .i64 (xs.getD i 0))
theorem LimS.nil (w : World) (ad : Option Addr) : LimS w ad [] := .inl rfl
theorem LimS.below {w w' : World} {ad : Option Addr} {xs : List Int} {B : Nat} (h : LimS w ad xs) (hb : Below B w w') (hB : ∀ a, ad = some a → a.block < B) : LimS w' ad xs := by
  rcases h with rfl | ⟨b, off, rfl, hc⟩
  · exact .inl rfl
  · exact .inr ⟨b, off, rfl, fun i hi => (hb.cell (p := ⟨b, off + i, none⟩) (hB ⟨b, off, none⟩ rfl)).trans (hc i hi)⟩
theorem LimS.later {w w' : World} {ad : Option Addr} {xs : List Int} (h : LimS w ad xs) (hb : Below w.heap.size w w') : LimS w' ad xs := by
  rcases h with rfl | ⟨b, off, rfl, hc⟩
  · exact .inl rfl
  · refine .inr ⟨b, off, rfl, fun i hi => ?_⟩
    have hlt := World.block_lt_of_cell? w _ (hc i hi)
    exact (hb.cell (p := ⟨b, off + i, none⟩) hlt).trans (hc i hi)
theorem LimS.take {w : World} {ad : Option Addr} {xs : List Int} (h : LimS w ad xs) (n : Nat) : LimS w ad (xs.take n) := by
  rcases h with rfl | ⟨b, off, rfl, hc⟩
  · exact .inl (by simp)
  · refine .inr ⟨b, off, rfl, fun i hi => ?_⟩
    rw [List.length_take] at hi
    rw [hc i (by omega)]
    simp [show i < n by omega]
theorem LimS.lt {w : World} {ad : Option Addr} {xs : List Int} (h : LimS w ad xs) (hn : xs ≠ []) : ∀ a, ad = some a → a.block < w.heap.size := by
  rcases h with rfl | ⟨b, off, rfl, hc⟩
  · exact absurd rfl hn
  · intro a ha
    cases ha
    exact World.block_lt_of_cell? w _ (hc 0 (List.length_pos_iff.2 hn))
/-- v is a slice of the call's own numbers xs -/
def NumS (base : Nat) (w : World) (v : Value) (xs : List Int) : Prop := w.ownsRow base 3 1 v xs.length (xs.map (Value.int .i64))
theorem NumS.read {base : Nat} {w : World} {v : Value} {xs : List Int} (h : NumS base w v xs) : ∃ ad cap, v = .slice ad xs.length cap ∧ LimS w ad xs ∧ xs.length ≤ cap ∧ cap ≤ maxLen ∧ (∀ a, ad = some a → base ≤ a.block ∧ a.block < w.heap.size) := by
  obtain ⟨h1, h2⟩ := h
  rcases h2 with ⟨rfl, hn⟩ | ⟨g, cap, cur, rfl, hb, hg, hc, hm, hs, ht⟩
  · obtain rfl := List.eq_nil_of_length_eq_zero hn
    exact ⟨none, 0, rfl, .inl rfl, Nat.le_refl _, by unfold maxLen; omega, fun a ha => by cases ha⟩
  · refine ⟨_, cap, rfl, .inr ⟨g, 0, rfl, fun i hi => ?_⟩, hc, hm, fun a ha => by cases ha; exact ⟨hb, lt_of_block hg⟩⟩
    have hj := World.ownsRow.cellAt (w := w) (base := base) (e := 3) (size := 1) (g := g) (n := xs.length) (cap := cap) (xs := xs.map (Value.int .i64)) ⟨h1, .inr ⟨g, cap, cur, rfl, hb, hg, hc, hm, hs, ht⟩⟩ i (by omega)
    rw [Nat.zero_add, hj]
    simp [hi]
theorem NumS.lt {base : Nat} {w : World} {v : Value} {xs : List Int} (h : NumS base w v xs) : ∀ k, v.ownBlock = some k → base ≤ k ∧ k < w.heap.size := World.ownsRow.lt h
theorem NumS.kept {base B : Nat} {w w' : World} {v : Value} {xs : List Int} (h : NumS base w v xs) (hb : Below B w w') (hB : ∀ k, v.ownBlock = some k → k < B) : NumS base w' v xs := by
  obtain ⟨h1, h2⟩ := h
  refine ⟨h1, ?_⟩
  rcases h2 with h2 | ⟨g, cap, cur, rfl, hg0, hg, hc, hm, hs, ht⟩
  · exact .inl h2
  · exact .inr ⟨g, cap, cur, rfl, hg0, (hb.block g (hB g rfl)).trans hg, hc, hm, hs, ht⟩
theorem NumS.later {base : Nat} {w w' : World} {v : Value} {xs : List Int} (h : NumS base w v xs) (hb : Below w.heap.size w w') : NumS base w' v xs := h.kept hb fun k hk => (h.lt k hk).2
theorem NumS.mono {base base' : Nat} {w : World} {v : Value} {xs : List Int} (h : NumS base w v xs) (hb : base' ≤ base) : NumS base' w v xs := by
  obtain ⟨h1, h2⟩ := h
  refine ⟨h1, ?_⟩
  rcases h2 with h2 | ⟨g, cap, cur, rfl, hg0, hg, hc, hm, hs, ht⟩
  · exact .inl h2
  · exact .inr ⟨g, cap, cur, rfl, Nat.le_trans hb hg0, hg, hc, hm, hs, ht⟩
/-- a block of numbers, known whole -/
def BlkS (w : World) (g : Nat) (zs : List Int) : Prop := w.heap[g]? = some (.cells (zs.map (Value.int .i64)).toArray 3 (0, 0))
theorem BlkS.cell {w : World} {g : Nat} {zs : List Int} (h : BlkS w g zs) (i : Nat) (hi : i < zs.length) : w.cell? ⟨g, i, none⟩ = some (.int .i64 (zs.getD i 0)) := by
  have e : w.cell? ⟨g, i, none⟩ = ((zs.map (Value.int .i64)).toArray)[i]? := cell_of_row w g i _ 3 (0, 0) h
  rw [e]; simp [hi]
theorem BlkS.free {w : World} {g : Nat} {zs : List Int} (h : BlkS w g zs) (i : Nat) : w.frozen? ⟨g, i, none⟩ = false := by
  exact frozen_of_row w g i _ 3 h
theorem BlkS.lt {w : World} {g : Nat} {zs : List Int} (h : BlkS w g zs) : g < w.heap.size := lt_of_block h
theorem BlkS.same {w w' : World} {g : Nat} {zs : List Int} (h : BlkS w g zs) (e : w'.heap[g]? = w.heap[g]?) : BlkS w' g zs := e.trans h
theorem BlkS.alloc {w : World} {g : Nat} {zs : List Int} (h : BlkS w g zs) (o : Obj) : BlkS (w.alloc o) g zs := h.same (Below.heap_alloc _ _ _ h.lt)
theorem BlkS.only {w w' : World} {g b : Nat} {zs : List Int} (h : BlkS w g zs) (k : Only b w w') (hb : g ≠ b) : BlkS w' g zs := h.same (k.block g hb)
theorem BlkS.below {w w' : World} {g B : Nat} {zs : List Int} (h : BlkS w g zs) (k : Below B w w') (hb : g < B) : BlkS w' g zs := h.same (k.block g hb)
theorem BlkS.set {w : World} {g : Nat} {zs : List Int} (h : BlkS w g zs) (i : Nat) (x : Int) : BlkS (w.setCell ⟨g, i, none⟩ (.int .i64 x)) g (zs.set i x) := by
  have hh := heap_setCell_same w g i _ 3 (.int .i64 x) h
  unfold BlkS
  rw [hh]
  congr 2
  simp [List.map_set]
theorem BlkS.made (w : World) (n : Nat) : BlkS (w.alloc (.cells (madeCells #[.int .i64 0] n) 3)) w.heap.size (List.replicate n 0) := by
  have h := heap_alloc_new w (.cells (madeCells #[.int .i64 0] n) 3)
  unfold BlkS
  rw [h]
  congr 2
  apply Array.ext
  · simp [madeCells]
  · intro i h1 h2
    simp [madeCells, Nat.mod_one]
theorem NumS.ofBlk {base g : Nat} {w : World} {zs : List Int} (h : BlkS w g zs) (hb : base ≤ g) (n : Nat) (hn : n ≤ zs.length) (hm : zs.length ≤ maxLen) : NumS base w (.slice (some ⟨g, 0, none⟩) n zs.length) (zs.take n) := by
  have e : (zs.take n).length = n := by rw [List.length_take]; omega
  unfold NumS
  rw [e]
  refine ⟨by rw [List.length_map, e, Nat.mul_one], .inr ⟨g, zs.length, _, rfl, hb, h, hn, hm, by simp, ?_⟩⟩
  simp [List.map_take]
theorem BlkS.grown {w w' : World} {g : Nat} {row : Option Nat} {zs : List Int} (h : BlkS w g zs) (k : w.grownBy w' row) (hb : some g ≠ row) : BlkS w' g zs := h.same (k.block g h.lt hb)
/-- all are of 64 bits -/
def Wid (xs : List Int) : Prop := ∀ x ∈ xs, -9223372036854775808 ≤ x ∧ x ≤ 9223372036854775807
theorem Wid.nil : Wid [] := fun _ h => by cases h
theorem Wid.append {xs ys : List Int} (h : Wid xs) (k : Wid ys) : Wid (xs ++ ys) := fun x hx => (List.mem_append.1 hx).elim (h x) (k x)
theorem Wid.one {x : Int} (h : -9223372036854775808 ≤ x ∧ x ≤ 9223372036854775807) : Wid [x] := fun y hy => by rw [List.mem_singleton.1 hy]; exact h
theorem Wid.take {xs : List Int} (h : Wid xs) (n : Nat) : Wid (xs.take n) := fun x hx => h x (List.mem_of_mem_take hx)
theorem Wid.drop {xs : List Int} (h : Wid xs) (n : Nat) : Wid (xs.drop n) := fun x hx => h x (List.mem_of_mem_drop hx)
theorem Wid.getD {xs : List Int} (h : Wid xs) (i : Nat) : -9223372036854775808 ≤ xs.getD i 0 ∧ xs.getD i 0 ≤ 9223372036854775807 := by
  by_cases hi : i < xs.length
  · rw [List.getD_eq_getElem?_getD, List.getElem?_eq_getElem hi]; exact h _ (List.getElem_mem hi)
  · simp [List.getElem?_eq_none (Nat.le_of_not_lt hi)]
/-- an argument: numbers -/
structure ArgS (w : World) (u : Value) (xs : List Int) (ad : Option Addr) (cap : Nat) : Prop where
  is : u = .slice ad xs.length cap
  lim : LimS w ad xs
  le : xs.length ≤ cap
  wf : Wid xs
theorem ArgS.later {w w' : World} {u : Value} {xs : List Int} {ad : Option Addr} {cap : Nat} (h : ArgS w u xs ad cap) (hb : Below w.heap.size w w') : ArgS w' u xs ad cap := ⟨h.is, h.lim.later hb, h.le, h.wf⟩
/-- a result: numbers in new memory -/
structure ResS (base : Nat) (w : World) (u : Value) (xs : List Int) : Prop where
  num : NumS base w u xs
  wf : Wid xs
theorem ResS.later {base : Nat} {w w' : World} {u : Value} {xs : List Int} (h : ResS base w u xs) (hb : Below w.heap.size w w') : ResS base w' u xs := ⟨h.num.later hb, h.wf⟩
theorem ResS.arg {base : Nat} {w : World} {u : Value} {xs : List Int} (h : ResS base w u xs) : ∃ ad cap, ArgS w u xs ad cap := by
  obtain ⟨ad, cap, h1, h2, h3, _, _⟩ := h.num.read
  exact ⟨ad, cap, h1, h2, h3, h.wf⟩
theorem infoS : (Tryz.prog.info? 3).map (fun i => (i.zero, i.size, i.bytes)) = some (some (.int .i64 0), 1, 8) := by kernel_rfl
theorem ArgS.at {w : World} {u : Value} {xs : List Int} {ad : Option Addr} {cap : Nat} (h : ArgS w u xs ad cap) {i : Nat} (hi : i < xs.length) :
    ∃ b off, ad = some ⟨b, off, none⟩ ∧ w.cell? ⟨b, off + i, none⟩ = some (.int .i64 (xs.getD i 0)) := by
  rcases h.lim with rfl | ⟨b, off, e, hc⟩
  · simp at hi
  · exact ⟨b, off, e, hc i hi⟩
theorem ResS.nil (base : Nat) (w : World) : ResS base w (.slice none 0 0) [] := ⟨⟨rfl, .inl ⟨rfl, rfl⟩⟩, Wid.nil⟩
theorem ResS.mono {base base' : Nat} {w : World} {u : Value} {xs : List Int} (h : ResS base w u xs) (hb : base' ≤ base) : ResS base' w u xs := ⟨h.num.mono hb, h.wf⟩
theorem ResS.slice {base : Nat} {w : World} {u : Value} {xs : List Int} (h : ResS base w u xs) : ∃ ad cap, u = .slice ad xs.length cap ∧ ResS base w (.slice ad xs.length cap) xs ∧ ArgS w (.slice ad xs.length cap) xs ad cap ∧ (ad = none → cap = 0) := by
  obtain ⟨ad, cap, h1, h2, h3, h4, _⟩ := h.num.read
  subst h1
  refine ⟨ad, cap, rfl, h, ⟨rfl, h2, h3, h.wf⟩, fun hn => ?_⟩
  subst hn
  obtain ⟨_, h5⟩ := h.num
  rcases h5 with ⟨e, _⟩ | ⟨g, c, cur, e, _⟩
  · simp only [Value.slice.injEq] at e; exact e.2.2
  · simp at e
theorem cells_argS {w : World} {ys : List Int} {ad : Addr} {cap : Nat} (lx : LimS w (some ad) ys) : ∀ j u, (ys.map (Value.int .i64))[j]? = some u → w.cell? (ad.add j) = some u := by
  intro j u hj
  rcases lx with rfl | ⟨b, off, e, hc⟩
  · simp at hj
  · cases e
    rw [List.getElem?_map] at hj
    have hjl : j < ys.length := by
      rcases Nat.lt_or_ge j ys.length with h | h
      · exact h
      · rw [List.getElem?_eq_none h] at hj; cases hj
    rw [show (⟨b, off, none⟩ : Addr).add j = ⟨b, off + j, none⟩ from (by unfold Addr.add; split <;> simp_all), hc j hjl, ← hj]
    simp [hjl]
/-- a literal -/
theorem ArgS.lit (w : World) (xs : List Int) (h : Wid xs) : ArgS (w.alloc (.cells (xs.map (Value.int .i64)).toArray 3)) (.slice (some ⟨w.heap.size, 0, none⟩) xs.length xs.length) xs (some ⟨w.heap.size, 0, none⟩) xs.length := by
  refine ⟨rfl, .inr ⟨w.heap.size, 0, rfl, fun i hi => ?_⟩, Nat.le_refl _, h⟩
  have e : (w.alloc (.cells (xs.map (Value.int .i64)).toArray 3)).cell? ⟨w.heap.size, i, none⟩ = ((xs.map (Value.int .i64)).toArray)[i]? := cell_of_row _ _ i _ 3 (0, 0) (heap_alloc_new w _)
  rw [Nat.zero_add, e]
  simp [hi]
end
section
set_option linter.unusedVariables false
set_option linter.unusedSimpArgs false
/-- the product -/
def prodS : List Int → Int
  | [] => 1
  | d :: ds => d * prodS ds
/-- all are at least 1 -/
def posS (s : List Int) : Prop := ∀ x ∈ s, 1 ≤ x
theorem posS.tail {d : Int} {ds : List Int} (h : posS (d :: ds)) : posS ds := fun x hx => h x (List.mem_cons_of_mem _ hx)
theorem posS.head {d : Int} {ds : List Int} (h : posS (d :: ds)) : 1 ≤ d := h d (List.mem_cons_self ..)
theorem posS.drop {s : List Int} (h : posS s) (n : Nat) : posS (s.drop n) := fun x hx => h x (List.mem_of_mem_drop hx)
theorem posS.take {s : List Int} (h : posS s) (n : Nat) : posS (s.take n) := fun x hx => h x (List.mem_of_mem_take hx)
theorem posS.getD {s : List Int} (h : posS s) {i : Nat} (hi : i < s.length) : 1 ≤ s.getD i 0 := by
  rw [List.getD_eq_getElem?_getD, List.getElem?_eq_getElem hi]; exact h _ (List.getElem_mem hi)
theorem prodS_pos {s : List Int} (h : posS s) : 1 ≤ prodS s := by
  induction s with
  | nil => exact Int.le_refl _
  | cons d ds ih =>
    have h1 := h.head
    have h2 := ih h.tail
    have h3 := Int.mul_le_mul h1 h2 (by omega) (by omega)
    unfold prodS
    omega
theorem prodS_append (a b : List Int) : prodS (a ++ b) = prodS a * prodS b := by
  induction a with
  | nil => simp [prodS]
  | cons x xs ih => rw [List.cons_append]; simp only [prodS]; rw [ih, Int.mul_assoc]
theorem prodS_take {s : List Int} {k : Nat} (hk : k < s.length) : prodS (s.take (k + 1)) = prodS (s.take k) * s.getD k 0 := by
  rw [List.take_add_one, List.getElem?_eq_getElem hk, prodS_append, Option.toList_some]
  simp [prodS, List.getD_eq_getElem?_getD, List.getElem?_eq_getElem hk]
theorem prodS_split (s : List Int) (k : Nat) : prodS s = prodS (s.take k) * prodS (s.drop k) := by rw [← prodS_append, List.take_append_drop]
theorem prodS_take_le {s : List Int} (h : posS s) (k : Nat) : prodS (s.take k) ≤ prodS s := by
  have h1 := prodS_pos (h.take k)
  have h2 := prodS_pos (h.drop k)
  rw [prodS_split s k]
  have := Int.mul_le_mul_of_nonneg_left h2 (show 0 ≤ prodS (s.take k) by omega)
  omega
theorem getD_le_prod {s : List Int} (h : posS s) {k : Nat} (hk : k < s.length) : s.getD k 0 ≤ prodS s := by
  have h1 := prodS_pos (h.take k)
  have h2 := prodS_take_le h (k + 1)
  have h3 := h.getD hk
  rw [prodS_take hk] at h2
  have := Int.mul_le_mul_of_nonneg_right h1 (show 0 ≤ s.getD k 0 by omega)
  omega
/-- why a shape may not be: 0, or an error -/
def mayC (s : List Int) : Int := if 4 < s.length then 14 else if s.any (fun x => decide (x < 1)) = true then 13 else if 1024 < prodS s then 14 else 0
theorem any_pos (s : List Int) : s.any (fun x => decide (x < 1)) = true ↔ ¬ posS s := by
  rw [List.any_eq_true]
  unfold posS
  constructor
  · intro ⟨x, hx, h⟩ hp
    have := hp x hx
    simp at h
    omega
  · intro h
    apply Classical.byContradiction
    intro hn
    apply h
    intro x hx
    rcases Int.lt_or_le x 1 with g | g
    · exact absurd ⟨x, hx, by simpa using g⟩ hn
    · exact g
structure OkS (s : List Int) : Prop where
  rank : s.length ≤ 4
  pos : posS s
  few : prodS s ≤ 1024
theorem mayC_zero {s : List Int} : mayC s = 0 ↔ OkS s := by
  unfold mayC
  constructor
  · intro h
    split at h
    · cases h
    · split at h
      · cases h
      · next h1 h2 =>
        split at h
        · cases h
        · rw [any_pos, Classical.not_not] at h2
          exact ⟨by omega, h2, by omega⟩
  · intro h
    rw [if_neg (by have := h.rank; omega), if_neg (by rw [any_pos, Classical.not_not]; exact h.pos), if_neg (by have := h.few; omega)]
theorem mayC_ok {s : List Int} (h : OkS s) : mayC s = 0 := mayC_zero.2 h
theorem mayC_rank {s : List Int} (h : 4 < s.length) : mayC s = 14 := by unfold mayC; rw [if_pos h]
theorem mayC_dim {s : List Int} (h : s.length ≤ 4) (h2 : ¬ posS s) : mayC s = 13 := by unfold mayC; rw [if_neg (by omega), if_pos ((any_pos s).2 h2)]
theorem mayC_count {s : List Int} (h : s.length ≤ 4) (h2 : posS s) (h3 : 1024 < prodS s) : mayC s = 14 := by unfold mayC; rw [if_neg (by omega), if_neg (by rw [any_pos, Classical.not_not]; exact h2), if_pos h3]
theorem OkS.nil : OkS [] := ⟨by simp, (fun x h => by cases h), by simp [prodS]⟩
/-- how many elements -/
def countS (s : List Int) : Int := if mayC s = 0 then prodS s else 0
theorem OkS.count {s : List Int} (h : OkS s) : countS s = prodS s := by unfold countS; rw [if_pos (mayC_ok h)]
theorem count_bad {s : List Int} (h : mayC s ≠ 0) : countS s = 0 := by unfold countS; rw [if_neg h]
/-- the index of a place -/
def idxS : List Int → Int → List Int
  | [], _ => []
  | _ :: ds, n => n / prodS ds :: idxS ds (n % prodS ds)
/-- the place of an index -/
def placeS : List Int → List Int → Int
  | _ :: ds, x :: xs => x * prodS ds + placeS ds xs
  | _, _ => 0
/-- is it an index? -/
def inS : List Int → List Int → Prop
  | [], [] => True
  | d :: ds, x :: xs => (0 ≤ x ∧ x < d) ∧ inS ds xs
  | _, _ => False
instance inS.dec : (s xs : List Int) → Decidable (inS s xs)
  | [], [] => .isTrue trivial
  | d :: ds, x :: xs => by unfold inS; exact @instDecidableAnd _ _ _ (inS.dec ds xs)
  | [], _ :: _ => .isFalse id
  | _ :: _, [] => .isFalse id
theorem inS_length {s xs : List Int} (h : inS s xs) : xs.length = s.length := by
  induction s generalizing xs with
  | nil => cases xs with
    | nil => rfl
    | cons => exact h.elim
  | cons d ds ih => cases xs with
    | nil => exact h.elim
    | cons x xs => simp only [List.length_cons]; rw [ih h.2]
theorem inS_at {s xs : List Int} (h : inS s xs) {i : Nat} (hi : i < s.length) : 0 ≤ xs.getD i 0 ∧ xs.getD i 0 < s.getD i 0 := by
  induction s generalizing xs i with
  | nil => simp at hi
  | cons d ds ih => cases xs with
    | nil => exact h.elim
    | cons x xs => cases i with
      | zero => simpa using h.1
      | succ i => simpa using ih h.2 (i := i) (by simpa using hi)
theorem place_range {s xs : List Int} (h : inS s xs) : 0 ≤ placeS s xs ∧ placeS s xs < prodS s := by
  induction s generalizing xs with
  | nil => cases xs with
    | nil => simp [placeS, prodS]
    | cons => exact h.elim
  | cons d ds ih => cases xs with
    | nil => exact h.elim
    | cons x xs =>
      obtain ⟨⟨h0, h1⟩, h2⟩ := h
      obtain ⟨h3, h4⟩ := ih h2
      simp only [placeS, prodS]
      have e1 := Int.mul_nonneg h0 (show 0 ≤ prodS ds by omega)
      have e2 := Int.mul_le_mul_of_nonneg_right (show x + 1 ≤ d by omega) (show 0 ≤ prodS ds by omega)
      rw [Int.add_mul, Int.one_mul] at e2
      omega
theorem idx_place {s xs : List Int} (h : inS s xs) : idxS s (placeS s xs) = xs := by
  induction s generalizing xs with
  | nil => cases xs with
    | nil => rfl
    | cons => exact h.elim
  | cons d ds ih => cases xs with
    | nil => exact h.elim
    | cons x xs =>
      obtain ⟨_, h2⟩ := h
      obtain ⟨h3, h4⟩ := place_range h2
      simp only [placeS, idxS]
      have e1 : (x * prodS ds + placeS ds xs) / prodS ds = x := by
        rw [Int.add_comm, Int.add_mul_ediv_right _ _ (by omega), Int.ediv_eq_zero_of_lt h3 h4]; omega
      have e2 : (x * prodS ds + placeS ds xs) % prodS ds = placeS ds xs := by
        rw [Int.add_comm, Int.add_mul_emod_self_right, Int.emod_eq_of_lt h3 h4]
      rw [e1, e2, ih h2]
theorem idx_length (s : List Int) (n : Int) : (idxS s n).length = s.length := by
  induction s generalizing n with
  | nil => rfl
  | cons d ds ih => simp [idxS, ih]
theorem place_idx {s : List Int} (hp : posS s) {n : Int} (h0 : 0 ≤ n) (h1 : n < prodS s) : inS s (idxS s n) ∧ placeS s (idxS s n) = n := by
  induction s generalizing n with
  | nil => simp only [prodS] at h1; exact ⟨trivial, by simp [placeS]; omega⟩
  | cons d ds ih =>
    have hP := prodS_pos hp.tail
    simp only [prodS] at h1
    have m0 := Int.emod_nonneg n (show prodS ds ≠ 0 by omega)
    have m1 := Int.emod_lt_of_pos n (show 0 < prodS ds by omega)
    obtain ⟨i1, i2⟩ := ih hp.tail m0 m1
    simp only [idxS, placeS, inS]
    refine ⟨⟨⟨Int.ediv_nonneg h0 (by omega), Int.ediv_lt_of_lt_mul (by omega) h1⟩, i1⟩, ?_⟩
    rw [i2, Int.mul_comm]
    exact Int.mul_ediv_add_emod n (prodS ds)
theorem idx_zero {s : List Int} : idxS s 0 = List.replicate s.length 0 := by
  induction s with
  | nil => rfl
  | cons d ds ih => simp [idxS, ih, List.replicate_succ]
/-- the next index -/
def nextS : List Int → List Int → Option (List Int)
  | d :: ds, x :: xs => match nextS ds xs with
    | some ys => some (x :: ys)
    | none => if x + 1 < d then some ((x + 1) :: List.replicate ds.length 0) else none
  | _, _ => none
theorem next_idx {s xs : List Int} (h : inS s xs) : (placeS s xs + 1 < prodS s → nextS s xs = some (idxS s (placeS s xs + 1))) ∧ (¬ placeS s xs + 1 < prodS s → nextS s xs = none) := by
  induction s generalizing xs with
  | nil => cases xs with
    | nil => exact ⟨fun h => by simp [placeS, prodS] at h, fun _ => rfl⟩
    | cons => exact h.elim
  | cons d ds ih => cases xs with
    | nil => exact h.elim
    | cons x xs =>
      obtain ⟨⟨h0, h1⟩, h2⟩ := h
      obtain ⟨h3, h4⟩ := place_range h2
      obtain ⟨hi1, hi2⟩ := ih h2
      obtain ⟨P, hP⟩ : ∃ P, prodS ds = P := ⟨_, rfl⟩
      obtain ⟨r, hr0⟩ : ∃ r, placeS ds xs = r := ⟨_, rfl⟩
      have ep : placeS (d :: ds) (x :: xs) = x * P + r := by simp only [placeS, hP, hr0]
      have eP : prodS (d :: ds) = d * P := by simp only [prodS, hP]
      have ei : ∀ n, idxS (d :: ds) n = n / P :: idxS ds (n % P) := fun n => by simp only [idxS, hP]
      have en : nextS (d :: ds) (x :: xs) = match nextS ds xs with
        | some ys => some (x :: ys)
        | none => if x + 1 < d then some ((x + 1) :: List.replicate ds.length 0) else none := rfl
      rw [ep, eP, ei, en]
      rw [hP, hr0] at hi1 hi2
      rw [hr0, hP] at h4
      rw [hr0] at h3
      by_cases hr : r + 1 < P
      · rw [hi1 hr]
        have e2 := Int.mul_le_mul_of_nonneg_right (show x + 1 ≤ d by omega) (show 0 ≤ P by omega)
        rw [Int.add_mul, Int.one_mul] at e2
        have e3 : (x * P + r + 1) / P = x := by
          rw [Int.add_assoc, Int.add_comm, Int.add_mul_ediv_right _ _ (by omega), Int.ediv_eq_zero_of_lt (by omega) hr]; omega
        have e4 : (x * P + r + 1) % P = r + 1 := by
          rw [Int.add_assoc, Int.add_comm, Int.add_mul_emod_self_right, Int.emod_eq_of_lt (by omega) hr]
        rw [e3, e4]
        exact ⟨fun _ => rfl, fun h => absurd (by omega) h⟩
      · rw [hi2 hr]
        have e5 : x * P + r + 1 = (x + 1) * P := by rw [Int.add_mul, Int.one_mul]; omega
        rw [e5, Int.mul_ediv_cancel _ (by omega), Int.mul_emod_left, idx_zero]
        by_cases hd : x + 1 < d
        · have := Int.mul_lt_mul_of_pos_right hd (show 0 < P by omega)
          simp only [if_pos hd]
          exact ⟨fun _ => by first | rfl | trivial, fun h => absurd this h⟩
        · obtain rfl : d = x + 1 := by omega
          simp only [if_neg hd]
          exact ⟨fun h => absurd h (Int.lt_irrefl _), fun _ => by first | rfl | trivial⟩
/-- one dimension more -/
theorem next_drop {s xs : List Int} (hl : xs.length = s.length) {i : Nat} (hi : i < s.length) (h : nextS (s.drop (i + 1)) (xs.drop (i + 1)) = none) :
    nextS (s.drop i) (xs.drop i) = if xs.getD i 0 + 1 < s.getD i 0 then some ((xs.getD i 0 + 1) :: List.replicate (s.length - (i + 1)) 0) else none := by
  rw [List.drop_eq_getElem_cons hi, List.drop_eq_getElem_cons (show i < xs.length by omega)]
  simp only [nextS, h]
  simp [List.getD_eq_getElem?_getD, List.getElem?_eq_getElem hi, List.getElem?_eq_getElem (show i < xs.length by omega)]
theorem next_some {s xs ys : List Int} (hl : xs.length = s.length) {i : Nat} (hi : i ≤ s.length) (h : nextS (s.drop i) (xs.drop i) = some ys) : nextS s xs = some (xs.take i ++ ys) := by
  induction i generalizing ys with
  | zero => simpa using h
  | succ i ih =>
    have h2 : nextS (s.drop i) (xs.drop i) = some (xs.getD i 0 :: ys) := by
      rw [List.drop_eq_getElem_cons (show i < s.length by omega), List.drop_eq_getElem_cons (show i < xs.length by omega)]
      simp only [nextS, h]
      simp [List.getD_eq_getElem?_getD, List.getElem?_eq_getElem (show i < xs.length by omega)]
    have e : xs.getD i 0 = xs[i] := by simp [List.getD_eq_getElem?_getD, List.getElem?_eq_getElem (show i < xs.length by omega)]
    rw [ih (by omega) h2, List.take_add_one, List.getElem?_eq_getElem (show i < xs.length by omega), e, Option.toList_some, List.append_assoc, List.singleton_append]
end
section
open Go.RowKit
set_option linter.unusedVariables false
set_option linter.unusedSimpArgs false
set_option maxRecDepth 100000 in
set_option maxHeartbeats 2000000 in
theorem mayR6_any {u : Value} {xs : List Int} {ad : Option Addr} {cap : Nat} {w : World} (A : ArgS w u xs ad cap) :
    Calls Tryz.prog 16 #[u] w fun e w' => e = .returned (.int .i64 (mayC xs)) ∧ w = w' := by
  have HA := Lib.hid A
  obtain rfl := A.is
  obtain ⟨L, hL⟩ : ∃ L, xs.length = L := ⟨_, rfl⟩
  have HL := Lib.hid hL
  obtain ⟨c, hc⟩ : ∃ c, mayC xs = c := ⟨_, rfl⟩
  have HC := Lib.hid hc
  rw [hL, hc]
  clear A hL hc
  by_cases h4 : 4 < L
  · obtain rfl : c = 14 := by rw [← HC.out]; exact mayC_rank (by rw [HL.out]; exact h4)
    have h4I : (4 : Int) < (L : Int) := by omega
    go_enter Tryz.func16, Tryz.ntmps16
    go_wp2
    go_ret
    exact ⟨rfl, rfl⟩
  · have h4I : ¬ (4 : Int) < (L : Int) := by omega
    go_enter Tryz.func16, Tryz.ntmps16
    go_wp2
    go_loop [3] (fun i => ∃ k : Nat, i = .int .i64 (k : Int) ∧ k ≤ L ∧ posS (xs.take k)) (fun i => L - (intOf i).toNat)
    case atStart => exact ⟨0, rfl, Nat.zero_le _, fun x h => by simp at h⟩
    case round =>
      obtain ⟨k, rfl, hkL, hp⟩ := hrel
      have HP := Lib.hid hp
      clear hp
      by_cases hlt : k < L
      · obtain ⟨b, off, rfl, hc⟩ := HA.out.at (i := k) (by rw [HL.out]; exact hlt)
        have hx : xs[k]? = some (xs.getD k 0) := by rw [List.getD_eq_getElem?_getD, List.getElem?_eq_getElem (by rw [HL.out]; exact hlt)]; rfl
        obtain ⟨x, hxe⟩ : ∃ x, xs.getD k 0 = x := ⟨_, rfl⟩
        rw [hxe] at hc hx
        have HX := Lib.hid hx
        have hltI : (k : Int) < (L : Int) := by omega
        clear hxe hx
        by_cases h1 : x < 1
        · obtain rfl : c = 13 := by
            rw [← HC.out]
            refine mayC_dim (by rw [HL.out]; omega) fun hp => ?_
            have := hp x (List.mem_of_getElem? HX.out)
            omega
          go_wp2
          go_ret
          exact ⟨rfl, rfl⟩
        · go_wp2
          go_round
          case rel =>
            refine ⟨k + 1, by go_num, by omega, fun y hy => ?_⟩
            rw [List.take_add_one, HX.out, Option.toList_some] at hy
            rcases List.mem_append.1 hy with h | h
            · exact HP.out y h
            · rw [List.mem_singleton.1 h]; omega
          case measure => simp [intOf]; omega
      · obtain rfl : k = L := by omega
        have hpos : posS xs := by
          have := HP.out
          rwa [List.take_of_length_le (by rw [HL.out]; exact Nat.le_refl _)] at this
        have hltI : ¬ (k : Int) < (k : Int) := by omega
        have HQ := Lib.hid hpos
        clear hpos
        go_wp2
        go_loop [4, 5] (fun n i => ∃ j : Nat, i = .int .i64 (j : Int) ∧ j ≤ k ∧ n = .int .i64 (prodS (xs.take j)) ∧ prodS (xs.take j) ≤ 1024) (fun _ i => k - (intOf i).toNat)
        case atStart => exact ⟨0, rfl, Nat.zero_le _, rfl, by simp [prodS]⟩
        case round =>
          obtain ⟨j, rfl, hjk, rfl, hn⟩ := hrel
          have hn1 := prodS_pos (HQ.out.take j)
          obtain ⟨n, hne⟩ : ∃ n, prodS (xs.take j) = n := ⟨_, rfl⟩
          rw [hne] at hn hn1 ⊢
          by_cases hjl : j < k
          · obtain ⟨b, off, rfl, hc⟩ := HA.out.at (i := j) (by rw [HL.out]; exact hjl)
            have hx1 := HQ.out.getD (i := j) (by rw [HL.out]; exact hjl)
            have hst := prodS_take (s := xs) (k := j) (by rw [HL.out]; exact hjl)
            have hle := getD_le_prod HQ.out (k := j) (by rw [HL.out]; exact hjl)
            have hle2 := prodS_take_le HQ.out (j + 1)
            obtain ⟨x, hxe⟩ : ∃ x, xs.getD j 0 = x := ⟨_, rfl⟩
            rw [hxe] at hc hx1 hst hle
            rw [hne] at hst
            rw [hst] at hle2
            have HST := Lib.hid hst
            have HLE := Lib.hid hle
            have HLE2 := Lib.hid hle2
            have hjI : (j : Int) < (k : Int) := by omega
            clear hxe hne hst hle hle2
            by_cases hbig : 1024 < x
            · obtain rfl : c = 14 := by
                rw [← HC.out]
                exact mayC_count (by rw [HL.out]; omega) HQ.out (by have := HLE.out; omega)
              go_wp2
              go_ret
              exact ⟨rfl, rfl⟩
            · have hm0 : 0 ≤ n * x := Int.mul_nonneg (by omega) (by omega)
              have hm1 : n * x ≤ 1024 * 1024 := Int.mul_le_mul (by omega) (by omega) (by omega) (by omega)
              have hw : IntKind.i64.wrap (n * x) = n * x := IntWalk.i64_in _ (by omega)
              obtain ⟨m, hm⟩ : ∃ m, n * x = m := ⟨_, rfl⟩
              rw [hm] at hm0 hm1 hw
              have HM := Lib.hid hm
              by_cases hbig2 : 1024 < m
              · obtain rfl : c = 14 := by
                  rw [← HC.out]
                  exact mayC_count (by rw [HL.out]; omega) HQ.out (by have := HLE2.out; have := HM.out; omega)
                go_wp2
                go_ret
                exact ⟨rfl, rfl⟩
              · go_wp2
                go_round
                case rel => exact ⟨j + 1, by go_num, by omega, by rw [HST.out, HM.out], by rw [HST.out, HM.out]; omega⟩
                case measure => simp [intOf]; omega
          · obtain rfl : j = k := by omega
            obtain rfl : c = 0 := by
              rw [← HC.out]
              refine mayC_ok ⟨by rw [HL.out]; omega, HQ.out, ?_⟩
              rw [List.take_of_length_le (by rw [HL.out]; exact Nat.le_refl _)] at hne
              rw [hne]
              exact hn
            have hjI : ¬ (j : Int) < (j : Int) := by omega
            clear hne
            go_wp2
            go_ret
            exact ⟨rfl, rfl⟩
set_option maxRecDepth 100000 in
set_option maxHeartbeats 2000000 in
theorem countR6_any {u : Value} {xs : List Int} {ad : Option Addr} {cap : Nat} {w : World} (A : ArgS w u xs ad cap) :
    Calls Tryz.prog 17 #[u] w fun e w' => e = .returned (.int .i64 (countS xs)) ∧ w = w' := by
  have hm := mayR6_any A
  have HA := Lib.hid A
  obtain rfl := A.is
  by_cases h0 : mayC xs = 0
  · have ok := mayC_zero.1 h0
    rw [ok.count]
    rw [h0] at hm
    obtain ⟨L, hL⟩ : ∃ L, xs.length = L := ⟨_, rfl⟩
    have HL := Lib.hid hL
    obtain ⟨P, hP⟩ : ∃ P, prodS xs = P := ⟨_, rfl⟩
    have HP := Lib.hid hP
    rw [hL] at hm ⊢
    rw [hP]
    have HO := Lib.hid ok
    have h4 : L ≤ 4 := by rw [← hL]; exact ok.rank
    clear A hL hP ok h0
    go_enter Tryz.func17, Tryz.ntmps17
    go_wp2_with (go_at_call 16; refine hm.mono ?_; rintro e w1 ⟨rfl, rfl⟩)
    clear hm
    go_loop [3, 4] (fun n i => ∃ j : Nat, i = .int .i64 (j : Int) ∧ j ≤ L ∧ n = .int .i64 (prodS (xs.take j))) (fun _ i => L - (intOf i).toNat)
    case atStart => exact ⟨0, rfl, Nat.zero_le _, rfl⟩
    case round =>
      obtain ⟨j, rfl, hjk, rfl⟩ := hrel
      have hn1 := prodS_pos (HO.out.pos.take j)
      have hn2 := prodS_take_le HO.out.pos j
      have hf := HO.out.few
      obtain ⟨n, hne⟩ : ∃ n, prodS (xs.take j) = n := ⟨_, rfl⟩
      rw [hne] at hn1 hn2 ⊢
      by_cases hjl : j < L
      · obtain ⟨b, off, rfl, hc⟩ := HA.out.at (i := j) (by rw [HL.out]; exact hjl)
        have hx1 := HO.out.pos.getD (i := j) (by rw [HL.out]; exact hjl)
        have hst := prodS_take (s := xs) (k := j) (by rw [HL.out]; exact hjl)
        have hle := getD_le_prod HO.out.pos (k := j) (by rw [HL.out]; exact hjl)
        obtain ⟨x, hxe⟩ : ∃ x, xs.getD j 0 = x := ⟨_, rfl⟩
        rw [hxe] at hc hx1 hst hle
        rw [hne] at hst
        have hm0 : 0 ≤ n * x := Int.mul_nonneg (by omega) (by omega)
        have hm1 : n * x ≤ 1024 * 1024 := Int.mul_le_mul (by omega) (by omega) (by omega) (by omega)
        have hw : wrap64 (n * x) = n * x := by unfold wrap64; omega
        have HST := Lib.hid hst
        have hjI : (j : Int) < (L : Int) := by omega
        clear hxe hne hst hle hf hn2
        go_wp2
        go_round
        case rel => exact ⟨j + 1, by go_num, by omega, by rw [HST.out]⟩
        case measure => simp [intOf]; omega
      · obtain rfl : j = L := by omega
        obtain rfl : n = P := by
          rw [← hne, List.take_of_length_le (by rw [HL.out]; exact Nat.le_refl _)]; exact HP.out
        have hjI : ¬ (j : Int) < (j : Int) := by omega
        clear hne
        go_wp2
        go_ret
        exact ⟨rfl, rfl⟩
  · rw [count_bad h0]
    obtain ⟨c, hc⟩ : ∃ c, mayC xs = c := ⟨_, rfl⟩
    rw [hc] at hm h0
    have hne : (c != 0) = true := by simpa using h0
    clear h0 hc A
    go_enter Tryz.func17, Tryz.ntmps17
    go_wp2_with (go_at_call 16; refine hm.mono ?_; rintro e w1 ⟨rfl, rfl⟩)
    go_ret
    exact ⟨rfl, rfl⟩
end
section
open Go.RowKit
set_option linter.unusedVariables false
set_option linter.unusedSimpArgs false
theorem belowS_drew (B : Nat) (w : World) (n : Nat) : Below B w (w.drewN n) := ⟨rfl, rfl, rfl, Nat.le_refl _, fun _ _ => rfl⟩
theorem take_all {xs : List Int} {n : Nat} (h : xs.length = n) : xs.take n = xs := List.take_of_length_le (by omega)
theorem getD_some {xs : List Int} {k : Nat} (h : k < xs.length) : xs[k]? = some (xs.getD k 0) := by rw [List.getD_eq_getElem?_getD, List.getElem?_eq_getElem h]; rfl
theorem take_next {xs : List Int} {k : Nat} (h : k < xs.length) : xs.take (k + 1) = xs.take k ++ [xs.getD k 0] := by rw [List.take_add_one, getD_some h]; rfl
set_option maxRecDepth 100000 in
set_option maxHeartbeats 2000000 in
theorem sameL_any {u v : Value} {xs ys : List Int} {a b : Option Addr} {ca cb : Nat} {w : World} (A : ArgS w u xs a ca) (B : ArgS w v ys b cb) (hx : xs.length ≤ 140737488355328) :
    Calls Tryz.prog 65 #[u, v] w fun e w' => e = .returned (.bool (decide (xs = ys))) ∧ Below w.heap.size w w' := by
  have HA := Lib.hid A
  have HB := Lib.hid B
  obtain rfl := A.is
  obtain rfl := B.is
  obtain ⟨L, hL⟩ : ∃ L, xs.length = L := ⟨_, rfl⟩
  obtain ⟨M, hM⟩ : ∃ M, ys.length = M := ⟨_, rfl⟩
  obtain ⟨d, hd⟩ : ∃ d, decide (xs = ys) = d := ⟨_, rfl⟩
  have HL := Lib.hid hL
  have HM := Lib.hid hM
  have HD := Lib.hid hd
  rw [hL] at hx
  rw [hL, hM, hd]
  clear A B hL hM hd
  by_cases hlm : L = M
  · subst hlm
    have hne : ((L : Int) != (L : Int)) = false := by simp
    go_enter Tryz.func65, Tryz.ntmps65
    go_wp2
    go_loopw [5] (fun i wr => ∃ k : Nat, i = .int .i64 (k : Int) ∧ k ≤ L ∧ xs.take k = ys.take k ∧ Below w.heap.size w wr) (fun i _ => L - (intOf i).toNat)
    case atStart => exact ⟨0, rfl, Nat.zero_le _, rfl, Below.refl _ _⟩
    case round =>
      obtain ⟨k, rfl, hkL, hp, hb⟩ := hrel
      have HP := Lib.hid hp
      clear hp
      by_cases hlt : k < L
      · obtain ⟨b1, o1, rfl, hc1⟩ := (HA.out.later hb).at (i := k) (by rw [HL.out]; exact hlt)
        obtain ⟨b2, o2, rfl, hc2⟩ := (HB.out.later hb).at (i := k) (by rw [HM.out]; exact hlt)
        have e1 := take_next (xs := xs) (k := k) (by rw [HL.out]; exact hlt)
        have e2 := take_next (xs := ys) (k := k) (by rw [HM.out]; exact hlt)
        obtain ⟨x, hx⟩ : ∃ x, xs.getD k 0 = x := ⟨_, rfl⟩
        obtain ⟨y, hy⟩ : ∃ y, ys.getD k 0 = y := ⟨_, rfl⟩
        rw [hx] at hc1 e1
        rw [hy] at hc2 e2
        have E1 := Lib.hid e1
        have E2 := Lib.hid e2
        have HX := Lib.hid hx
        have HY := Lib.hid hy
        have hin : 0 ≤ (k : Int) ∧ (k : Int) < (L : Int) := by omega
        have hltI : (k : Int) < (L : Int) := by omega
        clear hx hy e1 e2
        by_cases hxy : x = y
        · subst hxy
          have hn : (x != x) = false := by simp
          go_wp2
          go_quiet (fail)
          go_wp2
          go_roundw
          case rel => exact ⟨k + 1, by go_num, by omega, by rw [E1.out, E2.out, HP.out], hb.trans (belowS_drew _ _ _)⟩
          case measure => simp [intOf]; omega
        · obtain rfl : d = false := by
            rw [← HD.out, decide_eq_false_iff_not]
            intro h
            apply hxy
            rw [← HX.out, ← HY.out, h]
          have hn : (x != y) = true := by simpa using hxy
          go_wp2
          go_quiet (fail)
          go_wp2
          go_ret
          exact ⟨rfl, hb.trans (belowS_drew _ _ _)⟩
      · obtain rfl : k = L := by omega
        obtain rfl : d = true := by
          rw [← HD.out, decide_eq_true_iff]
          have := HP.out
          rwa [take_all HL.out, take_all HM.out] at this
        have hltI : ¬ (k : Int) < (k : Int) := by omega
        go_wp2
        go_ret
        exact ⟨rfl, hb⟩
  · obtain rfl : d = false := by
      rw [← HD.out, decide_eq_false_iff_not]
      intro h
      apply hlm
      rw [← HL.out, ← HM.out, h]
    have hne : ((L : Int) != (M : Int)) = true := by simp; omega
    go_enter Tryz.func65, Tryz.ntmps65
    go_wp2
    go_ret
    exact ⟨rfl, Below.refl _ _⟩
/-- a dimension from the end -/
def backS (s : List Int) (k : Nat) : Int := if s.length < k then 0 else s.getD (s.length - k) 0
end
section
open Go.RowKit
set_option linter.unusedVariables false
set_option linter.unusedSimpArgs false
/-- from the end on, up to k dimensions, does a shape fit? -/
def fitU (f t : List Int) (k : Nat) : Prop := ∀ j, 1 ≤ j → j ≤ k → backS t j ≠ 0 ∧ (backS f j = 1 ∨ backS f j = backS t j)
instance fitU_dec (f t : List Int) (k : Nat) : Decidable (fitU f t k) := decidable_of_iff (∀ j, j < k + 1 → 1 ≤ j → backS t j ≠ 0 ∧ (backS f j = 1 ∨ backS f j = backS t j))
  ⟨fun h j h1 h2 => h j (by omega) h1, fun h j h1 h2 => h j h2 (by omega)⟩
end
section
open Go.RowKit
set_option linter.unusedVariables false
set_option linter.unusedSimpArgs false
/-- block g has room for cap numbers, of which the first are zs -/
def PartS (w : World) (g cap : Nat) (zs : List Int) : Prop := ∃ cur : Array Value, w.heap[g]? = some (.cells cur 3 (0, 0)) ∧ cur.size = cap ∧ zs.length ≤ cap ∧ cur.toList.take zs.length = zs.map (Value.int .i64)
theorem PartS.cell {w : World} {g cap : Nat} {zs : List Int} (h : PartS w g cap zs) (i : Nat) (hi : i < zs.length) : w.cell? ⟨g, i, none⟩ = some (.int .i64 (zs.getD i 0)) := by
  obtain ⟨cur, hh, hs, hl, ht⟩ := h
  have e : w.cell? ⟨g, i, none⟩ = cur[i]? := cell_of_row w g i _ 3 (0, 0) hh
  rw [e]
  have h1 : (cur.toList.take zs.length)[i]? = cur[i]? := by rw [List.getElem?_take_of_lt hi]; simp
  rw [← h1, ht]
  simp [hi]
theorem PartS.free {w : World} {g cap : Nat} {zs : List Int} (h : PartS w g cap zs) (i : Nat) : w.frozen? ⟨g, i, none⟩ = false := by
  obtain ⟨cur, hh, _⟩ := h
  exact frozen_of_row w g i _ 3 hh
theorem PartS.lt {w : World} {g cap : Nat} {zs : List Int} (h : PartS w g cap zs) : g < w.heap.size := by obtain ⟨cur, hh, _⟩ := h; exact lt_of_block hh
theorem PartS.le {w : World} {g cap : Nat} {zs : List Int} (h : PartS w g cap zs) : zs.length ≤ cap := by obtain ⟨_, _, _, h, _⟩ := h; exact h
theorem PartS.same {w w' : World} {g cap : Nat} {zs : List Int} (h : PartS w g cap zs) (e : w'.heap[g]? = w.heap[g]?) : PartS w' g cap zs := by
  obtain ⟨cur, hh, r⟩ := h
  exact ⟨cur, e.trans hh, r⟩
theorem PartS.later {w w' : World} {g cap : Nat} {zs : List Int} (h : PartS w g cap zs) (k : Below w.heap.size w w') : PartS w' g cap zs := h.same (k.block g h.lt)
theorem PartS.far {w : World} {g cap : Nat} {zs : List Int} (h : PartS w g cap zs) {p : Addr} (hne : g ≠ p.block) (u : Value) : PartS (w.setCell p u) g cap zs := h.same (Below.heap_setCell _ _ _ _ hne)
theorem PartS.set {w : World} {g cap : Nat} {zs : List Int} (h : PartS w g cap zs) (i : Nat) (hi : i < zs.length) (x : Int) : PartS (w.setCell ⟨g, i, none⟩ (.int .i64 x)) g cap (zs.set i x) := by
  obtain ⟨cur, hh, hs, hl, ht⟩ := h
  refine ⟨cur.setIfInBounds i (.int .i64 x), ?_, by simpa using hs, by simpa using hl, ?_⟩
  · have e := heap_setCell_same w g i _ 3 (.int .i64 x) hh
    rw [e]
  · rw [List.length_set, Array.toList_setIfInBounds, List.take_set, ht, List.map_set]
theorem PartS.num {base g cap : Nat} {w : World} {zs : List Int} (h : PartS w g cap zs) (hb : base ≤ g) (hm : cap ≤ maxLen) : NumS base w (.slice (some ⟨g, 0, none⟩) zs.length cap) zs := by
  obtain ⟨cur, hh, hs, hl, ht⟩ := h
  exact ⟨by simp, .inr ⟨g, cap, cur, rfl, hb, hh, hl, hm, by simpa using hs, by simpa using ht⟩⟩
theorem NumS.partS {base : Nat} {w : World} {v : Value} {zs : List Int} (h : NumS base w v zs) (hz : zs ≠ []) :
    ∃ g cap, v = .slice (some ⟨g, 0, none⟩) zs.length cap ∧ base ≤ g ∧ cap ≤ maxLen ∧ PartS w g cap zs := by
  obtain ⟨h1, h2⟩ := h
  rcases h2 with ⟨hv, hn⟩ | ⟨g, cap, cur, hv, hb, hg, hc, hm, hs, ht⟩
  · exact absurd (List.eq_nil_of_length_eq_zero hn) hz
  · exact ⟨g, cap, hv, hb, hm, cur, hg, by simpa using hs, hc, by simpa using ht⟩
theorem infoSl : (Tryz.prog.info? 22).map (fun i => (i.zero, i.size, i.bytes)) = some (some (.slice none 0 0), 1, 24) := by kernel_rfl
theorem ResS.grown {base : Nat} {w w' : World} {u : Value} {xs : List Int} {row : Option Nat} (h : ResS base w u xs) (k : w.grownBy w' row) (hb : ∀ g, u.ownBlock = some g → some g ≠ row) : ResS base w' u xs := by
  refine ⟨?_, h.wf⟩
  obtain ⟨h1, h2⟩ := h.num
  refine ⟨h1, ?_⟩
  rcases h2 with h2 | ⟨r, cap, cur, rfl, hr, hh, hrest⟩
  · exact .inl h2
  · exact .inr ⟨r, cap, cur, rfl, hr, (k.block r (lt_of_block hh) (hb r rfl)).trans hh, hrest⟩
/-- a slice of slices of numbers, all of the call's own -/
def RowsS (base : Nat) (w : World) (v : Value) (L : List (List Int)) : Prop :=
  ∃ vals : List Value, w.ownsRow base 22 1 v vals.length vals ∧ vals.length = L.length ∧ ∀ i, i < L.length → ∃ u, vals[i]? = some u ∧ ResS base w u (L.getD i [])
theorem RowsS.later {base : Nat} {w w' : World} {v : Value} {L : List (List Int)} (h : RowsS base w v L) (hb : Below w.heap.size w w') : RowsS base w' v L := by
  obtain ⟨vals, h1, h2, h3⟩ := h
  refine ⟨vals, ?_, h2, fun i hi => ?_⟩
  · obtain ⟨m1, m2⟩ := h1
    refine ⟨m1, ?_⟩
    rcases m2 with m2 | ⟨r, cap, cur, rfl, hr, hh, hrest⟩
    · exact .inl m2
    · exact .inr ⟨r, cap, cur, rfl, hr, (hb.block r (lt_of_block hh)).trans hh, hrest⟩
  · obtain ⟨u, e, R⟩ := h3 i hi
    exact ⟨u, e, R.later hb⟩
theorem RowsS.slice {base : Nat} {w : World} {v : Value} {L : List (List Int)} (h : RowsS base w v L) (hn : L ≠ []) : ∃ g cap, v = .slice (some ⟨g, 0, none⟩) L.length cap ∧ base ≤ g ∧ L.length ≤ cap ∧ cap ≤ maxLen ∧
    ∀ i, i < L.length → ∃ u, w.cell? ⟨g, i, none⟩ = some u ∧ ResS base w u (L.getD i []) := by
  obtain ⟨vals, h1, h2, h3⟩ := h
  obtain ⟨m1, m2⟩ := h1
  rcases m2 with ⟨e, h0⟩ | ⟨r, cap, cur, rfl, hr, hh, hc, hm, hs, ht⟩
  · exact absurd (List.eq_nil_of_length_eq_zero (by omega)) hn
  · refine ⟨r, cap, by rw [h2], hr, by omega, hm, fun i hi => ?_⟩
    obtain ⟨u, e, R⟩ := h3 i hi
    refine ⟨u, ?_, R⟩
    have hj := World.ownsRow.cellAt (w := w) (base := base) (e := 22) (size := 1) (g := r) (n := vals.length) (cap := cap) (xs := vals) ⟨m1, .inr ⟨r, cap, cur, rfl, hr, hh, hc, hm, hs, ht⟩⟩ i (by omega)
    rw [hj, e]
theorem RowsS.apart {base : Nat} {w : World} {v u : Value} {vals : List Value} {n : Nat} {xs : List Int} (h : w.ownsRow base 22 1 v n vals) (R : ResS base w u xs) : ∀ g, u.ownBlock = some g → some g ≠ v.ownBlock := by
  intro g hg he
  obtain ⟨_, m2⟩ := h
  obtain ⟨_, r2⟩ := R.num
  rcases r2 with ⟨rfl, _⟩ | ⟨r, cap, cur, rfl, _, hh, _⟩
  · cases hg
  · simp [Value.ownBlock] at hg
    subst hg
    rcases m2 with ⟨rfl, _⟩ | ⟨q, cap2, cur2, rfl, _, hh2, _⟩
    · cases he
    · simp [Value.ownBlock] at he
      subst he
      have := hh.symm.trans hh2
      simp at this
theorem pushRow {base : Nat} {w wr w1 : World} {v v' u : Value} {L : List (List Int)} {vals : List Value} {xs : List Int} {o : Obj} (hb : Below base w wr) (hbase : base ≤ wr.heap.size) (hown : wr.ownsRow base 22 1 v vals.length vals) (hlen : vals.length = L.length) (hall : ∀ i, i < L.length → ∃ u, vals[i]? = some u ∧ ResS base wr u (L.getD i [])) (R : ResS base wr u xs)
    (hown' : w1.ownsRow base 22 1 v' (vals.length + 1) (vals ++ [u])) (hgrow : (wr.alloc o).grownBy w1 v.ownBlock) : RowsS base w1 v' (L ++ [xs]) ∧ Below base w w1 := by
  have hr : ∀ {x : Value} {zs : List Int}, ResS base wr x zs → ResS base w1 x zs := fun h => (h.later ((Below.refl wr.heap.size wr).alloc (Nat.le_refl _) o)).grown hgrow (RowsS.apart hown h)
  refine ⟨⟨vals ++ [u], by rw [List.length_append]; exact hown', by simp [hlen], fun i hi => ?_⟩, (hb.alloc hbase o).grown hgrow (by simp; omega) (fun k hk => (World.ownsRow.lt hown k hk).1)⟩
  rw [List.length_append] at hi
  simp only [List.length_cons, List.length_nil] at hi
  by_cases hlt : i < L.length
  · obtain ⟨x, e, hx⟩ := hall i hlt
    refine ⟨x, by rw [List.getElem?_append_left (by omega)]; exact e, ?_⟩
    rw [List.getD_eq_getElem?_getD, List.getElem?_append_left hlt, ← List.getD_eq_getElem?_getD]
    exact hr hx
  · obtain rfl : i = L.length := by omega
    refine ⟨u, by rw [List.getElem?_append_right (by omega), ← hlen]; simp, ?_⟩
    rw [List.getD_eq_getElem?_getD, List.getElem?_append_right (Nat.le_refl _)]
    simpa using hr R
end
section
open Go.RowKit
set_option linter.unusedVariables false
set_option linter.unusedSimpArgs false
/-- append(nil, b..) -/
theorem step_copyS {ops : Array Oper} {rest : List Oper} {o : Oper} {a : Act} {w : World} {Q : Exit → Act → World → Prop} (hg : o.guard = none) (t : Nat) (T : TypeId) (hT : Tryz.prog.underlying T = some (.slice 3))
    (hop : o.op = Op.call { callee := Callee.builtin Builtin.append, args := #[Operand.const (.slice none 0 0), Operand.tmp t], argTypes := #[T, T] }) {xs : List Int} {ad : Option Addr} {cap : Nat} {u : Value} (hx : a.eval (.tmp t) = u)
    (hA : ArgS w u xs ad cap) (hn : ad = none → cap = 0) (hl : xs.length ≤ 17592186044416)
    (h : ∀ v' w1, ResS w.heap.size w1 v' xs → Below w.heap.size w w1 → wpList Tryz.prog ops Q rest (a.put o.dst v') w1) : wpList Tryz.prog ops Q (o :: rest) a w := by
  obtain ⟨i0, hi, hz0, hz1, hz2⟩ := info_parts infoS
  have hnil := World.ownsRow_nil w w.heap.size 3 1
  obtain ⟨rfl, lx, hle, wx⟩ := hA
  cases ad with
  | none =>
    have hc := hn rfl
    subst hc
    have hxs : xs = [] := List.eq_nil_of_length_eq_zero (by omega)
    subst hxs
    exact wpList_append_own_none hg (.const (.slice none 0 0)) (.tmp t) T hop w.heap.size 3 i0 1 hT hi (.slice none 0 0) 0 [] rfl hnil hx (h _ _ ⟨hnil, wx⟩ (Below.refl _ _))
  | some ad =>
    refine wpList_append_own w hg (.const (.slice none 0 0)) (.tmp t) T hop w.heap.size 3 i0 (.int .i64 0) 1 8 hT hi hz0 hz1 hz2 rfl (by decide) (.slice none 0 0) 0 [] rfl hnil ad xs.length cap (xs.map (Value.int .i64)) hx (by simp) (cells_argS (cap := cap) lx) (ints_oneCell _ _) (by unfold maxLen; omega) (by omega) (Nat.le_refl _) ?_
    intro v' w1 hown hgrow _
    refine h v' w1 ⟨?_, wx⟩ ((Below.refl _ w).grown hgrow (Nat.le_refl _) (fun k hk => by cases hk))
    unfold NumS
    simpa using hown
theorem zeros_wid (n : Nat) : Wid (List.replicate n 0) := fun x hx => by rw [List.eq_of_mem_replicate hx]; omega
/-- the list behind the rounds of Next -/
theorem back_at {xs : List Int} {L m : Nat} (hl : xs.length = L) (hm : m < L) : (xs.take (m + 1) ++ List.replicate (L - (m + 1)) 0).length = L ∧ (xs.take (m + 1) ++ List.replicate (L - (m + 1)) (0 : Int)).getD m 0 = xs.getD m 0 ∧
    ∀ y : Int, (xs.take (m + 1) ++ List.replicate (L - (m + 1)) (0 : Int)).set m y = xs.take m ++ (y :: List.replicate (L - (m + 1)) 0) := by
  have h1 : (xs.take (m + 1)).length = m + 1 := by rw [List.length_take]; omega
  refine ⟨by rw [List.length_append, h1, List.length_replicate]; omega, ?_, fun y => ?_⟩
  · rw [List.getD_eq_getElem?_getD, List.getElem?_append_left (by omega), List.getElem?_take, if_pos (by omega), List.getD_eq_getElem?_getD]
  · rw [take_next (by omega), List.append_assoc, List.set_append_right _ _ (by rw [List.length_take]; omega), List.length_take, Nat.min_eq_left (by omega), Nat.sub_self]
    rfl
/-- what Next answers -/
def NextP (base : Nat) (w : World) (s xs : List Int) (r : Value) (t : Bool) : Prop := (∃ ys, nextS s xs = some ys ∧ t = true ∧ ResS base w r ys) ∨ (nextS s xs = none ∧ t = false)
def NextA (base : Nat) (w : World) (s xs : List Int) (e : Ending) : Prop := ∃ r t, e = .returned (.tuple #[r, .bool t]) ∧ NextP base w s xs r t
set_option maxRecDepth 100000 in
set_option maxHeartbeats 4000000 in
theorem nextR_any {u v : Value} {s xs : List Int} {a b : Option Addr} {ca cb : Nat} {w : World} (A : ArgS w u s a ca) (B : ArgS w v xs b cb) (hn : b = none → cb = 0) (ok : OkS s) (hin : inS s xs) :
    Calls Tryz.prog 102 #[u, v] w fun e w' => NextA w.heap.size w' s xs e ∧ Below w.heap.size w w' := by
  have HA := Lib.hid A
  have HB := Lib.hid B
  have HO := Lib.hid ok
  have HI := Lib.hid hin
  have hlen := inS_length hin
  have HN := Lib.hid hn
  have B' := B
  obtain rfl := A.is
  obtain rfl := B.is
  obtain ⟨L, hL⟩ : ∃ L, s.length = L := ⟨_, rfl⟩
  have hL2 : xs.length = L := by rw [hlen]; exact hL
  have HL := Lib.hid hL
  have HL2 := Lib.hid hL2
  have h4 : L ≤ 4 := by rw [← hL]; exact ok.rank
  rw [hL2] at B'
  rw [hL, hL2]
  clear A B ok hin hlen hn hL hL2
  go_enter Tryz.func102, Tryz.ntmps102
  go_wp2_with (at_builtin; refine step_copyS rfl _ 22 Tryz.underlying22 rfl rfl B' HN.out (by have := HL2.out; omega) ?_; intro r w1 R1 hb1)
  have hs1 := hb1.size
  rcases Nat.eq_zero_or_pos L with h0 | hpos
  · subst h0
    have e1 : s = [] := List.eq_nil_of_length_eq_zero HL.out
    have e2 : xs = [] := List.eq_nil_of_length_eq_zero HL2.out
    subst e1
    subst e2
    have HR := Lib.hid R1
    clear R1 B'
    go_wp2
    go_loop [7] (fun i => i = .int .i64 (-1)) (fun _ => 0)
    case atStart => first | rfl | trivial
    case round =>
      subst hrel
      go_wp2
      go_ret2
      exact ⟨⟨_, _, rfl, .inr ⟨rfl, rfl⟩⟩, hb1⟩
  · have hne : xs ≠ [] := by intro e; rw [e] at HL2; have := HL2.out; simp at this; omega
    obtain ⟨g, cap, rfl, hg, hcap, hP⟩ := R1.num.partS hne
    have hLI : (1 : Int) ≤ (L : Int) := by omega
    have hL4 : (L : Int) ≤ 4 := by omega
    have HCP := Lib.hid hcap
    have HP0 := Lib.hid hP
    have hLcap : (xs.length : Nat) = L := HL2.out
    rw [hLcap]
    clear R1 B' hne hP hcap hLcap
    go_wp2
    go_loopw [7] (fun i wr => ∃ j : Nat, i = .int .i64 ((j : Int) - 1) ∧ j ≤ L ∧ PartS wr g cap (xs.take j ++ List.replicate (L - j) 0) ∧ nextS (s.drop j) (xs.drop j) = none ∧ Below w.heap.size w wr) (fun i _ => (intOf i + 1).toNat)
    case atStart =>
      refine ⟨L, by go_num, Nat.le_refl _, ?_, ?_, hb1⟩
      · rw [take_all HL2.out, Nat.sub_self]; simpa using HP0.out
      · rw [List.drop_of_length_le (by rw [HL.out]; exact Nat.le_refl _)]; rfl
    case round =>
      obtain ⟨j, rfl, hjL, hp, hnx, hb⟩ := hrel
      have hsz := hb.size
      have HNX := Lib.hid hnx
      clear hnx
      rcases Nat.eq_zero_or_pos j with h0 | hj
      · subst h0
        have hi : (((0 : Nat) : Int) - 1) = -1 := by omega
        rw [hi]
        have HNX2 := Lib.hid (show nextS s xs = none by have := HNX.out; simpa using this)
        clear hp
        go_wp2
        go_ret2
        exact ⟨⟨_, _, rfl, .inr ⟨HNX2.out, rfl⟩⟩, hb⟩
      · obtain ⟨m, rfl⟩ : ∃ m, j = m + 1 := ⟨j - 1, by omega⟩
        have hi : (((m + 1 : Nat) : Int) - 1) = (m : Int) := by omega
        rw [hi]
        obtain ⟨l1, l2, l3⟩ := back_at (xs := xs) (L := L) (m := m) HL2.out (by omega)
        have hc := hp.cell m (by omega)
        have hf := hp.free m
        rw [l2] at hc
        obtain ⟨b1, o1, rfl, hc1⟩ := (HA.out.later hb).at (i := m) (by rw [HL.out]; omega)
        have hx := inS_at HI.out (i := m) (by rw [HL.out]; omega)
        have hle := getD_le_prod HO.out.pos (k := m) (by rw [HL.out]; omega)
        have hfew := HO.out.few
        have hnd := next_drop (s := s) (xs := xs) (by rw [HL.out, HL2.out]) (i := m) (by rw [HL.out]; omega) HNX.out
        obtain ⟨x, hxe⟩ : ∃ x, xs.getD m 0 = x := ⟨_, rfl⟩
        obtain ⟨d, hde⟩ : ∃ d, s.getD m 0 = d := ⟨_, rfl⟩
        rw [hxe] at hc hx hnd
        rw [hde] at hc1 hx hle hnd
        rw [HL.out] at hnd
        obtain ⟨hx0, hx1⟩ := hx
        have hdI : d ≤ 1024 := by omega
        have hmL : 0 ≤ (m : Int) ∧ (m : Int) < (L : Int) := by omega
        have hm0 : (0 : Int) ≤ (m : Int) := by omega
        have hmLI : (m : Int) < (L : Int) := by omega
        have HPT := Lib.hid hp
        have HL3 := Lib.hid l3
        have HL1 := Lib.hid l1
        have HND := Lib.hid hnd
        clear hxe hde hle hfew hnd hp l1 l2 l3
        by_cases hlt : x + 1 < d
        · have hset := HPT.out.set m (by rw [HL1.out]; omega) (x + 1)
          rw [HL3.out] at hset
          have hnext : nextS s xs = some (xs.take m ++ ((x + 1) :: List.replicate (L - (m + 1)) 0)) := by
            refine next_some (by rw [HL.out, HL2.out]) (by rw [HL.out]; omega) ?_
            rw [HND.out, if_pos hlt]
          have HSET := Lib.hid hset
          have HNE := Lib.hid hnext
          clear hset hnext
          go_wp2
          go_quiet (fail)
          go_wp2
          go_ret2
          refine ⟨⟨_, _, rfl, .inl ⟨_, HNE.out, rfl, ?_⟩⟩, ?_⟩
          · have hq : PartS ((wr.drewN nq).setCell ⟨g, m, none⟩ (.int .i64 (x + 1))) g cap (xs.take m ++ ((x + 1) :: List.replicate (L - (m + 1)) 0)) := by
              have h1 : PartS (wr.drewN nq) g cap (xs.take (m + 1) ++ List.replicate (L - (m + 1)) 0) := HPT.out.same rfl
              have h2 := h1.set m (by rw [HL1.out]; omega) (x + 1)
              rwa [HL3.out] at h2
            have hlen : (xs.take m ++ ((x + 1) :: List.replicate (L - (m + 1)) 0)).length = L := by
              have := HL1.out
              have h3 := congrArg List.length (HL3.out (x + 1))
              rw [List.length_set] at h3
              omega
            have hnum := hq.num hg HCP.out
            rw [hlen] at hnum
            refine ⟨hnum, ?_⟩
            have hw1 : Wid xs := HB.out.wf
            refine (hw1.take m).append ?_
            intro y hy
            rcases List.mem_cons.1 hy with h | h
            · omega
            · exact zeros_wid _ y h
          · exact (hb.trans (belowS_drew _ _ _)).setCell (p := ⟨g, m, none⟩) hg _
        · have hset := HPT.out.set m (by rw [HL1.out]; omega) 0
          rw [HL3.out] at hset
          go_wp2
          go_quiet (fail)
          go_wp2
          go_roundw
          case rel =>
            refine ⟨m, by go_num, by omega, ?_, by rw [HND.out, if_neg (by omega)], (hb.trans (belowS_drew _ _ _)).setCell (p := ⟨g, m, none⟩) hg _⟩
            have h1 : PartS (wr.drewN nq) g cap (xs.take (m + 1) ++ List.replicate (L - (m + 1)) 0) := HPT.out.same rfl
            have h2 := h1.set m (by rw [HL1.out]; omega) 0
            rw [HL3.out] at h2
            rw [show L - m = (L - (m + 1)) + 1 by omega, List.replicate_succ]
            exact h2
          case measure => simp [intOf] <;> omega
end
end Go.Proofs.YtnhfjacifajdlaaGreat
