/-
  Shapes and indexes: mathematics.
-/
import Derived.Test.YtjcacmnmbbnffaaGreatE3
import Derived.Lib.SmallJoins
import Derived.IntWalk
namespace Go.Proofs.YtjcacmnmbbnffaaGreat
set_option maxRecDepth 100000
section
open Go.RowKit
set_option linter.unusedVariables false
set_option linter.unusedSimpArgs false
set_option maxRecDepth 100000 in
set_option maxHeartbeats 8000000 in
theorem addQ_any {n : Nat} {w : World} {u v : Value} {X Y : Rat} (hu : ArgQ w u X n) (hv : ArgQ w v Y n) (hn : n ≤ 16777000) :
    Calls Tryz.prog 48 #[u, v] w fun e w' => ∃ r, e = .returned r ∧ ResQ w.heap.size w' r (X + Y) (2 * n + 10) ∧ Below w.heap.size w w' := by
  obtain ⟨n1, ps, qs, e1, e2, k1, k2, rfl⟩ := hu.box
  obtain ⟨n2, rs, ss, e3, e4, k3, k4, rfl⟩ := hv.box
  obtain ⟨W, hW⟩ : ∃ W, (((w.alloc (.cells #[.bool n1, .slice e1 ps.length k1, .slice e2 qs.length k2] 51)).alloc (.cells #[.bool n2, .slice e3 rs.length k3, .slice e4 ss.length k4] 51)).alloc (.cells #[.bool false, .slice none 0 0, .slice none 0 0] 51)) = W := ⟨_, rfl⟩
  have R0 : Row W (w.heap.size) 51 #[.bool n1, .slice e1 ps.length k1, .slice e2 qs.length k2] := by rw [← hW]; exact (((Row.new _ _ _).alloc _).alloc _)
  have R1 : Row W (w.heap.size + 1) 51 #[.bool n2, .slice e3 rs.length k3, .slice e4 ss.length k4] := by rw [← hW]; have h := (Row.new (w.alloc (.cells #[.bool n1, .slice e1 ps.length k1, .slice e2 qs.length k2] 51)) 51 #[.bool n2, .slice e3 rs.length k3, .slice e4 ss.length k4]); simp only [World.size_alloc] at h; exact (h.alloc _)
  have R2 : Row W (w.heap.size + 1 + 1) 51 #[.bool false, .slice none 0 0, .slice none 0 0] := by rw [← hW]; have h := (Row.new ((w.alloc (.cells #[.bool n1, .slice e1 ps.length k1, .slice e2 qs.length k2] 51)).alloc (.cells #[.bool n2, .slice e3 rs.length k3, .slice e4 ss.length k4] 51)) 51 #[.bool false, .slice none 0 0, .slice none 0 0]); simp only [World.size_alloc] at h; exact h
  have hBW : Below w.heap.size w W := by rw [← hW]; exact ((((Below.refl _ _).alloc (by (try simp) <;> omega) _).alloc (by (try simp) <;> omega) _).alloc (by (try simp) <;> omega) _)
  have hsW : w.heap.size + 1 + 1 + 1 ≤ W.heap.size := by rw [← hW]; simp
  have hu' := (hu.later hBW).later (Below.refl _ W).drew
  have hv' := hv.later hBW
  obtain ⟨p0, p1, p2, p3, p4, p5⟩ := R0.three
  obtain ⟨o0, o1, o2, o3, o4, o5⟩ := R1.three
  have hmf : ∀ (fn : Fn) (first cap : Array Value) (w : World), (Instr.makeFunc fn first cap).run Tryz.prog w = .ok (.func fn first cap) w := fun _ _ _ _ => rfl
  go_enter Tryz.func48, Tryz.ntmps48
  go_wp2_with fail
  clear hW
  refine wp_region_noPanic ?_
  refine wp_region_held_drew (S := fun _ => True) (by kernel_rfl) trivial (fun hHeld => ?_)
  clear hHeld
  refine wpAnyH_ready (rs := [0, 2]) (by kernel_rfl) (by simp) ?_
  refine AllReadyH.cons rfl (fun K hK => ?o1_0) (AllReadyH.cons rfl (fun K hK => ?o1_2) AllReadyH.nil)
  case o1_0 =>
    go_simp
    refine hK.out _ _ trivial (fun hHeld => ?_)
    clear hK K hHeld
    try simp only [Act.put, List.setIfInBounds_toArray, List.set_cons_zero, List.set_cons_succ]
    refine wpAnyH_ready (rs := [1, 2]) (by kernel_rfl) (by simp) ?_
    refine AllReadyH.cons rfl (fun K hK => ?o2_1) (AllReadyH.cons rfl (fun K hK => ?o2_2) AllReadyH.nil)
    case o2_1 =>
      go_simp
      (refine (plain_any hu' (by omega)).mono ?_)
      rintro e w1 ⟨r1, rfl, h1, hb1⟩
      have hb1d : Below W.heap.size W w1 := ⟨hb1.os, hb1.tape, hb1.output, hb1.size, hb1.block⟩
      obtain ⟨m1, xs, ds, a1, a2, c1, c2, rfl, A, B, hX, hx, hd, hB, _⟩ := h1
      have R0' := R0.later hb1d
      have R1' := R1.later hb1d
      obtain ⟨i0, i1, i2, _, _, _⟩ := R1'.three
      go_simp
      refine hK.out _ _ trivial (fun hHeld => ?_)
      clear hK K hHeld
      try simp only [Act.put, List.setIfInBounds_toArray, List.set_cons_zero, List.set_cons_succ]
      refine wpAnyH_ready (rs := [2]) (by kernel_rfl) (by simp) ?_
      refine AllReadyH.cons rfl (fun K hK => ?o3_2) AllReadyH.nil
      case o3_2 =>
        go_simp
        refine hK.out _ _ trivial (fun hHeld => ?_)
        clear hK K hHeld
        try simp only [Act.put, List.setIfInBounds_toArray, List.set_cons_zero, List.set_cons_succ]
        refine wpAnyH_ready (rs := [3]) (by kernel_rfl) (by simp) ?_
        refine AllReadyH.cons rfl (fun K hK => ?o4_3) AllReadyH.nil
        case o4_3 =>
          go_simp
          (refine (plain_any (hv'.later (show Below W.heap.size W w1 from hb1d)) (by omega)).mono ?_)
          rintro e w2 ⟨r2, rfl, h2, hb2⟩
          obtain ⟨m2, zs, es, a3, a4, c3, c4, rfl, C, D, hY, hz, he, hD, _⟩ := h2
          obtain ⟨t0, t1, t2, t3, t4, t5⟩ := (R0'.later hb2).three
          obtain ⟨s0, s1, s2, s3, s4, s5⟩ := (R1'.later hb2).three
          go_simp
          refine hK.out _ _ trivial (fun hHeld => ?_)
          clear hK K hHeld
          try simp only [Act.put, List.setIfInBounds_toArray, List.set_cons_zero, List.set_cons_succ]
          refine wpAnyH_ready (rs := [4]) (by kernel_rfl) (by simp) ?_
          refine AllReadyH.cons rfl (fun K hK => ?o5_4) AllReadyH.nil
          case o5_4 =>
            go_simp
            refine hK.out _ _ trivial (fun hHeld => ?_)
            clear hK K hHeld
            try simp only [Act.put, List.setIfInBounds_toArray, List.set_cons_zero, List.set_cons_succ]
            refine wpAnyH_ready (rs := [5]) (by kernel_rfl) (by simp) ?_
            refine AllReadyH.cons rfl (fun K hK => ?o6_5) AllReadyH.nil
            case o6_5 =>
              go_simp
              refine hK.out _ _ trivial (fun hHeld => ?_)
              clear hK K hHeld
              try simp only [Act.put, List.setIfInBounds_toArray, List.set_cons_zero, List.set_cons_succ]
              refine wpAnyH_done (by kernel_rfl) ?_ _
              refine NoPanic.normal ?_
              have hs1 := hb1d.size
              have hs2 := hb2.size
              obtain ⟨V, hV⟩ : ∃ V, (((((w2.setCell ⟨w.heap.size, 0, none⟩ (.bool m1)).setCell ⟨w.heap.size, 1, none⟩ (.slice a1 xs.length c1)).setCell ⟨w.heap.size, 2, none⟩ (.slice a2 ds.length c2)).setCell ⟨w.heap.size + 1, 0, none⟩ (.bool m2)).setCell ⟨w.heap.size + 1, 1, none⟩ (.slice a3 zs.length c3)).setCell ⟨w.heap.size + 1, 2, none⟩ (.slice a4 es.length c4) = V := ⟨_, rfl⟩
              have Z0 := (R0'.later hb2)
              have Z1 := (R1'.later hb2)
              have Z1' : Row (((w2.setCell ⟨w.heap.size, 0, none⟩ (.bool m1)).setCell ⟨w.heap.size, 1, none⟩ (.slice a1 xs.length c1)).setCell ⟨w.heap.size, 2, none⟩ (.slice a2 ds.length c2)) (w.heap.size + 1) 51 #[.bool n2, .slice e3 rs.length k3, .slice e4 ss.length k4] := ((Z1.far (by simp) _).far (by simp) _).far (by simp) _
              have P0 : Row V (w.heap.size) 51 #[.bool m1, .slice a1 xs.length c1, .slice a2 ds.length c2] := by rw [← hV]; exact (((Z0.set3 _ _ _).far (by simp) _).far (by simp) _).far (by simp) _
              have P1 : Row V (w.heap.size + 1) 51 #[.bool m2, .slice a3 zs.length c3, .slice a4 es.length c4] := by rw [← hV]; exact Z1'.set3 _ _ _
              have P2 : Row V (w.heap.size + 1 + 1) 51 #[.bool false, .slice none 0 0, .slice none 0 0] := by rw [← hV]; exact ((((((((R2.later hb1d).later hb2)).far (by simp <;> omega) _).far (by simp <;> omega) _).far (by simp <;> omega) _).far (by simp <;> omega) _).far (by simp <;> omega) _).far (by simp <;> omega) _
              have hsV : w2.heap.size ≤ V.heap.size := by rw [← hV]; simp
              have hB2 : Below w.heap.size w V := by rw [← hV]; exact below_set3 (below_set3 ((hBW.trans (hb1d.mono (by omega))).trans (hb2.mono (by omega))) (by omega) _ _ _) (by omega) _ _ _
              have AV : Arg V (.slice a1 xs.length c1) xs a1 c1 := by rw [← hV]; exact ((A.later hb2).far Z0 (noInts3 _ _ _ _ _ _ _) (kept3 _ _ _)).far Z1' (noInts3 _ _ _ _ _ _ _) (kept3 _ _ _)
              have BV : Arg V (.slice a2 ds.length c2) ds a2 c2 := by rw [← hV]; exact ((B.later hb2).far Z0 (noInts3 _ _ _ _ _ _ _) (kept3 _ _ _)).far Z1' (noInts3 _ _ _ _ _ _ _) (kept3 _ _ _)
              have CV : Arg V (.slice a3 zs.length c3) zs a3 c3 := by rw [← hV]; exact (C.far Z0 (noInts3 _ _ _ _ _ _ _) (kept3 _ _ _)).far Z1' (noInts3 _ _ _ _ _ _ _) (kept3 _ _ _)
              have DV : Arg V (.slice a4 es.length c4) es a4 c4 := by rw [← hV]; exact (D.far Z0 (noInts3 _ _ _ _ _ _ _) (kept3 _ _ _)).far Z1' (noInts3 _ _ _ _ _ _ _) (kept3 _ _ _)
              have hfin : ratOf m1 (val xs) (val ds) + ratOf m2 (val zs) (val es) = X + Y := by rw [hX, hY]
              have HF := Lib.hid hfin
              have mkS : ∀ X, Kept (w.heap.size + 1 + 1) V X → X.cell? ⟨w.heap.size, 0, none⟩ = some (.bool m1) ∧ X.cell? ⟨w.heap.size, 1, none⟩ = some (.slice a1 xs.length c1) ∧ X.cell? ⟨w.heap.size, 2, none⟩ = some (.slice a2 ds.length c2) ∧ X.cell? ⟨w.heap.size + 1, 0, none⟩ = some (.bool m2) ∧ X.cell? ⟨w.heap.size + 1, 1, none⟩ = some (.slice a3 zs.length c3) ∧ X.cell? ⟨w.heap.size + 1, 2, none⟩ = some (.slice a4 es.length c4) ∧ Kept (w.heap.size + 1 + 1) V X := fun X h => ⟨(P0.kept h (by omega)).cell 0, (P0.kept h (by omega)).cell 1, (P0.kept h (by omega)).cell 2, (P1.kept h (by omega)).cell 0, (P1.kept h (by omega)).cell 1, (P1.kept h (by omega)).cell 2, h⟩
              clear hfin hX hY Z0 Z1 Z1' A B C D R0 R1 R2 R0' R1' hu hv hu' hv' hb1 hb1d hb2 hBW p0 p1 p2 p3 p4 p5 o0 o1 o2 o3 o4 o5 t0 t1 t2 t3 t4 t5 s0 s1 s2 s3 s4 s5 i0 i1 i2
              go_wp2_with fail
              (try rw [hV])
              clear hV
              go_region_held3 (fun X => X.cell? ⟨w.heap.size, 0, none⟩ = some (.bool m1) ∧ X.cell? ⟨w.heap.size, 1, none⟩ = some (.slice a1 xs.length c1) ∧ X.cell? ⟨w.heap.size, 2, none⟩ = some (.slice a2 ds.length c2) ∧ X.cell? ⟨w.heap.size + 1, 0, none⟩ = some (.bool m2) ∧ X.cell? ⟨w.heap.size + 1, 1, none⟩ = some (.slice a3 zs.length c3) ∧ X.cell? ⟨w.heap.size + 1, 2, none⟩ = some (.slice a4 es.length c4) ∧ Kept (w.heap.size + 1 + 1) V X)
                (((refine mkS _ ?_; (repeat' (first | exact Kept.refl _ _ | refine Kept.drew ?_ | refine Kept.alloc ?_ _ | refine Kept.set ?_ _ _ | refine Kept.below ?_ (by assumption))))))
                ((first
                  | (go_at_call 95; refine (joinedP_any (n := n + 2) (AV.later hb3d) (BV.later hb3d) (CV.later hb3d) (DV.later hb3d) (by omega) (by omega) (by omega) (by omega) (by omega) hB hD (h3.later (Below.refl _ _))).mono ?_; rintro e w4 ⟨r4, rfl, q4, hb4⟩; rw [HF.out] at q4; obtain ⟨ng, fs, gs, f1, f2, j1, j2, rfl⟩ := q4.arg.box; have P4 := P3.later hb4; obtain ⟨u0, u1, u2, g0, g1, g2⟩ := P4.three)
                  | (go_at_call 96; refine (over_any (AV.later (Below.refl _ V).drew) (DV.later (Below.refl _ V).drew) (show xs.length ≤ n + 2 by omega) (by omega) (by omega)).mono ?_; rintro e w3 ⟨r3, rfl, h3, hb3⟩; have hb3d : Below V.heap.size V w3 := ⟨hb3.os, hb3.tape, hb3.output, hb3.size, hb3.block⟩; have P3 := P2.later hb3d)))
              have hs3 := hb3d.size
              have hs4 := hb4.size
              go_wp2_with fail
              refine bodyPost_ret (v := .agg #[.bool ng, .slice f1 fs.length j1, .slice f2 gs.length j2]) (by simp [results, Tryz.results48, go_sem, u0, u1, u2]) rfl ⟨_, rfl, ?_, ?_⟩
              · exact ((q4.far P4 (by decide) (kept3 _ _ _)).mono (by omega)).more (by omega)
              · exact below_set3 ((hB2.trans (hb3d.mono (by omega))).trans (hb4.mono (by omega))) (by omega) _ _ _
    case o2_2 =>
      go_simp
      refine hK.out _ _ trivial (fun hHeld => ?_)
      clear hK K hHeld
      try simp only [Act.put, List.setIfInBounds_toArray, List.set_cons_zero, List.set_cons_succ]
      refine wpAnyH_ready (rs := [1]) (by kernel_rfl) (by simp) ?_
      refine AllReadyH.cons rfl (fun K hK => ?o7_1) AllReadyH.nil
      case o7_1 =>
        go_simp
        (refine (plain_any hu' (by omega)).mono ?_)
        rintro e w1 ⟨r1, rfl, h1, hb1⟩
        have hb1d : Below W.heap.size W w1 := ⟨hb1.os, hb1.tape, hb1.output, hb1.size, hb1.block⟩
        obtain ⟨m1, xs, ds, a1, a2, c1, c2, rfl, A, B, hX, hx, hd, hB, _⟩ := h1
        have R0' := R0.later hb1d
        have R1' := R1.later hb1d
        obtain ⟨i0, i1, i2, _, _, _⟩ := R1'.three
        go_simp
        refine hK.out _ _ trivial (fun hHeld => ?_)
        clear hK K hHeld
        try simp only [Act.put, List.setIfInBounds_toArray, List.set_cons_zero, List.set_cons_succ]
        refine wpAnyH_ready (rs := [3]) (by kernel_rfl) (by simp) ?_
        refine AllReadyH.cons rfl (fun K hK => ?o8_3) AllReadyH.nil
        case o8_3 =>
          go_simp
          (refine (plain_any (hv'.later (show Below W.heap.size W w1 from hb1d)) (by omega)).mono ?_)
          rintro e w2 ⟨r2, rfl, h2, hb2⟩
          obtain ⟨m2, zs, es, a3, a4, c3, c4, rfl, C, D, hY, hz, he, hD, _⟩ := h2
          obtain ⟨t0, t1, t2, t3, t4, t5⟩ := (R0'.later hb2).three
          obtain ⟨s0, s1, s2, s3, s4, s5⟩ := (R1'.later hb2).three
          go_simp
          refine hK.out _ _ trivial (fun hHeld => ?_)
          clear hK K hHeld
          try simp only [Act.put, List.setIfInBounds_toArray, List.set_cons_zero, List.set_cons_succ]
          refine wpAnyH_ready (rs := [4]) (by kernel_rfl) (by simp) ?_
          refine AllReadyH.cons rfl (fun K hK => ?o9_4) AllReadyH.nil
          case o9_4 =>
            go_simp
            refine hK.out _ _ trivial (fun hHeld => ?_)
            clear hK K hHeld
            try simp only [Act.put, List.setIfInBounds_toArray, List.set_cons_zero, List.set_cons_succ]
            refine wpAnyH_ready (rs := [5]) (by kernel_rfl) (by simp) ?_
            refine AllReadyH.cons rfl (fun K hK => ?o10_5) AllReadyH.nil
            case o10_5 =>
              go_simp
              refine hK.out _ _ trivial (fun hHeld => ?_)
              clear hK K hHeld
              try simp only [Act.put, List.setIfInBounds_toArray, List.set_cons_zero, List.set_cons_succ]
              refine wpAnyH_done (by kernel_rfl) ?_ _
              refine NoPanic.normal ?_
              have hs1 := hb1d.size
              have hs2 := hb2.size
              obtain ⟨V, hV⟩ : ∃ V, (((((w2.setCell ⟨w.heap.size, 0, none⟩ (.bool m1)).setCell ⟨w.heap.size, 1, none⟩ (.slice a1 xs.length c1)).setCell ⟨w.heap.size, 2, none⟩ (.slice a2 ds.length c2)).setCell ⟨w.heap.size + 1, 0, none⟩ (.bool m2)).setCell ⟨w.heap.size + 1, 1, none⟩ (.slice a3 zs.length c3)).setCell ⟨w.heap.size + 1, 2, none⟩ (.slice a4 es.length c4) = V := ⟨_, rfl⟩
              have Z0 := (R0'.later hb2)
              have Z1 := (R1'.later hb2)
              have Z1' : Row (((w2.setCell ⟨w.heap.size, 0, none⟩ (.bool m1)).setCell ⟨w.heap.size, 1, none⟩ (.slice a1 xs.length c1)).setCell ⟨w.heap.size, 2, none⟩ (.slice a2 ds.length c2)) (w.heap.size + 1) 51 #[.bool n2, .slice e3 rs.length k3, .slice e4 ss.length k4] := ((Z1.far (by simp) _).far (by simp) _).far (by simp) _
              have P0 : Row V (w.heap.size) 51 #[.bool m1, .slice a1 xs.length c1, .slice a2 ds.length c2] := by rw [← hV]; exact (((Z0.set3 _ _ _).far (by simp) _).far (by simp) _).far (by simp) _
              have P1 : Row V (w.heap.size + 1) 51 #[.bool m2, .slice a3 zs.length c3, .slice a4 es.length c4] := by rw [← hV]; exact Z1'.set3 _ _ _
              have P2 : Row V (w.heap.size + 1 + 1) 51 #[.bool false, .slice none 0 0, .slice none 0 0] := by rw [← hV]; exact ((((((((R2.later hb1d).later hb2)).far (by simp <;> omega) _).far (by simp <;> omega) _).far (by simp <;> omega) _).far (by simp <;> omega) _).far (by simp <;> omega) _).far (by simp <;> omega) _
              have hsV : w2.heap.size ≤ V.heap.size := by rw [← hV]; simp
              have hB2 : Below w.heap.size w V := by rw [← hV]; exact below_set3 (below_set3 ((hBW.trans (hb1d.mono (by omega))).trans (hb2.mono (by omega))) (by omega) _ _ _) (by omega) _ _ _
              have AV : Arg V (.slice a1 xs.length c1) xs a1 c1 := by rw [← hV]; exact ((A.later hb2).far Z0 (noInts3 _ _ _ _ _ _ _) (kept3 _ _ _)).far Z1' (noInts3 _ _ _ _ _ _ _) (kept3 _ _ _)
              have BV : Arg V (.slice a2 ds.length c2) ds a2 c2 := by rw [← hV]; exact ((B.later hb2).far Z0 (noInts3 _ _ _ _ _ _ _) (kept3 _ _ _)).far Z1' (noInts3 _ _ _ _ _ _ _) (kept3 _ _ _)
              have CV : Arg V (.slice a3 zs.length c3) zs a3 c3 := by rw [← hV]; exact (C.far Z0 (noInts3 _ _ _ _ _ _ _) (kept3 _ _ _)).far Z1' (noInts3 _ _ _ _ _ _ _) (kept3 _ _ _)
              have DV : Arg V (.slice a4 es.length c4) es a4 c4 := by rw [← hV]; exact (D.far Z0 (noInts3 _ _ _ _ _ _ _) (kept3 _ _ _)).far Z1' (noInts3 _ _ _ _ _ _ _) (kept3 _ _ _)
              have hfin : ratOf m1 (val xs) (val ds) + ratOf m2 (val zs) (val es) = X + Y := by rw [hX, hY]
              have HF := Lib.hid hfin
              have mkS : ∀ X, Kept (w.heap.size + 1 + 1) V X → X.cell? ⟨w.heap.size, 0, none⟩ = some (.bool m1) ∧ X.cell? ⟨w.heap.size, 1, none⟩ = some (.slice a1 xs.length c1) ∧ X.cell? ⟨w.heap.size, 2, none⟩ = some (.slice a2 ds.length c2) ∧ X.cell? ⟨w.heap.size + 1, 0, none⟩ = some (.bool m2) ∧ X.cell? ⟨w.heap.size + 1, 1, none⟩ = some (.slice a3 zs.length c3) ∧ X.cell? ⟨w.heap.size + 1, 2, none⟩ = some (.slice a4 es.length c4) ∧ Kept (w.heap.size + 1 + 1) V X := fun X h => ⟨(P0.kept h (by omega)).cell 0, (P0.kept h (by omega)).cell 1, (P0.kept h (by omega)).cell 2, (P1.kept h (by omega)).cell 0, (P1.kept h (by omega)).cell 1, (P1.kept h (by omega)).cell 2, h⟩
              clear hfin hX hY Z0 Z1 Z1' A B C D R0 R1 R2 R0' R1' hu hv hu' hv' hb1 hb1d hb2 hBW p0 p1 p2 p3 p4 p5 o0 o1 o2 o3 o4 o5 t0 t1 t2 t3 t4 t5 s0 s1 s2 s3 s4 s5 i0 i1 i2
              go_wp2_with fail
              (try rw [hV])
              clear hV
              go_region_held3 (fun X => X.cell? ⟨w.heap.size, 0, none⟩ = some (.bool m1) ∧ X.cell? ⟨w.heap.size, 1, none⟩ = some (.slice a1 xs.length c1) ∧ X.cell? ⟨w.heap.size, 2, none⟩ = some (.slice a2 ds.length c2) ∧ X.cell? ⟨w.heap.size + 1, 0, none⟩ = some (.bool m2) ∧ X.cell? ⟨w.heap.size + 1, 1, none⟩ = some (.slice a3 zs.length c3) ∧ X.cell? ⟨w.heap.size + 1, 2, none⟩ = some (.slice a4 es.length c4) ∧ Kept (w.heap.size + 1 + 1) V X)
                (((refine mkS _ ?_; (repeat' (first | exact Kept.refl _ _ | refine Kept.drew ?_ | refine Kept.alloc ?_ _ | refine Kept.set ?_ _ _ | refine Kept.below ?_ (by assumption))))))
                ((first
                  | (go_at_call 95; refine (joinedP_any (n := n + 2) (AV.later hb3d) (BV.later hb3d) (CV.later hb3d) (DV.later hb3d) (by omega) (by omega) (by omega) (by omega) (by omega) hB hD (h3.later (Below.refl _ _))).mono ?_; rintro e w4 ⟨r4, rfl, q4, hb4⟩; rw [HF.out] at q4; obtain ⟨ng, fs, gs, f1, f2, j1, j2, rfl⟩ := q4.arg.box; have P4 := P3.later hb4; obtain ⟨u0, u1, u2, g0, g1, g2⟩ := P4.three)
                  | (go_at_call 96; refine (over_any (AV.later (Below.refl _ V).drew) (DV.later (Below.refl _ V).drew) (show xs.length ≤ n + 2 by omega) (by omega) (by omega)).mono ?_; rintro e w3 ⟨r3, rfl, h3, hb3⟩; have hb3d : Below V.heap.size V w3 := ⟨hb3.os, hb3.tape, hb3.output, hb3.size, hb3.block⟩; have P3 := P2.later hb3d)))
              have hs3 := hb3d.size
              have hs4 := hb4.size
              go_wp2_with fail
              refine bodyPost_ret (v := .agg #[.bool ng, .slice f1 fs.length j1, .slice f2 gs.length j2]) (by simp [results, Tryz.results48, go_sem, u0, u1, u2]) rfl ⟨_, rfl, ?_, ?_⟩
              · exact ((q4.far P4 (by decide) (kept3 _ _ _)).mono (by omega)).more (by omega)
              · exact below_set3 ((hB2.trans (hb3d.mono (by omega))).trans (hb4.mono (by omega))) (by omega) _ _ _
  case o1_2 =>
    go_simp
    refine hK.out _ _ trivial (fun hHeld => ?_)
    clear hK K hHeld
    try simp only [Act.put, List.setIfInBounds_toArray, List.set_cons_zero, List.set_cons_succ]
    refine wpAnyH_ready (rs := [0]) (by kernel_rfl) (by simp) ?_
    refine AllReadyH.cons rfl (fun K hK => ?o11_0) AllReadyH.nil
    case o11_0 =>
      go_simp
      refine hK.out _ _ trivial (fun hHeld => ?_)
      clear hK K hHeld
      try simp only [Act.put, List.setIfInBounds_toArray, List.set_cons_zero, List.set_cons_succ]
      refine wpAnyH_ready (rs := [1]) (by kernel_rfl) (by simp) ?_
      refine AllReadyH.cons rfl (fun K hK => ?o12_1) AllReadyH.nil
      case o12_1 =>
        go_simp
        (refine (plain_any hu' (by omega)).mono ?_)
        rintro e w1 ⟨r1, rfl, h1, hb1⟩
        have hb1d : Below W.heap.size W w1 := ⟨hb1.os, hb1.tape, hb1.output, hb1.size, hb1.block⟩
        obtain ⟨m1, xs, ds, a1, a2, c1, c2, rfl, A, B, hX, hx, hd, hB, _⟩ := h1
        have R0' := R0.later hb1d
        have R1' := R1.later hb1d
        obtain ⟨i0, i1, i2, _, _, _⟩ := R1'.three
        go_simp
        refine hK.out _ _ trivial (fun hHeld => ?_)
        clear hK K hHeld
        try simp only [Act.put, List.setIfInBounds_toArray, List.set_cons_zero, List.set_cons_succ]
        refine wpAnyH_ready (rs := [3]) (by kernel_rfl) (by simp) ?_
        refine AllReadyH.cons rfl (fun K hK => ?o13_3) AllReadyH.nil
        case o13_3 =>
          go_simp
          (refine (plain_any (hv'.later (show Below W.heap.size W w1 from hb1d)) (by omega)).mono ?_)
          rintro e w2 ⟨r2, rfl, h2, hb2⟩
          obtain ⟨m2, zs, es, a3, a4, c3, c4, rfl, C, D, hY, hz, he, hD, _⟩ := h2
          obtain ⟨t0, t1, t2, t3, t4, t5⟩ := (R0'.later hb2).three
          obtain ⟨s0, s1, s2, s3, s4, s5⟩ := (R1'.later hb2).three
          go_simp
          refine hK.out _ _ trivial (fun hHeld => ?_)
          clear hK K hHeld
          try simp only [Act.put, List.setIfInBounds_toArray, List.set_cons_zero, List.set_cons_succ]
          refine wpAnyH_ready (rs := [4]) (by kernel_rfl) (by simp) ?_
          refine AllReadyH.cons rfl (fun K hK => ?o14_4) AllReadyH.nil
          case o14_4 =>
            go_simp
            refine hK.out _ _ trivial (fun hHeld => ?_)
            clear hK K hHeld
            try simp only [Act.put, List.setIfInBounds_toArray, List.set_cons_zero, List.set_cons_succ]
            refine wpAnyH_ready (rs := [5]) (by kernel_rfl) (by simp) ?_
            refine AllReadyH.cons rfl (fun K hK => ?o15_5) AllReadyH.nil
            case o15_5 =>
              go_simp
              refine hK.out _ _ trivial (fun hHeld => ?_)
              clear hK K hHeld
              try simp only [Act.put, List.setIfInBounds_toArray, List.set_cons_zero, List.set_cons_succ]
              refine wpAnyH_done (by kernel_rfl) ?_ _
              refine NoPanic.normal ?_
              have hs1 := hb1d.size
              have hs2 := hb2.size
              obtain ⟨V, hV⟩ : ∃ V, (((((w2.setCell ⟨w.heap.size, 0, none⟩ (.bool m1)).setCell ⟨w.heap.size, 1, none⟩ (.slice a1 xs.length c1)).setCell ⟨w.heap.size, 2, none⟩ (.slice a2 ds.length c2)).setCell ⟨w.heap.size + 1, 0, none⟩ (.bool m2)).setCell ⟨w.heap.size + 1, 1, none⟩ (.slice a3 zs.length c3)).setCell ⟨w.heap.size + 1, 2, none⟩ (.slice a4 es.length c4) = V := ⟨_, rfl⟩
              have Z0 := (R0'.later hb2)
              have Z1 := (R1'.later hb2)
              have Z1' : Row (((w2.setCell ⟨w.heap.size, 0, none⟩ (.bool m1)).setCell ⟨w.heap.size, 1, none⟩ (.slice a1 xs.length c1)).setCell ⟨w.heap.size, 2, none⟩ (.slice a2 ds.length c2)) (w.heap.size + 1) 51 #[.bool n2, .slice e3 rs.length k3, .slice e4 ss.length k4] := ((Z1.far (by simp) _).far (by simp) _).far (by simp) _
              have P0 : Row V (w.heap.size) 51 #[.bool m1, .slice a1 xs.length c1, .slice a2 ds.length c2] := by rw [← hV]; exact (((Z0.set3 _ _ _).far (by simp) _).far (by simp) _).far (by simp) _
              have P1 : Row V (w.heap.size + 1) 51 #[.bool m2, .slice a3 zs.length c3, .slice a4 es.length c4] := by rw [← hV]; exact Z1'.set3 _ _ _
              have P2 : Row V (w.heap.size + 1 + 1) 51 #[.bool false, .slice none 0 0, .slice none 0 0] := by rw [← hV]; exact ((((((((R2.later hb1d).later hb2)).far (by simp <;> omega) _).far (by simp <;> omega) _).far (by simp <;> omega) _).far (by simp <;> omega) _).far (by simp <;> omega) _).far (by simp <;> omega) _
              have hsV : w2.heap.size ≤ V.heap.size := by rw [← hV]; simp
              have hB2 : Below w.heap.size w V := by rw [← hV]; exact below_set3 (below_set3 ((hBW.trans (hb1d.mono (by omega))).trans (hb2.mono (by omega))) (by omega) _ _ _) (by omega) _ _ _
              have AV : Arg V (.slice a1 xs.length c1) xs a1 c1 := by rw [← hV]; exact ((A.later hb2).far Z0 (noInts3 _ _ _ _ _ _ _) (kept3 _ _ _)).far Z1' (noInts3 _ _ _ _ _ _ _) (kept3 _ _ _)
              have BV : Arg V (.slice a2 ds.length c2) ds a2 c2 := by rw [← hV]; exact ((B.later hb2).far Z0 (noInts3 _ _ _ _ _ _ _) (kept3 _ _ _)).far Z1' (noInts3 _ _ _ _ _ _ _) (kept3 _ _ _)
              have CV : Arg V (.slice a3 zs.length c3) zs a3 c3 := by rw [← hV]; exact (C.far Z0 (noInts3 _ _ _ _ _ _ _) (kept3 _ _ _)).far Z1' (noInts3 _ _ _ _ _ _ _) (kept3 _ _ _)
              have DV : Arg V (.slice a4 es.length c4) es a4 c4 := by rw [← hV]; exact (D.far Z0 (noInts3 _ _ _ _ _ _ _) (kept3 _ _ _)).far Z1' (noInts3 _ _ _ _ _ _ _) (kept3 _ _ _)
              have hfin : ratOf m1 (val xs) (val ds) + ratOf m2 (val zs) (val es) = X + Y := by rw [hX, hY]
              have HF := Lib.hid hfin
              have mkS : ∀ X, Kept (w.heap.size + 1 + 1) V X → X.cell? ⟨w.heap.size, 0, none⟩ = some (.bool m1) ∧ X.cell? ⟨w.heap.size, 1, none⟩ = some (.slice a1 xs.length c1) ∧ X.cell? ⟨w.heap.size, 2, none⟩ = some (.slice a2 ds.length c2) ∧ X.cell? ⟨w.heap.size + 1, 0, none⟩ = some (.bool m2) ∧ X.cell? ⟨w.heap.size + 1, 1, none⟩ = some (.slice a3 zs.length c3) ∧ X.cell? ⟨w.heap.size + 1, 2, none⟩ = some (.slice a4 es.length c4) ∧ Kept (w.heap.size + 1 + 1) V X := fun X h => ⟨(P0.kept h (by omega)).cell 0, (P0.kept h (by omega)).cell 1, (P0.kept h (by omega)).cell 2, (P1.kept h (by omega)).cell 0, (P1.kept h (by omega)).cell 1, (P1.kept h (by omega)).cell 2, h⟩
              clear hfin hX hY Z0 Z1 Z1' A B C D R0 R1 R2 R0' R1' hu hv hu' hv' hb1 hb1d hb2 hBW p0 p1 p2 p3 p4 p5 o0 o1 o2 o3 o4 o5 t0 t1 t2 t3 t4 t5 s0 s1 s2 s3 s4 s5 i0 i1 i2
              go_wp2_with fail
              (try rw [hV])
              clear hV
              go_region_held3 (fun X => X.cell? ⟨w.heap.size, 0, none⟩ = some (.bool m1) ∧ X.cell? ⟨w.heap.size, 1, none⟩ = some (.slice a1 xs.length c1) ∧ X.cell? ⟨w.heap.size, 2, none⟩ = some (.slice a2 ds.length c2) ∧ X.cell? ⟨w.heap.size + 1, 0, none⟩ = some (.bool m2) ∧ X.cell? ⟨w.heap.size + 1, 1, none⟩ = some (.slice a3 zs.length c3) ∧ X.cell? ⟨w.heap.size + 1, 2, none⟩ = some (.slice a4 es.length c4) ∧ Kept (w.heap.size + 1 + 1) V X)
                (((refine mkS _ ?_; (repeat' (first | exact Kept.refl _ _ | refine Kept.drew ?_ | refine Kept.alloc ?_ _ | refine Kept.set ?_ _ _ | refine Kept.below ?_ (by assumption))))))
                ((first
                  | (go_at_call 95; refine (joinedP_any (n := n + 2) (AV.later hb3d) (BV.later hb3d) (CV.later hb3d) (DV.later hb3d) (by omega) (by omega) (by omega) (by omega) (by omega) hB hD (h3.later (Below.refl _ _))).mono ?_; rintro e w4 ⟨r4, rfl, q4, hb4⟩; rw [HF.out] at q4; obtain ⟨ng, fs, gs, f1, f2, j1, j2, rfl⟩ := q4.arg.box; have P4 := P3.later hb4; obtain ⟨u0, u1, u2, g0, g1, g2⟩ := P4.three)
                  | (go_at_call 96; refine (over_any (AV.later (Below.refl _ V).drew) (DV.later (Below.refl _ V).drew) (show xs.length ≤ n + 2 by omega) (by omega) (by omega)).mono ?_; rintro e w3 ⟨r3, rfl, h3, hb3⟩; have hb3d : Below V.heap.size V w3 := ⟨hb3.os, hb3.tape, hb3.output, hb3.size, hb3.block⟩; have P3 := P2.later hb3d)))
              have hs3 := hb3d.size
              have hs4 := hb4.size
              go_wp2_with fail
              refine bodyPost_ret (v := .agg #[.bool ng, .slice f1 fs.length j1, .slice f2 gs.length j2]) (by simp [results, Tryz.results48, go_sem, u0, u1, u2]) rfl ⟨_, rfl, ?_, ?_⟩
              · exact ((q4.far P4 (by decide) (kept3 _ _ _)).mono (by omega)).more (by omega)
              · exact below_set3 ((hB2.trans (hb3d.mono (by omega))).trans (hb4.mono (by omega))) (by omega) _ _ _
end
section
open Go.RowKit
set_option linter.unusedVariables false
set_option linter.unusedSimpArgs false
set_option maxRecDepth 100000 in
set_option maxHeartbeats 8000000 in
theorem subQ_any {n : Nat} {w : World} {u v : Value} {X Y : Rat} (hu : ArgQ w u X n) (hv : ArgQ w v Y n) (hn : n ≤ 16777000) :
    Calls Tryz.prog 49 #[u, v] w fun e w' => ∃ r, e = .returned r ∧ ResQ w.heap.size w' r (X - Y) (2 * n + 10) ∧ Below w.heap.size w w' := by
  obtain ⟨n1, ps, qs, e1, e2, k1, k2, rfl⟩ := hu.box
  obtain ⟨n2, rs, ss, e3, e4, k3, k4, rfl⟩ := hv.box
  obtain ⟨W, hW⟩ : ∃ W, (((w.alloc (.cells #[.bool n1, .slice e1 ps.length k1, .slice e2 qs.length k2] 51)).alloc (.cells #[.bool n2, .slice e3 rs.length k3, .slice e4 ss.length k4] 51)).alloc (.cells #[.bool false, .slice none 0 0, .slice none 0 0] 51)) = W := ⟨_, rfl⟩
  have R0 : Row W (w.heap.size) 51 #[.bool n1, .slice e1 ps.length k1, .slice e2 qs.length k2] := by rw [← hW]; exact (((Row.new _ _ _).alloc _).alloc _)
  have R1 : Row W (w.heap.size + 1) 51 #[.bool n2, .slice e3 rs.length k3, .slice e4 ss.length k4] := by rw [← hW]; have h := (Row.new (w.alloc (.cells #[.bool n1, .slice e1 ps.length k1, .slice e2 qs.length k2] 51)) 51 #[.bool n2, .slice e3 rs.length k3, .slice e4 ss.length k4]); simp only [World.size_alloc] at h; exact (h.alloc _)
  have R2 : Row W (w.heap.size + 1 + 1) 51 #[.bool false, .slice none 0 0, .slice none 0 0] := by rw [← hW]; have h := (Row.new ((w.alloc (.cells #[.bool n1, .slice e1 ps.length k1, .slice e2 qs.length k2] 51)).alloc (.cells #[.bool n2, .slice e3 rs.length k3, .slice e4 ss.length k4] 51)) 51 #[.bool false, .slice none 0 0, .slice none 0 0]); simp only [World.size_alloc] at h; exact h
  have hBW : Below w.heap.size w W := by rw [← hW]; exact ((((Below.refl _ _).alloc (by (try simp) <;> omega) _).alloc (by (try simp) <;> omega) _).alloc (by (try simp) <;> omega) _)
  have hsW : w.heap.size + 1 + 1 + 1 ≤ W.heap.size := by rw [← hW]; simp
  have hu' := (hu.later hBW).later (Below.refl _ W).drew
  have hv' := hv.later hBW
  obtain ⟨p0, p1, p2, p3, p4, p5⟩ := R0.three
  obtain ⟨o0, o1, o2, o3, o4, o5⟩ := R1.three
  have hmf : ∀ (fn : Fn) (first cap : Array Value) (w : World), (Instr.makeFunc fn first cap).run Tryz.prog w = .ok (.func fn first cap) w := fun _ _ _ _ => rfl
  go_enter Tryz.func49, Tryz.ntmps49
  go_wp2_with fail
  clear hW
  refine wp_region_noPanic ?_
  refine wp_region_held_drew (S := fun _ => True) (by kernel_rfl) trivial (fun hHeld => ?_)
  clear hHeld
  refine wpAnyH_ready (rs := [0, 2]) (by kernel_rfl) (by simp) ?_
  refine AllReadyH.cons rfl (fun K hK => ?o1_0) (AllReadyH.cons rfl (fun K hK => ?o1_2) AllReadyH.nil)
  case o1_0 =>
    go_simp
    refine hK.out _ _ trivial (fun hHeld => ?_)
    clear hK K hHeld
    try simp only [Act.put, List.setIfInBounds_toArray, List.set_cons_zero, List.set_cons_succ]
    refine wpAnyH_ready (rs := [1, 2]) (by kernel_rfl) (by simp) ?_
    refine AllReadyH.cons rfl (fun K hK => ?o2_1) (AllReadyH.cons rfl (fun K hK => ?o2_2) AllReadyH.nil)
    case o2_1 =>
      go_simp
      (refine (plain_any hu' (by omega)).mono ?_)
      rintro e w1 ⟨r1, rfl, h1, hb1⟩
      have hb1d : Below W.heap.size W w1 := ⟨hb1.os, hb1.tape, hb1.output, hb1.size, hb1.block⟩
      obtain ⟨m1, xs, ds, a1, a2, c1, c2, rfl, A, B, hX, hx, hd, hB, _⟩ := h1
      have R0' := R0.later hb1d
      have R1' := R1.later hb1d
      obtain ⟨i0, i1, i2, _, _, _⟩ := R1'.three
      go_simp
      refine hK.out _ _ trivial (fun hHeld => ?_)
      clear hK K hHeld
      try simp only [Act.put, List.setIfInBounds_toArray, List.set_cons_zero, List.set_cons_succ]
      refine wpAnyH_ready (rs := [2]) (by kernel_rfl) (by simp) ?_
      refine AllReadyH.cons rfl (fun K hK => ?o3_2) AllReadyH.nil
      case o3_2 =>
        go_simp
        refine hK.out _ _ trivial (fun hHeld => ?_)
        clear hK K hHeld
        try simp only [Act.put, List.setIfInBounds_toArray, List.set_cons_zero, List.set_cons_succ]
        refine wpAnyH_ready (rs := [3]) (by kernel_rfl) (by simp) ?_
        refine AllReadyH.cons rfl (fun K hK => ?o4_3) AllReadyH.nil
        case o4_3 =>
          go_simp
          (refine (plain_any (hv'.later (show Below W.heap.size W w1 from hb1d)) (by omega)).mono ?_)
          rintro e w2 ⟨r2, rfl, h2, hb2⟩
          obtain ⟨m2, zs, es, a3, a4, c3, c4, rfl, C, D, hY, hz, he, hD, _⟩ := h2
          obtain ⟨t0, t1, t2, t3, t4, t5⟩ := (R0'.later hb2).three
          obtain ⟨s0, s1, s2, s3, s4, s5⟩ := (R1'.later hb2).three
          go_simp
          refine hK.out _ _ trivial (fun hHeld => ?_)
          clear hK K hHeld
          try simp only [Act.put, List.setIfInBounds_toArray, List.set_cons_zero, List.set_cons_succ]
          refine wpAnyH_ready (rs := [4]) (by kernel_rfl) (by simp) ?_
          refine AllReadyH.cons rfl (fun K hK => ?o5_4) AllReadyH.nil
          case o5_4 =>
            go_simp
            refine hK.out _ _ trivial (fun hHeld => ?_)
            clear hK K hHeld
            try simp only [Act.put, List.setIfInBounds_toArray, List.set_cons_zero, List.set_cons_succ]
            refine wpAnyH_ready (rs := [5]) (by kernel_rfl) (by simp) ?_
            refine AllReadyH.cons rfl (fun K hK => ?o6_5) AllReadyH.nil
            case o6_5 =>
              go_simp
              refine hK.out _ _ trivial (fun hHeld => ?_)
              clear hK K hHeld
              try simp only [Act.put, List.setIfInBounds_toArray, List.set_cons_zero, List.set_cons_succ]
              refine wpAnyH_done (by kernel_rfl) ?_ _
              refine NoPanic.normal ?_
              have hs1 := hb1d.size
              have hs2 := hb2.size
              obtain ⟨V, hV⟩ : ∃ V, (((((w2.setCell ⟨w.heap.size, 0, none⟩ (.bool m1)).setCell ⟨w.heap.size, 1, none⟩ (.slice a1 xs.length c1)).setCell ⟨w.heap.size, 2, none⟩ (.slice a2 ds.length c2)).setCell ⟨w.heap.size + 1, 0, none⟩ (.bool m2)).setCell ⟨w.heap.size + 1, 1, none⟩ (.slice a3 zs.length c3)).setCell ⟨w.heap.size + 1, 2, none⟩ (.slice a4 es.length c4) = V := ⟨_, rfl⟩
              have Z0 := (R0'.later hb2)
              have Z1 := (R1'.later hb2)
              have Z1' : Row (((w2.setCell ⟨w.heap.size, 0, none⟩ (.bool m1)).setCell ⟨w.heap.size, 1, none⟩ (.slice a1 xs.length c1)).setCell ⟨w.heap.size, 2, none⟩ (.slice a2 ds.length c2)) (w.heap.size + 1) 51 #[.bool n2, .slice e3 rs.length k3, .slice e4 ss.length k4] := ((Z1.far (by simp) _).far (by simp) _).far (by simp) _
              have P0 : Row V (w.heap.size) 51 #[.bool m1, .slice a1 xs.length c1, .slice a2 ds.length c2] := by rw [← hV]; exact (((Z0.set3 _ _ _).far (by simp) _).far (by simp) _).far (by simp) _
              have P1 : Row V (w.heap.size + 1) 51 #[.bool m2, .slice a3 zs.length c3, .slice a4 es.length c4] := by rw [← hV]; exact Z1'.set3 _ _ _
              have P2 : Row V (w.heap.size + 1 + 1) 51 #[.bool false, .slice none 0 0, .slice none 0 0] := by rw [← hV]; exact ((((((((R2.later hb1d).later hb2)).far (by simp <;> omega) _).far (by simp <;> omega) _).far (by simp <;> omega) _).far (by simp <;> omega) _).far (by simp <;> omega) _).far (by simp <;> omega) _
              have hsV : w2.heap.size ≤ V.heap.size := by rw [← hV]; simp
              have hB2 : Below w.heap.size w V := by rw [← hV]; exact below_set3 (below_set3 ((hBW.trans (hb1d.mono (by omega))).trans (hb2.mono (by omega))) (by omega) _ _ _) (by omega) _ _ _
              have AV : Arg V (.slice a1 xs.length c1) xs a1 c1 := by rw [← hV]; exact ((A.later hb2).far Z0 (noInts3 _ _ _ _ _ _ _) (kept3 _ _ _)).far Z1' (noInts3 _ _ _ _ _ _ _) (kept3 _ _ _)
              have BV : Arg V (.slice a2 ds.length c2) ds a2 c2 := by rw [← hV]; exact ((B.later hb2).far Z0 (noInts3 _ _ _ _ _ _ _) (kept3 _ _ _)).far Z1' (noInts3 _ _ _ _ _ _ _) (kept3 _ _ _)
              have CV : Arg V (.slice a3 zs.length c3) zs a3 c3 := by rw [← hV]; exact (C.far Z0 (noInts3 _ _ _ _ _ _ _) (kept3 _ _ _)).far Z1' (noInts3 _ _ _ _ _ _ _) (kept3 _ _ _)
              have DV : Arg V (.slice a4 es.length c4) es a4 c4 := by rw [← hV]; exact (D.far Z0 (noInts3 _ _ _ _ _ _ _) (kept3 _ _ _)).far Z1' (noInts3 _ _ _ _ _ _ _) (kept3 _ _ _)
              have hfin : ratOf m1 (val xs) (val ds) - ratOf m2 (val zs) (val es) = X - Y := by rw [hX, hY]
              have HF := Lib.hid hfin
              have mkS : ∀ X, Kept (w.heap.size + 1 + 1) V X → X.cell? ⟨w.heap.size, 0, none⟩ = some (.bool m1) ∧ X.cell? ⟨w.heap.size, 1, none⟩ = some (.slice a1 xs.length c1) ∧ X.cell? ⟨w.heap.size, 2, none⟩ = some (.slice a2 ds.length c2) ∧ X.cell? ⟨w.heap.size + 1, 0, none⟩ = some (.bool m2) ∧ X.cell? ⟨w.heap.size + 1, 1, none⟩ = some (.slice a3 zs.length c3) ∧ X.cell? ⟨w.heap.size + 1, 2, none⟩ = some (.slice a4 es.length c4) ∧ Kept (w.heap.size + 1 + 1) V X := fun X h => ⟨(P0.kept h (by omega)).cell 0, (P0.kept h (by omega)).cell 1, (P0.kept h (by omega)).cell 2, (P1.kept h (by omega)).cell 0, (P1.kept h (by omega)).cell 1, (P1.kept h (by omega)).cell 2, h⟩
              clear hfin hX hY Z0 Z1 Z1' A B C D R0 R1 R2 R0' R1' hu hv hu' hv' hb1 hb1d hb2 hBW p0 p1 p2 p3 p4 p5 o0 o1 o2 o3 o4 o5 t0 t1 t2 t3 t4 t5 s0 s1 s2 s3 s4 s5 i0 i1 i2
              go_wp2_with fail
              (try rw [hV])
              clear hV
              go_region_held3 (fun X => X.cell? ⟨w.heap.size, 0, none⟩ = some (.bool m1) ∧ X.cell? ⟨w.heap.size, 1, none⟩ = some (.slice a1 xs.length c1) ∧ X.cell? ⟨w.heap.size, 2, none⟩ = some (.slice a2 ds.length c2) ∧ X.cell? ⟨w.heap.size + 1, 0, none⟩ = some (.bool m2) ∧ X.cell? ⟨w.heap.size + 1, 1, none⟩ = some (.slice a3 zs.length c3) ∧ X.cell? ⟨w.heap.size + 1, 2, none⟩ = some (.slice a4 es.length c4) ∧ Kept (w.heap.size + 1 + 1) V X)
                (((refine mkS _ ?_; (repeat' (first | exact Kept.refl _ _ | refine Kept.drew ?_ | refine Kept.alloc ?_ _ | refine Kept.set ?_ _ _ | refine Kept.below ?_ (by assumption))))))
                ((first
                  | (go_at_call 95; refine (joinedM_any (n := n + 2) (AV.later hb3d) (BV.later hb3d) (CV.later hb3d) (DV.later hb3d) (by omega) (by omega) (by omega) (by omega) (by omega) hB hD (h3.later (Below.refl _ _))).mono ?_; rintro e w4 ⟨r4, rfl, q4, hb4⟩; rw [HF.out] at q4; obtain ⟨ng, fs, gs, f1, f2, j1, j2, rfl⟩ := q4.arg.box; have P4 := P3.later hb4; obtain ⟨u0, u1, u2, g0, g1, g2⟩ := P4.three)
                  | (go_at_call 96; refine (over_any (AV.later (Below.refl _ V).drew) (DV.later (Below.refl _ V).drew) (show xs.length ≤ n + 2 by omega) (by omega) (by omega)).mono ?_; rintro e w3 ⟨r3, rfl, h3, hb3⟩; have hb3d : Below V.heap.size V w3 := ⟨hb3.os, hb3.tape, hb3.output, hb3.size, hb3.block⟩; have P3 := P2.later hb3d)))
              have hs3 := hb3d.size
              have hs4 := hb4.size
              go_wp2_with fail
              refine bodyPost_ret (v := .agg #[.bool ng, .slice f1 fs.length j1, .slice f2 gs.length j2]) (by simp [results, Tryz.results49, go_sem, u0, u1, u2]) rfl ⟨_, rfl, ?_, ?_⟩
              · exact ((q4.far P4 (by decide) (kept3 _ _ _)).mono (by omega)).more (by omega)
              · exact below_set3 ((hB2.trans (hb3d.mono (by omega))).trans (hb4.mono (by omega))) (by omega) _ _ _
    case o2_2 =>
      go_simp
      refine hK.out _ _ trivial (fun hHeld => ?_)
      clear hK K hHeld
      try simp only [Act.put, List.setIfInBounds_toArray, List.set_cons_zero, List.set_cons_succ]
      refine wpAnyH_ready (rs := [1]) (by kernel_rfl) (by simp) ?_
      refine AllReadyH.cons rfl (fun K hK => ?o7_1) AllReadyH.nil
      case o7_1 =>
        go_simp
        (refine (plain_any hu' (by omega)).mono ?_)
        rintro e w1 ⟨r1, rfl, h1, hb1⟩
        have hb1d : Below W.heap.size W w1 := ⟨hb1.os, hb1.tape, hb1.output, hb1.size, hb1.block⟩
        obtain ⟨m1, xs, ds, a1, a2, c1, c2, rfl, A, B, hX, hx, hd, hB, _⟩ := h1
        have R0' := R0.later hb1d
        have R1' := R1.later hb1d
        obtain ⟨i0, i1, i2, _, _, _⟩ := R1'.three
        go_simp
        refine hK.out _ _ trivial (fun hHeld => ?_)
        clear hK K hHeld
        try simp only [Act.put, List.setIfInBounds_toArray, List.set_cons_zero, List.set_cons_succ]
        refine wpAnyH_ready (rs := [3]) (by kernel_rfl) (by simp) ?_
        refine AllReadyH.cons rfl (fun K hK => ?o8_3) AllReadyH.nil
        case o8_3 =>
          go_simp
          (refine (plain_any (hv'.later (show Below W.heap.size W w1 from hb1d)) (by omega)).mono ?_)
          rintro e w2 ⟨r2, rfl, h2, hb2⟩
          obtain ⟨m2, zs, es, a3, a4, c3, c4, rfl, C, D, hY, hz, he, hD, _⟩ := h2
          obtain ⟨t0, t1, t2, t3, t4, t5⟩ := (R0'.later hb2).three
          obtain ⟨s0, s1, s2, s3, s4, s5⟩ := (R1'.later hb2).three
          go_simp
          refine hK.out _ _ trivial (fun hHeld => ?_)
          clear hK K hHeld
          try simp only [Act.put, List.setIfInBounds_toArray, List.set_cons_zero, List.set_cons_succ]
          refine wpAnyH_ready (rs := [4]) (by kernel_rfl) (by simp) ?_
          refine AllReadyH.cons rfl (fun K hK => ?o9_4) AllReadyH.nil
          case o9_4 =>
            go_simp
            refine hK.out _ _ trivial (fun hHeld => ?_)
            clear hK K hHeld
            try simp only [Act.put, List.setIfInBounds_toArray, List.set_cons_zero, List.set_cons_succ]
            refine wpAnyH_ready (rs := [5]) (by kernel_rfl) (by simp) ?_
            refine AllReadyH.cons rfl (fun K hK => ?o10_5) AllReadyH.nil
            case o10_5 =>
              go_simp
              refine hK.out _ _ trivial (fun hHeld => ?_)
              clear hK K hHeld
              try simp only [Act.put, List.setIfInBounds_toArray, List.set_cons_zero, List.set_cons_succ]
              refine wpAnyH_done (by kernel_rfl) ?_ _
              refine NoPanic.normal ?_
              have hs1 := hb1d.size
              have hs2 := hb2.size
              obtain ⟨V, hV⟩ : ∃ V, (((((w2.setCell ⟨w.heap.size, 0, none⟩ (.bool m1)).setCell ⟨w.heap.size, 1, none⟩ (.slice a1 xs.length c1)).setCell ⟨w.heap.size, 2, none⟩ (.slice a2 ds.length c2)).setCell ⟨w.heap.size + 1, 0, none⟩ (.bool m2)).setCell ⟨w.heap.size + 1, 1, none⟩ (.slice a3 zs.length c3)).setCell ⟨w.heap.size + 1, 2, none⟩ (.slice a4 es.length c4) = V := ⟨_, rfl⟩
              have Z0 := (R0'.later hb2)
              have Z1 := (R1'.later hb2)
              have Z1' : Row (((w2.setCell ⟨w.heap.size, 0, none⟩ (.bool m1)).setCell ⟨w.heap.size, 1, none⟩ (.slice a1 xs.length c1)).setCell ⟨w.heap.size, 2, none⟩ (.slice a2 ds.length c2)) (w.heap.size + 1) 51 #[.bool n2, .slice e3 rs.length k3, .slice e4 ss.length k4] := ((Z1.far (by simp) _).far (by simp) _).far (by simp) _
              have P0 : Row V (w.heap.size) 51 #[.bool m1, .slice a1 xs.length c1, .slice a2 ds.length c2] := by rw [← hV]; exact (((Z0.set3 _ _ _).far (by simp) _).far (by simp) _).far (by simp) _
              have P1 : Row V (w.heap.size + 1) 51 #[.bool m2, .slice a3 zs.length c3, .slice a4 es.length c4] := by rw [← hV]; exact Z1'.set3 _ _ _
              have P2 : Row V (w.heap.size + 1 + 1) 51 #[.bool false, .slice none 0 0, .slice none 0 0] := by rw [← hV]; exact ((((((((R2.later hb1d).later hb2)).far (by simp <;> omega) _).far (by simp <;> omega) _).far (by simp <;> omega) _).far (by simp <;> omega) _).far (by simp <;> omega) _).far (by simp <;> omega) _
              have hsV : w2.heap.size ≤ V.heap.size := by rw [← hV]; simp
              have hB2 : Below w.heap.size w V := by rw [← hV]; exact below_set3 (below_set3 ((hBW.trans (hb1d.mono (by omega))).trans (hb2.mono (by omega))) (by omega) _ _ _) (by omega) _ _ _
              have AV : Arg V (.slice a1 xs.length c1) xs a1 c1 := by rw [← hV]; exact ((A.later hb2).far Z0 (noInts3 _ _ _ _ _ _ _) (kept3 _ _ _)).far Z1' (noInts3 _ _ _ _ _ _ _) (kept3 _ _ _)
              have BV : Arg V (.slice a2 ds.length c2) ds a2 c2 := by rw [← hV]; exact ((B.later hb2).far Z0 (noInts3 _ _ _ _ _ _ _) (kept3 _ _ _)).far Z1' (noInts3 _ _ _ _ _ _ _) (kept3 _ _ _)
              have CV : Arg V (.slice a3 zs.length c3) zs a3 c3 := by rw [← hV]; exact (C.far Z0 (noInts3 _ _ _ _ _ _ _) (kept3 _ _ _)).far Z1' (noInts3 _ _ _ _ _ _ _) (kept3 _ _ _)
              have DV : Arg V (.slice a4 es.length c4) es a4 c4 := by rw [← hV]; exact (D.far Z0 (noInts3 _ _ _ _ _ _ _) (kept3 _ _ _)).far Z1' (noInts3 _ _ _ _ _ _ _) (kept3 _ _ _)
              have hfin : ratOf m1 (val xs) (val ds) - ratOf m2 (val zs) (val es) = X - Y := by rw [hX, hY]
              have HF := Lib.hid hfin
              have mkS : ∀ X, Kept (w.heap.size + 1 + 1) V X → X.cell? ⟨w.heap.size, 0, none⟩ = some (.bool m1) ∧ X.cell? ⟨w.heap.size, 1, none⟩ = some (.slice a1 xs.length c1) ∧ X.cell? ⟨w.heap.size, 2, none⟩ = some (.slice a2 ds.length c2) ∧ X.cell? ⟨w.heap.size + 1, 0, none⟩ = some (.bool m2) ∧ X.cell? ⟨w.heap.size + 1, 1, none⟩ = some (.slice a3 zs.length c3) ∧ X.cell? ⟨w.heap.size + 1, 2, none⟩ = some (.slice a4 es.length c4) ∧ Kept (w.heap.size + 1 + 1) V X := fun X h => ⟨(P0.kept h (by omega)).cell 0, (P0.kept h (by omega)).cell 1, (P0.kept h (by omega)).cell 2, (P1.kept h (by omega)).cell 0, (P1.kept h (by omega)).cell 1, (P1.kept h (by omega)).cell 2, h⟩
              clear hfin hX hY Z0 Z1 Z1' A B C D R0 R1 R2 R0' R1' hu hv hu' hv' hb1 hb1d hb2 hBW p0 p1 p2 p3 p4 p5 o0 o1 o2 o3 o4 o5 t0 t1 t2 t3 t4 t5 s0 s1 s2 s3 s4 s5 i0 i1 i2
              go_wp2_with fail
              (try rw [hV])
              clear hV
              go_region_held3 (fun X => X.cell? ⟨w.heap.size, 0, none⟩ = some (.bool m1) ∧ X.cell? ⟨w.heap.size, 1, none⟩ = some (.slice a1 xs.length c1) ∧ X.cell? ⟨w.heap.size, 2, none⟩ = some (.slice a2 ds.length c2) ∧ X.cell? ⟨w.heap.size + 1, 0, none⟩ = some (.bool m2) ∧ X.cell? ⟨w.heap.size + 1, 1, none⟩ = some (.slice a3 zs.length c3) ∧ X.cell? ⟨w.heap.size + 1, 2, none⟩ = some (.slice a4 es.length c4) ∧ Kept (w.heap.size + 1 + 1) V X)
                (((refine mkS _ ?_; (repeat' (first | exact Kept.refl _ _ | refine Kept.drew ?_ | refine Kept.alloc ?_ _ | refine Kept.set ?_ _ _ | refine Kept.below ?_ (by assumption))))))
                ((first
                  | (go_at_call 95; refine (joinedM_any (n := n + 2) (AV.later hb3d) (BV.later hb3d) (CV.later hb3d) (DV.later hb3d) (by omega) (by omega) (by omega) (by omega) (by omega) hB hD (h3.later (Below.refl _ _))).mono ?_; rintro e w4 ⟨r4, rfl, q4, hb4⟩; rw [HF.out] at q4; obtain ⟨ng, fs, gs, f1, f2, j1, j2, rfl⟩ := q4.arg.box; have P4 := P3.later hb4; obtain ⟨u0, u1, u2, g0, g1, g2⟩ := P4.three)
                  | (go_at_call 96; refine (over_any (AV.later (Below.refl _ V).drew) (DV.later (Below.refl _ V).drew) (show xs.length ≤ n + 2 by omega) (by omega) (by omega)).mono ?_; rintro e w3 ⟨r3, rfl, h3, hb3⟩; have hb3d : Below V.heap.size V w3 := ⟨hb3.os, hb3.tape, hb3.output, hb3.size, hb3.block⟩; have P3 := P2.later hb3d)))
              have hs3 := hb3d.size
              have hs4 := hb4.size
              go_wp2_with fail
              refine bodyPost_ret (v := .agg #[.bool ng, .slice f1 fs.length j1, .slice f2 gs.length j2]) (by simp [results, Tryz.results49, go_sem, u0, u1, u2]) rfl ⟨_, rfl, ?_, ?_⟩
              · exact ((q4.far P4 (by decide) (kept3 _ _ _)).mono (by omega)).more (by omega)
              · exact below_set3 ((hB2.trans (hb3d.mono (by omega))).trans (hb4.mono (by omega))) (by omega) _ _ _
  case o1_2 =>
    go_simp
    refine hK.out _ _ trivial (fun hHeld => ?_)
    clear hK K hHeld
    try simp only [Act.put, List.setIfInBounds_toArray, List.set_cons_zero, List.set_cons_succ]
    refine wpAnyH_ready (rs := [0]) (by kernel_rfl) (by simp) ?_
    refine AllReadyH.cons rfl (fun K hK => ?o11_0) AllReadyH.nil
    case o11_0 =>
      go_simp
      refine hK.out _ _ trivial (fun hHeld => ?_)
      clear hK K hHeld
      try simp only [Act.put, List.setIfInBounds_toArray, List.set_cons_zero, List.set_cons_succ]
      refine wpAnyH_ready (rs := [1]) (by kernel_rfl) (by simp) ?_
      refine AllReadyH.cons rfl (fun K hK => ?o12_1) AllReadyH.nil
      case o12_1 =>
        go_simp
        (refine (plain_any hu' (by omega)).mono ?_)
        rintro e w1 ⟨r1, rfl, h1, hb1⟩
        have hb1d : Below W.heap.size W w1 := ⟨hb1.os, hb1.tape, hb1.output, hb1.size, hb1.block⟩
        obtain ⟨m1, xs, ds, a1, a2, c1, c2, rfl, A, B, hX, hx, hd, hB, _⟩ := h1
        have R0' := R0.later hb1d
        have R1' := R1.later hb1d
        obtain ⟨i0, i1, i2, _, _, _⟩ := R1'.three
        go_simp
        refine hK.out _ _ trivial (fun hHeld => ?_)
        clear hK K hHeld
        try simp only [Act.put, List.setIfInBounds_toArray, List.set_cons_zero, List.set_cons_succ]
        refine wpAnyH_ready (rs := [3]) (by kernel_rfl) (by simp) ?_
        refine AllReadyH.cons rfl (fun K hK => ?o13_3) AllReadyH.nil
        case o13_3 =>
          go_simp
          (refine (plain_any (hv'.later (show Below W.heap.size W w1 from hb1d)) (by omega)).mono ?_)
          rintro e w2 ⟨r2, rfl, h2, hb2⟩
          obtain ⟨m2, zs, es, a3, a4, c3, c4, rfl, C, D, hY, hz, he, hD, _⟩ := h2
          obtain ⟨t0, t1, t2, t3, t4, t5⟩ := (R0'.later hb2).three
          obtain ⟨s0, s1, s2, s3, s4, s5⟩ := (R1'.later hb2).three
          go_simp
          refine hK.out _ _ trivial (fun hHeld => ?_)
          clear hK K hHeld
          try simp only [Act.put, List.setIfInBounds_toArray, List.set_cons_zero, List.set_cons_succ]
          refine wpAnyH_ready (rs := [4]) (by kernel_rfl) (by simp) ?_
          refine AllReadyH.cons rfl (fun K hK => ?o14_4) AllReadyH.nil
          case o14_4 =>
            go_simp
            refine hK.out _ _ trivial (fun hHeld => ?_)
            clear hK K hHeld
            try simp only [Act.put, List.setIfInBounds_toArray, List.set_cons_zero, List.set_cons_succ]
            refine wpAnyH_ready (rs := [5]) (by kernel_rfl) (by simp) ?_
            refine AllReadyH.cons rfl (fun K hK => ?o15_5) AllReadyH.nil
            case o15_5 =>
              go_simp
              refine hK.out _ _ trivial (fun hHeld => ?_)
              clear hK K hHeld
              try simp only [Act.put, List.setIfInBounds_toArray, List.set_cons_zero, List.set_cons_succ]
              refine wpAnyH_done (by kernel_rfl) ?_ _
              refine NoPanic.normal ?_
              have hs1 := hb1d.size
              have hs2 := hb2.size
              obtain ⟨V, hV⟩ : ∃ V, (((((w2.setCell ⟨w.heap.size, 0, none⟩ (.bool m1)).setCell ⟨w.heap.size, 1, none⟩ (.slice a1 xs.length c1)).setCell ⟨w.heap.size, 2, none⟩ (.slice a2 ds.length c2)).setCell ⟨w.heap.size + 1, 0, none⟩ (.bool m2)).setCell ⟨w.heap.size + 1, 1, none⟩ (.slice a3 zs.length c3)).setCell ⟨w.heap.size + 1, 2, none⟩ (.slice a4 es.length c4) = V := ⟨_, rfl⟩
              have Z0 := (R0'.later hb2)
              have Z1 := (R1'.later hb2)
              have Z1' : Row (((w2.setCell ⟨w.heap.size, 0, none⟩ (.bool m1)).setCell ⟨w.heap.size, 1, none⟩ (.slice a1 xs.length c1)).setCell ⟨w.heap.size, 2, none⟩ (.slice a2 ds.length c2)) (w.heap.size + 1) 51 #[.bool n2, .slice e3 rs.length k3, .slice e4 ss.length k4] := ((Z1.far (by simp) _).far (by simp) _).far (by simp) _
              have P0 : Row V (w.heap.size) 51 #[.bool m1, .slice a1 xs.length c1, .slice a2 ds.length c2] := by rw [← hV]; exact (((Z0.set3 _ _ _).far (by simp) _).far (by simp) _).far (by simp) _
              have P1 : Row V (w.heap.size + 1) 51 #[.bool m2, .slice a3 zs.length c3, .slice a4 es.length c4] := by rw [← hV]; exact Z1'.set3 _ _ _
              have P2 : Row V (w.heap.size + 1 + 1) 51 #[.bool false, .slice none 0 0, .slice none 0 0] := by rw [← hV]; exact ((((((((R2.later hb1d).later hb2)).far (by simp <;> omega) _).far (by simp <;> omega) _).far (by simp <;> omega) _).far (by simp <;> omega) _).far (by simp <;> omega) _).far (by simp <;> omega) _
              have hsV : w2.heap.size ≤ V.heap.size := by rw [← hV]; simp
              have hB2 : Below w.heap.size w V := by rw [← hV]; exact below_set3 (below_set3 ((hBW.trans (hb1d.mono (by omega))).trans (hb2.mono (by omega))) (by omega) _ _ _) (by omega) _ _ _
              have AV : Arg V (.slice a1 xs.length c1) xs a1 c1 := by rw [← hV]; exact ((A.later hb2).far Z0 (noInts3 _ _ _ _ _ _ _) (kept3 _ _ _)).far Z1' (noInts3 _ _ _ _ _ _ _) (kept3 _ _ _)
              have BV : Arg V (.slice a2 ds.length c2) ds a2 c2 := by rw [← hV]; exact ((B.later hb2).far Z0 (noInts3 _ _ _ _ _ _ _) (kept3 _ _ _)).far Z1' (noInts3 _ _ _ _ _ _ _) (kept3 _ _ _)
              have CV : Arg V (.slice a3 zs.length c3) zs a3 c3 := by rw [← hV]; exact (C.far Z0 (noInts3 _ _ _ _ _ _ _) (kept3 _ _ _)).far Z1' (noInts3 _ _ _ _ _ _ _) (kept3 _ _ _)
              have DV : Arg V (.slice a4 es.length c4) es a4 c4 := by rw [← hV]; exact (D.far Z0 (noInts3 _ _ _ _ _ _ _) (kept3 _ _ _)).far Z1' (noInts3 _ _ _ _ _ _ _) (kept3 _ _ _)
              have hfin : ratOf m1 (val xs) (val ds) - ratOf m2 (val zs) (val es) = X - Y := by rw [hX, hY]
              have HF := Lib.hid hfin
              have mkS : ∀ X, Kept (w.heap.size + 1 + 1) V X → X.cell? ⟨w.heap.size, 0, none⟩ = some (.bool m1) ∧ X.cell? ⟨w.heap.size, 1, none⟩ = some (.slice a1 xs.length c1) ∧ X.cell? ⟨w.heap.size, 2, none⟩ = some (.slice a2 ds.length c2) ∧ X.cell? ⟨w.heap.size + 1, 0, none⟩ = some (.bool m2) ∧ X.cell? ⟨w.heap.size + 1, 1, none⟩ = some (.slice a3 zs.length c3) ∧ X.cell? ⟨w.heap.size + 1, 2, none⟩ = some (.slice a4 es.length c4) ∧ Kept (w.heap.size + 1 + 1) V X := fun X h => ⟨(P0.kept h (by omega)).cell 0, (P0.kept h (by omega)).cell 1, (P0.kept h (by omega)).cell 2, (P1.kept h (by omega)).cell 0, (P1.kept h (by omega)).cell 1, (P1.kept h (by omega)).cell 2, h⟩
              clear hfin hX hY Z0 Z1 Z1' A B C D R0 R1 R2 R0' R1' hu hv hu' hv' hb1 hb1d hb2 hBW p0 p1 p2 p3 p4 p5 o0 o1 o2 o3 o4 o5 t0 t1 t2 t3 t4 t5 s0 s1 s2 s3 s4 s5 i0 i1 i2
              go_wp2_with fail
              (try rw [hV])
              clear hV
              go_region_held3 (fun X => X.cell? ⟨w.heap.size, 0, none⟩ = some (.bool m1) ∧ X.cell? ⟨w.heap.size, 1, none⟩ = some (.slice a1 xs.length c1) ∧ X.cell? ⟨w.heap.size, 2, none⟩ = some (.slice a2 ds.length c2) ∧ X.cell? ⟨w.heap.size + 1, 0, none⟩ = some (.bool m2) ∧ X.cell? ⟨w.heap.size + 1, 1, none⟩ = some (.slice a3 zs.length c3) ∧ X.cell? ⟨w.heap.size + 1, 2, none⟩ = some (.slice a4 es.length c4) ∧ Kept (w.heap.size + 1 + 1) V X)
                (((refine mkS _ ?_; (repeat' (first | exact Kept.refl _ _ | refine Kept.drew ?_ | refine Kept.alloc ?_ _ | refine Kept.set ?_ _ _ | refine Kept.below ?_ (by assumption))))))
                ((first
                  | (go_at_call 95; refine (joinedM_any (n := n + 2) (AV.later hb3d) (BV.later hb3d) (CV.later hb3d) (DV.later hb3d) (by omega) (by omega) (by omega) (by omega) (by omega) hB hD (h3.later (Below.refl _ _))).mono ?_; rintro e w4 ⟨r4, rfl, q4, hb4⟩; rw [HF.out] at q4; obtain ⟨ng, fs, gs, f1, f2, j1, j2, rfl⟩ := q4.arg.box; have P4 := P3.later hb4; obtain ⟨u0, u1, u2, g0, g1, g2⟩ := P4.three)
                  | (go_at_call 96; refine (over_any (AV.later (Below.refl _ V).drew) (DV.later (Below.refl _ V).drew) (show xs.length ≤ n + 2 by omega) (by omega) (by omega)).mono ?_; rintro e w3 ⟨r3, rfl, h3, hb3⟩; have hb3d : Below V.heap.size V w3 := ⟨hb3.os, hb3.tape, hb3.output, hb3.size, hb3.block⟩; have P3 := P2.later hb3d)))
              have hs3 := hb3d.size
              have hs4 := hb4.size
              go_wp2_with fail
              refine bodyPost_ret (v := .agg #[.bool ng, .slice f1 fs.length j1, .slice f2 gs.length j2]) (by simp [results, Tryz.results49, go_sem, u0, u1, u2]) rfl ⟨_, rfl, ?_, ?_⟩
              · exact ((q4.far P4 (by decide) (kept3 _ _ _)).mono (by omega)).more (by omega)
              · exact below_set3 ((hB2.trans (hb3d.mono (by omega))).trans (hb4.mono (by omega))) (by omega) _ _ _
end
section
open Go.RowKit
set_option linter.unusedVariables false
set_option linter.unusedSimpArgs false
theorem sgR_diff {m n : Bool} {A B C D : Int} (hB : 0 < B) (hD : 0 < D) : sgR (ratOf m A B - ratOf n C D) = (sgn m (A * D) - sgn n (C * B)).sign := by
  have h := rat_diff (m := m) (n := n) (r := false) (S := sgn m (A * D) - sgn n (C * B)) hB hD (by rw [sgn_not, sgn_pos, Int.sub_eq_add_neg])
  rw [← h, sgR_ratOf _ _ (Int.mul_pos hB hD), sgn_pos]
set_option maxRecDepth 100000 in
set_option maxHeartbeats 8000000 in
theorem cmpQ_any {n : Nat} {w : World} {u v : Value} {X Y : Rat} (hu : ArgQ w u X n) (hv : ArgQ w v Y n) (hn : n ≤ 16777000) :
    Calls Tryz.prog 121 #[u, v] w fun e w' => e = .returned (.int .i64 (sgR (X - Y))) ∧ Below w.heap.size w w' := by
  obtain ⟨n1, ps, qs, e1, e2, k1, k2, rfl⟩ := hu.box
  obtain ⟨n2, rs, ss, e3, e4, k3, k4, rfl⟩ := hv.box
  obtain ⟨W, hW⟩ : ∃ W, ((w.alloc (.cells #[.bool n1, .slice e1 ps.length k1, .slice e2 qs.length k2] 51)).alloc (.cells #[.bool n2, .slice e3 rs.length k3, .slice e4 ss.length k4] 51)) = W := ⟨_, rfl⟩
  have R0 : Row W (w.heap.size) 51 #[.bool n1, .slice e1 ps.length k1, .slice e2 qs.length k2] := by rw [← hW]; exact ((Row.new _ _ _).alloc _)
  have R1 : Row W (w.heap.size + 1) 51 #[.bool n2, .slice e3 rs.length k3, .slice e4 ss.length k4] := by rw [← hW]; have h := (Row.new (w.alloc (.cells #[.bool n1, .slice e1 ps.length k1, .slice e2 qs.length k2] 51)) 51 #[.bool n2, .slice e3 rs.length k3, .slice e4 ss.length k4]); simp only [World.size_alloc] at h; exact h
  have hBW : Below w.heap.size w W := by rw [← hW]; exact (((Below.refl _ _).alloc (by (try simp) <;> omega) _).alloc (by (try simp) <;> omega) _)
  have hsW : w.heap.size + 1 + 1 ≤ W.heap.size := by rw [← hW]; simp
  have hu' := (hu.later hBW).later (Below.refl _ W).drew
  have hv' := hv.later hBW
  obtain ⟨p0, p1, p2, p3, p4, p5⟩ := R0.three
  obtain ⟨o0, o1, o2, o3, o4, o5⟩ := R1.three
  have hmf : ∀ (fn : Fn) (first cap : Array Value) (w : World), (Instr.makeFunc fn first cap).run Tryz.prog w = .ok (.func fn first cap) w := fun _ _ _ _ => rfl
  go_enter Tryz.func121, Tryz.ntmps121
  go_wp2_with fail
  clear hW
  refine wp_region_noPanic ?_
  refine wp_region_held_drew (S := fun _ => True) (by kernel_rfl) trivial (fun hHeld => ?_)
  clear hHeld
  refine wpAnyH_ready (rs := [0, 2]) (by kernel_rfl) (by simp) ?_
  refine AllReadyH.cons rfl (fun K hK => ?o1_0) (AllReadyH.cons rfl (fun K hK => ?o1_2) AllReadyH.nil)
  case o1_0 =>
    go_simp
    refine hK.out _ _ trivial (fun hHeld => ?_)
    clear hK K hHeld
    try simp only [Act.put, List.setIfInBounds_toArray, List.set_cons_zero, List.set_cons_succ]
    refine wpAnyH_ready (rs := [1, 2]) (by kernel_rfl) (by simp) ?_
    refine AllReadyH.cons rfl (fun K hK => ?o2_1) (AllReadyH.cons rfl (fun K hK => ?o2_2) AllReadyH.nil)
    case o2_1 =>
      go_simp
      (refine (plain_any hu' (by omega)).mono ?_)
      rintro e w1 ⟨r1, rfl, h1, hb1⟩
      have hb1d : Below W.heap.size W w1 := ⟨hb1.os, hb1.tape, hb1.output, hb1.size, hb1.block⟩
      obtain ⟨m1, xs, ds, a1, a2, c1, c2, rfl, A, B, hX, hx, hd, hB, _⟩ := h1
      have R0' := R0.later hb1d
      have R1' := R1.later hb1d
      obtain ⟨i0, i1, i2, _, _, _⟩ := R1'.three
      go_simp
      refine hK.out _ _ trivial (fun hHeld => ?_)
      clear hK K hHeld
      try simp only [Act.put, List.setIfInBounds_toArray, List.set_cons_zero, List.set_cons_succ]
      refine wpAnyH_ready (rs := [2]) (by kernel_rfl) (by simp) ?_
      refine AllReadyH.cons rfl (fun K hK => ?o3_2) AllReadyH.nil
      case o3_2 =>
        go_simp
        refine hK.out _ _ trivial (fun hHeld => ?_)
        clear hK K hHeld
        try simp only [Act.put, List.setIfInBounds_toArray, List.set_cons_zero, List.set_cons_succ]
        refine wpAnyH_ready (rs := [3]) (by kernel_rfl) (by simp) ?_
        refine AllReadyH.cons rfl (fun K hK => ?o4_3) AllReadyH.nil
        case o4_3 =>
          go_simp
          (refine (plain_any (hv'.later (show Below W.heap.size W w1 from hb1d)) (by omega)).mono ?_)
          rintro e w2 ⟨r2, rfl, h2, hb2⟩
          obtain ⟨m2, zs, es, a3, a4, c3, c4, rfl, C, D, hY, hz, he, hD, _⟩ := h2
          obtain ⟨t0, t1, t2, t3, t4, t5⟩ := (R0'.later hb2).three
          obtain ⟨s0, s1, s2, s3, s4, s5⟩ := (R1'.later hb2).three
          go_simp
          refine hK.out _ _ trivial (fun hHeld => ?_)
          clear hK K hHeld
          try simp only [Act.put, List.setIfInBounds_toArray, List.set_cons_zero, List.set_cons_succ]
          refine wpAnyH_ready (rs := [4]) (by kernel_rfl) (by simp) ?_
          refine AllReadyH.cons rfl (fun K hK => ?o5_4) AllReadyH.nil
          case o5_4 =>
            go_simp
            refine hK.out _ _ trivial (fun hHeld => ?_)
            clear hK K hHeld
            try simp only [Act.put, List.setIfInBounds_toArray, List.set_cons_zero, List.set_cons_succ]
            refine wpAnyH_ready (rs := [5]) (by kernel_rfl) (by simp) ?_
            refine AllReadyH.cons rfl (fun K hK => ?o6_5) AllReadyH.nil
            case o6_5 =>
              go_simp
              refine hK.out _ _ trivial (fun hHeld => ?_)
              clear hK K hHeld
              try simp only [Act.put, List.setIfInBounds_toArray, List.set_cons_zero, List.set_cons_succ]
              refine wpAnyH_done (by kernel_rfl) ?_ _
              refine NoPanic.normal ?_
              have hs1 := hb1d.size
              have hs2 := hb2.size
              obtain ⟨V, hV⟩ : ∃ V, (((((w2.setCell ⟨w.heap.size, 0, none⟩ (.bool m1)).setCell ⟨w.heap.size, 1, none⟩ (.slice a1 xs.length c1)).setCell ⟨w.heap.size, 2, none⟩ (.slice a2 ds.length c2)).setCell ⟨w.heap.size + 1, 0, none⟩ (.bool m2)).setCell ⟨w.heap.size + 1, 1, none⟩ (.slice a3 zs.length c3)).setCell ⟨w.heap.size + 1, 2, none⟩ (.slice a4 es.length c4) = V := ⟨_, rfl⟩
              have Z0 := (R0'.later hb2)
              have Z1 := (R1'.later hb2)
              have Z1' : Row (((w2.setCell ⟨w.heap.size, 0, none⟩ (.bool m1)).setCell ⟨w.heap.size, 1, none⟩ (.slice a1 xs.length c1)).setCell ⟨w.heap.size, 2, none⟩ (.slice a2 ds.length c2)) (w.heap.size + 1) 51 #[.bool n2, .slice e3 rs.length k3, .slice e4 ss.length k4] := ((Z1.far (by simp) _).far (by simp) _).far (by simp) _
              have P0 : Row V (w.heap.size) 51 #[.bool m1, .slice a1 xs.length c1, .slice a2 ds.length c2] := by rw [← hV]; exact (((Z0.set3 _ _ _).far (by simp) _).far (by simp) _).far (by simp) _
              have P1 : Row V (w.heap.size + 1) 51 #[.bool m2, .slice a3 zs.length c3, .slice a4 es.length c4] := by rw [← hV]; exact Z1'.set3 _ _ _
              have hsV : w2.heap.size ≤ V.heap.size := by rw [← hV]; simp
              have hB2 : Below w.heap.size w V := by rw [← hV]; exact below_set3 (below_set3 ((hBW.trans (hb1d.mono (by omega))).trans (hb2.mono (by omega))) (by omega) _ _ _) (by omega) _ _ _
              have AV : Arg V (.slice a1 xs.length c1) xs a1 c1 := by rw [← hV]; exact ((A.later hb2).far Z0 (noInts3 _ _ _ _ _ _ _) (kept3 _ _ _)).far Z1' (noInts3 _ _ _ _ _ _ _) (kept3 _ _ _)
              have BV : Arg V (.slice a2 ds.length c2) ds a2 c2 := by rw [← hV]; exact ((B.later hb2).far Z0 (noInts3 _ _ _ _ _ _ _) (kept3 _ _ _)).far Z1' (noInts3 _ _ _ _ _ _ _) (kept3 _ _ _)
              have CV : Arg V (.slice a3 zs.length c3) zs a3 c3 := by rw [← hV]; exact (C.far Z0 (noInts3 _ _ _ _ _ _ _) (kept3 _ _ _)).far Z1' (noInts3 _ _ _ _ _ _ _) (kept3 _ _ _)
              have DV : Arg V (.slice a4 es.length c4) es a4 c4 := by rw [← hV]; exact (D.far Z0 (noInts3 _ _ _ _ _ _ _) (kept3 _ _ _)).far Z1' (noInts3 _ _ _ _ _ _ _) (kept3 _ _ _)
              have hfin : (sgn m1 (val xs * val es) - sgn m2 (val zs * val ds)).sign = sgR (X - Y) := by rw [← sgR_diff hB hD, hX, hY]
              have HF := Lib.hid hfin
              have mkS : ∀ X, Kept (w.heap.size + 1 + 1) V X → X.cell? ⟨w.heap.size, 0, none⟩ = some (.bool m1) ∧ X.cell? ⟨w.heap.size, 1, none⟩ = some (.slice a1 xs.length c1) ∧ X.cell? ⟨w.heap.size, 2, none⟩ = some (.slice a2 ds.length c2) ∧ X.cell? ⟨w.heap.size + 1, 0, none⟩ = some (.bool m2) ∧ X.cell? ⟨w.heap.size + 1, 1, none⟩ = some (.slice a3 zs.length c3) ∧ X.cell? ⟨w.heap.size + 1, 2, none⟩ = some (.slice a4 es.length c4) ∧ Kept (w.heap.size + 1 + 1) V X := fun X h => ⟨(P0.kept h (by omega)).cell 0, (P0.kept h (by omega)).cell 1, (P0.kept h (by omega)).cell 2, (P1.kept h (by omega)).cell 0, (P1.kept h (by omega)).cell 1, (P1.kept h (by omega)).cell 2, h⟩
              clear hfin hX hY Z0 Z1 Z1' A B C D R0 R1 R0' R1' hu hv hu' hv' hb1 hb1d hb2 hBW p0 p1 p2 p3 p4 p5 o0 o1 o2 o3 o4 o5 t0 t1 t2 t3 t4 t5 s0 s1 s2 s3 s4 s5 i0 i1 i2
              go_wp2_with fail
              (try rw [hV])
              clear hV
              go_region_held3 (fun X => X.cell? ⟨w.heap.size, 0, none⟩ = some (.bool m1) ∧ X.cell? ⟨w.heap.size, 1, none⟩ = some (.slice a1 xs.length c1) ∧ X.cell? ⟨w.heap.size, 2, none⟩ = some (.slice a2 ds.length c2) ∧ X.cell? ⟨w.heap.size + 1, 0, none⟩ = some (.bool m2) ∧ X.cell? ⟨w.heap.size + 1, 1, none⟩ = some (.slice a3 zs.length c3) ∧ X.cell? ⟨w.heap.size + 1, 2, none⟩ = some (.slice a4 es.length c4) ∧ Kept (w.heap.size + 1 + 1) V X)
                (((refine mkS _ ?_; (repeat' (first | exact Kept.refl _ _ | refine Kept.drew ?_ | refine Kept.alloc ?_ _ | refine Kept.set ?_ _ _ | refine Kept.below ?_ (by assumption))))))
                ((first
                  | (go_at_call 138; refine (sign_any h5 (by omega)).mono ?_; rintro e w6 ⟨rfl, hb6⟩)
                  | (go_at_call 98; refine (minus_any (h3.later hb4) h4 (by omega)).mono ?_; rintro e w5 ⟨r5, rfl, h5, hb5⟩)
                  | (go_at_call 96; (with_reducible refine (over_any (m := n + 2) (CV.later hb3d) (BV.later hb3d) hz hd (by omega)).mono ?_); rintro e w4 ⟨r4, rfl, h4, hb4⟩)
                  | (go_at_call 96; (with_reducible refine (over_any (m := n + 2) (AV.later (Below.refl _ V).drew) (DV.later (Below.refl _ V).drew) hx he (by omega)).mono ?_); rintro e w3 ⟨r3, rfl, h3, hb3⟩; have hb3d : Below V.heap.size V w3 := ⟨hb3.os, hb3.tape, hb3.output, hb3.size, hb3.block⟩)))
              have hs3 := hb3d.size
              have hs4 := hb4.size
              have hs5 := hb5.size
              go_wp2_with fail
              go_ret
              exact ⟨by rw [← HF.out]; rfl, (((hB2.trans (hb3d.mono (by omega))).trans (hb4.mono (by omega))).trans (hb5.mono (by omega))).trans (hb6.mono (by omega))⟩
    case o2_2 =>
      go_simp
      refine hK.out _ _ trivial (fun hHeld => ?_)
      clear hK K hHeld
      try simp only [Act.put, List.setIfInBounds_toArray, List.set_cons_zero, List.set_cons_succ]
      refine wpAnyH_ready (rs := [1]) (by kernel_rfl) (by simp) ?_
      refine AllReadyH.cons rfl (fun K hK => ?o7_1) AllReadyH.nil
      case o7_1 =>
        go_simp
        (refine (plain_any hu' (by omega)).mono ?_)
        rintro e w1 ⟨r1, rfl, h1, hb1⟩
        have hb1d : Below W.heap.size W w1 := ⟨hb1.os, hb1.tape, hb1.output, hb1.size, hb1.block⟩
        obtain ⟨m1, xs, ds, a1, a2, c1, c2, rfl, A, B, hX, hx, hd, hB, _⟩ := h1
        have R0' := R0.later hb1d
        have R1' := R1.later hb1d
        obtain ⟨i0, i1, i2, _, _, _⟩ := R1'.three
        go_simp
        refine hK.out _ _ trivial (fun hHeld => ?_)
        clear hK K hHeld
        try simp only [Act.put, List.setIfInBounds_toArray, List.set_cons_zero, List.set_cons_succ]
        refine wpAnyH_ready (rs := [3]) (by kernel_rfl) (by simp) ?_
        refine AllReadyH.cons rfl (fun K hK => ?o8_3) AllReadyH.nil
        case o8_3 =>
          go_simp
          (refine (plain_any (hv'.later (show Below W.heap.size W w1 from hb1d)) (by omega)).mono ?_)
          rintro e w2 ⟨r2, rfl, h2, hb2⟩
          obtain ⟨m2, zs, es, a3, a4, c3, c4, rfl, C, D, hY, hz, he, hD, _⟩ := h2
          obtain ⟨t0, t1, t2, t3, t4, t5⟩ := (R0'.later hb2).three
          obtain ⟨s0, s1, s2, s3, s4, s5⟩ := (R1'.later hb2).three
          go_simp
          refine hK.out _ _ trivial (fun hHeld => ?_)
          clear hK K hHeld
          try simp only [Act.put, List.setIfInBounds_toArray, List.set_cons_zero, List.set_cons_succ]
          refine wpAnyH_ready (rs := [4]) (by kernel_rfl) (by simp) ?_
          refine AllReadyH.cons rfl (fun K hK => ?o9_4) AllReadyH.nil
          case o9_4 =>
            go_simp
            refine hK.out _ _ trivial (fun hHeld => ?_)
            clear hK K hHeld
            try simp only [Act.put, List.setIfInBounds_toArray, List.set_cons_zero, List.set_cons_succ]
            refine wpAnyH_ready (rs := [5]) (by kernel_rfl) (by simp) ?_
            refine AllReadyH.cons rfl (fun K hK => ?o10_5) AllReadyH.nil
            case o10_5 =>
              go_simp
              refine hK.out _ _ trivial (fun hHeld => ?_)
              clear hK K hHeld
              try simp only [Act.put, List.setIfInBounds_toArray, List.set_cons_zero, List.set_cons_succ]
              refine wpAnyH_done (by kernel_rfl) ?_ _
              refine NoPanic.normal ?_
              have hs1 := hb1d.size
              have hs2 := hb2.size
              obtain ⟨V, hV⟩ : ∃ V, (((((w2.setCell ⟨w.heap.size, 0, none⟩ (.bool m1)).setCell ⟨w.heap.size, 1, none⟩ (.slice a1 xs.length c1)).setCell ⟨w.heap.size, 2, none⟩ (.slice a2 ds.length c2)).setCell ⟨w.heap.size + 1, 0, none⟩ (.bool m2)).setCell ⟨w.heap.size + 1, 1, none⟩ (.slice a3 zs.length c3)).setCell ⟨w.heap.size + 1, 2, none⟩ (.slice a4 es.length c4) = V := ⟨_, rfl⟩
              have Z0 := (R0'.later hb2)
              have Z1 := (R1'.later hb2)
              have Z1' : Row (((w2.setCell ⟨w.heap.size, 0, none⟩ (.bool m1)).setCell ⟨w.heap.size, 1, none⟩ (.slice a1 xs.length c1)).setCell ⟨w.heap.size, 2, none⟩ (.slice a2 ds.length c2)) (w.heap.size + 1) 51 #[.bool n2, .slice e3 rs.length k3, .slice e4 ss.length k4] := ((Z1.far (by simp) _).far (by simp) _).far (by simp) _
              have P0 : Row V (w.heap.size) 51 #[.bool m1, .slice a1 xs.length c1, .slice a2 ds.length c2] := by rw [← hV]; exact (((Z0.set3 _ _ _).far (by simp) _).far (by simp) _).far (by simp) _
              have P1 : Row V (w.heap.size + 1) 51 #[.bool m2, .slice a3 zs.length c3, .slice a4 es.length c4] := by rw [← hV]; exact Z1'.set3 _ _ _
              have hsV : w2.heap.size ≤ V.heap.size := by rw [← hV]; simp
              have hB2 : Below w.heap.size w V := by rw [← hV]; exact below_set3 (below_set3 ((hBW.trans (hb1d.mono (by omega))).trans (hb2.mono (by omega))) (by omega) _ _ _) (by omega) _ _ _
              have AV : Arg V (.slice a1 xs.length c1) xs a1 c1 := by rw [← hV]; exact ((A.later hb2).far Z0 (noInts3 _ _ _ _ _ _ _) (kept3 _ _ _)).far Z1' (noInts3 _ _ _ _ _ _ _) (kept3 _ _ _)
              have BV : Arg V (.slice a2 ds.length c2) ds a2 c2 := by rw [← hV]; exact ((B.later hb2).far Z0 (noInts3 _ _ _ _ _ _ _) (kept3 _ _ _)).far Z1' (noInts3 _ _ _ _ _ _ _) (kept3 _ _ _)
              have CV : Arg V (.slice a3 zs.length c3) zs a3 c3 := by rw [← hV]; exact (C.far Z0 (noInts3 _ _ _ _ _ _ _) (kept3 _ _ _)).far Z1' (noInts3 _ _ _ _ _ _ _) (kept3 _ _ _)
              have DV : Arg V (.slice a4 es.length c4) es a4 c4 := by rw [← hV]; exact (D.far Z0 (noInts3 _ _ _ _ _ _ _) (kept3 _ _ _)).far Z1' (noInts3 _ _ _ _ _ _ _) (kept3 _ _ _)
              have hfin : (sgn m1 (val xs * val es) - sgn m2 (val zs * val ds)).sign = sgR (X - Y) := by rw [← sgR_diff hB hD, hX, hY]
              have HF := Lib.hid hfin
              have mkS : ∀ X, Kept (w.heap.size + 1 + 1) V X → X.cell? ⟨w.heap.size, 0, none⟩ = some (.bool m1) ∧ X.cell? ⟨w.heap.size, 1, none⟩ = some (.slice a1 xs.length c1) ∧ X.cell? ⟨w.heap.size, 2, none⟩ = some (.slice a2 ds.length c2) ∧ X.cell? ⟨w.heap.size + 1, 0, none⟩ = some (.bool m2) ∧ X.cell? ⟨w.heap.size + 1, 1, none⟩ = some (.slice a3 zs.length c3) ∧ X.cell? ⟨w.heap.size + 1, 2, none⟩ = some (.slice a4 es.length c4) ∧ Kept (w.heap.size + 1 + 1) V X := fun X h => ⟨(P0.kept h (by omega)).cell 0, (P0.kept h (by omega)).cell 1, (P0.kept h (by omega)).cell 2, (P1.kept h (by omega)).cell 0, (P1.kept h (by omega)).cell 1, (P1.kept h (by omega)).cell 2, h⟩
              clear hfin hX hY Z0 Z1 Z1' A B C D R0 R1 R0' R1' hu hv hu' hv' hb1 hb1d hb2 hBW p0 p1 p2 p3 p4 p5 o0 o1 o2 o3 o4 o5 t0 t1 t2 t3 t4 t5 s0 s1 s2 s3 s4 s5 i0 i1 i2
              go_wp2_with fail
              (try rw [hV])
              clear hV
              go_region_held3 (fun X => X.cell? ⟨w.heap.size, 0, none⟩ = some (.bool m1) ∧ X.cell? ⟨w.heap.size, 1, none⟩ = some (.slice a1 xs.length c1) ∧ X.cell? ⟨w.heap.size, 2, none⟩ = some (.slice a2 ds.length c2) ∧ X.cell? ⟨w.heap.size + 1, 0, none⟩ = some (.bool m2) ∧ X.cell? ⟨w.heap.size + 1, 1, none⟩ = some (.slice a3 zs.length c3) ∧ X.cell? ⟨w.heap.size + 1, 2, none⟩ = some (.slice a4 es.length c4) ∧ Kept (w.heap.size + 1 + 1) V X)
                (((refine mkS _ ?_; (repeat' (first | exact Kept.refl _ _ | refine Kept.drew ?_ | refine Kept.alloc ?_ _ | refine Kept.set ?_ _ _ | refine Kept.below ?_ (by assumption))))))
                ((first
                  | (go_at_call 138; refine (sign_any h5 (by omega)).mono ?_; rintro e w6 ⟨rfl, hb6⟩)
                  | (go_at_call 98; refine (minus_any (h3.later hb4) h4 (by omega)).mono ?_; rintro e w5 ⟨r5, rfl, h5, hb5⟩)
                  | (go_at_call 96; (with_reducible refine (over_any (m := n + 2) (CV.later hb3d) (BV.later hb3d) hz hd (by omega)).mono ?_); rintro e w4 ⟨r4, rfl, h4, hb4⟩)
                  | (go_at_call 96; (with_reducible refine (over_any (m := n + 2) (AV.later (Below.refl _ V).drew) (DV.later (Below.refl _ V).drew) hx he (by omega)).mono ?_); rintro e w3 ⟨r3, rfl, h3, hb3⟩; have hb3d : Below V.heap.size V w3 := ⟨hb3.os, hb3.tape, hb3.output, hb3.size, hb3.block⟩)))
              have hs3 := hb3d.size
              have hs4 := hb4.size
              have hs5 := hb5.size
              go_wp2_with fail
              go_ret
              exact ⟨by rw [← HF.out]; rfl, (((hB2.trans (hb3d.mono (by omega))).trans (hb4.mono (by omega))).trans (hb5.mono (by omega))).trans (hb6.mono (by omega))⟩
  case o1_2 =>
    go_simp
    refine hK.out _ _ trivial (fun hHeld => ?_)
    clear hK K hHeld
    try simp only [Act.put, List.setIfInBounds_toArray, List.set_cons_zero, List.set_cons_succ]
    refine wpAnyH_ready (rs := [0]) (by kernel_rfl) (by simp) ?_
    refine AllReadyH.cons rfl (fun K hK => ?o11_0) AllReadyH.nil
    case o11_0 =>
      go_simp
      refine hK.out _ _ trivial (fun hHeld => ?_)
      clear hK K hHeld
      try simp only [Act.put, List.setIfInBounds_toArray, List.set_cons_zero, List.set_cons_succ]
      refine wpAnyH_ready (rs := [1]) (by kernel_rfl) (by simp) ?_
      refine AllReadyH.cons rfl (fun K hK => ?o12_1) AllReadyH.nil
      case o12_1 =>
        go_simp
        (refine (plain_any hu' (by omega)).mono ?_)
        rintro e w1 ⟨r1, rfl, h1, hb1⟩
        have hb1d : Below W.heap.size W w1 := ⟨hb1.os, hb1.tape, hb1.output, hb1.size, hb1.block⟩
        obtain ⟨m1, xs, ds, a1, a2, c1, c2, rfl, A, B, hX, hx, hd, hB, _⟩ := h1
        have R0' := R0.later hb1d
        have R1' := R1.later hb1d
        obtain ⟨i0, i1, i2, _, _, _⟩ := R1'.three
        go_simp
        refine hK.out _ _ trivial (fun hHeld => ?_)
        clear hK K hHeld
        try simp only [Act.put, List.setIfInBounds_toArray, List.set_cons_zero, List.set_cons_succ]
        refine wpAnyH_ready (rs := [3]) (by kernel_rfl) (by simp) ?_
        refine AllReadyH.cons rfl (fun K hK => ?o13_3) AllReadyH.nil
        case o13_3 =>
          go_simp
          (refine (plain_any (hv'.later (show Below W.heap.size W w1 from hb1d)) (by omega)).mono ?_)
          rintro e w2 ⟨r2, rfl, h2, hb2⟩
          obtain ⟨m2, zs, es, a3, a4, c3, c4, rfl, C, D, hY, hz, he, hD, _⟩ := h2
          obtain ⟨t0, t1, t2, t3, t4, t5⟩ := (R0'.later hb2).three
          obtain ⟨s0, s1, s2, s3, s4, s5⟩ := (R1'.later hb2).three
          go_simp
          refine hK.out _ _ trivial (fun hHeld => ?_)
          clear hK K hHeld
          try simp only [Act.put, List.setIfInBounds_toArray, List.set_cons_zero, List.set_cons_succ]
          refine wpAnyH_ready (rs := [4]) (by kernel_rfl) (by simp) ?_
          refine AllReadyH.cons rfl (fun K hK => ?o14_4) AllReadyH.nil
          case o14_4 =>
            go_simp
            refine hK.out _ _ trivial (fun hHeld => ?_)
            clear hK K hHeld
            try simp only [Act.put, List.setIfInBounds_toArray, List.set_cons_zero, List.set_cons_succ]
            refine wpAnyH_ready (rs := [5]) (by kernel_rfl) (by simp) ?_
            refine AllReadyH.cons rfl (fun K hK => ?o15_5) AllReadyH.nil
            case o15_5 =>
              go_simp
              refine hK.out _ _ trivial (fun hHeld => ?_)
              clear hK K hHeld
              try simp only [Act.put, List.setIfInBounds_toArray, List.set_cons_zero, List.set_cons_succ]
              refine wpAnyH_done (by kernel_rfl) ?_ _
              refine NoPanic.normal ?_
              have hs1 := hb1d.size
              have hs2 := hb2.size
              obtain ⟨V, hV⟩ : ∃ V, (((((w2.setCell ⟨w.heap.size, 0, none⟩ (.bool m1)).setCell ⟨w.heap.size, 1, none⟩ (.slice a1 xs.length c1)).setCell ⟨w.heap.size, 2, none⟩ (.slice a2 ds.length c2)).setCell ⟨w.heap.size + 1, 0, none⟩ (.bool m2)).setCell ⟨w.heap.size + 1, 1, none⟩ (.slice a3 zs.length c3)).setCell ⟨w.heap.size + 1, 2, none⟩ (.slice a4 es.length c4) = V := ⟨_, rfl⟩
              have Z0 := (R0'.later hb2)
              have Z1 := (R1'.later hb2)
              have Z1' : Row (((w2.setCell ⟨w.heap.size, 0, none⟩ (.bool m1)).setCell ⟨w.heap.size, 1, none⟩ (.slice a1 xs.length c1)).setCell ⟨w.heap.size, 2, none⟩ (.slice a2 ds.length c2)) (w.heap.size + 1) 51 #[.bool n2, .slice e3 rs.length k3, .slice e4 ss.length k4] := ((Z1.far (by simp) _).far (by simp) _).far (by simp) _
              have P0 : Row V (w.heap.size) 51 #[.bool m1, .slice a1 xs.length c1, .slice a2 ds.length c2] := by rw [← hV]; exact (((Z0.set3 _ _ _).far (by simp) _).far (by simp) _).far (by simp) _
              have P1 : Row V (w.heap.size + 1) 51 #[.bool m2, .slice a3 zs.length c3, .slice a4 es.length c4] := by rw [← hV]; exact Z1'.set3 _ _ _
              have hsV : w2.heap.size ≤ V.heap.size := by rw [← hV]; simp
              have hB2 : Below w.heap.size w V := by rw [← hV]; exact below_set3 (below_set3 ((hBW.trans (hb1d.mono (by omega))).trans (hb2.mono (by omega))) (by omega) _ _ _) (by omega) _ _ _
              have AV : Arg V (.slice a1 xs.length c1) xs a1 c1 := by rw [← hV]; exact ((A.later hb2).far Z0 (noInts3 _ _ _ _ _ _ _) (kept3 _ _ _)).far Z1' (noInts3 _ _ _ _ _ _ _) (kept3 _ _ _)
              have BV : Arg V (.slice a2 ds.length c2) ds a2 c2 := by rw [← hV]; exact ((B.later hb2).far Z0 (noInts3 _ _ _ _ _ _ _) (kept3 _ _ _)).far Z1' (noInts3 _ _ _ _ _ _ _) (kept3 _ _ _)
              have CV : Arg V (.slice a3 zs.length c3) zs a3 c3 := by rw [← hV]; exact (C.far Z0 (noInts3 _ _ _ _ _ _ _) (kept3 _ _ _)).far Z1' (noInts3 _ _ _ _ _ _ _) (kept3 _ _ _)
              have DV : Arg V (.slice a4 es.length c4) es a4 c4 := by rw [← hV]; exact (D.far Z0 (noInts3 _ _ _ _ _ _ _) (kept3 _ _ _)).far Z1' (noInts3 _ _ _ _ _ _ _) (kept3 _ _ _)
              have hfin : (sgn m1 (val xs * val es) - sgn m2 (val zs * val ds)).sign = sgR (X - Y) := by rw [← sgR_diff hB hD, hX, hY]
              have HF := Lib.hid hfin
              have mkS : ∀ X, Kept (w.heap.size + 1 + 1) V X → X.cell? ⟨w.heap.size, 0, none⟩ = some (.bool m1) ∧ X.cell? ⟨w.heap.size, 1, none⟩ = some (.slice a1 xs.length c1) ∧ X.cell? ⟨w.heap.size, 2, none⟩ = some (.slice a2 ds.length c2) ∧ X.cell? ⟨w.heap.size + 1, 0, none⟩ = some (.bool m2) ∧ X.cell? ⟨w.heap.size + 1, 1, none⟩ = some (.slice a3 zs.length c3) ∧ X.cell? ⟨w.heap.size + 1, 2, none⟩ = some (.slice a4 es.length c4) ∧ Kept (w.heap.size + 1 + 1) V X := fun X h => ⟨(P0.kept h (by omega)).cell 0, (P0.kept h (by omega)).cell 1, (P0.kept h (by omega)).cell 2, (P1.kept h (by omega)).cell 0, (P1.kept h (by omega)).cell 1, (P1.kept h (by omega)).cell 2, h⟩
              clear hfin hX hY Z0 Z1 Z1' A B C D R0 R1 R0' R1' hu hv hu' hv' hb1 hb1d hb2 hBW p0 p1 p2 p3 p4 p5 o0 o1 o2 o3 o4 o5 t0 t1 t2 t3 t4 t5 s0 s1 s2 s3 s4 s5 i0 i1 i2
              go_wp2_with fail
              (try rw [hV])
              clear hV
              go_region_held3 (fun X => X.cell? ⟨w.heap.size, 0, none⟩ = some (.bool m1) ∧ X.cell? ⟨w.heap.size, 1, none⟩ = some (.slice a1 xs.length c1) ∧ X.cell? ⟨w.heap.size, 2, none⟩ = some (.slice a2 ds.length c2) ∧ X.cell? ⟨w.heap.size + 1, 0, none⟩ = some (.bool m2) ∧ X.cell? ⟨w.heap.size + 1, 1, none⟩ = some (.slice a3 zs.length c3) ∧ X.cell? ⟨w.heap.size + 1, 2, none⟩ = some (.slice a4 es.length c4) ∧ Kept (w.heap.size + 1 + 1) V X)
                (((refine mkS _ ?_; (repeat' (first | exact Kept.refl _ _ | refine Kept.drew ?_ | refine Kept.alloc ?_ _ | refine Kept.set ?_ _ _ | refine Kept.below ?_ (by assumption))))))
                ((first
                  | (go_at_call 138; refine (sign_any h5 (by omega)).mono ?_; rintro e w6 ⟨rfl, hb6⟩)
                  | (go_at_call 98; refine (minus_any (h3.later hb4) h4 (by omega)).mono ?_; rintro e w5 ⟨r5, rfl, h5, hb5⟩)
                  | (go_at_call 96; (with_reducible refine (over_any (m := n + 2) (CV.later hb3d) (BV.later hb3d) hz hd (by omega)).mono ?_); rintro e w4 ⟨r4, rfl, h4, hb4⟩)
                  | (go_at_call 96; (with_reducible refine (over_any (m := n + 2) (AV.later (Below.refl _ V).drew) (DV.later (Below.refl _ V).drew) hx he (by omega)).mono ?_); rintro e w3 ⟨r3, rfl, h3, hb3⟩; have hb3d : Below V.heap.size V w3 := ⟨hb3.os, hb3.tape, hb3.output, hb3.size, hb3.block⟩)))
              have hs3 := hb3d.size
              have hs4 := hb4.size
              have hs5 := hb5.size
              go_wp2_with fail
              go_ret
              exact ⟨by rw [← HF.out]; rfl, (((hB2.trans (hb3d.mono (by omega))).trans (hb4.mono (by omega))).trans (hb5.mono (by omega))).trans (hb6.mono (by omega))⟩
end
section
open Go.RowKit
set_option linter.unusedVariables false
set_option linter.unusedSimpArgs false
theorem Row.at {w : World} {g : Nat} {t : TypeId} {cs : Array Value} (h : g = w.heap.size) : Row (w.alloc (.cells cs t)) g t cs := h ▸ Row.new w t cs
set_option maxRecDepth 100000 in
set_option maxHeartbeats 4000000 in
theorem mulQ_any {n : Nat} {w : World} {u v : Value} {X Y : Rat} (hu : ArgQ w u X n) (hv : ArgQ w v Y n) (hn : n ≤ 16777000) :
    Calls Tryz.prog 54 #[u, v] w fun e w' => ∃ r, e = .returned r ∧ ResQ w.heap.size w' r (X * Y) (2 * n + 4) ∧ Below w.heap.size w w' := by
  obtain ⟨m1, xs, ds, a1, a2, c1, c2, rfl, A, B, hX, hx, hd⟩ := hu
  obtain ⟨m2, zs, es, a3, a4, c3, c4, rfl, C, D, hY, hz, he⟩ := hv
  obtain ⟨W, hW⟩ : ∃ W, (((w.alloc (.cells #[.bool m1, .slice a1 xs.length c1, .slice a2 ds.length c2] 51)).alloc (.cells #[.bool m2, .slice a3 zs.length c3, .slice a4 es.length c4] 51)).alloc (.cells #[.bool false, .slice none 0 0, .slice none 0 0] 51)) = W := ⟨_, rfl⟩
  have R0 : Row W (w.heap.size) 51 #[.bool m1, .slice a1 xs.length c1, .slice a2 ds.length c2] := by rw [← hW]; exact (((Row.new _ _ _).alloc _).alloc _)
  have R1 : Row W (w.heap.size + 1) 51 #[.bool m2, .slice a3 zs.length c3, .slice a4 es.length c4] := by rw [← hW]; have h := (Row.new (w.alloc (.cells #[.bool m1, .slice a1 xs.length c1, .slice a2 ds.length c2] 51)) 51 #[.bool m2, .slice a3 zs.length c3, .slice a4 es.length c4]); simp only [World.size_alloc] at h; exact (h.alloc _)
  have R2 : Row W (w.heap.size + 1 + 1) 51 #[.bool false, .slice none 0 0, .slice none 0 0] := by rw [← hW]; have h := (Row.new ((w.alloc (.cells #[.bool m1, .slice a1 xs.length c1, .slice a2 ds.length c2] 51)).alloc (.cells #[.bool m2, .slice a3 zs.length c3, .slice a4 es.length c4] 51)) 51 #[.bool false, .slice none 0 0, .slice none 0 0]); simp only [World.size_alloc] at h; exact h
  have hBW : Below w.heap.size w W := by rw [← hW]; exact ((((Below.refl _ _).alloc (by (try simp) <;> omega) _).alloc (by (try simp) <;> omega) _).alloc (by (try simp) <;> omega) _)
  have hsW : w.heap.size + 1 + 1 + 1 ≤ W.heap.size := by rw [← hW]; simp
  have hfin : ratOf (!(m1 == m2)) (val xs * val zs) (val ds * val es) = X * Y := by rw [← hX, ← hY]; exact rat_prod m1 m2 _ _ _ _
  have HF := Lib.hid hfin
  clear hfin hX hY
  have mkS : ∀ X, Kept (w.heap.size + 1 + 1) W X → X.cell? ⟨w.heap.size, 0, none⟩ = some (.bool m1) ∧ X.cell? ⟨w.heap.size, 1, none⟩ = some (.slice a1 xs.length c1) ∧ X.cell? ⟨w.heap.size, 2, none⟩ = some (.slice a2 ds.length c2) ∧ X.cell? ⟨w.heap.size + 1, 0, none⟩ = some (.bool m2) ∧ X.cell? ⟨w.heap.size + 1, 1, none⟩ = some (.slice a3 zs.length c3) ∧ X.cell? ⟨w.heap.size + 1, 2, none⟩ = some (.slice a4 es.length c4) ∧ Kept (w.heap.size + 1 + 1) W X := fun X h => ⟨(R0.kept h (by omega)).cell 0, (R0.kept h (by omega)).cell 1, (R0.kept h (by omega)).cell 2, (R1.kept h (by omega)).cell 0, (R1.kept h (by omega)).cell 1, (R1.kept h (by omega)).cell 2, h⟩
  go_enter Tryz.func54, Tryz.ntmps54
  go_wp2_with fail
  clear hW
  go_region_held3 (fun X => X.cell? ⟨w.heap.size, 0, none⟩ = some (.bool m1) ∧ X.cell? ⟨w.heap.size, 1, none⟩ = some (.slice a1 xs.length c1) ∧ X.cell? ⟨w.heap.size, 2, none⟩ = some (.slice a2 ds.length c2) ∧ X.cell? ⟨w.heap.size + 1, 0, none⟩ = some (.bool m2) ∧ X.cell? ⟨w.heap.size + 1, 1, none⟩ = some (.slice a3 zs.length c3) ∧ X.cell? ⟨w.heap.size + 1, 2, none⟩ = some (.slice a4 es.length c4) ∧ Kept (w.heap.size + 1 + 1) W X)
    (((refine mkS _ ?_; (repeat' (first | exact Kept.refl _ _ | refine Kept.drew ?_ | refine Kept.alloc ?_ _ | refine Kept.set ?_ _ _ | refine Kept.below ?_ (by assumption))))))
    ((first
      | (go_at_call 74; refine (norm_any (n := 2 * n + 2) ⟨!(m1 == m2), z3, z4, ad3, ad4, cp3, cp4, rfl, A3', A4, HV.out, by omega, by omega⟩ (by omega)).mono ?_; rintro e w5 ⟨r5, rfl, q5, hb5⟩; obtain ⟨ng, fs, gs, f1, f2, j1, j2, rfl⟩ := q5.arg.box; have P5 := R2.kept (show Kept (w.heap.size + 1 + 1 + 1) W w5 by (repeat' (first | exact Kept.refl _ _ | refine Kept.drew ?_ | refine Kept.alloc ?_ _ | refine Kept.set ?_ _ _ | refine Kept.below ?_ (by assumption)))) (by omega); obtain ⟨u0, u1, u2, g0, g1, g2⟩ := P5.three)
      | (go_at_call 103; refine (product_any (xs := ds) (ys := es) (ad := a2) (bd := a4) (ca := c2) (cb := c4) (by first | (first | exact Row.at (by simp) | exact (Row.at (by simp)).drew | exact (Row.at (by simp)).alloc _ | exact ((Row.at (by simp)).alloc _).drew) | (refine Row.later ?_ hb3; first | exact Row.at (by simp) | exact (Row.at (by simp)).drew | exact (Row.at (by simp)).alloc _ | exact ((Row.at (by simp)).alloc _).drew)) (B.later (Kept.under (show Kept (w.heap.size + 1 + 1) W _ by (repeat' (first | exact Kept.refl _ _ | refine Kept.drew ?_ | refine Kept.alloc ?_ _ | refine Kept.set ?_ _ _ | refine Kept.below ?_ (by assumption)))) hBW (by omega) (by omega))) (D.later (Kept.under (show Kept (w.heap.size + 1 + 1) W _ by (repeat' (first | exact Kept.refl _ _ | refine Kept.drew ?_ | refine Kept.alloc ?_ _ | refine Kept.set ?_ _ _ | refine Kept.below ?_ (by assumption)))) hBW (by omega) (by omega))) hd he (by omega)).mono ?_; rintro e w4 ⟨r4, z4, rfl, q4, l4, hb4⟩; obtain ⟨ad4, cp4, rfl, q4, A4⟩ := q4.slice; have A3' := A3.later (show Below w3.heap.size w3 w4 by (repeat' (first | exact Below.refl _ _ | refine Below.drew ?_ | refine Below.alloc ?_ (by (try simp) <;> omega) _ | refine below_set3 ?_ (by (try simp) <;> omega) _ _ _ | refine below_set2 ?_ (by (try simp) <;> omega) _ _ | refine Below.setCell ?_ (by (try simp) <;> omega) _ | refine Below.trans ?_ (Below.mono (by assumption) (by (try simp) <;> omega))))); have HV := Lib.hid ((show ratOf (!(m1 == m2)) (val z3) (val z4) = ratOf (!(m1 == m2)) (val xs * val zs) (val ds * val es) by rw [q3.eq, q4.eq]).trans HF.out))
      | (go_at_call 103; refine (product_any (xs := xs) (ys := zs) (ad := a1) (bd := a3) (ca := c1) (cb := c3) (by first | (first | exact Row.at (by simp) | exact (Row.at (by simp)).drew | exact (Row.at (by simp)).alloc _ | exact ((Row.at (by simp)).alloc _).drew) | (refine Row.later ?_ hb3; first | exact Row.at (by simp) | exact (Row.at (by simp)).drew | exact (Row.at (by simp)).alloc _ | exact ((Row.at (by simp)).alloc _).drew)) (A.later (Kept.under (show Kept (w.heap.size + 1 + 1) W _ by (repeat' (first | exact Kept.refl _ _ | refine Kept.drew ?_ | refine Kept.alloc ?_ _ | refine Kept.set ?_ _ _ | refine Kept.below ?_ (by assumption)))) hBW (by omega) (by omega))) (C.later (Kept.under (show Kept (w.heap.size + 1 + 1) W _ by (repeat' (first | exact Kept.refl _ _ | refine Kept.drew ?_ | refine Kept.alloc ?_ _ | refine Kept.set ?_ _ _ | refine Kept.below ?_ (by assumption)))) hBW (by omega) (by omega))) hx hz (by omega)).mono ?_; rintro e w3 ⟨r3, z3, rfl, q3, l3, hb3⟩; obtain ⟨ad3, cp3, rfl, q3, A3⟩ := q3.slice)))
  all_goals (
    have hs4 := hb4.size
    have hs5 := hb5.size
    have hk5 := (show Kept (w.heap.size + 1 + 1 + 1) W w5 by (repeat' (first | exact Kept.refl _ _ | refine Kept.drew ?_ | refine Kept.alloc ?_ _ | refine Kept.set ?_ _ _ | refine Kept.below ?_ (by assumption)))).size
    have hk4 := (show Kept (w.heap.size + 1 + 1 + 1) W w4 by (repeat' (first | exact Kept.refl _ _ | refine Kept.drew ?_ | refine Kept.alloc ?_ _ | refine Kept.set ?_ _ _ | refine Kept.below ?_ (by assumption)))).size
    have hK4 := (Kept.under (show Kept (w.heap.size + 1 + 1 + 1) W w5 by (repeat' (first | exact Kept.refl _ _ | refine Kept.drew ?_ | refine Kept.alloc ?_ _ | refine Kept.set ?_ _ _ | refine Kept.below ?_ (by assumption)))) hBW (by omega) (by omega))
    go_wp2_with fail
    refine bodyPost_ret (v := .agg #[.bool ng, .slice f1 fs.length j1, .slice f2 gs.length j2]) (by simp [results, Tryz.results54, go_sem, u0, u1, u2]) rfl ⟨_, rfl, ?_, below_set3 hK4 (by omega) _ _ _⟩
    exact ((q5.far P5 (by decide) (kept3 _ _ _)).mono (by omega)).more (by omega))
end
section
open Go.RowKit
set_option linter.unusedVariables false
set_option linter.unusedSimpArgs false
set_option maxRecDepth 100000 in
set_option maxHeartbeats 4000000 in
theorem negQ_any {n : Nat} {w : World} {u : Value} {X : Rat} (hu : ArgQ w u X n) (hn : n ≤ 16777000) :
    Calls Tryz.prog 59 #[u] w fun e w' => ∃ r, e = .returned r ∧ ResQ w.heap.size w' r (-X) (n + 2) ∧ Below w.heap.size w w' := by
  obtain ⟨m1, xs, ds, a1, a2, c1, c2, rfl, A, B, hX, hx, hd⟩ := hu
  obtain ⟨W, hW⟩ : ∃ W, ((w.alloc (.cells #[.bool m1, .slice a1 xs.length c1, .slice a2 ds.length c2] 51)).alloc (.cells #[.bool false, .slice none 0 0, .slice none 0 0] 51)) = W := ⟨_, rfl⟩
  have R0 : Row W (w.heap.size) 51 #[.bool m1, .slice a1 xs.length c1, .slice a2 ds.length c2] := by rw [← hW]; exact ((Row.new _ _ _).alloc _)
  have R1 : Row W (w.heap.size + 1) 51 #[.bool false, .slice none 0 0, .slice none 0 0] := by rw [← hW]; have h := (Row.new (w.alloc (.cells #[.bool m1, .slice a1 xs.length c1, .slice a2 ds.length c2] 51)) 51 #[.bool false, .slice none 0 0, .slice none 0 0]); simp only [World.size_alloc] at h; exact h
  have hBW : Below w.heap.size w W := by rw [← hW]; exact (((Below.refl _ _).alloc (by (try simp) <;> omega) _).alloc (by (try simp) <;> omega) _)
  have hsW : w.heap.size + 1 + 1 ≤ W.heap.size := by rw [← hW]; simp
  obtain ⟨V, hV⟩ : ∃ V, W.setCell ⟨w.heap.size, 0, none⟩ (.bool !m1) = V := ⟨_, rfl⟩
  have hBV : Below w.heap.size w V := by rw [← hV]; exact hBW.setCell (by simp) _
  have hsV : W.heap.size ≤ V.heap.size := by rw [← hV]; simp
  have P0 : Row V (w.heap.size) 51 #[.bool !m1, .slice a1 xs.length c1, .slice a2 ds.length c2] := by rw [← hV]; exact R0.set 0 _
  have P1 : Row V (w.heap.size + 1) 51 #[.bool false, .slice none 0 0, .slice none 0 0] := by rw [← hV]; exact R1.far (by simp) _
  have hq : ArgQ V (.agg #[.bool !m1, .slice a1 xs.length c1, .slice a2 ds.length c2]) (-X) n := ⟨!m1, xs, ds, a1, a2, c1, c2, rfl, A.later hBV, B.later hBV, by rw [rat_turned, hX], hx, hd⟩
  clear hX
  obtain ⟨p0, p1, p2, p3, p4, p5⟩ := R0.three
  obtain ⟨o0, o1, o2, o3, o4, o5⟩ := P0.three
  go_enter Tryz.func59, Tryz.ntmps59
  go_wp2_with fail
  (try rw [hV])
  refine (norm_any hq (by omega)).mono ?_
  rintro e w2 ⟨r2, rfl, q2, hb2⟩
  have hs2 := hb2.size
  obtain ⟨ng, fs, gs, f1, f2, j1, j2, rfl⟩ := q2.arg.box
  clear p0 p1 p2 p3 p4 p5 o0 o1 o2 o3 o4 o5 hV hW
  have P2 := P1.later hb2
  obtain ⟨u0, u1, u2, g0, g1, g2⟩ := P2.three
  go_wp2_with fail
  refine bodyPost_ret (v := .agg #[.bool ng, .slice f1 fs.length j1, .slice f2 gs.length j2]) (by simp [results, Tryz.results59, go_sem, u0, u1, u2]) rfl ⟨_, rfl, ?_, below_set3 (hBV.trans (hb2.mono (by omega))) (by omega) _ _ _⟩
  exact (q2.far P2 (by decide) (kept3 _ _ _)).mono (by omega)
set_option maxRecDepth 100000 in
set_option maxHeartbeats 4000000 in
theorem signQ_any {n : Nat} {w : World} {u : Value} {X : Rat} (hu : ArgQ w u X n) (hn : n ≤ 16777000) :
    Calls Tryz.prog 104 #[u] w fun e w' => e = .returned (.int .i64 (sgR X)) ∧ Below w.heap.size w w' := by
  obtain ⟨n1, ps, qs, e1, e2, k1, k2, rfl⟩ := hu.box
  obtain ⟨W, hW⟩ : ∃ W, (w.alloc (.cells #[.bool n1, .slice e1 ps.length k1, .slice e2 qs.length k2] 51)) = W := ⟨_, rfl⟩
  have R0 : Row W (w.heap.size) 51 #[.bool n1, .slice e1 ps.length k1, .slice e2 qs.length k2] := by rw [← hW]; exact (Row.new _ _ _)
  have hBW : Below w.heap.size w W := by rw [← hW]; exact ((Below.refl _ _).alloc (by (try simp) <;> omega) _)
  have hsW : w.heap.size + 1 ≤ W.heap.size := by rw [← hW]; simp
  have hu' := hu.later hBW
  obtain ⟨p0, p1, p2, p3, p4, p5⟩ := R0.three
  go_enter Tryz.func104, Tryz.ntmps104
  go_wp2_with fail
  refine (plain_any hu' (by omega)).mono ?_
  rintro e w1 ⟨r1, rfl, h1, hb1⟩
  have hs1 := hb1.size
  replace R0 := R0.later hb1
  clear p0 p1 p2 p3 p4 p5 hW
  obtain ⟨m1, xs, ds, a1, a2, c1, c2, rfl, A, B, hX, hx, hd, hB, _⟩ := h1
  obtain ⟨p0, p1, p2, p3, p4, p5⟩ := R0.three
  obtain ⟨V, hV⟩ : ∃ V, ((w1.setCell ⟨w.heap.size, 0, none⟩ (.bool m1)).setCell ⟨w.heap.size, 1, none⟩ (.slice a1 xs.length c1)).setCell ⟨w.heap.size, 2, none⟩ (.slice a2 ds.length c2) = V := ⟨_, rfl⟩
  have P0 : Row V (w.heap.size) 51 #[.bool m1, .slice a1 xs.length c1, .slice a2 ds.length c2] := by rw [← hV]; exact R0.set3 _ _ _
  have hBV : Below w.heap.size w V := by rw [← hV]; exact below_set3 (hBW.trans (hb1.mono (by omega))) (by omega) _ _ _
  have hsV : w1.heap.size ≤ V.heap.size := by rw [← hV]; simp
  have AV : Arg V (.slice a1 xs.length c1) xs a1 c1 := by rw [← hV]; exact A.far R0 (noInts3 _ _ _ _ _ _ _) (kept3 _ _ _)
  have hs : SgnQ V (.agg #[.bool m1, .slice a1 xs.length c1]) (sgn m1 (val xs)) (n + 2) := ⟨m1, xs, a1, c1, rfl, AV, rfl, hx⟩
  have hfin : (sgn m1 (val xs)).sign = sgR X := by rw [← hX, sgR_ratOf _ _ hB]
  have HF := Lib.hid hfin
  obtain ⟨o0, o1, o2, _, _, _⟩ := P0.three
  clear hfin hX
  go_wp2_with fail
  (try rw [hV])
  refine (sign_any hs (by omega)).mono ?_
  rintro e w2 ⟨rfl, hb2⟩
  clear p0 p1 p2 p3 p4 p5 o0 o1 o2 hV
  go_wp2_with fail
  go_ret
  exact ⟨by rw [← HF.out]; rfl, hBV.trans (hb2.mono (by omega))⟩
end
section
open Go.RowKit
set_option linter.unusedVariables false
set_option linter.unusedSimpArgs false
set_option maxRecDepth 100000 in
set_option maxHeartbeats 1000000 in
theorem smallL_any (N : Int) (w : World) (hN : 0 ≤ N) (hN2 : N ≤ 9223372036854775807) :
    Calls Tryz.prog 118 #[.int .i64 N] w fun e w' => ∃ u, e = .returned u ∧ ∃ zs, ResD w.heap.size w' u zs N ∧ zs.length ≤ 5 ∧ Below w.heap.size w w' := by
  obtain ⟨i0, hi, hz0, hz1, hz2⟩ := info_parts infoInt
  go_enter Tryz.func118, Tryz.ntmps118
  go_wp2
  go_loopw [0, 3] (fun n s wr => ∃ (m : Int) (ds : List Int) (v : Value), n = .int .i64 m ∧ v = s ∧ 0 ≤ m ∧ m ≤ 9223372036854775807 ∧ ds.length ≤ 5 ∧ NumI w.heap.size wr v ds ∧ WfD ds ∧ valD ds + 10000 ^ ds.length * m = N ∧ (m = 0 → trimN ds ds.length = ds.length) ∧ Below w.heap.size w wr) (fun n _ _ => (intOf n).toNat)
  case atStart => exact ⟨N, [], _, rfl, rfl, hN, hN2, by simp, World.ownsRow_nil _ _ _ _, WfD.nil, by simp [valD], fun _ => rfl, Below.refl _ _⟩
  case round =>
    obtain ⟨m, ds, v, rfl, rfl, hm, hm2, hlen, hown, hwf, hval, hfull, hb⟩ := hrel
    have hsz := hb.size
    have HV := Lib.hid hval
    have HF := Lib.hid hfull
    have HO := Lib.hid hown
    have hrow : wr.ownsRow w.heap.size 3 1 v ds.length (ds.map (Value.int .i64)) := hown
    have h0v := val_nonnegD hwf
    have hle : 10000 ^ ds.length * m ≤ N := by omega
    have hlen4 : 0 < m → ds.length ≤ 4 := by
      intro hp
      rcases Nat.lt_or_ge 4 ds.length with k | k
      · exfalso
        have e5 : ds.length = 5 := by omega
        rw [e5] at hle
        simp at hle
        omega
      · exact k
    clear hval hfull hown hle h0v
    by_cases hpos : 0 < m
    · have hl4 := hlen4 hpos
      clear hlen4
      go_wp2_with (at_builtin; refine wpList_append_own _ rfl _ _ 54 rfl w.heap.size 3 i0 (.int .i64 0) 1 8 Tryz.underlying54 hi hz0 hz1 hz2 rfl (by decide) _ _ _ rfl (hrow.alloc _) ⟨wr.heap.size, 0, none⟩ 1 1 [.int .i64 (m % 10000)] rfl rfl (cell_one_new _ _ _) (by simp [Value.oneCell']) (by unfold maxLen; omega) (by omega) (by simp; omega) ?_; intro v' w1 hown' hgrow _)
      go_roundw
      case rel =>
        obtain ⟨hn, hbw⟩ := push_num hb hsz HO.out hown' hgrow
        refine ⟨m / 10000, ds ++ [m % 10000], v', rfl, rfl, by omega, by omega, ?_, hn, hwf.snoc (by omega), ?_, fun h0 => full_snoc ds (by omega), hbw⟩
        · rw [List.length_append, List.length_singleton]
          omega
        · rw [valD_snoc, List.length_append, List.length_singleton, Int.pow_succ]
          have h1 := HV.out
          have h2 : m % 10000 + 10000 * (m / 10000) = m := by omega
          generalize m % 10000 = r at *
          generalize m / 10000 = q at *
          generalize (10000 : Int) ^ ds.length = P at *
          grind
      case measure => simp [intOf]; omega
    · have h0 : m = 0 := by omega
      subst h0
      go_wp2
      go_ret
      exact ⟨_, rfl, ds, ⟨HO.out, hwf, (by have h := HF.out; simpa using h), by have := HV.out; simpa using this⟩, hlen, hb⟩
/-- a literal of one digit -/
theorem digit_lit {w : World} {g : Nat} {x : Int} (h : Row w g 3 #[.int .i64 x]) (hx : 0 < x ∧ x < 10000) : ArgD w (.slice (some ⟨g, 0, none⟩) 1 1) [x] (some ⟨g, 0, none⟩) 1 := by
  refine ⟨rfl, .inr ⟨g, 0, rfl, fun i hi => ?_⟩, by simp, WfD.cons (by omega) WfD.nil, ?_⟩
  · obtain rfl : i = 0 := by simpa using hi
    exact h.cell 0
  · show trimN [x] 1 = 1
    unfold trimN
    rw [if_neg (by simp; omega)]
set_option maxHeartbeats 1000000 in
theorem sizeR_any (n : Int) (w : World) (h0 : -9223372036854775808 ≤ n) (h1 : n ≤ 9223372036854775807) :
    Calls Tryz.prog 108 #[.int .i64 n] w fun e w' => ∃ r, e = .returned r ∧ ∃ zs, ResD w.heap.size w' r zs (n.natAbs : Int) ∧ zs.length ≤ 6 ∧ Below w.heap.size w w' := by
  by_cases hn : n < 0
  · have hd : decide (n < 0) = true := decide_eq_true hn
    obtain ⟨m, hm⟩ : ∃ m : Int, n = -m - 1 := ⟨-n - 1, by omega⟩
    have e1 : ((n.natAbs : Nat) : Int) = m + 1 := by omega
    rw [e1]
    subst hm
    have hs1 : -m - 1 + 1 = -m := by omega
    have hw1 : IntKind.i64.wrap (-m - 1 + 1) = -m := by rw [hs1]; exact IntWalk.i64_in _ (by omega)
    have hw2 : IntKind.i64.wrap (- -m) = m := by rw [Int.neg_neg]; exact IntWalk.i64_in _ (by omega)
    clear e1
    go_enter Tryz.func108, Tryz.ntmps108
    go_wp2_with fail
    have key : ∀ q : Int, q = m → Calls Tryz.prog 118 #[.int .i64 q] w fun e w' => ∃ u, e = .returned u ∧ ∃ zs, ResD w.heap.size w' u zs m ∧ zs.length ≤ 5 ∧ Below w.heap.size w w' := by
      rintro q rfl; exact smallL_any _ _ (by omega) (by omega)
    refine (key _ (by first | rfl | omega | (unfold wrap64; omega))).mono ?_
    rintro e w1 ⟨r1, rfl, z1, q1, n1, hb1⟩
    obtain ⟨ad1, c1, rfl, q1, A1⟩ := q1.slice
    have hb2 : Below w1.heap.size w1 (w1.alloc (.cells #[.int .i64 1] 3)) := (Below.refl _ _).alloc (Nat.le_refl _) _
    have A1' := A1.later hb2
    have L := digit_lit (Row.new w1 3 #[.int .i64 1]) (by omega)
    have hs1' := hb1.size
    clear hw1 hw2 hs1 key
    go_wp2_with fail
    refine (addD_any A1' L (by omega) (by simp)).mono ?_
    rintro e w2 ⟨r2, rfl, z2, q2, n2, hb3⟩
    have hv : valD z2 = m + 1 := by rw [q2.eq, q1.eq]; simp [valD]
    have HV := Lib.hid hv
    have hs2 : w.heap.size ≤ (w1.alloc (.cells #[.int .i64 1] 3)).heap.size := by simp; omega
    simp only [List.length_cons, List.length_nil] at n2
    clear hv
    go_wp2_with fail
    go_ret
    exact ⟨_, rfl, z2, ⟨q2.num.mono hs2, q2.wf, q2.full, HV.out⟩, by omega, (hb1.trans (hb2.mono hs1')).trans (hb3.mono hs2)⟩
  · have hd : decide (n < 0) = false := decide_eq_false hn
    have e1 : ((n.natAbs : Nat) : Int) = n := by omega
    rw [e1]
    clear e1
    go_enter Tryz.func108, Tryz.ntmps108
    go_wp2_with fail
    refine (smallL_any n _ (by omega) (by omega)).mono ?_
    rintro e w' ⟨r, rfl, z, q, nz, hb⟩
    go_wp2_with fail
    go_ret
    exact ⟨r, rfl, z, q, by omega, hb⟩
end
section
open Go.RowKit
set_option linter.unusedVariables false
set_option linter.unusedSimpArgs false
set_option maxRecDepth 100000 in
set_option maxHeartbeats 4000000 in
theorem makeR_any {n : Nat} {w : World} {m1 : Bool} {xs ds : List Int} {a1 a2 : Option Addr} {c1 c2 : Nat} (A : ArgD w (.slice a1 xs.length c1) xs a1 c1) (B : ArgD w (.slice a2 ds.length c2) ds a2 c2) (hx : xs.length ≤ n) (hd : ds.length ≤ n) (hn : n ≤ 4294967296) :
    Calls Tryz.prog 76 #[.bool m1, .slice a1 xs.length c1, .slice a2 ds.length c2] w fun e w' => ∃ r, e = .returned r ∧ ArgR w' r (ratOf m1 (valD xs) (valD ds)) (n + 1) ∧ Below w.heap.size w w' := by
  have h0x := val_nonnegD A.wf
  have h0d := val_nonnegD B.wf
  obtain ⟨W, hW⟩ : ∃ W, (w.alloc (.cells #[.bool false, .slice none 0 0, .slice none 0 0] 56)) = W := ⟨_, rfl⟩
  have R0 : Row W (w.heap.size) 56 #[.bool false, .slice none 0 0, .slice none 0 0] := by rw [← hW]; exact (Row.new _ _ _)
  have hBW : Below w.heap.size w W := by rw [← hW]; exact ((Below.refl _ _).alloc (by (try simp) <;> omega) _)
  have hsW : w.heap.size + 1 ≤ W.heap.size := by rw [← hW]; simp
  by_cases z1 : valD xs = 0
  · have d1 := lenD_zero A.wf A.full z1
    have hX : ratOf m1 (valD xs) (valD ds) = 0 := by rw [z1]; exact ratOf_zero_left _ _
    have HX := Lib.hid hX
    have hb2 : Below W.heap.size W (W.alloc (.cells #[.int .i64 1] 3)) := (Below.refl _ _).alloc (Nat.le_refl _) _
    have L := digit_lit (Row.new W 3 #[.int .i64 1]) (by omega)
    have R0' := R0.later hb2
    obtain ⟨u0, u1, u2, g0, g1, g2⟩ := R0'.three
    obtain ⟨p0, p1, p2, p3, p4, p5⟩ := R0.three
    clear hX
    go_enter Tryz.func76, Tryz.ntmps76
    go_wp2_with fail
    refine bodyPost_ret (v := .agg #[.bool false, .slice none 0 0, .slice (some ⟨W.heap.size, 0, none⟩) 1 1]) (by simp [results, Tryz.results76, go_sem, u0, u1, u2]) rfl ⟨_, rfl, ⟨[], [1], none, some ⟨W.heap.size, 0, none⟩, 0, 1, ?_, ?_, ?_, ?_, ?_, by simp, by simp⟩, ?_⟩
    · rw [HX.out]; rfl
    · exact ⟨rfl, .inl rfl, Nat.le_refl _, WfD.nil, rfl⟩
    · exact L.far R0' (noInts3 _ _ _ _ _ _ _) (kept3 _ _ _)
    · rw [HX.out]; rfl
    · rw [HX.out]; rfl
    · exact below_set3 (hBW.trans (hb2.mono (by omega))) (by omega) _ _ _
  by_cases z2 : valD ds = 0
  · have d1 := lenD_pos (show 0 < valD xs by omega)
    have d2 := lenD_zero B.wf B.full z2
    have hX : ratOf m1 (valD xs) (valD ds) = 0 := by rw [z2]; exact ratOf_zero_right _ _
    have HX := Lib.hid hX
    have hb2 : Below W.heap.size W (W.alloc (.cells #[.int .i64 1] 3)) := (Below.refl _ _).alloc (Nat.le_refl _) _
    have L := digit_lit (Row.new W 3 #[.int .i64 1]) (by omega)
    have R0' := R0.later hb2
    obtain ⟨u0, u1, u2, g0, g1, g2⟩ := R0'.three
    obtain ⟨p0, p1, p2, p3, p4, p5⟩ := R0.three
    clear hX
    go_enter Tryz.func76, Tryz.ntmps76
    go_wp2_with fail
    refine bodyPost_ret (v := .agg #[.bool false, .slice none 0 0, .slice (some ⟨W.heap.size, 0, none⟩) 1 1]) (by simp [results, Tryz.results76, go_sem, u0, u1, u2]) rfl ⟨_, rfl, ⟨[], [1], none, some ⟨W.heap.size, 0, none⟩, 0, 1, ?_, ?_, ?_, ?_, ?_, by simp, by simp⟩, ?_⟩
    · rw [HX.out]; rfl
    · exact ⟨rfl, .inl rfl, Nat.le_refl _, WfD.nil, rfl⟩
    · exact L.far R0' (noInts3 _ _ _ _ _ _ _) (kept3 _ _ _)
    · rw [HX.out]; rfl
    · rw [HX.out]; rfl
    · exact below_set3 (hBW.trans (hb2.mono (by omega))) (by omega) _ _ _
  have hpx : 0 < valD xs := by omega
  have hpd : 0 < valD ds := by omega
  have d1 := lenD_pos hpx
  have d2 := lenD_pos hpd
  have A' := A.later hBW
  have B' := B.later hBW
  have e1 := ratOf_neg (n := m1) h0x hpd (fun h => absurd h z1)
  have e2 := ratOf_abs (n := m1) h0x hpd
  have e3 := ratOf_den (n := m1) (A := valD xs) hpd
  have hgp : 0 < (Int.gcd (valD xs) (valD ds) : Int) := gcd_pos hpx
  have E1 := Lib.hid e1
  have E2 := Lib.hid e2
  have E3 := Lib.hid e3
  clear e1 e2 e3 z1 z2
  go_enter Tryz.func76, Tryz.ntmps76
  go_wp2_with fail
  refine (gcdD_any A' B' (by omega) (by omega)).mono ?_
  rintro e w1 ⟨r1, rfl, gs, gd, gc, G, hG, lG, hb1⟩
  have hs1 := hb1.size
  have A1 := A'.later hb1
  have B1 := B'.later hb1
  have hgs : 0 < valD gs := by rw [hG]; exact hgp
  have HG := Lib.hid hG
  have eG := G.is
  subst eG
  clear hG hgp hW
  go_wp2_with fail
  refine (divD_any A1 G (by omega) (by omega) hgs).mono ?_
  rintro e w2 ⟨r2, s2, rfl, hb2, ⟨z2, q2, l2⟩, _⟩
  have hs2 := hb2.size
  obtain ⟨ad2, cp2, rfl, q2, A2⟩ := q2.slice
  have B2 := B1.later hb2
  have G2 := G.later hb2
  go_wp2_with fail
  refine (divD_any B2 G2 (by omega) (by omega) hgs).mono ?_
  rintro e w3 ⟨r3, s3, rfl, hb3, ⟨z3, q3, l3⟩, _⟩
  have hs3 := hb3.size
  obtain ⟨ad3, cp3, rfl, q3, A3⟩ := q3.slice
  have A2' := A2.later hb3
  have P3 := ((R0.later hb1).later hb2).later hb3
  have v2 := q2.eq
  have v3 := q3.eq
  rw [HG.out] at v2 v3
  have V2 := Lib.hid v2
  have V3 := Lib.hid v3
  clear v2 v3 q2 q3
  obtain ⟨u0, u1, u2, g0, g1, g2⟩ := P3.three
  go_wp2_with fail
  refine bodyPost_ret (v := .agg #[.bool m1, .slice ad2 z2.length cp2, .slice ad3 z3.length cp3]) (by simp [results, Tryz.results76, go_sem, u0, u1, u2]) rfl ⟨_, rfl, ⟨z2, z3, ad2, ad3, cp2, cp3, by rw [E1.out], ?_, ?_, ?_, ?_, by omega, by omega⟩, ?_⟩
  · exact A2'.far P3 (noInts3 _ _ _ _ _ _ _) (kept3 _ _ _)
  · exact A3.far P3 (noInts3 _ _ _ _ _ _ _) (kept3 _ _ _)
  · rw [V2.out, E2.out]
  · rw [V3.out, E3.out]
  · exact below_set3 (((hBW.trans (hb1.mono (by omega))).trans (hb2.mono (by omega))).trans (hb3.mono (by omega))) (by omega) _ _ _
set_option maxRecDepth 100000 in
set_option maxHeartbeats 4000000 in
theorem ofR_any {n : Nat} {w : World} {v : Value} {X : Rat} (h : ArgQ w v X n) (hn : n ≤ 134217728) :
    Calls Tryz.prog 36 #[v] w fun e w' => ∃ r, e = .returned r ∧ ArgR w' r X (5 * n + 1) ∧ Below w.heap.size w w' := by
  obtain ⟨m1, xs, ds, a1, a2, c1, c2, rfl, A, B, hX, hx, hd⟩ := h
  obtain ⟨W, hW⟩ : ∃ W, ((w.alloc (.cells #[.bool m1, .slice a1 xs.length c1, .slice a2 ds.length c2] 51)).alloc (.cells #[.bool false, .slice none 0 0, .slice none 0 0] 56)) = W := ⟨_, rfl⟩
  have R0 : Row W (w.heap.size) 51 #[.bool m1, .slice a1 xs.length c1, .slice a2 ds.length c2] := by rw [← hW]; exact ((Row.new _ _ _).alloc _)
  have R1 : Row W (w.heap.size + 1) 56 #[.bool false, .slice none 0 0, .slice none 0 0] := by rw [← hW]; have h := (Row.new (w.alloc (.cells #[.bool m1, .slice a1 xs.length c1, .slice a2 ds.length c2] 51)) 56 #[.bool false, .slice none 0 0, .slice none 0 0]); simp only [World.size_alloc] at h; exact h
  have hBW : Below w.heap.size w W := by rw [← hW]; exact (((Below.refl _ _).alloc (by (try simp) <;> omega) _).alloc (by (try simp) <;> omega) _)
  have hsW : w.heap.size + 1 + 1 ≤ W.heap.size := by rw [← hW]; simp
  have HX := Lib.hid hX
  clear hX
  have mkS : ∀ X, Kept (w.heap.size + 1) W X → X.cell? ⟨w.heap.size, 0, none⟩ = some (.bool m1) ∧ X.cell? ⟨w.heap.size, 1, none⟩ = some (.slice a1 xs.length c1) ∧ X.cell? ⟨w.heap.size, 2, none⟩ = some (.slice a2 ds.length c2) ∧ Kept (w.heap.size + 1) W X := fun X h => ⟨(R0.kept h (by omega)).cell 0, (R0.kept h (by omega)).cell 1, (R0.kept h (by omega)).cell 2, h⟩
  go_enter Tryz.func36, Tryz.ntmps36
  go_wp2_with fail
  clear hW
  go_region_held3 (fun X => X.cell? ⟨w.heap.size, 0, none⟩ = some (.bool m1) ∧ X.cell? ⟨w.heap.size, 1, none⟩ = some (.slice a1 xs.length c1) ∧ X.cell? ⟨w.heap.size, 2, none⟩ = some (.slice a2 ds.length c2) ∧ Kept (w.heap.size + 1) W X)
    (((refine mkS _ ?_; (repeat' (first | exact Kept.refl _ _ | refine Kept.drew ?_ | refine Kept.alloc ?_ _ | refine Kept.set ?_ _ _ | refine Kept.below ?_ (by assumption))))))
    ((first
      | (go_at_call 76; refine (makeR_any (n := 5 * n) (A3.later hb4) A4 (by omega) (by omega) (by omega)).mono ?_; rintro e w5 ⟨r5, rfl, q5, hb5⟩; rw [HV.out] at q5; obtain ⟨fs, gs, f1, f2, j1, j2, e5, _⟩ := id q5; subst e5; have P5 := R1.kept (show Kept (w.heap.size + 1 + 1 + 1) W w5 by (repeat' (first | exact Kept.refl _ _ | refine Kept.drew ?_ | refine Kept.alloc ?_ _ | refine Kept.set ?_ _ _ | refine Kept.below ?_ (by assumption)))) (by omega); obtain ⟨u0, u1, u2, g0, g1, g2⟩ := P5.three)
      | (go_at_call 77; (with_reducible refine (of_any (B.later (Kept.under (show Kept (w.heap.size + 1) W _ by (repeat' (first | exact Kept.refl _ _ | refine Kept.drew ?_ | refine Kept.alloc ?_ _ | refine Kept.set ?_ _ _ | refine Kept.below ?_ (by assumption)))) hBW (by omega) (by omega))) (by omega)).mono ?_); rintro e w4 ⟨r4, rfl, z4, q4, l4, hb4⟩; obtain ⟨ad4, cp4, rfl, q4, A4⟩ := q4.slice; have HV := Lib.hid ((show ratOf m1 (valD z3) (valD z4) = ratOf m1 (val xs) (val ds) by rw [q3.eq, q4.eq]).trans HX.out))
      | (go_at_call 77; (with_reducible refine (of_any (A.later (Kept.under (show Kept (w.heap.size + 1) W _ by (repeat' (first | exact Kept.refl _ _ | refine Kept.drew ?_ | refine Kept.alloc ?_ _ | refine Kept.set ?_ _ _ | refine Kept.below ?_ (by assumption)))) hBW (by omega) (by omega))) (by omega)).mono ?_); rintro e w3 ⟨r3, rfl, z3, q3, l3, hb3⟩; obtain ⟨ad3, cp3, rfl, q3, A3⟩ := q3.slice)))
  have hs5 := hb5.size
  have hk5 := (show Kept (w.heap.size + 1 + 1 + 1) W w5 by (repeat' (first | exact Kept.refl _ _ | refine Kept.drew ?_ | refine Kept.alloc ?_ _ | refine Kept.set ?_ _ _ | refine Kept.below ?_ (by assumption)))).size
  have hK5 := (Kept.under (show Kept (w.heap.size + 1 + 1 + 1) W w5 by (repeat' (first | exact Kept.refl _ _ | refine Kept.drew ?_ | refine Kept.alloc ?_ _ | refine Kept.set ?_ _ _ | refine Kept.below ?_ (by assumption)))) hBW (by omega) (by omega))
  go_wp2_with fail
  refine bodyPost_ret (v := .agg #[.bool (decide (X.num < 0)), .slice f1 fs.length j1, .slice f2 gs.length j2]) (by simp [results, Tryz.results36, go_sem, u0, u1, u2]) rfl ⟨_, rfl, ?_, below_set3 hK5 (by omega) _ _ _⟩
  exact (q5.far P5 (noInts3 _ _ _ _ _ _ _) (kept3 _ _ _))
end
section
open Go.RowKit
set_option linter.unusedVariables false
set_option linter.unusedSimpArgs false
set_option maxRecDepth 100000 in
set_option maxHeartbeats 4000000 in
theorem zeroR_any {n : Nat} {w : World} {u : Value} {X : Rat} (hu : ArgR w u X n) :
    Calls Tryz.prog 40 #[u] w fun e w' => e = .returned (.bool (decide (X = 0))) ∧ Below w.heap.size w w' := by
  obtain ⟨xs, ds, a1, a2, c1, c2, rfl, A, B, hX1, hX2, hx, hd⟩ := hu
  obtain ⟨m1, hm1⟩ : ∃ m, decide (X.num < 0) = m := ⟨_, rfl⟩
  rw [hm1]
  clear hm1
  obtain ⟨W, hW⟩ : ∃ W, (w.alloc (.cells #[.bool m1, .slice a1 xs.length c1, .slice a2 ds.length c2] 56)) = W := ⟨_, rfl⟩
  have R0 : Row W (w.heap.size) 56 #[.bool m1, .slice a1 xs.length c1, .slice a2 ds.length c2] := by rw [← hW]; exact (Row.new _ _ _)
  have hBW : Below w.heap.size w W := by rw [← hW]; exact ((Below.refl _ _).alloc (by (try simp) <;> omega) _)
  have hsW : w.heap.size + 1 ≤ W.heap.size := by rw [← hW]; simp
  obtain ⟨p0, p1, p2, _, _, _⟩ := R0.three
  have hz := abs_zero X
  by_cases h : X = 0
  · have d1 := lenD_zero A.wf A.full (by rw [hX1]; exact hz.2 h)
    have h0 : decide (X = 0) = true := decide_eq_true h
    have H0 := Lib.hid h0
    clear hX1 hX2 h hz h0
    go_enter Tryz.func40, Tryz.ntmps40
    go_wp2_with fail
    go_ret
    exact ⟨by rw [H0.out]; rfl, hBW⟩
  · have d1 := lenD_pos (ds := xs) (by rw [hX1]; have h2 := mt hz.1 h; omega)
    have h0 : decide (X = 0) = false := decide_eq_false h
    have H0 := Lib.hid h0
    clear hX1 hX2 h hz h0
    go_enter Tryz.func40, Tryz.ntmps40
    go_wp2_with fail
    go_ret
    exact ⟨by rw [H0.out]; rfl, hBW⟩
set_option maxRecDepth 100000 in
set_option maxHeartbeats 4000000 in
theorem signR_any {n : Nat} {w : World} {u : Value} {X : Rat} (hu : ArgR w u X n) :
    Calls Tryz.prog 66 #[u] w fun e w' => e = .returned (.int .i64 (sgR X)) ∧ Below w.heap.size w w' := by
  have hu0 := hu
  obtain ⟨xs, ds, a1, a2, c1, c2, rfl, A, B, hX1, hX2, hx, hd⟩ := hu
  obtain ⟨m1, hm1⟩ : ∃ m, decide (X.num < 0) = m := ⟨_, rfl⟩
  have HM := Lib.hid hm1
  rw [hm1] at hu0 ⊢
  obtain ⟨W, hW⟩ : ∃ W, (w.alloc (.cells #[.bool m1, .slice a1 xs.length c1, .slice a2 ds.length c2] 56)) = W := ⟨_, rfl⟩
  have R0 : Row W (w.heap.size) 56 #[.bool m1, .slice a1 xs.length c1, .slice a2 ds.length c2] := by rw [← hW]; exact (Row.new _ _ _)
  have hBW : Below w.heap.size w W := by rw [← hW]; exact ((Below.refl _ _).alloc (by (try simp) <;> omega) _)
  have hsW : w.heap.size + 1 ≤ W.heap.size := by rw [← hW]; simp
  obtain ⟨p0, p1, p2, _, _, _⟩ := R0.three
  have hzr := zeroR_any (hu0.later hBW)
  have hz0 := sgR_zero X
  clear hm1
  by_cases h : X = 0
  · have h0 : decide (X = 0) = true := decide_eq_true h
    rw [h0] at hzr
    have hs := hz0.2 h
    have HS := Lib.hid hs
    clear h h0 hs hz0 hX1 hX2 hu0
    go_enter Tryz.func66, Tryz.ntmps66
    go_wp2_with fail
    refine hzr.mono ?_
    rintro e w2 ⟨rfl, hb2⟩
    clear hzr
    go_wp2_with fail
    go_ret
    exact ⟨by rw [HS.out]; rfl, hBW.trans (hb2.mono (by omega))⟩
  · have h0 : decide (X = 0) = false := decide_eq_false h
    rw [h0] at hzr
    have hne : X.num ≠ 0 := fun e => h (Rat.num_eq_zero.1 e)
    cases m1 with
    | true =>
      have hs : sgR X = -1 := Int.sign_eq_neg_one_of_neg (of_decide_eq_true HM.out)
      have HS := Lib.hid hs
      clear h h0 hs hz0 hX1 hX2 hu0 hne
      go_enter Tryz.func66, Tryz.ntmps66
      go_wp2_with fail
      refine hzr.mono ?_
      rintro e w2 ⟨rfl, hb2⟩
      have hs2 := hb2.size
      clear hzr p0 p1 p2
      obtain ⟨p0, p1, p2, _, _, _⟩ := (R0.later hb2).three
      go_wp2_with fail
      go_ret
      exact ⟨by rw [HS.out]; rfl, hBW.trans (hb2.mono (by omega))⟩
    | false =>
      have hs : sgR X = 1 := by have := of_decide_eq_false HM.out; exact Int.sign_eq_one_of_pos (by omega)
      have HS := Lib.hid hs
      clear h h0 hs hz0 hX1 hX2 hu0 hne
      go_enter Tryz.func66, Tryz.ntmps66
      go_wp2_with fail
      refine hzr.mono ?_
      rintro e w2 ⟨rfl, hb2⟩
      have hs2 := hb2.size
      clear hzr p0 p1 p2
      obtain ⟨p0, p1, p2, _, _, _⟩ := (R0.later hb2).three
      go_wp2_with fail
      go_ret
      exact ⟨by rw [HS.out]; rfl, hBW.trans (hb2.mono (by omega))⟩
end
section
open Go.RowKit
set_option linter.unusedVariables false
set_option linter.unusedSimpArgs false
theorem ArgR.parts {w : World} {v : Value} {x : Rat} {n : Nat} (h : ArgR w v x n) : ∃ (m : Bool) (zs ys : List Int) (ad bd : Option Addr) (ca cb : Nat), v = .agg #[.bool m, .slice ad zs.length ca, .slice bd ys.length cb] ∧
    ArgD w (.slice ad zs.length ca) zs ad ca ∧ ArgD w (.slice bd ys.length cb) ys bd cb ∧ ratOf m (valD zs) (valD ys) = x ∧ zs.length ≤ n ∧ ys.length ≤ n := by
  obtain ⟨zs, ys, ad, bd, ca, cb, rfl, A, B, h1, h2, h3, h4⟩ := h
  exact ⟨_, zs, ys, ad, bd, ca, cb, rfl, A, B, by rw [h1, h2, ratOf_self], h3, h4⟩
end
section
open Go.RowKit
set_option linter.unusedVariables false
set_option linter.unusedSimpArgs false
theorem ArgR.box {w : World} {v : Value} {x : Rat} {n : Nat} (h : ArgR w v x n) : ∃ (m : Bool) (zs ys : List Int) (ad bd : Option Addr) (ca cb : Nat), v = .agg #[.bool m, .slice ad zs.length ca, .slice bd ys.length cb] := by
  obtain ⟨zs, ys, ad, bd, ca, cb, rfl, _⟩ := h
  exact ⟨_, zs, ys, ad, bd, ca, cb, rfl⟩
theorem rat_turn {m : Bool} {A B : Int} (hA : 0 ≤ A) (hB : 0 ≤ B) : ratOf m B A = (ratOf m A B)⁻¹ := rat_over m A B hA hB
set_option maxRecDepth 100000 in
set_option maxHeartbeats 4000000 in
theorem divR_zero {n : Nat} {w : World} {u v : Value} {X Y : Rat} (hu : ArgR w u X n) (hv : ArgR w v Y n) (hY : Y = 0) :
    Calls Tryz.prog 57 #[u, v] w fun e w' => e = .returned (.tuple #[.agg #[.bool false, .slice none 0 0, .slice none 0 0], .bool false]) ∧ Below w.heap.size w w' := by
  obtain ⟨m1, xs, ds, a1, a2, c1, c2, rfl⟩ := hu.box
  obtain ⟨m2, zs, es, a3, a4, c3, c4, rfl⟩ := hv.box
  obtain ⟨W, hW⟩ : ∃ W, (((w.alloc (.cells #[.bool m1, .slice a1 xs.length c1, .slice a2 ds.length c2] 56)).alloc (.cells #[.bool m2, .slice a3 zs.length c3, .slice a4 es.length c4] 56)).alloc (.cells #[.bool false, .slice none 0 0, .slice none 0 0] 56)) = W := ⟨_, rfl⟩
  have R0 : Row W (w.heap.size) 56 #[.bool m1, .slice a1 xs.length c1, .slice a2 ds.length c2] := by rw [← hW]; exact (((Row.new _ _ _).alloc _).alloc _)
  have R1 : Row W (w.heap.size + 1) 56 #[.bool m2, .slice a3 zs.length c3, .slice a4 es.length c4] := by rw [← hW]; have h := (Row.new (w.alloc (.cells #[.bool m1, .slice a1 xs.length c1, .slice a2 ds.length c2] 56)) 56 #[.bool m2, .slice a3 zs.length c3, .slice a4 es.length c4]); simp only [World.size_alloc] at h; exact (h.alloc _)
  have R2 : Row W (w.heap.size + 1 + 1) 56 #[.bool false, .slice none 0 0, .slice none 0 0] := by rw [← hW]; have h := (Row.new ((w.alloc (.cells #[.bool m1, .slice a1 xs.length c1, .slice a2 ds.length c2] 56)).alloc (.cells #[.bool m2, .slice a3 zs.length c3, .slice a4 es.length c4] 56)) 56 #[.bool false, .slice none 0 0, .slice none 0 0]); simp only [World.size_alloc] at h; exact h
  have hBW : Below w.heap.size w W := by rw [← hW]; exact ((((Below.refl _ _).alloc (by (try simp) <;> omega) _).alloc (by (try simp) <;> omega) _).alloc (by (try simp) <;> omega) _)
  have hsW : w.heap.size + 1 + 1 + 1 ≤ W.heap.size := by rw [← hW]; simp
  have hzr := zeroR_any (hv.later hBW)
  rw [decide_eq_true hY] at hzr
  clear hY
  obtain ⟨p0, p1, p2, _, _, _⟩ := R0.three
  obtain ⟨o0, o1, o2, _, _, _⟩ := R1.three
  go_enter Tryz.func57, Tryz.ntmps57
  go_wp2_with fail
  refine hzr.mono ?_
  rintro e w1 ⟨rfl, hb1⟩
  have hs1 := hb1.size
  have P1 := R2.later hb1
  clear hzr hW p0 p1 p2 o0 o1 o2
  obtain ⟨u0, u1, u2, g0, g1, g2⟩ := P1.three
  go_wp2_with fail
  refine bodyPost_ret (v := .tuple #[.agg #[.bool false, .slice none 0 0, .slice none 0 0], .bool false]) (by simp [results, Tryz.results57, go_sem, u0, u1, u2]) rfl ⟨rfl, ?_⟩
  first | exact below_set3 (hBW.trans (hb1.mono (by omega))) (by omega) _ _ _ | exact (hBW.trans (hb1.mono (by omega)))
end
section
open Go.RowKit
set_option linter.unusedVariables false
set_option linter.unusedSimpArgs false
set_option maxRecDepth 100000 in
set_option maxHeartbeats 4000000 in
theorem canonical_false {u : Value} {xs : List Int} {a : Option Addr} {capa : Nat} {w : World} (h1 : Arg w u xs a capa) (hx : xs.length ≤ 70368744177664) (hf : ¬ trimN xs xs.length = xs.length) :
    Calls Tryz.prog 162 #[u] w fun e w' => e = .returned (.bool false) ∧ w = w' := by
  obtain ⟨rfl, lx, _, _⟩ := h1
  have hpos : 0 < xs.length := by
    rcases Nat.eq_zero_or_pos xs.length with h | h
    · exact absurd (by rw [h]; rfl) hf
    · exact h
  obtain ⟨m, hm⟩ : ∃ m, xs.length = m + 1 := ⟨xs.length - 1, by omega⟩
  have hz : xs.getD m 0 = 0 := by
    by_cases h : xs.getD m 0 = 0
    · exact h
    · exfalso
      apply hf
      rw [hm]
      show (if xs.getD m 0 = 0 then trimN xs m else m + 1) = m + 1
      rw [if_neg h]
  rcases lx with rfl | ⟨b, off, rfl, hc⟩
  · simp at hpos
  have hj := hc m (by omega)
  rw [hz] at hj
  rw [hm] at hx
  rw [hm]
  have h2 : ((m : Int) + 1 == 0) = false := by simp; omega
  clear hc hz hf hpos hm
  go_enter Tryz.func162, Tryz.ntmps162
  go_wp2
  go_ret
  exact ⟨rfl, rfl⟩
/-- the limbs zs are those of the number N, as it is answered -/
def isB (zs : List Int) (N : Int) : Bool := decide (trimN zs zs.length = zs.length ∧ val zs = N)
theorem sign_zero {a b : Int} (h : sign a b = 0) : a = b := by unfold sign at h; split at h <;> (try split at h) <;> omega
set_option maxRecDepth 100000 in
set_option maxHeartbeats 4000000 in
theorem is_dec {u v : Value} {ds zs : List Int} {a b : Option Addr} {capa capb : Nat} {w : World} (h1 : ArgD w u ds a capa) (h2 : Arg w v zs b capb) (hx : ds.length ≤ 68719476736) (hy : zs.length ≤ 134217728) :
    Calls Tryz.prog 140 #[u, v] w fun e w' => e = .returned (.bool (isB zs (valD ds))) ∧ Below w.heap.size w w' := by
  by_cases hf : trimN zs zs.length = zs.length
  · by_cases hv : val zs = valD ds
    · have e1 : isB zs (valD ds) = true := decide_eq_true ⟨hf, hv⟩
      rw [e1]
      exact is_true h1 h2 hx hy hf hv.symm
    · have e1 : isB zs (valD ds) = false := decide_eq_false (fun h => hv h.2)
      rw [e1]
      have hne : (sign (val zs) (valD ds) == 0) = false := by simp; exact fun h => hv (sign_zero h)
      go_enter Tryz.func140, Tryz.ntmps140
      go_wp2_with fail
      refine (canonical_true h2 (by omega) hf).mono ?_
      rintro e w' ⟨rfl, rfl⟩
      have HF := Lib.hid hf
      clear hf e1
      go_wp2_with fail
      refine (of_any h2 hy).mono ?_
      rintro e w1 ⟨r, rfl, qs, hq, hl, hb⟩
      obtain ⟨ad, cap, A⟩ := hq.arg
      have h1' := h1.later hb
      have hc := cmpD_any A h1' (by omega) hx
      rw [hq.eq] at hc
      obtain ⟨s, hs⟩ : ∃ s, sign (val zs) (valD ds) = s := ⟨_, rfl⟩
      rw [hs] at hc hne
      clear hs hv
      go_wp2_with fail
      refine hc.mono ?_
      rintro e w2 ⟨rfl, hb2⟩
      clear hc
      go_wp2_with fail
      go_ret
      exact ⟨rfl, hb.trans (hb2.mono hb.size)⟩
  · have e1 : isB zs (valD ds) = false := decide_eq_false (fun h => hf h.1)
    rw [e1]
    go_enter Tryz.func140, Tryz.ntmps140
    go_wp2_with fail
    refine (canonical_false h2 (by omega) hf).mono ?_
    rintro e w' ⟨rfl, rfl⟩
    clear hf e1
    go_wp2_with fail
    go_ret
    exact ⟨rfl, Below.refl _ _⟩
/-- a sign and two rows of limbs are the number X in its valid form -/
def validB (m : Bool) (xs ys : List Int) (X : Rat) : Bool := (m == decide (X.num < 0)) && (isB xs (X.num.natAbs : Int) && isB ys (X.den : Int))
set_option maxRecDepth 100000 in
set_option maxHeartbeats 4000000 in
theorem isR_dec {n : Nat} {w : World} {u : Value} {X : Rat} {m2 : Bool} {zs es : List Int} {a3 a4 : Option Addr} {c3 c4 : Nat} (hu : ArgR w u X n) (C : Arg w (.slice a3 zs.length c3) zs a3 c3) (D : Arg w (.slice a4 es.length c4) es a4 c4)
    (hn : n ≤ 1000000000) (hz : zs.length ≤ 134217728) (he : es.length ≤ 134217728) :
    Calls Tryz.prog 107 #[u, .agg #[.bool m2, .slice a3 zs.length c3, .slice a4 es.length c4]] w fun e w' => e = .returned (.bool (validB m2 zs es X)) ∧ Below w.heap.size w w' := by
  obtain ⟨xs, ds, a1, a2, c1, c2, rfl, A, B, hX1, hX2, hx, hd⟩ := hu
  obtain ⟨m1, hm1⟩ : ∃ m, decide (X.num < 0) = m := ⟨_, rfl⟩
  have hv : validB m2 zs es X = ((m2 == m1) && (isB zs (valD xs) && isB es (valD ds))) := by unfold validB; rw [hm1, hX1, hX2]
  rw [hm1, hv]
  clear hm1 hv hX1 hX2
  obtain ⟨W, hW⟩ : ∃ W, ((w.alloc (.cells #[.bool m1, .slice a1 xs.length c1, .slice a2 ds.length c2] 56)).alloc (.cells #[.bool m2, .slice a3 zs.length c3, .slice a4 es.length c4] 51)) = W := ⟨_, rfl⟩
  have R0 : Row W (w.heap.size) 56 #[.bool m1, .slice a1 xs.length c1, .slice a2 ds.length c2] := by rw [← hW]; exact ((Row.new _ _ _).alloc _)
  have R1 : Row W (w.heap.size + 1) 51 #[.bool m2, .slice a3 zs.length c3, .slice a4 es.length c4] := by rw [← hW]; have h := (Row.new (w.alloc (.cells #[.bool m1, .slice a1 xs.length c1, .slice a2 ds.length c2] 56)) 51 #[.bool m2, .slice a3 zs.length c3, .slice a4 es.length c4]); simp only [World.size_alloc] at h; exact h
  have hBW : Below w.heap.size w W := by rw [← hW]; exact (((Below.refl _ _).alloc (by (try simp) <;> omega) _).alloc (by (try simp) <;> omega) _)
  have hsW : w.heap.size + 1 + 1 ≤ W.heap.size := by rw [← hW]; simp
  have i1 := is_dec (A.later hBW) (C.later hBW) (by omega) hz
  have D1 := D.later hBW
  have B1 := B.later hBW
  obtain ⟨p0, p1, p2, _, _, _⟩ := R0.three
  obtain ⟨o0, o1, o2, _, _, _⟩ := R1.three
  obtain ⟨b1, hb1⟩ : ∃ b, isB zs (valD xs) = b := ⟨_, rfl⟩
  obtain ⟨b2, hb2⟩ : ∃ b, isB es (valD ds) = b := ⟨_, rfl⟩
  rw [hb1] at i1
  rw [hb1, hb2]
  have HB2 := Lib.hid hb2
  clear hb1 hb2
  obtain ⟨b0, hb0⟩ : ∃ b, (m2 == m1) = b := ⟨_, rfl⟩
  rw [hb0]
  cases b0 with
  | false =>
    go_enter Tryz.func107, Tryz.ntmps107
    go_wp2_with fail
    go_ret
    exact ⟨rfl, hBW⟩
  | true =>
    cases b1 with
    | false =>
      go_enter Tryz.func107, Tryz.ntmps107
      go_wp2_with fail
      refine i1.mono ?_
      rintro e w1 ⟨rfl, hb1⟩
      have hs1 := hb1.size
      clear i1
      go_wp2_with fail
      go_ret
      exact ⟨rfl, hBW.trans (hb1.mono (by omega))⟩
    | true =>
      go_enter Tryz.func107, Tryz.ntmps107
      go_wp2_with fail
      refine i1.mono ?_
      rintro e w1 ⟨rfl, hb1⟩
      have hs1 := hb1.size
      have i2 := is_dec (B1.later hb1) (D1.later hb1) (by omega) he
      rw [HB2.out] at i2
      clear i1 p0 p1 p2 o0 o1 o2
      obtain ⟨p0, p1, p2, _, _, _⟩ := (R0.later hb1).three
      obtain ⟨o0, o1, o2, _, _, _⟩ := (R1.later hb1).three
      go_wp2_with fail
      refine i2.mono ?_
      rintro e w2 ⟨rfl, hb2⟩
      clear i2
      go_wp2_with fail
      go_ret
      exact ⟨by cases b2 <;> rfl, (hBW.trans (hb1.mono (by omega))).trans (hb2.mono (by omega))⟩
set_option maxRecDepth 100000 in
set_option maxHeartbeats 4000000 in
theorem mayR_any {n : Nat} {w : World} {m1 : Bool} {xs ds : List Int} {a1 a2 : Option Addr} {c1 c2 : Nat} (A : Arg w (.slice a1 xs.length c1) xs a1 c1) (B : Arg w (.slice a2 ds.length c2) ds a2 c2)
    (hx : xs.length ≤ n) (hd : ds.length ≤ n) (hn : n ≤ 134217728) :
    Calls Tryz.prog 64 #[.agg #[.bool m1, .slice a1 xs.length c1, .slice a2 ds.length c2]] w fun e w' => e = .returned (.int .i64 (if validB m1 xs ds (ratOf m1 (val xs) (val ds)) = true then 0 else 6)) ∧ Below w.heap.size w w' := by
  obtain ⟨X, hX⟩ : ∃ X, ratOf m1 (val xs) (val ds) = X := ⟨_, rfl⟩
  have hq : ArgQ w (.agg #[.bool m1, .slice a1 xs.length c1, .slice a2 ds.length c2]) X n := ⟨m1, xs, ds, a1, a2, c1, c2, rfl, A, B, hX, hx, hd⟩
  rw [hX]
  clear hX
  obtain ⟨W, hW⟩ : ∃ W, (w.alloc (.cells #[.bool m1, .slice a1 xs.length c1, .slice a2 ds.length c2] 51)) = W := ⟨_, rfl⟩
  have R0 : Row W (w.heap.size) 51 #[.bool m1, .slice a1 xs.length c1, .slice a2 ds.length c2] := by rw [← hW]; exact (Row.new _ _ _)
  have hBW : Below w.heap.size w W := by rw [← hW]; exact ((Below.refl _ _).alloc (by (try simp) <;> omega) _)
  have hsW : w.heap.size + 1 ≤ W.heap.size := by rw [← hW]; simp
  obtain ⟨p0, p1, p2, _, _, _⟩ := R0.three
  have hq' := hq.later hBW
  obtain ⟨b, hb⟩ : ∃ b, validB m1 xs ds X = b := ⟨_, rfl⟩
  have HB := Lib.hid hb
  rw [hb]
  clear hb hq
  go_enter Tryz.func64, Tryz.ntmps64
  go_wp2_with fail
  refine (ofR_any hq' hn).mono ?_
  rintro e w1 ⟨r1, rfl, h1, hb1⟩
  have hs1 := hb1.size
  obtain ⟨m4, fs, gs, f1, f2, j1, j2, rfl⟩ := h1.box
  clear p0 p1 p2 hW
  have Q0 := R0.later hb1
  obtain ⟨U, hU⟩ : ∃ U, w1.alloc (.cells #[.bool m4, .slice f1 fs.length j1, .slice f2 gs.length j2] 56) = U := ⟨_, rfl⟩
  have hBU : Below w1.heap.size w1 U := by rw [← hU]; exact (Below.refl _ _).alloc (Nat.le_refl _) _
  have R5 : Row U w1.heap.size 56 #[.bool m4, .slice f1 fs.length j1, .slice f2 gs.length j2] := by rw [← hU]; exact Row.new _ _ _
  have hsU : w1.heap.size + 1 ≤ U.heap.size := by rw [← hU]; simp
  have k := isR_dec (m2 := m1) (h1.later hBU) (((A.later hBW).later hb1).later hBU) (((B.later hBW).later hb1).later hBU) (by omega) (by omega) (by omega)
  rw [HB.out] at k
  obtain ⟨p0, p1, p2, _, _, _⟩ := Q0.three
  obtain ⟨q0, q1, q2, _, _, _⟩ := (Q0.later hBU).three
  obtain ⟨o0, o1, o2, _, _, _⟩ := R5.three
  have hB2 : Below w.heap.size w U := (hBW.trans (hb1.mono (by omega))).trans (hBU.mono (by omega))
  cases b with
  | true =>
    go_wp2_with fail
    (try rw [hU])
    refine k.mono ?_
    rintro e w2 ⟨rfl, hb2⟩
    clear k hU
    go_wp2_with fail
    go_ret
    exact ⟨rfl, hB2.trans (hb2.mono (by omega))⟩
  | false =>
    go_wp2_with fail
    (try rw [hU])
    refine k.mono ?_
    rintro e w2 ⟨rfl, hb2⟩
    clear k hU
    go_wp2_with fail
    go_ret
    exact ⟨rfl, hB2.trans (hb2.mono (by omega))⟩
end
section
open Go.RowKit
set_option linter.unusedVariables false
set_option linter.unusedSimpArgs false
set_option maxRecDepth 100000 in
set_option maxHeartbeats 4000000 in
theorem divQ_zero {n : Nat} {w : World} {u v : Value} {X Y : Rat} (hu : ArgQ w u X n) (hv : ArgQ w v Y n) (hY : Y = 0) (hn : n ≤ 16777000) :
    Calls Tryz.prog 55 #[u, v] w fun e w' => e = .returned (.tuple #[.agg #[.bool false, .slice none 0 0, .slice none 0 0], .int .i64 17]) ∧ Below w.heap.size w w' := by
  obtain ⟨m1, xs, ds, a1, a2, c1, c2, rfl⟩ := hu.box
  obtain ⟨m2, zs, es, a3, a4, c3, c4, rfl⟩ := hv.box
  obtain ⟨W, hW⟩ : ∃ W, (((w.alloc (.cells #[.bool m1, .slice a1 xs.length c1, .slice a2 ds.length c2] 51)).alloc (.cells #[.bool m2, .slice a3 zs.length c3, .slice a4 es.length c4] 51)).alloc (.cells #[.bool false, .slice none 0 0, .slice none 0 0] 51)) = W := ⟨_, rfl⟩
  have R0 : Row W (w.heap.size) 51 #[.bool m1, .slice a1 xs.length c1, .slice a2 ds.length c2] := by rw [← hW]; exact (((Row.new _ _ _).alloc _).alloc _)
  have R1 : Row W (w.heap.size + 1) 51 #[.bool m2, .slice a3 zs.length c3, .slice a4 es.length c4] := by rw [← hW]; have h := (Row.new (w.alloc (.cells #[.bool m1, .slice a1 xs.length c1, .slice a2 ds.length c2] 51)) 51 #[.bool m2, .slice a3 zs.length c3, .slice a4 es.length c4]); simp only [World.size_alloc] at h; exact (h.alloc _)
  have R2 : Row W (w.heap.size + 1 + 1) 51 #[.bool false, .slice none 0 0, .slice none 0 0] := by rw [← hW]; have h := (Row.new ((w.alloc (.cells #[.bool m1, .slice a1 xs.length c1, .slice a2 ds.length c2] 51)).alloc (.cells #[.bool m2, .slice a3 zs.length c3, .slice a4 es.length c4] 51)) 51 #[.bool false, .slice none 0 0, .slice none 0 0]); simp only [World.size_alloc] at h; exact h
  have hBW : Below w.heap.size w W := by rw [← hW]; exact ((((Below.refl _ _).alloc (by (try simp) <;> omega) _).alloc (by (try simp) <;> omega) _).alloc (by (try simp) <;> omega) _)
  have hsW : w.heap.size + 1 + 1 + 1 ≤ W.heap.size := by rw [← hW]; simp
  have hsg := signQ_any (hv.later hBW) hn
  rw [(sgR_zero Y).2 hY] at hsg
  clear hY
  have h00 : ((0 : Int) == 0) = true := by decide
  obtain ⟨p0, p1, p2, _, _, _⟩ := R0.three
  obtain ⟨o0, o1, o2, _, _, _⟩ := R1.three
  go_enter Tryz.func55, Tryz.ntmps55
  go_wp2_with fail
  refine hsg.mono ?_
  rintro e w1 ⟨rfl, hb1⟩
  have P1 := R2.later hb1
  clear hsg hW p0 p1 p2 o0 o1 o2
  obtain ⟨u0, u1, u2, g0, g1, g2⟩ := P1.three
  go_wp2_with fail
  refine bodyPost_ret (v := .tuple #[.agg #[.bool false, .slice none 0 0, .slice none 0 0], .int .i64 17]) (by simp [results, Tryz.results55, go_sem, u0, u1, u2]) rfl ⟨rfl, ?_⟩
  first | exact below_set3 (hBW.trans (hb1.mono (by omega))) (by omega) _ _ _ | exact (hBW.trans (hb1.mono (by omega)))
set_option maxRecDepth 100000 in
set_option maxHeartbeats 4000000 in
theorem divQ_any {n : Nat} {w : World} {u v : Value} {X Y : Rat} (hu : ArgQ w u X n) (hv : ArgQ w v Y n) (hY : Y ≠ 0) (hn : n ≤ 16777000) :
    Calls Tryz.prog 55 #[u, v] w fun e w' => ∃ r, e = .returned (.tuple #[r, .int .i64 0]) ∧ ResQ w.heap.size w' r (X / Y) (2 * n + 4) ∧ Below w.heap.size w w' := by
  obtain ⟨m1, xs, ds, a1, a2, c1, c2, rfl⟩ := hu.box
  have hv0 := hv
  obtain ⟨m2, zs, es, a3, a4, c3, c4, rfl, C, D, hYe, hz, he⟩ := hv
  have hI : ratOf m2 (val es) (val zs) = Y⁻¹ := by rw [rat_over _ _ _ (val_nonneg C.wf) (val_nonneg D.wf), hYe]
  obtain ⟨W, hW⟩ : ∃ W, (((w.alloc (.cells #[.bool m1, .slice a1 xs.length c1, .slice a2 ds.length c2] 51)).alloc (.cells #[.bool m2, .slice a3 zs.length c3, .slice a4 es.length c4] 51)).alloc (.cells #[.bool false, .slice none 0 0, .slice none 0 0] 51)) = W := ⟨_, rfl⟩
  have R0 : Row W (w.heap.size) 51 #[.bool m1, .slice a1 xs.length c1, .slice a2 ds.length c2] := by rw [← hW]; exact (((Row.new _ _ _).alloc _).alloc _)
  have R1 : Row W (w.heap.size + 1) 51 #[.bool m2, .slice a3 zs.length c3, .slice a4 es.length c4] := by rw [← hW]; have h := (Row.new (w.alloc (.cells #[.bool m1, .slice a1 xs.length c1, .slice a2 ds.length c2] 51)) 51 #[.bool m2, .slice a3 zs.length c3, .slice a4 es.length c4]); simp only [World.size_alloc] at h; exact (h.alloc _)
  have R2 : Row W (w.heap.size + 1 + 1) 51 #[.bool false, .slice none 0 0, .slice none 0 0] := by rw [← hW]; have h := (Row.new ((w.alloc (.cells #[.bool m1, .slice a1 xs.length c1, .slice a2 ds.length c2] 51)).alloc (.cells #[.bool m2, .slice a3 zs.length c3, .slice a4 es.length c4] 51)) 51 #[.bool false, .slice none 0 0, .slice none 0 0]); simp only [World.size_alloc] at h; exact h
  have hBW : Below w.heap.size w W := by rw [← hW]; exact ((((Below.refl _ _).alloc (by (try simp) <;> omega) _).alloc (by (try simp) <;> omega) _).alloc (by (try simp) <;> omega) _)
  have hsW : w.heap.size + 1 + 1 + 1 ≤ W.heap.size := by rw [← hW]; simp
  have hq : ArgQ W (.agg #[.bool m2, .slice a4 es.length c4, .slice a3 zs.length c3]) Y⁻¹ n := ⟨m2, es, zs, a4, a3, c4, c3, rfl, D.later hBW, C.later hBW, hI, he, hz⟩
  have hsg := signQ_any (hv0.later hBW) hn
  have h00 : (sgR Y == 0) = false := by simp; exact fun h => hY ((sgR_zero Y).1 h)
  obtain ⟨s, hs⟩ : ∃ s, sgR Y = s := ⟨_, rfl⟩
  rw [hs] at hsg h00
  have hu' := hu.later hBW
  clear hY hs hI hYe
  obtain ⟨p0, p1, p2, _, _, _⟩ := R0.three
  obtain ⟨o0, o1, o2, _, _, _⟩ := R1.three
  go_enter Tryz.func55, Tryz.ntmps55
  go_wp2_with fail
  refine hsg.mono ?_
  rintro e w1 ⟨rfl, hb1⟩
  have hs1 := hb1.size
  clear hsg hW p0 p1 p2 o0 o1 o2
  obtain ⟨p0, p1, p2, _, _, _⟩ := (R0.later hb1).three
  obtain ⟨o0, o1, o2, _, _, _⟩ := (R1.later hb1).three
  go_wp2_with fail
  refine (mulQ_any (hu'.later hb1) (hq.later hb1) hn).mono ?_
  rintro e w2 ⟨r2, rfl, q2, hb2⟩
  have hs2 := hb2.size
  rw [← Rat.div_def] at q2
  obtain ⟨m4, fs, gs, f1, f2, j1, j2, rfl⟩ := q2.arg.box
  have P2 := (R2.later hb1).later hb2
  clear p0 p1 p2 o0 o1 o2
  obtain ⟨u0, u1, u2, g0, g1, g2⟩ := P2.three
  go_wp2_with fail
  refine bodyPost_ret (v := .tuple #[.agg #[.bool m4, .slice f1 fs.length j1, .slice f2 gs.length j2], .int .i64 0]) (by simp [results, Tryz.results55, go_sem, u0, u1, u2]) rfl ⟨_, rfl, ?_, below_set3 ((hBW.trans (hb1.mono (by omega))).trans (hb2.mono (by omega))) (by omega) _ _ _⟩
  exact (q2.far P2 (by decide) (kept3 _ _ _)).mono (by omega)
set_option maxRecDepth 100000 in
set_option maxHeartbeats 4000000 in
theorem sameQ_any {n : Nat} {w : World} {u v : Value} {X Y : Rat} (hu : ArgQ w u X n) (hv : ArgQ w v Y n) (hn : n ≤ 16777000) :
    Calls Tryz.prog 81 #[u, v] w fun e w' => e = .returned (.bool (sgR (X - Y) == 0)) ∧ Below w.heap.size w w' := by
  obtain ⟨m1, xs, ds, a1, a2, c1, c2, rfl⟩ := hu.box
  obtain ⟨m2, zs, es, a3, a4, c3, c4, rfl⟩ := hv.box
  obtain ⟨W, hW⟩ : ∃ W, ((w.alloc (.cells #[.bool m1, .slice a1 xs.length c1, .slice a2 ds.length c2] 51)).alloc (.cells #[.bool m2, .slice a3 zs.length c3, .slice a4 es.length c4] 51)) = W := ⟨_, rfl⟩
  have R0 : Row W (w.heap.size) 51 #[.bool m1, .slice a1 xs.length c1, .slice a2 ds.length c2] := by rw [← hW]; exact ((Row.new _ _ _).alloc _)
  have R1 : Row W (w.heap.size + 1) 51 #[.bool m2, .slice a3 zs.length c3, .slice a4 es.length c4] := by rw [← hW]; have h := (Row.new (w.alloc (.cells #[.bool m1, .slice a1 xs.length c1, .slice a2 ds.length c2] 51)) 51 #[.bool m2, .slice a3 zs.length c3, .slice a4 es.length c4]); simp only [World.size_alloc] at h; exact h
  have hBW : Below w.heap.size w W := by rw [← hW]; exact (((Below.refl _ _).alloc (by (try simp) <;> omega) _).alloc (by (try simp) <;> omega) _)
  have hsW : w.heap.size + 1 + 1 ≤ W.heap.size := by rw [← hW]; simp
  have hc := cmpQ_any (hu.later hBW) (hv.later hBW) hn
  obtain ⟨s, hs⟩ : ∃ s, sgR (X - Y) = s := ⟨_, rfl⟩
  rw [hs] at hc ⊢
  clear hs
  obtain ⟨p0, p1, p2, _, _, _⟩ := R0.three
  obtain ⟨o0, o1, o2, _, _, _⟩ := R1.three
  go_enter Tryz.func81, Tryz.ntmps81
  go_wp2_with fail
  refine hc.mono ?_
  rintro e w1 ⟨rfl, hb1⟩
  clear hc hW p0 p1 p2 o0 o1 o2
  go_wp2_with fail
  go_ret
  exact ⟨rfl, hBW.trans (hb1.mono (by omega))⟩
set_option maxRecDepth 100000 in
set_option maxHeartbeats 4000000 in
theorem eqS_any {w : World} {xs ys : List Int} {a b : Option Addr} {c d : Nat} (A : Arg w (.slice a xs.length c) xs a c) (B : Arg w (.slice b ys.length d) ys b d) (hx : xs.length ≤ 70368744177664) (hy : ys.length ≤ 70368744177664) :
    Calls Tryz.prog 126 #[.slice a xs.length c, .slice b ys.length d] w fun e w' => e = .returned (.bool (decide (xs = ys))) ∧ Below w.heap.size w w' := by
  by_cases hl : xs.length = ys.length
  case neg =>
    have hne : decide (xs = ys) = false := decide_eq_false (fun h => hl (by rw [h]))
    have hn1 : ((xs.length : Int) != (ys.length : Int)) = true := by simp; omega
    rw [hne]
    clear hl hne
    go_enter Tryz.func126, Tryz.ntmps126
    go_wp2_with fail
    go_ret
    exact ⟨rfl, Below.refl _ _⟩
  obtain ⟨m, hm⟩ : ∃ m, xs.length = m := ⟨_, rfl⟩
  have hm2 : ys.length = m := by omega
  have la := A.lim
  have lb := B.lim
  have hext : (∀ j, j < m → xs.getD j 0 = ys.getD j 0) → xs = ys := by
    intro h
    apply List.ext_getElem (by omega)
    intro i h1 h2
    have := h i (by omega)
    simpa [h1, h2] using this
  have HX := Lib.hid hext
  have hmm : ((m : Int) != (m : Int)) = false := by simp
  have HL1 := Lib.hid hm
  have HL2 := Lib.hid hm2
  rw [hm] at hx ⊢
  rw [hm2]
  clear hl hm hm2 hext A B hy
  go_enter Tryz.func126, Tryz.ntmps126
  go_wp2_with fail
  go_loopw [5, 13] (fun _ i wr => ∃ k : Nat, i = .int .i64 k ∧ k ≤ m ∧ (∀ j, j < k → xs.getD j 0 = ys.getD j 0) ∧ Below w.heap.size w wr) (fun _ i _ => m - (intOf i).toNat)
  case atStart => exact ⟨0, rfl, Nat.zero_le _, fun j hj => by omega, Below.refl _ _⟩
  case round =>
    obtain ⟨k, rfl, hk, hall, hb⟩ := hrel
    have HA := Lib.hid hall
    clear hall
    by_cases hlt : k < m
    · have HK := Lib.hid hlt
      obtain ⟨p, o, rfl, c1⟩ : ∃ p o, a = some ⟨p, o, none⟩ ∧ wr.cell? ⟨p, o + k, none⟩ = some (.int .u32 (xs.getD k 0)) := by
        rcases la.later hb with e | ⟨p, o, e, hc⟩
        · rw [e] at HL1; have := HL1.out; simp at this; omega
        · exact ⟨p, o, e, hc k (by rw [HL1.out]; exact hlt)⟩
      obtain ⟨p2, o2, rfl, c2⟩ : ∃ p o, b = some ⟨p, o, none⟩ ∧ wr.cell? ⟨p, o + k, none⟩ = some (.int .u32 (ys.getD k 0)) := by
        rcases lb.later hb with e | ⟨p, o, e, hc⟩
        · rw [e] at HL2; have := HL2.out; simp at this; omega
        · exact ⟨p, o, e, hc k (by rw [HL2.out]; exact hlt)⟩
      obtain ⟨x, hxk⟩ : ∃ x, xs.getD k 0 = x := ⟨_, rfl⟩
      obtain ⟨y, hyk⟩ : ∃ y, ys.getD k 0 = y := ⟨_, rfl⟩
      rw [hxk] at c1
      rw [hyk] at c2
      have HXK := Lib.hid hxk
      have HYK := Lib.hid hyk
      have hk0 : (0 : Int) ≤ (k : Int) := Int.natCast_nonneg _
      have hk1 : (k : Int) < (m : Int) := by omega
      clear hxk hyk la lb
      by_cases e : x = y
      · have hne : (x != y) = false := by simp [e]
        have fin : ∃ j : Nat, Value.int .i64 ((k : Int) + 1) = .int .i64 j ∧ j ≤ m ∧ (∀ i, i < j → xs.getD i 0 = ys.getD i 0) :=
          ⟨k + 1, by go_num, HK.out, fun i hi => by
            by_cases h : i = k
            · subst h; rw [HXK.out, HYK.out]; exact e
            · exact HA.out i (by omega)⟩
        have FIN := Lib.hid fin
        clear fin e
        go_wp2_with fail
        go_quiet (fail)
        go_wp2_with fail
        go_roundw
        case rel =>
          obtain ⟨j, h1, h2, h3⟩ := FIN.out
          exact ⟨j, h1, h2, h3, ⟨hb.os, hb.tape, hb.output, hb.size, hb.block⟩⟩
        case measure => have := HK.out; simp [intOf]; omega
      · have hne : (x != y) = true := by simp [e]
        have hd : decide (xs = ys) = false := decide_eq_false (fun h => e (by rw [← HXK.out, ← HYK.out, h]))
        have HD := Lib.hid hd
        clear e hd
        go_wp2_with fail
        go_quiet (fail)
        go_wp2_with fail
        go_ret
        exact ⟨by rw [HD.out]; rfl, ⟨hb.os, hb.tape, hb.output, hb.size, hb.block⟩⟩
    · obtain rfl : k = m := by omega
      have hd : decide (xs = ys) = true := decide_eq_true (HX.out HA.out)
      have HD := Lib.hid hd
      clear hd
      go_wp2_with fail
      go_ret
      exact ⟨by rw [HD.out]; rfl, hb⟩
/-- May's answer: is it valid? -/
def mayCode (b : Bool) : Int := if b = true then 0 else 6
theorem eq_isB {base : Nat} {w : World} {u : Value} {xs zs : List Int} {N : Int} (hx : Wf xs) (h : Res base w u zs N) : decide (xs = zs) = isB xs N := by
  unfold isB
  by_cases e : xs = zs
  · rw [decide_eq_true e, e]
    exact (decide_eq_true ⟨h.full, h.eq⟩).symm
  · rw [decide_eq_false e]
    exact (decide_eq_false (fun k => e (canon hx h.wf k.1 h.full (k.2.trans h.eq.symm)))).symm
set_option maxRecDepth 100000 in
set_option maxHeartbeats 4000000 in
theorem mayQ_any {n : Nat} {w : World} {m1 : Bool} {xs ds : List Int} {a1 a2 : Option Addr} {c1 c2 : Nat} (A : Arg w (.slice a1 xs.length c1) xs a1 c1) (B : Arg w (.slice a2 ds.length c2) ds a2 c2)
    (hx : xs.length ≤ n) (hd : ds.length ≤ n) (hn : n ≤ 16777000) :
    Calls Tryz.prog 85 #[.agg #[.bool m1, .slice a1 xs.length c1, .slice a2 ds.length c2]] w fun e w' => e = .returned (.int .i64 (mayCode (validB m1 xs ds (ratOf m1 (val xs) (val ds))))) ∧ Below w.heap.size w w' := by
  obtain ⟨X, hX⟩ : ∃ X, ratOf m1 (val xs) (val ds) = X := ⟨_, rfl⟩
  have hq : ArgQ w (.agg #[.bool m1, .slice a1 xs.length c1, .slice a2 ds.length c2]) X n := ⟨m1, xs, ds, a1, a2, c1, c2, rfl, A, B, hX, hx, hd⟩
  rw [hX]
  clear hX
  obtain ⟨vb, hvb⟩ : ∃ b, validB m1 xs ds X = b := ⟨_, rfl⟩
  rw [hvb]
  have HVB := Lib.hid hvb
  clear hvb
  obtain ⟨W, hW⟩ : ∃ W, (w.alloc (.cells #[.bool m1, .slice a1 xs.length c1, .slice a2 ds.length c2] 51)) = W := ⟨_, rfl⟩
  have R0 : Row W (w.heap.size) 51 #[.bool m1, .slice a1 xs.length c1, .slice a2 ds.length c2] := by rw [← hW]; exact (Row.new _ _ _)
  have hBW : Below w.heap.size w W := by rw [← hW]; exact ((Below.refl _ _).alloc (by (try simp) <;> omega) _)
  have hsW : w.heap.size + 1 ≤ W.heap.size := by rw [← hW]; simp
  obtain ⟨p0, p1, p2, _, _, _⟩ := R0.three
  have hq' := hq.later hBW
  have AW := A.later hBW
  have BW := B.later hBW
  go_enter Tryz.func85, Tryz.ntmps85
  go_wp2_with fail
  refine (norm_any hq' (by omega)).mono ?_
  rintro e w1 ⟨r1, rfl, h1, hb1⟩
  have hs1 := hb1.size
  obtain ⟨fs, gs, f1, f2, j1, j2, rfl, Rf, Rg, lf, lg⟩ := h1
  obtain ⟨m4, hm4⟩ : ∃ m, decide (X.num < 0) = m := ⟨_, rfl⟩
  have hv : vb = ((m1 == m4) && (decide (xs = fs) && decide (ds = gs))) := by rw [← HVB.out, eq_isB A.wf Rf, eq_isB B.wf Rg]; unfold validB; rw [hm4]
  rw [hm4]
  have HV0 := Lib.hid hv
  have Cf := Rf.at_.2
  have Cg := Rg.at_.2
  clear p0 p1 p2 hW hq hq' hv hm4 Rf Rg A B
  have Q0 := R0.later hb1
  obtain ⟨U, hU⟩ : ∃ U, w1.alloc (.cells #[.bool m4, .slice f1 fs.length j1, .slice f2 gs.length j2] 51) = U := ⟨_, rfl⟩
  have hBU : Below w1.heap.size w1 U := by rw [← hU]; exact (Below.refl _ _).alloc (Nat.le_refl _) _
  have R5 : Row U w1.heap.size 51 #[.bool m4, .slice f1 fs.length j1, .slice f2 gs.length j2] := by rw [← hU]; exact Row.new _ _ _
  have hsU : w1.heap.size + 1 ≤ U.heap.size := by rw [← hU]; simp
  have AU := (AW.later hb1).later hBU
  have BU := (BW.later hb1).later hBU
  have CfU := Cf.later hBU
  have CgU := Cg.later hBU
  have k1 := eqS_any AU CfU (by omega) (by omega)
  obtain ⟨b1, hb1'⟩ : ∃ b, decide (xs = fs) = b := ⟨_, rfl⟩
  obtain ⟨b2, hb2'⟩ : ∃ b, decide (ds = gs) = b := ⟨_, rfl⟩
  rw [hb1'] at k1
  have hv1 := HV0.out
  rw [hb1', hb2'] at hv1
  have HB2 := Lib.hid hb2'
  clear hb1' hb2' HV0
  obtain ⟨p0, p1, p2, _, _, _⟩ := Q0.three
  obtain ⟨q0, q1, q2, _, _, _⟩ := (Q0.later hBU).three
  obtain ⟨o0, o1, o2, _, _, _⟩ := R5.three
  have hB2 : Below w.heap.size w U := (hBW.trans (hb1.mono (by omega))).trans (hBU.mono (by omega))
  obtain ⟨b0, hb0⟩ : ∃ b, (m1 == m4) = b := ⟨_, rfl⟩
  rw [hb0] at hv1
  have hb1' : (m1 != m4) = !b0 := by rw [← hb0]; cases m1 <;> cases m4 <;> rfl
  have HV := Lib.hid hv1
  clear hv1
  cases b0 with
  | false =>
    have e0 : (m1 != m4) = true := hb1'
    clear hb1'
    go_wp2_with fail
    go_ret
    exact ⟨by rw [HV.out]; rfl, by first | exact hB2 | (rw [hU]; exact hB2)⟩
  | true =>
    have e0 : (m1 != m4) = false := hb1'
    clear hb1'
    cases b1 with
    | false =>
      go_wp2_with fail
      (try rw [hU])
      refine k1.mono ?_
      rintro e w2 ⟨rfl, hb2⟩
      clear k1
      go_wp2_with fail
      go_ret
      exact ⟨by rw [HV.out]; rfl, hB2.trans (hb2.mono (by omega))⟩
    | true =>
      go_wp2_with fail
      (try rw [hU])
      refine k1.mono ?_
      rintro e w2 ⟨rfl, hb2⟩
      have hs2 := hb2.size
      have k2 := eqS_any (BU.later hb2) (CgU.later hb2) (by omega) (by omega)
      rw [HB2.out] at k2
      clear k1 p0 p1 p2 q0 q1 q2 o0 o1 o2 hU
      obtain ⟨q0, q1, q2, _, _, _⟩ := ((Q0.later hBU).later hb2).three
      obtain ⟨o0, o1, o2, _, _, _⟩ := (R5.later hb2).three
      go_wp2_with fail
      refine k2.mono ?_
      rintro e w3 ⟨rfl, hb3⟩
      clear k2
      cases b2 with
      | true =>
        go_wp2_with fail
        go_ret
        exact ⟨by rw [HV.out]; rfl, (hB2.trans (hb2.mono (by omega))).trans (hb3.mono (by omega))⟩
      | false =>
        go_wp2_with fail
        go_ret
        exact ⟨by rw [HV.out]; rfl, (hB2.trans (hb2.mono (by omega))).trans (hb3.mono (by omega))⟩
end
section
open Go.RowKit Go.ChangeShapes Go.WideShapes Go.ChangeAt Go.Joins
set_option linter.unusedVariables false
set_option linter.unusedSimpArgs false
set_option maxRecDepth 100000
theorem cellsRat : Tryz.prog.cellsOf 51 = 3 := by kernel_rfl
end
section
open Go.RowKit Go.ChangeShapes Go.WideShapes Go.ChangeAt
set_option linter.unusedVariables false
set_option linter.unusedSimpArgs false
theorem afterAlloc {K : World → Prop} {V : World} {t : TypeId} {cs : Array Value} (h : ∀ X, Below V.heap.size V X → V.heap.size < X.heap.size → Row X V.heap.size t cs → K X) : K (V.alloc (.cells cs t)) :=
  h _ ((Below.refl _ _).alloc (Nat.le_refl _) _) (by simp) (Row.new _ _ _)
theorem afterSet3 {K : World → Prop} {V : World} {g : Nat} {t : TypeId} {a b c x y z : Value} (R : Row V g t #[a, b, c]) (h : ∀ X, Only g V X → Row X g t #[x, y, z] → K X) :
    K (((V.setCell ⟨g, 0, none⟩ x).setCell ⟨g, 1, none⟩ y).setCell ⟨g, 2, none⟩ z) :=
  h _ (((Only.set V g 0 x).trans (Only.set _ g 1 y)).trans (Only.set _ g 2 z)) (R.set3 x y z)
theorem Row.only {w w' : World} {g b : Nat} {t : TypeId} {cs : Array Value} (R : Row w g t cs) (h : Only b w w') (hb : g ≠ b) : Row w' g t cs := (h.block g hb).trans R
theorem ArgR.only {w w' : World} {v : Value} {x : Rat} {n g : Nat} {t : TypeId} {p : Bool} {ad bd : Option Addr} {l cap m cbp : Nat} (h : ArgR w v x n) (R : Row w g t #[.bool p, .slice ad l cap, .slice bd m cbp]) (k : Only g w w') : ArgR w' v x n :=
  h.far R (noInts3 _ _ _ _ _ _ _) k.block
theorem ArgQ.only {w w' : World} {v : Value} {x : Rat} {n g : Nat} {t : TypeId} {p : Bool} {ad bd : Option Addr} {l cap m cbp : Nat} (h : ArgQ w v x n) (R : Row w g t #[.bool p, .slice ad l cap, .slice bd m cbp]) (k : Only g w w') : ArgQ w' v x n :=
  h.far R (noInts3 _ _ _ _ _ _ _) k.block
theorem ResQ.only {base : Nat} {w w' : World} {v : Value} {x : Rat} {n g : Nat} {cs : Array Value} (h : ResQ base w v x n) (R : Row w g 51 cs) (k : Only g w w') : ResQ base w' v x n :=
  h.far R (by decide) k.block
end
section
open Go.RowKit
set_option linter.unusedVariables false
set_option linter.unusedSimpArgs false
/-- not too long: few limbs, a small exponent -/
theorem notLongL_any {u : Value} {xs : List Int} {a : Option Addr} {capa : Nat} {w : World} (N : Nat) (h1 : Arg w u xs a capa) (hx : xs.length ≤ 134217728) (hL : xs.length * N ≤ 134217728) (hN : N ≤ 1000) :
    Calls Tryz.prog 141 #[u, .int .i64 (N : Int)] w fun e w' => e = .returned (.bool false) ∧ w = w' := by
  have hbits := bits_res h1 (by omega) (bitsN_is h1.wf)
  have hc := (bitsN_count h1.wf).2.2
  have ht := trim_le xs
  obtain ⟨nb, hnb⟩ : ∃ nb, bitsN xs = nb := ⟨_, rfl⟩
  rw [hnb] at hbits hc
  have hb : nb ≤ 32 * xs.length := by omega
  have hp : ((nb : Int) - 1) * (N : Int) ≤ 4294967296 := by
    have h1 : nb * N ≤ 32 * xs.length * N := Nat.mul_le_mul_right _ hb
    have h2 : 32 * xs.length * N ≤ 4294967296 := by rw [Nat.mul_assoc]; omega
    have h3 : ((nb * N : Nat) : Int) ≤ 4294967296 := by omega
    rw [Int.sub_mul]
    rw [Int.natCast_mul] at h3
    omega
  clear hc ht hnb
  go_enter Tryz.func141, Tryz.ntmps141
  go_wp2_with fail
  refine hbits.mono ?_
  rintro e w' ⟨rfl, rfl⟩
  clear hbits
  by_cases hg : 0 < (nb : Int) - 1
  · have hq : Int.tdiv 17179869176 ((nb : Int) - 1) = 17179869176 / ((nb : Int) - 1) := Int.tdiv_eq_ediv_of_nonneg (by omega)
    have hq2 : (N : Int) ≤ 17179869176 / ((nb : Int) - 1) := by
      rw [Int.le_ediv_iff_mul_le hg, Int.mul_comm]
      omega
    have hq3 : 17179869176 / ((nb : Int) - 1) ≤ 17179869176 := Int.ediv_le_self _ (by omega)
    generalize 17179869176 / ((nb : Int) - 1) = q at *
    have hd : decide (q < (N : Int)) = false := decide_eq_false (by omega)
    have hne : (nb : Int) - 1 ≠ 0 := by omega
    go_wp2
    go_ret
    exact ⟨rfl, rfl⟩
  · have hd : decide (0 < (nb : Int) - 1) = false := decide_eq_false hg
    go_wp2
    go_ret
    exact ⟨rfl, rfl⟩
set_option maxRecDepth 100000 in
set_option maxHeartbeats 2000000 in
theorem powL_any {u : Value} {xs : List Int} {a : Option Addr} {capa : Nat} {w : World} (n : Int) (h1 : Arg w u xs a capa) (hx : xs.length ≤ 134217728) (hL : xs.length * n.toNat ≤ 134217728) (hn : -9223372036854775808 ≤ n ∧ n ≤ 1000) :
    Calls Tryz.prog 111 #[u, .int .i64 n] w fun e w' => ∃ r zs, e = .returned r ∧ Res w.heap.size w' r zs (val xs ^ n.toNat) ∧ zs.length ≤ xs.length * n.toNat + 1 ∧ Below w.heap.size w w' := by
  obtain ⟨hn0, hn1⟩ := hn
  obtain ⟨N, hN⟩ : ∃ N, n.toNat = N := ⟨_, rfl⟩
  have hmax : max n 0 = (N : Int) := by omega
  have hN2 : N ≤ 1000 := by omega
  rw [hN]
  rw [hN] at hL
  clear hN
  have hlong := notLongL_any (w := w) N h1 hx hL hN2
  have hlen := lenU_any (N : Int) 
  obtain ⟨B, hB⟩ : ∃ B, Lib.bitLen N = B := ⟨_, rfl⟩
  have hB2 : N < 2 ^ B ∧ B ≤ 10 := by
    rw [← hB]
    rcases Nat.eq_zero_or_pos N with h | h
    · subst h; decide
    · obtain ⟨_, _, c⟩ := Lib.bitLenAux_bounds 64 N (by omega) (by omega)
      exact ⟨c, Lib.bitLen_le N 10 (by omega) (by omega)⟩
  rw [Int.toNat_natCast, hB] at hlen
  obtain ⟨hB3, hB4⟩ := hB2
  have hN0 : N / 2 ^ B = 0 := Nat.div_eq_of_lt hB3
  have HN0 := Lib.hid hN0
  have HN3 := Lib.hid hB3
  clear hN0 hB hB3
  go_enter Tryz.func111, Tryz.ntmps111
  go_wp2_with fail
  refine hlong.mono ?_
  rintro e w' ⟨rfl, rfl⟩
  clear hlong
  go_wp2_with fail
  refine (ofN_any 1 _ (by omega) (by omega)).mono ?_
  rintro e w1 ⟨r1, z1, rfl, q1, n1, hb1⟩
  have A1 := h1.later hb1
  have hlen1 := hlen w1 (by omega)
  go_wp2_with fail
  refine hlen1.mono ?_
  rintro e w' ⟨rfl, rfl⟩
  clear hlen hlen1
  go_wp2
  go_loopw [5, 6] (fun s i wr => ∃ (k : Nat) (q : Value) (ds : List Int), k ≤ B ∧ q = s ∧ i = .int .i64 ((k : Int) - 1) ∧ Res w.heap.size wr q ds (val xs ^ (N / 2 ^ k)) ∧ Below w.heap.size w wr) (fun _ i _ => (intOf i + 1).toNat)
  case atStart => exact ⟨B, _, z1, Nat.le_refl _, rfl, rfl, by rw [HN0.out]; simpa using q1, hb1⟩
  case round =>
    obtain ⟨k, q, ds, hk, rfl, rfl, hres, hb⟩ := hrel
    have hsz := hb.size
    have hpl := pow_len h1.wf hres.wf hres.full hres.eq
    clear q1 n1 hb1 A1
    by_cases hgo : 0 < k
    · obtain ⟨j, rfl⟩ : ∃ j, k = j + 1 := ⟨k - 1, by omega⟩
      have hji : (((j + 1 : Nat) : Int) - 1) = (j : Int) := by omega
      rw [hji]
      have hmul : xs.length * (N / 2 ^ (j + 1)) ≤ 134217728 := Nat.le_trans (Nat.mul_le_mul_left _ (Nat.div_le_self _ _)) hL
      obtain ⟨ad, cap, A⟩ := hres.arg
      have hge : (0 : Int) ≤ (j : Int) := by omega
      go_wp2_with fail
      refine (mul_res A A (by omega) (by omega)).mono ?_
      rintro e w2 ⟨r2, z2, rfl, q2, n2, hb2⟩
      have A2 := (h1.later hb).later hb2
      obtain ⟨ad2, cap2, A3⟩ := q2.arg
      have hB2 := hb.trans (hb2.mono hsz)
      have hv2 : val z2 = val xs ^ (N / 2 ^ (j + 1) + N / 2 ^ (j + 1)) := by rw [q2.eq, hres.eq, ← Int.pow_add]
      have hml : z2.length ≤ xs.length * (N / 2 ^ (j + 1) + N / 2 ^ (j + 1)) + 1 := pow_len h1.wf q2.wf q2.full hv2
      have hmul2 : xs.length * (N / 2 ^ (j + 1) + N / 2 ^ (j + 1)) ≤ 268435456 := by rw [Nat.mul_add]; omega
      rcases half_step N j with ⟨hb, he⟩ | ⟨hb, he⟩
      · have hand := and_shift N j 1 (by omega) hb
        have h11 : (((1 : Nat) : Int) == 1) = true := by decide
        have HE := Lib.hid he
        clear he hb
        go_wp2_with fail
        refine (mul_res A3 A2 (by omega) (by omega)).mono ?_
        rintro e w3 ⟨r3, z3, rfl, q3, n3, hb3⟩
        have hB3 := hB2.trans (hb3.mono (by have := hb2.size; omega))
        have hv3 : val z3 = val xs ^ (N / 2 ^ j) := by rw [q3.eq, hv2, HE.out, Int.pow_succ]
        have HV := Lib.hid hv3
        have hs2 := hb2.size
        clear hv3 hand
        go_wp2
        go_roundw
        case rel => exact ⟨j, r3, z3, by omega, rfl, rfl, ⟨q3.num.mono (by omega), q3.wf, q3.full, HV.out⟩, hB3⟩
        case measure => simp [intOf]
      · have hand := and_shift N j 0 (by omega) hb
        have h11 : (((0 : Nat) : Int) == 1) = false := by decide
        have hv3 : val z2 = val xs ^ (N / 2 ^ j) := by rw [hv2, he]
        have HV := Lib.hid hv3
        clear hv3 he hb
        go_wp2
        go_roundw
        case rel => exact ⟨j, r2, z2, by omega, rfl, rfl, ⟨q2.num.mono (by omega), q2.wf, q2.full, HV.out⟩, hB2⟩
        case measure => simp [intOf]
    · obtain rfl : k = 0 := by omega
      have hji : (((0 : Nat) : Int) - 1) = -1 := by omega
      rw [hji]
      have e : N / 2 ^ 0 = N := by simp
      rw [e] at hres hpl
      go_wp2
      go_ret
      exact ⟨_, ds, rfl, hres, hpl, hb⟩
set_option maxRecDepth 100000 in
set_option maxHeartbeats 1000000 in
theorem powSide_any {w : World} {g N : Nat} {xs : List Int} {a1 : Option Addr} {c1 : Nat} (G : w.cell? ⟨g, 0, none⟩ = some (.int .i64 (N : Int)))
    (A : Arg w (.slice a1 xs.length c1) xs a1 c1) (hx : xs.length ≤ 134217728) (hL : xs.length * N ≤ 134217728) (hN : N ≤ 1000) :
    Calls Tryz.prog 110 #[.slice a1 xs.length c1, .pointer (some ⟨g, 0, none⟩)] w fun e w' => ∃ r zs, e = .returned r ∧ Res w.heap.size w' r zs (val xs ^ N) ∧ zs.length ≤ xs.length * N + 1 ∧ Below w.heap.size w w' := by
  have hp := powL_any (w := w) (N : Int) A hx (by simpa using hL) (by omega)
  rw [Int.toNat_natCast] at hp
  go_enter Tryz.func110, Tryz.ntmps110
  go_wp2_with fail
  refine hp.mono ?_
  rintro e w2 ⟨r2, z2, rfl, q2, l2, hb2⟩
  clear G hp
  go_wp2_with fail
  go_ret
  exact ⟨r2, z2, rfl, q2, l2, hb2⟩
set_option maxRecDepth 100000 in
set_option maxHeartbeats 4000000 in
theorem bothPow_any {w : World} {g N : Nat} {neg : Bool} {xs ys : List Int} {a1 a2 : Option Addr} {c1 c2 : Nat} (G : w.cell? ⟨g, 0, none⟩ = some (.int .i64 (N : Int))) (hN : N ≤ 1000) (Lx : xs.length * N ≤ 134217728) (Ly : ys.length * N ≤ 134217728)
    (A : Arg w (.slice a1 xs.length c1) xs a1 c1) (B : Arg w (.slice a2 ys.length c2) ys a2 c2) (hx : xs.length ≤ 134217728) (hy : ys.length ≤ 134217728) :
    Calls Tryz.prog 109 #[.agg #[.bool neg, .slice a1 xs.length c1, .slice a2 ys.length c2], .func (.func 110) #[] #[.pointer (some ⟨g, 0, none⟩)]] w fun e w' => ∃ r, e = .returned r ∧ ∃ (us vs : List Int) (b1 b2 : Option Addr) (k1 k2 : Nat), r = .agg #[.bool neg, .slice b1 us.length k1, .slice b2 vs.length k2] ∧
      Res w.heap.size w' (.slice b1 us.length k1) us (val xs ^ N) ∧ Res w.heap.size w' (.slice b2 vs.length k2) vs (val ys ^ N) ∧ us.length ≤ xs.length * N + 1 ∧ vs.length ≤ ys.length * N + 1 ∧ Below w.heap.size w w' := by
  have hgl := World.block_lt_of_cell? w _ G
  obtain ⟨W, hW⟩ : ∃ W, ((w.alloc (.cells #[.bool neg, .slice a1 xs.length c1, .slice a2 ys.length c2] 51)).alloc (.cells #[.bool false, .slice none 0 0, .slice none 0 0] 51)) = W := ⟨_, rfl⟩
  have R0 : Row W (w.heap.size) 51 #[.bool neg, .slice a1 xs.length c1, .slice a2 ys.length c2] := by rw [← hW]; exact ((Row.new _ _ _).alloc _)
  have R1 : Row W (w.heap.size + 1) 51 #[.bool false, .slice none 0 0, .slice none 0 0] := by rw [← hW]; have h := (Row.new (w.alloc (.cells #[.bool neg, .slice a1 xs.length c1, .slice a2 ys.length c2] 51)) 51 #[.bool false, .slice none 0 0, .slice none 0 0]); simp only [World.size_alloc] at h; exact h
  have hBW : Below w.heap.size w W := by rw [← hW]; exact (((Below.refl _ _).alloc (by (try simp) <;> omega) _).alloc (by (try simp) <;> omega) _)
  have hsW : w.heap.size + 1 + 1 ≤ W.heap.size := by rw [← hW]; simp
  have mkS : ∀ X, Below (w.heap.size + 1) W X → X.cell? ⟨w.heap.size, 0, none⟩ = some (.bool neg) ∧ X.cell? ⟨w.heap.size, 1, none⟩ = some (.slice a1 xs.length c1) ∧ X.cell? ⟨w.heap.size, 2, none⟩ = some (.slice a2 ys.length c2) ∧ Below w.heap.size w X ∧ Below (w.heap.size + 1) W X := fun X h => ⟨(R0.below h (by omega)).cell 0, (R0.below h (by omega)).cell 1, (R0.below h (by omega)).cell 2, hBW.trans (h.mono (by omega)), h⟩
  go_enter Tryz.func109, Tryz.ntmps109
  go_wp2_with fail
  clear hW
  go_region_held3 (fun X => X.cell? ⟨w.heap.size, 0, none⟩ = some (.bool neg) ∧ X.cell? ⟨w.heap.size, 1, none⟩ = some (.slice a1 xs.length c1) ∧ X.cell? ⟨w.heap.size, 2, none⟩ = some (.slice a2 ys.length c2) ∧ Below w.heap.size w X ∧ Below (w.heap.size + 1) W X)
    (((refine mkS _ ?_; (repeat' (first | exact Below.refl _ _ | refine Below.drew ?_ | refine Below.alloc ?_ (by (try simp) <;> omega) _ | refine below_set3 ?_ (by (try simp) <;> omega) _ _ _ | refine below_set2 ?_ (by (try simp) <;> omega) _ _ | refine Below.setCell ?_ (by (try simp) <;> omega) _ | refine Below.trans ?_ (Below.mono (by assumption) (by (try simp) <;> omega)))))))
    ((first
      | (have HB : Below w.heap.size w _ := (‹_ ∧ _ ∧ _ ∧ Below w.heap.size w _ ∧ _›).2.2.2.1; go_at_call 110; first
        | ((with_reducible refine (powSide_any (((HB).cell (p := ⟨g, 0, none⟩) hgl).trans G) (A.later HB) hx Lx hN).mono ?_); rintro e w2 ⟨r2, z2, rfl, q2, l2, hb2⟩; have hs2 := hb2.size; (try simp at hs2); obtain ⟨ad2, cp2, rfl, q2, A2⟩ := q2.slice; clear HB)
        | ((with_reducible refine (powSide_any (((HB).cell (p := ⟨g, 0, none⟩) hgl).trans G) (B.later HB) hy Ly hN).mono ?_); rintro e w3 ⟨r3, z3, rfl, q3, l3, hb3⟩; clear HB; have hs3 := hb3.size; (try simp at hs3); obtain ⟨ad3, cp3, rfl, q3, A3⟩ := q3.slice; replace q2 := q2.later hb3; have R1' := R1.later (show Below W.heap.size W w3 by (repeat' (first | exact Below.refl _ _ | refine Below.drew ?_ | refine Below.alloc ?_ (by (try simp) <;> omega) _ | refine below_set3 ?_ (by (try simp) <;> omega) _ _ _ | refine below_set2 ?_ (by (try simp) <;> omega) _ _ | refine Below.setCell ?_ (by (try simp) <;> omega) _ | refine Below.trans ?_ (Below.mono (by assumption) (by (try simp) <;> omega))))); obtain ⟨u0, u1, u2, g0, g1, g2⟩ := R1'.three))))
  go_wp2_with fail
  refine bodyPost_ret (v := .agg #[.bool neg, .slice ad2 z2.length cp2, .slice ad3 z3.length cp3]) (by simp [results, Tryz.results109, go_sem, u0, u1, u2]) rfl ⟨_, rfl, z2, z3, ad2, ad3, cp2, cp3, rfl, ?_, ?_, l2, l3, ?_⟩
  · exact (q2.far R1' (by decide) (kept3 _ _ _)).mono (by (try simp) <;> omega)
  · exact (q3.far R1' (by decide) (kept3 _ _ _)).mono (by (try simp) <;> omega)
  · (repeat' (first | exact Below.refl _ _ | exact hBW | refine Below.drew ?_ | refine Below.alloc ?_ (by (try simp) <;> omega) _ | refine below_set3 ?_ (by (try simp) <;> omega) _ _ _ | refine below_set2 ?_ (by (try simp) <;> omega) _ _ | refine Below.setCell ?_ (by (try simp) <;> omega) _ | refine Below.trans ?_ (Below.mono (by assumption) (by (try simp) <;> omega))))
set_option maxRecDepth 100000 in
set_option maxHeartbeats 2000000 in
theorem plainR_any {base n : Nat} {w : World} {v : Value} {X : Rat} (h : ResQ base w v X n) (hb : base ≤ w.heap.size) (hn : n ≤ 2147483648) :
    Calls Tryz.prog 94 #[v] w fun e w' => ∃ r, e = .returned r ∧ ResQ base w' r X (n + 2) ∧ Below w.heap.size w w' := by
  have h' := h
  obtain ⟨xs, ys, a1, a2, c1, c2, rfl, A, B, hx, hy⟩ := h
  obtain ⟨neg, hneg⟩ : ∃ neg, decide (X.num < 0) = neg := ⟨_, rfl⟩
  rw [hneg]
  rw [hneg] at h'
  obtain ⟨W, hW⟩ : ∃ W, ((w.alloc (.cells #[.bool neg, .slice a1 xs.length c1, .slice a2 ys.length c2] 51)).alloc (.cells #[.bool false, .slice none 0 0, .slice none 0 0] 51)) = W := ⟨_, rfl⟩
  have R0 : Row W (w.heap.size) 51 #[.bool neg, .slice a1 xs.length c1, .slice a2 ys.length c2] := by rw [← hW]; exact ((Row.new _ _ _).alloc _)
  have R1 : Row W (w.heap.size + 1) 51 #[.bool false, .slice none 0 0, .slice none 0 0] := by rw [← hW]; have h := (Row.new (w.alloc (.cells #[.bool neg, .slice a1 xs.length c1, .slice a2 ys.length c2] 51)) 51 #[.bool false, .slice none 0 0, .slice none 0 0]); simp only [World.size_alloc] at h; exact h
  have hBW : Below w.heap.size w W := by rw [← hW]; exact (((Below.refl _ _).alloc (by (try simp) <;> omega) _).alloc (by (try simp) <;> omega) _)
  have hsW : w.heap.size + 1 + 1 ≤ W.heap.size := by rw [← hW]; simp
  have A0 := A.at_.2
  have B0 := B.at_.2
  have A' := A0.later hBW
  have B' := B0.later hBW
  have q1 := h'.later hBW
  have hnum := A.eq
  have hden := B.eq
  have hd0 := X.den_pos
  obtain ⟨e0, e1, e2, _, _, _⟩ := R0.three
  have hb1 := bits_res A' (by omega) (bitsN_is A0.wf)
  have hp1 := bits_pos A0.wf
  have hb2 := bits_res B' (by omega) (bitsN_is B0.wf)
  have hp2 := bits_pos B0.wf
  have h01 := val_nonneg A0.wf
  have h02 := val_nonneg B0.wf
  obtain ⟨m1, hm1⟩ : ∃ m, bitsN xs = m := ⟨_, rfl⟩
  obtain ⟨m2, hm2⟩ : ∃ m, bitsN ys = m := ⟨_, rfl⟩
  rw [hm1] at hb1 hp1
  rw [hm2] at hb2 hp2
  clear hm1 hm2
  by_cases z1 : val xs = 0
  · have hX0 : X = 0 := by rw [hnum] at z1; exact Rat.num_eq_zero.1 (by omega)
    have HX := Lib.hid hX0
    have d1 : ((m1 : Int) == 0) = true := by obtain rfl : m1 = 0 := by omega
                                             rfl
    clear hX0 z1 hp1 hp2 h01 h02
    go_enter Tryz.func94, Tryz.ntmps94
    go_wp2_with fail
    refine hb1.mono ?_
    rintro e w' ⟨rfl, rfl⟩
    clear hb1 hb2
    go_wp2_with fail
    refine (int_any 0 _ (by omega) (by omega)).mono ?_
    rintro e w2 ⟨r2, rfl, q2, hb2⟩
    obtain ⟨neg', us, vs, b1, b2, k1, k2, rfl⟩ := q2.arg.box
    have R1' := R1.later hb2
    clear e0 e1 e2 hW
    obtain ⟨u0, u1, u2, g0, g1, g2⟩ := R1'.three
    go_wp2_with fail
    refine bodyPost_ret (v := .agg #[.bool neg', .slice b1 us.length k1, .slice b2 vs.length k2]) (by simp [results, Tryz.results94, go_sem, u0, u1, u2]) rfl ⟨_, rfl, ?_, below_set3 (hBW.trans (hb2.mono (by omega))) (by omega) _ _ _⟩
    rw [HX.out]
    rw [intQ_zero] at q2
    exact ((q2.far R1' (by decide) (kept3 _ _ _)).more (by omega)).mono (by omega)
  · have d1 : ((m1 : Int) == 0) = false := by simp; omega
    have d2 : ((m2 : Int) == 0) = false := by simp; omega
    clear z1 hp1 hp2 h01 h02
    obtain ⟨u0, u1, u2, g0, g1, g2⟩ := R1.three
    go_enter Tryz.func94, Tryz.ntmps94
    go_wp2_with fail
    refine hb1.mono ?_
    rintro e w' ⟨rfl, rfl⟩
    clear hb1
    go_wp2_with fail
    refine hb2.mono ?_
    rintro e w' ⟨rfl, rfl⟩
    clear hb2 hW
    go_wp2_with fail
    refine bodyPost_ret (v := .agg #[.bool neg, .slice a1 xs.length c1, .slice a2 ys.length c2]) (by simp [results, Tryz.results94, go_sem, u0, u1, u2]) rfl ⟨_, rfl, ?_, below_set3 hBW (by omega) _ _ _⟩
    exact (q1.far R1 (by decide) (kept3 _ _ _)).more (by omega)
/-- rat.Pow -/
theorem neg_pow_num (x : Int) (h : x < 0) (N : Nat) : (N % 2 = 1 → x ^ N < 0) ∧ (N % 2 = 0 → 0 < x ^ N) := by
  induction N with
  | zero => simp
  | succ k ih =>
    rw [Int.pow_succ]
    refine ⟨fun hk => ?_, fun hk => ?_⟩
    · exact Int.mul_neg_of_pos_of_neg (ih.2 (by omega)) h
    · exact Int.mul_pos_of_neg_of_neg (ih.1 (by omega)) h
theorem pos_pow_num (x : Int) (h : ¬ x < 0) (N : Nat) : ¬ x ^ N < 0 := by
  have := Int.pow_nonneg (n := x) (m := N) (by omega)
  omega
set_option maxRecDepth 100000 in
set_option maxHeartbeats 4000000 in
theorem powQ_any {n N : Nat} {w : World} {v : Value} {X : Rat} (h : ArgQ w v X n) (hn : n ≤ 67108864) (hN : N ≤ 1000) (hL : (n + 2) * N ≤ 134217728) :
    Calls Tryz.prog 72 #[v, .int .i64 (N : Int)] w fun e w' => ∃ r, e = .returned r ∧ ResQ w.heap.size w' r (X ^ N) ((n + 2) * N + 1 + 2) ∧ Below w.heap.size w w' := by
  obtain ⟨neg0, xs0, ys0, e1, e2, k1, k2, rfl⟩ := h.box
  obtain ⟨W, hW⟩ : ∃ W, (((w.alloc (.cells #[.bool neg0, .slice e1 xs0.length k1, .slice e2 ys0.length k2] 51)).alloc (.cells #[.int .i64 (N : Int)] 3)).alloc (.cells #[.bool false, .slice none 0 0, .slice none 0 0] 51)) = W := ⟨_, rfl⟩
  have R0 : Row W (w.heap.size) 51 #[.bool neg0, .slice e1 xs0.length k1, .slice e2 ys0.length k2] := by rw [← hW]; exact (((Row.new _ _ _).alloc _).alloc _)
  have R1 : Row W (w.heap.size + 1) 3 #[.int .i64 (N : Int)] := by rw [← hW]; have h := (Row.new (w.alloc (.cells #[.bool neg0, .slice e1 xs0.length k1, .slice e2 ys0.length k2] 51)) 3 #[.int .i64 (N : Int)]); simp only [World.size_alloc] at h; exact (h.alloc _)
  have R2 : Row W (w.heap.size + 1 + 1) 51 #[.bool false, .slice none 0 0, .slice none 0 0] := by rw [← hW]; have h := (Row.new ((w.alloc (.cells #[.bool neg0, .slice e1 xs0.length k1, .slice e2 ys0.length k2] 51)).alloc (.cells #[.int .i64 (N : Int)] 3)) 51 #[.bool false, .slice none 0 0, .slice none 0 0]); simp only [World.size_alloc] at h; exact h
  have hBW : Below w.heap.size w W := by rw [← hW]; exact ((((Below.refl _ _).alloc (by (try simp) <;> omega) _).alloc (by (try simp) <;> omega) _).alloc (by (try simp) <;> omega) _)
  have hsW : w.heap.size + 1 + 1 + 1 ≤ W.heap.size := by rw [← hW]; simp
  have hmax : max (N : Int) 0 = (N : Int) := by omega
  have hmf : ∀ (fn : Fn) (first cap : Array Value) (w : World), (Instr.makeFunc fn first cap).run Tryz.prog w = .ok (.func fn first cap) w := fun _ _ _ _ => rfl
  have y0 := R1.cell 0
  have y1 := R1.free 0
  simp only [List.getElem?_toArray, List.getElem?_cons_zero] at y0
  obtain ⟨V, hV⟩ : ∃ V, W.setCell ⟨w.heap.size + 1, 0, none⟩ (.int .i64 (N : Int)) = V := ⟨_, rfl⟩
  have hoV : Only (w.heap.size + 1) W V := by rw [← hV]; exact Only.set _ _ _ _
  have Q0 := R0.only hoV (by omega)
  have Q1 : Row V (w.heap.size + 1) 3 #[.int .i64 (N : Int)] := by rw [← hV]; exact R1.set 0 _
  have Q2 := R2.only hoV (by omega)
  have hBV : Below w.heap.size w V := hBW.trans (hoV.below (by omega))
  have hsV : w.heap.size + 1 + 1 + 1 ≤ V.heap.size := by rw [hoV.size]; exact hsW
  have h' := h.later hBV
  obtain ⟨t0, t1, t2, _, _, _⟩ := Q0.three
  have x0 := Q1.cell 0
  simp only [List.getElem?_toArray, List.getElem?_cons_zero] at x0
  clear R0 R1 R2
  go_enter Tryz.func72, Tryz.ntmps72
  go_wp2_with fail
  refine (norm_any h' (by omega)).mono ?_
  rintro e w1 ⟨r1, rfl, q1, hb1⟩
  have hs1 := hb1.size
  replace Q1 := Q1.later hb1
  replace Q2 := Q2.later hb1
  obtain ⟨zs, es, a1, a2, c1, c2, rfl, A, B, hx, hy⟩ := q1
  obtain ⟨nb, hnb⟩ : ∃ nb, decide (X.num < 0) = nb := ⟨_, rfl⟩
  rw [hnb]
  have eA := A.eq
  have eB := B.eq
  have G := Q1.cell 0
  simp only [List.getElem?_toArray, List.getElem?_cons_zero] at G
  have Lx : zs.length * N ≤ (n + 2) * N := Nat.mul_le_mul_right _ hx
  have Ly : es.length * N ≤ (n + 2) * N := Nat.mul_le_mul_right _ hy
  clear t0 t1 t2 y0 y1 x0 hV hW
  go_wp2_with fail
  refine (bothPow_any G hN (by omega) (by omega) A.at_.2 B.at_.2 (by omega) (by omega)).mono ?_
  rintro e w2 ⟨r2, rfl, us, vs, b1, b2, j1, j2, rfl, q3, q4, l3, l4, hb2⟩
  have hs2 := hb2.size
  replace Q1 := Q1.later hb2
  replace Q2 := Q2.later hb2
  clear G
  obtain ⟨U5, hU5⟩ : ∃ U, w2.alloc (.cells #[.bool nb, .slice b1 us.length j1, .slice b2 vs.length j2] 51) = U := ⟨_, rfl⟩
  have hb5 : Below w2.heap.size w2 U5 := by rw [← hU5]; exact (Below.refl _ _).alloc (Nat.le_refl _) _
  have R5 : Row U5 w2.heap.size 51 #[.bool nb, .slice b1 us.length j1, .slice b2 vs.length j2] := by rw [← hU5]; exact Row.new _ _ _
  have S5 := Q2.later hb5
  have T5 := Q1.later hb5
  have q3' := (q3.later hb5).mono (base' := w.heap.size) (by omega)
  have q4' := (q4.later hb5).mono (base' := w.heap.size) (by omega)
  have hs5 := hb5.size
  have hs6 : w2.heap.size < U5.heap.size := R5.lt
  have hB5 : Below w.heap.size w U5 := ((hBV.trans (hb1.mono (by omega))).trans (hb2.mono (by omega))).trans (hb5.mono (by omega))
  have E2 : (((X ^ N).num.natAbs : Nat) : Int) = val zs ^ N := by rw [eA, Rat.num_pow, Int.natAbs_pow]; simp
  have E3 : (((X ^ N).den : Nat) : Int) = val es ^ N := by rw [eB, Rat.den_pow]; simp
  obtain ⟨p0, p1, p2, p3, p4, p5⟩ := R5.three
  have t0 := T5.cell 0
  have t1 := T5.free 0
  simp only [List.getElem?_toArray, List.getElem?_cons_zero] at t0
  clear eA eB A B q3 q4 hb2 hb1 Q0 Q1 Q2
  cases nb
  case false =>
    have hf := Lib.hid (show decide ((X ^ N).num < 0) = false from by rw [Rat.num_pow]; exact decide_eq_false (pos_pow_num _ (of_decide_eq_false hnb) N))
    clear hnb
    obtain ⟨U8, hU8⟩ : ∃ U, U5.setCell ⟨w2.heap.size, 0, none⟩ (.bool false) = U := ⟨_, rfl⟩
    have hk8 : ∀ k, k ≠ w2.heap.size → U8.heap[k]? = U5.heap[k]? := by rw [← hU8]; exact (Only.set _ _ _ _).block
    have q8 : ResQ w.heap.size U8 (.agg #[.bool false, .slice b1 us.length j1, .slice b2 vs.length j2]) (X ^ N) ((n + 2) * N + 1) := ⟨us, vs, b1, b2, j1, j2, by rw [hf.out], by rw [E2]; exact q3'.far R5 (by decide) hk8, by rw [E3]; exact q4'.far R5 (by decide) hk8, by omega, by omega⟩
    have R8 : Row U8 w2.heap.size 51 #[.bool false, .slice b1 us.length j1, .slice b2 vs.length j2] := by rw [← hU8]; exact R5.set 0 _
    have hb8 : Below w.heap.size w U8 := by rw [← hU8]; exact hB5.setCell (by simp <;> omega) _
    have S8 : Row U8 (w.heap.size + 1 + 1) 51 #[.bool false, .slice none 0 0, .slice none 0 0] := by rw [← hU8]; exact S5.far (by simp <;> omega) _
    have hs8 : U8.heap.size = U5.heap.size := by rw [← hU8]; simp
    obtain ⟨x0, x1, x2, _, _, _⟩ := R8.three
    go_wp2_with fail
    refine (plainR_any q8 hb8.size (by omega)).mono ?_
    rintro e w9 ⟨r9, rfl, q9, hb9⟩
    have hs9 := hb9.size
    have S9 := S8.later hb9
    obtain ⟨m, fs, gs, f1, g1, i1, i2, rfl⟩ := q9.arg.box
    obtain ⟨u0, u1, u2, v0, v1, v2⟩ := S9.three
    clear p0 p1 p2 p3 p4 p5 t0 t1 x0 x1 x2 hU8 hU5
    go_wp2_with fail
    refine bodyPost_ret (v := .agg #[.bool m, .slice f1 fs.length i1, .slice g1 gs.length i2]) (by simp [results, Tryz.results72, go_sem, u0, u1, u2]) rfl ⟨_, rfl, (q9.far S9 (by decide) (kept3 _ _ _)), below_set3 (hb8.trans (hb9.mono (by omega))) (by omega) _ _ _⟩
  case true =>
    have hneg := of_decide_eq_true hnb
    clear hnb
    have hmod : Int.tmod (N : Int) 2 = ((N % 2 : Nat) : Int) := by rw [Int.tmod_eq_emod_of_nonneg (by omega)]; omega
    rcases Nat.mod_two_eq_zero_or_one N with hz | hz
    · have hf := Lib.hid (show decide ((X ^ N).num < 0) = false from by rw [Rat.num_pow]; exact decide_eq_false (by have := (neg_pow_num _ hneg N).2 hz; omega))
      rw [hz] at hmod
      have h01 : (((0 : Nat) : Int) == 1) = false := by decide
      have hmod0 : Int.tmod (N : Int) 2 = 0 := hmod
      obtain ⟨U8, hU8⟩ : ∃ U, U5.setCell ⟨w2.heap.size, 0, none⟩ (.bool false) = U := ⟨_, rfl⟩
      have hk8 : ∀ k, k ≠ w2.heap.size → U8.heap[k]? = U5.heap[k]? := by rw [← hU8]; exact (Only.set _ _ _ _).block
      clear hmod hneg hz
      have q8 : ResQ w.heap.size U8 (.agg #[.bool false, .slice b1 us.length j1, .slice b2 vs.length j2]) (X ^ N) ((n + 2) * N + 1) := ⟨us, vs, b1, b2, j1, j2, by rw [hf.out], by rw [E2]; exact q3'.far R5 (by decide) hk8, by rw [E3]; exact q4'.far R5 (by decide) hk8, by omega, by omega⟩
      have R8 : Row U8 w2.heap.size 51 #[.bool false, .slice b1 us.length j1, .slice b2 vs.length j2] := by rw [← hU8]; exact R5.set 0 _
      have hb8 : Below w.heap.size w U8 := by rw [← hU8]; exact hB5.setCell (by simp <;> omega) _
      have S8 : Row U8 (w.heap.size + 1 + 1) 51 #[.bool false, .slice none 0 0, .slice none 0 0] := by rw [← hU8]; exact S5.far (by simp <;> omega) _
      have hs8 : U8.heap.size = U5.heap.size := by rw [← hU8]; simp
      obtain ⟨x0, x1, x2, _, _, _⟩ := R8.three
      go_wp2_with fail
      refine (plainR_any q8 hb8.size (by omega)).mono ?_
      rintro e w9 ⟨r9, rfl, q9, hb9⟩
      have hs9 := hb9.size
      have S9 := S8.later hb9
      obtain ⟨m, fs, gs, f1, g1, i1, i2, rfl⟩ := q9.arg.box
      obtain ⟨u0, u1, u2, v0, v1, v2⟩ := S9.three
      clear p0 p1 p2 p3 p4 p5 t0 t1 x0 x1 x2 hU8 hU5
      go_wp2_with fail
      refine bodyPost_ret (v := .agg #[.bool m, .slice f1 fs.length i1, .slice g1 gs.length i2]) (by simp [results, Tryz.results72, go_sem, u0, u1, u2]) rfl ⟨_, rfl, (q9.far S9 (by decide) (kept3 _ _ _)), below_set3 (hb8.trans (hb9.mono (by omega))) (by omega) _ _ _⟩
    · have hf := Lib.hid (show decide ((X ^ N).num < 0) = true from by rw [Rat.num_pow]; exact decide_eq_true ((neg_pow_num _ hneg N).1 hz))
      rw [hz] at hmod
      have h01 : (((1 : Nat) : Int) == 1) = true := by decide
      have hmod0 : Int.tmod (N : Int) 2 = 1 := hmod
      obtain ⟨U8, hU8⟩ : ∃ U, U5.setCell ⟨w2.heap.size, 0, none⟩ (.bool true) = U := ⟨_, rfl⟩
      have hk8 : ∀ k, k ≠ w2.heap.size → U8.heap[k]? = U5.heap[k]? := by rw [← hU8]; exact (Only.set _ _ _ _).block
      clear hmod hneg hz
      have q8 : ResQ w.heap.size U8 (.agg #[.bool true, .slice b1 us.length j1, .slice b2 vs.length j2]) (X ^ N) ((n + 2) * N + 1) := ⟨us, vs, b1, b2, j1, j2, by rw [hf.out], by rw [E2]; exact q3'.far R5 (by decide) hk8, by rw [E3]; exact q4'.far R5 (by decide) hk8, by omega, by omega⟩
      have R8 : Row U8 w2.heap.size 51 #[.bool true, .slice b1 us.length j1, .slice b2 vs.length j2] := by rw [← hU8]; exact R5.set 0 _
      have hb8 : Below w.heap.size w U8 := by rw [← hU8]; exact hB5.setCell (by simp <;> omega) _
      have S8 : Row U8 (w.heap.size + 1 + 1) 51 #[.bool false, .slice none 0 0, .slice none 0 0] := by rw [← hU8]; exact S5.far (by simp <;> omega) _
      have hs8 : U8.heap.size = U5.heap.size := by rw [← hU8]; simp
      obtain ⟨x0, x1, x2, _, _, _⟩ := R8.three
      go_wp2_with fail
      refine (plainR_any q8 hb8.size (by omega)).mono ?_
      rintro e w9 ⟨r9, rfl, q9, hb9⟩
      have hs9 := hb9.size
      have S9 := S8.later hb9
      obtain ⟨m, fs, gs, f1, g1, i1, i2, rfl⟩ := q9.arg.box
      obtain ⟨u0, u1, u2, v0, v1, v2⟩ := S9.three
      clear p0 p1 p2 p3 p4 p5 t0 t1 x0 x1 x2 hU8 hU5
      go_wp2_with fail
      refine bodyPost_ret (v := .agg #[.bool m, .slice f1 fs.length i1, .slice g1 gs.length i2]) (by simp [results, Tryz.results72, go_sem, u0, u1, u2]) rfl ⟨_, rfl, (q9.far S9 (by decide) (kept3 _ _ _)), below_set3 (hb8.trans (hb9.mono (by omega))) (by omega) _ _ _⟩
end
section
open Go.RowKit
set_option linter.unusedVariables false
set_option linter.unusedSimpArgs false
/-- the numbers xs lie from the address ad on -/
def LimS (w : World) (ad : Option Addr) (xs : List Int) : Prop :=
  xs = [] ∨ ∃ b off, ad = some ⟨b, off, none⟩ ∧ ∀ i, i < xs.length → w.cell? ⟨b, off + i, none⟩ = some (.int .i64 (xs.getD i 0))
theorem LimS.nil (w : World) (ad : Option Addr) : LimS w ad [] := .inl rfl
theorem LimS.below {w w' : World} {ad : Option Addr} {xs : List Int} {B : Nat} (h : LimS w ad xs) (hb : Below B w w') (hB : ∀ a, ad = some a → a.block < B) : LimS w' ad xs := by
  rcases h with rfl | ⟨b, off, rfl, hc⟩
  · exact .inl rfl
  · exact .inr ⟨b, off, rfl, fun i hi => (hb.cell (p := ⟨b, off + i, none⟩) (hB ⟨b, off, none⟩ rfl)).trans (hc i hi)⟩
theorem LimS.later {w w' : World} {ad : Option Addr} {xs : List Int} (h : LimS w ad xs) (hb : Below w.heap.size w w') : LimS w' ad xs := by
  rcases h with rfl | ⟨b, off, rfl, hc⟩
  · exact .inl rfl
  · refine .inr ⟨b, off, rfl, fun i hi => ?_⟩
    have hlt := World.block_lt_of_cell? w _ (hc i hi)
    exact (hb.cell (p := ⟨b, off + i, none⟩) hlt).trans (hc i hi)
theorem LimS.take {w : World} {ad : Option Addr} {xs : List Int} (h : LimS w ad xs) (n : Nat) : LimS w ad (xs.take n) := by
  rcases h with rfl | ⟨b, off, rfl, hc⟩
  · exact .inl (by simp)
  · refine .inr ⟨b, off, rfl, fun i hi => ?_⟩
    rw [List.length_take] at hi
    rw [hc i (by omega)]
    simp [show i < n by omega]
theorem LimS.lt {w : World} {ad : Option Addr} {xs : List Int} (h : LimS w ad xs) (hn : xs ≠ []) : ∀ a, ad = some a → a.block < w.heap.size := by
  rcases h with rfl | ⟨b, off, rfl, hc⟩
  · exact absurd rfl hn
  · intro a ha
    cases ha
    exact World.block_lt_of_cell? w _ (hc 0 (List.length_pos_iff.2 hn))
/-- v is a slice of the call's own numbers xs -/
def NumS (base : Nat) (w : World) (v : Value) (xs : List Int) : Prop := w.ownsRow base 3 1 v xs.length (xs.map (Value.int .i64))
theorem NumS.read {base : Nat} {w : World} {v : Value} {xs : List Int} (h : NumS base w v xs) : ∃ ad cap, v = .slice ad xs.length cap ∧ LimS w ad xs ∧ xs.length ≤ cap ∧ cap ≤ maxLen ∧ (∀ a, ad = some a → base ≤ a.block ∧ a.block < w.heap.size) := by
  obtain ⟨h1, h2⟩ := h
  rcases h2 with ⟨rfl, hn⟩ | ⟨g, cap, cur, rfl, hb, hg, hc, hm, hs, ht⟩
  · obtain rfl := List.eq_nil_of_length_eq_zero hn
    exact ⟨none, 0, rfl, .inl rfl, Nat.le_refl _, by unfold maxLen; omega, fun a ha => by cases ha⟩
  · refine ⟨_, cap, rfl, .inr ⟨g, 0, rfl, fun i hi => ?_⟩, hc, hm, fun a ha => by cases ha; exact ⟨hb, lt_of_block hg⟩⟩
    have hj := World.ownsRow.cellAt (w := w) (base := base) (e := 3) (size := 1) (g := g) (n := xs.length) (cap := cap) (xs := xs.map (Value.int .i64)) ⟨h1, .inr ⟨g, cap, cur, rfl, hb, hg, hc, hm, hs, ht⟩⟩ i (by omega)
    rw [Nat.zero_add, hj]
    simp [hi]
theorem NumS.lt {base : Nat} {w : World} {v : Value} {xs : List Int} (h : NumS base w v xs) : ∀ k, v.ownBlock = some k → base ≤ k ∧ k < w.heap.size := World.ownsRow.lt h
theorem NumS.kept {base B : Nat} {w w' : World} {v : Value} {xs : List Int} (h : NumS base w v xs) (hb : Below B w w') (hB : ∀ k, v.ownBlock = some k → k < B) : NumS base w' v xs := by
  obtain ⟨h1, h2⟩ := h
  refine ⟨h1, ?_⟩
  rcases h2 with h2 | ⟨g, cap, cur, rfl, hg0, hg, hc, hm, hs, ht⟩
  · exact .inl h2
  · exact .inr ⟨g, cap, cur, rfl, hg0, (hb.block g (hB g rfl)).trans hg, hc, hm, hs, ht⟩
theorem NumS.later {base : Nat} {w w' : World} {v : Value} {xs : List Int} (h : NumS base w v xs) (hb : Below w.heap.size w w') : NumS base w' v xs := h.kept hb fun k hk => (h.lt k hk).2
theorem NumS.mono {base base' : Nat} {w : World} {v : Value} {xs : List Int} (h : NumS base w v xs) (hb : base' ≤ base) : NumS base' w v xs := by
  obtain ⟨h1, h2⟩ := h
  refine ⟨h1, ?_⟩
  rcases h2 with h2 | ⟨g, cap, cur, rfl, hg0, hg, hc, hm, hs, ht⟩
  · exact .inl h2
  · exact .inr ⟨g, cap, cur, rfl, Nat.le_trans hb hg0, hg, hc, hm, hs, ht⟩
/-- a block of numbers, known whole -/
def BlkS (w : World) (g : Nat) (zs : List Int) : Prop := w.heap[g]? = some (.cells (zs.map (Value.int .i64)).toArray 3 (0, 0))
theorem BlkS.cell {w : World} {g : Nat} {zs : List Int} (h : BlkS w g zs) (i : Nat) (hi : i < zs.length) : w.cell? ⟨g, i, none⟩ = some (.int .i64 (zs.getD i 0)) := by
  have e : w.cell? ⟨g, i, none⟩ = ((zs.map (Value.int .i64)).toArray)[i]? := cell_of_row w g i _ 3 (0, 0) h
  rw [e]; simp [hi]
theorem BlkS.free {w : World} {g : Nat} {zs : List Int} (h : BlkS w g zs) (i : Nat) : w.frozen? ⟨g, i, none⟩ = false := by
  exact frozen_of_row w g i _ 3 h
theorem BlkS.lt {w : World} {g : Nat} {zs : List Int} (h : BlkS w g zs) : g < w.heap.size := lt_of_block h
theorem BlkS.same {w w' : World} {g : Nat} {zs : List Int} (h : BlkS w g zs) (e : w'.heap[g]? = w.heap[g]?) : BlkS w' g zs := e.trans h
theorem BlkS.alloc {w : World} {g : Nat} {zs : List Int} (h : BlkS w g zs) (o : Obj) : BlkS (w.alloc o) g zs := h.same (Below.heap_alloc _ _ _ h.lt)
theorem BlkS.only {w w' : World} {g b : Nat} {zs : List Int} (h : BlkS w g zs) (k : Only b w w') (hb : g ≠ b) : BlkS w' g zs := h.same (k.block g hb)
theorem BlkS.below {w w' : World} {g B : Nat} {zs : List Int} (h : BlkS w g zs) (k : Below B w w') (hb : g < B) : BlkS w' g zs := h.same (k.block g hb)
theorem BlkS.set {w : World} {g : Nat} {zs : List Int} (h : BlkS w g zs) (i : Nat) (x : Int) : BlkS (w.setCell ⟨g, i, none⟩ (.int .i64 x)) g (zs.set i x) := by
  have hh := heap_setCell_same w g i _ 3 (.int .i64 x) h
  unfold BlkS
  rw [hh]
  congr 2
  simp [List.map_set]
theorem BlkS.made (w : World) (n : Nat) : BlkS (w.alloc (.cells (madeCells #[.int .i64 0] n) 3)) w.heap.size (List.replicate n 0) := by
  have h := heap_alloc_new w (.cells (madeCells #[.int .i64 0] n) 3)
  unfold BlkS
  rw [h]
  congr 2
  apply Array.ext
  · simp [madeCells]
  · intro i h1 h2
    simp [madeCells, Nat.mod_one]
theorem NumS.ofBlk {base g : Nat} {w : World} {zs : List Int} (h : BlkS w g zs) (hb : base ≤ g) (n : Nat) (hn : n ≤ zs.length) (hm : zs.length ≤ maxLen) : NumS base w (.slice (some ⟨g, 0, none⟩) n zs.length) (zs.take n) := by
  have e : (zs.take n).length = n := by rw [List.length_take]; omega
  unfold NumS
  rw [e]
  refine ⟨by rw [List.length_map, e, Nat.mul_one], .inr ⟨g, zs.length, _, rfl, hb, h, hn, hm, by simp, ?_⟩⟩
  simp [List.map_take]
theorem BlkS.grown {w w' : World} {g : Nat} {row : Option Nat} {zs : List Int} (h : BlkS w g zs) (k : w.grownBy w' row) (hb : some g ≠ row) : BlkS w' g zs := h.same (k.block g h.lt hb)
/-- all are of 64 bits -/
def Wid (xs : List Int) : Prop := ∀ x ∈ xs, -9223372036854775808 ≤ x ∧ x ≤ 9223372036854775807
theorem Wid.nil : Wid [] := fun _ h => by cases h
theorem Wid.append {xs ys : List Int} (h : Wid xs) (k : Wid ys) : Wid (xs ++ ys) := fun x hx => (List.mem_append.1 hx).elim (h x) (k x)
theorem Wid.one {x : Int} (h : -9223372036854775808 ≤ x ∧ x ≤ 9223372036854775807) : Wid [x] := fun y hy => by rw [List.mem_singleton.1 hy]; exact h
theorem Wid.take {xs : List Int} (h : Wid xs) (n : Nat) : Wid (xs.take n) := fun x hx => h x (List.mem_of_mem_take hx)
theorem Wid.drop {xs : List Int} (h : Wid xs) (n : Nat) : Wid (xs.drop n) := fun x hx => h x (List.mem_of_mem_drop hx)
theorem Wid.getD {xs : List Int} (h : Wid xs) (i : Nat) : -9223372036854775808 ≤ xs.getD i 0 ∧ xs.getD i 0 ≤ 9223372036854775807 := by
  by_cases hi : i < xs.length
  · rw [List.getD_eq_getElem?_getD, List.getElem?_eq_getElem hi]; exact h _ (List.getElem_mem hi)
  · simp [List.getElem?_eq_none (Nat.le_of_not_lt hi)]
/-- an argument: numbers -/
structure ArgS (w : World) (u : Value) (xs : List Int) (ad : Option Addr) (cap : Nat) : Prop where
  is : u = .slice ad xs.length cap
  lim : LimS w ad xs
  le : xs.length ≤ cap
  wf : Wid xs
theorem ArgS.later {w w' : World} {u : Value} {xs : List Int} {ad : Option Addr} {cap : Nat} (h : ArgS w u xs ad cap) (hb : Below w.heap.size w w') : ArgS w' u xs ad cap := ⟨h.is, h.lim.later hb, h.le, h.wf⟩
/-- a result: numbers in new memory -/
structure ResS (base : Nat) (w : World) (u : Value) (xs : List Int) : Prop where
  num : NumS base w u xs
  wf : Wid xs
theorem ResS.later {base : Nat} {w w' : World} {u : Value} {xs : List Int} (h : ResS base w u xs) (hb : Below w.heap.size w w') : ResS base w' u xs := ⟨h.num.later hb, h.wf⟩
theorem ResS.arg {base : Nat} {w : World} {u : Value} {xs : List Int} (h : ResS base w u xs) : ∃ ad cap, ArgS w u xs ad cap := by
  obtain ⟨ad, cap, h1, h2, h3, _, _⟩ := h.num.read
  exact ⟨ad, cap, h1, h2, h3, h.wf⟩
theorem infoS : (Tryz.prog.info? 3).map (fun i => (i.zero, i.size, i.bytes)) = some (some (.int .i64 0), 1, 8) := by kernel_rfl
theorem ArgS.at {w : World} {u : Value} {xs : List Int} {ad : Option Addr} {cap : Nat} (h : ArgS w u xs ad cap) {i : Nat} (hi : i < xs.length) :
    ∃ b off, ad = some ⟨b, off, none⟩ ∧ w.cell? ⟨b, off + i, none⟩ = some (.int .i64 (xs.getD i 0)) := by
  rcases h.lim with rfl | ⟨b, off, e, hc⟩
  · simp at hi
  · exact ⟨b, off, e, hc i hi⟩
theorem ResS.nil (base : Nat) (w : World) : ResS base w (.slice none 0 0) [] := ⟨⟨rfl, .inl ⟨rfl, rfl⟩⟩, Wid.nil⟩
theorem ResS.mono {base base' : Nat} {w : World} {u : Value} {xs : List Int} (h : ResS base w u xs) (hb : base' ≤ base) : ResS base' w u xs := ⟨h.num.mono hb, h.wf⟩
theorem ResS.slice {base : Nat} {w : World} {u : Value} {xs : List Int} (h : ResS base w u xs) : ∃ ad cap, u = .slice ad xs.length cap ∧ ResS base w (.slice ad xs.length cap) xs ∧ ArgS w (.slice ad xs.length cap) xs ad cap ∧ (ad = none → cap = 0) := by
  obtain ⟨ad, cap, h1, h2, h3, h4, _⟩ := h.num.read
  subst h1
  refine ⟨ad, cap, rfl, h, ⟨rfl, h2, h3, h.wf⟩, fun hn => ?_⟩
  subst hn
  obtain ⟨_, h5⟩ := h.num
  rcases h5 with ⟨e, _⟩ | ⟨g, c, cur, e, _⟩
  · simp only [Value.slice.injEq] at e; exact e.2.2
  · simp at e
theorem cells_argS {w : World} {ys : List Int} {ad : Addr} {cap : Nat} (lx : LimS w (some ad) ys) : ∀ j u, (ys.map (Value.int .i64))[j]? = some u → w.cell? (ad.add j) = some u := by
  intro j u hj
  rcases lx with rfl | ⟨b, off, e, hc⟩
  · simp at hj
  · cases e
    rw [List.getElem?_map] at hj
    have hjl : j < ys.length := by
      rcases Nat.lt_or_ge j ys.length with h | h
      · exact h
      · rw [List.getElem?_eq_none h] at hj; cases hj
    rw [show (⟨b, off, none⟩ : Addr).add j = ⟨b, off + j, none⟩ from (by unfold Addr.add; split <;> simp_all), hc j hjl, ← hj]
    simp [hjl]
/-- a literal -/
theorem ArgS.lit (w : World) (xs : List Int) (h : Wid xs) : ArgS (w.alloc (.cells (xs.map (Value.int .i64)).toArray 3)) (.slice (some ⟨w.heap.size, 0, none⟩) xs.length xs.length) xs (some ⟨w.heap.size, 0, none⟩) xs.length := by
  refine ⟨rfl, .inr ⟨w.heap.size, 0, rfl, fun i hi => ?_⟩, Nat.le_refl _, h⟩
  have e : (w.alloc (.cells (xs.map (Value.int .i64)).toArray 3)).cell? ⟨w.heap.size, i, none⟩ = ((xs.map (Value.int .i64)).toArray)[i]? := cell_of_row _ _ i _ 3 (0, 0) (heap_alloc_new w _)
  rw [Nat.zero_add, e]
  simp [hi]
end
section
set_option linter.unusedVariables false
set_option linter.unusedSimpArgs false
/-- the product -/
def prodS : List Int → Int
  | [] => 1
  | d :: ds => d * prodS ds
/-- all are at least 1 -/
def posS (s : List Int) : Prop := ∀ x ∈ s, 1 ≤ x
theorem posS.tail {d : Int} {ds : List Int} (h : posS (d :: ds)) : posS ds := fun x hx => h x (List.mem_cons_of_mem _ hx)
theorem posS.head {d : Int} {ds : List Int} (h : posS (d :: ds)) : 1 ≤ d := h d (List.mem_cons_self ..)
theorem posS.drop {s : List Int} (h : posS s) (n : Nat) : posS (s.drop n) := fun x hx => h x (List.mem_of_mem_drop hx)
theorem posS.take {s : List Int} (h : posS s) (n : Nat) : posS (s.take n) := fun x hx => h x (List.mem_of_mem_take hx)
theorem posS.getD {s : List Int} (h : posS s) {i : Nat} (hi : i < s.length) : 1 ≤ s.getD i 0 := by
  rw [List.getD_eq_getElem?_getD, List.getElem?_eq_getElem hi]; exact h _ (List.getElem_mem hi)
theorem prodS_pos {s : List Int} (h : posS s) : 1 ≤ prodS s := by
  induction s with
  | nil => exact Int.le_refl _
  | cons d ds ih =>
    have h1 := h.head
    have h2 := ih h.tail
    have h3 := Int.mul_le_mul h1 h2 (by omega) (by omega)
    unfold prodS
    omega
theorem prodS_append (a b : List Int) : prodS (a ++ b) = prodS a * prodS b := by
  induction a with
  | nil => simp [prodS]
  | cons x xs ih => rw [List.cons_append]; simp only [prodS]; rw [ih, Int.mul_assoc]
theorem prodS_take {s : List Int} {k : Nat} (hk : k < s.length) : prodS (s.take (k + 1)) = prodS (s.take k) * s.getD k 0 := by
  rw [List.take_add_one, List.getElem?_eq_getElem hk, prodS_append, Option.toList_some]
  simp [prodS, List.getD_eq_getElem?_getD, List.getElem?_eq_getElem hk]
theorem prodS_split (s : List Int) (k : Nat) : prodS s = prodS (s.take k) * prodS (s.drop k) := by rw [← prodS_append, List.take_append_drop]
theorem prodS_take_le {s : List Int} (h : posS s) (k : Nat) : prodS (s.take k) ≤ prodS s := by
  have h1 := prodS_pos (h.take k)
  have h2 := prodS_pos (h.drop k)
  rw [prodS_split s k]
  have := Int.mul_le_mul_of_nonneg_left h2 (show 0 ≤ prodS (s.take k) by omega)
  omega
theorem getD_le_prod {s : List Int} (h : posS s) {k : Nat} (hk : k < s.length) : s.getD k 0 ≤ prodS s := by
  have h1 := prodS_pos (h.take k)
  have h2 := prodS_take_le h (k + 1)
  have h3 := h.getD hk
  rw [prodS_take hk] at h2
  have := Int.mul_le_mul_of_nonneg_right h1 (show 0 ≤ s.getD k 0 by omega)
  omega
/-- why a shape may not be: 0, or an error -/
def mayC (s : List Int) : Int := if 4 < s.length then 14 else if s.any (fun x => decide (x < 1)) = true then 13 else if 1024 < prodS s then 14 else 0
theorem any_pos (s : List Int) : s.any (fun x => decide (x < 1)) = true ↔ ¬ posS s := by
  rw [List.any_eq_true]
  unfold posS
  constructor
  · intro ⟨x, hx, h⟩ hp
    have := hp x hx
    simp at h
    omega
  · intro h
    apply Classical.byContradiction
    intro hn
    apply h
    intro x hx
    rcases Int.lt_or_le x 1 with g | g
    · exact absurd ⟨x, hx, by simpa using g⟩ hn
    · exact g
structure OkS (s : List Int) : Prop where
  rank : s.length ≤ 4
  pos : posS s
  few : prodS s ≤ 1024
theorem mayC_zero {s : List Int} : mayC s = 0 ↔ OkS s := by
  unfold mayC
  constructor
  · intro h
    split at h
    · cases h
    · split at h
      · cases h
      · next h1 h2 =>
        split at h
        · cases h
        · rw [any_pos, Classical.not_not] at h2
          exact ⟨by omega, h2, by omega⟩
  · intro h
    rw [if_neg (by have := h.rank; omega), if_neg (by rw [any_pos, Classical.not_not]; exact h.pos), if_neg (by have := h.few; omega)]
theorem mayC_ok {s : List Int} (h : OkS s) : mayC s = 0 := mayC_zero.2 h
theorem mayC_rank {s : List Int} (h : 4 < s.length) : mayC s = 14 := by unfold mayC; rw [if_pos h]
theorem mayC_dim {s : List Int} (h : s.length ≤ 4) (h2 : ¬ posS s) : mayC s = 13 := by unfold mayC; rw [if_neg (by omega), if_pos ((any_pos s).2 h2)]
theorem mayC_count {s : List Int} (h : s.length ≤ 4) (h2 : posS s) (h3 : 1024 < prodS s) : mayC s = 14 := by unfold mayC; rw [if_neg (by omega), if_neg (by rw [any_pos, Classical.not_not]; exact h2), if_pos h3]
theorem OkS.nil : OkS [] := ⟨by simp, (fun x h => by cases h), by simp [prodS]⟩
/-- how many elements -/
def countS (s : List Int) : Int := if mayC s = 0 then prodS s else 0
theorem OkS.count {s : List Int} (h : OkS s) : countS s = prodS s := by unfold countS; rw [if_pos (mayC_ok h)]
theorem count_bad {s : List Int} (h : mayC s ≠ 0) : countS s = 0 := by unfold countS; rw [if_neg h]
end
end Go.Proofs.YtjcacmnmbbnffaaGreat
