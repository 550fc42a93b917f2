/-
  Part 18 of 39: contracts and what they rest on (RJoin, RAdd, RRefE, RRefF, RTwo).
-/
import Derived.Test.YtengpgodmbfmkaaGreatG15
import Derived.Test.YtengpgodmbfmkaaGreatG16
namespace Go.Proofs.YtengpgodmbfmkaaGreat
set_option linter.unusedVariables false
set_option linter.unusedSimpArgs false
set_option maxRecDepth 100000
set_option maxHeartbeats 40000000
section
open Go.RowKit
theorem joinedP_any {n : Nat} {w : World} {m1 m2 : Bool} {xs ds zs es : List Int} {a1 a2 a3 a4 : Option Addr} {c1 c2 c3 c4 : Nat} {recv : Value}
 (A : Arg w (.slice a1 xs.length c1) xs a1 c1) (B : Arg w (.slice a2 ds.length c2) ds a2 c2) (C : Arg w (.slice a3 zs.length c3) zs a3 c3) (D : Arg w (.slice a4 es.length c4) es a4 c4)
 (hx : xs.length ≤ n) (hd : ds.length ≤ n) (hz : zs.length ≤ n) (he : es.length ≤ n) (hn : n ≤ 16777216) (hB : 0 < val ds) (hD : 0 < val es)
 (hr : SgnQ w recv (sgn m1 (val xs * val es)) (2 * n + 2)) :
 Calls Tryz.prog 119 #[.agg #[.bool m1, .slice a1 xs.length c1, .slice a2 ds.length c2], .agg #[.bool m2, .slice a3 zs.length c3, .slice a4 es.length c4], .func (.func 121) #[recv] #[]] w fun e w' =>
  ∃ r, e = .returned r ∧ ResQ w.heap.size w' r (ratOf m1 (val xs) (val ds) + ratOf m2 (val zs) (val es)) (2 * n + 6) ∧ Below w.heap.size w w' := by
 obtain ⟨W, hW⟩ : ∃ W, (((w.alloc (.cells #[.bool m1, .slice a1 xs.length c1, .slice a2 ds.length c2] 54)).alloc (.cells #[.bool m2, .slice a3 zs.length c3, .slice a4 es.length c4] 54)).alloc (.cells #[.bool false, .slice none 0 0, .slice none 0 0] 54)) = W := ⟨_, rfl⟩
 have R0 : Row W (w.heap.size) 54 #[.bool m1, .slice a1 xs.length c1, .slice a2 ds.length c2] := by rw [← hW]; exact (((Row.new _ _ _).alloc _).alloc _)
 have R1 : Row W (w.heap.size + 1) 54 #[.bool m2, .slice a3 zs.length c3, .slice a4 es.length c4] := by rw [← hW]; have h := (Row.new (w.alloc (.cells #[.bool m1, .slice a1 xs.length c1, .slice a2 ds.length c2] 54)) 54 #[.bool m2, .slice a3 zs.length c3, .slice a4 es.length c4]); simp only [World.size_alloc] at h; exact (h.alloc _)
 have R2 : Row W (w.heap.size + 1 + 1) 54 #[.bool false, .slice none 0 0, .slice none 0 0] := by rw [← hW]; have h := (Row.new ((w.alloc (.cells #[.bool m1, .slice a1 xs.length c1, .slice a2 ds.length c2] 54)).alloc (.cells #[.bool m2, .slice a3 zs.length c3, .slice a4 es.length c4] 54)) 54 #[.bool false, .slice none 0 0, .slice none 0 0]); simp only [World.size_alloc] at h; exact h
 have hBW : Below w.heap.size w W := by rw [← hW]; exact ((((Below.refl _ _).alloc (by (try simp) <;> omega) _).alloc (by (try simp) <;> omega) _).alloc (by (try simp) <;> omega) _)
 have hsW : w.heap.size + 1 + 1 + 1 ≤ W.heap.size := by rw [← hW]; simp
 have A' := A.later hBW
 have B' := B.later hBW
 have C' := C.later hBW
 have D' := D.later hBW
 have hr' := hr.later hBW
 obtain ⟨p0, p1, p2, _, _, _⟩ := R0.three
 obtain ⟨o0, o1, o2, _, _, _⟩ := R1.three
 go_enter Tryz.func119, Tryz.ntmps119
 go_wp2_with fail
 refine (over_any (neg := m2) (neg' := m1) C' B' hz hd (by omega)).mono ?_
 rintro e w1 ⟨r1, rfl, h1, hb1⟩
 have hs1 := hb1.size
 go_wp2_with fail
 refine (plus_any (hr'.later hb1) h1 (by omega)).mono ?_
 rintro e w2 ⟨r2, rfl, ⟨rn, us, b1, k1, rfl, F, hS, hl⟩, hb2⟩
 have hs2 := hb2.size
 have hval : ratOf rn (val us) (val ds * val es) = ratOf m1 (val xs) (val ds) + ratOf m2 (val zs) (val es) := rat_sum hB hD (hS.trans rfl)
 have HV := Lib.hid hval
 clear hval hS hW h1 hr hr' p0 p1 p2 o0 o1 o2
 obtain ⟨U, hU⟩ : ∃ U, w2.alloc (.cells #[.bool rn, .slice b1 us.length k1] 157) = U := ⟨_, rfl⟩
 have hBU : Below w2.heap.size w2 U := by rw [← hU]; exact (Below.refl _ _).alloc (by simp) _
 have hsU : w2.heap.size + 1 ≤ U.heap.size := by rw [← hU]; simp
 have Q7 : Row U w2.heap.size 157 #[.bool rn, .slice b1 us.length k1] := by rw [← hU]; exact Row.new _ _ _
 have P0 := ((R0.later hb1).later hb2).later hBU
 have P1 := ((R1.later hb1).later hb2).later hBU
 have P2 := ((R2.later hb1).later hb2).later hBU
 have BU := ((B'.later hb1).later hb2).later hBU
 have DU := ((D'.later hb1).later hb2).later hBU
 have FU := F.later hBU
 have hB2 : Below w.heap.size w U := ((hBW.trans (hb1.mono (by omega))).trans (hb2.mono (by omega))).trans (hBU.mono (by omega))
 have mkS : ∀ X, Kept (w.heap.size + 1 + 1) U X → X.cell? ⟨w2.heap.size, 0, none⟩ = some (.bool rn) ∧ X.cell? ⟨w2.heap.size, 1, none⟩ = some (.slice b1 us.length k1) ∧ X.cell? ⟨w.heap.size, 2, none⟩ = some (.slice a2 ds.length c2) ∧ X.cell? ⟨w.heap.size + 1, 2, none⟩ = some (.slice a4 es.length c4) ∧ Kept (w.heap.size + 1 + 1) U X := fun X h => ⟨(Q7.kept h (by omega)).cell 0, (Q7.kept h (by omega)).cell 1, (P0.kept h (by omega)).cell 2, (P1.kept h (by omega)).cell 2, h⟩
 go_wp2_with fail
 clear hU R0 R1 R2 A B C D A' B' C' D' F hb1 hb2 hBU hBW
 go_region_held3 (fun X => X.cell? ⟨w2.heap.size, 0, none⟩ = some (.bool rn) ∧ X.cell? ⟨w2.heap.size, 1, none⟩ = some (.slice b1 us.length k1) ∧ X.cell? ⟨w.heap.size, 2, none⟩ = some (.slice a2 ds.length c2) ∧ X.cell? ⟨w.heap.size + 1, 2, none⟩ = some (.slice a4 es.length c4) ∧ Kept (w.heap.size + 1 + 1) U X)
  (((refine mkS _ ?_; (repeat' (first | exact Kept.refl _ _ | refine Kept.drew ?_ | refine Kept.alloc ?_ _ | refine Kept.set ?_ _ _ | refine Kept.below ?_ (by assumption))))))
  ((first
    | (go_at_call 90; refine (norm_any (n := 2 * n + 4) ⟨rn, us, z3, b1, ad3, k1, cp3, rfl, F3, A3, HV3.out, by omega, by omega⟩ (by omega)).mono ?_; rintro e w4 ⟨r4, rfl, q4, hb4⟩; obtain ⟨ng, fs, gs, f1, f2, j1, j2, rfl⟩ := q4.arg.box; have P4 := P3.later hb4; obtain ⟨u0, u1, u2, g0, g1, g2⟩ := P4.three)
    | (go_at_call 140; refine (product_any (by first | exact Row.new _ _ _ | exact (Row.new _ _ _).drew) (BU.later (by (repeat' (first | exact Below.refl _ _ | refine Below.drew ?_ | refine Below.alloc ?_ (by (try simp) <;> omega) _ | refine below_set3 ?_ (by (try simp) <;> omega) _ _ _ | refine below_set2 ?_ (by (try simp) <;> omega) _ _ | refine Below.setCell ?_ (by (try simp) <;> omega) _ | refine Below.trans ?_ (Below.mono (by assumption) (by (try simp) <;> omega)))))) (DU.later (by (repeat' (first | exact Below.refl _ _ | refine Below.drew ?_ | refine Below.alloc ?_ (by (try simp) <;> omega) _ | refine below_set3 ?_ (by (try simp) <;> omega) _ _ _ | refine below_set2 ?_ (by (try simp) <;> omega) _ _ | refine Below.setCell ?_ (by (try simp) <;> omega) _ | refine Below.trans ?_ (Below.mono (by assumption) (by (try simp) <;> omega)))))) hd he (by omega)).mono ?_; rintro e w3 ⟨r3, z3, rfl, q3, l3, hb3⟩; obtain ⟨ad3, cp3, rfl, q3, A3⟩ := q3.slice; have hb3' := (show Below U.heap.size U w3 by (repeat' (first | exact Below.refl _ _ | refine Below.drew ?_ | refine Below.alloc ?_ (by (try simp) <;> omega) _ | refine below_set3 ?_ (by (try simp) <;> omega) _ _ _ | refine below_set2 ?_ (by (try simp) <;> omega) _ _ | refine Below.setCell ?_ (by (try simp) <;> omega) _ | refine Below.trans ?_ (Below.mono (by assumption) (by (try simp) <;> omega))))); have F3 := FU.later hb3'; have P3 := P2.later hb3'; have HV3 := Lib.hid ((congrArg (ratOf rn (val us)) q3.eq).trans HV.out))))
 have hs4 := hb4.size
 have hs3 := hb3'.size
 go_wp2_with fail
 refine bodyPost_ret (v := .agg #[.bool ng, .slice f1 fs.length j1, .slice f2 gs.length j2]) (by simp [results, Tryz.results119, go_sem, u0, u1, u2]) rfl ⟨_, rfl, ?_, ?_⟩
 · exact ((q4.far P4 (by decide) (kept3 _ _ _)).mono (by omega)).more (by omega)
 · exact below_set3 ((hB2.trans (hb3'.mono (by omega))).trans (hb4.mono (by omega))) (by omega) _ _ _
end
section
open Go.RowKit
theorem addQ_any {n : Nat} {w : World} {u v : Value} {X Y : Rat} (hu : ArgQ w u X n) (hv : ArgQ w v Y n) (hn : n ≤ 16777000) :
 Calls Tryz.prog 75 #[u, v] w fun e w' => ∃ r, e = .returned r ∧ ResQ w.heap.size w' r (X + Y) (2 * n + 10) ∧ Below w.heap.size w w' := by
 obtain ⟨n1, ps, qs, e1, e2, k1, k2, rfl⟩ := hu.box
 obtain ⟨n2, rs, ss, e3, e4, k3, k4, rfl⟩ := hv.box
 obtain ⟨W, hW⟩ : ∃ W, (((w.alloc (.cells #[.bool n1, .slice e1 ps.length k1, .slice e2 qs.length k2] 54)).alloc (.cells #[.bool n2, .slice e3 rs.length k3, .slice e4 ss.length k4] 54)).alloc (.cells #[.bool false, .slice none 0 0, .slice none 0 0] 54)) = W := ⟨_, rfl⟩
 have R0 : Row W (w.heap.size) 54 #[.bool n1, .slice e1 ps.length k1, .slice e2 qs.length k2] := by rw [← hW]; exact (((Row.new _ _ _).alloc _).alloc _)
 have R1 : Row W (w.heap.size + 1) 54 #[.bool n2, .slice e3 rs.length k3, .slice e4 ss.length k4] := by rw [← hW]; have h := (Row.new (w.alloc (.cells #[.bool n1, .slice e1 ps.length k1, .slice e2 qs.length k2] 54)) 54 #[.bool n2, .slice e3 rs.length k3, .slice e4 ss.length k4]); simp only [World.size_alloc] at h; exact (h.alloc _)
 have R2 : Row W (w.heap.size + 1 + 1) 54 #[.bool false, .slice none 0 0, .slice none 0 0] := by rw [← hW]; have h := (Row.new ((w.alloc (.cells #[.bool n1, .slice e1 ps.length k1, .slice e2 qs.length k2] 54)).alloc (.cells #[.bool n2, .slice e3 rs.length k3, .slice e4 ss.length k4] 54)) 54 #[.bool false, .slice none 0 0, .slice none 0 0]); simp only [World.size_alloc] at h; exact h
 have hBW : Below w.heap.size w W := by rw [← hW]; exact ((((Below.refl _ _).alloc (by (try simp) <;> omega) _).alloc (by (try simp) <;> omega) _).alloc (by (try simp) <;> omega) _)
 have hsW : w.heap.size + 1 + 1 + 1 ≤ W.heap.size := by rw [← hW]; simp
 have hu' := (hu.later hBW).later (Below.refl _ W).drew
 have hv' := hv.later hBW
 obtain ⟨p0, p1, p2, p3, p4, p5⟩ := R0.three
 obtain ⟨o0, o1, o2, o3, o4, o5⟩ := R1.three
 have hmf : ∀ (fn : Fn) (first cap : Array Value) (w : World), (Instr.makeFunc fn first cap).run Tryz.prog w = .ok (.func fn first cap) w := fun _ _ _ _ => rfl
 go_enter Tryz.func75, Tryz.ntmps75
 go_wp2_with fail
 clear hW
 refine wp_region_noPanic ?_
 refine wp_region_held_drew (S := fun _ => True) (by kernel_rfl) trivial (fun hHeld => ?_)
 clear hHeld
 refine wpAnyH_ready (rs := [0, 2]) (by kernel_rfl) (by simp) ?_
 refine AllReadyH.cons rfl (fun K hK => ?o1_0) (AllReadyH.cons rfl (fun K hK => ?o1_2) AllReadyH.nil)
 case o1_0 =>
  go_simp
  refine hK.out _ _ trivial (fun hHeld => ?_)
  clear hK K hHeld
  try simp only [Act.put, nD, nE, nF]
  refine wpAnyH_ready (rs := [1, 2]) (by kernel_rfl) (by simp) ?_
  refine AllReadyH.cons rfl (fun K hK => ?o2_1) (AllReadyH.cons rfl (fun K hK => ?o2_2) AllReadyH.nil)
  case o2_1 =>
   go_simp
   (refine (plain_any hu' (by omega)).mono ?_)
   rintro e w1 ⟨r1, rfl, h1, hb1⟩
   have hb1d : Below W.heap.size W w1 := ⟨hb1.os, hb1.tape, hb1.output, hb1.size, hb1.block⟩
   obtain ⟨m1, xs, ds, a1, a2, c1, c2, rfl, A, B, hX, hx, hd, hB, _⟩ := h1
   have R0' := R0.later hb1d
   have R1' := R1.later hb1d
   obtain ⟨i0, i1, i2, _, _, _⟩ := R1'.three
   go_simp
   refine hK.out _ _ trivial (fun hHeld => ?_)
   clear hK K hHeld
   try simp only [Act.put, nD, nE, nF]
   refine wpAnyH_ready (rs := [2]) (by kernel_rfl) (by simp) ?_
   refine AllReadyH.cons rfl (fun K hK => ?o3_2) AllReadyH.nil
   case o3_2 =>
    go_simp
    refine hK.out _ _ trivial (fun hHeld => ?_)
    clear hK K hHeld
    try simp only [Act.put, nD, nE, nF]
    refine wpAnyH_ready (rs := [3]) (by kernel_rfl) (by simp) ?_
    refine AllReadyH.cons rfl (fun K hK => ?o4_3) AllReadyH.nil
    case o4_3 =>
     go_simp
     (refine (plain_any (hv'.later (show Below W.heap.size W w1 from hb1d)) (by omega)).mono ?_)
     rintro e w2 ⟨r2, rfl, h2, hb2⟩
     obtain ⟨m2, zs, es, a3, a4, c3, c4, rfl, C, D, hY, hz, he, hD, _⟩ := h2
     obtain ⟨t0, t1, t2, t3, t4, t5⟩ := (R0'.later hb2).three
     obtain ⟨s0, s1, s2, s3, s4, s5⟩ := (R1'.later hb2).three
     go_simp
     refine hK.out _ _ trivial (fun hHeld => ?_)
     clear hK K hHeld
     try simp only [Act.put, nD, nE, nF]
     refine wpAnyH_ready (rs := [4]) (by kernel_rfl) (by simp) ?_
     refine AllReadyH.cons rfl (fun K hK => ?o5_4) AllReadyH.nil
     case o5_4 =>
      go_simp
      refine hK.out _ _ trivial (fun hHeld => ?_)
      clear hK K hHeld
      try simp only [Act.put, nD, nE, nF]
      refine wpAnyH_ready (rs := [5]) (by kernel_rfl) (by simp) ?_
      refine AllReadyH.cons rfl (fun K hK => ?o6_5) AllReadyH.nil
      case o6_5 =>
       go_simp
       refine hK.out _ _ trivial (fun hHeld => ?_)
       clear hK K hHeld
       try simp only [Act.put, nD, nE, nF]
       refine wpAnyH_done (by kernel_rfl) ?_ _
       refine NoPanic.normal ?_
       have hs1 := hb1d.size
       have hs2 := hb2.size
       obtain ⟨V, hV⟩ : ∃ V, (((((w2.setCell ⟨w.heap.size, 0, none⟩ (.bool m1)).setCell ⟨w.heap.size, 1, none⟩ (.slice a1 xs.length c1)).setCell ⟨w.heap.size, 2, none⟩ (.slice a2 ds.length c2)).setCell ⟨w.heap.size + 1, 0, none⟩ (.bool m2)).setCell ⟨w.heap.size + 1, 1, none⟩ (.slice a3 zs.length c3)).setCell ⟨w.heap.size + 1, 2, none⟩ (.slice a4 es.length c4) = V := ⟨_, rfl⟩
       have Z0 := (R0'.later hb2)
       have Z1 := (R1'.later hb2)
       have Z1' : Row (((w2.setCell ⟨w.heap.size, 0, none⟩ (.bool m1)).setCell ⟨w.heap.size, 1, none⟩ (.slice a1 xs.length c1)).setCell ⟨w.heap.size, 2, none⟩ (.slice a2 ds.length c2)) (w.heap.size + 1) 54 #[.bool n2, .slice e3 rs.length k3, .slice e4 ss.length k4] := ((Z1.far (by simp) _).far (by simp) _).far (by simp) _
       have P0 : Row V (w.heap.size) 54 #[.bool m1, .slice a1 xs.length c1, .slice a2 ds.length c2] := by rw [← hV]; exact (((Z0.set3 _ _ _).far (by simp) _).far (by simp) _).far (by simp) _
       have P1 : Row V (w.heap.size + 1) 54 #[.bool m2, .slice a3 zs.length c3, .slice a4 es.length c4] := by rw [← hV]; exact Z1'.set3 _ _ _
       have P2 : Row V (w.heap.size + 1 + 1) 54 #[.bool false, .slice none 0 0, .slice none 0 0] := by rw [← hV]; exact ((((((((R2.later hb1d).later hb2)).far (by simp <;> omega) _).far (by simp <;> omega) _).far (by simp <;> omega) _).far (by simp <;> omega) _).far (by simp <;> omega) _).far (by simp <;> omega) _
       have hsV : w2.heap.size ≤ V.heap.size := by rw [← hV]; simp
       have hB2 : Below w.heap.size w V := by rw [← hV]; exact below_set3 (below_set3 ((hBW.trans (hb1d.mono (by omega))).trans (hb2.mono (by omega))) (by omega) _ _ _) (by omega) _ _ _
       have AV : Arg V (.slice a1 xs.length c1) xs a1 c1 := by rw [← hV]; exact ((A.later hb2).far Z0 (noInts3 _ _ _ _ _ _ _) (kept3 _ _ _)).far Z1' (noInts3 _ _ _ _ _ _ _) (kept3 _ _ _)
       have BV : Arg V (.slice a2 ds.length c2) ds a2 c2 := by rw [← hV]; exact ((B.later hb2).far Z0 (noInts3 _ _ _ _ _ _ _) (kept3 _ _ _)).far Z1' (noInts3 _ _ _ _ _ _ _) (kept3 _ _ _)
       have CV : Arg V (.slice a3 zs.length c3) zs a3 c3 := by rw [← hV]; exact (C.far Z0 (noInts3 _ _ _ _ _ _ _) (kept3 _ _ _)).far Z1' (noInts3 _ _ _ _ _ _ _) (kept3 _ _ _)
       have DV : Arg V (.slice a4 es.length c4) es a4 c4 := by rw [← hV]; exact (D.far Z0 (noInts3 _ _ _ _ _ _ _) (kept3 _ _ _)).far Z1' (noInts3 _ _ _ _ _ _ _) (kept3 _ _ _)
       have hfin : ratOf m1 (val xs) (val ds) + ratOf m2 (val zs) (val es) = X + Y := by rw [hX, hY]
       have HF := Lib.hid hfin
       have mkS : ∀ X, Kept (w.heap.size + 1 + 1) V X → X.cell? ⟨w.heap.size, 0, none⟩ = some (.bool m1) ∧ X.cell? ⟨w.heap.size, 1, none⟩ = some (.slice a1 xs.length c1) ∧ X.cell? ⟨w.heap.size, 2, none⟩ = some (.slice a2 ds.length c2) ∧ X.cell? ⟨w.heap.size + 1, 0, none⟩ = some (.bool m2) ∧ X.cell? ⟨w.heap.size + 1, 1, none⟩ = some (.slice a3 zs.length c3) ∧ X.cell? ⟨w.heap.size + 1, 2, none⟩ = some (.slice a4 es.length c4) ∧ Kept (w.heap.size + 1 + 1) V X := fun X h => ⟨(P0.kept h (by omega)).cell 0, (P0.kept h (by omega)).cell 1, (P0.kept h (by omega)).cell 2, (P1.kept h (by omega)).cell 0, (P1.kept h (by omega)).cell 1, (P1.kept h (by omega)).cell 2, h⟩
       clear hfin hX hY Z0 Z1 Z1' A B C D R0 R1 R2 R0' R1' hu hv hu' hv' hb1 hb1d hb2 hBW p0 p1 p2 p3 p4 p5 o0 o1 o2 o3 o4 o5 t0 t1 t2 t3 t4 t5 s0 s1 s2 s3 s4 s5 i0 i1 i2
       go_wp2_with fail
       (try rw [hV])
       clear hV
       go_region_held3 (fun X => X.cell? ⟨w.heap.size, 0, none⟩ = some (.bool m1) ∧ X.cell? ⟨w.heap.size, 1, none⟩ = some (.slice a1 xs.length c1) ∧ X.cell? ⟨w.heap.size, 2, none⟩ = some (.slice a2 ds.length c2) ∧ X.cell? ⟨w.heap.size + 1, 0, none⟩ = some (.bool m2) ∧ X.cell? ⟨w.heap.size + 1, 1, none⟩ = some (.slice a3 zs.length c3) ∧ X.cell? ⟨w.heap.size + 1, 2, none⟩ = some (.slice a4 es.length c4) ∧ Kept (w.heap.size + 1 + 1) V X)
        (((refine mkS _ ?_; (repeat' (first | exact Kept.refl _ _ | refine Kept.drew ?_ | refine Kept.alloc ?_ _ | refine Kept.set ?_ _ _ | refine Kept.below ?_ (by assumption))))))
        ((first
          | (go_at_call 119; refine (joinedP_any (n := n + 2) (AV.later hb3d) (BV.later hb3d) (CV.later hb3d) (DV.later hb3d) (by omega) (by omega) (by omega) (by omega) (by omega) hB hD (h3.later (Below.refl _ _))).mono ?_; rintro e w4 ⟨r4, rfl, q4, hb4⟩; rw [HF.out] at q4; obtain ⟨ng, fs, gs, f1, f2, j1, j2, rfl⟩ := q4.arg.box; have P4 := P3.later hb4; obtain ⟨u0, u1, u2, g0, g1, g2⟩ := P4.three)
          | (go_at_call 120; refine (over_any (AV.later (Below.refl _ V).drew) (DV.later (Below.refl _ V).drew) (show xs.length ≤ n + 2 by omega) (by omega) (by omega)).mono ?_; rintro e w3 ⟨r3, rfl, h3, hb3⟩; have hb3d : Below V.heap.size V w3 := ⟨hb3.os, hb3.tape, hb3.output, hb3.size, hb3.block⟩; have P3 := P2.later hb3d)))
       have hs3 := hb3d.size
       have hs4 := hb4.size
       go_wp2_with fail
       refine bodyPost_ret (v := .agg #[.bool ng, .slice f1 fs.length j1, .slice f2 gs.length j2]) (by simp [results, Tryz.results75, go_sem, u0, u1, u2]) rfl ⟨_, rfl, ?_, ?_⟩
       · exact ((q4.far P4 (by decide) (kept3 _ _ _)).mono (by omega)).more (by omega)
       · exact below_set3 ((hB2.trans (hb3d.mono (by omega))).trans (hb4.mono (by omega))) (by omega) _ _ _
  case o2_2 =>
   go_simp
   refine hK.out _ _ trivial (fun hHeld => ?_)
   clear hK K hHeld
   try simp only [Act.put, nD, nE, nF]
   refine wpAnyH_ready (rs := [1]) (by kernel_rfl) (by simp) ?_
   refine AllReadyH.cons rfl (fun K hK => ?o7_1) AllReadyH.nil
   case o7_1 =>
    go_simp
    (refine (plain_any hu' (by omega)).mono ?_)
    rintro e w1 ⟨r1, rfl, h1, hb1⟩
    have hb1d : Below W.heap.size W w1 := ⟨hb1.os, hb1.tape, hb1.output, hb1.size, hb1.block⟩
    obtain ⟨m1, xs, ds, a1, a2, c1, c2, rfl, A, B, hX, hx, hd, hB, _⟩ := h1
    have R0' := R0.later hb1d
    have R1' := R1.later hb1d
    obtain ⟨i0, i1, i2, _, _, _⟩ := R1'.three
    go_simp
    refine hK.out _ _ trivial (fun hHeld => ?_)
    clear hK K hHeld
    try simp only [Act.put, nD, nE, nF]
    refine wpAnyH_ready (rs := [3]) (by kernel_rfl) (by simp) ?_
    refine AllReadyH.cons rfl (fun K hK => ?o8_3) AllReadyH.nil
    case o8_3 =>
     go_simp
     (refine (plain_any (hv'.later (show Below W.heap.size W w1 from hb1d)) (by omega)).mono ?_)
     rintro e w2 ⟨r2, rfl, h2, hb2⟩
     obtain ⟨m2, zs, es, a3, a4, c3, c4, rfl, C, D, hY, hz, he, hD, _⟩ := h2
     obtain ⟨t0, t1, t2, t3, t4, t5⟩ := (R0'.later hb2).three
     obtain ⟨s0, s1, s2, s3, s4, s5⟩ := (R1'.later hb2).three
     go_simp
     refine hK.out _ _ trivial (fun hHeld => ?_)
     clear hK K hHeld
     try simp only [Act.put, nD, nE, nF]
     refine wpAnyH_ready (rs := [4]) (by kernel_rfl) (by simp) ?_
     refine AllReadyH.cons rfl (fun K hK => ?o9_4) AllReadyH.nil
     case o9_4 =>
      go_simp
      refine hK.out _ _ trivial (fun hHeld => ?_)
      clear hK K hHeld
      try simp only [Act.put, nD, nE, nF]
      refine wpAnyH_ready (rs := [5]) (by kernel_rfl) (by simp) ?_
      refine AllReadyH.cons rfl (fun K hK => ?o10_5) AllReadyH.nil
      case o10_5 =>
       go_simp
       refine hK.out _ _ trivial (fun hHeld => ?_)
       clear hK K hHeld
       try simp only [Act.put, nD, nE, nF]
       refine wpAnyH_done (by kernel_rfl) ?_ _
       refine NoPanic.normal ?_
       have hs1 := hb1d.size
       have hs2 := hb2.size
       obtain ⟨V, hV⟩ : ∃ V, (((((w2.setCell ⟨w.heap.size, 0, none⟩ (.bool m1)).setCell ⟨w.heap.size, 1, none⟩ (.slice a1 xs.length c1)).setCell ⟨w.heap.size, 2, none⟩ (.slice a2 ds.length c2)).setCell ⟨w.heap.size + 1, 0, none⟩ (.bool m2)).setCell ⟨w.heap.size + 1, 1, none⟩ (.slice a3 zs.length c3)).setCell ⟨w.heap.size + 1, 2, none⟩ (.slice a4 es.length c4) = V := ⟨_, rfl⟩
       have Z0 := (R0'.later hb2)
       have Z1 := (R1'.later hb2)
       have Z1' : Row (((w2.setCell ⟨w.heap.size, 0, none⟩ (.bool m1)).setCell ⟨w.heap.size, 1, none⟩ (.slice a1 xs.length c1)).setCell ⟨w.heap.size, 2, none⟩ (.slice a2 ds.length c2)) (w.heap.size + 1) 54 #[.bool n2, .slice e3 rs.length k3, .slice e4 ss.length k4] := ((Z1.far (by simp) _).far (by simp) _).far (by simp) _
       have P0 : Row V (w.heap.size) 54 #[.bool m1, .slice a1 xs.length c1, .slice a2 ds.length c2] := by rw [← hV]; exact (((Z0.set3 _ _ _).far (by simp) _).far (by simp) _).far (by simp) _
       have P1 : Row V (w.heap.size + 1) 54 #[.bool m2, .slice a3 zs.length c3, .slice a4 es.length c4] := by rw [← hV]; exact Z1'.set3 _ _ _
       have P2 : Row V (w.heap.size + 1 + 1) 54 #[.bool false, .slice none 0 0, .slice none 0 0] := by rw [← hV]; exact ((((((((R2.later hb1d).later hb2)).far (by simp <;> omega) _).far (by simp <;> omega) _).far (by simp <;> omega) _).far (by simp <;> omega) _).far (by simp <;> omega) _).far (by simp <;> omega) _
       have hsV : w2.heap.size ≤ V.heap.size := by rw [← hV]; simp
       have hB2 : Below w.heap.size w V := by rw [← hV]; exact below_set3 (below_set3 ((hBW.trans (hb1d.mono (by omega))).trans (hb2.mono (by omega))) (by omega) _ _ _) (by omega) _ _ _
       have AV : Arg V (.slice a1 xs.length c1) xs a1 c1 := by rw [← hV]; exact ((A.later hb2).far Z0 (noInts3 _ _ _ _ _ _ _) (kept3 _ _ _)).far Z1' (noInts3 _ _ _ _ _ _ _) (kept3 _ _ _)
       have BV : Arg V (.slice a2 ds.length c2) ds a2 c2 := by rw [← hV]; exact ((B.later hb2).far Z0 (noInts3 _ _ _ _ _ _ _) (kept3 _ _ _)).far Z1' (noInts3 _ _ _ _ _ _ _) (kept3 _ _ _)
       have CV : Arg V (.slice a3 zs.length c3) zs a3 c3 := by rw [← hV]; exact (C.far Z0 (noInts3 _ _ _ _ _ _ _) (kept3 _ _ _)).far Z1' (noInts3 _ _ _ _ _ _ _) (kept3 _ _ _)
       have DV : Arg V (.slice a4 es.length c4) es a4 c4 := by rw [← hV]; exact (D.far Z0 (noInts3 _ _ _ _ _ _ _) (kept3 _ _ _)).far Z1' (noInts3 _ _ _ _ _ _ _) (kept3 _ _ _)
       have hfin : ratOf m1 (val xs) (val ds) + ratOf m2 (val zs) (val es) = X + Y := by rw [hX, hY]
       have HF := Lib.hid hfin
       have mkS : ∀ X, Kept (w.heap.size + 1 + 1) V X → X.cell? ⟨w.heap.size, 0, none⟩ = some (.bool m1) ∧ X.cell? ⟨w.heap.size, 1, none⟩ = some (.slice a1 xs.length c1) ∧ X.cell? ⟨w.heap.size, 2, none⟩ = some (.slice a2 ds.length c2) ∧ X.cell? ⟨w.heap.size + 1, 0, none⟩ = some (.bool m2) ∧ X.cell? ⟨w.heap.size + 1, 1, none⟩ = some (.slice a3 zs.length c3) ∧ X.cell? ⟨w.heap.size + 1, 2, none⟩ = some (.slice a4 es.length c4) ∧ Kept (w.heap.size + 1 + 1) V X := fun X h => ⟨(P0.kept h (by omega)).cell 0, (P0.kept h (by omega)).cell 1, (P0.kept h (by omega)).cell 2, (P1.kept h (by omega)).cell 0, (P1.kept h (by omega)).cell 1, (P1.kept h (by omega)).cell 2, h⟩
       clear hfin hX hY Z0 Z1 Z1' A B C D R0 R1 R2 R0' R1' hu hv hu' hv' hb1 hb1d hb2 hBW p0 p1 p2 p3 p4 p5 o0 o1 o2 o3 o4 o5 t0 t1 t2 t3 t4 t5 s0 s1 s2 s3 s4 s5 i0 i1 i2
       go_wp2_with fail
       (try rw [hV])
       clear hV
       go_region_held3 (fun X => X.cell? ⟨w.heap.size, 0, none⟩ = some (.bool m1) ∧ X.cell? ⟨w.heap.size, 1, none⟩ = some (.slice a1 xs.length c1) ∧ X.cell? ⟨w.heap.size, 2, none⟩ = some (.slice a2 ds.length c2) ∧ X.cell? ⟨w.heap.size + 1, 0, none⟩ = some (.bool m2) ∧ X.cell? ⟨w.heap.size + 1, 1, none⟩ = some (.slice a3 zs.length c3) ∧ X.cell? ⟨w.heap.size + 1, 2, none⟩ = some (.slice a4 es.length c4) ∧ Kept (w.heap.size + 1 + 1) V X)
        (((refine mkS _ ?_; (repeat' (first | exact Kept.refl _ _ | refine Kept.drew ?_ | refine Kept.alloc ?_ _ | refine Kept.set ?_ _ _ | refine Kept.below ?_ (by assumption))))))
        ((first
          | (go_at_call 119; refine (joinedP_any (n := n + 2) (AV.later hb3d) (BV.later hb3d) (CV.later hb3d) (DV.later hb3d) (by omega) (by omega) (by omega) (by omega) (by omega) hB hD (h3.later (Below.refl _ _))).mono ?_; rintro e w4 ⟨r4, rfl, q4, hb4⟩; rw [HF.out] at q4; obtain ⟨ng, fs, gs, f1, f2, j1, j2, rfl⟩ := q4.arg.box; have P4 := P3.later hb4; obtain ⟨u0, u1, u2, g0, g1, g2⟩ := P4.three)
          | (go_at_call 120; refine (over_any (AV.later (Below.refl _ V).drew) (DV.later (Below.refl _ V).drew) (show xs.length ≤ n + 2 by omega) (by omega) (by omega)).mono ?_; rintro e w3 ⟨r3, rfl, h3, hb3⟩; have hb3d : Below V.heap.size V w3 := ⟨hb3.os, hb3.tape, hb3.output, hb3.size, hb3.block⟩; have P3 := P2.later hb3d)))
       have hs3 := hb3d.size
       have hs4 := hb4.size
       go_wp2_with fail
       refine bodyPost_ret (v := .agg #[.bool ng, .slice f1 fs.length j1, .slice f2 gs.length j2]) (by simp [results, Tryz.results75, go_sem, u0, u1, u2]) rfl ⟨_, rfl, ?_, ?_⟩
       · exact ((q4.far P4 (by decide) (kept3 _ _ _)).mono (by omega)).more (by omega)
       · exact below_set3 ((hB2.trans (hb3d.mono (by omega))).trans (hb4.mono (by omega))) (by omega) _ _ _
 case o1_2 =>
  go_simp
  refine hK.out _ _ trivial (fun hHeld => ?_)
  clear hK K hHeld
  try simp only [Act.put, nD, nE, nF]
  refine wpAnyH_ready (rs := [0]) (by kernel_rfl) (by simp) ?_
  refine AllReadyH.cons rfl (fun K hK => ?o11_0) AllReadyH.nil
  case o11_0 =>
   go_simp
   refine hK.out _ _ trivial (fun hHeld => ?_)
   clear hK K hHeld
   try simp only [Act.put, nD, nE, nF]
   refine wpAnyH_ready (rs := [1]) (by kernel_rfl) (by simp) ?_
   refine AllReadyH.cons rfl (fun K hK => ?o12_1) AllReadyH.nil
   case o12_1 =>
    go_simp
    (refine (plain_any hu' (by omega)).mono ?_)
    rintro e w1 ⟨r1, rfl, h1, hb1⟩
    have hb1d : Below W.heap.size W w1 := ⟨hb1.os, hb1.tape, hb1.output, hb1.size, hb1.block⟩
    obtain ⟨m1, xs, ds, a1, a2, c1, c2, rfl, A, B, hX, hx, hd, hB, _⟩ := h1
    have R0' := R0.later hb1d
    have R1' := R1.later hb1d
    obtain ⟨i0, i1, i2, _, _, _⟩ := R1'.three
    go_simp
    refine hK.out _ _ trivial (fun hHeld => ?_)
    clear hK K hHeld
    try simp only [Act.put, nD, nE, nF]
    refine wpAnyH_ready (rs := [3]) (by kernel_rfl) (by simp) ?_
    refine AllReadyH.cons rfl (fun K hK => ?o13_3) AllReadyH.nil
    case o13_3 =>
     go_simp
     (refine (plain_any (hv'.later (show Below W.heap.size W w1 from hb1d)) (by omega)).mono ?_)
     rintro e w2 ⟨r2, rfl, h2, hb2⟩
     obtain ⟨m2, zs, es, a3, a4, c3, c4, rfl, C, D, hY, hz, he, hD, _⟩ := h2
     obtain ⟨t0, t1, t2, t3, t4, t5⟩ := (R0'.later hb2).three
     obtain ⟨s0, s1, s2, s3, s4, s5⟩ := (R1'.later hb2).three
     go_simp
     refine hK.out _ _ trivial (fun hHeld => ?_)
     clear hK K hHeld
     try simp only [Act.put, nD, nE, nF]
     refine wpAnyH_ready (rs := [4]) (by kernel_rfl) (by simp) ?_
     refine AllReadyH.cons rfl (fun K hK => ?o14_4) AllReadyH.nil
     case o14_4 =>
      go_simp
      refine hK.out _ _ trivial (fun hHeld => ?_)
      clear hK K hHeld
      try simp only [Act.put, nD, nE, nF]
      refine wpAnyH_ready (rs := [5]) (by kernel_rfl) (by simp) ?_
      refine AllReadyH.cons rfl (fun K hK => ?o15_5) AllReadyH.nil
      case o15_5 =>
       go_simp
       refine hK.out _ _ trivial (fun hHeld => ?_)
       clear hK K hHeld
       try simp only [Act.put, nD, nE, nF]
       refine wpAnyH_done (by kernel_rfl) ?_ _
       refine NoPanic.normal ?_
       have hs1 := hb1d.size
       have hs2 := hb2.size
       obtain ⟨V, hV⟩ : ∃ V, (((((w2.setCell ⟨w.heap.size, 0, none⟩ (.bool m1)).setCell ⟨w.heap.size, 1, none⟩ (.slice a1 xs.length c1)).setCell ⟨w.heap.size, 2, none⟩ (.slice a2 ds.length c2)).setCell ⟨w.heap.size + 1, 0, none⟩ (.bool m2)).setCell ⟨w.heap.size + 1, 1, none⟩ (.slice a3 zs.length c3)).setCell ⟨w.heap.size + 1, 2, none⟩ (.slice a4 es.length c4) = V := ⟨_, rfl⟩
       have Z0 := (R0'.later hb2)
       have Z1 := (R1'.later hb2)
       have Z1' : Row (((w2.setCell ⟨w.heap.size, 0, none⟩ (.bool m1)).setCell ⟨w.heap.size, 1, none⟩ (.slice a1 xs.length c1)).setCell ⟨w.heap.size, 2, none⟩ (.slice a2 ds.length c2)) (w.heap.size + 1) 54 #[.bool n2, .slice e3 rs.length k3, .slice e4 ss.length k4] := ((Z1.far (by simp) _).far (by simp) _).far (by simp) _
       have P0 : Row V (w.heap.size) 54 #[.bool m1, .slice a1 xs.length c1, .slice a2 ds.length c2] := by rw [← hV]; exact (((Z0.set3 _ _ _).far (by simp) _).far (by simp) _).far (by simp) _
       have P1 : Row V (w.heap.size + 1) 54 #[.bool m2, .slice a3 zs.length c3, .slice a4 es.length c4] := by rw [← hV]; exact Z1'.set3 _ _ _
       have P2 : Row V (w.heap.size + 1 + 1) 54 #[.bool false, .slice none 0 0, .slice none 0 0] := by rw [← hV]; exact ((((((((R2.later hb1d).later hb2)).far (by simp <;> omega) _).far (by simp <;> omega) _).far (by simp <;> omega) _).far (by simp <;> omega) _).far (by simp <;> omega) _).far (by simp <;> omega) _
       have hsV : w2.heap.size ≤ V.heap.size := by rw [← hV]; simp
       have hB2 : Below w.heap.size w V := by rw [← hV]; exact below_set3 (below_set3 ((hBW.trans (hb1d.mono (by omega))).trans (hb2.mono (by omega))) (by omega) _ _ _) (by omega) _ _ _
       have AV : Arg V (.slice a1 xs.length c1) xs a1 c1 := by rw [← hV]; exact ((A.later hb2).far Z0 (noInts3 _ _ _ _ _ _ _) (kept3 _ _ _)).far Z1' (noInts3 _ _ _ _ _ _ _) (kept3 _ _ _)
       have BV : Arg V (.slice a2 ds.length c2) ds a2 c2 := by rw [← hV]; exact ((B.later hb2).far Z0 (noInts3 _ _ _ _ _ _ _) (kept3 _ _ _)).far Z1' (noInts3 _ _ _ _ _ _ _) (kept3 _ _ _)
       have CV : Arg V (.slice a3 zs.length c3) zs a3 c3 := by rw [← hV]; exact (C.far Z0 (noInts3 _ _ _ _ _ _ _) (kept3 _ _ _)).far Z1' (noInts3 _ _ _ _ _ _ _) (kept3 _ _ _)
       have DV : Arg V (.slice a4 es.length c4) es a4 c4 := by rw [← hV]; exact (D.far Z0 (noInts3 _ _ _ _ _ _ _) (kept3 _ _ _)).far Z1' (noInts3 _ _ _ _ _ _ _) (kept3 _ _ _)
       have hfin : ratOf m1 (val xs) (val ds) + ratOf m2 (val zs) (val es) = X + Y := by rw [hX, hY]
       have HF := Lib.hid hfin
       have mkS : ∀ X, Kept (w.heap.size + 1 + 1) V X → X.cell? ⟨w.heap.size, 0, none⟩ = some (.bool m1) ∧ X.cell? ⟨w.heap.size, 1, none⟩ = some (.slice a1 xs.length c1) ∧ X.cell? ⟨w.heap.size, 2, none⟩ = some (.slice a2 ds.length c2) ∧ X.cell? ⟨w.heap.size + 1, 0, none⟩ = some (.bool m2) ∧ X.cell? ⟨w.heap.size + 1, 1, none⟩ = some (.slice a3 zs.length c3) ∧ X.cell? ⟨w.heap.size + 1, 2, none⟩ = some (.slice a4 es.length c4) ∧ Kept (w.heap.size + 1 + 1) V X := fun X h => ⟨(P0.kept h (by omega)).cell 0, (P0.kept h (by omega)).cell 1, (P0.kept h (by omega)).cell 2, (P1.kept h (by omega)).cell 0, (P1.kept h (by omega)).cell 1, (P1.kept h (by omega)).cell 2, h⟩
       clear hfin hX hY Z0 Z1 Z1' A B C D R0 R1 R2 R0' R1' hu hv hu' hv' hb1 hb1d hb2 hBW p0 p1 p2 p3 p4 p5 o0 o1 o2 o3 o4 o5 t0 t1 t2 t3 t4 t5 s0 s1 s2 s3 s4 s5 i0 i1 i2
       go_wp2_with fail
       (try rw [hV])
       clear hV
       go_region_held3 (fun X => X.cell? ⟨w.heap.size, 0, none⟩ = some (.bool m1) ∧ X.cell? ⟨w.heap.size, 1, none⟩ = some (.slice a1 xs.length c1) ∧ X.cell? ⟨w.heap.size, 2, none⟩ = some (.slice a2 ds.length c2) ∧ X.cell? ⟨w.heap.size + 1, 0, none⟩ = some (.bool m2) ∧ X.cell? ⟨w.heap.size + 1, 1, none⟩ = some (.slice a3 zs.length c3) ∧ X.cell? ⟨w.heap.size + 1, 2, none⟩ = some (.slice a4 es.length c4) ∧ Kept (w.heap.size + 1 + 1) V X)
        (((refine mkS _ ?_; (repeat' (first | exact Kept.refl _ _ | refine Kept.drew ?_ | refine Kept.alloc ?_ _ | refine Kept.set ?_ _ _ | refine Kept.below ?_ (by assumption))))))
        ((first
          | (go_at_call 119; refine (joinedP_any (n := n + 2) (AV.later hb3d) (BV.later hb3d) (CV.later hb3d) (DV.later hb3d) (by omega) (by omega) (by omega) (by omega) (by omega) hB hD (h3.later (Below.refl _ _))).mono ?_; rintro e w4 ⟨r4, rfl, q4, hb4⟩; rw [HF.out] at q4; obtain ⟨ng, fs, gs, f1, f2, j1, j2, rfl⟩ := q4.arg.box; have P4 := P3.later hb4; obtain ⟨u0, u1, u2, g0, g1, g2⟩ := P4.three)
          | (go_at_call 120; refine (over_any (AV.later (Below.refl _ V).drew) (DV.later (Below.refl _ V).drew) (show xs.length ≤ n + 2 by omega) (by omega) (by omega)).mono ?_; rintro e w3 ⟨r3, rfl, h3, hb3⟩; have hb3d : Below V.heap.size V w3 := ⟨hb3.os, hb3.tape, hb3.output, hb3.size, hb3.block⟩; have P3 := P2.later hb3d)))
       have hs3 := hb3d.size
       have hs4 := hb4.size
       go_wp2_with fail
       refine bodyPost_ret (v := .agg #[.bool ng, .slice f1 fs.length j1, .slice f2 gs.length j2]) (by simp [results, Tryz.results75, go_sem, u0, u1, u2]) rfl ⟨_, rfl, ?_, ?_⟩
       · exact ((q4.far P4 (by decide) (kept3 _ _ _)).mono (by omega)).more (by omega)
       · exact below_set3 ((hB2.trans (hb3d.mono (by omega))).trans (hb4.mono (by omega))) (by omega) _ _ _
end
section
open Go.RowKit
theorem ArgR.box {w : World} {v : Value} {x : Rat} {n : Nat} (h : ArgR w v x n) : ∃ (m : Bool) (zs ys : List Int) (ad bd : Option Addr) (ca cb : Nat), v = .agg #[.bool m, .slice ad zs.length ca, .slice bd ys.length cb] := by
 obtain ⟨zs, ys, ad, bd, ca, cb, rfl, _⟩ := h
 exact ⟨_, zs, ys, ad, bd, ca, cb, rfl⟩
end
section
open Go.RowKit
theorem canonical_false {u : Value} {xs : List Int} {a : Option Addr} {capa : Nat} {w : World} (h1 : Arg w u xs a capa) (hx : xs.length ≤ 70368744177664) (hf : ¬ trimN xs xs.length = xs.length) :
 Calls Tryz.prog 152 #[u] w fun e w' => e = .returned (.bool false) ∧ w = w' := by
 obtain ⟨rfl, lx, _, _⟩ := h1
 have hpos : 0 < xs.length := by
  rcases Nat.eq_zero_or_pos xs.length with h | h
  · exact absurd (by rw [h]; rfl) hf
  · exact h
 obtain ⟨m, hm⟩ : ∃ m, xs.length = m + 1 := ⟨xs.length - 1, by omega⟩
 have hz : xs.getD m 0 = 0 := by
  by_cases h : xs.getD m 0 = 0
  · exact h
  · exfalso
    apply hf
    rw [hm]
    show (if xs.getD m 0 = 0 then trimN xs m else m + 1) = m + 1
    rw [if_neg h]
 rcases lx with rfl | ⟨b, off, rfl, hc⟩
 · simp at hpos
 have hj := hc m (by omega)
 rw [hz] at hj
 rw [hm] at hx
 rw [hm]
 have h2 : ((m : Int) + 1 == 0) = false := by simp; omega
 clear hc hz hf hpos hm
 go_enter Tryz.func152, Tryz.ntmps152
 go_wp2
 go_ret
 exact ⟨rfl, rfl⟩
def isB (zs : List Int) (N : Int) : Bool := decide (trimN zs zs.length = zs.length ∧ val zs = N)
theorem sign_zero {a b : Int} (h : sign a b = 0) : a = b := by unfold sign at h; split at h <;> (try split at h) <;> omega
theorem is_dec {u v : Value} {ds zs : List Int} {a b : Option Addr} {capa capb : Nat} {w : World} (h1 : ArgD w u ds a capa) (h2 : Arg w v zs b capb) (hx : ds.length ≤ 68719476736) (hy : zs.length ≤ 134217728) :
 Calls Tryz.prog 124 #[u, v] w fun e w' => e = .returned (.bool (isB zs (valD ds))) ∧ Below w.heap.size w w' := by
 by_cases hf : trimN zs zs.length = zs.length
 · by_cases hv : val zs = valD ds
   · have e1 : isB zs (valD ds) = true := decide_eq_true ⟨hf, hv⟩
     rw [e1]
     exact is_true h1 h2 hx hy hf hv.symm
   · have e1 : isB zs (valD ds) = false := decide_eq_false (fun h => hv h.2)
     rw [e1]
     have hne : (sign (val zs) (valD ds) == 0) = false := by simp; exact fun h => hv (sign_zero h)
     go_enter Tryz.func124, Tryz.ntmps124
     go_wp2_with fail
     refine (canonical_true h2 (by omega) hf).mono ?_
     rintro e w' ⟨rfl, rfl⟩
     have HF := Lib.hid hf
     clear hf e1
     go_wp2_with fail
     refine (of_any h2 hy).mono ?_
     rintro e w1 ⟨r, rfl, qs, hq, hl, hb⟩
     obtain ⟨ad, cap, A⟩ := hq.arg
     have h1' := h1.later hb
     have hc := cmpD_any A h1' (by omega) hx
     rw [hq.eq] at hc
     obtain ⟨s, hs⟩ : ∃ s, sign (val zs) (valD ds) = s := ⟨_, rfl⟩
     rw [hs] at hc hne
     clear hs hv
     go_wp2_with fail
     refine hc.mono ?_
     rintro e w2 ⟨rfl, hb2⟩
     clear hc
     go_wp2_with fail
     go_ret
     exact ⟨rfl, hb.trans (hb2.mono hb.size)⟩
 · have e1 : isB zs (valD ds) = false := decide_eq_false (fun h => hf h.1)
   rw [e1]
   go_enter Tryz.func124, Tryz.ntmps124
   go_wp2_with fail
   refine (canonical_false h2 (by omega) hf).mono ?_
   rintro e w' ⟨rfl, rfl⟩
   clear hf e1
   go_wp2_with fail
   go_ret
   exact ⟨rfl, Below.refl _ _⟩
def validB (m : Bool) (xs ys : List Int) (X : Rat) : Bool := (m == decide (X.num < 0)) && (isB xs (X.num.natAbs : Int) && isB ys (X.den : Int))
theorem isR_dec {n : Nat} {w : World} {u : Value} {X : Rat} {m2 : Bool} {zs es : List Int} {a3 a4 : Option Addr} {c3 c4 : Nat} (hu : ArgR w u X n) (C : Arg w (.slice a3 zs.length c3) zs a3 c3) (D : Arg w (.slice a4 es.length c4) es a4 c4)
 (hn : n ≤ 1000000000) (hz : zs.length ≤ 134217728) (he : es.length ≤ 134217728) :
 Calls Tryz.prog 82 #[u, .agg #[.bool m2, .slice a3 zs.length c3, .slice a4 es.length c4]] w fun e w' => e = .returned (.bool (validB m2 zs es X)) ∧ Below w.heap.size w w' := by
 obtain ⟨xs, ds, a1, a2, c1, c2, rfl, A, B, hX1, hX2, hx, hd⟩ := hu
 obtain ⟨m1, hm1⟩ : ∃ m, decide (X.num < 0) = m := ⟨_, rfl⟩
 have hv : validB m2 zs es X = ((m2 == m1) && (isB zs (valD xs) && isB es (valD ds))) := by unfold validB; rw [hm1, hX1, hX2]
 rw [hm1, hv]
 clear hm1 hv hX1 hX2
 obtain ⟨W, hW⟩ : ∃ W, ((w.alloc (.cells #[.bool m1, .slice a1 xs.length c1, .slice a2 ds.length c2] 58)).alloc (.cells #[.bool m2, .slice a3 zs.length c3, .slice a4 es.length c4] 54)) = W := ⟨_, rfl⟩
 have R0 : Row W (w.heap.size) 58 #[.bool m1, .slice a1 xs.length c1, .slice a2 ds.length c2] := by rw [← hW]; exact ((Row.new _ _ _).alloc _)
 have R1 : Row W (w.heap.size + 1) 54 #[.bool m2, .slice a3 zs.length c3, .slice a4 es.length c4] := by rw [← hW]; have h := (Row.new (w.alloc (.cells #[.bool m1, .slice a1 xs.length c1, .slice a2 ds.length c2] 58)) 54 #[.bool m2, .slice a3 zs.length c3, .slice a4 es.length c4]); simp only [World.size_alloc] at h; exact h
 have hBW : Below w.heap.size w W := by rw [← hW]; exact (((Below.refl _ _).alloc (by (try simp) <;> omega) _).alloc (by (try simp) <;> omega) _)
 have hsW : w.heap.size + 1 + 1 ≤ W.heap.size := by rw [← hW]; simp
 have i1 := is_dec (A.later hBW) (C.later hBW) (by omega) hz
 have D1 := D.later hBW
 have B1 := B.later hBW
 obtain ⟨p0, p1, p2, _, _, _⟩ := R0.three
 obtain ⟨o0, o1, o2, _, _, _⟩ := R1.three
 obtain ⟨b1, hb1⟩ : ∃ b, isB zs (valD xs) = b := ⟨_, rfl⟩
 obtain ⟨b2, hb2⟩ : ∃ b, isB es (valD ds) = b := ⟨_, rfl⟩
 rw [hb1] at i1
 rw [hb1, hb2]
 have HB2 := Lib.hid hb2
 clear hb1 hb2
 obtain ⟨b0, hb0⟩ : ∃ b, (m2 == m1) = b := ⟨_, rfl⟩
 rw [hb0]
 cases b0 with
 | false =>
   go_enter Tryz.func82, Tryz.ntmps82
   go_wp2_with fail
   go_ret
   exact ⟨rfl, hBW⟩
 | true =>
   cases b1 with
   | false =>
     go_enter Tryz.func82, Tryz.ntmps82
     go_wp2_with fail
     refine i1.mono ?_
     rintro e w1 ⟨rfl, hb1⟩
     have hs1 := hb1.size
     clear i1
     go_wp2_with fail
     go_ret
     exact ⟨rfl, hBW.trans (hb1.mono (by omega))⟩
   | true =>
     go_enter Tryz.func82, Tryz.ntmps82
     go_wp2_with fail
     refine i1.mono ?_
     rintro e w1 ⟨rfl, hb1⟩
     have hs1 := hb1.size
     have i2 := is_dec (B1.later hb1) (D1.later hb1) (by omega) he
     rw [HB2.out] at i2
     clear i1 p0 p1 p2 o0 o1 o2
     obtain ⟨p0, p1, p2, _, _, _⟩ := (R0.later hb1).three
     obtain ⟨o0, o1, o2, _, _, _⟩ := (R1.later hb1).three
     go_wp2_with fail
     refine i2.mono ?_
     rintro e w2 ⟨rfl, hb2⟩
     clear i2
     go_wp2_with fail
     go_ret
     exact ⟨by cases b2 <;> rfl, (hBW.trans (hb1.mono (by omega))).trans (hb2.mono (by omega))⟩
theorem mayR_any {n : Nat} {w : World} {m1 : Bool} {xs ds : List Int} {a1 a2 : Option Addr} {c1 c2 : Nat} (A : Arg w (.slice a1 xs.length c1) xs a1 c1) (B : Arg w (.slice a2 ds.length c2) ds a2 c2)
 (hx : xs.length ≤ n) (hd : ds.length ≤ n) (hn : n ≤ 134217728) :
 Calls Tryz.prog 48 #[.agg #[.bool m1, .slice a1 xs.length c1, .slice a2 ds.length c2]] w fun e w' => e = .returned (.int .i64 (if validB m1 xs ds (ratOf m1 (val xs) (val ds)) = true then 0 else 6)) ∧ Below w.heap.size w w' := by
 obtain ⟨X, hX⟩ : ∃ X, ratOf m1 (val xs) (val ds) = X := ⟨_, rfl⟩
 have hq : ArgQ w (.agg #[.bool m1, .slice a1 xs.length c1, .slice a2 ds.length c2]) X n := ⟨m1, xs, ds, a1, a2, c1, c2, rfl, A, B, hX, hx, hd⟩
 rw [hX]
 clear hX
 obtain ⟨W, hW⟩ : ∃ W, (w.alloc (.cells #[.bool m1, .slice a1 xs.length c1, .slice a2 ds.length c2] 54)) = W := ⟨_, rfl⟩
 have R0 : Row W (w.heap.size) 54 #[.bool m1, .slice a1 xs.length c1, .slice a2 ds.length c2] := by rw [← hW]; exact (Row.new _ _ _)
 have hBW : Below w.heap.size w W := by rw [← hW]; exact ((Below.refl _ _).alloc (by (try simp) <;> omega) _)
 have hsW : w.heap.size + 1 ≤ W.heap.size := by rw [← hW]; simp
 obtain ⟨p0, p1, p2, _, _, _⟩ := R0.three
 have hq' := hq.later hBW
 obtain ⟨b, hb⟩ : ∃ b, validB m1 xs ds X = b := ⟨_, rfl⟩
 have HB := Lib.hid hb
 rw [hb]
 clear hb hq
 go_enter Tryz.func48, Tryz.ntmps48
 go_wp2_with fail
 refine (ofR_any hq' hn).mono ?_
 rintro e w1 ⟨r1, rfl, h1, hb1⟩
 have hs1 := hb1.size
 obtain ⟨m4, fs, gs, f1, f2, j1, j2, rfl⟩ := h1.box
 clear p0 p1 p2 hW
 have Q0 := R0.later hb1
 obtain ⟨U, hU⟩ : ∃ U, w1.alloc (.cells #[.bool m4, .slice f1 fs.length j1, .slice f2 gs.length j2] 58) = U := ⟨_, rfl⟩
 have hBU : Below w1.heap.size w1 U := by rw [← hU]; exact (Below.refl _ _).alloc (Nat.le_refl _) _
 have R5 : Row U w1.heap.size 58 #[.bool m4, .slice f1 fs.length j1, .slice f2 gs.length j2] := by rw [← hU]; exact Row.new _ _ _
 have hsU : w1.heap.size + 1 ≤ U.heap.size := by rw [← hU]; simp
 have k := isR_dec (m2 := m1) (h1.later hBU) (((A.later hBW).later hb1).later hBU) (((B.later hBW).later hb1).later hBU) (by omega) (by omega) (by omega)
 rw [HB.out] at k
 obtain ⟨p0, p1, p2, _, _, _⟩ := Q0.three
 obtain ⟨q0, q1, q2, _, _, _⟩ := (Q0.later hBU).three
 obtain ⟨o0, o1, o2, _, _, _⟩ := R5.three
 have hB2 : Below w.heap.size w U := (hBW.trans (hb1.mono (by omega))).trans (hBU.mono (by omega))
 cases b with
 | true =>
   go_wp2_with fail
   (try rw [hU])
   refine k.mono ?_
   rintro e w2 ⟨rfl, hb2⟩
   clear k hU
   go_wp2_with fail
   go_ret
   exact ⟨rfl, hB2.trans (hb2.mono (by omega))⟩
 | false =>
   go_wp2_with fail
   (try rw [hU])
   refine k.mono ?_
   rintro e w2 ⟨rfl, hb2⟩
   clear k hU
   go_wp2_with fail
   go_ret
   exact ⟨rfl, hB2.trans (hb2.mono (by omega))⟩
end
section
open Go.RowKit
theorem eqS_any {w : World} {xs ys : List Int} {a b : Option Addr} {c d : Nat} (A : Arg w (.slice a xs.length c) xs a c) (B : Arg w (.slice b ys.length d) ys b d) (hx : xs.length ≤ 70368744177664) (hy : ys.length ≤ 70368744177664) :
 Calls Tryz.prog 108 #[.slice a xs.length c, .slice b ys.length d] w fun e w' => e = .returned (.bool (decide (xs = ys))) ∧ Below w.heap.size w w' := by
 by_cases hl : xs.length = ys.length
 case neg =>
  have hne : decide (xs = ys) = false := decide_eq_false (fun h => hl (by rw [h]))
  have hn1 : ((xs.length : Int) != (ys.length : Int)) = true := by simp; omega
  rw [hne]
  clear hl hne
  go_enter Tryz.func108, Tryz.ntmps108
  go_wp2_with fail
  go_ret
  exact ⟨rfl, Below.refl _ _⟩
 obtain ⟨m, hm⟩ : ∃ m, xs.length = m := ⟨_, rfl⟩
 have hm2 : ys.length = m := by omega
 have la := A.lim
 have lb := B.lim
 have hext : (∀ j, j < m → xs.getD j 0 = ys.getD j 0) → xs = ys := by
  intro h
  apply List.ext_getElem (by omega)
  intro i h1 h2
  have := h i (by omega)
  simpa [h1, h2] using this
 have HX := Lib.hid hext
 have hmm : ((m : Int) != (m : Int)) = false := by simp
 have HL1 := Lib.hid hm
 have HL2 := Lib.hid hm2
 rw [hm] at hx ⊢
 rw [hm2]
 clear hl hm hm2 hext A B hy
 go_enter Tryz.func108, Tryz.ntmps108
 go_wp2_with fail
 go_loopw [5, 13] (fun _ i wr => ∃ k : Nat, i = .int .i64 k ∧ k ≤ m ∧ (∀ j, j < k → xs.getD j 0 = ys.getD j 0) ∧ Below w.heap.size w wr) (fun _ i _ => m - (intOf i).toNat)
 case atStart => exact ⟨0, rfl, Nat.zero_le _, fun j hj => by omega, Below.refl _ _⟩
 case round =>
  obtain ⟨k, rfl, hk, hall, hb⟩ := hrel
  have HA := Lib.hid hall
  clear hall
  by_cases hlt : k < m
  · have HK := Lib.hid hlt
    obtain ⟨p, o, rfl, c1⟩ : ∃ p o, a = some ⟨p, o, none⟩ ∧ wr.cell? ⟨p, o + k, none⟩ = some (.int .u32 (xs.getD k 0)) := by
     rcases la.later hb with e | ⟨p, o, e, hc⟩
     · rw [e] at HL1; have := HL1.out; simp at this; omega
     · exact ⟨p, o, e, hc k (by rw [HL1.out]; exact hlt)⟩
    obtain ⟨p2, o2, rfl, c2⟩ : ∃ p o, b = some ⟨p, o, none⟩ ∧ wr.cell? ⟨p, o + k, none⟩ = some (.int .u32 (ys.getD k 0)) := by
     rcases lb.later hb with e | ⟨p, o, e, hc⟩
     · rw [e] at HL2; have := HL2.out; simp at this; omega
     · exact ⟨p, o, e, hc k (by rw [HL2.out]; exact hlt)⟩
    obtain ⟨x, hxk⟩ : ∃ x, xs.getD k 0 = x := ⟨_, rfl⟩
    obtain ⟨y, hyk⟩ : ∃ y, ys.getD k 0 = y := ⟨_, rfl⟩
    rw [hxk] at c1
    rw [hyk] at c2
    have HXK := Lib.hid hxk
    have HYK := Lib.hid hyk
    have hk0 : (0 : Int) ≤ (k : Int) := Int.natCast_nonneg _
    have hk1 : (k : Int) < (m : Int) := by omega
    clear hxk hyk la lb
    by_cases e : x = y
    · have hne : (x != y) = false := by simp [e]
      have fin : ∃ j : Nat, Value.int .i64 ((k : Int) + 1) = .int .i64 j ∧ j ≤ m ∧ (∀ i, i < j → xs.getD i 0 = ys.getD i 0) :=
       ⟨k + 1, by go_num, HK.out, fun i hi => by
        by_cases h : i = k
        · subst h; rw [HXK.out, HYK.out]; exact e
        · exact HA.out i (by omega)⟩
      have FIN := Lib.hid fin
      clear fin e
      go_wp2_with fail
      go_quiet (fail)
      go_wp2_with fail
      go_roundw
      case rel =>
       obtain ⟨j, h1, h2, h3⟩ := FIN.out
       exact ⟨j, h1, h2, h3, ⟨hb.os, hb.tape, hb.output, hb.size, hb.block⟩⟩
      case measure => have := HK.out; simp [intOf]; omega
    · have hne : (x != y) = true := by simp [e]
      have hd : decide (xs = ys) = false := decide_eq_false (fun h => e (by rw [← HXK.out, ← HYK.out, h]))
      have HD := Lib.hid hd
      clear e hd
      go_wp2_with fail
      go_quiet (fail)
      go_wp2_with fail
      go_ret
      exact ⟨by rw [HD.out]; rfl, ⟨hb.os, hb.tape, hb.output, hb.size, hb.block⟩⟩
  · obtain rfl : k = m := by omega
    have hd : decide (xs = ys) = true := decide_eq_true (HX.out HA.out)
    have HD := Lib.hid hd
    clear hd
    go_wp2_with fail
    go_ret
    exact ⟨by rw [HD.out]; rfl, hb⟩
def mayCode (b : Bool) : Int := if b = true then 0 else 6
theorem eq_isB {base : Nat} {w : World} {u : Value} {xs zs : List Int} {N : Int} (hx : Wf xs) (h : Res base w u zs N) : decide (xs = zs) = isB xs N := by
 unfold isB
 by_cases e : xs = zs
 · rw [decide_eq_true e, e]
   exact (decide_eq_true ⟨h.full, h.eq⟩).symm
 · rw [decide_eq_false e]
   exact (decide_eq_false (fun k => e (canon hx h.wf k.1 h.full (k.2.trans h.eq.symm)))).symm
theorem mayQ_any {n : Nat} {w : World} {m1 : Bool} {xs ds : List Int} {a1 a2 : Option Addr} {c1 c2 : Nat} (A : Arg w (.slice a1 xs.length c1) xs a1 c1) (B : Arg w (.slice a2 ds.length c2) ds a2 c2)
 (hx : xs.length ≤ n) (hd : ds.length ≤ n) (hn : n ≤ 16777000) :
 Calls Tryz.prog 69 #[.agg #[.bool m1, .slice a1 xs.length c1, .slice a2 ds.length c2]] w fun e w' => e = .returned (.int .i64 (mayCode (validB m1 xs ds (ratOf m1 (val xs) (val ds))))) ∧ Below w.heap.size w w' := by
 obtain ⟨X, hX⟩ : ∃ X, ratOf m1 (val xs) (val ds) = X := ⟨_, rfl⟩
 have hq : ArgQ w (.agg #[.bool m1, .slice a1 xs.length c1, .slice a2 ds.length c2]) X n := ⟨m1, xs, ds, a1, a2, c1, c2, rfl, A, B, hX, hx, hd⟩
 rw [hX]
 clear hX
 obtain ⟨vb, hvb⟩ : ∃ b, validB m1 xs ds X = b := ⟨_, rfl⟩
 rw [hvb]
 have HVB := Lib.hid hvb
 clear hvb
 obtain ⟨W, hW⟩ : ∃ W, (w.alloc (.cells #[.bool m1, .slice a1 xs.length c1, .slice a2 ds.length c2] 54)) = W := ⟨_, rfl⟩
 have R0 : Row W (w.heap.size) 54 #[.bool m1, .slice a1 xs.length c1, .slice a2 ds.length c2] := by rw [← hW]; exact (Row.new _ _ _)
 have hBW : Below w.heap.size w W := by rw [← hW]; exact ((Below.refl _ _).alloc (by (try simp) <;> omega) _)
 have hsW : w.heap.size + 1 ≤ W.heap.size := by rw [← hW]; simp
 obtain ⟨p0, p1, p2, _, _, _⟩ := R0.three
 have hq' := hq.later hBW
 have AW := A.later hBW
 have BW := B.later hBW
 go_enter Tryz.func69, Tryz.ntmps69
 go_wp2_with fail
 refine (norm_any hq' (by omega)).mono ?_
 rintro e w1 ⟨r1, rfl, h1, hb1⟩
 have hs1 := hb1.size
 obtain ⟨fs, gs, f1, f2, j1, j2, rfl, Rf, Rg, lf, lg⟩ := h1
 obtain ⟨m4, hm4⟩ : ∃ m, decide (X.num < 0) = m := ⟨_, rfl⟩
 have hv : vb = ((m1 == m4) && (decide (xs = fs) && decide (ds = gs))) := by rw [← HVB.out, eq_isB A.wf Rf, eq_isB B.wf Rg]; unfold validB; rw [hm4]
 rw [hm4]
 have HV0 := Lib.hid hv
 have Cf := Rf.at_.2
 have Cg := Rg.at_.2
 clear p0 p1 p2 hW hq hq' hv hm4 Rf Rg A B
 have Q0 := R0.later hb1
 obtain ⟨U, hU⟩ : ∃ U, w1.alloc (.cells #[.bool m4, .slice f1 fs.length j1, .slice f2 gs.length j2] 54) = U := ⟨_, rfl⟩
 have hBU : Below w1.heap.size w1 U := by rw [← hU]; exact (Below.refl _ _).alloc (Nat.le_refl _) _
 have R5 : Row U w1.heap.size 54 #[.bool m4, .slice f1 fs.length j1, .slice f2 gs.length j2] := by rw [← hU]; exact Row.new _ _ _
 have hsU : w1.heap.size + 1 ≤ U.heap.size := by rw [← hU]; simp
 have AU := (AW.later hb1).later hBU
 have BU := (BW.later hb1).later hBU
 have CfU := Cf.later hBU
 have CgU := Cg.later hBU
 have k1 := eqS_any AU CfU (by omega) (by omega)
 obtain ⟨b1, hb1'⟩ : ∃ b, decide (xs = fs) = b := ⟨_, rfl⟩
 obtain ⟨b2, hb2'⟩ : ∃ b, decide (ds = gs) = b := ⟨_, rfl⟩
 rw [hb1'] at k1
 have hv1 := HV0.out
 rw [hb1', hb2'] at hv1
 have HB2 := Lib.hid hb2'
 clear hb1' hb2' HV0
 obtain ⟨p0, p1, p2, _, _, _⟩ := Q0.three
 obtain ⟨q0, q1, q2, _, _, _⟩ := (Q0.later hBU).three
 obtain ⟨o0, o1, o2, _, _, _⟩ := R5.three
 have hB2 : Below w.heap.size w U := (hBW.trans (hb1.mono (by omega))).trans (hBU.mono (by omega))
 obtain ⟨b0, hb0⟩ : ∃ b, (m1 == m4) = b := ⟨_, rfl⟩
 rw [hb0] at hv1
 have hb1' : (m1 != m4) = !b0 := by rw [← hb0]; cases m1 <;> cases m4 <;> rfl
 have HV := Lib.hid hv1
 clear hv1
 cases b0 with
 | false =>
   have e0 : (m1 != m4) = true := hb1'
   clear hb1'
   go_wp2_with fail
   go_ret
   exact ⟨by rw [HV.out]; rfl, by first | exact hB2 | (rw [hU]; exact hB2)⟩
 | true =>
   have e0 : (m1 != m4) = false := hb1'
   clear hb1'
   cases b1 with
   | false =>
     go_wp2_with fail
     (try rw [hU])
     refine k1.mono ?_
     rintro e w2 ⟨rfl, hb2⟩
     clear k1
     go_wp2_with fail
     go_ret
     exact ⟨by rw [HV.out]; rfl, hB2.trans (hb2.mono (by omega))⟩
   | true =>
     go_wp2_with fail
     (try rw [hU])
     refine k1.mono ?_
     rintro e w2 ⟨rfl, hb2⟩
     have hs2 := hb2.size
     have k2 := eqS_any (BU.later hb2) (CgU.later hb2) (by omega) (by omega)
     rw [HB2.out] at k2
     clear k1 p0 p1 p2 q0 q1 q2 o0 o1 o2 hU
     obtain ⟨q0, q1, q2, _, _, _⟩ := ((Q0.later hBU).later hb2).three
     obtain ⟨o0, o1, o2, _, _, _⟩ := (R5.later hb2).three
     go_wp2_with fail
     refine k2.mono ?_
     rintro e w3 ⟨rfl, hb3⟩
     clear k2
     cases b2 with
     | true =>
       go_wp2_with fail
       go_ret
       exact ⟨by rw [HV.out]; rfl, (hB2.trans (hb2.mono (by omega))).trans (hb3.mono (by omega))⟩
     | false =>
       go_wp2_with fail
       go_ret
       exact ⟨by rw [HV.out]; rfl, (hB2.trans (hb2.mono (by omega))).trans (hb3.mono (by omega))⟩
end
end Go.Proofs.YtengpgodmbfmkaaGreat
