/-
  Part 3 of 4: contracts and what they rest on (QRefC, RTwo, RVar, SMem, TRat, DSame, TCode8, TReg, PTwo, PTwoB, PKit, FLaw, FMats, FMatx, FWAssoc).
-/
import Derived.Test.YtengpgodmbfmkaaGreatAa1
import Derived.Test.YtengpgodmbfmkaaGreatAa2
namespace Go.Proofs.YtengpgodmbfmkaaGreat
set_option linter.unusedVariables false
set_option linter.unusedSimpArgs false
set_option maxRecDepth 100000
set_option maxHeartbeats 40000000
section
open Go.RowKit
theorem posD {ds : List Int} {a : Option Addr} {cap : Nat} {w : World} {u : Value} (h : ArgD w u ds a cap) (hl : 0 < ds.length) : 0 < valD ds := by
 have h1 := full_geD h.wf h.full (ds.length - 1) (by omega)
 have h2 := pow_posD (ds.length - 1)
 omega
theorem gcdD_any {u v : Value} {xs ys : List Int} {a b : Option Addr} {capa capb : Nat} {w : World} (h1 : ArgD w u xs a capa) (h2 : ArgD w v ys b capb) (hx : xs.length ≤ 8589934592) (hy : ys.length ≤ 8589934592) :
 Calls Tryz.prog 110 #[u, v] w fun e w' => ∃ r, e = .returned r ∧ ∃ zs ad cap, ArgD w' r zs ad cap ∧ valD zs = (Int.gcd (valD xs) (valD ys) : Int) ∧ zs.length ≤ max xs.length ys.length ∧ Below w.heap.size w w' := by
 obtain ⟨m, hm⟩ : ∃ m, max xs.length ys.length = m := ⟨_, rfl⟩
 have hm2 : m ≤ 8589934592 := by omega
 have hmx : xs.length ≤ m := by omega
 have hmy : ys.length ≤ m := by omega
 rw [hm]
 clear hm hx hy
 go_enter Tryz.func110, Tryz.ntmps110
 go_wp2
 go_loopw [0, 1, 5, 6] (fun p q _ _ wr => ∃ (p' q' : Value) (us vs : List Int) (ad bd : Option Addr) (cp cq : Nat), p' = p ∧ q' = q ∧ ArgD wr p' us ad cp ∧ ArgD wr q' vs bd cq ∧ us.length ≤ m ∧ vs.length ≤ m ∧ Int.gcd (valD us) (valD vs) = Int.gcd (valD xs) (valD ys) ∧ Below w.heap.size w wr) (fun _ q _ _ wr => leftD wr q)
 case atStart => exact ⟨u, v, xs, ys, a, b, capa, capb, rfl, rfl, h1, h2, hmx, hmy, rfl, Below.refl _ _⟩
 case round =>
  obtain ⟨p, q, us, vs, ad, bd, cp, cq, rfl, rfl, A1, A2, hu, hv, hg, hb⟩ := hrel
  have hsz := hb.size
  have HG := Lib.hid hg
  clear hg
  have hq := A2.is
  by_cases hgo : 0 < vs.length
  · have hgo2 : (0 : Int) < (vs.length : Int) := by omega
    have hpos := posD A2 hgo
    have hleft := A2.left
    subst hq
    go_wp2_with fail
    refine (divD_any A1 A2 (by omega) (by omega) hpos).mono ?_
    rintro e w2 ⟨r2, s2, rfl, hb2, _, ⟨z2, q2, n2⟩⟩
    obtain ⟨ad2, cap2, A3⟩ := q2.arg
    have A2' := A2.later hb2
    have hB2 := hb.trans (hb2.mono hsz)
    have hl2 := A3.left
    have hr1 := Int.emod_lt_of_pos (valD us) hpos
    have hr2 := Int.emod_nonneg (valD us) (show valD vs ≠ 0 by omega)
    have hm3 : leftD w2 s2 < leftD wr (.slice bd vs.length cq) := by rw [hleft, hl2, q2.eq]; omega
    have hg3 : Int.gcd (valD vs) (valD z2) = Int.gcd (valD xs) (valD ys) := by rw [q2.eq, gcd_step]; exact HG.out
    have HG3 := Lib.hid hg3
    have HM3 := Lib.hid hm3
    clear hg3 hm3 hr1 hr2 hl2 hleft q2 A1 A2 hb2
    go_wp2
    go_roundw
    case rel => exact ⟨_, _, vs, z2, bd, ad2, cq, cap2, rfl, rfl, A2', A3, hv, by omega, HG3.out, hB2⟩
    case measure => exact HM3.out
  · have h0 : vs.length = 0 := by omega
    have hvs : vs = [] := List.eq_nil_of_length_eq_zero h0
    have hg := HG.out
    rw [hvs] at hg
    have hfin : valD us = (Int.gcd (valD xs) (valD ys) : Int) := by rw [← hg]; simp only [valD]; exact (gcd_end (val_nonnegD A1.wf)).symm
    have HF := Lib.hid hfin
    rw [h0] at hq
    subst hq
    clear hfin hg A2 hvs h0 hgo
    go_wp2
    go_ret
    exact ⟨_, rfl, us, ad, cp, A1, HF.out, hu, hb⟩
end
section
open Go.RowKit
theorem sameQ_any {n : Nat} {w : World} {u v : Value} {X Y : Rat} (hu : ArgQ w u X n) (hv : ArgQ w v Y n) (hn : n ≤ 16777000) :
 Calls Tryz.prog 66 #[u, v] w fun e w' => e = .returned (.bool (sgR (X - Y) == 0)) ∧ Below w.heap.size w w' := by
 obtain ⟨m1, xs, ds, a1, a2, c1, c2, rfl⟩ := hu.box
 obtain ⟨m2, zs, es, a3, a4, c3, c4, rfl⟩ := hv.box
 obtain ⟨W, hW⟩ : ∃ W, ((w.alloc (.cells #[.bool m1, .slice a1 xs.length c1, .slice a2 ds.length c2] 54)).alloc (.cells #[.bool m2, .slice a3 zs.length c3, .slice a4 es.length c4] 54)) = W := ⟨_, rfl⟩
 have R0 : Row W (w.heap.size) 54 #[.bool m1, .slice a1 xs.length c1, .slice a2 ds.length c2] := by rw [← hW]; exact ((Row.new _ _ _).alloc _)
 have R1 : Row W (w.heap.size + 1) 54 #[.bool m2, .slice a3 zs.length c3, .slice a4 es.length c4] := by rw [← hW]; have h := (Row.new (w.alloc (.cells #[.bool m1, .slice a1 xs.length c1, .slice a2 ds.length c2] 54)) 54 #[.bool m2, .slice a3 zs.length c3, .slice a4 es.length c4]); simp only [World.size_alloc] at h; exact h
 have hBW : Below w.heap.size w W := by rw [← hW]; exact (((Below.refl _ _).alloc (by (try simp) <;> omega) _).alloc (by (try simp) <;> omega) _)
 have hsW : w.heap.size + 1 + 1 ≤ W.heap.size := by rw [← hW]; simp
 have hc := cmpQ_any (hu.later hBW) (hv.later hBW) hn
 obtain ⟨s, hs⟩ : ∃ s, sgR (X - Y) = s := ⟨_, rfl⟩
 rw [hs] at hc ⊢
 clear hs
 obtain ⟨p0, p1, p2, _, _, _⟩ := R0.three
 obtain ⟨o0, o1, o2, _, _, _⟩ := R1.three
 go_enter Tryz.func66, Tryz.ntmps66
 go_wp2_with fail
 refine hc.mono ?_
 rintro e w1 ⟨rfl, hb1⟩
 clear hc hW p0 p1 p2 o0 o1 o2
 go_wp2_with fail
 go_ret
 exact ⟨rfl, hBW.trans (hb1.mono (by omega))⟩
end
section
open Go.RowKit Go.ChangeShapes Go.WideShapes Go.ChangeAt
theorem Row.only {w w' : World} {g b : Nat} {t : TypeId} {cs : Array Value} (R : Row w g t cs) (h : Only b w w') (hb : g ≠ b) : Row w' g t cs := (h.block g hb).trans R
theorem ArgR.only {w w' : World} {v : Value} {x : Rat} {n g : Nat} {t : TypeId} {p : Bool} {ad bd : Option Addr} {l cap m cbp : Nat} (h : ArgR w v x n) (R : Row w g t #[.bool p, .slice ad l cap, .slice bd m cbp]) (k : Only g w w') : ArgR w' v x n :=
 h.far R (noInts3 _ _ _ _ _ _ _) k.block
theorem ArgQ.only {w w' : World} {v : Value} {x : Rat} {n g : Nat} {t : TypeId} {p : Bool} {ad bd : Option Addr} {l cap m cbp : Nat} (h : ArgQ w v x n) (R : Row w g t #[.bool p, .slice ad l cap, .slice bd m cbp]) (k : Only g w w') : ArgQ w' v x n :=
 h.far R (noInts3 _ _ _ _ _ _ _) k.block
theorem ResQ.only {base : Nat} {w w' : World} {v : Value} {x : Rat} {n g : Nat} {cs : Array Value} (h : ResQ base w v x n) (R : Row w g 54 cs) (k : Only g w w') : ResQ base w' v x n :=
 h.far R (by decide) k.block
end
section
open Go.RowKit
theorem BlkS.only {w w' : World} {g b : Nat} {zs : List Int} (h : BlkS w g zs) (k : Only b w w') (hb : g ≠ b) : BlkS w' g zs := h.same (k.block g hb)
end
section
open Go.RowKit
theorem makeRR_any {n : Nat} {w : World} {m1 : Bool} {xs ds : List Int} {a1 a2 : Option Addr} {c1 c2 : Nat} (A : ArgD w (.slice a1 xs.length c1) xs a1 c1) (B : ArgD w (.slice a2 ds.length c2) ds a2 c2) (hx : xs.length ≤ n) (hd : ds.length ≤ n) (hn : n ≤ 4294967296) :
 Calls Tryz.prog 71 #[.bool m1, .slice a1 xs.length c1, .slice a2 ds.length c2] w fun e w' => ∃ r, e = .returned r ∧ ResR w.heap.size w' r (ratOf m1 (valD xs) (valD ds)) (n + 1) ∧ Below w.heap.size w w' := by
 have h0x := val_nonnegD A.wf
 have h0d := val_nonnegD B.wf
 obtain ⟨W, hW⟩ : ∃ W, (w.alloc (.cells #[.bool false, .slice none 0 0, .slice none 0 0] 58)) = W := ⟨_, rfl⟩
 have R0 : Row W (w.heap.size) 58 #[.bool false, .slice none 0 0, .slice none 0 0] := by rw [← hW]; exact (Row.new _ _ _)
 have hBW : Below w.heap.size w W := by rw [← hW]; exact ((Below.refl _ _).alloc (by (try simp) <;> omega) _)
 have hsW : w.heap.size + 1 ≤ W.heap.size := by rw [← hW]; simp
 by_cases z1 : valD xs = 0
 · have d1 := lenD_zero A.wf A.full z1
   have hX : ratOf m1 (valD xs) (valD ds) = 0 := by rw [z1]; exact ratOf_zero_left _ _
   have HX := Lib.hid hX
   have hb2 : Below W.heap.size W (W.alloc (.cells #[.int .i64 1] 3)) := (Below.refl _ _).alloc (Nat.le_refl _) _
   have L := digit_lit (Row.new W 3 #[.int .i64 1]) (by omega)
   have R0' := R0.later hb2
   obtain ⟨u0, u1, u2, g0, g1, g2⟩ := R0'.three
   obtain ⟨p0, p1, p2, p3, p4, p5⟩ := R0.three
   clear hX
   go_enter Tryz.func71, Tryz.ntmps71
   go_wp2_with fail
   refine bodyPost_ret (v := .agg #[.bool false, .slice none 0 0, .slice (some ⟨W.heap.size, 0, none⟩) 1 1]) (by simp [results, Tryz.results71, go_sem, u0, u1, u2]) rfl ⟨_, rfl, ⟨[], [1], none, some ⟨W.heap.size, 0, none⟩, 0, 1, ?_, ?_, ?_, by simp, by simp⟩, ?_⟩
   · rw [HX.out]; rfl
   · rw [HX.out]; exact ⟨⟨rfl, .inl ⟨rfl, rfl⟩⟩, WfD.nil, rfl, rfl⟩
   · rw [HX.out]; exact (ResD.one W (by omega)).far R0' (by decide) (kept3 _ _ _)
   · exact below_set3 (hBW.trans (hb2.mono (by omega))) (by omega) _ _ _
 by_cases z2 : valD ds = 0
 · have d1 := lenD_pos (show 0 < valD xs by omega)
   have d2 := lenD_zero B.wf B.full z2
   have hX : ratOf m1 (valD xs) (valD ds) = 0 := by rw [z2]; exact ratOf_zero_right _ _
   have HX := Lib.hid hX
   have hb2 : Below W.heap.size W (W.alloc (.cells #[.int .i64 1] 3)) := (Below.refl _ _).alloc (Nat.le_refl _) _
   have L := digit_lit (Row.new W 3 #[.int .i64 1]) (by omega)
   have R0' := R0.later hb2
   obtain ⟨u0, u1, u2, g0, g1, g2⟩ := R0'.three
   obtain ⟨p0, p1, p2, p3, p4, p5⟩ := R0.three
   clear hX
   go_enter Tryz.func71, Tryz.ntmps71
   go_wp2_with fail
   refine bodyPost_ret (v := .agg #[.bool false, .slice none 0 0, .slice (some ⟨W.heap.size, 0, none⟩) 1 1]) (by simp [results, Tryz.results71, go_sem, u0, u1, u2]) rfl ⟨_, rfl, ⟨[], [1], none, some ⟨W.heap.size, 0, none⟩, 0, 1, ?_, ?_, ?_, by simp, by simp⟩, ?_⟩
   · rw [HX.out]; rfl
   · rw [HX.out]; exact ⟨⟨rfl, .inl ⟨rfl, rfl⟩⟩, WfD.nil, rfl, rfl⟩
   · rw [HX.out]; exact (ResD.one W (by omega)).far R0' (by decide) (kept3 _ _ _)
   · exact below_set3 (hBW.trans (hb2.mono (by omega))) (by omega) _ _ _
 have hpx : 0 < valD xs := by omega
 have hpd : 0 < valD ds := by omega
 have d1 := lenD_pos hpx
 have d2 := lenD_pos hpd
 have A' := A.later hBW
 have B' := B.later hBW
 have e1 := ratOf_neg (n := m1) h0x hpd (fun h => absurd h z1)
 have e2 := ratOf_abs (n := m1) h0x hpd
 have e3 := ratOf_den (n := m1) (A := valD xs) hpd
 have hgp : 0 < (Int.gcd (valD xs) (valD ds) : Int) := gcd_pos hpx
 have E1 := Lib.hid e1
 have E2 := Lib.hid e2
 have E3 := Lib.hid e3
 clear e1 e2 e3 z1 z2
 go_enter Tryz.func71, Tryz.ntmps71
 go_wp2_with fail
 refine (gcdD_any A' B' (by omega) (by omega)).mono ?_
 rintro e w1 ⟨r1, rfl, gs, gd, gc, G, hG, lG, hb1⟩
 have hs1 := hb1.size
 have A1 := A'.later hb1
 have B1 := B'.later hb1
 have hgs : 0 < valD gs := by rw [hG]; exact hgp
 have HG := Lib.hid hG
 have eG := G.is
 subst eG
 clear hG hgp hW
 go_wp2_with fail
 refine (divD_any A1 G (by omega) (by omega) hgs).mono ?_
 rintro e w2 ⟨r2, s2, rfl, hb2, ⟨z2, q2, l2⟩, _⟩
 have hs2 := hb2.size
 obtain ⟨ad2, cp2, rfl, q2, A2⟩ := q2.slice
 have B2 := B1.later hb2
 have G2 := G.later hb2
 go_wp2_with fail
 refine (divD_any B2 G2 (by omega) (by omega) hgs).mono ?_
 rintro e w3 ⟨r3, s3, rfl, hb3, ⟨z3, q3, l3⟩, _⟩
 have hs3 := hb3.size
 obtain ⟨ad3, cp3, rfl, q3, A3⟩ := q3.slice
 have A2' := A2.later hb3
 have P3 := ((R0.later hb1).later hb2).later hb3
 have v2 := q2.eq
 have v3 := q3.eq
 rw [HG.out] at v2 v3
 have V2 := Lib.hid v2
 have V3 := Lib.hid v3
 have Q2 := Lib.hid (q2.later hb3)
 have Q3 := Lib.hid q3
 clear v2 v3 q2 q3
 obtain ⟨u0, u1, u2, g0, g1, g2⟩ := P3.three
 go_wp2_with fail
 refine bodyPost_ret (v := .agg #[.bool m1, .slice ad2 z2.length cp2, .slice ad3 z3.length cp3]) (by simp [results, Tryz.results71, go_sem, u0, u1, u2]) rfl ⟨_, rfl, ⟨z2, z3, ad2, ad3, cp2, cp3, by rw [E1.out], ?_, ?_, by omega, by omega⟩, ?_⟩
 · exact ((Q2.out.mono (by omega)).far P3 (by decide) (kept3 _ _ _)).eqTo (by rw [V2.out, E2.out])
 · exact ((Q3.out.mono (by omega)).far P3 (by decide) (kept3 _ _ _)).eqTo (by rw [V3.out, E3.out])
 · exact below_set3 (((hBW.trans (hb1.mono (by omega))).trans (hb2.mono (by omega))).trans (hb3.mono (by omega))) (by omega) _ _ _
theorem ofRR_any {n : Nat} {w : World} {v : Value} {X : Rat} (h : ArgQ w v X n) (hn : n ≤ 134217728) :
 Calls Tryz.prog 29 #[v] w fun e w' => ∃ r, e = .returned r ∧ ResR w.heap.size w' r X (5 * n + 1) ∧ Below w.heap.size w w' := by
 obtain ⟨m1, xs, ds, a1, a2, c1, c2, rfl, A, B, hX, hx, hd⟩ := h
 obtain ⟨W, hW⟩ : ∃ W, ((w.alloc (.cells #[.bool m1, .slice a1 xs.length c1, .slice a2 ds.length c2] 54)).alloc (.cells #[.bool false, .slice none 0 0, .slice none 0 0] 58)) = W := ⟨_, rfl⟩
 have R0 : Row W (w.heap.size) 54 #[.bool m1, .slice a1 xs.length c1, .slice a2 ds.length c2] := by rw [← hW]; exact ((Row.new _ _ _).alloc _)
 have R1 : Row W (w.heap.size + 1) 58 #[.bool false, .slice none 0 0, .slice none 0 0] := by rw [← hW]; have h := (Row.new (w.alloc (.cells #[.bool m1, .slice a1 xs.length c1, .slice a2 ds.length c2] 54)) 58 #[.bool false, .slice none 0 0, .slice none 0 0]); simp only [World.size_alloc] at h; exact h
 have hBW : Below w.heap.size w W := by rw [← hW]; exact (((Below.refl _ _).alloc (by (try simp) <;> omega) _).alloc (by (try simp) <;> omega) _)
 have hsW : w.heap.size + 1 + 1 ≤ W.heap.size := by rw [← hW]; simp
 have HX := Lib.hid hX
 clear hX
 have mkS : ∀ X, Kept (w.heap.size + 1) W X → X.cell? ⟨w.heap.size, 0, none⟩ = some (.bool m1) ∧ X.cell? ⟨w.heap.size, 1, none⟩ = some (.slice a1 xs.length c1) ∧ X.cell? ⟨w.heap.size, 2, none⟩ = some (.slice a2 ds.length c2) ∧ Kept (w.heap.size + 1) W X := fun X h => ⟨(R0.kept h (by omega)).cell 0, (R0.kept h (by omega)).cell 1, (R0.kept h (by omega)).cell 2, h⟩
 go_enter Tryz.func29, Tryz.ntmps29
 go_wp2_with fail
 clear hW
 go_region_held3 (fun X => X.cell? ⟨w.heap.size, 0, none⟩ = some (.bool m1) ∧ X.cell? ⟨w.heap.size, 1, none⟩ = some (.slice a1 xs.length c1) ∧ X.cell? ⟨w.heap.size, 2, none⟩ = some (.slice a2 ds.length c2) ∧ Kept (w.heap.size + 1) W X)
  (((refine mkS _ ?_; (repeat' (first | exact Kept.refl _ _ | refine Kept.drew ?_ | refine Kept.alloc ?_ _ | refine Kept.set ?_ _ _ | refine Kept.below ?_ (by assumption))))))
  ((first
   | (go_at_call 71; refine (makeRR_any (n := 5 * n) (A3.later hb4) A4 (by omega) (by omega) (by omega)).mono ?_; rintro e w5 ⟨r5, rfl, q5, hb5⟩; rw [HV.out] at q5; obtain ⟨fs, gs, f1, f2, j1, j2, e5, _⟩ := id q5; subst e5; have P5 := R1.kept (show Kept (w.heap.size + 1 + 1 + 1) W w5 by (repeat' (first | exact Kept.refl _ _ | refine Kept.drew ?_ | refine Kept.alloc ?_ _ | refine Kept.set ?_ _ _ | refine Kept.below ?_ (by assumption)))) (by omega); obtain ⟨u0, u1, u2, g0, g1, g2⟩ := P5.three)
   | (go_at_call 72; (with_reducible refine (of_any (B.later (Kept.under (show Kept (w.heap.size + 1) W _ by (repeat' (first | exact Kept.refl _ _ | refine Kept.drew ?_ | refine Kept.alloc ?_ _ | refine Kept.set ?_ _ _ | refine Kept.below ?_ (by assumption)))) hBW (by omega) (by omega))) (by omega)).mono ?_); rintro e w4 ⟨r4, rfl, z4, q4, l4, hb4⟩; obtain ⟨ad4, cp4, rfl, q4, A4⟩ := q4.slice; have HV := Lib.hid ((show ratOf m1 (valD z3) (valD z4) = ratOf m1 (val xs) (val ds) by rw [q3.eq, q4.eq]).trans HX.out))
   | (go_at_call 72; (with_reducible refine (of_any (A.later (Kept.under (show Kept (w.heap.size + 1) W _ by (repeat' (first | exact Kept.refl _ _ | refine Kept.drew ?_ | refine Kept.alloc ?_ _ | refine Kept.set ?_ _ _ | refine Kept.below ?_ (by assumption)))) hBW (by omega) (by omega))) (by omega)).mono ?_); rintro e w3 ⟨r3, rfl, z3, q3, l3, hb3⟩; obtain ⟨ad3, cp3, rfl, q3, A3⟩ := q3.slice)))
 have hs5 := hb5.size
 have hk5 := (show Kept (w.heap.size + 1 + 1 + 1) W w5 by (repeat' (first | exact Kept.refl _ _ | refine Kept.drew ?_ | refine Kept.alloc ?_ _ | refine Kept.set ?_ _ _ | refine Kept.below ?_ (by assumption)))).size
 have hk4 := (show Kept (w.heap.size + 1 + 1 + 1) W w4 by (repeat' (first | exact Kept.refl _ _ | refine Kept.drew ?_ | refine Kept.alloc ?_ _ | refine Kept.set ?_ _ _ | refine Kept.below ?_ (by assumption)))).size
 have hK5 := (Kept.under (show Kept (w.heap.size + 1 + 1 + 1) W w5 by (repeat' (first | exact Kept.refl _ _ | refine Kept.drew ?_ | refine Kept.alloc ?_ _ | refine Kept.set ?_ _ _ | refine Kept.below ?_ (by assumption)))) hBW (by omega) (by omega))
 go_wp2_with fail
 refine bodyPost_ret (v := .agg #[.bool (decide (X.num < 0)), .slice f1 fs.length j1, .slice f2 gs.length j2]) (by simp [results, Tryz.results29, go_sem, u0, u1, u2]) rfl ⟨_, rfl, ?_, below_set3 hK5 (by omega) _ _ _⟩
 exact (q5.far P5 (by decide) (kept3 _ _ _)).mono (by omega)
end
section
open Go.RowKit
theorem RefQ.only {w w' : World} {X : Rat} {n : Nat} {zs ys : List Int} {f g : Option Addr} {j k : Nat} (h : RefQ w X n zs ys f g j k) {b : Nat} {t : TypeId} {p : Bool} {ad bd : Option Addr} {l cap m cbp : Nat} (R : Row w b t #[.bool p, .slice ad l cap, .slice bd m cbp]) (o : Only b w w') : RefQ w' X n zs ys f g j k :=
 ⟨h.1.far R (noInts3 _ _ _ _ _ _ _) o.block, h.2.1.far R (noInts3 _ _ _ _ _ _ _) o.block, h.2.2⟩
end
section
open Go.RowKit Go.Shelf
attribute [local go_sem] Oper.semAt_some
theorem sgR_same (x y : Rat) : (sgR (x - y) == 0) = decide (x = y) := by
 by_cases h : x = y
 · subst h
   rw [decide_eq_true rfl, show x - x = 0 by grind]
   rfl
 · rw [decide_eq_false h]
   have : sgR (x - y) ≠ 0 := fun e => h (by have := (sgR_zero _).1 e; grind)
   simpa using this
theorem sameX_any {n : Nat} {w : World} {u v : Value} {p q : Q3} (hu : RawQ w u p) (hv : RawQ w v q) (h1 : p.num.length ≤ n ∧ p.den.length ≤ n) (h2 : q.num.length ≤ n ∧ q.den.length ≤ n) (hn : n ≤ 16777000) :
 Calls Tryz.prog 66 #[u, v] w fun e w' => e = .returned (.bool (decide (p.rat = q.rat))) ∧ Below w.heap.size w w' := by
 have h := sameQ_any (hu.arg h1.1 h1.2) (hv.arg h2.1 h2.2) hn
 rw [sgR_same] at h
 exact h
theorem sameT7_any {n : Nat} {w : World} {u v : Value} {s1 s2 : List Int} {q1 q2 : List Q3} {a1 b1 a2 b2 : Option Addr} {ca1 cb1 ca2 cb2 : Nat} (T1 : TensQ w u s1 q1 a1 ca1 b1 cb1) (T2 : TensQ w v s2 q2 a2 ca2 b2 cb2) (hs1 : s1.length ≤ 1048576) (hs2 : s2.length ≤ 1048576) (hq1 : q1.length ≤ 1048576) (hq2 : q2.length ≤ 1048576) (hl1 : lensQ q1 n) (hl2 : lensQ q2 n) (hn : n ≤ 4000000) :
 Calls Tryz.prog 26 #[u, v] w fun e w' => e = .returned (.bool (allBC (fun (p q : Q3) => decide (p.rat = q.rat)) s1 s2 q1 q2)) ∧ Below w.heap.size w w' := by
 obtain rfl := T1.is
 obtain rfl := T2.is
 obtain ⟨B, hB⟩ : ∃ B, w.heap.size = B := ⟨_, rfl⟩
 obtain ⟨W1, hW1⟩ : ∃ W1, w.alloc (.cells #[.slice a1 s1.length ca1, .slice b1 q1.length cb1] 26) = W1 := ⟨_, rfl⟩
 obtain ⟨W2, hW2⟩ : ∃ W2, W1.alloc (.cells #[.slice a2 s2.length ca2, .slice b2 q2.length cb2] 26) = W2 := ⟨_, rfl⟩
 obtain ⟨W3, hW3⟩ : ∃ W3, W2.alloc (.cells #[.bool false] 4) = W3 := ⟨_, rfl⟩
 have s1' : W1.heap.size = B + 1 := by rw [← hW1, ← hB]; simp
 have s2' : W2.heap.size = B + 1 + 1 := by rw [← hW2, World.size_alloc, s1']
 have s3' : W3.heap.size = B + 1 + 1 + 1 := by rw [← hW3, World.size_alloc, s2']
 have R0 : Row W3 B 26 #[.slice a1 s1.length ca1, .slice b1 q1.length cb1] := by rw [← hW3, ← hW2, ← hW1, ← hB]; exact ((Row.new _ _ _).alloc _).alloc _
 have R1 : Row W3 (B + 1) 26 #[.slice a2 s2.length ca2, .slice b2 q2.length cb2] := by rw [← hW3, ← hW2, ← s1']; exact (Row.new _ _ _).alloc _
 have R2 : Row W3 (B + 1 + 1) 4 #[.bool false] := by rw [← hW3, ← s2']; exact Row.new _ _ _
 have hb2 : Below B w W3 := by rw [← hW3, ← hW2, ← hW1]; exact (((Below.refl _ w).alloc (by omega) _).alloc (by simp; omega) _).alloc (by simp; omega) _
 have U1 := T1.later (by rw [hB]; exact hb2)
 have U2 := T2.later (by rw [hB]; exact hb2)
 have hsame := sameS_any U1.sh U2.sh T1.nila T2.nila (by omega) (by omega)
 obtain ⟨t, ht⟩ : ∃ t, decide (s1 = s2) = t := ⟨_, rfl⟩
 rw [ht] at hsame
 obtain ⟨dd, hdd⟩ : ∃ d, allBC (fun (p q : Q3) => decide (p.rat = q.rat)) s1 s2 q1 q2 = d := ⟨_, rfl⟩
 rw [hdd]
 have HD := Lib.hid hdd
 have HT1 := Lib.hid T1
 have HT2 := Lib.hid T2
 have HL1 := Lib.hid hl1
 have HL2 := Lib.hid hl2
 obtain ⟨c0, c1, _, _⟩ := R0.two
 obtain ⟨c2, c3, _, _⟩ := R1.two
 clear T1 T2 U1 U2 hl1 hl2 hdd
 by_cases hgo : s1 = s2 ∧ q1.length = q2.length
 · obtain ⟨hs, hlen⟩ := hgo
   have htt : t = true := by rw [← ht]; exact decide_eq_true hs
   subst htt
   obtain ⟨es, hlim1, hall1⟩ := HT1.out.el.limE
   obtain ⟨fs, hlim2, hall2⟩ := HT2.out.el.limE
   have hsh1 : ShE es := shE_of hall1 (fun v x h => h.form)
   have hsh2 : ShE fs := shE_of hall2 (fun v x h => h.form)
   have hel1 : es.length = q1.length := hall1.1
   have hel2 : fs.length = es.length := by rw [hall2.1, ← hlen, hall1.1]
   have HA1 := Lib.hid hall1
   have HA2 := Lib.hid hall2
   have HS := Lib.hid hs
   have HLEN := Lib.hid hlen
   have HEL1 := Lib.hid hel1
   have HEL2 := Lib.hid hel2
   rw [hB] at hlim1 hlim2
   rw [← hlen, ← hel1] at R1 c3 hW2
   rw [← hel1] at R0 c1 hW1 hq1
   have hW2' := Lib.hid hW2
   rw [← hlen, ← hel1]
   clear hall1 hall2 hs hlen hel1 hel2 ht
   obtain ⟨n', hn'⟩ : ∃ n' : Nat, Hid (3 ≤ n') := ⟨3, Nat.le_refl 3⟩
   refine (callsIn_wide (n := n')).1 ?_
   refine callsIn_of_wp_marks Tryz.func26 rfl trivial ?_ rfl
   simp only [Tryz.ntmps26, List.size_toArray, List.length_cons, List.length_nil, Nat.reduceAdd, Nat.reduceSub, Array.replicate_succ, Array.replicate_zero, List.push_toArray, List.append_toArray, List.nil_append, List.cons_append]
   gi_wp2_with fail
   refine wideCall (hsame.mono ?_)
   rintro e w4 ⟨rfl, b4⟩
   have b0 : Below W3.heap.size W3 w4.drew := b4.drew
   have s4 := b4.size
   obtain ⟨k0, k1, _, _⟩ := (R0.later b4).two
   obtain ⟨k2, k3, _, _⟩ := (R1.later b4).two
   gi_wp2_with fail
   have mkS : ∀ Y, Below W3.heap.size W3 Y → Y.cell? ⟨B, 0, none⟩ = some (.slice a1 s1.length ca1) ∧ Y.cell? ⟨B, 1, none⟩ = some (.slice b1 es.length cb1) ∧ Y.cell? ⟨B + 1, 0, none⟩ = some (.slice a2 s2.length ca2) ∧ Y.cell? ⟨B + 1, 1, none⟩ = some (.slice b2 es.length cb2) := fun Y hb => by
    obtain ⟨x0, x1, _⟩ := (R0.later hb).two
    obtain ⟨x2, x3, _⟩ := (R1.later hb).two
    exact ⟨x0, x1, x2, x3⟩
   refine region_wide (fun Y => Y.cell? ⟨B, 0, none⟩ = some (.slice a1 s1.length ca1) ∧ Y.cell? ⟨B, 1, none⟩ = some (.slice b1 es.length cb1) ∧ Y.cell? ⟨B + 1, 0, none⟩ = some (.slice a2 s2.length ca2) ∧ Y.cell? ⟨B + 1, 1, none⟩ = some (.slice b2 es.length cb2)) (by kernel_rfl) (by kernel_rfl) (mkS _ b0) (fun hHeld => ?_)
   refine todo [0, 2] ?_
   iterate 2
    refine todoH (v := ?_) rfl (by kernel_rfl) (fun _ _ _ h => h) (by assumption) (Or.inl ⟨by rfl, ?_⟩) ?_
    rotate_left
    · intro w hSw; (try dsimp only at hSw); go_simp; (try with_reducible rfl)
    try simp only [Act.put, List.getElem_toArray, List.getElem_cons_succ, List.getElem_cons_zero, List.setIfInBounds_toArray, List.set_cons_zero, List.set_cons_succ]
   refine todone ?_
   refine wpAnyH_ready (rs := [1]) (by kernel_rfl) (by simp) ?_
   refine AllReadyH.cons rfl (fun K hK => ?sc1) AllReadyH.nil
   go_simp
   refine (elements_any _ _ _ _ _ _ _).mono ?_
   rintro e w5 ⟨rfl, b5⟩
   go_simp
   have b05 : Below W3.heap.size W3 w5 := b0.trans (b5.mono (by show W3.heap.size ≤ w4.heap.size; omega))
   have s5 := b05.size
   refine hK.out _ _ ?kc1 (fun hHeld => ?mc1)
   case kc1 =>
    try dsimp only
    exact mkS _ b05
   clear hK K
   try simp only [Act.put, List.setIfInBounds_toArray, List.set_cons_zero, List.set_cons_succ]
   refine wpAnyH_ready (rs := [3]) (by kernel_rfl) (by simp) ?_
   refine AllReadyH.cons rfl (fun K hK => ?sc3) AllReadyH.nil
   go_simp
   refine (elements_any _ _ _ _ _ _ _).mono ?_
   rintro e w6 ⟨rfl, b6⟩
   go_simp
   have b06 : Below W3.heap.size W3 w6 := b05.trans (b6.mono (by omega))
   have s6 := b06.size
   refine hK.out _ _ ?kc3 (fun hHeld => ?mc3)
   case kc3 =>
    try dsimp only
    exact mkS _ b06
   clear hK K
   try simp only [Act.put, List.setIfInBounds_toArray, List.set_cons_zero, List.set_cons_succ]
   refine wpAnyH_ready (rs := [4]) (by kernel_rfl) (by simp) ?_
   refine AllReadyH.cons rfl (fun K hK => ?sc4) AllReadyH.nil
   go_simp
   refine (besideQ_any _ _ _ _ _ _ _).mono ?_
   rintro e w7 ⟨rfl, rfl⟩
   go_simp
   have b07 : Below W3.heap.size W3 ((w6.alloc (.cells #[.slice b1 es.length cb1] 96)).alloc (.cells #[.slice b2 es.length cb2] 96)) := (b06.alloc (by omega) _).alloc (by simp; omega) _
   refine hK.out _ _ ?kc4 (fun hHeld => ?mc4)
   case kc4 =>
    try dsimp only
    exact mkS _ b07
   clear hK K
   try simp only [Act.put, List.setIfInBounds_toArray, List.set_cons_zero, List.set_cons_succ]
   refine wpAnyH_done (by kernel_rfl) ?_ _
   dsimp only [Straight]
   gi_wp2_with fail
   obtain ⟨I, hI⟩ : ∃ I, w6.heap.size = I := ⟨_, rfl⟩
   obtain ⟨V1, hV1⟩ : ∃ V1, w6.alloc (.cells #[.slice b1 es.length cb1] 96) = V1 := ⟨_, rfl⟩
   obtain ⟨V, hV⟩ : ∃ V, V1.alloc (.cells #[.slice b2 es.length cb2] 96) = V := ⟨_, rfl⟩
   rw [hV1, hV] at b07
   have sV1 : V1.heap.size = I + 1 := by rw [← hV1, World.size_alloc, hI]
   have sV : V.heap.size = I + 1 + 1 := by rw [← hV, World.size_alloc, sV1]
   have d5 : Boxed V I 96 (.slice b1 es.length cb1) := by rw [← hV, ← hV1, ← hI]; exact (Boxed.new _ _ _).alloc _
   have d6 : Boxed V (I + 1) 96 (.slice b2 fs.length cb2) := by
    have h := Boxed.new V1 96 (.slice b2 es.length cb2)
    rw [sV1, hV] at h
    rw [HEL2.out]; exact h
   have e2 := R2.later b07
   have hbV : Below B w V := hb2.trans (b07.mono (by omega))
   simp only [hI, hV1, hV]
   have h3 : 3 ≤ n' := hn'
   have hI3 : B + 1 + 1 + 1 ≤ I := by have : W3.heap.size ≤ w6.heap.size := b06.size; omega
   clear hV hV1
   refine wpIn_rangeFunc_ownH (F := Fence.wide) (n := n') rfl (by omega) (gf := 105) (lb := #[.pointer (some ⟨I, 0, none⟩), .pointer (some ⟨I + 1, 0, none⟩)]) rfl trivial (enters_of Tryz.func105 (by kernel_rfl) rfl)
    (besideQ_stops (n' - 1) I B b1 b2 es fs cb1 cb2 (by omega) HEL2.out V (by omega) (by omega) d5.cell d6.cell (hlim1.below hbV) (hlim2.below hbV) hsh1 hsh2) KpS.trans (KpS.b (by omega) (by omega)) (Below.refl _ _) (fun _ => rfl)
    (fun (pre : List (Fin es.length)) X => Row X (B + 1 + 1) 4 #[.bool false] ∧ (∀ x ∈ pre, (q1[x.val]?.getD ⟨false, [], []⟩).rat = (q2[x.val]?.getD ⟨false, [], []⟩).rat) ∧ Below B w X ∧ I + 1 + 1 ≤ X.heap.size)
    (fun c pre X => c = .ret ∧ Row X (B + 1 + 1) 4 #[.bool false] ∧ (∃ x ∈ pre, (q1[x.val]?.getD ⟨false, [], []⟩).rat ≠ (q2[x.val]?.getD ⟨false, [], []⟩).rat) ∧ Below B w X)
    (fun pre X Y row ⟨h1, h2, h3, h4⟩ hg hr => ⟨h1.keepC (KeepC.grown hg (fun r e => (hr r e).2)), h2, h3.grown hg (by have := h3.size; omega) (fun k e => by have := (hr k e).1; omega), Nat.le_trans h4 hg.size⟩)
    (fun c pre X Y row ⟨h0, h1, h2, h3⟩ hg hr => ⟨h0, h1.keepC (KeepC.grown hg (fun r e => (hr r e).2)), h2, h3.grown hg (by have := h3.size; omega) (fun k e => by have := (hr k e).1; omega)⟩)
    ⟨e2, (fun x h => by cases h), hbV, by omega⟩
    (fun (x : Fin es.length) a' X => ∃ p1 p2, I + 1 + 1 ≤ p1 ∧ I + 1 + 1 ≤ p2 ∧ Row X p1 54 #[(es[x.val]?.getD dfE).a, (es[x.val]?.getD dfE).b, (es[x.val]?.getD dfE).c] ∧ Row X p2 54 #[(fs[x.val]?.getD dfE).a, (fs[x.val]?.getD dfE).b, (fs[x.val]?.getD dfE).c] ∧
     a' = { tmps := #[.agg #[.slice a1 s1.length ca1, .slice b1 es.length cb1], .agg #[.slice a2 s2.length ca2, .slice b2 es.length cb2], .pointer (some ⟨B, 0, none⟩), .pointer (some ⟨B + 1, 0, none⟩), .pointer (some ⟨B + 1 + 1, 0, none⟩), .pointer (some ⟨p1, 0, none⟩), .pointer (some ⟨p2, 0, none⟩),
      .pointer (some ⟨B, 0, none⟩), .slice a1 s1.length ca1, .pointer (some ⟨B + 1, 0, none⟩), .slice a2 s2.length ca2, .bool true, .bool false, .bool false, .pointer (some ⟨B, 1, none⟩), .slice b1 es.length cb1, .int .i64 es.length, .pointer (some ⟨B + 1, 1, none⟩), .slice b2 es.length cb2, .int .i64 es.length, .bool false, .bool false,
      .agg #[.slice a1 s1.length ca1, .slice b1 es.length cb1], .slice b1 es.length cb1, .agg #[.slice a2 s2.length ca2, .slice b2 es.length cb2], .slice b2 es.length cb2,
      .func (.func 105) #[] #[.pointer (some ⟨I, 0, none⟩), .pointer (some ⟨I + 1, 0, none⟩)], .agg #[(es[x.val]?.getD dfE).a, (es[x.val]?.getD dfE).b, (es[x.val]?.getD dfE).c], .agg #[(fs[x.val]?.getD dfE).a, (fs[x.val]?.getD dfE).b, (fs[x.val]?.getD dfE).c], undef, undef, undef, undef], defers := [] })
    (fun x a' _ X Y row ⟨p1, p2, g1, g2, h1, h2, h3⟩ hg hr => ⟨p1, p2, g1, g2, h1.keepC (KeepC.grown hg (fun r e => (hr r e).2)), h2.keepC (KeepC.grown hg (fun r e => (hr r e).2)), h3⟩)
    ?assign ?body ?done ?stop
   case assign =>
    rintro l pre ⟨k, hk⟩ X K ⟨h1, h2, h3, h4⟩ hK
    obtain ⟨z1, z2, z3, z4, z5, z6, z7, he⟩ := hsh1 k hk
    obtain ⟨y1, y2, y3, y4, y5, y6, y7, hf⟩ := hsh2 k (by rw [HEL2.out]; exact hk)
    have hs3 := h3.size
    have hbX1 : Below X.heap.size X (X.alloc (.cells #[.bool z1, .slice z2 z3 z4, .slice z5 z6 z7] 54)) := (Below.refl _ _).alloc (Nat.le_refl _) _
    have hbX : Below X.heap.size X ((X.alloc (.cells #[.bool z1, .slice z2 z3 z4, .slice z5 z6 z7] 54)).alloc (.cells #[.bool y1, .slice y2 y3 y4, .slice y5 y6 y7] 54)) := hbX1.alloc (by simp) _
    have kk := KeepC.below hbX
    have HK := Lib.hid hK
    simp only [ratsAt]
    rw [he, hf]
    simp only
    clear hK
    gi_wp2
    refine HK.out _ _ (keepsFrom_below hbX) ⟨hbX.mono (by omega), hbX.block (I + 1) (by omega)⟩ ⟨h1.keepC kk, h2, h3.trans (hbX.mono (by omega)), by simp; omega⟩ ⟨X.heap.size, X.heap.size + 1, h4, by omega, ?_, ?_, ?_⟩
    · simp only [he]; exact (Row.new _ _ _).alloc _
    · simp only [hf]
      have h := Row.new (X.alloc (.cells #[.bool z1, .slice z2 z3 z4, .slice z5 z6 z7] 54)) 54 #[.bool y1, .slice y2 y3 y4, .slice y5 y6 y7]
      simp only [World.size_alloc] at h
      exact h
    · simp only [he, hf]
   case body =>
    rintro l pre ⟨k, hk⟩ a' X hl hrec ⟨h1, h2, h3, h4⟩ ⟨p1, p2, hp1, hp2, hR, hR', rfl⟩ hlt
    have hkf : k < fs.length := by rw [HEL2.out]; exact hk
    obtain ⟨z1, z2, z3, z4, z5, z6, z7, he⟩ := hsh1 k hk
    obtain ⟨y1, y2, y3, y4, y5, y6, y7, hf⟩ := hsh2 k hkf
    simp only at hR hR' ⊢
    rw [he] at hR ⊢
    rw [hf] at hR' ⊢
    simp only at hR hR' ⊢
    have hkq : k < q1.length := by rw [← HEL1.out]; exact hk
    have hkq2 : k < q2.length := by rw [← HLEN.out]; exact hkq
    have hqk : q1[k]? = some q1[k] := List.getElem?_eq_getElem hkq
    have hqk2 : q2[k]? = some q2[k] := List.getElem?_eq_getElem hkq2
    obtain ⟨p, hpe⟩ : ∃ q, q1[k] = q := ⟨_, rfl⟩
    obtain ⟨q, hqe⟩ : ∃ q, q2[k] = q := ⟨_, rfl⟩
    rw [hpe] at hqk
    rw [hqe] at hqk2
    have hek : es[k]? = some es[k] := List.getElem?_eq_getElem hk
    have hfk : fs[k]? = some fs[k] := List.getElem?_eq_getElem hkf
    have hraw := HA1.out.2 k _ _ hek hqk
    have hraw2 := HA2.out.2 k _ _ hfk hqk2
    have e2 : es[k] = ⟨.bool z1, .slice z2 z3 z4, .slice z5 z6 z7⟩ := by rw [hek] at he; exact he
    have f2 : fs[k] = ⟨.bool y1, .slice y2 y3 y4, .slice y5 y6 y7⟩ := by rw [hfk] at hf; exact hf
    rw [e2] at hraw
    rw [f2] at hraw2
    have hlq := HL1.out p (List.mem_of_getElem? hqk)
    have hlq2 := HL2.out q (List.mem_of_getElem? hqk2)
    have hgd : q1[k]?.getD ⟨false, [], []⟩ = p := by rw [hqk]; rfl
    have hgd2 : q2[k]?.getD ⟨false, [], []⟩ = q := by rw [hqk2]; rfl
    obtain ⟨g0, g1, g2, _, _, _⟩ := hR.three
    obtain ⟨j0, j1, j2, _, _, _⟩ := hR'.three
    have hs3 := h3.size
    have hrX := hraw.later (hB.symm ▸ h3 : Below w.heap.size w X)
    have hrX2 := hraw2.later (hB.symm ▸ h3 : Below w.heap.size w X)
    gi_wp2_with fail
    refine roundCall ((sameX_any hrX hrX2 hlq hlq2 (by omega)).mono ?_)
    rintro e w8 ⟨rfl, b8⟩
    have s8 := b8.size
    have R8 := h1.later b8
    have f8 := R8.free 0
    have d8 := R8.cell 0
    by_cases hok : p.rat = q.rat
    · rw [decide_eq_true hok]
      gi_wp2
      refine ⟨keepsFrom_below b8, ⟨b8.mono (by omega), b8.block (I + 1) (by omega)⟩, R8, fun x hx => ?_, h3.trans (b8.mono (by omega)), by omega⟩
      rcases List.mem_append.1 hx with hx | hx
      · exact h2 x hx
      · simp at hx
        subst hx
        simp only
        rw [hgd, hgd2]
        exact hok
    · rw [decide_eq_false hok]
      have R9 : Row (w8.setCell ⟨B + 1 + 1, 0, none⟩ (.bool false)) (B + 1 + 1) 4 #[.bool false] := R8.set 0 _
      gi_wp2
      refine ⟨keepsFrom_set (keepsFrom_below b8) _ _, rfl, R9, ⟨_, List.mem_append_right _ (List.mem_singleton.2 rfl), ?_⟩, (h3.trans (b8.mono (by omega))).setCell (by show B ≤ B + 1 + 1; omega) _⟩
      show (q1[k]?.getD ⟨false, [], []⟩).rat ≠ (q2[k]?.getD ⟨false, [], []⟩).rat
      rw [hgd, hgd2]
      exact hok
   case done =>
    rintro D ys X hD hup ⟨h1, h2, h3, h4⟩ hK
    have hd : dd = true := by
     rw [← HD.out]
     refine allBC_yes HS.out HLEN.out fun k x y hx hy => ?_
     have hk1 : k < q1.length := by
      rcases Nat.lt_or_ge k q1.length with g | g
      · exact g
      · rw [List.getElem?_eq_none g] at hx; cases hx
     have hk2 : k < es.length := by rw [HEL1.out]; exact hk1
     have hm : (⟨k, hk2⟩ : Fin es.length) ∈ ys := by
      have h5 : k ∈ ys.map Fin.val := by rw [show ys.map Fin.val = List.range es.length from hup]; exact List.mem_range.2 hk2
      obtain ⟨z, hz, hv⟩ := List.mem_map.1 h5
      have : z = ⟨k, hk2⟩ := Fin.ext hv
      rw [← this]
      exact hz
     have h5 := h2 _ hm
     simp only at h5
     rw [hx, hy] at h5
     exact decide_eq_true h5
    subst hd
    have c5 := h1.cell 0
    have f5 := h1.free 0
    gi_wp2
    have hK' := (KeepsOthers.setCell X ⟨B + 1 + 1, 0, none⟩ (.bool true)).same D _ hK rfl
    refine ⟨by simp, .inl ⟨_, _, rfl, run_takeDeferred hK', ?_⟩⟩
    have hc5 := cell_kept ((h1.set 0 (.bool true)).cell 0) (grownBy_putObj' _ D (.deferred none)) (fun r e => by cases e; exact ⟨_, hK', rfl⟩)
    simp at hc5
    refine ⟨.bool true, by simp [results, Tryz.f26, go_sem, hc5], rfl, ?_⟩
    rw [hB]
    exact (h3.setCell (p := ⟨B + 1 + 1, 0, none⟩) (by show B ≤ B + 1 + 1; omega) _).trans (belowK_b (n₀ := B) (w := w) (by omega) _ D _ _ (by omega) hK' rfl rfl)
   case stop =>
    rintro D c pre X hD ⟨k, hk, hup⟩ ⟨rfl, h1, ⟨x, hx, hbad⟩, h3⟩ hK
    have hd : dd = false := by
     rw [← HD.out]
     refine allBC_no fun ⟨_, _, h⟩ => hbad ?_
     have hk1 : x.val < q1.length := by rw [← HEL1.out]; exact x.isLt
     have hk2 : x.val < q2.length := by rw [← HLEN.out]; exact hk1
     rw [List.getElem?_eq_getElem hk1, List.getElem?_eq_getElem hk2]
     exact of_decide_eq_true (h x.val _ _ (List.getElem?_eq_getElem hk1) (List.getElem?_eq_getElem hk2))
    subst hd
    gi_wp2
    refine ⟨by simp, .inl ⟨_, _, rfl, run_takeDeferred hK, ?_⟩⟩
    have hc5 := cell_kept (h1.cell 0) (grownBy_putObj' _ D (.deferred none)) (fun r e => by cases e; exact ⟨_, hK, rfl⟩)
    simp at hc5
    refine ⟨.bool false, by simp [results, Tryz.f26, go_sem, hc5], rfl, ?_⟩
    rw [hB]
    exact h3.trans (belowK_b (n₀ := B) (w := w) (by omega) _ D _ _ (by omega) hK rfl rfl)
 · have hd : dd = false := by
    rw [← HD.out]
    exact allBC_no fun ⟨h1, h2, _⟩ => hgo ⟨h1, h2⟩
   subst hd
   by_cases hs : s1 = s2
   · have htt : t = true := by rw [← ht]; exact decide_eq_true hs
     have hne : q1.length ≠ q2.length := fun e => hgo ⟨hs, e⟩
     have hn1 : ((q1.length : Int) != (q2.length : Int)) = true := by simp; omega
     subst htt
     clear hs ht hgo
     go_enter Tryz.func26, Tryz.ntmps26
     go_wp2_with fail
     refine hsame.mono ?_
     rintro e w4 ⟨rfl, b4⟩
     obtain ⟨k0, k1, _, _⟩ := (R0.later b4).two
     obtain ⟨k2, k3, _, _⟩ := (R1.later b4).two
     have R4 := R2.later b4
     have f4 := R4.free 0
     have x4 := R4.cell 0
     have R5 : Row (w4.setCell ⟨B + 1 + 1, 0, none⟩ (.bool false)) (B + 1 + 1) 4 #[.bool false] := R4.set 0 _
     have y4 := R5.cell 0
     simp at y4
     clear R5
     go_wp2_with fail
     refine bodyPost_ret (v := .bool false) (by simp [results, Tryz.results26, go_sem, y4]) rfl ⟨rfl, ?_⟩
     rw [hB]
     exact (hb2.trans (b4.mono (by omega))).setCell (p := ⟨B + 1 + 1, 0, none⟩) (by show B ≤ B + 1 + 1; omega) _
   · have htt : t = false := by rw [← ht]; exact decide_eq_false hs
     subst htt
     go_enter Tryz.func26, Tryz.ntmps26
     go_wp2_with fail
     refine hsame.mono ?_
     rintro e w4 ⟨rfl, b4⟩
     have R4 := R2.later b4
     have f4 := R4.free 0
     have x4 := R4.cell 0
     have R5 : Row (w4.setCell ⟨B + 1 + 1, 0, none⟩ (.bool false)) (B + 1 + 1) 4 #[.bool false] := R4.set 0 _
     have y4 := R5.cell 0
     simp at y4
     clear R5
     go_wp2_with fail
     refine bodyPost_ret (v := .bool false) (by simp [results, Tryz.results26, go_sem, y4]) rfl ⟨rfl, ?_⟩
     rw [hB]
     exact (hb2.trans (b4.mono (by omega))).setCell (p := ⟨B + 1 + 1, 0, none⟩) (by show B ≤ B + 1 + 1; omega) _
end
section
open Go.RowKit Go.ChangeShapes Go.WideShapes Go.ChangeAt Go.Joins Go.Deep
theorem DotQ.only {base n g : Nat} {w w' : World} {r : Value} {x : Rat} {c : Int} {cs : Array Value} (h : DotQ base w r x n c) (R : Row w g 54 cs) (k : Only g w w') : DotQ base w' r x n c := ⟨fun e => (h.1 e).only R k, h.2⟩
theorem TenC.only {base n g : Nat} {w w' : World} {r : Value} {s : List Int} {L : List Rat} {c : Int} {cs : Array Value} (h : TenC base w r s L n c) (R : Row w g 26 cs) (k : Only g w w') : TenC base w' r s L n c := ⟨fun e => (h.1 e).far R (by decide) (by decide) (by decide) k.block, h.2⟩
end
section
open Go.RowKit
theorem orL_three (x y z : Int) : orL [x, y, z] = if x ≠ 0 then x else if y ≠ 0 then y else z := by
 unfold orL
 by_cases h : x = 0
 · rw [if_pos h, if_neg (by simp [h]), orL_two]
 · rw [if_neg h, if_pos h]
def twoC (c : Int) (ok : Bool) : Int := if c ≠ 0 then c else if ok = true then 0 else 17
theorem dotC_parts {s1 s2 : List Int} {q1 q2 : List Q3} (h : dotC s1 s2 q1 q2 = 0) : mayT s1 q1 = 0 ∧ mayT s2 q2 = 0 ∧ s1 = s2 := by
 unfold dotC at h
 split at h
 · rename_i h1; exact absurd h h1
 · rename_i h1
   split at h
   · rename_i h2; exact absurd h h2
   · rename_i h2
     split at h
     · cases h
     · rename_i h3
       exact ⟨by simpa using h1, by simpa using h2, by simpa using h3⟩
theorem ofTwo_any {F : Nat} {cap : Array Value} {ok : Rat → Rat → Bool} {f : Rat → Rat → Rat} {n N : Nat} {w : World} {u v : Value} {s1 s2 : List Int} {q1 q2 : List Q3} {a1 b1 a2 b2 : Option Addr} {ca1 cb1 ca2 cb2 : Nat} (T1 : TensQ w u s1 q1 a1 ca1 b1 cb1) (T2 : TensQ w v s2 q2 a2 ca2 b2 cb2) (hs1 : s1.length ≤ 17592186044416) (hs2 : s2.length ≤ 17592186044416) (hq1 : q1.length ≤ 1000000) (hq2 : q2.length ≤ 1000000) (hl1 : lensQ q1 n) (hl2 : lensQ q2 n) (hn : n ≤ 1000000)
 (heF : ∀ args w, (callFunc F args).run Tryz.prog w = .ok (.enter F args) w)
 (hdo : ∀ (W : World) (x y : Value) (p q : Q3), p ∈ q1 → q ∈ q2 → Below w.heap.size w W → RawQ W x p → RawQ W y q → Calls Tryz.prog F (#[x, y] ++ cap) W fun e w' => Op2 W.heap.size w' e (ok p.rat q.rat) (f p.rat q.rat) N ∧ Below W.heap.size W w') :
 Calls Tryz.prog 73 #[u, v, .func (.func F) #[] cap] w fun e w' => One w.heap.size w' e (twoC (dotC s1 s2 q1 q2) (zipOk ok q1 q2)) s1 (zipQ f q1 q2) N ∧ Below w.heap.size w w' := by
 have HT1 := Lib.hid T1
 have HT2 := Lib.hid T2
 have HL1 := Lib.hid hl1
 have HL2 := Lib.hid hl2
 have HDO := Lib.hid hdo
 obtain rfl := T1.is
 obtain rfl := T2.is
 obtain ⟨W, hW⟩ : ∃ W, (((w.alloc (.cells #[.slice a1 s1.length ca1, .slice b1 q1.length cb1] 26)).alloc (.cells #[.slice a2 s2.length ca2, .slice b2 q2.length cb2] 26)).alloc (.cells #[.slice none 0 0, .slice none 0 0] 26)) = W := ⟨_, rfl⟩
 have R0 : Row W (w.heap.size) 26 #[.slice a1 s1.length ca1, .slice b1 q1.length cb1] := by rw [← hW]; have h := Row.new w 26 #[.slice a1 s1.length ca1, .slice b1 q1.length cb1]; (try simp only [World.size_alloc] at h); exact ((h.alloc _).alloc _)
 have R1 : Row W (w.heap.size + 1) 26 #[.slice a2 s2.length ca2, .slice b2 q2.length cb2] := by rw [← hW]; have h := Row.new (w.alloc (.cells #[.slice a1 s1.length ca1, .slice b1 q1.length cb1] 26)) 26 #[.slice a2 s2.length ca2, .slice b2 q2.length cb2]; (try simp only [World.size_alloc] at h); exact (h.alloc _)
 have R2 : Row W (w.heap.size + 1 + 1) 26 #[.slice none 0 0, .slice none 0 0] := by rw [← hW]; have h := Row.new ((w.alloc (.cells #[.slice a1 s1.length ca1, .slice b1 q1.length cb1] 26)).alloc (.cells #[.slice a2 s2.length ca2, .slice b2 q2.length cb2] 26)) 26 #[.slice none 0 0, .slice none 0 0]; (try simp only [World.size_alloc] at h); exact h
 have hBW : Below w.heap.size w W := by rw [← hW]; exact ((((Below.refl _ _).alloc (by (try simp) <;> omega) _).alloc (by (try simp) <;> omega) _).alloc (by (try simp) <;> omega) _)
 have hsW : W.heap.size = w.heap.size + 1 + 1 + 1 := by rw [← hW]; simp
 have hm1 := fun (X : World) (hX : Below W.heap.size W X) => mayT7_big (HT1.out.later (hBW.trans (hX.mono (by omega)))) (by omega) HL1.out (by omega)
 have hm2 := fun (X : World) (hX : Below W.heap.size W X) => mayT7_big (HT2.out.later (hBW.trans (hX.mono (by omega)))) (by omega) HL2.out (by omega)
 have hmp := fun (X : World) (hX : Below W.heap.size W X) => mayPair_any (HT1.out.later (hBW.trans (hX.mono (by omega)))) (HT2.out.later (hBW.trans (hX.mono (by omega)))) hs1 hs2
 obtain ⟨m1, hm1e⟩ : ∃ m, mayT s1 q1 = m := ⟨_, rfl⟩
 obtain ⟨m2, hm2e⟩ : ∃ m, mayT s2 q2 = m := ⟨_, rfl⟩
 obtain ⟨m3, hm3e⟩ : ∃ m : Int, (if s1 = s2 then 0 else 13) = m := ⟨_, rfl⟩
 rw [hm1e] at hm1
 rw [hm2e] at hm2
 rw [hm3e] at hmp
 have hcode : dotC s1 s2 q1 q2 = orL [m1, m2, m3] := by
  rw [orL_three]
  unfold dotC
  rw [hm1e, hm2e, ← hm3e]
  by_cases h : s1 = s2
  · simp [h]
  · simp [h]
 have mkS : ∀ X, Below W.heap.size W X → X.cell? ⟨w.heap.size, 0, none⟩ = some (.slice a1 s1.length ca1) ∧ X.cell? ⟨w.heap.size, 1, none⟩ = some (.slice b1 q1.length cb1) ∧ X.cell? ⟨w.heap.size + 1, 0, none⟩ = some (.slice a2 s2.length ca2) ∧ X.cell? ⟨w.heap.size + 1, 1, none⟩ = some (.slice b2 q2.length cb2) := fun X h => by
  obtain ⟨x0, x1, _⟩ := (R0.later h).two
  obtain ⟨x2, x3, _⟩ := (R1.later h).two
  exact ⟨x0, x1, x2, x3⟩
 have B0 : Below W.heap.size W W.drew := (Below.refl _ W).drew
 obtain ⟨c, hc⟩ : ∃ c, orL [m1, m2, m3] = c := ⟨_, rfl⟩
 have HC := Lib.hid (hcode.trans hc)
 have HC2 := Lib.hid hc
 rw [hcode, hc]
 obtain ⟨L, hL⟩ : ∃ L, zipQ f q1 q2 = L := ⟨_, rfl⟩
 obtain ⟨t, ht⟩ : ∃ t, zipOk ok q1 q2 = t := ⟨_, rfl⟩
 obtain ⟨d, hd⟩ : ∃ d, twoC c t = d := ⟨_, rfl⟩
 rw [hL, ht, hd]
 have HLE := Lib.hid hL
 have HTE := Lib.hid ht
 have HDE := Lib.hid hd
 clear hL ht hd
 clear T1 T2 hm1e hm2e hm3e hcode hc hl1 hl2 hdo
 go_enter Tryz.func73, Tryz.ntmps73
 go_wp2_with fail
 (try rw [hW])
 clear hW
 refine wp_region_held (S := fun X => X.cell? ⟨w.heap.size, 0, none⟩ = some (.slice a1 s1.length ca1) ∧ X.cell? ⟨w.heap.size, 1, none⟩ = some (.slice b1 q1.length cb1) ∧ X.cell? ⟨w.heap.size + 1, 0, none⟩ = some (.slice a2 s2.length ca2) ∧ X.cell? ⟨w.heap.size + 1, 1, none⟩ = some (.slice b2 q2.length cb2)) (by kernel_rfl) ?_
 have hHeld := mkS _ B0
 refine todo [0, 2, 4, 5] ?_
 iterate 4
  refine todoH (v := ?_) rfl (by kernel_rfl) (fun _ _ _ h => h) (by assumption) (Or.inl ⟨by rfl, ?_⟩) ?_
  rotate_left
  · intro w hSw; (try dsimp only at hSw); go_simp; (try with_reducible rfl)
  try simp only [Act.put, List.getElem_toArray, List.getElem_cons_succ, List.getElem_cons_zero, List.setIfInBounds_toArray, List.set_cons_zero, List.set_cons_succ]
 refine todone ?_
 refine wpAnyH_ready (rs := [1]) (by kernel_rfl) (by simp) ?_
 refine AllReadyH.cons rfl (fun K hK => ?sq1c1) AllReadyH.nil
 go_simp
 refine (hm1 _ B0).mono ?_
 rintro e y1 ⟨rfl, hy⟩
 have B1 : Below W.heap.size W y1 := B0.trans (hy.mono B0.size)
 have D1 := hy
 clear hy
 go_simp
 refine hK.out _ _ ?kq1c1 (fun hHeld => ?mq1c1)
 case kq1c1 =>
  try dsimp only
  exact mkS _ B1
 clear hK K
 try simp only [Act.put, List.setIfInBounds_toArray, List.set_cons_zero, List.set_cons_succ]
 refine wpAnyH_ready (rs := [3]) (by kernel_rfl) (by simp) ?_
 refine AllReadyH.cons rfl (fun K hK => ?sq2c3) AllReadyH.nil
 go_simp
 refine (hm2 _ B1).mono ?_
 rintro e y2 ⟨rfl, hy⟩
 have B2 : Below W.heap.size W y2 := B1.trans (hy.mono B1.size)
 have D2 := hy
 clear hy
 go_simp
 refine hK.out _ _ ?kq2c3 (fun hHeld => ?mq2c3)
 case kq2c3 =>
  try dsimp only
  exact mkS _ B2
 clear hK K
 try simp only [Act.put, List.setIfInBounds_toArray, List.set_cons_zero, List.set_cons_succ]
 refine wpAnyH_ready (rs := [6]) (by kernel_rfl) (by simp) ?_
 refine AllReadyH.cons rfl (fun K hK => ?sq3c6) AllReadyH.nil
 go_simp
 refine (hmp _ B2).mono ?_
 rintro e y3 ⟨rfl, hy⟩
 have B3 : Below W.heap.size W y3 := B2.trans (hy.mono B2.size)
 have D3 := hy
 clear hy
 go_simp
 refine hK.out _ _ ?kq3c6 (fun hHeld => ?mq3c6)
 case kq3c6 =>
  try dsimp only
  exact mkS _ B3
 clear hK K
 try simp only [Act.put, List.setIfInBounds_toArray, List.set_cons_zero, List.set_cons_succ]
 have z3 := B3.size
 have A3 : Below W.heap.size W (y3.alloc (.cells #[.int .i64 m1, .int .i64 m2, .int .i64 m3] 29)) := B3.alloc (by omega) _
 refine wpAnyH_ready (rs := [7]) (by kernel_rfl) (by simp) ?_
 refine AllReadyH.cons rfl (fun K hK => ?sal3) AllReadyH.nil
 go_simp
 refine hK.out _ _ ?kal3 (fun hHeld => ?mal3)
 case kal3 =>
  try dsimp only
  exact mkS _ A3
 clear hK K
 try simp only [Act.put, List.setIfInBounds_toArray, List.set_cons_zero, List.set_cons_succ]
 refine wpAnyH_ready (rs := [8]) (by kernel_rfl) (by simp) ?_
 refine AllReadyH.cons rfl (fun K hK => ?sor3) AllReadyH.nil
 go_simp
 refine (or_any (xs := [m1, m2, m3]) (b := y3.heap.size) (fun k hk => by
  have R := Row.new y3 29 #[.int .i64 m1, .int .i64 m2, .int .i64 m3]
  simp only [List.length_cons, List.length_nil] at hk
  by_cases h0 : k = 0
  · subst h0; exact R.cell 0
  by_cases h1 : k = 1
  · subst h1; exact R.cell 1
  by_cases h2 : k = 2
  · subst h2; exact R.cell 2
  · omega) (by simp)).mono ?_
 rintro e y4 ⟨rfl, rfl⟩
 have B4 := A3
 go_simp
 refine hK.out _ _ ?kor3 (fun hHeld => ?mor3)
 case kor3 =>
  try dsimp only
  exact mkS _ A3
 clear hK K
 try simp only [Act.put, List.setIfInBounds_toArray, List.set_cons_zero, List.set_cons_succ]
 rw [HC2.out]
 refine wpAnyH_ready (rs := [9]) (by kernel_rfl) (by simp) ?_
 refine AllReadyH.cons rfl (fun K hK => ?sas) AllReadyH.nil
 go_simp
 refine hK.out _ _ ?kas (fun hHeld => ?mas)
 case kas =>
  try dsimp only
  exact mkS _ A3
 clear hK K
 try simp only [Act.put, List.setIfInBounds_toArray, List.set_cons_zero, List.set_cons_succ]
 refine wpAnyH_done (by kernel_rfl) ?_ _
 (try dsimp only [Straight])
 obtain ⟨y4, hy4⟩ : ∃ y4, y3.alloc (.cells #[.int .i64 m1, .int .i64 m2, .int .i64 m3] 29) = y4 := ⟨_, rfl⟩
 rw [hy4] at A3 ⊢
 obtain ⟨x0, x1, x2, x3⟩ := mkS _ A3
 have P1 := R2.later A3
 have Q0 := R0.later A3
 have s4 := A3.size
 have hB4 : Below w.heap.size w y4 := hBW.trans (A3.mono (by omega))
 have H1 := Lib.hid hm1
 clear hy4 hm1 hm2 hmp D1 D2 D3 B1 B2 B3 z3
 by_cases h0 : c = 0
 · subst h0
   obtain ⟨hv1, hv2, hs⟩ := dotC_parts HC.out
   have hlen : q2.length = q1.length := by
    have g1 := (mayT_valid hv1).1
    have g2 := (mayT_valid hv2).1
    rw [← hs] at g2
    omega
   have hj := joined_any (ok := ok) (f := f) (N := N) (HT1.out.later hB4).el (HT2.out.later hB4).el hlen hq1 heF (fun X x y p q hp hq hX hx hy => HDO.out X x y p q hp hq (hB4.trans (hX.mono (by omega))) hx hy)
   rw [HLE.out, HTE.out] at hj
   have HJ := Lib.hid hj
   clear hj hv1 hv2 hs hlen mkS
   go_wp2_with fail
   refine HJ.out.mono ?_
   rintro e y5 ⟨⟨ht, r, rfl, RO⟩ | ⟨ht, rfl⟩, hb5⟩
   · have hd0 : d = 0 := by rw [← HDE.out, ht]; rfl
     obtain ⟨b', cb', rfl⟩ := rowO_slice RO
     have s5 := hb5.size
     obtain ⟨k0, k1, _, _⟩ := (Q0.later hb5).two
     have P5 := P1.later hb5
     have HO := Lib.hid RO
     have hsh := shaped_any (b := b') (n := L.length) (cb := cb') ((HT1.out.later hB4).later hb5).sh HT1.out.nila hs1
     have HSH := Lib.hid hsh
     obtain ⟨l, hl⟩ : ∃ l, L.length = l := ⟨_, rfl⟩
     rw [hl] at hsh ⊢
     have HLL := Lib.hid hl
     have hSH := Lib.hid hsh
     clear hsh hl RO HSH
     go_wp2_with fail
     refine hSH.out.mono ?_
     rintro e y6 ⟨a', ca', rfl, RS, hb6⟩
     have s6 := hb6.size
     have P6 := P5.later hb6
     obtain ⟨u0, u1, g0, g1⟩ := P6.two
     have HR := Lib.hid RS
     clear RS
     go_wp2_with fail
     have P7 := P6.set2 (.slice a' s1.length ca') (.slice b' l cb')
     obtain ⟨z0, z1, _, _⟩ := P7.two
     have hR : ResT w.heap.size y6 (.agg #[.slice a' s1.length ca', .slice b' l cb']) s1 L N := ⟨a', b', ca', cb', by rw [HLL.out], HR.out.mono (by omega), (HO.out.later hb6 (fun v x h => h.later hb6)).mono (by omega) (fun v x h => h.mono (by omega))⟩
     refine bodyPost_ret (v := .tuple #[.agg #[.slice a' s1.length ca', .slice b' l cb'], .int .i64 0]) (by simp [results, Tryz.results73, go_sem, z0, z1]) rfl ⟨.inl ⟨hd0, _, rfl, hR.far P6 (by decide) (by decide) (by decide) (kept2 _ _)⟩, below_set2 ((hB4.trans (hb5.mono (by omega))).trans (hb6.mono (by omega))) (by omega) _ _⟩
   · have hd0 : d = 17 := by rw [← HDE.out, ht]; rfl
     have s5 := hb5.size
     have P5 := P1.later hb5
     obtain ⟨u0, u1, g0, g1⟩ := P5.two
     go_wp2_with fail
     have P7 := P5.set2 (.slice none 0 0) (.slice none 0 0)
     obtain ⟨z0, z1, _, _⟩ := P7.two
     refine bodyPost_ret (v := .tuple #[noTensor, .int .i64 17]) (by simp [results, Tryz.results73, go_sem, z0, z1, noTensor]) rfl ⟨.inr ⟨by rw [hd0]; decide, by rw [hd0]⟩, below_set2 (hB4.trans (hb5.mono (by omega))) (by omega) _ _⟩
 · have hne : (c != 0) = true := by simp [h0]
   have H0 := Lib.hid h0
   have htw : d = c := by rw [← HDE.out]; unfold twoC; rw [if_pos h0]
   subst htw
   obtain ⟨u0, u1, g0, g1⟩ := P1.two
   clear h0 mkS
   go_wp2_with fail
   have P3 := P1.set2 (.slice none 0 0) (.slice none 0 0)
   obtain ⟨z0, z1, _, _⟩ := P3.two
   refine bodyPost_ret (v := .tuple #[noTensor, .int .i64 d]) (by simp [results, Tryz.results73, go_sem, z0, z1, noTensor]) rfl ⟨.inr ⟨H0.out, rfl⟩, below_set2 hB4 (by omega) _ _⟩
end
section
open Go.RowKit
theorem addP_any {n : Nat} {w : World} {u v : Value} {s1 s2 : List Int} {q1 q2 : List Q3} {a1 b1 a2 b2 : Option Addr} {ca1 cb1 ca2 cb2 : Nat} (T1 : TensQ w u s1 q1 a1 ca1 b1 cb1) (T2 : TensQ w v s2 q2 a2 ca2 b2 cb2) (hs1 : s1.length ≤ 17592186044416) (hs2 : s2.length ≤ 17592186044416) (hq1 : q1.length ≤ 1000000) (hq2 : q2.length ≤ 1000000) (hl1 : lensQ q1 n) (hl2 : lensQ q2 n) (hn : n ≤ 1000000) :
 Calls Tryz.prog 30 #[u, v] w fun e w' => One w.heap.size w' e (twoC (dotC s1 s2 q1 q2) (zipOk (fun _ _ => true) q1 q2)) s1 (zipQ (fun x y => x + y) q1 q2) (2 * n + 10) ∧ Below w.heap.size w w' := by
 have HT1 := Lib.hid T1
 have HT2 := Lib.hid T2
 have HL1 := Lib.hid hl1
 have HL2 := Lib.hid hl2
 obtain rfl := T1.is
 obtain rfl := T2.is
 obtain ⟨W, hW⟩ : ∃ W, (((w.alloc (.cells #[.slice a1 s1.length ca1, .slice b1 q1.length cb1] 26)).alloc (.cells #[.slice a2 s2.length ca2, .slice b2 q2.length cb2] 26)).alloc (.cells #[.slice none 0 0, .slice none 0 0] 26)) = W := ⟨_, rfl⟩
 have R0 : Row W (w.heap.size) 26 #[.slice a1 s1.length ca1, .slice b1 q1.length cb1] := by rw [← hW]; have h := Row.new w 26 #[.slice a1 s1.length ca1, .slice b1 q1.length cb1]; (try simp only [World.size_alloc] at h); exact ((h.alloc _).alloc _)
 have R1 : Row W (w.heap.size + 1) 26 #[.slice a2 s2.length ca2, .slice b2 q2.length cb2] := by rw [← hW]; have h := Row.new (w.alloc (.cells #[.slice a1 s1.length ca1, .slice b1 q1.length cb1] 26)) 26 #[.slice a2 s2.length ca2, .slice b2 q2.length cb2]; (try simp only [World.size_alloc] at h); exact (h.alloc _)
 have R2 : Row W (w.heap.size + 1 + 1) 26 #[.slice none 0 0, .slice none 0 0] := by rw [← hW]; have h := Row.new ((w.alloc (.cells #[.slice a1 s1.length ca1, .slice b1 q1.length cb1] 26)).alloc (.cells #[.slice a2 s2.length ca2, .slice b2 q2.length cb2] 26)) 26 #[.slice none 0 0, .slice none 0 0]; (try simp only [World.size_alloc] at h); exact h
 have hBW : Below w.heap.size w W := by rw [← hW]; exact ((((Below.refl _ _).alloc (by (try simp) <;> omega) _).alloc (by (try simp) <;> omega) _).alloc (by (try simp) <;> omega) _)
 have hsW : W.heap.size = w.heap.size + 1 + 1 + 1 := by rw [← hW]; simp
 have hcall := fun (y : World) (hy : Below W.heap.size W y) (g : Nat) (hg : y.cell? ⟨g, 0, none⟩ = some (.func (.func 75) #[] #[])) =>
  ofTwo_any (F := 117) (cap := #[.pointer (some ⟨g, 0, none⟩)]) (ok := fun _ _ => true) (f := fun x y => x + y) (N := (2 * n + 10)) (HT1.out.later (hBW.trans (hy.mono (by omega)))) (HT2.out.later (hBW.trans (hy.mono (by omega)))) hs1 hs2 hq1 hq2 HL1.out HL2.out hn (enters_of Tryz.func117 (by kernel_rfl) rfl)
   (fun X x y' p q hp hq hX hx hy' => (total1_any (n := 0) (F := 75) hx hy' ((hX.cell (World.block_lt_of_cell? _ _ hg)).trans hg) (enters_of Tryz.func75 (by kernel_rfl) rfl) (fun Y x' y'' hY hx2 hy2 => addQ_any (hx2.arg (HL1.out p hp).1 (HL1.out p hp).2) (hy2.arg (HL2.out q hq).1 (HL2.out q hq).2) (by omega))).mono fun e w' ⟨r, e1, e2, e3⟩ => ⟨.inl ⟨rfl, r, e1, e2⟩, e3⟩)
 obtain ⟨L, hL⟩ : ∃ L, zipQ (fun x y => x + y) q1 q2 = L := ⟨_, rfl⟩
 obtain ⟨c, hc⟩ : ∃ c, twoC (dotC s1 s2 q1 q2) (zipOk (fun _ _ => true) q1 q2) = c := ⟨_, rfl⟩
 simp only [hL, hc] at hcall
 rw [hL, hc]
 have HC := Lib.hid hcall
 have mkS : ∀ X, Below W.heap.size W X → X.cell? ⟨w.heap.size, 0, none⟩ = some (.slice a1 s1.length ca1) ∧ X.cell? ⟨w.heap.size, 1, none⟩ = some (.slice b1 q1.length cb1) ∧ X.cell? ⟨w.heap.size + 1, 0, none⟩ = some (.slice a2 s2.length ca2) ∧ X.cell? ⟨w.heap.size + 1, 1, none⟩ = some (.slice b2 q2.length cb2) := fun X h => by
  obtain ⟨x0, x1, _⟩ := (R0.later h).two
  obtain ⟨x2, x3, _⟩ := (R1.later h).two
  exact ⟨x0, x1, x2, x3⟩
 have B0 : Below W.heap.size W W.drew := (Below.refl _ W).drew
 clear T1 T2 hl1 hl2 hL hc hcall
 go_enter Tryz.func30, Tryz.ntmps30
 go_wp2_with fail
 (try rw [hW])
 clear hW
 refine wp_region_held (S := fun X => X.cell? ⟨w.heap.size, 0, none⟩ = some (.slice a1 s1.length ca1) ∧ X.cell? ⟨w.heap.size, 1, none⟩ = some (.slice b1 q1.length cb1) ∧ X.cell? ⟨w.heap.size + 1, 0, none⟩ = some (.slice a2 s2.length ca2) ∧ X.cell? ⟨w.heap.size + 1, 1, none⟩ = some (.slice b2 q2.length cb2)) (by kernel_rfl) ?_
 have hHeld := mkS _ B0
 refine todo [0, 1] ?_
 iterate 2
  refine todoH (v := ?_) rfl (by kernel_rfl) (fun _ _ _ h => h) (by assumption) (Or.inl ⟨by rfl, ?_⟩) ?_
  rotate_left
  · intro w hSw; (try dsimp only at hSw); go_simp; (try with_reducible rfl)
  try simp only [Act.put, List.getElem_toArray, List.getElem_cons_succ, List.getElem_cons_zero, List.setIfInBounds_toArray, List.set_cons_zero, List.set_cons_succ]
 refine todone ?_
 refine wpAnyH_ready (rs := [2]) (by kernel_rfl) (by simp) ?_
 refine AllReadyH.cons rfl (fun K hK => ?stot) AllReadyH.nil
 go_simp
 refine (total_any 75 _).mono ?_
 rintro e yy ⟨rfl, rfl⟩
 obtain ⟨y1, hy1⟩ : ∃ y1, W.drew = y1 := ⟨_, rfl⟩
 rw [hy1] at B0 ⊢
 have A1 : Below W.heap.size W (y1.alloc (.cells #[.func (.func 75) #[] #[]] 112)) := B0.alloc (by have := B0.size; omega) _
 go_simp
 refine hK.out _ _ ?ktot (fun hHeld => ?mtot)
 case ktot =>
  try dsimp only
  exact mkS _ A1
 clear hK K
 try simp only [Act.put, List.setIfInBounds_toArray, List.set_cons_zero, List.set_cons_succ]
 refine wpAnyH_ready (rs := [3]) (by kernel_rfl) (by simp) ?_
 refine AllReadyH.cons rfl (fun K hK => ?stwo) AllReadyH.nil
 go_simp
 refine (HC.out _ A1 y1.heap.size (by simp)).mono ?_
 rintro e w2 ⟨h, hb2⟩
 have A2 : Below W.heap.size W w2 := A1.trans (hb2.mono A1.size)
 have A1s := A1.size
 have P2 := R2.later A2
 obtain ⟨g1, g2, l1, l2, g3, g4, rfl, hr⟩ := h.shape
 go_simp
 refine hK.out _ _ ?ktwo (fun hHeld => ?mtwo)
 case ktwo =>
  try dsimp only
  exact mkS _ A2
 clear hK K
 try simp only [Act.put, List.setIfInBounds_toArray, List.set_cons_zero, List.set_cons_succ]
 refine todo [4, 5] ?_
 iterate 2
  refine todoH (v := ?_) rfl (by kernel_rfl) (fun _ _ _ h => h) (by assumption) (Or.inl ⟨by rfl, ?_⟩) ?_
  rotate_left
  · intro w hSw; (try dsimp only at hSw); go_simp; (try with_reducible rfl)
  try simp only [Act.put, List.getElem_toArray, List.getElem_cons_succ, List.getElem_cons_zero, List.setIfInBounds_toArray, List.set_cons_zero, List.set_cons_succ]
 refine todone ?_
 obtain ⟨k0, k1, k2, k3⟩ := P2.two
 refine wpAnyH_ready (rs := [6]) (by kernel_rfl) (by simp) ?_
 refine AllReadyH.cons rfl (fun K hK => ?sst6) AllReadyH.nil
 go_simp
 refine afterSet2 P2 (fun X6 o6 zs6 => ?_)
 skip
 refine hK.out _ _ ?kst6 (fun hHeld => ?mst6)
 case kst6 =>
  try dsimp only
  exact ⟨((R0.later A2).only o6 (by omega)).cell 0, ((R0.later A2).only o6 (by omega)).cell 1, ((R1.later A2).only o6 (by omega)).cell 0, ((R1.later A2).only o6 (by omega)).cell 1⟩
 clear hK K
 try simp only [Act.put, List.setIfInBounds_toArray, List.set_cons_zero, List.set_cons_succ]
 refine wpAnyH_ready (rs := [7]) (by kernel_rfl) (by simp) ?_
 refine AllReadyH.cons rfl (fun K hK => ?sas7) AllReadyH.nil
 go_simp
 refine hK.out _ _ ?kas7 (fun hHeld => ?mas7)
 case kas7 =>
  try dsimp only
  exact ⟨((R0.later A2).only o6 (by omega)).cell 0, ((R0.later A2).only o6 (by omega)).cell 1, ((R1.later A2).only o6 (by omega)).cell 0, ((R1.later A2).only o6 (by omega)).cell 1⟩
 clear hK K
 try simp only [Act.put, List.setIfInBounds_toArray, List.set_cons_zero, List.set_cons_succ]
 refine wpAnyH_done (by kernel_rfl) ?_ _
 (try dsimp only [Straight])
 obtain ⟨z0, z1, _, _⟩ := zs6.two
 have s2 := A2.size
 have hB6 : Below w.heap.size w X6 := (hBW.trans (A2.mono (by omega))).trans (o6.below (by omega))
 have HRR := Lib.hid hr
 clear hr
 go_wp2_with fail
 refine bodyPost_ret (v := .tuple #[.agg #[.slice g1 l1 g3, .slice g2 l2 g4], .int .i64 c]) (by simp [results, Tryz.results30, go_sem, z0, z1]) rfl ⟨One.of ?_, hB6⟩
 rcases HRR.out with ⟨h0, h⟩ | ⟨h0, h⟩
 · exact .inl ⟨h0, (h.mono (by omega)).far P2 (by decide) (by decide) (by decide) (fun k hk => o6.block k hk)⟩
 · exact .inr ⟨h0, h⟩
end
section
open Go.RowKit
theorem zipQ_eq {f : Rat → Rat → Rat} {q1 q2 : List Q3} {L1 L2 : List Rat} (h1 : q1.map Q3.rat = L1) (h2 : q2.map Q3.rat = L2) : zipQ f q1 q2 = List.zipWith f L1 L2 := by
 subst h1
 subst h2
 unfold zipQ
 rw [List.zipWith_map]
theorem zipOk_true {q1 q2 : List Q3} : zipOk (fun _ _ => true) q1 q2 = true := by
 unfold zipOk
 rw [List.all_eq_true]
 intro x hx
 obtain ⟨i, hi, rfl⟩ := List.mem_iff_getElem.1 hx
 simp
theorem two_zero {s : List Int} {q1 q2 : List Q3} {ok : Bool} (h1 : mayT s q1 = 0) (h2 : mayT s q2 = 0) (h : ok = true) : twoC (dotC s s q1 q2) ok = 0 := by
 unfold twoC dotC
 simp [h1, h2, h]
end
section
open Go.RowKit
theorem sameL10 {s : List Int} {p q : List Q3} (h : p.map Q3.rat = q.map Q3.rat) : allBC (fun (p q : Q3) => decide (p.rat = q.rat)) s s p q = true :=
 allBC_yes rfl (by have := congrArg List.length h; simpa using this) fun i x y hx hy => by
  have h1 := congrArg (fun l => l[i]?) h
  simp only [List.getElem?_map, hx, hy, Option.map_some, Option.some.injEq] at h1
  exact decide_eq_true h1
theorem lensQ.more10 {qs : List Q3} {n m : Nat} (h : lensQ qs n) (hm : n ≤ m) : lensQ qs m := fun q hq => ⟨Nat.le_trans (h q hq).1 hm, Nat.le_trans (h q hq).2 hm⟩
theorem sameA10 {b1 b2 n m : Nat} {w : World} {u v : Value} {s t : List Int} {L M : List Rat} (h1 : ResT b1 w u s L n) (h2 : ResT b2 w v t M m) (hs : Ok10 s L) (est : s = t) (eLM : L = M) (hn : n ≤ 4000000) (hm : m ≤ 4000000) :
 Calls Tryz.prog 26 #[u, v] w fun e w' => e = .returned (.bool true) ∧ Below w.heap.size w w' := by
 subst est; subst eLM
 obtain ⟨f1, f2⟩ := hs.few
 obtain ⟨q1, a1, c1, ca1, cc1, T1, e1, l1, k1⟩ := h1.tens
 obtain ⟨q2, a2, c2, ca2, cc2, T2, e2, l2, k2⟩ := h2.tens
 have g1 : q1.length = L.length := by rw [← e1]; simp
 have g2 : q2.length = L.length := by rw [← e2]; simp
 have h := sameT7_any (n := max n m) T1 T2 (by omega) (by omega) (by omega) (by omega) (l1.more10 (by omega)) (l2.more10 (by omega)) (by omega)
 rwa [sameL10 (e1.trans e2.symm)] at h
theorem mayA10 {b1 n : Nat} {w : World} {u : Value} {s : List Int} {L : List Rat} (h1 : ResT b1 w u s L n) (hs : Ok10 s L) (hn : n ≤ 4000000) :
 Calls Tryz.prog 27 #[u] w fun e w' => e = .returned (.int .i64 0) ∧ Below w.heap.size w w' := by
 obtain ⟨f1, f2⟩ := hs.few
 obtain ⟨q1, a1, c1, ca1, cc1, T1, e1, l1, k1⟩ := h1.tens
 have g1 : q1.length = L.length := by rw [← e1]; simp
 have h := mayT7_any (n := n) T1 (by omega) (by omega) l1 hn
 rwa [hs.may e1 k1] at h
end
section
open Go.RowKit
theorem ResQ.more10 {base n m : Nat} {w : World} {v : Value} {x : Rat} (h : ResQ base w v x n) (hm : n ≤ m) : ResQ base w v x m := by
 obtain ⟨zs, ys, ad, bd, ca, cb, hv, A, B, h1, h2⟩ := h
 exact ⟨zs, ys, ad, bd, ca, cb, hv, A, B, by omega, by omega⟩
theorem ResT.more10 {base n m : Nat} {w : World} {v : Value} {s : List Int} {L : List Rat} (h : ResT base w v s L n) (hm : n ≤ m) : ResT base w v s L m := by
 obtain ⟨a, b, ca, cb, hv, h1, es, h2, h3⟩ := h
 exact ⟨a, b, ca, cb, hv, h1, es, h2, h3.imp fun v x _ h => h.more10 hm⟩
theorem cnt_two10 (a b : Nat) : cntF [(a : Int), (b : Int)] = a * b := by
 unfold cntF
 have : prodS [(a : Int), (b : Int)] = ((a * b : Nat) : Int) := by
  simp only [prodS, Int.mul_one]
  exact (Int.natCast_mul a b).symm
 rw [this]
 rfl
theorem Few10.mat {a b : Nat} (h : Few10 a b) {L : List Rat} (hL : L.length = a * b) : Ok10 [(a : Int), (b : Int)] L := ⟨h.ok, by rw [cnt_two10]; exact hL⟩
theorem mmC_few10 {a b c : Nat} (h : Few10 a c) : mmC [(a : Int), (b : Int)] [(b : Int), (c : Int)] = 0 := by
 unfold mmC
 rw [if_pos ⟨rfl, rfl, rfl⟩]
 exact mayC_ok h.ok
theorem mmR10 {b1 b2 n a b c : Nat} {w : World} {u v : Value} {L M : List Rat} (h1 : ResT b1 w u [(a : Int), (b : Int)] L n) (h2 : ResT b2 w v [(b : Int), (c : Int)] M n) (f1 : Few10 a b) (f2 : Few10 b c) (hL : L.length = a * b) (hM : M.length = b * c) (hn : n ≤ 200000) :
 Calls Tryz.prog 20 #[u, v] w fun e w' => Go10 w.heap.size w' e [(a : Int), (c : Int)] (mmF a b c L M) ((2 * n + 4 + 10) * 2 ^ 5) ∧ Below w.heap.size w w' := by
 obtain ⟨q1, a1, c1, ca1, cb1, T1, e1, l1, k1⟩ := h1.tens
 obtain ⟨q2, a2, c2, ca2, cb2, T2, e2, l2, k2⟩ := h2.tens
 have g1 : q1.length = L.length := by rw [← e1]; simp
 have g2 : q2.length = M.length := by rw [← e2]; simp
 have p1 := f1.prod
 have p2 := f2.prod
 have h := matMul_any 5 (n := n) T1 T2 (by simp) (by simp) l1 l2 (by omega) (by omega) (by omega) (by omega) (by omega)
 rw [(f1.mat hL).may e1 k1, (f2.mat hM).may e2 k2, mmC_few10 ⟨f1.a1, f1.a5, f2.b1, f2.b5⟩, e1, e2] at h
 exact h.mono fun e w' ⟨h, hb⟩ => ⟨h.go10 (c := 0) rfl, hb⟩
theorem addR10 {b1 b2 n : Nat} {w : World} {u v : Value} {s : List Int} {L M : List Rat} (h1 : ResT b1 w u s L n) (h2 : ResT b2 w v s M n) (hs : Ok10 s L) (hl : M.length = L.length) (hn : n ≤ 900000) :
 Calls Tryz.prog 30 #[u, v] w fun e w' => Go10 w.heap.size w' e s (List.zipWith (fun x y => x + y) L M) (2 * n + 10) ∧ Below w.heap.size w w' := by
 obtain ⟨q1, a1, c1, ca1, cb1, T1, e1, l1, k1⟩ := h1.tens
 obtain ⟨q2, a2, c2, ca2, cb2, T2, e2, l2, k2⟩ := h2.tens
 obtain ⟨r1, r2⟩ := hs.few
 have g1 : q1.length = L.length := by rw [← e1]; simp
 have g2 : q2.length = M.length := by rw [← e2]; simp
 have h := addP_any (n := n) T1 T2 (by omega) (by omega) (by omega) (by omega) l1 l2 (by omega)
 have hm : Ok10 s M := ⟨hs.ok, hl.trans hs.len⟩
 rw [two_zero (hs.may e1 k1) (hm.may e2 k2) zipOk_true, zipQ_eq e1 e2] at h
 exact h.mono fun e w' ⟨h, hb⟩ => ⟨h.go10 (c := 0) rfl, hb⟩
end
section
open Go.RowKit
def turn10 (qs : List Q3) (n : Nat) : List Rat := (List.range n).map fun k => ((qs[k % qs.length]?).map Q3.rat).getD 0
theorem turn10_len (qs : List Q3) (n : Nat) : (turn10 qs n).length = n := by unfold turn10; simp
theorem turn10_next {qs : List Q3} {k : Nat} {q : Q3} (h : qs[k % qs.length]? = some q) : turn10 qs (k + 1) = turn10 qs k ++ [q.rat] := by
 unfold turn10
 rw [List.range_succ, List.map_append, List.map_cons, List.map_nil, h]
 rfl
theorem wid2_10 {A B : Nat} (hA : A ≤ 1000) (hB : B ≤ 1000) : Wid [(A : Int), (B : Int)] := by
 intro x hx
 simp at hx
 rcases hx with rfl | rfl <;> omega
theorem matrix10_any {w : World} {qs : List Q3} {b : Option Addr} {cb A B : Nat} (E : RowA RawQ w (.slice b qs.length cb) qs b cb) (hl : lensQ qs 3) (hq0 : 0 < qs.length) (hq : qs.length ≤ 40) (hA : A ≤ 5) (hB : B ≤ 5) :
 Calls Tryz.prog 35 #[.int .i64 (A : Int), .int .i64 (B : Int), .slice b qs.length cb] w fun e w' => ∃ r, e = .returned r ∧ ResT w.heap.size w' r [(A : Int), (B : Int)] (turn10 qs (A * B)) 16 ∧ Below w.heap.size w w' := by
 obtain ⟨i0, hi, hz0, hz1, hz2⟩ := info_parts infoQ
 obtain ⟨M, hM⟩ : ∃ M, A * B = M := ⟨_, rfl⟩
 have hM5 : M ≤ 25 := by rw [← hM]; exact Nat.mul_le_mul hA hB
 have hmul : (A : Int) * (B : Int) = (M : Int) := by rw [← hM]; exact (Int.natCast_mul A B).symm
 have HE := Lib.hid E
 have HL := Lib.hid hl
 have hwid := wid2_10 (A := A) (B := B) (by omega) (by omega)
 have HM := Lib.hid hM
 rw [hM]
 obtain ⟨n, hn⟩ : ∃ n, qs.length = n := ⟨_, rfl⟩
 rw [hn] at hq hq0 ⊢
 have HN := Lib.hid hn
 have hnN : ¬ n = 0 := by omega
 have hnI : ¬ (n : Int) = 0 := by omega
 have hnB : ((n : Int) == 0) = false := by rw [beq_eq_false_iff_ne]; exact hnI
 obtain ⟨G, hG⟩ : ∃ G, w.heap.size = G := ⟨_, rfl⟩
 obtain ⟨W1, hW1⟩ : ∃ W, w.alloc (.cells #[.slice none 0 0, .slice none 0 0] 26) = W := ⟨_, rfl⟩
 obtain ⟨W2, hW2⟩ : ∃ W, W1.alloc (.cells #[.int .i64 (A : Int), .int .i64 (B : Int)] 3) = W := ⟨_, rfl⟩
 obtain ⟨W3, hW3⟩ : ∃ W, W2.alloc (.cells #[.slice (some ⟨G + 1, 0, none⟩) 2 2, .slice none 0 0] 26) = W := ⟨_, rfl⟩
 have s1 : W1.heap.size = G + 1 := by rw [← hW1, World.size_alloc, hG]
 have s2 : W2.heap.size = G + 1 + 1 := by rw [← hW2, World.size_alloc, s1]
 have b12 : Below W1.heap.size W1 W2 := by rw [← hW2]; exact (Below.refl _ _).alloc (Nat.le_refl _) _
 have b23 : Below W2.heap.size W2 W3 := by rw [← hW3]; exact (Below.refl _ _).alloc (Nat.le_refl _) _
 have b13 : Below W1.heap.size W1 W3 := b12.trans (b23.mono b12.size)
 have b01 : Below w.heap.size w W1 := by rw [← hW1]; exact (Below.refl _ _).alloc (Nat.le_refl _) _
 have bW : Below w.heap.size w W3 := b01.trans (b13.mono b01.size)
 have R0 : Row W3 G 26 #[.slice none 0 0, .slice none 0 0] := by rw [← hG]; exact (show Row W1 w.heap.size 26 #[.slice none 0 0, .slice none 0 0] by rw [← hW1]; exact Row.new _ _ _).later b13
 have R2 : Row W3 (G + 1 + 1) 26 #[.slice (some ⟨G + 1, 0, none⟩) 2 2, .slice none 0 0] := by rw [← s2, ← hW3]; exact Row.new _ _ _
 have rs : ResS G W3 (.slice (some ⟨G + 1, 0, none⟩) 2 2) [(A : Int), (B : Int)] := by
  have h : ResS W1.heap.size W2 (.slice (some ⟨W1.heap.size, 0, none⟩) 2 2) [(A : Int), (B : Int)] := by
   rw [← hW2]
   exact ⟨⟨rfl, .inr ⟨W1.heap.size, 2, #[.int .i64 (A : Int), .int .i64 (B : Int)], rfl, Nat.le_refl _, heap_alloc_new W1 _, Nat.le_refl _, by unfold maxLen; omega, by simp, by simp⟩⟩, hwid⟩
  rw [s1] at h
  exact (h.mono (by omega)).later b23
 rw [hG] at bW
 have H0 := Lib.hid R0
 have H2 := Lib.hid R2
 have HS := Lib.hid rs
 have HBW := Lib.hid bW
 have HG := Lib.hid hG
 have HW1 := Lib.hid hW1
 have HW2 := Lib.hid hW2
 have HW3 := Lib.hid hW3
 have HS1 := Lib.hid s1
 have HS2 := Lib.hid s2
 clear hW1 hW2 hW3 s1 s2 hG
 clear E hl R0 R2 rs bW b01 b12 b23 b13 hwid hM hn
 go_enter Tryz.func35, Tryz.ntmps35
 go_wp2_with fail
 have hG := HG.out
 have hW1 := HW1.out
 have hW2 := HW2.out
 have hW3 := HW3.out
 have s1 := HS1.out
 have s2 := HS2.out
 simp only [hG, hW1, s1, hW2, s2, hW3]
 clear hW1 hW2 hW3 s1 s2 hG
 go_loopw [8] (fun i wr => ∃ (k : Nat) (v : Value), i = .int .i64 (k : Int) ∧ k ≤ M ∧ Row wr G 26 #[.slice none 0 0, .slice none 0 0] ∧
  Row wr (G + 1 + 1) 26 #[.slice (some ⟨G + 1, 0, none⟩) 2 2, v] ∧ ResS G wr (.slice (some ⟨G + 1, 0, none⟩) 2 2) [(A : Int), (B : Int)] ∧ RowO G 54 (fun W v x => ResQ G W v x 16) wr v (turn10 qs k) ∧ Below G w wr) (fun i _ => M - (intOf i).toNat)
 case atStart => exact ⟨0, _, rfl, Nat.zero_le _, H0.out, H2.out, HS.out, RowO.nil _ _ _ _, HBW.out⟩
 case round =>
  obtain ⟨k, v, rfl, hk, r0, rg, rs, ⟨es, hown, hall⟩, hb⟩ := hrel
  have hsz := hb.size
  rw [HG.out] at hsz
  have hbw : Below w.heap.size w wr := by rw [HG.out]; exact hb
  have cg1 := rg.cell 1
  have hle : es.length = k := by rw [hall.1, turn10_len]
  by_cases hlt : k < M
  · obtain ⟨j, hj⟩ : ∃ j, k % n = j := ⟨_, rfl⟩
    have hjn : j < n := by rw [← hj]; exact Nat.mod_lt _ hq0
    have hm : Int.tmod (k : Int) (n : Int) = (j : Int) := by rw [Int.tmod_eq_emod_of_nonneg (by omega), ← hj]; exact (Int.natCast_emod k n).symm
    obtain ⟨b', o', x0, x1, x2, q, hbo, hqk, f0, f1, f2, hr1⟩ := (HE.out.later hbw (fun _ _ _ h => h.later hbw)).at (i := j) (by rw [HN.out]; exact hjn)
    obtain ⟨b2', o2', _, _, _, _, hbo', _, f0', _, _, _⟩ := HE.out.at (i := j) (by rw [HN.out]; exact hjn)
    rw [hbo] at hbo'
    obtain ⟨rfl, rfl⟩ : b' = b2' ∧ o' = o2' := by simpa using hbo'
    have lt2 : b' < w.heap.size := World.block_lt_of_cell? _ _ f0'
    rw [HG.out] at lt2
    subst hbo
    have hql := HL.out q (List.mem_of_getElem? hqk)
    have hrq := hr1.arg hql.1 hql.2
    obtain ⟨m1, u1, l1, j1, u2, l2, j2, e1⟩ := hrq.shape
    simp only [Value.agg.injEq, Array.mk.injEq, List.cons.injEq, and_true] at e1
    obtain ⟨rfl, rfl, rfl⟩ := e1
    have hnext : turn10 qs (k + 1) = turn10 qs k ++ [q.rat] := turn10_next (by rw [HN.out, hj]; exact hqk)
    have HNX := Lib.hid hnext
    have HRQ := Lib.hid hrq
    obtain ⟨r, hrv, hrb, hrne, hrA⟩ := hown.hits10 hsz
    have n0 := hrne _ _ _ r0 (by decide)
    have ng := hrne _ _ _ rg (by decide)
    have nl : b' ≠ r := by omega
    have hj0 : (0 : Int) ≤ (j : Int) := by omega
    have hjI : (j : Int) < (n : Int) := by omega
    have hltI : (k : Int) < (M : Int) := by omega
    have mkA : ∀ Y, Kept r wr Y → Y.cell? ⟨G + 1 + 1, 1, none⟩ = some v ∧ (Y.cell? ⟨b', o' + j * 3, none⟩ = some (.bool m1) ∧ Y.cell? ⟨b', o' + j * 3 + 1, none⟩ = some (.slice u1 l1 j1) ∧ Y.cell? ⟨b', o' + j * 3 + 2, none⟩ = some (.slice u2 l2 j2)) ∧ Kept r wr Y := fun Y h => ⟨h.cell cg1 ng, ⟨h.cell f0 nl, h.cell f1 nl, h.cell f2 nl⟩, h⟩
    have k0 : Kept r wr wr.drew := (Kept.refl r wr).drew
    have hk25 : es.length ≤ 25 := by omega
    have HOWN := Lib.hid hown
    have HALL := Lib.hid hall
    have HLE := Lib.hid hle
    clear hj hqk hr1 hrq hbo' f0' hnext hown hall hle hql
    go_wp2_with fail
    refine wp_region_L (S := fun Y => Y.cell? ⟨G + 1 + 1, 1, none⟩ = some v ∧ (Y.cell? ⟨b', o' + j * 3, none⟩ = some (.bool m1) ∧ Y.cell? ⟨b', o' + j * 3 + 1, none⟩ = some (.slice u1 l1 j1) ∧ Y.cell? ⟨b', o' + j * 3 + 2, none⟩ = some (.slice u2 l2 j2)) ∧ Kept r wr Y) (z := 14) (by kernel_rfl) (mkA _ k0) (fun hHeld => ?_)
    have bd : Below wr.heap.size wr wr.drew := (Below.refl _ _).drew
    refine todo [0, 1, 2, 3, 4, 5, 6, 7, 8] ?_
    iterate 9
     refine todoL (v := ?_) rfl (by kernel_rfl) (fun _ _ _ h => h) (by assumption) (Or.inl ⟨by rfl, ?_⟩) ?_
     rotate_left
     · intro w hSw; (try dsimp only at hSw); go_simp; (try with_reducible rfl)
     try simp only [Act.put, List.getElem_toArray, List.getElem_cons_succ, List.getElem_cons_zero, List.setIfInBounds_toArray, List.set_cons_zero, List.set_cons_succ]
    refine todone ?_
    refine wpAnyL_one (i := 9) (by kernel_rfl) rfl (fun K hK => ?sbm_9)
    go_simp
    refine (ofRR_any (n := 3) (HRQ.out.later bd) (by decide)).mono ?_
    rintro e w5 ⟨r5, rfl, q5, hb5⟩
    clear hm hnI hnB hmul
    have b5 : Below wr.heap.size wr w5 := bd.trans (hb5.mono bd.size)
    have k5 : Kept r wr w5 := (Kept.refl r wr).below b5
    have Q5 := Lib.hid q5
    clear q5
    go_simp
    refine hK.out _ _ (fun _ => mkA _ k5) (fun hHeld2 => ?mbm_9)
    clear hK K hHeld
    have hHeld := hHeld2 (by decide)
    clear hHeld2
    try simp only [Act.put, List.getElem_toArray, List.getElem_cons_succ, List.getElem_cons_zero, List.setIfInBounds_toArray, List.set_cons_zero, List.set_cons_succ]
    refine wpAnyL_one (i := 10) (by kernel_rfl) rfl (fun K hK => ?sbm_10)
    go_simp
    refine (backR_any Q5.out.arg (by decide)).mono ?_
    rintro e w6 ⟨r6, rfl, q6, hb6⟩
    have b6 : Below wr.heap.size wr w6 := b5.trans (hb6.mono b5.size)
    have k6 : Kept r wr w6 := (Kept.refl r wr).below b6
    have z6 := b6.size
    have bw6 : Below G w w6 := hb.trans (b6.mono hsz)
    have Q6 := Lib.hid q6
    obtain ⟨m5, p1, p2, p3, p4, p5, p6, rfl⟩ := q6.shape
    clear q6
    go_simp
    refine hK.out _ _ (fun _ => mkA _ k6) (fun hHeld2 => ?mbm_10)
    clear hK K hHeld
    have hHeld := hHeld2 (by decide)
    clear hHeld2
    try simp only [Act.put, List.getElem_toArray, List.getElem_cons_succ, List.getElem_cons_zero, List.setIfInBounds_toArray, List.set_cons_zero, List.set_cons_succ]
    refine wpAnyL_one (i := 11) (by kernel_rfl) rfl (fun K hK => ?sbm_11)
    go_simp
    refine hK.out _ _ (fun _ => mkA _ (k6.alloc _)) (fun hHeld2 => ?mbm_11)
    clear hK K hHeld
    have hHeld := hHeld2 (by decide)
    clear hHeld2
    try simp only [Act.put, List.getElem_toArray, List.getElem_cons_succ, List.getElem_cons_zero, List.setIfInBounds_toArray, List.set_cons_zero, List.set_cons_succ]
    refine wpAnyL_one (i := 12) (by kernel_rfl) rfl (fun K hK => ?sbm_12)
    refine step_append_lies _ rfl _ _ 24 rfl G 54 i0 _ 3 56 Tryz.underlying24 hi hz0 hz1 hz2 rfl (by decide) _ es.length (flat3 es) rfl ((HOWN.out.later b6).later ((Below.refl _ _).alloc (Nat.le_refl _) _)) ⟨w6.heap.size, 0, none⟩ 1 1 [.bool m5, .slice p1 p2 p3, .slice p4 p5 p6] rfl rfl (cell_three_new _ _ _ _ _) (by simp [Value.oneCell']) (by omega) (by unfold maxLen; omega) (by omega) (by simp; omega) _ rfl ?_
    intro g7 cp w7 hown' hgrow hg' hlt'
    have hk7 : Kept r wr w7 := (k6.alloc _).grown hgrow hrv
    refine hK.out _ _ (fun _ => mkA _ hk7) (fun hHeld2 => ?mbm_12)
    clear hK K hHeld
    have hHeld := hHeld2 (by decide)
    clear hHeld2
    try simp only [Act.put, List.getElem_toArray, List.getElem_cons_succ, List.getElem_cons_zero, List.setIfInBounds_toArray, List.set_cons_zero, List.set_cons_succ]
    refine todo [13] ?_
    iterate 1
     refine todoL (v := ?_) rfl (by kernel_rfl) (fun _ _ _ h => h) (by assumption) (Or.inl ⟨by rfl, ?_⟩) ?_
     rotate_left
     · intro w hSw; (try dsimp only at hSw); go_simp; (try with_reducible rfl)
     try simp only [Act.put, List.getElem_toArray, List.getElem_cons_succ, List.getElem_cons_zero, List.setIfInBounds_toArray, List.set_cons_zero, List.set_cons_succ]
    refine todone ?_
    have R7 : Row w7 (G + 1 + 1) 26 #[.slice (some ⟨G + 1, 0, none⟩) 2 2, v] := rg.kept hk7 ng
    have f7 := R7.free 1
    have c7 := R7.cell 1
    refine wpAnyL_one (i := 14) (by kernel_rfl) rfl (fun K hK => ?sbm_14)
    go_simp
    refine hK.out _ _ (fun h => absurd rfl h) (fun _ => ?mbm_14)
    clear hK K
    try simp only [Act.put, List.getElem_toArray, List.getElem_cons_succ, List.getElem_cons_zero, List.setIfInBounds_toArray, List.set_cons_zero, List.set_cons_succ]
    refine wpAnyL_done (by kernel_rfl) ?_ _
    go_wp2
    go_roundw
    case rel =>
     have Q6' : ResQ G w6 (E3.agg ⟨.bool m5, .slice p1 p2 p3, .slice p4 p5 p6⟩) q.rat 16 := ResQ.mono Q6.out (by have := b5.size; omega)
     obtain ⟨hrow7, hb7⟩ := pushE (P := fun Y v x => ResQ G Y v x 16) (e := ⟨.bool m5, .slice p1 p2 p3, .slice p4 p5 p6⟩) (base := G) (w := w) (wr := w6) bw6 (by omega) (HOWN.out.later b6) (HALL.out.imp fun u x _ h => h.later b6) Q6' (fun u y h => h.apart (HOWN.out.later b6) hgrow (by decide)) hown' hgrow
     have rs7 : ResS G w7 (.slice (some ⟨G + 1, 0, none⟩) 2 2) [(A : Int), (B : Int)] := ResS.apart (HOWN.out.later b6) hgrow (by decide) (rs.later b6)
     refine ⟨k + 1, _, by go_num, by omega, (r0.kept hk7 n0).far (by show G ≠ G + 1 + 1; omega) _, R7.set21 _, rs7.far R7 (by decide) (kept1 _), ?_, hb7.setCell (by show G ≤ G + 1 + 1; omega) _⟩
     rw [HNX.out]
     exact hrow7.far R7 (by decide) (kept1 _) (fun u y h => h.far R7 (by decide) (kept1 _))
    case measure => simp [intOf]; omega
  · obtain rfl : k = M := by omega
    have hltI : ¬ (k : Int) < (k : Int) := by omega
    obtain ⟨av, cv, rfl⟩ := ownT_slice hown
    have c20 := rg.cell 0
    have d21 := rg.cell 1
    obtain ⟨g10, g11, f10, f11⟩ := r0.two
    have RRs := r0.set2 (.slice (some ⟨G + 1, 0, none⟩) 2 2) (.slice av es.length cv)
    obtain ⟨z0, z1, _, _⟩ := RRs.two
    have hT : ResT G wr (.agg #[.slice (some ⟨G + 1, 0, none⟩) 2 2, .slice av es.length cv]) [(A : Int), (B : Int)] (turn10 qs k) 16 := ⟨_, av, 2, cv, by rw [turn10_len, hle]; rfl, rs, by rw [turn10_len]; have hown2 := hown; rw [hle] at hown2; exact ⟨es, hown2, hall⟩⟩
    have HT := Lib.hid hT
    have HRR := Lib.hid r0
    have hbE : Below G w ((wr.setCell ⟨G, 0, none⟩ (.slice (some ⟨G + 1, 0, none⟩) 2 2)).setCell ⟨G, 1, none⟩ (.slice av es.length cv)) := below_set2 hb (Nat.le_refl _) _ _
    have HBE := Lib.hid hbE
    clear hown hall hle RRs hT hbE
    go_wp2_with fail
    exact bodyPost_ret (v := .agg #[.slice (some ⟨G + 1, 0, none⟩) 2 2, .slice av es.length cv]) (by simp [results, Tryz.results35, go_sem, z0, z1]) rfl ⟨_, rfl, by rw [HG.out]; exact HT.out.far HRR.out (by decide) (by decide) (by decide) (kept2 _ _), by rw [HG.out]; exact HBE.out⟩
end
section
open Go.RowKit
theorem getD4_10 {x0 x1 x2 x3 : Int} {k : Nat} (hk : k < 4) : (#[Value.int .i64 x0, Value.int .i64 x1, Value.int .i64 x2, Value.int .i64 x3])[k]? = some (.int .i64 ([x0, x1, x2, x3].getD k 0)) := by
 match k, hk with
 | 0, _ => rfl
 | 1, _ => rfl
 | 2, _ => rfl
 | 3, _ => rfl
theorem foldAssoc_walk {x0 x1 x2 x3 : Int} {qk : List Q3} {a : Option Addr} {ca : Nat} {ql : List Q3} {b : Option Addr} {cb : Nat} {qm : List Q3} {c : Option Addr} {cc : Nat} (w : World) (Ek : RowA RawQ w (.slice a qk.length ca) qk a ca) (Lk : qk.length ≤ 17592186044416) (El : RowA RawQ w (.slice b ql.length cb) ql b cb) (Ll : ql.length ≤ 17592186044416) (Em : RowA RawQ w (.slice c qm.length cc) qm c cc) (Lm : qm.length ≤ 17592186044416) :
 Calls Tryz.prog 8 #[.agg #[.int .i64 x0, .int .i64 x1, .int .i64 x2, .int .i64 x3], .slice a qk.length ca, .slice b ql.length cb, .slice c qm.length cc] w fun e W' => e = .returned (.bool true) ∧ Below w.heap.size w W' := by
 have HEk := Lib.hid Ek
 have HEl := Lib.hid El
 have HEm := Lib.hid Em
 clear Ek El Em
 obtain ⟨W, hW⟩ : ∃ W, w.alloc (.cells #[.int .i64 x0, .int .i64 x1, .int .i64 x2, .int .i64 x3] 64) = W := ⟨_, rfl⟩
 have R0 : Row W w.heap.size 64 #[.int .i64 x0, .int .i64 x1, .int .i64 x2, .int .i64 x3] := by rw [← hW]; exact Row.new _ _ _
 have hBW : Below w.heap.size w W := by rw [← hW]; exact (Below.refl _ _).alloc (by simp) _
 have HR0 := Lib.hid R0
 have HBW := Lib.hid hBW
 clear R0 hBW
 go_enter Tryz.func8, Tryz.ntmps8
 go_wp2_with fail
 (try rw [hW])
 clear hW
 go_loopw [9] (fun i wr => ∃ k : Nat, i = .int .i64 (k : Int) ∧ k ≤ 4 ∧ (∀ j, j < k → 1 ≤ [x0, x1, x2, x3].getD j 0 ∧ [x0, x1, x2, x3].getD j 0 ≤ 5) ∧ Row wr w.heap.size 64 #[.int .i64 x0, .int .i64 x1, .int .i64 x2, .int .i64 x3] ∧ Below w.heap.size w wr) (fun i _ => 4 - (intOf i).toNat)
 case atStart => exact ⟨0, rfl, by omega, (fun j hj => by omega), HR0.out, HBW.out⟩
 case round =>
  obtain ⟨k, rfl, hk, hall, r0, hb⟩ := hrel
  have HA := Lib.hid hall
  clear hall
  by_cases hlt : k < 4
  · have hltI : (k : Int) < 4 := by omega
    have hk0 : (0 : Int) ≤ (k : Int) := by omega
    have hck : wr.cell? ⟨w.heap.size, k, none⟩ = some (.int .i64 ([x0, x1, x2, x3].getD k 0)) := by rw [r0.cell k]; exact getD4_10 hlt
    obtain ⟨e, he⟩ : ∃ e, [x0, x1, x2, x3].getD k 0 = e := ⟨_, rfl⟩
    rw [he] at hck
    have HE := Lib.hid he
    clear he
    by_cases h1 : e < 1
    · go_wp2_with fail
      refine (known10_any _).mono ?_
      rintro e y9 ⟨rfl, hb9⟩
      go_wp2_with fail
      go_ret
      exact ⟨rfl, hb.trans (hb9.mono hb.size)⟩
    · by_cases h5 : e > 5
      · go_wp2_with fail
        refine (known10_any _).mono ?_
        rintro e y9 ⟨rfl, hb9⟩
        go_wp2_with fail
        go_ret
        exact ⟨rfl, hb.trans (hb9.mono hb.size)⟩
      · go_wp2
        go_roundw
        case rel =>
         refine ⟨k + 1, by go_num, by omega, fun j hj => ?_, r0, hb⟩
         by_cases h : j = k
         · rw [h, HE.out]; omega
         · exact HA.out j (by omega)
        case measure => simp [intOf]; omega
  · obtain rfl : k = 4 := by omega
    have d0 := HA.out 0 (by omega)
    have d1 := HA.out 1 (by omega)
    have d2 := HA.out 2 (by omega)
    have d3 := HA.out 3 (by omega)
    simp only [List.getD_cons_zero, List.getD_cons_succ] at d0 d1 d2 d3
    obtain ⟨n0, rfl⟩ : ∃ n : Nat, x0 = (n : Int) := ⟨x0.toNat, by omega⟩
    have e0 : 1 ≤ n0 ∧ n0 ≤ 5 := by omega
    have D0 := Lib.hid e0
    obtain ⟨n1, rfl⟩ : ∃ n : Nat, x1 = (n : Int) := ⟨x1.toNat, by omega⟩
    have e1 : 1 ≤ n1 ∧ n1 ≤ 5 := by omega
    have D1 := Lib.hid e1
    obtain ⟨n2, rfl⟩ : ∃ n : Nat, x2 = (n : Int) := ⟨x2.toNat, by omega⟩
    have e2 : 1 ≤ n2 ∧ n2 ≤ 5 := by omega
    have D2 := Lib.hid e2
    obtain ⟨n3, rfl⟩ : ∃ n : Nat, x3 = (n : Int) := ⟨x3.toNat, by omega⟩
    have e3 : 1 ≤ n3 ∧ n3 ≤ 5 := by omega
    have D3 := Lib.hid e3
    clear d0 d1 d2 d3 e0 e1 e2 e3 hlt
    have HB := Lib.hid hb
    have HR := Lib.hid r0
    have s1 := fun X h => short10_any (w := X) (HEk.out.later (w' := X) h (fun _ _ _ k => k.later h)) Lk
    have s2 := fun X h => short10_any (w := X) (HEl.out.later (w' := X) h (fun _ _ _ k => k.later h)) Ll
    have s3 := fun X h => short10_any (w := X) (HEm.out.later (w' := X) h (fun _ _ _ k => k.later h)) Lm
    obtain ⟨t1, ht1⟩ : ∃ t, short10 qk = t := ⟨_, rfl⟩
    obtain ⟨t2, ht2⟩ : ∃ t, short10 ql = t := ⟨_, rfl⟩
    obtain ⟨t3, ht3⟩ : ∃ t, short10 qm = t := ⟨_, rfl⟩
    rw [ht1] at s1
    rw [ht2] at s2
    rw [ht3] at s3
    have HT1 := Lib.hid ht1
    have HT2 := Lib.hid ht2
    have HT3 := Lib.hid ht3
    clear ht1 ht2 ht3 r0
    cases t1 with
    | false =>
     go_wp2_with fail
     refine (s1 _ hb).mono ?_
     rintro e y1 ⟨rfl, hy⟩
     have b1 := hb.trans (hy.mono hb.size)
     clear hy
     go_wp2_with fail
     refine (known10_any _).mono ?_
     rintro e y9 ⟨rfl, hb9⟩
     go_wp2_with fail
     go_ret
     exact ⟨rfl, b1.trans (hb9.mono b1.size)⟩
    | true =>
     cases t2 with
     | false =>
      go_wp2_with fail
      refine (s1 _ hb).mono ?_
      rintro e y1 ⟨rfl, hy⟩
      have b1 := hb.trans (hy.mono hb.size)
      clear hy
      go_wp2_with fail
      refine (s2 _ b1).mono ?_
      rintro e y2 ⟨rfl, hy⟩
      have b2 := b1.trans (hy.mono b1.size)
      clear hy
      go_wp2_with fail
      refine (known10_any _).mono ?_
      rintro e y9 ⟨rfl, hb9⟩
      go_wp2_with fail
      go_ret
      exact ⟨rfl, b2.trans (hb9.mono b2.size)⟩
     | true =>
      cases t3 with
      | false =>
       go_wp2_with fail
       refine (s1 _ hb).mono ?_
       rintro e y1 ⟨rfl, hy⟩
       have b1 := hb.trans (hy.mono hb.size)
       clear hy
       go_wp2_with fail
       refine (s2 _ b1).mono ?_
       rintro e y2 ⟨rfl, hy⟩
       have b2 := b1.trans (hy.mono b1.size)
       clear hy
       go_wp2_with fail
       refine (s3 _ b2).mono ?_
       rintro e y3 ⟨rfl, hy⟩
       have b3 := b2.trans (hy.mono b2.size)
       clear hy
       go_wp2_with fail
       refine (known10_any _).mono ?_
       rintro e y9 ⟨rfl, hb9⟩
       go_wp2_with fail
       go_ret
       exact ⟨rfl, b3.trans (hb9.mono b3.size)⟩
      | true =>
       go_wp2_with fail
       refine (s1 _ hb).mono ?_
       rintro e y1 ⟨rfl, hy⟩
       have b1 := hb.trans (hy.mono hb.size)
       have c1 := hy
       clear hy
       go_wp2_with fail
       refine (s2 _ b1).mono ?_
       rintro e y2 ⟨rfl, hy⟩
       have b2 := b1.trans (hy.mono b1.size)
       have c2 := c1.trans (hy.mono c1.size)
       clear hy
       go_wp2_with fail
       refine (s3 _ b2).mono ?_
       rintro e y3 ⟨rfl, hy⟩
       have b3 := b2.trans (hy.mono b2.size)
       have by3 := c2.trans (hy.mono c2.size)
       clear hy c1 c2
       clear s1 s2 s3
       obtain ⟨k3, k0, k40⟩ := short10_true HT1.out
       obtain ⟨l3, l0, l40⟩ := short10_true HT2.out
       obtain ⟨m3, m0, m40⟩ := short10_true HT3.out
       have HK3 := Lib.hid k3
       have HL3 := Lib.hid l3
       have HM3 := Lib.hid m3
       clear k3 l3 m3
       have f01 := Lib.hid (Few10.mk (a := n0) (b := n1) D0.out.1 D0.out.2 D1.out.1 D1.out.2)
       have f12 := Lib.hid (Few10.mk (a := n1) (b := n2) D1.out.1 D1.out.2 D2.out.1 D2.out.2)
       have f23 := Lib.hid (Few10.mk (a := n2) (b := n3) D2.out.1 D2.out.2 D3.out.1 D3.out.2)
       have f02 := Lib.hid (Few10.mk (a := n0) (b := n2) D0.out.1 D0.out.2 D2.out.1 D2.out.2)
       have f13 := Lib.hid (Few10.mk (a := n1) (b := n3) D1.out.1 D1.out.2 D3.out.1 D3.out.2)
       have f03 := Lib.hid (Few10.mk (a := n0) (b := n3) D0.out.1 D0.out.2 D3.out.1 D3.out.2)
       obtain ⟨LX, hLX⟩ : ∃ X, turn10 qk (n0 * n1) = X := ⟨_, rfl⟩
       have lLX : LX.length = n0 * n1 := by rw [← hLX]; exact turn10_len _ _
       have HLX := Lib.hid hLX
       have NLX := Lib.hid lLX
       clear hLX lLX
       obtain ⟨LY, hLY⟩ : ∃ X, turn10 ql (n1 * n2) = X := ⟨_, rfl⟩
       have lLY : LY.length = n1 * n2 := by rw [← hLY]; exact turn10_len _ _
       have HLY := Lib.hid hLY
       have NLY := Lib.hid lLY
       clear hLY lLY
       obtain ⟨LZ, hLZ⟩ : ∃ X, turn10 qm (n2 * n3) = X := ⟨_, rfl⟩
       have lLZ : LZ.length = n2 * n3 := by rw [← hLZ]; exact turn10_len _ _
       have HLZ := Lib.hid hLZ
       have NLZ := Lib.hid lLZ
       clear hLZ lLZ
       obtain ⟨LW, hLW⟩ : ∃ X, turn10 qm (n1 * n2) = X := ⟨_, rfl⟩
       have lLW : LW.length = n1 * n2 := by rw [← hLW]; exact turn10_len _ _
       have HLW := Lib.hid hLW
       have NLW := Lib.hid lLW
       clear hLW lLW
       obtain ⟨LA, hLA⟩ : ∃ X, mmF n0 n1 n2 LX LY = X := ⟨_, rfl⟩
       have lLA : LA.length = n0 * n2 := by rw [← hLA]; exact mmF_len _ _ _ _ _
       have HLA := Lib.hid hLA
       have NLA := Lib.hid lLA
       clear hLA lLA
       obtain ⟨LB, hLB⟩ : ∃ X, mmF n0 n2 n3 LA LZ = X := ⟨_, rfl⟩
       have lLB : LB.length = n0 * n3 := by rw [← hLB]; exact mmF_len _ _ _ _ _
       have HLB := Lib.hid hLB
       have NLB := Lib.hid lLB
       clear hLB lLB
       obtain ⟨LC, hLC⟩ : ∃ X, mmF n1 n2 n3 LY LZ = X := ⟨_, rfl⟩
       have lLC : LC.length = n1 * n3 := by rw [← hLC]; exact mmF_len _ _ _ _ _
       have HLC := Lib.hid hLC
       have NLC := Lib.hid lLC
       clear hLC lLC
       obtain ⟨LS, hLS⟩ : ∃ X, List.zipWith (fun x y => x + y) LY LW = X := ⟨_, rfl⟩
       have lLS : LS.length = n1 * n2 := by rw [← hLS]; exact by rw [List.length_zipWith, NLY.out, NLW.out, Nat.min_self]
       have HLS := Lib.hid hLS
       have NLS := Lib.hid lLS
       clear hLS lLS
       obtain ⟨LP, hLP⟩ : ∃ X, mmF n0 n1 n2 LX LS = X := ⟨_, rfl⟩
       have lLP : LP.length = n0 * n2 := by rw [← hLP]; exact mmF_len _ _ _ _ _
       have HLP := Lib.hid hLP
       have NLP := Lib.hid lLP
       clear hLP lLP
       obtain ⟨LQ, hLQ⟩ : ∃ X, mmF n0 n1 n2 LX LW = X := ⟨_, rfl⟩
       have lLQ : LQ.length = n0 * n2 := by rw [← hLQ]; exact mmF_len _ _ _ _ _
       have HLQ := Lib.hid hLQ
       have NLQ := Lib.hid lLQ
       clear hLQ lLQ
       have hBD : mmF n0 n1 n3 LX LC = LB := by rw [← HLC.out, ← HLB.out, ← HLA.out]; exact (mmF_assoc n0 n1 n2 n3 LX LY LZ).symm
       have hPT : List.zipWith (fun x y => x + y) LA LQ = LP := by rw [← HLA.out, ← HLQ.out, ← HLP.out, ← HLS.out]; exact (mmF_add n0 n1 n2 (NLW.out.trans NLY.out.symm)).symm
       have HBD := Lib.hid hBD
       have HPT := Lib.hid hPT
       clear hBD hPT
       go_upto_region 8 with fail
       have r3 : Row y3 w.heap.size 64 #[.int .i64 (n0 : Int), .int .i64 (n1 : Int), .int .i64 (n2 : Int), .int .i64 (n3 : Int)] := HR.out.later by3
       have HR3 := Lib.hid r3
       have B3 := Lib.hid b3
       clear r3
       have mkX : ∀ X, Below y3.heap.size y3 X → X.cell? ⟨w.heap.size, 0, none⟩ = some (.int .i64 (n0 : Int)) ∧ X.cell? ⟨w.heap.size, 1, none⟩ = some (.int .i64 (n1 : Int)) ∧ X.cell? ⟨w.heap.size, 2, none⟩ = some (.int .i64 (n2 : Int)) ∧ X.cell? ⟨w.heap.size, 3, none⟩ = some (.int .i64 (n3 : Int)) := fun X h => by
        have h3 := HR3.out.later h
        exact ⟨h3.cell 0, h3.cell 1, h3.cell 2, h3.cell 3⟩
       have MKX := Lib.hid mkX
       clear mkX
       go_cut [10, 11, 12] (fun sa sb sc wx => ∃ (gx gy gz : Nat) (ux vx : Option Addr) (cx dx sx : Nat) (uy vy : Option Addr) (cy dy sy : Nat) (uz vz : Option Addr) (cz dz sz : Nat), sa = .pointer (some ⟨gx, 0, none⟩) ∧ sb = .pointer (some ⟨gy, 0, none⟩) ∧ sc = .pointer (some ⟨gz, 0, none⟩) ∧ Row wx gx 26 #[.slice ux 2 cx, .slice vx LX.length dx] ∧ ResT sx wx (.agg #[.slice ux 2 cx, .slice vx LX.length dx]) [(n0 : Int), (n1 : Int)] LX 16 ∧ Row wx gy 26 #[.slice uy 2 cy, .slice vy LY.length dy] ∧ ResT sy wx (.agg #[.slice uy 2 cy, .slice vy LY.length dy]) [(n1 : Int), (n2 : Int)] LY 16 ∧ Row wx gz 26 #[.slice uz 2 cz, .slice vz LZ.length dz] ∧ ResT sz wx (.agg #[.slice uz 2 cz, .slice vz LZ.length dz]) [(n2 : Int), (n3 : Int)] LZ 16 ∧ Below y3.heap.size y3 wx)
       case first =>
        refine wp_region_held_drew (S := fun X => X.cell? ⟨w.heap.size, 0, none⟩ = some (.int .i64 (n0 : Int)) ∧ X.cell? ⟨w.heap.size, 1, none⟩ = some (.int .i64 (n1 : Int)) ∧ X.cell? ⟨w.heap.size, 2, none⟩ = some (.int .i64 (n2 : Int)) ∧ X.cell? ⟨w.heap.size, 3, none⟩ = some (.int .i64 (n3 : Int))) (by kernel_rfl) (MKX.out _ ((Below.refl _ _).drew)) (fun hHeld => ?_)
        obtain ⟨pn, hp⟩ : ∃ Y, y3.drew = Y := ⟨_, rfl⟩
        have bn : Below y3.heap.size y3 pn := by rw [← hp]; exact (Below.refl _ _).drew
        rw [hp] at hHeld ⊢
        clear hp
        refine todo [0, 1, 2, 3, 4, 6, 7, 8, 9, 10, 12, 13, 14, 15, 16] ?_
        iterate 15
         refine todoH (v := ?_) rfl (by kernel_rfl) (fun _ _ _ h => h) (by assumption) (Or.inl ⟨by rfl, ?_⟩) ?_
         rotate_left
         · intro w hSw; (try dsimp only at hSw); go_simp; (try with_reducible rfl)
         try simp only [Act.put, List.getElem_toArray, List.getElem_cons_succ, List.getElem_cons_zero, List.setIfInBounds_toArray, List.set_cons_zero, List.set_cons_succ]
        refine todone ?_
        have HPn := Lib.hid (fun (X : World) (h : Below pn.heap.size pn X) => (show X.cell? ⟨w.heap.size, 0, none⟩ = some (.int .i64 (n0 : Int)) ∧ X.cell? ⟨w.heap.size, 1, none⟩ = some (.int .i64 (n1 : Int)) ∧ X.cell? ⟨w.heap.size, 2, none⟩ = some (.int .i64 (n2 : Int)) ∧ X.cell? ⟨w.heap.size, 3, none⟩ = some (.int .i64 (n3 : Int)) from MKX.out _ (bn.trans (h.mono bn.size))))
        refine pool_start (fs := [⟨18, 10, 26, #[.slice none 0 0, .slice none 0 0], fun g => .pointer (some ⟨g, 0, none⟩)⟩, ⟨19, 11, 26, #[.slice none 0 0, .slice none 0 0], fun g => .pointer (some ⟨g, 0, none⟩)⟩, ⟨20, 12, 26, #[.slice none 0 0, .slice none 0 0], fun g => .pointer (some ⟨g, 0, none⟩)⟩]) (us := [undef, undef, undef]) (n := 6) (F := fun _ => True) (by kernel_rfl) (by simp only [putF, Act.put, List.getElem_toArray, List.getElem_cons_succ, List.getElem_cons_zero, List.setIfInBounds_toArray, List.set_cons_zero, List.set_cons_succ]) rfl trivial ?_
        refine pool_step (α := Option Addr × Option Addr × Nat × Nat × Nat) (fun p => .agg #[.slice p.1 2 p.2.2.1, .slice p.2.1 LX.length p.2.2.2.1]) (c := 5) (dc := 64) (need := []) (F' := fun p X => ResT p.2.2.2.2 X (.agg #[.slice p.1 2 p.2.2.1, .slice p.2.1 LX.length p.2.2.2.1]) [(n0 : Int), (n1 : Int)] LX 16) rfl ?fln5 (by decide) (by decide) (by decide) (by decide) (by kernel_rfl) HPn.out (fun _ _ _ _ => trivial) ?stn5 ?nxn5
        case fln5 =>
         intro f hf
         simp only [List.mem_cons, List.not_mem_nil, or_false] at hf
         rcases hf with rfl | rfl | rfl
         all_goals exact ⟨fun g g' e => by simpa using e, _, rfl, fun a X K h => by unfold StepH; go_simp; exact h⟩
        case stn5 =>
         intro us X K hus _ hb _ hK
         obtain ⟨q1, q2, q3, rfl⟩ := len_three10 hus
         simp only [putF, Act.put, List.getElem_toArray, List.getElem_cons_succ, List.getElem_cons_zero, List.setIfInBounds_toArray, List.set_cons_zero, List.set_cons_succ]
         unfold StepH
         go_simp
         have hbX : Below w.heap.size w X := B3.out.trans ((bn.trans (hb.mono bn.size)).mono B3.out.size)
         refine (matrix10_any (HEk.out.later hbX (fun _ _ _ k => k.later hbX)) HK3.out k0 k40 D0.out.2 D1.out.2).mono ?_
         rintro e X' ⟨r, rfl, TX, hy⟩
         rw [HLX.out] at TX
         obtain ⟨ra, rb, rca, rcb, rfl, _⟩ := id TX
         go_simp
         exact hK (ra, rb, rca, rcb, X.heap.size) _ hy TX
        rintro ⟨ux, vx, cx, dx, sx⟩
        (try dsimp only)
        try simp only [Act.put, List.getElem_toArray, List.getElem_cons_succ, List.getElem_cons_zero, List.setIfInBounds_toArray, List.set_cons_zero, List.set_cons_succ]
        refine pool_step (α := Option Addr × Option Addr × Nat × Nat × Nat) (fun p => .agg #[.slice p.1 2 p.2.2.1, .slice p.2.1 LY.length p.2.2.2.1]) (c := 11) (dc := 70) (need := []) (F' := fun p X => ResT sx X (.agg #[.slice ux 2 cx, .slice vx LX.length dx]) [(n0 : Int), (n1 : Int)] LX 16 ∧ ResT p.2.2.2.2 X (.agg #[.slice p.1 2 p.2.2.1, .slice p.2.1 LY.length p.2.2.2.1]) [(n1 : Int), (n2 : Int)] LY 16) rfl ?fln11 (by decide) (by decide) (by decide) (by decide) (by kernel_rfl) HPn.out (fun X Y h hF => ResT.later hF h) ?stn11 ?nxn11
        case fln11 =>
         intro f hf
         simp only [List.mem_cons, List.not_mem_nil, or_false] at hf
         rcases hf with rfl | rfl | rfl
         all_goals exact ⟨fun g g' e => by simpa using e, _, rfl, fun a X K h => by unfold StepH; go_simp; exact h⟩
        case stn11 =>
         intro us X K hus _ hb hF hK
         obtain ⟨q1, q2, q3, rfl⟩ := len_three10 hus
         simp only [putF, Act.put, List.getElem_toArray, List.getElem_cons_succ, List.getElem_cons_zero, List.setIfInBounds_toArray, List.set_cons_zero, List.set_cons_succ]
         unfold StepH
         go_simp
         have hbX : Below w.heap.size w X := B3.out.trans ((bn.trans (hb.mono bn.size)).mono B3.out.size)
         refine (matrix10_any (HEl.out.later hbX (fun _ _ _ k => k.later hbX)) HL3.out l0 l40 D1.out.2 D2.out.2).mono ?_
         rintro e X' ⟨r, rfl, TX, hy⟩
         rw [HLY.out] at TX
         obtain ⟨ra, rb, rca, rcb, rfl, _⟩ := id TX
         go_simp
         exact hK (ra, rb, rca, rcb, X.heap.size) _ hy ⟨hF.later hy, TX⟩
        rintro ⟨uy, vy, cy, dy, sy⟩
        (try dsimp only)
        try simp only [Act.put, List.getElem_toArray, List.getElem_cons_succ, List.getElem_cons_zero, List.setIfInBounds_toArray, List.set_cons_zero, List.set_cons_succ]
        refine pool_step (α := Option Addr × Option Addr × Nat × Nat × Nat) (fun p => .agg #[.slice p.1 2 p.2.2.1, .slice p.2.1 LZ.length p.2.2.2.1]) (c := 17) (dc := 76) (need := []) (F' := fun p X => ResT sx X (.agg #[.slice ux 2 cx, .slice vx LX.length dx]) [(n0 : Int), (n1 : Int)] LX 16 ∧ ResT sy X (.agg #[.slice uy 2 cy, .slice vy LY.length dy]) [(n1 : Int), (n2 : Int)] LY 16 ∧ ResT p.2.2.2.2 X (.agg #[.slice p.1 2 p.2.2.1, .slice p.2.1 LZ.length p.2.2.2.1]) [(n2 : Int), (n3 : Int)] LZ 16) rfl ?fln17 (by decide) (by decide) (by decide) (by decide) (by kernel_rfl) HPn.out (fun X Y h hF => ⟨ResT.later hF.1 h, ResT.later hF.2 h⟩) ?stn17 ?nxn17
        case fln17 =>
         intro f hf
         simp only [List.mem_cons, List.not_mem_nil, or_false] at hf
         rcases hf with rfl | rfl | rfl
         all_goals exact ⟨fun g g' e => by simpa using e, _, rfl, fun a X K h => by unfold StepH; go_simp; exact h⟩
        case stn17 =>
         intro us X K hus _ hb hF hK
         obtain ⟨q1, q2, q3, rfl⟩ := len_three10 hus
         simp only [putF, Act.put, List.getElem_toArray, List.getElem_cons_succ, List.getElem_cons_zero, List.setIfInBounds_toArray, List.set_cons_zero, List.set_cons_succ]
         unfold StepH
         go_simp
         have hbX : Below w.heap.size w X := B3.out.trans ((bn.trans (hb.mono bn.size)).mono B3.out.size)
         refine (matrix10_any (HEm.out.later hbX (fun _ _ _ k => k.later hbX)) HM3.out m0 m40 D2.out.2 D3.out.2).mono ?_
         rintro e X' ⟨r, rfl, TX, hy⟩
         rw [HLZ.out] at TX
         obtain ⟨ra, rb, rca, rcb, rfl, _⟩ := id TX
         go_simp
         exact hK (ra, rb, rca, rcb, X.heap.size) _ hy ⟨hF.1.later hy, hF.2.later hy, TX⟩
        rintro ⟨uz, vz, cz, dz, sz⟩
        (try dsimp only)
        try simp only [Act.put, List.getElem_toArray, List.getElem_cons_succ, List.getElem_cons_zero, List.setIfInBounds_toArray, List.set_cons_zero, List.set_cons_succ]
        refine pool_end ?flne (by decide) (by decide) (by kernel_rfl) HPn.out (fun X Y h hF => ⟨ResT.later hF.1 h, ResT.later hF.2.1 h, ResT.later hF.2.2 h⟩) ?nxne
        case flne =>
         intro f hf
         simp only [List.mem_cons, List.not_mem_nil, or_false] at hf
         rcases hf with rfl | rfl | rfl
         all_goals exact ⟨fun g g' e => by simpa using e, _, rfl, fun a X K h => by unfold StepH; go_simp; exact h⟩
        intro us xn ok hb hF
        obtain ⟨gn1, gn2, gn3, rfl, ⟨hgn1, Rn1⟩, ⟨hgn2, Rn2⟩, ⟨hgn3, Rn3⟩, nen12, nen13, nen23⟩ := ok.three
        (try dsimp only at Rn1 Rn2 Rn3 hF)
        simp only [putF, Act.put, List.getElem_toArray, List.getElem_cons_succ, List.getElem_cons_zero, List.setIfInBounds_toArray, List.set_cons_zero, List.set_cons_succ]
        have Bn : Below y3.heap.size y3 xn := bn.trans (hb.mono bn.size)
        have hHeld := HPn.out xn hb
        clear ok
        obtain ⟨fx, fy, fz⟩ := hF
        obtain ⟨d0, d1, d2, d3⟩ := Rn1.two
        refine wpAnyH_ready (rs := [21]) (by kernel_rfl) (by simp) ?_
        refine AllReadyH.cons rfl (fun K hK => ?sn1) AllReadyH.nil
        go_simp
        refine afterSet2 Rn1 (fun xn1 on1 zn1 => ?_)
        clear d0 d1 d2 d3
        have Bn1 : Below y3.heap.size y3 xn1 := Bn.trans (on1.below (Nat.le_trans bn.size hgn1))
        replace fx := fx.far Rn1 (by decide) (by decide) (by decide) on1.block
        replace fy := fy.far Rn1 (by decide) (by decide) (by decide) on1.block
        replace fz := fz.far Rn1 (by decide) (by decide) (by decide) on1.block
        replace Rn2 := Rn2.only on1 (by omega)
        replace Rn3 := Rn3.only on1 (by omega)
        replace Rn1 := zn1
        refine hK.out _ _ (MKX.out _ Bn1) (fun hHeld2 => ?_)
        clear hK K hHeld
        have hHeld := hHeld2
        clear hHeld2
        try simp only [Act.put, List.getElem_toArray, List.getElem_cons_succ, List.getElem_cons_zero, List.setIfInBounds_toArray, List.set_cons_zero, List.set_cons_succ]
        obtain ⟨d0, d1, d2, d3⟩ := Rn2.two
        refine wpAnyH_ready (rs := [22]) (by kernel_rfl) (by simp) ?_
        refine AllReadyH.cons rfl (fun K hK => ?sn2) AllReadyH.nil
        go_simp
        refine afterSet2 Rn2 (fun xn2 on2 zn2 => ?_)
        clear d0 d1 d2 d3
        have Bn2 : Below y3.heap.size y3 xn2 := Bn1.trans (on2.below (Nat.le_trans bn.size hgn2))
        replace fx := fx.far Rn2 (by decide) (by decide) (by decide) on2.block
        replace fy := fy.far Rn2 (by decide) (by decide) (by decide) on2.block
        replace fz := fz.far Rn2 (by decide) (by decide) (by decide) on2.block
        replace Rn1 := Rn1.only on2 (by omega)
        replace Rn3 := Rn3.only on2 (by omega)
        replace Rn2 := zn2
        refine hK.out _ _ (MKX.out _ Bn2) (fun hHeld2 => ?_)
        clear hK K hHeld
        have hHeld := hHeld2
        clear hHeld2
        try simp only [Act.put, List.getElem_toArray, List.getElem_cons_succ, List.getElem_cons_zero, List.setIfInBounds_toArray, List.set_cons_zero, List.set_cons_succ]
        obtain ⟨d0, d1, d2, d3⟩ := Rn3.two
        refine wpAnyH_ready (rs := [23]) (by kernel_rfl) (by simp) ?_
        refine AllReadyH.cons rfl (fun K hK => ?sn3) AllReadyH.nil
        go_simp
        refine afterSet2 Rn3 (fun xn3 on3 zn3 => ?_)
        clear d0 d1 d2 d3
        have Bn3 : Below y3.heap.size y3 xn3 := Bn2.trans (on3.below (Nat.le_trans bn.size hgn3))
        replace fx := fx.far Rn3 (by decide) (by decide) (by decide) on3.block
        replace fy := fy.far Rn3 (by decide) (by decide) (by decide) on3.block
        replace fz := fz.far Rn3 (by decide) (by decide) (by decide) on3.block
        replace Rn1 := Rn1.only on3 (by omega)
        replace Rn2 := Rn2.only on3 (by omega)
        replace Rn3 := zn3
        refine hK.out _ _ (MKX.out _ Bn3) (fun hHeld2 => ?_)
        clear hK K hHeld
        have hHeld := hHeld2
        clear hHeld2
        try simp only [Act.put, List.getElem_toArray, List.getElem_cons_succ, List.getElem_cons_zero, List.setIfInBounds_toArray, List.set_cons_zero, List.set_cons_succ]
        refine wpAnyH_done (by kernel_rfl) ?_ _
        (try dsimp only [Straight])
        go_wp2_with fail
        go_meet
        exact ⟨_, _, _, _, _, _, _, _, _, _, _, _, _, _, _, _, _, _, rfl, rfl, rfl, Rn1, fx, Rn2, fy, Rn3, fz, Bn3⟩
       case rest =>
        obtain ⟨gx, gy, gz, ux, vx, cx, dx, sx, uy, vy, cy, dy, sy, uz, vz, cz, dz, sz, rfl, rfl, rfl, RX, TX, RY, TY, RZ, TZ, E8⟩ := hcut
        obtain ⟨y4, hy4⟩ : ∃ y, wc = y := ⟨_, rfl⟩
        rw [hy4] at RX TX RY TY RZ TZ E8 ⊢
        clear hy4
        replace TX := Lib.hid TX
        replace TY := Lib.hid TY
        replace TZ := Lib.hid TZ
        replace E8 := Lib.hid E8
        have r4 := HR3.out.later E8.out
        have hA0 := r4.cell 1
        have hA1 := r4.cell 2
        have B4 : Below w.heap.size w y4 := B3.out.trans (E8.out.mono B3.out.size)
        go_wp2_with fail
        clear hA0 hA1 r4
        refine (matrix10_any (HEm.out.later B4 (fun _ _ _ k => k.later B4)) HM3.out m0 m40 D1.out.2 D2.out.2).mono ?_
        rintro e z ⟨r, rfl, TW, hy⟩
        rw [HLW.out] at TW
        obtain ⟨aw, bw, cw, dw, rfl, _⟩ := id TW
        obtain ⟨y5, hV⟩ : ∃ X, z.alloc (.cells #[.slice aw 2 cw, .slice bw LW.length dw] 26) = X := ⟨_, rfl⟩
        have bz' : Below z.heap.size z y5 := by rw [← hV]; exact (Below.refl _ _).alloc (Nat.le_refl _) _
        have RW : Row y5 z.heap.size 26 #[.slice aw 2 cw, .slice bw LW.length dw] := by rw [← hV]; exact Row.new _ _ _
        have hyz := hy.trans (bz'.mono hy.size)
        replace TW := Lib.hid (TW.later bz')
        clear hy bz'
        have B5 : Below w.heap.size w y5 := B4.trans (hyz.mono B4.size)
        replace RX := RX.later hyz
        replace RY := RY.later hyz
        replace RZ := RZ.later hyz
        replace TX := Lib.hid (TX.out.later hyz)
        replace TY := Lib.hid (TY.out.later hyz)
        replace TZ := Lib.hid (TZ.out.later hyz)
        clear hyz B4
        have HB5 := Lib.hid B5
        clear B5
        have C5 : Below y5.heap.size y5 y5 := Below.refl _ _
        obtain ⟨xc0, xc1, _, _⟩ := RX.two
        obtain ⟨yc0, yc1, _, _⟩ := RY.two
        obtain ⟨zc0, zc1, _, _⟩ := RZ.two
        obtain ⟨wc0, wc1, _, _⟩ := RW.two
        go_wp2_with fail
        (try rw [hV])
        (try clear hV)
        refine (mmR10 TX.out TY.out f01.out f12.out NLX.out NLY.out (by decide)).mono ?_
        rintro e zA ⟨hg, hy⟩
        rw [HLA.out] at hg
        obtain ⟨raA, rbA, rcaA, rcbA, rfl, TA⟩ := hg
        obtain ⟨y8, hV⟩ : ∃ X, zA.alloc (.cells #[.slice raA 2 rcaA, .slice rbA LA.length rcbA] 26) = X := ⟨_, rfl⟩
        have bz : Below zA.heap.size zA y8 := by rw [← hV]; exact (Below.refl _ _).alloc (Nat.le_refl _) _
        have NA : Row y8 zA.heap.size 26 #[.slice raA 2 rcaA, .slice rbA LA.length rcbA] := by rw [← hV]; exact Row.new _ _ _
        have hyz := hy.trans (bz.mono hy.size)
        replace TA := Lib.hid (TA.later bz)
        clear hy bz
        have B6 : Below y5.heap.size y5 y8 := C5.trans (hyz.mono C5.size)
        clear xc0 xc1 yc0 yc1 zc0 zc1 wc0 wc1
        replace RX := RX.later hyz
        replace RY := RY.later hyz
        replace RZ := RZ.later hyz
        replace RW := RW.later hyz
        replace TX := Lib.hid (TX.out.later hyz)
        replace TY := Lib.hid (TY.out.later hyz)
        replace TZ := Lib.hid (TZ.out.later hyz)
        replace TW := Lib.hid (TW.out.later hyz)
        obtain ⟨xc0, xc1, _, _⟩ := RX.two
        obtain ⟨yc0, yc1, _, _⟩ := RY.two
        obtain ⟨zc0, zc1, _, _⟩ := RZ.two
        obtain ⟨wc0, wc1, _, _⟩ := RW.two
        clear hyz
        obtain ⟨Ac0, Ac1, _, _⟩ := NA.two
        go_wp2_with fail
        (try rw [hV])
        (try clear hV)
        refine (mmR10 TA.out (TZ.out.more10 (by decide)) f02.out f23.out NLA.out NLZ.out (by decide)).mono ?_
        rintro e zB ⟨hg, hy⟩
        rw [HLB.out] at hg
        obtain ⟨raB, rbB, rcaB, rcbB, rfl, TB⟩ := hg
        obtain ⟨y9, hV⟩ : ∃ X, zB.alloc (.cells #[.slice raB 2 rcaB, .slice rbB LB.length rcbB] 26) = X := ⟨_, rfl⟩
        have bz : Below zB.heap.size zB y9 := by rw [← hV]; exact (Below.refl _ _).alloc (Nat.le_refl _) _
        have NB : Row y9 zB.heap.size 26 #[.slice raB 2 rcaB, .slice rbB LB.length rcbB] := by rw [← hV]; exact Row.new _ _ _
        have hyz := hy.trans (bz.mono hy.size)
        replace TB := Lib.hid (TB.later bz)
        clear hy bz
        have B7 : Below y5.heap.size y5 y9 := B6.trans (hyz.mono B6.size)
        clear xc0 xc1 yc0 yc1 zc0 zc1 wc0 wc1 Ac0 Ac1
        replace RX := RX.later hyz
        replace RY := RY.later hyz
        replace RZ := RZ.later hyz
        replace RW := RW.later hyz
        replace NA := NA.later hyz
        replace TX := Lib.hid (TX.out.later hyz)
        replace TY := Lib.hid (TY.out.later hyz)
        replace TZ := Lib.hid (TZ.out.later hyz)
        replace TW := Lib.hid (TW.out.later hyz)
        replace TA := Lib.hid (TA.out.later hyz)
        obtain ⟨xc0, xc1, _, _⟩ := RX.two
        obtain ⟨yc0, yc1, _, _⟩ := RY.two
        obtain ⟨zc0, zc1, _, _⟩ := RZ.two
        obtain ⟨wc0, wc1, _, _⟩ := RW.two
        obtain ⟨Ac0, Ac1, _, _⟩ := NA.two
        clear hyz
        obtain ⟨Bc0, Bc1, _, _⟩ := NB.two
        go_wp2_with fail
        (try rw [hV])
        (try clear hV)
        refine (mmR10 TY.out TZ.out f12.out f23.out NLY.out NLZ.out (by decide)).mono ?_
        rintro e zC ⟨hg, hy⟩
        rw [HLC.out] at hg
        obtain ⟨raC, rbC, rcaC, rcbC, rfl, TC⟩ := hg
        obtain ⟨y10, hV⟩ : ∃ X, zC.alloc (.cells #[.slice raC 2 rcaC, .slice rbC LC.length rcbC] 26) = X := ⟨_, rfl⟩
        have bz : Below zC.heap.size zC y10 := by rw [← hV]; exact (Below.refl _ _).alloc (Nat.le_refl _) _
        have NC : Row y10 zC.heap.size 26 #[.slice raC 2 rcaC, .slice rbC LC.length rcbC] := by rw [← hV]; exact Row.new _ _ _
        have hyz := hy.trans (bz.mono hy.size)
        replace TC := Lib.hid (TC.later bz)
        clear hy bz
        have B8 : Below y5.heap.size y5 y10 := B7.trans (hyz.mono B7.size)
        clear xc0 xc1 yc0 yc1 zc0 zc1 wc0 wc1 Ac0 Ac1 Bc0 Bc1
        replace RX := RX.later hyz
        replace RY := RY.later hyz
        replace RZ := RZ.later hyz
        replace RW := RW.later hyz
        replace NA := NA.later hyz
        replace NB := NB.later hyz
        replace TX := Lib.hid (TX.out.later hyz)
        replace TY := Lib.hid (TY.out.later hyz)
        replace TZ := Lib.hid (TZ.out.later hyz)
        replace TW := Lib.hid (TW.out.later hyz)
        replace TA := Lib.hid (TA.out.later hyz)
        replace TB := Lib.hid (TB.out.later hyz)
        obtain ⟨xc0, xc1, _, _⟩ := RX.two
        obtain ⟨yc0, yc1, _, _⟩ := RY.two
        obtain ⟨zc0, zc1, _, _⟩ := RZ.two
        obtain ⟨wc0, wc1, _, _⟩ := RW.two
        obtain ⟨Ac0, Ac1, _, _⟩ := NA.two
        obtain ⟨Bc0, Bc1, _, _⟩ := NB.two
        clear hyz
        obtain ⟨Cc0, Cc1, _, _⟩ := NC.two
        go_wp2_with fail
        (try rw [hV])
        (try clear hV)
        refine (mmR10 (TX.out.more10 (by decide)) TC.out f01.out f13.out NLX.out NLC.out (by decide)).mono ?_
        rintro e zD ⟨hg, hy⟩
        rw [HBD.out] at hg
        obtain ⟨raD, rbD, rcaD, rcbD, rfl, TD⟩ := hg
        obtain ⟨y11, hV⟩ : ∃ X, zD.alloc (.cells #[.slice raD 2 rcaD, .slice rbD LB.length rcbD] 26) = X := ⟨_, rfl⟩
        have bz : Below zD.heap.size zD y11 := by rw [← hV]; exact (Below.refl _ _).alloc (Nat.le_refl _) _
        have ND : Row y11 zD.heap.size 26 #[.slice raD 2 rcaD, .slice rbD LB.length rcbD] := by rw [← hV]; exact Row.new _ _ _
        have hyz := hy.trans (bz.mono hy.size)
        replace TD := Lib.hid (TD.later bz)
        clear hy bz
        have B9 : Below y5.heap.size y5 y11 := B8.trans (hyz.mono B8.size)
        clear xc0 xc1 yc0 yc1 zc0 zc1 wc0 wc1 Ac0 Ac1 Bc0 Bc1 Cc0 Cc1
        replace RX := RX.later hyz
        replace RY := RY.later hyz
        replace RZ := RZ.later hyz
        replace RW := RW.later hyz
        replace NA := NA.later hyz
        replace NB := NB.later hyz
        replace NC := NC.later hyz
        replace TX := Lib.hid (TX.out.later hyz)
        replace TY := Lib.hid (TY.out.later hyz)
        replace TZ := Lib.hid (TZ.out.later hyz)
        replace TW := Lib.hid (TW.out.later hyz)
        replace TA := Lib.hid (TA.out.later hyz)
        replace TB := Lib.hid (TB.out.later hyz)
        replace TC := Lib.hid (TC.out.later hyz)
        obtain ⟨xc0, xc1, _, _⟩ := RX.two
        obtain ⟨yc0, yc1, _, _⟩ := RY.two
        obtain ⟨zc0, zc1, _, _⟩ := RZ.two
        obtain ⟨wc0, wc1, _, _⟩ := RW.two
        obtain ⟨Ac0, Ac1, _, _⟩ := NA.two
        obtain ⟨Bc0, Bc1, _, _⟩ := NB.two
        obtain ⟨Cc0, Cc1, _, _⟩ := NC.two
        clear hyz
        obtain ⟨Dc0, Dc1, _, _⟩ := ND.two
        go_wp2_with fail
        (try rw [hV])
        (try clear hV)
        refine (addR10 TY.out TW.out (f12.out.mat NLY.out) (NLW.out.trans NLY.out.symm) (by decide)).mono ?_
        rintro e zS ⟨hg, hy⟩
        rw [HLS.out] at hg
        obtain ⟨raS, rbS, rcaS, rcbS, rfl, TS⟩ := hg
        obtain ⟨y12, hV⟩ : ∃ X, zS.alloc (.cells #[.slice raS 2 rcaS, .slice rbS LS.length rcbS] 26) = X := ⟨_, rfl⟩
        have bz : Below zS.heap.size zS y12 := by rw [← hV]; exact (Below.refl _ _).alloc (Nat.le_refl _) _
        have NS : Row y12 zS.heap.size 26 #[.slice raS 2 rcaS, .slice rbS LS.length rcbS] := by rw [← hV]; exact Row.new _ _ _
        have hyz := hy.trans (bz.mono hy.size)
        replace TS := Lib.hid (TS.later bz)
        clear hy bz
        have B10 : Below y5.heap.size y5 y12 := B9.trans (hyz.mono B9.size)
        clear xc0 xc1 yc0 yc1 zc0 zc1 wc0 wc1 Ac0 Ac1 Bc0 Bc1 Cc0 Cc1 Dc0 Dc1
        replace RX := RX.later hyz
        replace RY := RY.later hyz
        replace RZ := RZ.later hyz
        replace RW := RW.later hyz
        replace NA := NA.later hyz
        replace NB := NB.later hyz
        replace NC := NC.later hyz
        replace ND := ND.later hyz
        replace TX := Lib.hid (TX.out.later hyz)
        replace TY := Lib.hid (TY.out.later hyz)
        replace TZ := Lib.hid (TZ.out.later hyz)
        replace TW := Lib.hid (TW.out.later hyz)
        replace TA := Lib.hid (TA.out.later hyz)
        replace TB := Lib.hid (TB.out.later hyz)
        replace TC := Lib.hid (TC.out.later hyz)
        replace TD := Lib.hid (TD.out.later hyz)
        obtain ⟨xc0, xc1, _, _⟩ := RX.two
        obtain ⟨yc0, yc1, _, _⟩ := RY.two
        obtain ⟨zc0, zc1, _, _⟩ := RZ.two
        obtain ⟨wc0, wc1, _, _⟩ := RW.two
        obtain ⟨Ac0, Ac1, _, _⟩ := NA.two
        obtain ⟨Bc0, Bc1, _, _⟩ := NB.two
        obtain ⟨Cc0, Cc1, _, _⟩ := NC.two
        obtain ⟨Dc0, Dc1, _, _⟩ := ND.two
        clear hyz
        obtain ⟨Sc0, Sc1, _, _⟩ := NS.two
        go_wp2_with fail
        (try rw [hV])
        (try clear hV)
        refine (mmR10 (TX.out.more10 (by decide)) TS.out f01.out f12.out NLX.out NLS.out (by decide)).mono ?_
        rintro e zP ⟨hg, hy⟩
        rw [HLP.out] at hg
        obtain ⟨raP, rbP, rcaP, rcbP, rfl, TP⟩ := hg
        obtain ⟨y13, hV⟩ : ∃ X, zP.alloc (.cells #[.slice raP 2 rcaP, .slice rbP LP.length rcbP] 26) = X := ⟨_, rfl⟩
        have bz : Below zP.heap.size zP y13 := by rw [← hV]; exact (Below.refl _ _).alloc (Nat.le_refl _) _
        have NP : Row y13 zP.heap.size 26 #[.slice raP 2 rcaP, .slice rbP LP.length rcbP] := by rw [← hV]; exact Row.new _ _ _
        have hyz := hy.trans (bz.mono hy.size)
        replace TP := Lib.hid (TP.later bz)
        clear hy bz
        have B11 : Below y5.heap.size y5 y13 := B10.trans (hyz.mono B10.size)
        clear xc0 xc1 yc0 yc1 zc0 zc1 wc0 wc1 Ac0 Ac1 Bc0 Bc1 Cc0 Cc1 Dc0 Dc1 Sc0 Sc1
        replace RX := RX.later hyz
        replace RY := RY.later hyz
        replace RZ := RZ.later hyz
        replace RW := RW.later hyz
        replace NA := NA.later hyz
        replace NB := NB.later hyz
        replace NC := NC.later hyz
        replace ND := ND.later hyz
        replace NS := NS.later hyz
        replace TX := Lib.hid (TX.out.later hyz)
        replace TY := Lib.hid (TY.out.later hyz)
        replace TZ := Lib.hid (TZ.out.later hyz)
        replace TW := Lib.hid (TW.out.later hyz)
        replace TA := Lib.hid (TA.out.later hyz)
        replace TB := Lib.hid (TB.out.later hyz)
        replace TC := Lib.hid (TC.out.later hyz)
        replace TD := Lib.hid (TD.out.later hyz)
        replace TS := Lib.hid (TS.out.later hyz)
        obtain ⟨xc0, xc1, _, _⟩ := RX.two
        obtain ⟨yc0, yc1, _, _⟩ := RY.two
        obtain ⟨zc0, zc1, _, _⟩ := RZ.two
        obtain ⟨wc0, wc1, _, _⟩ := RW.two
        obtain ⟨Ac0, Ac1, _, _⟩ := NA.two
        obtain ⟨Bc0, Bc1, _, _⟩ := NB.two
        obtain ⟨Cc0, Cc1, _, _⟩ := NC.two
        obtain ⟨Dc0, Dc1, _, _⟩ := ND.two
        obtain ⟨Sc0, Sc1, _, _⟩ := NS.two
        clear hyz
        obtain ⟨Pc0, Pc1, _, _⟩ := NP.two
        go_wp2_with fail
        (try rw [hV])
        (try clear hV)
        refine (mmR10 TX.out TW.out f01.out f12.out NLX.out NLW.out (by decide)).mono ?_
        rintro e zQ ⟨hg, hy⟩
        rw [HLQ.out] at hg
        obtain ⟨raQ, rbQ, rcaQ, rcbQ, rfl, TQ⟩ := hg
        obtain ⟨y14, hV⟩ : ∃ X, zQ.alloc (.cells #[.slice raQ 2 rcaQ, .slice rbQ LQ.length rcbQ] 26) = X := ⟨_, rfl⟩
        have bz : Below zQ.heap.size zQ y14 := by rw [← hV]; exact (Below.refl _ _).alloc (Nat.le_refl _) _
        have NQ : Row y14 zQ.heap.size 26 #[.slice raQ 2 rcaQ, .slice rbQ LQ.length rcbQ] := by rw [← hV]; exact Row.new _ _ _
        have hyz := hy.trans (bz.mono hy.size)
        replace TQ := Lib.hid (TQ.later bz)
        clear hy bz
        have B12 : Below y5.heap.size y5 y14 := B11.trans (hyz.mono B11.size)
        clear xc0 xc1 yc0 yc1 zc0 zc1 wc0 wc1 Ac0 Ac1 Bc0 Bc1 Cc0 Cc1 Dc0 Dc1 Sc0 Sc1 Pc0 Pc1
        replace RX := RX.later hyz
        replace RY := RY.later hyz
        replace RZ := RZ.later hyz
        replace RW := RW.later hyz
        replace NA := NA.later hyz
        replace NB := NB.later hyz
        replace NC := NC.later hyz
        replace ND := ND.later hyz
        replace NS := NS.later hyz
        replace NP := NP.later hyz
        replace TX := Lib.hid (TX.out.later hyz)
        replace TY := Lib.hid (TY.out.later hyz)
        replace TZ := Lib.hid (TZ.out.later hyz)
        replace TW := Lib.hid (TW.out.later hyz)
        replace TA := Lib.hid (TA.out.later hyz)
        replace TB := Lib.hid (TB.out.later hyz)
        replace TC := Lib.hid (TC.out.later hyz)
        replace TD := Lib.hid (TD.out.later hyz)
        replace TS := Lib.hid (TS.out.later hyz)
        replace TP := Lib.hid (TP.out.later hyz)
        obtain ⟨xc0, xc1, _, _⟩ := RX.two
        obtain ⟨yc0, yc1, _, _⟩ := RY.two
        obtain ⟨zc0, zc1, _, _⟩ := RZ.two
        obtain ⟨wc0, wc1, _, _⟩ := RW.two
        obtain ⟨Ac0, Ac1, _, _⟩ := NA.two
        obtain ⟨Bc0, Bc1, _, _⟩ := NB.two
        obtain ⟨Cc0, Cc1, _, _⟩ := NC.two
        obtain ⟨Dc0, Dc1, _, _⟩ := ND.two
        obtain ⟨Sc0, Sc1, _, _⟩ := NS.two
        obtain ⟨Pc0, Pc1, _, _⟩ := NP.two
        clear hyz
        obtain ⟨Qc0, Qc1, _, _⟩ := NQ.two
        go_wp2_with fail
        (try rw [hV])
        (try clear hV)
        refine (addR10 TA.out TQ.out (f02.out.mat NLA.out) (NLQ.out.trans NLA.out.symm) (by decide)).mono ?_
        rintro e zT ⟨hg, hy⟩
        rw [HPT.out] at hg
        obtain ⟨raT, rbT, rcaT, rcbT, rfl, TT⟩ := hg
        obtain ⟨y15, hV⟩ : ∃ X, zT.alloc (.cells #[.slice raT 2 rcaT, .slice rbT LP.length rcbT] 26) = X := ⟨_, rfl⟩
        have bz : Below zT.heap.size zT y15 := by rw [← hV]; exact (Below.refl _ _).alloc (Nat.le_refl _) _
        have NT : Row y15 zT.heap.size 26 #[.slice raT 2 rcaT, .slice rbT LP.length rcbT] := by rw [← hV]; exact Row.new _ _ _
        have hyz := hy.trans (bz.mono hy.size)
        replace TT := Lib.hid (TT.later bz)
        clear hy bz
        have B13 : Below y5.heap.size y5 y15 := B12.trans (hyz.mono B12.size)
        clear xc0 xc1 yc0 yc1 zc0 zc1 wc0 wc1 Ac0 Ac1 Bc0 Bc1 Cc0 Cc1 Dc0 Dc1 Sc0 Sc1 Pc0 Pc1 Qc0 Qc1
        replace RX := RX.later hyz
        replace RY := RY.later hyz
        replace RZ := RZ.later hyz
        replace RW := RW.later hyz
        replace NA := NA.later hyz
        replace NB := NB.later hyz
        replace NC := NC.later hyz
        replace ND := ND.later hyz
        replace NS := NS.later hyz
        replace NP := NP.later hyz
        replace NQ := NQ.later hyz
        replace TX := Lib.hid (TX.out.later hyz)
        replace TY := Lib.hid (TY.out.later hyz)
        replace TZ := Lib.hid (TZ.out.later hyz)
        replace TW := Lib.hid (TW.out.later hyz)
        replace TA := Lib.hid (TA.out.later hyz)
        replace TB := Lib.hid (TB.out.later hyz)
        replace TC := Lib.hid (TC.out.later hyz)
        replace TD := Lib.hid (TD.out.later hyz)
        replace TS := Lib.hid (TS.out.later hyz)
        replace TP := Lib.hid (TP.out.later hyz)
        replace TQ := Lib.hid (TQ.out.later hyz)
        obtain ⟨xc0, xc1, _, _⟩ := RX.two
        obtain ⟨yc0, yc1, _, _⟩ := RY.two
        obtain ⟨zc0, zc1, _, _⟩ := RZ.two
        obtain ⟨wc0, wc1, _, _⟩ := RW.two
        obtain ⟨Ac0, Ac1, _, _⟩ := NA.two
        obtain ⟨Bc0, Bc1, _, _⟩ := NB.two
        obtain ⟨Cc0, Cc1, _, _⟩ := NC.two
        obtain ⟨Dc0, Dc1, _, _⟩ := ND.two
        obtain ⟨Sc0, Sc1, _, _⟩ := NS.two
        obtain ⟨Pc0, Pc1, _, _⟩ := NP.two
        obtain ⟨Qc0, Qc1, _, _⟩ := NQ.two
        clear hyz
        obtain ⟨Tc0, Tc1, _, _⟩ := NT.two
        go_wp2_with fail
        (try rw [hV])
        (try clear hV)
        refine (sameA10 TB.out TD.out (f03.out.mat NLB.out) rfl rfl (by decide) (by decide)).mono ?_
        rintro e y14 ⟨rfl, hy⟩
        have B14 : Below y5.heap.size y5 y14 := B13.trans (hy.mono B13.size)
        clear xc0 xc1 yc0 yc1 zc0 zc1 wc0 wc1 Ac0 Ac1 Bc0 Bc1 Cc0 Cc1 Dc0 Dc1 Sc0 Sc1 Pc0 Pc1 Qc0 Qc1 Tc0 Tc1
        replace RX := RX.later hy
        replace RY := RY.later hy
        replace RZ := RZ.later hy
        replace RW := RW.later hy
        replace NA := NA.later hy
        replace NB := NB.later hy
        replace NC := NC.later hy
        replace ND := ND.later hy
        replace NS := NS.later hy
        replace NP := NP.later hy
        replace NQ := NQ.later hy
        replace NT := NT.later hy
        replace TX := Lib.hid (TX.out.later hy)
        replace TY := Lib.hid (TY.out.later hy)
        replace TZ := Lib.hid (TZ.out.later hy)
        replace TW := Lib.hid (TW.out.later hy)
        replace TA := Lib.hid (TA.out.later hy)
        replace TB := Lib.hid (TB.out.later hy)
        replace TC := Lib.hid (TC.out.later hy)
        replace TD := Lib.hid (TD.out.later hy)
        replace TS := Lib.hid (TS.out.later hy)
        replace TP := Lib.hid (TP.out.later hy)
        replace TQ := Lib.hid (TQ.out.later hy)
        replace TT := Lib.hid (TT.out.later hy)
        obtain ⟨xc0, xc1, _, _⟩ := RX.two
        obtain ⟨yc0, yc1, _, _⟩ := RY.two
        obtain ⟨zc0, zc1, _, _⟩ := RZ.two
        obtain ⟨wc0, wc1, _, _⟩ := RW.two
        obtain ⟨Ac0, Ac1, _, _⟩ := NA.two
        obtain ⟨Bc0, Bc1, _, _⟩ := NB.two
        obtain ⟨Cc0, Cc1, _, _⟩ := NC.two
        obtain ⟨Dc0, Dc1, _, _⟩ := ND.two
        obtain ⟨Sc0, Sc1, _, _⟩ := NS.two
        obtain ⟨Pc0, Pc1, _, _⟩ := NP.two
        obtain ⟨Qc0, Qc1, _, _⟩ := NQ.two
        obtain ⟨Tc0, Tc1, _, _⟩ := NT.two
        clear hy
        go_wp2_with fail
        refine (sameA10 TP.out TT.out (f02.out.mat NLP.out) rfl rfl (by decide) (by decide)).mono ?_
        rintro e y15 ⟨rfl, hy⟩
        have B15 : Below y5.heap.size y5 y15 := B14.trans (hy.mono B14.size)
        clear xc0 xc1 yc0 yc1 zc0 zc1 wc0 wc1 Ac0 Ac1 Bc0 Bc1 Cc0 Cc1 Dc0 Dc1 Sc0 Sc1 Pc0 Pc1 Qc0 Qc1 Tc0 Tc1
        replace RX := RX.later hy
        replace RY := RY.later hy
        replace RZ := RZ.later hy
        replace RW := RW.later hy
        replace NA := NA.later hy
        replace NB := NB.later hy
        replace NC := NC.later hy
        replace ND := ND.later hy
        replace NS := NS.later hy
        replace NP := NP.later hy
        replace NQ := NQ.later hy
        replace NT := NT.later hy
        replace TX := Lib.hid (TX.out.later hy)
        replace TY := Lib.hid (TY.out.later hy)
        replace TZ := Lib.hid (TZ.out.later hy)
        replace TW := Lib.hid (TW.out.later hy)
        replace TA := Lib.hid (TA.out.later hy)
        replace TB := Lib.hid (TB.out.later hy)
        replace TC := Lib.hid (TC.out.later hy)
        replace TD := Lib.hid (TD.out.later hy)
        replace TS := Lib.hid (TS.out.later hy)
        replace TP := Lib.hid (TP.out.later hy)
        replace TQ := Lib.hid (TQ.out.later hy)
        replace TT := Lib.hid (TT.out.later hy)
        obtain ⟨xc0, xc1, _, _⟩ := RX.two
        obtain ⟨yc0, yc1, _, _⟩ := RY.two
        obtain ⟨zc0, zc1, _, _⟩ := RZ.two
        obtain ⟨wc0, wc1, _, _⟩ := RW.two
        obtain ⟨Ac0, Ac1, _, _⟩ := NA.two
        obtain ⟨Bc0, Bc1, _, _⟩ := NB.two
        obtain ⟨Cc0, Cc1, _, _⟩ := NC.two
        obtain ⟨Dc0, Dc1, _, _⟩ := ND.two
        obtain ⟨Sc0, Sc1, _, _⟩ := NS.two
        obtain ⟨Pc0, Pc1, _, _⟩ := NP.two
        obtain ⟨Qc0, Qc1, _, _⟩ := NQ.two
        obtain ⟨Tc0, Tc1, _, _⟩ := NT.two
        clear hy
        go_wp2_with fail
        refine (mayA10 TB.out (f03.out.mat NLB.out) (by decide)).mono ?_
        rintro e y16 ⟨rfl, hy⟩
        have B16 : Below y5.heap.size y5 y16 := B15.trans (hy.mono B15.size)
        clear xc0 xc1 yc0 yc1 zc0 zc1 wc0 wc1 Ac0 Ac1 Bc0 Bc1 Cc0 Cc1 Dc0 Dc1 Sc0 Sc1 Pc0 Pc1 Qc0 Qc1 Tc0 Tc1
        replace RX := RX.later hy
        replace RY := RY.later hy
        replace RZ := RZ.later hy
        replace RW := RW.later hy
        replace NA := NA.later hy
        replace NB := NB.later hy
        replace NC := NC.later hy
        replace ND := ND.later hy
        replace NS := NS.later hy
        replace NP := NP.later hy
        replace NQ := NQ.later hy
        replace NT := NT.later hy
        replace TX := Lib.hid (TX.out.later hy)
        replace TY := Lib.hid (TY.out.later hy)
        replace TZ := Lib.hid (TZ.out.later hy)
        replace TW := Lib.hid (TW.out.later hy)
        replace TA := Lib.hid (TA.out.later hy)
        replace TB := Lib.hid (TB.out.later hy)
        replace TC := Lib.hid (TC.out.later hy)
        replace TD := Lib.hid (TD.out.later hy)
        replace TS := Lib.hid (TS.out.later hy)
        replace TP := Lib.hid (TP.out.later hy)
        replace TQ := Lib.hid (TQ.out.later hy)
        replace TT := Lib.hid (TT.out.later hy)
        obtain ⟨xc0, xc1, _, _⟩ := RX.two
        obtain ⟨yc0, yc1, _, _⟩ := RY.two
        obtain ⟨zc0, zc1, _, _⟩ := RZ.two
        obtain ⟨wc0, wc1, _, _⟩ := RW.two
        obtain ⟨Ac0, Ac1, _, _⟩ := NA.two
        obtain ⟨Bc0, Bc1, _, _⟩ := NB.two
        obtain ⟨Cc0, Cc1, _, _⟩ := NC.two
        obtain ⟨Dc0, Dc1, _, _⟩ := ND.two
        obtain ⟨Sc0, Sc1, _, _⟩ := NS.two
        obtain ⟨Pc0, Pc1, _, _⟩ := NP.two
        obtain ⟨Qc0, Qc1, _, _⟩ := NQ.two
        obtain ⟨Tc0, Tc1, _, _⟩ := NT.two
        clear hy
        go_wp2_with fail
        refine (known10_any _).mono ?_
        rintro e y99 ⟨rfl, hb9⟩
        go_wp2_with fail
        go_ret
        exact ⟨rfl, HB5.out.trans ((B16.trans (hb9.mono B16.size)).mono HB5.out.size)⟩
end
end Go.Proofs.YtengpgodmbfmkaaGreat
