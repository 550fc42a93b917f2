/-
  Part 3 of 4: contracts and what they rest on (RRefA, RRefF, RVar, SMem, TOf, TMay, DSame, TReg, FMulR, FWMuls).
-/
import Derived.Test.YtengpgodmbfmkaaGreatMb1
import Derived.Test.YtengpgodmbfmkaaGreatMb2
namespace Go.Proofs.YtengpgodmbfmkaaGreat
set_option linter.unusedVariables false
set_option linter.unusedSimpArgs false
set_option maxRecDepth 100000
set_option maxHeartbeats 40000000
section
open Go.RowKit
theorem makeR_any {n : Nat} {w : World} {m1 : Bool} {xs ds : List Int} {a1 a2 : Option Addr} {c1 c2 : Nat} (A : ArgD w (.slice a1 xs.length c1) xs a1 c1) (B : ArgD w (.slice a2 ds.length c2) ds a2 c2) (hx : xs.length ≤ n) (hd : ds.length ≤ n) (hn : n ≤ 4294967296) :
 Calls Tryz.prog 71 #[.bool m1, .slice a1 xs.length c1, .slice a2 ds.length c2] w fun e w' => ∃ r, e = .returned r ∧ ArgR w' r (ratOf m1 (valD xs) (valD ds)) (n + 1) ∧ Below w.heap.size w w' := by
 have h0x := val_nonnegD A.wf
 have h0d := val_nonnegD B.wf
 obtain ⟨W, hW⟩ : ∃ W, (w.alloc (.cells #[.bool false, .slice none 0 0, .slice none 0 0] 58)) = W := ⟨_, rfl⟩
 have R0 : Row W (w.heap.size) 58 #[.bool false, .slice none 0 0, .slice none 0 0] := by rw [← hW]; exact (Row.new _ _ _)
 have hBW : Below w.heap.size w W := by rw [← hW]; exact ((Below.refl _ _).alloc (by (try simp) <;> omega) _)
 have hsW : w.heap.size + 1 ≤ W.heap.size := by rw [← hW]; simp
 by_cases z1 : valD xs = 0
 · have d1 := lenD_zero A.wf A.full z1
   have hX : ratOf m1 (valD xs) (valD ds) = 0 := by rw [z1]; exact ratOf_zero_left _ _
   have HX := Lib.hid hX
   have hb2 : Below W.heap.size W (W.alloc (.cells #[.int .i64 1] 3)) := (Below.refl _ _).alloc (Nat.le_refl _) _
   have L := digit_lit (Row.new W 3 #[.int .i64 1]) (by omega)
   have R0' := R0.later hb2
   obtain ⟨u0, u1, u2, g0, g1, g2⟩ := R0'.three
   obtain ⟨p0, p1, p2, p3, p4, p5⟩ := R0.three
   clear hX
   go_enter Tryz.func71, Tryz.ntmps71
   go_wp2_with fail
   refine bodyPost_ret (v := .agg #[.bool false, .slice none 0 0, .slice (some ⟨W.heap.size, 0, none⟩) 1 1]) (by simp [results, Tryz.results71, go_sem, u0, u1, u2]) rfl ⟨_, rfl, ⟨[], [1], none, some ⟨W.heap.size, 0, none⟩, 0, 1, ?_, ?_, ?_, ?_, ?_, by simp, by simp⟩, ?_⟩
   · rw [HX.out]; rfl
   · exact ⟨rfl, .inl rfl, Nat.le_refl _, WfD.nil, rfl⟩
   · exact L.far R0' (noInts3 _ _ _ _ _ _ _) (kept3 _ _ _)
   · rw [HX.out]; rfl
   · rw [HX.out]; rfl
   · exact below_set3 (hBW.trans (hb2.mono (by omega))) (by omega) _ _ _
 by_cases z2 : valD ds = 0
 · have d1 := lenD_pos (show 0 < valD xs by omega)
   have d2 := lenD_zero B.wf B.full z2
   have hX : ratOf m1 (valD xs) (valD ds) = 0 := by rw [z2]; exact ratOf_zero_right _ _
   have HX := Lib.hid hX
   have hb2 : Below W.heap.size W (W.alloc (.cells #[.int .i64 1] 3)) := (Below.refl _ _).alloc (Nat.le_refl _) _
   have L := digit_lit (Row.new W 3 #[.int .i64 1]) (by omega)
   have R0' := R0.later hb2
   obtain ⟨u0, u1, u2, g0, g1, g2⟩ := R0'.three
   obtain ⟨p0, p1, p2, p3, p4, p5⟩ := R0.three
   clear hX
   go_enter Tryz.func71, Tryz.ntmps71
   go_wp2_with fail
   refine bodyPost_ret (v := .agg #[.bool false, .slice none 0 0, .slice (some ⟨W.heap.size, 0, none⟩) 1 1]) (by simp [results, Tryz.results71, go_sem, u0, u1, u2]) rfl ⟨_, rfl, ⟨[], [1], none, some ⟨W.heap.size, 0, none⟩, 0, 1, ?_, ?_, ?_, ?_, ?_, by simp, by simp⟩, ?_⟩
   · rw [HX.out]; rfl
   · exact ⟨rfl, .inl rfl, Nat.le_refl _, WfD.nil, rfl⟩
   · exact L.far R0' (noInts3 _ _ _ _ _ _ _) (kept3 _ _ _)
   · rw [HX.out]; rfl
   · rw [HX.out]; rfl
   · exact below_set3 (hBW.trans (hb2.mono (by omega))) (by omega) _ _ _
 have hpx : 0 < valD xs := by omega
 have hpd : 0 < valD ds := by omega
 have d1 := lenD_pos hpx
 have d2 := lenD_pos hpd
 have A' := A.later hBW
 have B' := B.later hBW
 have e1 := ratOf_neg (n := m1) h0x hpd (fun h => absurd h z1)
 have e2 := ratOf_abs (n := m1) h0x hpd
 have e3 := ratOf_den (n := m1) (A := valD xs) hpd
 have hgp : 0 < (Int.gcd (valD xs) (valD ds) : Int) := gcd_pos hpx
 have E1 := Lib.hid e1
 have E2 := Lib.hid e2
 have E3 := Lib.hid e3
 clear e1 e2 e3 z1 z2
 go_enter Tryz.func71, Tryz.ntmps71
 go_wp2_with fail
 refine (gcdD_any A' B' (by omega) (by omega)).mono ?_
 rintro e w1 ⟨r1, rfl, gs, gd, gc, G, hG, lG, hb1⟩
 have hs1 := hb1.size
 have A1 := A'.later hb1
 have B1 := B'.later hb1
 have hgs : 0 < valD gs := by rw [hG]; exact hgp
 have HG := Lib.hid hG
 have eG := G.is
 subst eG
 clear hG hgp hW
 go_wp2_with fail
 refine (divD_any A1 G (by omega) (by omega) hgs).mono ?_
 rintro e w2 ⟨r2, s2, rfl, hb2, ⟨z2, q2, l2⟩, _⟩
 have hs2 := hb2.size
 obtain ⟨ad2, cp2, rfl, q2, A2⟩ := q2.slice
 have B2 := B1.later hb2
 have G2 := G.later hb2
 go_wp2_with fail
 refine (divD_any B2 G2 (by omega) (by omega) hgs).mono ?_
 rintro e w3 ⟨r3, s3, rfl, hb3, ⟨z3, q3, l3⟩, _⟩
 have hs3 := hb3.size
 obtain ⟨ad3, cp3, rfl, q3, A3⟩ := q3.slice
 have A2' := A2.later hb3
 have P3 := ((R0.later hb1).later hb2).later hb3
 have v2 := q2.eq
 have v3 := q3.eq
 rw [HG.out] at v2 v3
 have V2 := Lib.hid v2
 have V3 := Lib.hid v3
 clear v2 v3 q2 q3
 obtain ⟨u0, u1, u2, g0, g1, g2⟩ := P3.three
 go_wp2_with fail
 refine bodyPost_ret (v := .agg #[.bool m1, .slice ad2 z2.length cp2, .slice ad3 z3.length cp3]) (by simp [results, Tryz.results71, go_sem, u0, u1, u2]) rfl ⟨_, rfl, ⟨z2, z3, ad2, ad3, cp2, cp3, by rw [E1.out], ?_, ?_, ?_, ?_, by omega, by omega⟩, ?_⟩
 · exact A2'.far P3 (noInts3 _ _ _ _ _ _ _) (kept3 _ _ _)
 · exact A3.far P3 (noInts3 _ _ _ _ _ _ _) (kept3 _ _ _)
 · rw [V2.out, E2.out]
 · rw [V3.out, E3.out]
 · exact below_set3 (((hBW.trans (hb1.mono (by omega))).trans (hb2.mono (by omega))).trans (hb3.mono (by omega))) (by omega) _ _ _
theorem ofR_any {n : Nat} {w : World} {v : Value} {X : Rat} (h : ArgQ w v X n) (hn : n ≤ 134217728) :
 Calls Tryz.prog 29 #[v] w fun e w' => ∃ r, e = .returned r ∧ ArgR w' r X (5 * n + 1) ∧ Below w.heap.size w w' := by
 obtain ⟨m1, xs, ds, a1, a2, c1, c2, rfl, A, B, hX, hx, hd⟩ := h
 obtain ⟨W, hW⟩ : ∃ W, ((w.alloc (.cells #[.bool m1, .slice a1 xs.length c1, .slice a2 ds.length c2] 54)).alloc (.cells #[.bool false, .slice none 0 0, .slice none 0 0] 58)) = W := ⟨_, rfl⟩
 have R0 : Row W (w.heap.size) 54 #[.bool m1, .slice a1 xs.length c1, .slice a2 ds.length c2] := by rw [← hW]; exact ((Row.new _ _ _).alloc _)
 have R1 : Row W (w.heap.size + 1) 58 #[.bool false, .slice none 0 0, .slice none 0 0] := by rw [← hW]; have h := (Row.new (w.alloc (.cells #[.bool m1, .slice a1 xs.length c1, .slice a2 ds.length c2] 54)) 58 #[.bool false, .slice none 0 0, .slice none 0 0]); simp only [World.size_alloc] at h; exact h
 have hBW : Below w.heap.size w W := by rw [← hW]; exact (((Below.refl _ _).alloc (by (try simp) <;> omega) _).alloc (by (try simp) <;> omega) _)
 have hsW : w.heap.size + 1 + 1 ≤ W.heap.size := by rw [← hW]; simp
 have HX := Lib.hid hX
 clear hX
 have mkS : ∀ X, Kept (w.heap.size + 1) W X → X.cell? ⟨w.heap.size, 0, none⟩ = some (.bool m1) ∧ X.cell? ⟨w.heap.size, 1, none⟩ = some (.slice a1 xs.length c1) ∧ X.cell? ⟨w.heap.size, 2, none⟩ = some (.slice a2 ds.length c2) ∧ Kept (w.heap.size + 1) W X := fun X h => ⟨(R0.kept h (by omega)).cell 0, (R0.kept h (by omega)).cell 1, (R0.kept h (by omega)).cell 2, h⟩
 go_enter Tryz.func29, Tryz.ntmps29
 go_wp2_with fail
 clear hW
 go_region_held3 (fun X => X.cell? ⟨w.heap.size, 0, none⟩ = some (.bool m1) ∧ X.cell? ⟨w.heap.size, 1, none⟩ = some (.slice a1 xs.length c1) ∧ X.cell? ⟨w.heap.size, 2, none⟩ = some (.slice a2 ds.length c2) ∧ Kept (w.heap.size + 1) W X)
  (((refine mkS _ ?_; (repeat' (first | exact Kept.refl _ _ | refine Kept.drew ?_ | refine Kept.alloc ?_ _ | refine Kept.set ?_ _ _ | refine Kept.below ?_ (by assumption))))))
  ((first
    | (go_at_call 71; refine (makeR_any (n := 5 * n) (A3.later hb4) A4 (by omega) (by omega) (by omega)).mono ?_; rintro e w5 ⟨r5, rfl, q5, hb5⟩; rw [HV.out] at q5; obtain ⟨fs, gs, f1, f2, j1, j2, e5, _⟩ := id q5; subst e5; have P5 := R1.kept (show Kept (w.heap.size + 1 + 1 + 1) W w5 by (repeat' (first | exact Kept.refl _ _ | refine Kept.drew ?_ | refine Kept.alloc ?_ _ | refine Kept.set ?_ _ _ | refine Kept.below ?_ (by assumption)))) (by omega); obtain ⟨u0, u1, u2, g0, g1, g2⟩ := P5.three)
    | (go_at_call 72; (with_reducible refine (of_any (B.later (Kept.under (show Kept (w.heap.size + 1) W _ by (repeat' (first | exact Kept.refl _ _ | refine Kept.drew ?_ | refine Kept.alloc ?_ _ | refine Kept.set ?_ _ _ | refine Kept.below ?_ (by assumption)))) hBW (by omega) (by omega))) (by omega)).mono ?_); rintro e w4 ⟨r4, rfl, z4, q4, l4, hb4⟩; obtain ⟨ad4, cp4, rfl, q4, A4⟩ := q4.slice; have HV := Lib.hid ((show ratOf m1 (valD z3) (valD z4) = ratOf m1 (val xs) (val ds) by rw [q3.eq, q4.eq]).trans HX.out))
    | (go_at_call 72; (with_reducible refine (of_any (A.later (Kept.under (show Kept (w.heap.size + 1) W _ by (repeat' (first | exact Kept.refl _ _ | refine Kept.drew ?_ | refine Kept.alloc ?_ _ | refine Kept.set ?_ _ _ | refine Kept.below ?_ (by assumption)))) hBW (by omega) (by omega))) (by omega)).mono ?_); rintro e w3 ⟨r3, rfl, z3, q3, l3, hb3⟩; obtain ⟨ad3, cp3, rfl, q3, A3⟩ := q3.slice)))
 have hs5 := hb5.size
 have hk5 := (show Kept (w.heap.size + 1 + 1 + 1) W w5 by (repeat' (first | exact Kept.refl _ _ | refine Kept.drew ?_ | refine Kept.alloc ?_ _ | refine Kept.set ?_ _ _ | refine Kept.below ?_ (by assumption)))).size
 have hK5 := (Kept.under (show Kept (w.heap.size + 1 + 1 + 1) W w5 by (repeat' (first | exact Kept.refl _ _ | refine Kept.drew ?_ | refine Kept.alloc ?_ _ | refine Kept.set ?_ _ _ | refine Kept.below ?_ (by assumption)))) hBW (by omega) (by omega))
 go_wp2_with fail
 refine bodyPost_ret (v := .agg #[.bool (decide (X.num < 0)), .slice f1 fs.length j1, .slice f2 gs.length j2]) (by simp [results, Tryz.results29, go_sem, u0, u1, u2]) rfl ⟨_, rfl, ?_, below_set3 hK5 (by omega) _ _ _⟩
 exact (q5.far P5 (noInts3 _ _ _ _ _ _ _) (kept3 _ _ _))
end
section
open Go.RowKit
theorem mayR_any {n : Nat} {w : World} {m1 : Bool} {xs ds : List Int} {a1 a2 : Option Addr} {c1 c2 : Nat} (A : Arg w (.slice a1 xs.length c1) xs a1 c1) (B : Arg w (.slice a2 ds.length c2) ds a2 c2)
 (hx : xs.length ≤ n) (hd : ds.length ≤ n) (hn : n ≤ 134217728) :
 Calls Tryz.prog 48 #[.agg #[.bool m1, .slice a1 xs.length c1, .slice a2 ds.length c2]] w fun e w' => e = .returned (.int .i64 (if validB m1 xs ds (ratOf m1 (val xs) (val ds)) = true then 0 else 6)) ∧ Below w.heap.size w w' := by
 obtain ⟨X, hX⟩ : ∃ X, ratOf m1 (val xs) (val ds) = X := ⟨_, rfl⟩
 have hq : ArgQ w (.agg #[.bool m1, .slice a1 xs.length c1, .slice a2 ds.length c2]) X n := ⟨m1, xs, ds, a1, a2, c1, c2, rfl, A, B, hX, hx, hd⟩
 rw [hX]
 clear hX
 obtain ⟨W, hW⟩ : ∃ W, (w.alloc (.cells #[.bool m1, .slice a1 xs.length c1, .slice a2 ds.length c2] 54)) = W := ⟨_, rfl⟩
 have R0 : Row W (w.heap.size) 54 #[.bool m1, .slice a1 xs.length c1, .slice a2 ds.length c2] := by rw [← hW]; exact (Row.new _ _ _)
 have hBW : Below w.heap.size w W := by rw [← hW]; exact ((Below.refl _ _).alloc (by (try simp) <;> omega) _)
 have hsW : w.heap.size + 1 ≤ W.heap.size := by rw [← hW]; simp
 obtain ⟨p0, p1, p2, _, _, _⟩ := R0.three
 have hq' := hq.later hBW
 obtain ⟨b, hb⟩ : ∃ b, validB m1 xs ds X = b := ⟨_, rfl⟩
 have HB := Lib.hid hb
 rw [hb]
 clear hb hq
 go_enter Tryz.func48, Tryz.ntmps48
 go_wp2_with fail
 refine (ofR_any hq' hn).mono ?_
 rintro e w1 ⟨r1, rfl, h1, hb1⟩
 have hs1 := hb1.size
 obtain ⟨m4, fs, gs, f1, f2, j1, j2, rfl⟩ := h1.box
 clear p0 p1 p2 hW
 have Q0 := R0.later hb1
 obtain ⟨U, hU⟩ : ∃ U, w1.alloc (.cells #[.bool m4, .slice f1 fs.length j1, .slice f2 gs.length j2] 58) = U := ⟨_, rfl⟩
 have hBU : Below w1.heap.size w1 U := by rw [← hU]; exact (Below.refl _ _).alloc (Nat.le_refl _) _
 have R5 : Row U w1.heap.size 58 #[.bool m4, .slice f1 fs.length j1, .slice f2 gs.length j2] := by rw [← hU]; exact Row.new _ _ _
 have hsU : w1.heap.size + 1 ≤ U.heap.size := by rw [← hU]; simp
 have k := isR_dec (m2 := m1) (h1.later hBU) (((A.later hBW).later hb1).later hBU) (((B.later hBW).later hb1).later hBU) (by omega) (by omega) (by omega)
 rw [HB.out] at k
 obtain ⟨p0, p1, p2, _, _, _⟩ := Q0.three
 obtain ⟨q0, q1, q2, _, _, _⟩ := (Q0.later hBU).three
 obtain ⟨o0, o1, o2, _, _, _⟩ := R5.three
 have hB2 : Below w.heap.size w U := (hBW.trans (hb1.mono (by omega))).trans (hBU.mono (by omega))
 cases b with
 | true =>
   go_wp2_with fail
   (try rw [hU])
   refine k.mono ?_
   rintro e w2 ⟨rfl, hb2⟩
   clear k hU
   go_wp2_with fail
   go_ret
   exact ⟨rfl, hB2.trans (hb2.mono (by omega))⟩
 | false =>
   go_wp2_with fail
   (try rw [hU])
   refine k.mono ?_
   rintro e w2 ⟨rfl, hb2⟩
   clear k hU
   go_wp2_with fail
   go_ret
   exact ⟨rfl, hB2.trans (hb2.mono (by omega))⟩
end
section
open Go.RowKit Go.ChangeShapes Go.WideShapes Go.ChangeAt
theorem Row.only {w w' : World} {g b : Nat} {t : TypeId} {cs : Array Value} (R : Row w g t cs) (h : Only b w w') (hb : g ≠ b) : Row w' g t cs := (h.block g hb).trans R
theorem ArgR.only {w w' : World} {v : Value} {x : Rat} {n g : Nat} {t : TypeId} {p : Bool} {ad bd : Option Addr} {l cap m cbp : Nat} (h : ArgR w v x n) (R : Row w g t #[.bool p, .slice ad l cap, .slice bd m cbp]) (k : Only g w w') : ArgR w' v x n :=
 h.far R (noInts3 _ _ _ _ _ _ _) k.block
theorem ArgQ.only {w w' : World} {v : Value} {x : Rat} {n g : Nat} {t : TypeId} {p : Bool} {ad bd : Option Addr} {l cap m cbp : Nat} (h : ArgQ w v x n) (R : Row w g t #[.bool p, .slice ad l cap, .slice bd m cbp]) (k : Only g w w') : ArgQ w' v x n :=
 h.far R (noInts3 _ _ _ _ _ _ _) k.block
theorem ResQ.only {base : Nat} {w w' : World} {v : Value} {x : Rat} {n g : Nat} {cs : Array Value} (h : ResQ base w v x n) (R : Row w g 54 cs) (k : Only g w w') : ResQ base w' v x n :=
 h.far R (by decide) k.block
end
section
open Go.RowKit
theorem BlkS.only {w w' : World} {g b : Nat} {zs : List Int} (h : BlkS w g zs) (k : Only b w w') (hb : g ≠ b) : BlkS w' g zs := h.same (k.block g hb)
end
section
open Go.RowKit
theorem ofT_any {n : Nat} {w : World} {v : Value} {s : List Int} {qs : List Q3} {a b : Option Addr} {ca cb : Nat} (T : TensQ w v s qs a ca b cb) (hs : s.length ≤ 17592186044416) (hq : qs.length ≤ 1000000000)
 (hl : ∀ q ∈ qs, q.num.length ≤ n ∧ q.den.length ≤ n) (hn : n ≤ 134217728) :
 Calls Tryz.prog 18 #[v] w fun e w' => ∃ (a' b' : Option Addr) (ca' cb' : Nat), e = .returned (.agg #[.slice a' s.length ca', .slice b' qs.length cb']) ∧ ResS w.heap.size w' (.slice a' s.length ca') s ∧
  RowO w.heap.size 58 (fun W v x => ResR w.heap.size W v x (5 * n + 1)) w' (.slice b' qs.length cb') (qs.map Q3.rat) ∧ Below w.heap.size w w' := by
 obtain ⟨i0, hi, hz0, hz1, hz2⟩ := info_parts infoR
 have HT := Lib.hid T
 obtain rfl := T.is
 obtain ⟨W, hW⟩ : ∃ W, ((w.alloc (.cells #[.slice a s.length ca, .slice b qs.length cb] 26)).alloc (.cells #[.slice none 0 0, .slice none 0 0] 36)) = W := ⟨_, rfl⟩
 have R0 : Row W w.heap.size 26 #[.slice a s.length ca, .slice b qs.length cb] := by rw [← hW]; exact (Row.new _ _ _).alloc _
 have R1 : Row W (w.heap.size + 1) 36 #[.slice none 0 0, .slice none 0 0] := by rw [← hW]; have h := (Row.new (w.alloc (.cells #[.slice a s.length ca, .slice b qs.length cb] 26)) 36 #[.slice none 0 0, .slice none 0 0]); simp only [World.size_alloc] at h; exact h
 have hBW : Below w.heap.size w W := by rw [← hW]; exact ((Below.refl _ _).alloc (by simp) _).alloc (by simp) _
 have hsW : w.heap.size + 1 + 1 ≤ W.heap.size := by rw [← hW]; simp
 have AW := HT.out.sh.later hBW
 have nA := HT.out.nila
 have NA := Lib.hid nA
 obtain ⟨p0, p1, _, _⟩ := R0.two
 clear T nA
 go_enter Tryz.func18, Tryz.ntmps18
 go_wp2_with (at_builtin; refine step_copyT rfl _ 22 23 Tryz.underlying22 Tryz.underlying23 rfl rfl AW NA.out hs ?_; intro ro w3 R3 hb3; obtain ⟨a3, c3, rfl, R3', A3, n3⟩ := R3.slice)
 have hs3 := hb3.size
 have hB3 : Below w.heap.size w w3 := hBW.trans (hb3.mono (by omega))
 have hB4 : Below w.heap.size w (w3.alloc (.cells #[.slice a3 s.length c3, .slice none 0 0] 36)) := hB3.alloc (by omega) _
 have r0 := (R0.later hb3).alloc (.cells #[.slice a3 s.length c3, .slice none 0 0] 36)
 have r1 := (R1.later hb3).alloc (.cells #[.slice a3 s.length c3, .slice none 0 0] 36)
 have r2 := Row.new w3 36 #[.slice a3 s.length c3, .slice none 0 0]
 have r3 : ResS w.heap.size (w3.alloc (.cells #[.slice a3 s.length c3, .slice none 0 0] 36)) (.slice a3 s.length c3) s := (R3'.mono (by omega)).later ((Below.refl _ _).alloc (Nat.le_refl _) _)
 obtain ⟨g, hg⟩ : ∃ g, w3.heap.size = g := ⟨_, rfl⟩
 have hg2 : w.heap.size + 1 + 1 ≤ g := by omega
 rw [hg] at r2 ⊢
 generalize w3.alloc (.cells #[.slice a3 s.length c3, .slice none 0 0] 36) = W4 at *
 have H0 := Lib.hid r0
 have H1 := Lib.hid r1
 have H2 := Lib.hid r2
 have H3 := Lib.hid r3
 have HB4 := Lib.hid hB4
 clear r0 r1 r2 r3 hB4 hB3 hb3 hs3 R3 R3' A3 R0 R1 hBW AW p0 p1 hsW hg hW
 go_loopw [4] (fun i wr => ∃ (k : Nat) (v : Value), i = .int .i64 (k : Int) ∧ k ≤ qs.length ∧ Row wr w.heap.size 26 #[.slice a s.length ca, .slice b qs.length cb] ∧ Row wr (w.heap.size + 1) 36 #[.slice none 0 0, .slice none 0 0] ∧
  Row wr g 36 #[.slice a3 s.length c3, v] ∧ ResS w.heap.size wr (.slice a3 s.length c3) s ∧ RowO w.heap.size 58 (fun W v x => ResR w.heap.size W v x (5 * n + 1)) wr v ((qs.take k).map Q3.rat) ∧ Below w.heap.size w wr) (fun i _ => qs.length - (intOf i).toNat)
 case atStart => exact ⟨0, _, rfl, Nat.zero_le _, H0.out, H1.out, H2.out, H3.out, RowO.nil _ _ _ _, HB4.out⟩
 case round =>
  obtain ⟨k, v, rfl, hk, r0, r1, r2, r3, ⟨es, hown, hall⟩, hb⟩ := hrel
  have hsz := hb.size
  have c01 := r0.cell 1
  have c21 := r2.cell 1
  have hle : es.length = k := by rw [hall.1]; simp [hk]
  by_cases hlt : k < qs.length
  · obtain ⟨bb, o, x0, x1, x2, q, hbo, hqk, e0, e1, e2, hraw⟩ := (HT.out.el.later hb (fun v x _ k => k.later hb)).at hlt
    have hmem := List.mem_of_getElem? hqk
    have hb0 : bb < w.heap.size := HT.out.el.low (by intro h; rw [h] at hlt; simp at hlt) hbo
    subst hbo
    have hcall := hraw.arg (hl q hmem).1 (hl q hmem).2
    obtain ⟨r, hrv, hrb, hrne⟩ := hown.hits hsz
    have n0 := hrne _ _ _ r0 (by decide)
    have n2 := hrne _ _ _ r2 (by decide)
    have n1 := hrne _ _ _ r1 (by decide)
    have mkS : ∀ X, Kept r wr X → X.cell? ⟨g, 1, none⟩ = some v ∧ X.cell? ⟨w.heap.size, 1, none⟩ = some (.slice (some ⟨bb, o, none⟩) qs.length cb) ∧ X.cell? ⟨bb, o + k * 3, none⟩ = some x0 ∧ X.cell? ⟨bb, o + k * 3 + 1, none⟩ = some x1 ∧ X.cell? ⟨bb, o + k * 3 + 2, none⟩ = some x2 ∧ Kept r wr X := fun X h =>
     ⟨h.cell c21 n2, h.cell c01 n0, h.cell e0 (by show bb ≠ r; omega), h.cell e1 (by show bb ≠ r; omega), h.cell e2 (by show bb ≠ r; omega), h⟩
    have hltI : (k : Int) < (qs.length : Int) := by omega
    have hS0 := mkS wr.drew ((Kept.refl r wr).drew)
    go_wp2_with fail
    refine wp_region_L (S := fun X => X.cell? ⟨g, 1, none⟩ = some v ∧ X.cell? ⟨w.heap.size, 1, none⟩ = some (.slice (some ⟨bb, o, none⟩) qs.length cb) ∧ X.cell? ⟨bb, o + k * 3, none⟩ = some x0 ∧ X.cell? ⟨bb, o + k * 3 + 1, none⟩ = some x1 ∧ X.cell? ⟨bb, o + k * 3 + 2, none⟩ = some x2 ∧ Kept r wr X) (z := 11) (by kernel_rfl) hS0 (fun hHeld => ?_)
    refine todo [0, 1, 2, 3, 4, 5, 6] ?_
    iterate 7
     refine todoL (v := ?_) rfl (by kernel_rfl) (fun _ _ _ h => h) (by assumption) (Or.inl ⟨by rfl, ?_⟩) ?_
     rotate_left
     · intro w hSw; (try dsimp only at hSw); go_simp; (try with_reducible rfl)
     try simp only [Act.put, nA, nB, nC, nD, nE, nF]
    refine todone ?_
    refine wpAnyL_one (i := 7) (by kernel_rfl) rfl (fun K hK => ?sb7)
    go_simp
    refine (ofRR_any (hcall.later (show Below wr.heap.size wr wr.drew from (Below.refl _ _).drew)) (by omega)).mono ?_
    rintro e w5 ⟨rv, rfl, qv, hb5⟩
    have Q5 := Lib.hid qv
    obtain ⟨m5, f1, l1, j1, f2, l2, j2, rfl⟩ := qv.shape
    clear qv
    go_simp
    have hB5 : Below w.heap.size w w5 := (hb.drew).trans (hb5.mono hsz)
    have hk5 : Kept r wr w5 := ((Kept.refl r wr).drew).below hb5
    refine hK.out _ _ (fun _ => mkS _ hk5) (fun hHeld2 => ?mb7)
    clear hK K hHeld
    have hHeld := hHeld2 (by decide)
    clear hHeld2
    try simp only [Act.put, nD, nE, nF]
    refine wpAnyL_one (i := 8) (by kernel_rfl) rfl (fun K hK => ?sb8)
    go_simp
    refine hK.out _ _ (fun _ => mkS _ (hk5.alloc _)) (fun hHeld2 => ?mb8)
    clear hK K hHeld
    have hHeld := hHeld2 (by decide)
    clear hHeld2
    try simp only [Act.put, nD, nE, nF]
    refine wpAnyL_one (i := 9) (by kernel_rfl) rfl (fun K hK => ?sb9)
    have hb5w : Below wr.heap.size wr w5 := (Below.refl _ wr).drew.trans hb5
    have hown5 : OwnE w.heap.size 58 w5 v es := hown.later hb5w
    have hall5 : AllE (fun v x => ResR w.heap.size w5 v x (5 * n + 1)) es ((qs.take k).map Q3.rat) := hall.imp fun u x _ h => h.later hb5w
    have hsz5 := hB5.size
    refine step_append_ownT rfl _ _ 34 rfl w.heap.size 58 i0 _ 3 56 Tryz.underlying34 hi hz0 hz1 hz2 rfl (by decide) _ es.length (flat3 es) rfl (hown5.later ((Below.refl _ _).alloc (Nat.le_refl _) _)) ⟨w5.heap.size, 0, none⟩ 1 1 [.bool m5, .slice f1 l1 j1, .slice f2 l2 j2] rfl rfl (cell_three_new _ _ _ _ _) (by simp [Value.oneCell']) (by unfold maxLen; omega) (by omega) (by simp; omega) ?_
    intro v' w6 hown' hgrow _
    obtain ⟨av, cv, rfl⟩ := ownT_slice hown'
    have hk6 : Kept r wr w6 := (hk5.alloc _).grown hgrow hrv
    refine hK.out _ _ (fun _ => mkS _ hk6) (fun hHeld2 => ?mb9)
    clear hK K hHeld
    have hHeld := hHeld2 (by decide)
    clear hHeld2
    try simp only [Act.put, nD, nE, nF]
    refine wpAnyL_take (i := 10) (v := ?va10) rfl (by kernel_rfl) (by kernel_rfl) (by kernel_rfl) (by kernel_rfl) (fun _ _ _ h => h) (Or.inl ⟨by rfl, ?ha10⟩) (by assumption) ?ra10
    case ha10 =>
     intro w hSw
     try dsimp only at hSw
     go_simp
     try with_reducible rfl
    try simp only [Act.put, nD, nE, nF]
    have R26 := r2.kept hk6 n2
    have f21 := R26.free 1
    have d21 := R26.cell 1
    refine wpAnyL_one (i := 11) (by kernel_rfl) rfl (fun K hK => ?sb11)
    go_simp
    refine hK.out _ _ (fun h => absurd rfl h) (fun _ => ?mb11)
    clear hK K
    try simp only [Act.put, nD, nE, nF]
    refine wpAnyL_done (by kernel_rfl) ?_ _
    go_wp2
    go_roundw
    case rel =>
     have hx5 : ResR w.heap.size w5 (E3.agg ⟨.bool m5, .slice f1 l1 j1, .slice f2 l2 j2⟩) q.rat (5 * n + 1) := Q5.out.mono (by show w.heap.size ≤ wr.heap.size; exact hsz)
     obtain ⟨hrow6, hb6⟩ := pushE (P := fun W v x => ResR w.heap.size W v x (5 * n + 1)) (e := ⟨.bool m5, .slice f1 l1 j1, .slice f2 l2 j2⟩) hB5 hsz5 hown5 hall5 hx5 (fun u y h => ResR.apart hown5 hgrow (by decide) h) hown' hgrow
     rw [hle] at hrow6
     have r06 := r0.kept hk6 n0
     have r16 := r1.kept hk6 n1
     have r36 : ResS w.heap.size w6 (.slice a3 s.length c3) s := ResS.apart hown5 hgrow (by decide) (r3.later hb5w)
     refine ⟨k + 1, _, by go_num, by omega, r06.far (by show w.heap.size ≠ g; omega) _, r16.far (by show w.heap.size + 1 ≠ g; omega) _, R26.set21 _, r36.far R26 (by decide) (kept1 _), ?_, hb6.setCell (by show w.heap.size ≤ g; omega) _⟩
     rw [take_mapQ hqk]
     exact hrow6.far R26 (by decide) (kept1 _) (fun u y h => h.far R26 (by decide) (kept1 _))
    case measure => simp [intOf]; omega
  · obtain rfl : k = qs.length := by omega
    have hltI : ¬ (qs.length : Int) < (qs.length : Int) := by omega
    rw [List.take_length] at hall
    obtain ⟨av, cv, rfl⟩ := ownT_slice hown
    have hel : es.length = qs.length := hle
    rw [hel] at r2 hown
    have c20 := r2.cell 0
    have d21 := r2.cell 1
    have f10 := r1.free 0
    have f11 := r1.free 1
    have g10 := r1.cell 0
    have g11 := r1.cell 1
    have R1s := r1.set2 (.slice a3 s.length c3) (.slice av qs.length cv)
    obtain ⟨z0, z1, _, _⟩ := R1s.two
    have HOWN := Lib.hid hown
    have HALL := Lib.hid hall
    have HR1 := Lib.hid r1
    clear hown hall hle R1s r1
    go_wp2
    refine bodyPost_ret (v := .agg #[.slice a3 s.length c3, .slice av qs.length cv]) (by simp [results, Tryz.results18, go_sem, z0, z1]) rfl ⟨_, _, _, _, rfl, ?_, ?_, below_set2 hb (by omega) _ _⟩
    · exact r3.far HR1.out (by decide) (kept2 _ _)
    · exact RowO.far ⟨es, HOWN.out, HALL.out⟩ HR1.out (by decide) (kept2 _ _) (fun u y h => h.far HR1.out (by decide) (kept2 _ _))
end
section
open Go.RowKit
theorem mayT_shape {s : List Int} {qs : List Q3} (h : mayC s ≠ 0) : mayT s qs = mayC s := by unfold mayT; rw [if_pos h]
theorem mayT_len {s : List Int} {qs : List Q3} (h : mayC s = 0) (h2 : (qs.length : Int) ≠ countS s) : mayT s qs = 13 := by unfold mayT; rw [if_neg (by rw [h]; simp), if_pos h2]
theorem mayT_bad {s : List Int} {qs : List Q3} (h : mayC s = 0) (h2 : (qs.length : Int) = countS s) {q : Q3} (hq : q ∈ qs) (h3 : okQ q = false) : mayT s qs = 6 := by
 unfold mayT
 rw [if_neg (by rw [h]; simp), if_neg (by rw [h2]; simp), if_neg]
 intro e
 rw [List.all_eq_true] at e
 rw [e q hq] at h3
 cases h3
theorem mayT_any {w : World} {v : Value} {s : List Int} {qs : List Q3} {a b : Option Addr} {ca cb : Nat} (T : TensQ w v s qs a ca b cb) (hq : qs.length ≤ 1000000000)
 (hl : ∀ q ∈ qs, q.num.length ≤ 134217728 ∧ q.den.length ≤ 134217728) :
 Calls Tryz.prog 15 #[v] w fun e w' => e = .returned (.int .i64 (mayT s qs)) ∧ Below w.heap.size w w' := by
 have HT := Lib.hid T
 obtain rfl := T.is
 obtain ⟨W, hW⟩ : ∃ W, (w.alloc (.cells #[.slice a s.length ca, .slice b qs.length cb] 26)) = W := ⟨_, rfl⟩
 have R0 : Row W w.heap.size 26 #[.slice a s.length ca, .slice b qs.length cb] := by rw [← hW]; exact Row.new _ _ _
 have hBW : Below w.heap.size w W := by rw [← hW]; exact (Below.refl _ _).alloc (by simp) _
 obtain ⟨c, hc⟩ : ∃ c, mayT s qs = c := ⟨_, rfl⟩
 have HC := Lib.hid hc
 obtain ⟨m, hm⟩ : ∃ m, mayC s = m := ⟨_, rfl⟩
 have HM := Lib.hid hm
 obtain ⟨t, ht⟩ : ∃ t, countS s = t := ⟨_, rfl⟩
 have HTT := Lib.hid ht
 have q1 := mayR6_any (HT.out.sh.later hBW)
 have q2 := fun X (hX : Below W.heap.size W X) => countR6_any ((HT.out.sh.later hBW).later hX)
 rw [hm] at q1
 rw [ht] at q2
 rw [hc]
 obtain ⟨p0, p1, _, _⟩ := R0.two
 clear T hc hm ht
 have mkS : ∀ X, Below W.heap.size W X → X.cell? ⟨w.heap.size, 0, none⟩ = some (.slice a s.length ca) ∧ X.cell? ⟨w.heap.size, 1, none⟩ = some (.slice b qs.length cb) ∧ Below W.heap.size W X := fun X h => ⟨(R0.later h).cell 0, (R0.later h).cell 1, h⟩
 by_cases h0 : m = 0
 · subst h0
   by_cases hlen : (qs.length : Int) = t
   · have hne : ((qs.length : Int) != t) = false := by simpa using hlen
     have HLN := Lib.hid hlen
     clear hlen
     go_enter Tryz.func15, Tryz.ntmps15
     go_wp2_with (go_at_call 46; refine q1.mono ?_; rintro e w1 ⟨rfl, rfl⟩)
     go_region_held3 (fun X => X.cell? ⟨w.heap.size, 0, none⟩ = some (.slice a s.length ca) ∧ X.cell? ⟨w.heap.size, 1, none⟩ = some (.slice b qs.length cb) ∧ Below W.heap.size W X)
      (((refine mkS _ ?_; (repeat' (first | exact Below.refl _ _ | refine Below.drew ?_)))))
      ((go_at_call 47; (with_reducible refine (q2 _ (show Below W.heap.size W _ by (repeat' (first | exact Below.refl _ _ | refine Below.drew ?_)))).mono ?_); rintro e w' ⟨rfl, rfl⟩))
     clear hne q1 hW
     go_wp2
     go_loopw [4] (fun i wr => ∃ k : Nat, i = .int .i64 (k : Int) ∧ k ≤ qs.length ∧ (∀ q ∈ qs.take k, okQ q = true) ∧ Below W.heap.size W wr) (fun i _ => qs.length - (intOf i).toNat)
     case atStart => exact ⟨0, rfl, Nat.zero_le _, fun q h => by simp at h, by first | exact Below.refl _ _ | exact (Below.refl _ _).drew⟩
     case round =>
      obtain ⟨k, rfl, hk, hall, hb⟩ := hrel
      have r0 := R0.later hb
      obtain ⟨c00, c01, _, _⟩ := r0.two
      have HALL := Lib.hid hall
      clear hall
      by_cases hlt : k < qs.length
      · have hbw := hBW.trans (hb.mono hBW.size)
        obtain ⟨bb, o, x0, x1, x2, q, hbo, hqk, e0, e1, e2, hraw⟩ := (HT.out.el.later hbw (fun v x _ k => k.later hbw)).at hlt
        have hmem := List.mem_of_getElem? hqk
        subst hbo
        obtain ⟨u1, u2, k1, k2, hx, A1, B1, _, _⟩ := hraw
        simp only [Value.agg.injEq, Array.mk.injEq, List.cons.injEq, and_true] at hx
        obtain ⟨rfl, rfl, rfl⟩ := hx
        have hcall := mayR_any (m1 := q.neg) A1 B1 (hl q hmem).1 (hl q hmem).2 (Nat.le_refl _)
        have hltI : (k : Int) < (qs.length : Int) := by omega
        have HQK := Lib.hid hqk
        clear hqk
        have hokd : okQ q = validB q.neg q.num q.den (ratOf q.neg (val q.num) (val q.den)) := rfl
        by_cases hok : okQ q = true
        · rw [← hokd, if_pos hok] at hcall
          have HOK := Lib.hid hok
          clear hok hokd
          go_wp2_with (go_at_call 48; refine hcall.mono ?_; rintro e w2 ⟨rfl, hb2⟩)
          go_roundw
          case rel =>
           refine ⟨k + 1, by go_num, by omega, fun y hy => ?_, hb.trans (hb2.mono hb.size)⟩
           rw [take_nextL HQK.out] at hy
           rcases List.mem_append.1 hy with h | h
           · exact HALL.out y h
           · rw [List.mem_singleton.1 h]; exact HOK.out
          case measure => simp [intOf]; omega
        · have hok2 : okQ q = false := by simpa using hok
          rw [← hokd, if_neg hok] at hcall
          have hcc := mayT_bad HM.out (by rw [HTT.out]; exact HLN.out) hmem hok2
          obtain rfl : c = 6 := by rw [← HC.out]; exact hcc
          clear hok hok2 hokd hcc
          go_wp2_with (go_at_call 48; refine hcall.mono ?_; rintro e w2 ⟨rfl, hb2⟩)
          go_ret
          exact ⟨rfl, hBW.trans ((hb.trans (hb2.mono hb.size)).mono hBW.size)⟩
      · obtain rfl : k = qs.length := by omega
        have hltI : ¬ (qs.length : Int) < (qs.length : Int) := by omega
        have hcc := mayT_ok HM.out (by rw [HTT.out]; exact HLN.out) (by have h := HALL.out; rwa [List.take_length] at h)
        obtain rfl : c = 0 := by rw [← HC.out]; exact hcc
        clear hcc
        go_wp2
        go_ret
        exact ⟨rfl, hBW.trans (hb.mono hBW.size)⟩
   · have hne : ((qs.length : Int) != t) = true := by simpa using hlen
     have hcc := mayT_len HM.out (by rw [HTT.out]; exact hlen)
     obtain rfl : c = 13 := by rw [← HC.out]; exact hcc
     clear hlen hcc
     go_enter Tryz.func15, Tryz.ntmps15
     go_wp2_with (go_at_call 46; refine q1.mono ?_; rintro e w1 ⟨rfl, rfl⟩)
     go_region_held3 (fun X => X.cell? ⟨w.heap.size, 0, none⟩ = some (.slice a s.length ca) ∧ X.cell? ⟨w.heap.size, 1, none⟩ = some (.slice b qs.length cb) ∧ Below W.heap.size W X)
      (((refine mkS _ ?_; (repeat' (first | exact Below.refl _ _ | refine Below.drew ?_)))))
      ((go_at_call 47; (with_reducible refine (q2 _ (show Below W.heap.size W _ by (repeat' (first | exact Below.refl _ _ | refine Below.drew ?_)))).mono ?_); rintro e w' ⟨rfl, rfl⟩))
     go_wp2
     go_ret
     exact ⟨rfl, by first | exact hBW | exact hBW.drew⟩
 · have hcc := mayT_shape (s := s) (qs := qs) (by rw [HM.out]; exact h0)
   obtain rfl : c = m := by rw [← HC.out, hcc]; exact HM.out
   have hne : (c != 0) = true := by simpa using h0
   clear hcc q2
   go_enter Tryz.func15, Tryz.ntmps15
   go_wp2_with (go_at_call 46; refine q1.mono ?_; rintro e w1 ⟨rfl, rfl⟩)
   go_ret
   exact ⟨rfl, hBW⟩
end
section
open Go.RowKit
theorem RefQ.only {w w' : World} {X : Rat} {n : Nat} {zs ys : List Int} {f g : Option Addr} {j k : Nat} (h : RefQ w X n zs ys f g j k) {b : Nat} {t : TypeId} {p : Bool} {ad bd : Option Addr} {l cap m cbp : Nat} (R : Row w b t #[.bool p, .slice ad l cap, .slice bd m cbp]) (o : Only b w w') : RefQ w' X n zs ys f g j k :=
 ⟨h.1.far R (noInts3 _ _ _ _ _ _ _) o.block, h.2.1.far R (noInts3 _ _ _ _ _ _ _) o.block, h.2.2⟩
end
section
open Go.RowKit Go.ChangeShapes Go.WideShapes Go.ChangeAt Go.Joins Go.Deep
theorem DotQ.only {base n g : Nat} {w w' : World} {r : Value} {x : Rat} {c : Int} {cs : Array Value} (h : DotQ base w r x n c) (R : Row w g 54 cs) (k : Only g w w') : DotQ base w' r x n c := ⟨fun e => (h.1 e).only R k, h.2⟩
theorem TenC.only {base n g : Nat} {w w' : World} {r : Value} {s : List Int} {L : List Rat} {c : Int} {cs : Array Value} (h : TenC base w r s L n c) (R : Row w g 26 cs) (k : Only g w w') : TenC base w' r s L n c := ⟨fun e => (h.1 e).far R (by decide) (by decide) (by decide) k.block, h.2⟩
end
section
open Go.RowKit
theorem list_two10 {l : List Int} (h : l.length = 2) : l = [l.getD 0 0, l.getD 1 0] := by
 match l, h with
 | [x, y], _ => rfl
theorem Ref10.none10 {w' : World} {e : Ending} {c : Int} {s s2 : List Int} {L L2 : List Rat} {m m2 : Nat} (h : Ref10 w' e c s L m) (h0 : c ≠ 0) : Ref10 w' e c s2 L2 m2 := by
 obtain ⟨r, h1, h2, _⟩ := h
 exact ⟨r, h1, h2, fun e => absurd e h0⟩
theorem matMulR_all {n : Nat} {w : World} {u v : Value} {s t : List Int} {X Y : List Rat} {a1 b1 a2 b2 : Option Addr} {ca1 cb1 ca2 cb2 : Nat} (T1 : TensR w u s X n a1 ca1 b1 cb1) (T2 : TensR w v t Y n a2 ca2 b2 cb2) (ok1 : Ok10 s X) (ok2 : Ok10 t Y) (l1 : X.length ≤ 64) (l2 : Y.length ≤ 64) (fX : ∀ x ∈ X, FitQ x 96) (fY : ∀ x ∈ Y, FitQ x 96) (hn : n ≤ 951) :
 Calls Tryz.prog 22 #[u, v] w fun e w' => Ref10 w' e (mmC s t) (mmS s t) (mmV s t X Y) 951 ∧ Below w.heap.size w w' := by
 by_cases h : s.length = 2 ∧ t.length = 2 ∧ s.getD 1 0 = t.getD 0 0
 · obtain ⟨h1, h2, h3⟩ := h
   have e1 := list_two10 h1
   have e2 := list_two10 h2
   rw [← h3] at e2
   have p1 := ok1.ok.pos.getD (i := 0) (by omega)
   have p2 := ok1.ok.pos.getD (i := 1) (by omega)
   have p3 := ok2.ok.pos.getD (i := 1) (by omega)
   obtain ⟨a, ha⟩ : ∃ a : Nat, (a : Int) = s.getD 0 0 := ⟨(s.getD 0 0).toNat, by omega⟩
   obtain ⟨b, hb⟩ : ∃ b : Nat, (b : Int) = s.getD 1 0 := ⟨(s.getD 1 0).toNat, by omega⟩
   obtain ⟨c, hc⟩ : ∃ c : Nat, (c : Int) = t.getD 1 0 := ⟨(t.getD 1 0).toNat, by omega⟩
   rw [← ha, ← hb] at e1
   rw [← hb, ← hc] at e2
   rw [← ha] at p1
   rw [← hb] at p2
   rw [← hc] at p3
   clear ha hb hc h1 h2 h3
   subst e1
   subst e2
   have lX : X.length = a * b := by rw [ok1.len, cnt_two10]
   have lY : Y.length = b * c := by rw [ok2.len, cnt_two10]
   have a1' : 1 ≤ a := by omega
   have b1' : 1 ≤ b := by omega
   have c1' : 1 ≤ c := by omega
   have hab : a ≤ 64 := Nat.le_trans (Nat.le_mul_of_pos_right a b1') (by omega)
   have hba : b ≤ 64 := Nat.le_trans (Nat.le_mul_of_pos_left b a1') (by omega)
   have hcb : c ≤ 64 := Nat.le_trans (Nat.le_mul_of_pos_left c b1') (by omega)
   have hprod : prodS [(a : Int), (c : Int)] = ((a * c : Nat) : Int) := by
    simp only [prodS, Int.mul_one]
    exact (Int.natCast_mul a c).symm
   have hpos : posS [(a : Int), (c : Int)] := fun x hx => by
    simp at hx
    rcases hx with rfl | rfl <;> omega
   have hcode : mmC [(a : Int), (b : Int)] [(b : Int), (c : Int)] = mayC [(a : Int), (c : Int)] := if_pos ⟨rfl, rfl, rfl⟩
   by_cases hg : 1024 < a * c
   · have hm : mmC [(a : Int), (b : Int)] [(b : Int), (c : Int)] = 14 := by
      rw [hcode]
      unfold mayC
      rw [if_neg (by simp), if_neg (by rw [any_pos]; exact fun h => h hpos), if_pos (by rw [hprod]; omega)]
     rw [hm]
     exact (matMulR_14 T1 T2 hab hba hcb hg).mono fun e w' ⟨h, hb⟩ => ⟨h.none10 (by decide), hb⟩
   · have hm : mmC [(a : Int), (b : Int)] [(b : Int), (c : Int)] = 0 := by
      rw [hcode]
      exact mayC_ok ⟨by simp, hpos, by rw [hprod]; omega⟩
     rw [hm]
     exact matMulR_good T1 T2 hab hba hcb (by omega) lX lY fX fY hn
 · have hm : mmC s t = 13 := if_neg h
   rw [hm]
   exact (matMulR_bad T1 T2 h (by have := ok1.ok.rank; omega) (by have := ok2.ok.rank; omega)).mono fun e w' ⟨h, hb⟩ => ⟨h.none10 (by decide), hb⟩
theorem orL_two10 {x y z : Int} (h : orL [x, y] ≠ 0) : orL [x, y, z] = orL [x, y] := by
 by_cases hx : x = 0
 · subst hx
   by_cases hy : y = 0
   · subst hy; exact absurd rfl h
   · simp [orL, hy]
 · simp [orL, hx]
theorem prodS_drop_le10 {s : List Int} (h : posS s) (k : Nat) : prodS (s.drop k) ≤ prodS s := by
 have h1 := prodS_pos (h.take k)
 have h2 := prodS_pos (h.drop k)
 rw [prodS_split s k]
 have := Int.mul_le_mul_of_nonneg_right h1 (show 0 ≤ prodS (s.drop k) by omega)
 omega
theorem TenR.far10 {w w' : World} {v : Value} {s : List Int} {L : List Rat} {n g : Nat} {t : TypeId} {p1 p2 : Option Addr} {l1 l2 k1 k2 : Nat} (h : TenR w v s L n) (R : Row w g t #[.slice p1 l1 k1, .slice p2 l2 k2]) (hk : ∀ k, k ≠ g → w'.heap[k]? = w.heap[k]?) : TenR w' v s L n := by
 obtain ⟨a, ca, b, cb, h⟩ := h
 exact ⟨a, ca, b, cb, h.far R hk⟩
theorem dim_le10 {s : List Int} {L : List Rat} (ok' : Ok10 s L) (hl : L.length ≤ 64) (i : Nat) : s.getD i 0 ≤ 64 := by
 have ok := ok'.ok
 have hq := ok.cnt.1
 have hq2 := ok'.len
 by_cases hi : i < s.length
 · have h1 := prodS_drop hi
   have h2 := prodS_drop_le10 ok.pos i
   have h4 := ok.pos.getD (i := i) hi
   have h5 := prodS_pos (ok.pos.drop (i + 1))
   have h6 := Int.mul_le_mul_of_nonneg_left (show 1 ≤ prodS (s.drop (i + 1)) by omega) (show 0 ≤ s.getD i 0 by omega)
   rw [Int.mul_one, ← h1] at h6
   omega
 · rw [List.getD_eq_getElem?_getD, List.getElem?_eq_none (Nat.le_of_not_lt hi)]
   decide
theorem An10.none10 {base N : Nat} {w : World} {r : Value} {c : Int} {s s2 : List Int} {L L2 : List Rat} (h : An10 base w r c s L N) (h0 : c ≠ 0) : An10 base w r c s2 L2 N := .inr ⟨h0, (h.resolve_left fun e => h0 e.1).2⟩
end
section
open Go.RowKit
theorem foldMatMuls_walk {v1 : Value} {s1 : List Int} {q1 : List Q3} {a1 b1 : Option Addr} {ca1 cb1 : Nat} {v2 : Value} {s2 : List Int} {q2 : List Q3} {a2 b2 : Option Addr} {ca2 cb2 : Nat} (w : World) (T1 : TensQ w v1 s1 q1 a1 ca1 b1 cb1) (ls1 : s1.length ≤ 17592186044416) (T2 : TensQ w v2 s2 q2 a2 ca2 b2 cb2) (ls2 : s2.length ≤ 17592186044416) :
 Calls Tryz.prog 4 #[v1, v2] w fun e W' => e = .returned (.bool true) ∧ Below w.heap.size w W' := by
 have HT1 := Lib.hid T1
 have HT2 := Lib.hid T2
 have WF1 := Lib.hid T1.wfs10
 have WF2 := Lib.hid T2.wfs10
 obtain rfl := T1.is
 obtain rfl := T2.is
 obtain ⟨W, hW⟩ : ∃ W, (w.alloc (.cells #[.slice a1 s1.length ca1, .slice b1 q1.length cb1] 26)).alloc (.cells #[.slice a2 s2.length ca2, .slice b2 q2.length cb2] 26) = W := ⟨_, rfl⟩
 have R0 : Row W w.heap.size 26 #[.slice a1 s1.length ca1, .slice b1 q1.length cb1] := by rw [← hW]; exact (Row.new _ _ _).alloc _
 have R1 : Row W (w.heap.size + 1) 26 #[.slice a2 s2.length ca2, .slice b2 q2.length cb2] := by rw [← hW]; have h := Row.new (w.alloc (.cells #[.slice a1 s1.length ca1, .slice b1 q1.length cb1] 26)) 26 #[.slice a2 s2.length ca2, .slice b2 q2.length cb2]; simp only [World.size_alloc] at h; exact h
 have hBW : Below w.heap.size w W := by rw [← hW]; exact ((Below.refl _ _).alloc (by simp) _).alloc (by simp) _
 have hf1 := few10_any (HT1.out.later hBW)
 have hf2 := fun X (h : Below W.heap.size W X) => few10_any (HT2.out.later (hBW.trans (h.mono hBW.size)))
 obtain ⟨t1, ht1⟩ : ∃ t, few10 q1 = t := ⟨_, rfl⟩
 obtain ⟨t2, ht2⟩ : ∃ t, few10 q2 = t := ⟨_, rfl⟩
 rw [ht1] at hf1
 rw [ht2] at hf2
 have HF1 := Lib.hid ht1
 have HF2 := Lib.hid ht2
 clear T1 T2 ht1 ht2
 cases t1 with
 | false =>
   have B0 : Below W.heap.size W W := Below.refl _ _
   obtain ⟨xc0, xc1, _, _⟩ := R0.two
   obtain ⟨yc0, yc1, _, _⟩ := R1.two
   go_enter Tryz.func4, Tryz.ntmps4
   go_wp2_with fail
   (try rw [hW])
   clear hW
   refine (hf1).mono ?_
   rintro e y1 ⟨rfl, hy⟩
   have B1 : Below W.heap.size W y1 := B0.trans (hy.mono B0.size)
   clear xc0 xc1 yc0 yc1
   replace R0 := R0.later hy
   replace R1 := R1.later hy
   obtain ⟨xc0, xc1, _, _⟩ := R0.two
   obtain ⟨yc0, yc1, _, _⟩ := R1.two
   clear hy
   go_wp2_with fail
   refine (known10_any _).mono ?_
   rintro e y9 ⟨rfl, hb9⟩
   go_wp2_with fail
   go_ret
   exact ⟨rfl, hBW.trans ((B1.trans (hb9.mono B1.size)).mono hBW.size)⟩
 | true =>
   cases t2 with
   | false =>
     have B0 : Below W.heap.size W W := Below.refl _ _
     obtain ⟨xc0, xc1, _, _⟩ := R0.two
     obtain ⟨yc0, yc1, _, _⟩ := R1.two
     go_enter Tryz.func4, Tryz.ntmps4
     go_wp2_with fail
     (try rw [hW])
     clear hW
     refine (hf1).mono ?_
     rintro e y1 ⟨rfl, hy⟩
     have B1 : Below W.heap.size W y1 := B0.trans (hy.mono B0.size)
     clear xc0 xc1 yc0 yc1
     replace R0 := R0.later hy
     replace R1 := R1.later hy
     obtain ⟨xc0, xc1, _, _⟩ := R0.two
     obtain ⟨yc0, yc1, _, _⟩ := R1.two
     clear hy
     go_wp2_with fail
     refine (hf2 _ B1).mono ?_
     rintro e y2 ⟨rfl, hy⟩
     have B2 : Below W.heap.size W y2 := B1.trans (hy.mono B1.size)
     clear xc0 xc1 yc0 yc1
     replace R0 := R0.later hy
     replace R1 := R1.later hy
     obtain ⟨xc0, xc1, _, _⟩ := R0.two
     obtain ⟨yc0, yc1, _, _⟩ := R1.two
     clear hy
     go_wp2_with fail
     refine (known10_any _).mono ?_
     rintro e y9 ⟨rfl, hb9⟩
     go_wp2_with fail
     go_ret
     exact ⟨rfl, hBW.trans ((B2.trans (hb9.mono B2.size)).mono hBW.size)⟩
   | true =>
     obtain ⟨h641, hl1⟩ := few10_true HF1.out
     obtain ⟨h642, hl2⟩ := few10_true HF2.out
     have HL1 := Lib.hid hl1
     have HL2 := Lib.hid hl2
     obtain ⟨m1, hm1⟩ : ∃ m, mayT s1 q1 = m := ⟨_, rfl⟩
     obtain ⟨m2, hm2⟩ : ∃ m, mayT s2 q2 = m := ⟨_, rfl⟩
     have HM1 := Lib.hid hm1
     have HM2 := Lib.hid hm2
     obtain ⟨c, hc⟩ : ∃ c, orL [m1, m2, mmC s1 s2] = c := ⟨_, rfl⟩
     have HC := Lib.hid hc
     clear hl1 hl2 hm1 hm2 hc
     have B0 : Below W.heap.size W W := Below.refl _ _
     obtain ⟨xc0, xc1, _, _⟩ := R0.two
     obtain ⟨yc0, yc1, _, _⟩ := R1.two
     go_enter Tryz.func4, Tryz.ntmps4
     go_wp2_with fail
     (try rw [hW])
     clear hW
     refine (hf1).mono ?_
     rintro e y1 ⟨rfl, hy⟩
     have B1 : Below W.heap.size W y1 := B0.trans (hy.mono B0.size)
     clear xc0 xc1 yc0 yc1
     replace R0 := R0.later hy
     replace R1 := R1.later hy
     obtain ⟨xc0, xc1, _, _⟩ := R0.two
     obtain ⟨yc0, yc1, _, _⟩ := R1.two
     clear hy
     go_wp2_with fail
     refine (hf2 _ B1).mono ?_
     rintro e y2 ⟨rfl, hy⟩
     have B2 : Below W.heap.size W y2 := B1.trans (hy.mono B1.size)
     clear xc0 xc1 yc0 yc1
     replace R0 := R0.later hy
     replace R1 := R1.later hy
     obtain ⟨xc0, xc1, _, _⟩ := R0.two
     obtain ⟨yc0, yc1, _, _⟩ := R1.two
     clear hy
     go_wp2_with fail
     refine (matMul_any 6 (n := 3) (HT1.out.later (hBW.trans (B2.mono hBW.size))) (HT2.out.later (hBW.trans (B2.mono hBW.size))) ls1 ls2 HL1.out HL2.out (by decide) (by omega) (by omega) (by omega) (by decide)).mono ?_
     rintro e zP ⟨hO, hy⟩
     rw [HM1.out, HM2.out, HC.out] at hO
     obtain ⟨aP, bP, nP, mP, caP, cbP, rfl, hA⟩ := hO.an10
     obtain ⟨yP, hV⟩ : ∃ X, zP.alloc (.cells #[.slice aP nP caP, .slice bP mP cbP] 26) = X := ⟨_, rfl⟩
     have bz : Below zP.heap.size zP yP := by rw [← hV]; exact (Below.refl _ _).alloc (Nat.le_refl _) _
     have NP : Row yP zP.heap.size 26 #[.slice aP nP caP, .slice bP mP cbP] := by rw [← hV]; exact Row.new _ _ _
     have hyz := hy.trans (bz.mono hy.size)
     have AP := Lib.hid (hA.later bz)
     clear hy bz hO hA
     have B3 : Below W.heap.size W yP := B2.trans (hyz.mono B2.size)
     clear xc0 xc1 yc0 yc1
     replace R0 := R0.later hyz
     replace R1 := R1.later hyz
     obtain ⟨xc0, xc1, _, _⟩ := R0.two
     obtain ⟨yc0, yc1, _, _⟩ := R1.two
     clear hyz
     obtain ⟨pc0, pc1, _, _⟩ := NP.two
     go_wp2_with fail
     (try rw [hV])
     (try clear hV)
     have hal : Below yP.heap.size yP (yP.alloc (.cells #[.slice a1 s1.length ca1, .slice b1 q1.length cb1, .slice a2 s2.length ca2, .slice b2 q2.length cb2] 26)) := (Below.refl _ _).alloc (Nat.le_refl _) _
     have BA : Below W.heap.size W (yP.alloc (.cells #[.slice a1 s1.length ca1, .slice b1 q1.length cb1, .slice a2 s2.length ca2, .slice b2 q2.length cb2] 26)) := B3.trans (hal.mono B3.size)
     have hlist : Tens10 (yP.alloc (.cells #[.slice a1 s1.length ca1, .slice b1 q1.length cb1, .slice a2 s2.length ca2, .slice b2 q2.length cb2] 26)) yP.heap.size [m1, m2] := fun i hi => by
      have RN := Row.new yP 26 #[.slice a1 s1.length ca1, .slice b1 q1.length cb1, .slice a2 s2.length ca2, .slice b2 q2.length cb2]
      match i, hi with
      | 0, _ => exact ⟨a1, b1, _, ca1, _, cb1, RN.cell 0, RN.cell 1, fun X hX => by
         have h := mayT_any (HT1.out.later (hBW.trans ((BA.trans (hX.mono BA.size)).mono hBW.size))) (by omega) (fun q hq => by have := HL1.out q hq; omega)
         rwa [HM1.out] at h⟩
      | 1, _ => exact ⟨a2, b2, _, ca2, _, cb2, RN.cell 2, RN.cell 3, fun X hX => by
         have h := mayT_any (HT2.out.later (hBW.trans ((BA.trans (hX.mono BA.size)).mono hBW.size))) (by omega) (fun q hq => by have := HL2.out q hq; omega)
         rwa [HM2.out] at h⟩
     have hfirst := first10_any (cap := 2) hlist (by simp)
     obtain ⟨d, hd⟩ : ∃ d, orL [m1, m2] = d := ⟨_, rfl⟩
     rw [hd] at hfirst
     have HD := Lib.hid hd
     refine hfirst.mono ?_
     rintro e yF ⟨rfl, hy⟩
     have hyF := hal.trans (hy.mono hal.size)
     clear hy hal BA hlist hfirst hd
     have B4 : Below W.heap.size W yF := B3.trans (hyF.mono B3.size)
     clear xc0 xc1 yc0 yc1 pc0 pc1
     replace R0 := R0.later hyF
     replace R1 := R1.later hyF
     replace NP := NP.later hyF
     replace AP := Lib.hid (AP.out.later hyF)
     obtain ⟨xc0, xc1, _, _⟩ := R0.two
     obtain ⟨yc0, yc1, _, _⟩ := R1.two
     obtain ⟨pc0, pc1, _, _⟩ := NP.two
     clear hyF
     by_cases h0 : d = 0
     case neg =>
      have hdI : (d != 0) = true := by simp [h0]
      obtain rfl : c = d := by rw [← HC.out, ← HD.out]; exact orL_two10 (by rw [HD.out]; exact h0)
      go_wp2_with fail
      refine (told10_any (n := 0) (AP.out.none10 (s2 := []) (L2 := []) h0) ⟨none, none, 0, 0, 0, 0, rfl⟩ (fun e => absurd e h0) (by simp) (by simp) (by decide) (by decide)).mono ?_
      rintro e y5 ⟨rfl, hy⟩
      have B5 : Below W.heap.size W y5 := B4.trans (hy.mono B4.size)
      clear xc0 xc1 yc0 yc1 pc0 pc1
      replace R0 := R0.later hy
      replace R1 := R1.later hy
      replace NP := NP.later hy
      replace AP := Lib.hid (AP.out.later hy)
      obtain ⟨xc0, xc1, _, _⟩ := R0.two
      obtain ⟨yc0, yc1, _, _⟩ := R1.two
      obtain ⟨pc0, pc1, _, _⟩ := NP.two
      clear hy
      go_wp2_with fail
      refine (known10_any _).mono ?_
      rintro e y9 ⟨rfl, hb9⟩
      go_wp2_with fail
      go_ret
      exact ⟨rfl, hBW.trans ((B5.trans (hb9.mono B5.size)).mono hBW.size)⟩
     case pos =>
      subst h0
      have h12 : m1 = 0 ∧ m2 = 0 := by
       have h := HD.out
       by_cases e : m1 = 0
       · subst e
         refine ⟨rfl, ?_⟩
         by_cases e2 : m2 = 0
         · exact e2
         · simp [orL, e2] at h
       · simp [orL, e] at h
      obtain ⟨rfl, rfl⟩ := h12
      obtain rfl : mmC s1 s2 = c := by rw [← HC.out]; exact ((orZ10 _).1).symm
      obtain ⟨c, hc⟩ : ∃ c, mmC s1 s2 = c := ⟨_, rfl⟩
      have HCC := Lib.hid hc
      obtain ⟨L1, hL1⟩ : ∃ L, q1.map Q3.rat = L := ⟨_, rfl⟩
      obtain ⟨L2, hL2⟩ : ∃ L, q2.map Q3.rat = L := ⟨_, rfl⟩
      have ok1 : Ok10 s1 L1 := by rw [← hL1]; exact Ok10.of HM1.out
      have ok2 : Ok10 s2 L2 := by rw [← hL2]; exact Ok10.of HM2.out
      have l1 : L1.length ≤ 64 := by rw [← hL1]; simpa using h641
      have l2 : L2.length ≤ 64 := by rw [← hL2]; simpa using h642
      have fX : ∀ x ∈ L1, FitQ x 96 := fun x hx => by
       rw [← hL1] at hx
       obtain ⟨p, hp, rfl⟩ := List.mem_map.1 hx
       exact FitQ.raw (m := 3) (WF1.out p hp).1 (WF1.out p hp).2 (HL1.out p hp).1 (HL1.out p hp).2
      have fY : ∀ x ∈ L2, FitQ x 96 := fun x hx => by
       rw [← hL2] at hx
       obtain ⟨p, hp, rfl⟩ := List.mem_map.1 hx
       exact FitQ.raw (m := 3) (WF2.out p hp).1 (WF2.out p hp).2 (HL2.out p hp).1 (HL2.out p hp).2
      rw [hL1, hL2, hc] at AP
      rw [hc]
      obtain ⟨SM, hSM⟩ : ∃ S, mmS s1 s2 = S := ⟨_, rfl⟩
      obtain ⟨LM, hLM⟩ : ∃ L, mmV s1 s2 L1 L2 = L := ⟨_, rfl⟩
      rw [hSM, hLM] at AP
      have hSMl : SM.length = 2 := by rw [← hSM]; rfl
      have hLMl : LM.length ≤ 4096 := by
       rw [← hLM]
       unfold mmV
       rw [mmF_len]
       have h1 := dim_le10 ok1 l1 0
       have h2 := dim_le10 ok2 l2 1
       exact Nat.le_trans (Nat.mul_le_mul (show (s1.getD 0 0).toNat ≤ 64 by omega) (show (s2.getD 1 0).toNat ≤ 64 by omega)) (by decide)
      have O1 := Lib.hid ok1
      have O2 := Lib.hid ok2
      have FX := Lib.hid fX
      have FY := Lib.hid fY
      have HL1' := Lib.hid hL1
      have HL2' := Lib.hid hL2
      have HSM := Lib.hid hSM
      have HLM := Lib.hid hLM
      clear hc hL1 hL2 ok1 ok2 fX fY hSM hLM
      have mkX : ∀ X, Below yF.heap.size yF X → X.cell? ⟨w.heap.size, 0, none⟩ = some (.slice a1 s1.length ca1) ∧ X.cell? ⟨w.heap.size, 1, none⟩ = some (.slice b1 q1.length cb1) ∧ X.cell? ⟨w.heap.size + 1, 0, none⟩ = some (.slice a2 s2.length ca2) ∧ X.cell? ⟨w.heap.size + 1, 1, none⟩ = some (.slice b2 q2.length cb2) := fun X h => by
       obtain ⟨g0, g1, _⟩ := (R0.later h).two
       obtain ⟨g2, g3, _⟩ := (R1.later h).two
       exact ⟨g0, g1, g2, g3⟩
      have MKX := Lib.hid mkX
      have HBy := Lib.hid B4
      clear mkX
      go_upto_region 7 with fail
      clear xc0 xc1 yc0 yc1 pc0 pc1
      go_cut [8, 9] (fun sa sb wx => ∃ (gp : Nat) (ra rb : Option Addr) (na nb rca rcb : Nat), sa = .pointer (some ⟨gp, 0, none⟩) ∧ sb = .int .i64 c ∧ Row wx gp 36 #[.slice ra na rca, .slice rb nb rcb] ∧ (c = 0 → TenR wx (.agg #[.slice ra na rca, .slice rb nb rcb]) SM LM 951) ∧ Below yF.heap.size yF wx)
      case first =>
       refine wp_region_held_drew (S := fun X => X.cell? ⟨w.heap.size, 0, none⟩ = some (.slice a1 s1.length ca1) ∧ X.cell? ⟨w.heap.size, 1, none⟩ = some (.slice b1 q1.length cb1) ∧ X.cell? ⟨w.heap.size + 1, 0, none⟩ = some (.slice a2 s2.length ca2) ∧ X.cell? ⟨w.heap.size + 1, 1, none⟩ = some (.slice b2 q2.length cb2)) (by kernel_rfl) (MKX.out _ ((Below.refl _ _).drew)) (fun hHeld => ?_)
       obtain ⟨pn, hp⟩ : ∃ Y, yF.drew = Y := ⟨_, rfl⟩
       have bn : Below yF.heap.size yF pn := by rw [← hp]; exact (Below.refl _ _).drew
       rw [hp] at hHeld ⊢
       clear hp
       refine todo [0, 2] ?_
       iterate 2
        refine todoH (v := ?_) rfl (by kernel_rfl) (fun _ _ _ h => h) (by assumption) (Or.inl ⟨by rfl, ?_⟩) ?_
        rotate_left
        · intro w hSw; (try dsimp only at hSw); go_simp; (try with_reducible rfl)
        try simp only [Act.put, nA, nB, nC, nD, nE, nF]
       refine todone ?_
       have HPn := Lib.hid (fun (X : World) (h : Below pn.heap.size pn X) => (show X.cell? ⟨w.heap.size, 0, none⟩ = some (.slice a1 s1.length ca1) ∧ X.cell? ⟨w.heap.size, 1, none⟩ = some (.slice b1 q1.length cb1) ∧ X.cell? ⟨w.heap.size + 1, 0, none⟩ = some (.slice a2 s2.length ca2) ∧ X.cell? ⟨w.heap.size + 1, 1, none⟩ = some (.slice b2 q2.length cb2) from MKX.out _ (bn.trans (h.mono bn.size))))
       refine pool_start (fs := [⟨8, 8, 36, #[.slice none 0 0, .slice none 0 0], fun g => .pointer (some ⟨g, 0, none⟩)⟩]) (us := [undef]) (n := 8) (F := fun _ => True) (by kernel_rfl) (by simp only [putF, Act.put, nA, nB, nC, nD, nE, nF]) rfl trivial ?_
       refine pool_step (α := Option Addr × Option Addr × Nat × Nat) (fun p => .agg #[.slice p.1 s1.length p.2.2.1, .slice p.2.1 q1.length p.2.2.2]) (c := 1) (dc := 41) (need := []) (F' := fun p X => TensR X (.agg #[.slice p.1 s1.length p.2.2.1, .slice p.2.1 q1.length p.2.2.2]) s1 L1 16 p.1 p.2.2.1 p.2.1 p.2.2.2) rfl ?fln1 (by decide) (by decide) (by decide) (by decide) (by kernel_rfl) HPn.out (fun _ _ _ _ => trivial) ?stn1 ?nxn1
       case fln1 =>
        intro f hf
        simp only [List.mem_cons, List.not_mem_nil, or_false] at hf
        rcases hf with rfl
        all_goals exact ⟨fun g g' e => by simpa using e, _, rfl, fun a X K h => by unfold StepH; go_simp; exact h⟩
       case stn1 =>
        intro us X K hus _ hb _ hK
        obtain ⟨uF1, rfl⟩ := len_one10 hus
        simp only [putF, Act.put, nA, nB, nC, nD, nE, nF]
        unfold StepH
        go_simp
        have hbX : Below w.heap.size w X := hBW.trans ((HBy.out.trans ((bn.trans (hb.mono bn.size)).mono HBy.out.size)).mono hBW.size)
        refine (ofT_any (n := 3) (HT1.out.later hbX) ls1 (by omega) HL1.out (by decide)).mono ?_
        rintro e X' ⟨pa, pb, pca, pcb, rfl, S1, E1, hy⟩
        have U := ofT_tens (m := q1.length) (by simp) S1 E1
        rw [HL1'.out] at U
        go_simp
        exact hK (pa, pb, pca, pcb) _ hy U
       rintro ⟨pa1, pb1, pca1, pcb1⟩
       (try dsimp only)
       try simp only [Act.put, nA, nB, nC, nD, nE, nF]
       refine pool_step (α := Option Addr × Option Addr × Nat × Nat) (fun p => .agg #[.slice p.1 s2.length p.2.2.1, .slice p.2.1 q2.length p.2.2.2]) (c := 3) (dc := 43) (need := []) (F' := fun p X => TensR X (.agg #[.slice pa1 s1.length pca1, .slice pb1 q1.length pcb1]) s1 L1 16 pa1 pca1 pb1 pcb1 ∧ TensR X (.agg #[.slice p.1 s2.length p.2.2.1, .slice p.2.1 q2.length p.2.2.2]) s2 L2 16 p.1 p.2.2.1 p.2.1 p.2.2.2) rfl ?fln3 (by decide) (by decide) (by decide) (by decide) (by kernel_rfl) HPn.out (fun X Y h hF => TensR.later hF h) ?stn3 ?nxn3
       case fln3 =>
        intro f hf
        simp only [List.mem_cons, List.not_mem_nil, or_false] at hf
        rcases hf with rfl
        all_goals exact ⟨fun g g' e => by simpa using e, _, rfl, fun a X K h => by unfold StepH; go_simp; exact h⟩
       case stn3 =>
        intro us X K hus _ hb hF hK
        obtain ⟨uF1, rfl⟩ := len_one10 hus
        simp only [putF, Act.put, nA, nB, nC, nD, nE, nF]
        unfold StepH
        go_simp
        have hbX : Below w.heap.size w X := hBW.trans ((HBy.out.trans ((bn.trans (hb.mono bn.size)).mono HBy.out.size)).mono hBW.size)
        refine (ofT_any (n := 3) (HT2.out.later hbX) ls2 (by omega) HL2.out (by decide)).mono ?_
        rintro e X' ⟨pa, pb, pca, pcb, rfl, S1, E1, hy⟩
        have U := ofT_tens (m := q2.length) (by simp) S1 E1
        rw [HL2'.out] at U
        go_simp
        exact hK (pa, pb, pca, pcb) _ hy ⟨hF.later hy, U⟩
       rintro ⟨pa2, pb2, pca2, pcb2⟩
       (try dsimp only)
       try simp only [Act.put, nA, nB, nC, nD, nE, nF]
       refine pool_step (α := Option Addr × Option Addr × Nat × Nat × Nat × Nat) (fun p => .tuple #[.agg #[.slice p.1 p.2.2.1 p.2.2.2.1, .slice p.2.1 p.2.2.2.2.1 p.2.2.2.2.2], .int .i64 c]) (c := 4) (dc := 44) (need := []) (F' := fun p X => (c = 0 → TenR X (.agg #[.slice p.1 p.2.2.1 p.2.2.2.1, .slice p.2.1 p.2.2.2.2.1 p.2.2.2.2.2]) SM LM 951)) rfl ?fln4 (by decide) (by decide) (by decide) (by decide) (by kernel_rfl) HPn.out (fun X Y h hF => ⟨TensR.later hF.1 h, TensR.later hF.2 h⟩) ?stn4 ?nxn4
       case fln4 =>
        intro f hf
        simp only [List.mem_cons, List.not_mem_nil, or_false] at hf
        rcases hf with rfl
        all_goals exact ⟨fun g g' e => by simpa using e, _, rfl, fun a X K h => by unfold StepH; go_simp; exact h⟩
       case stn4 =>
        intro us X K hus _ hb hF hK
        obtain ⟨uF1, rfl⟩ := len_one10 hus
        simp only [putF, Act.put, nA, nB, nC, nD, nE, nF]
        unfold StepH
        go_simp
        refine (matMulR_all (n := 16) hF.1 hF.2 O1.out O2.out l1 l2 FX.out FY.out (by decide)).mono ?_
        rintro e X' ⟨hR, hy⟩
        rw [HCC.out, HSM.out, HLM.out] at hR
        obtain ⟨r, rfl, ⟨ra, rb, na, nb, rca, rcb, rfl⟩, hten⟩ := hR
        go_simp
        exact hK (ra, rb, na, rca, nb, rcb) _ hy hten
       rintro ⟨ra5, rb5, na5, rca5, nb5, rcb5⟩
       (try dsimp only)
       try simp only [Act.put, nA, nB, nC, nD, nE, nF]
       refine pool_take (v := ?_) (i := 5) (di := 39) rfl rfl (by decide) (by decide) (by kernel_rfl) (fun _ _ _ h => h) HPn.out (fun us hus => ?_) ?_
       rotate_left
       · obtain ⟨uF1, rfl⟩ := len_one10 hus
         simp only [putF, Act.put, nA, nB, nC, nD, nE, nF]
         refine Or.inl ⟨by rfl, ?_⟩
         intro w hSw; (try dsimp only at hSw); go_simp; (try with_reducible rfl)
       try simp only [Act.put, nA, nB, nC, nD, nE, nF]
       refine pool_take (v := ?_) (i := 6) (di := 45) rfl rfl (by decide) (by decide) (by kernel_rfl) (fun _ _ _ h => h) HPn.out (fun us hus => ?_) ?_
       rotate_left
       · obtain ⟨uF1, rfl⟩ := len_one10 hus
         simp only [putF, Act.put, nA, nB, nC, nD, nE, nF]
         refine Or.inl ⟨by rfl, ?_⟩
         intro w hSw; (try dsimp only at hSw); go_simp; (try with_reducible rfl)
       try simp only [Act.put, nA, nB, nC, nD, nE, nF]
       refine pool_take (v := ?_) (i := 7) (di := 46) rfl rfl (by decide) (by decide) (by kernel_rfl) (fun _ _ _ h => h) HPn.out (fun us hus => ?_) ?_
       rotate_left
       · obtain ⟨uF1, rfl⟩ := len_one10 hus
         simp only [putF, Act.put, nA, nB, nC, nD, nE, nF]
         refine Or.inl ⟨by rfl, ?_⟩
         intro w hSw; (try dsimp only at hSw); go_simp; (try with_reducible rfl)
       try simp only [Act.put, nA, nB, nC, nD, nE, nF]
       refine pool_end ?flne (by decide) (by decide) (by kernel_rfl) HPn.out (fun X Y h hF => fun e => (hF e).later h) ?nxne
       case flne =>
        intro f hf
        simp only [List.mem_cons, List.not_mem_nil, or_false] at hf
        rcases hf with rfl
        all_goals exact ⟨fun g g' e => by simpa using e, _, rfl, fun a X K h => by unfold StepH; go_simp; exact h⟩
       intro us xn ok hb hF
       obtain ⟨gn, rfl, hgn, Rn⟩ := ok.one
       (try dsimp only at Rn hF)
       simp only [putF, Act.put, nA, nB, nC, nD, nE, nF]
       have Bn : Below yF.heap.size yF xn := bn.trans (hb.mono bn.size)
       have hHeld := HPn.out xn hb
       clear ok
       obtain ⟨d0, d1, d2, d3⟩ := Rn.two
       refine wpAnyH_ready (rs := [9]) (by kernel_rfl) (by simp) ?_
       refine AllReadyH.cons rfl (fun K hK => ?sn1) AllReadyH.nil
       go_simp
       refine afterSet2 Rn (fun xn1 on1 zn1 => ?_)
       clear d0 d1 d2 d3
       have Bn1 : Below yF.heap.size yF xn1 := Bn.trans (on1.below (Nat.le_trans bn.size hgn))
       replace hF := (fun e => (hF e).far10 Rn on1.block)
       replace Rn := zn1
       refine hK.out _ _ (MKX.out _ Bn1) (fun hHeld2 => ?_)
       clear hK K hHeld
       have hHeld := hHeld2
       clear hHeld2
       try simp only [Act.put, nA, nB, nC, nD, nE, nF]
       refine wpAnyH_ready (rs := [10]) (by kernel_rfl) (by simp) ?_
       refine AllReadyH.cons rfl (fun K hK => ?snd10) AllReadyH.nil
       go_simp
       refine hK.out _ _ (MKX.out _ Bn1) (fun hHeld2 => ?_)
       clear hK K hHeld
       have hHeld := hHeld2
       clear hHeld2
       try simp only [Act.put, nA, nB, nC, nD, nE, nF]
       refine wpAnyH_done (by kernel_rfl) ?_ _
       (try dsimp only [Straight])
       go_wp2_with fail
       go_meet
       exact ⟨_, _, _, _, _, _, _, rfl, rfl, Rn, hF, Bn1⟩
      case rest =>
       obtain ⟨gp, ra, rb, na, nb, rca, rcb, rfl, rfl, N8, hT8, E8⟩ := hcut
       obtain ⟨y8, hy8⟩ : ∃ y, wc = y := ⟨_, rfl⟩
       rw [hy8] at N8 hT8 E8 ⊢
       clear hy8
       have B5 : Below W.heap.size W y8 := B4.trans (E8.mono B4.size)
       replace R0 := R0.later E8
       replace R1 := R1.later E8
       replace NP := NP.later E8
       replace AP := Lib.hid (AP.out.later E8)
       obtain ⟨xc0, xc1, _, _⟩ := R0.two
       obtain ⟨yc0, yc1, _, _⟩ := R1.two
       obtain ⟨pc0, pc1, _, _⟩ := NP.two
       obtain ⟨rc0, rc1, _, _⟩ := N8.two
       have T8 := Lib.hid hT8
       clear hT8
       go_wp2_with fail
       refine (told10_any (n := 951) AP.out ⟨ra, rb, na, nb, rca, rcb, rfl⟩ T8.out (by rw [hSMl]; decide) (by omega) (by decide) (by decide)).mono ?_
       rintro e y6 ⟨rfl, hy⟩
       have B6 : Below W.heap.size W y6 := B5.trans (hy.mono B5.size)
       clear xc0 xc1 yc0 yc1 pc0 pc1 rc0 rc1
       replace R0 := R0.later hy
       replace R1 := R1.later hy
       replace NP := NP.later hy
       replace N8 := N8.later hy
       replace AP := Lib.hid (AP.out.later hy)
       obtain ⟨xc0, xc1, _, _⟩ := R0.two
       obtain ⟨yc0, yc1, _, _⟩ := R1.two
       obtain ⟨pc0, pc1, _, _⟩ := NP.two
       obtain ⟨rc0, rc1, _, _⟩ := N8.two
       clear hy
       go_wp2_with fail
       refine (known10_any _).mono ?_
       rintro e y9 ⟨rfl, hb9⟩
       go_wp2_with fail
       go_ret
       exact ⟨rfl, hBW.trans ((B6.trans (hb9.mono B6.size)).mono hBW.size)⟩
end
end Go.Proofs.YtengpgodmbfmkaaGreat
