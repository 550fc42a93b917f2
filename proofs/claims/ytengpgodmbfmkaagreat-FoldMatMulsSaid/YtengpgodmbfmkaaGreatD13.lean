/-
  The reference of layer 3: Same.
-/
import Derived.Test.YtengpgodmbfmkaaGreatD10
import Derived.Test.YtengpgodmbfmkaaGreatD11
namespace Go.Proofs.YtengpgodmbfmkaaGreat
set_option linter.unusedVariables false
set_option linter.unusedSimpArgs false
set_option maxRecDepth 100000
set_option maxHeartbeats 40000000
section
open Go.RowKit
theorem sgn_add (p : Bool) (X Y : Int) : sgn p (X + Y) = sgn p X + sgn p Y := by cases p <;> simp [sgn] <;> omega
theorem sgn_sub {p q : Bool} (h : p ≠ q) (X Y : Int) : sgn p (X - Y) = sgn p X + sgn q Y := by cases p <;> cases q <;> simp_all [sgn] <;> omega
theorem cmp_geN {u v : Value} {xs ys : List Int} {a b : Option Addr} {capa capb : Nat} {w : World} (h1 : Arg w u xs a capa) (h2 : Arg w v ys b capb) (hx : xs.length ≤ 35184372088832) (hy : ys.length ≤ 35184372088832) (h : val ys ≤ val xs) :
 Calls Tryz.prog 150 #[u, v] w fun e w' => ∃ r : Int, e = .returned (.int .i64 r) ∧ decide (r < 0) = false ∧ Below w.heap.size w w' := by
 refine (cmp_res h1 h2 hx hy).mono fun e w' ⟨he, hb⟩ => ⟨_, he, decide_eq_false ?_, hb⟩
 unfold sign
 rw [if_neg (by omega)]
 split <;> omega
theorem plus_any {n : Nat} {w : World} {u v : Value} {X Y : Int} (hu : SgnQ w u X n) (hv : SgnQ w v Y n) (hn : n ≤ 2147483648) :
 Calls Tryz.prog 121 #[u, v] w fun e w' => ∃ r, e = .returned r ∧ SgnQ w' r (X + Y) (n + 1) ∧ Below w.heap.size w w' := by
 obtain ⟨p, xs, a1, c1, rfl, A, hX, hx⟩ := hu
 obtain ⟨q, ys, a2, c2, rfl, B, hY, hy⟩ := hv
 obtain ⟨W, hW⟩ : ∃ W, (((w.alloc (.cells #[.bool p, .slice a1 xs.length c1] 157)).alloc (.cells #[.bool q, .slice a2 ys.length c2] 157)).alloc (.cells #[.bool false, .slice none 0 0] 157)) = W := ⟨_, rfl⟩
 have R0 : Row W (w.heap.size) 157 #[.bool p, .slice a1 xs.length c1] := by rw [← hW]; exact (((Row.new _ _ _).alloc _).alloc _)
 have R1 : Row W (w.heap.size + 1) 157 #[.bool q, .slice a2 ys.length c2] := by rw [← hW]; have h := (Row.new (w.alloc (.cells #[.bool p, .slice a1 xs.length c1] 157)) 157 #[.bool q, .slice a2 ys.length c2]); simp only [World.size_alloc] at h; exact (h.alloc _)
 have R2 : Row W (w.heap.size + 1 + 1) 157 #[.bool false, .slice none 0 0] := by rw [← hW]; have h := (Row.new ((w.alloc (.cells #[.bool p, .slice a1 xs.length c1] 157)).alloc (.cells #[.bool q, .slice a2 ys.length c2] 157)) 157 #[.bool false, .slice none 0 0]); simp only [World.size_alloc] at h; exact h
 have hBW : Below w.heap.size w W := by rw [← hW]; exact ((((Below.refl _ _).alloc (by (try simp) <;> omega) _).alloc (by (try simp) <;> omega) _).alloc (by (try simp) <;> omega) _)
 have hsW : w.heap.size + 1 + 1 + 1 ≤ W.heap.size := by rw [← hW]; simp
 by_cases hpq : p = q
 · subst hpq
   have hfin : sgn p (val xs + val ys) = X + Y := by rw [sgn_add, hX, hY]
   have HF := Lib.hid hfin
   clear hX hY hfin
   have mkS : ∀ X, Below (w.heap.size + 1 + 1) W X → X.cell? ⟨w.heap.size, 0, none⟩ = some (.bool p) ∧ X.cell? ⟨w.heap.size, 1, none⟩ = some (.slice a1 xs.length c1) ∧ X.cell? ⟨w.heap.size + 1, 1, none⟩ = some (.slice a2 ys.length c2) ∧ Below w.heap.size w X ∧ Below (w.heap.size + 1 + 1) W X := fun X h => ⟨(R0.below h (by omega)).cell 0, (R0.below h (by omega)).cell 1, (R1.below h (by omega)).cell 1, hBW.trans (h.mono (by omega)), h⟩
   obtain ⟨e0, e1, _, _⟩ := R0.two
   obtain ⟨o0, o1, _, _⟩ := R1.two
   have hbb : (p == p) = true := by simp
   go_enter Tryz.func121, Tryz.ntmps121
   go_wp2_with fail
   clear hW e0 e1 o0 o1
   go_region_held3 (fun X => X.cell? ⟨w.heap.size, 0, none⟩ = some (.bool p) ∧ X.cell? ⟨w.heap.size, 1, none⟩ = some (.slice a1 xs.length c1) ∧ X.cell? ⟨w.heap.size + 1, 1, none⟩ = some (.slice a2 ys.length c2) ∧ Below w.heap.size w X ∧ Below (w.heap.size + 1 + 1) W X)
    (((refine mkS _ ?_; (repeat' (first | exact Below.refl _ _ | refine Below.drew ?_ | refine Below.alloc ?_ (by (try simp) <;> omega) _ | refine below_set3 ?_ (by (try simp) <;> omega) _ _ _ | refine below_set2 ?_ (by (try simp) <;> omega) _ _ | refine Below.setCell ?_ (by (try simp) <;> omega) _ | refine Below.trans ?_ (Below.mono (by assumption) (by (try simp) <;> omega)))))))
    ((go_at_call 149; refine (add_res (A.later (by (repeat' (first | exact Below.refl _ _ | exact hBW | refine Below.drew ?_ | refine Below.alloc ?_ (by (try simp) <;> omega) _ | refine below_set3 ?_ (by (try simp) <;> omega) _ _ _ | refine below_set2 ?_ (by (try simp) <;> omega) _ _ | refine Below.setCell ?_ (by (try simp) <;> omega) _ | refine Below.trans ?_ (Below.mono (by assumption) (by (try simp) <;> omega)))))) (B.later (by (repeat' (first | exact Below.refl _ _ | exact hBW | refine Below.drew ?_ | refine Below.alloc ?_ (by (try simp) <;> omega) _ | refine below_set3 ?_ (by (try simp) <;> omega) _ _ _ | refine below_set2 ?_ (by (try simp) <;> omega) _ _ | refine Below.setCell ?_ (by (try simp) <;> omega) _ | refine Below.trans ?_ (Below.mono (by assumption) (by (try simp) <;> omega)))))) (by omega) (by omega)).mono ?_; rintro e w2 ⟨r2, z2, rfl, q2, l2, hb2⟩; have hs2 := hb2.size; simp at hs2; obtain ⟨ad2, cp2, rfl, q2, A2⟩ := q2.slice; have R2' := R2.later (show Below W.heap.size W w2 by (repeat' (first | exact Below.refl _ _ | refine Below.drew ?_ | refine Below.alloc ?_ (by (try simp) <;> omega) _ | refine below_set3 ?_ (by (try simp) <;> omega) _ _ _ | refine below_set2 ?_ (by (try simp) <;> omega) _ _ | refine Below.setCell ?_ (by (try simp) <;> omega) _ | refine Below.trans ?_ (Below.mono (by assumption) (by (try simp) <;> omega))))); obtain ⟨u0, u1, g0, g1⟩ := R2'.two))
   go_wp2_with fail
   refine bodyPost_ret (v := .agg #[.bool p, .slice ad2 z2.length cp2]) (by simp [results, Tryz.results121, go_sem, u0, u1]) rfl ⟨_, rfl, ?_, ?_⟩
   · exact ⟨p, z2, ad2, cp2, rfl, (q2.kept (kept2 _ _) (by simp; omega)).at_.2, by rw [q2.eq, HF.out], by omega⟩
   · (repeat' (first | exact Below.refl _ _ | exact hBW | refine Below.drew ?_ | refine Below.alloc ?_ (by (try simp) <;> omega) _ | refine below_set3 ?_ (by (try simp) <;> omega) _ _ _ | refine below_set2 ?_ (by (try simp) <;> omega) _ _ | refine Below.setCell ?_ (by (try simp) <;> omega) _ | refine Below.trans ?_ (Below.mono (by assumption) (by (try simp) <;> omega))))
 · have hbb : (p == q) = false := by simpa using hpq
   have A' := A.later hBW
   have B' := B.later hBW
   obtain ⟨e0, e1, h0, h1⟩ := R0.two
   obtain ⟨o0, o1, i0, i1⟩ := R1.two
   by_cases hlt : val xs < val ys
   · have hfin : sgn q (val ys - val xs) = X + Y := by rw [sgn_sub (fun h => hpq h.symm), hX, hY, Int.add_comm]
     have HF := Lib.hid hfin
     clear hX hY hfin
     go_enter Tryz.func121, Tryz.ntmps121
     go_wp2_with fail
     refine (cmp_lt A' B' (by omega) (by omega) hlt).mono ?_
     rintro e w1 ⟨rfl, hb1⟩
     have hs1 := hb1.size
     have R0' := R0.later hb1
     have R1' := R1.later hb1
     have R2' := R2.later hb1
     have A1 := A'.later hb1
     have B1 := B'.later hb1
     clear e0 e1 h0 h1 o0 o1 i0 i1 hW R0 R1 R2 A' B'
     have hBW1 := hBW.trans (hb1.mono (by omega))
     obtain ⟨e0, e1, h0, h1⟩ := R0'.two
     obtain ⟨o0, o1, i0, i1⟩ := R1'.two
     obtain ⟨V, hV⟩ : ∃ V, (((w1.setCell ⟨w.heap.size, 0, none⟩ (.bool q)).setCell ⟨w.heap.size, 1, none⟩ (.slice a2 ys.length c2)).setCell ⟨w.heap.size + 1, 0, none⟩ (.bool p)).setCell ⟨w.heap.size + 1, 1, none⟩ (.slice a1 xs.length c1) = V := ⟨_, rfl⟩
     have hBV : Below w.heap.size w V := by rw [← hV]; exact below_set2 (below_set2 hBW1 (by omega) _ _) (by omega) _ _
     have hsV : V.heap.size = w1.heap.size := by rw [← hV]; simp
     have Q0 : Row V (w.heap.size) 157 #[.bool q, .slice a2 ys.length c2] := by rw [← hV]; exact ((R0'.set2 _ _).far (by simp <;> omega) _).far (by simp <;> omega) _
     have Q1 : Row V (w.heap.size + 1) 157 #[.bool p, .slice a1 xs.length c1] := by rw [← hV]; exact ((R1'.far (by simp <;> omega) _).far (by simp <;> omega) _).set2 _ _
     have Q2 : Row V (w.heap.size + 1 + 1) 157 #[.bool false, .slice none 0 0] := by rw [← hV]; exact (((R2'.far (by simp <;> omega) _).far (by simp <;> omega) _).far (by simp <;> omega) _).far (by simp <;> omega) _
     have AV := A.later hBV
     have BV := B.later hBV
     obtain ⟨j0, j1, _, _⟩ := Q0.two
     obtain ⟨k0, k1, _, _⟩ := Q1.two
     go_wp2_with fail
     refine (sub_res BV AV (by omega) (by omega) (by omega)).mono ?_
     rintro e w2 ⟨r2, z2, rfl, q2, l2, hb2⟩
     obtain ⟨ad2, cp2, rfl, q2, A2⟩ := q2.slice
     have hs2 := hb2.size
     clear e0 e1 h0 h1 o0 o1 i0 i1 j0 j1 k0 k1 hV
     obtain ⟨j0, j1, _, _⟩ := (Q0.later hb2).two
     obtain ⟨u0, u1, g0, g1⟩ := (Q2.later hb2).two
     go_wp2_with fail
     refine bodyPost_ret (v := .agg #[.bool q, .slice ad2 z2.length cp2]) (by simp [results, Tryz.results121, go_sem, u0, u1]) rfl ⟨_, rfl, ?_, ?_⟩
     · exact ⟨q, z2, ad2, cp2, rfl, (q2.kept (kept2 _ _) (by omega)).at_.2, by rw [q2.eq, HF.out], by omega⟩
     · exact below_set2 (hBV.trans (hb2.mono (by omega))) (by omega) _ _
   · have hfin : sgn p (val xs - val ys) = X + Y := by rw [sgn_sub hpq, hX, hY]
     have HF := Lib.hid hfin
     clear hX hY hfin
     go_enter Tryz.func121, Tryz.ntmps121
     go_wp2_with fail
     refine (cmp_geN A' B' (by omega) (by omega) (by omega)).mono ?_
     rintro e w1 ⟨r1, rfl, hr1, hb1⟩
     have hs1 := hb1.size
     have R0' := R0.later hb1
     have R1' := R1.later hb1
     have R2' := R2.later hb1
     have A1 := A'.later hb1
     have B1 := B'.later hb1
     clear e0 e1 h0 h1 o0 o1 i0 i1 hW R0 R1 R2 A' B'
     have hBW1 := hBW.trans (hb1.mono (by omega))
     obtain ⟨e0, e1, h0, h1⟩ := R0'.two
     obtain ⟨o0, o1, i0, i1⟩ := R1'.two
     go_wp2_with fail
     refine (sub_res A1 B1 (by omega) (by omega) (by omega)).mono ?_
     rintro e w2 ⟨r2, z2, rfl, q2, l2, hb2⟩
     obtain ⟨ad2, cp2, rfl, q2, A2⟩ := q2.slice
     have hs2 := hb2.size
     clear e0 e1 h0 h1 o0 o1 i0 i1
     obtain ⟨j0, j1, _, _⟩ := (R0'.later hb2).two
     obtain ⟨u0, u1, g0, g1⟩ := (R2'.later hb2).two
     go_wp2_with fail
     refine bodyPost_ret (v := .agg #[.bool p, .slice ad2 z2.length cp2]) (by simp [results, Tryz.results121, go_sem, u0, u1]) rfl ⟨_, rfl, ?_, ?_⟩
     · exact ⟨p, z2, ad2, cp2, rfl, (q2.kept (kept2 _ _) (by omega)).at_.2, by rw [q2.eq, HF.out], by omega⟩
     · exact below_set2 (hBW1.trans (hb2.mono (by omega))) (by omega) _ _
end
section
open Go.RowKit
theorem ArgR.parts {w : World} {v : Value} {x : Rat} {n : Nat} (h : ArgR w v x n) : ∃ (m : Bool) (zs ys : List Int) (ad bd : Option Addr) (ca cb : Nat), v = .agg #[.bool m, .slice ad zs.length ca, .slice bd ys.length cb] ∧
 ArgD w (.slice ad zs.length ca) zs ad ca ∧ ArgD w (.slice bd ys.length cb) ys bd cb ∧ ratOf m (valD zs) (valD ys) = x ∧ zs.length ≤ n ∧ ys.length ≤ n := by
 obtain ⟨zs, ys, ad, bd, ca, cb, rfl, A, B, h1, h2, h3, h4⟩ := h
 exact ⟨_, zs, ys, ad, bd, ca, cb, rfl, A, B, by rw [h1, h2, ratOf_self], h3, h4⟩
end
section
open Go.RowKit
theorem canonical_false {u : Value} {xs : List Int} {a : Option Addr} {capa : Nat} {w : World} (h1 : Arg w u xs a capa) (hx : xs.length ≤ 70368744177664) (hf : ¬ trimN xs xs.length = xs.length) :
 Calls Tryz.prog 152 #[u] w fun e w' => e = .returned (.bool false) ∧ w = w' := by
 obtain ⟨rfl, lx, _, _⟩ := h1
 have hpos : 0 < xs.length := by
  rcases Nat.eq_zero_or_pos xs.length with h | h
  · exact absurd (by rw [h]; rfl) hf
  · exact h
 obtain ⟨m, hm⟩ : ∃ m, xs.length = m + 1 := ⟨xs.length - 1, by omega⟩
 have hz : xs.getD m 0 = 0 := by
  by_cases h : xs.getD m 0 = 0
  · exact h
  · exfalso
    apply hf
    rw [hm]
    show (if xs.getD m 0 = 0 then trimN xs m else m + 1) = m + 1
    rw [if_neg h]
 rcases lx with rfl | ⟨b, off, rfl, hc⟩
 · simp at hpos
 have hj := hc m (by omega)
 rw [hz] at hj
 rw [hm] at hx
 rw [hm]
 have h2 : ((m : Int) + 1 == 0) = false := by simp; omega
 clear hc hz hf hpos hm
 go_enter Tryz.func152, Tryz.ntmps152
 go_wp2
 go_ret
 exact ⟨rfl, rfl⟩
def isB (zs : List Int) (N : Int) : Bool := decide (trimN zs zs.length = zs.length ∧ val zs = N)
theorem sign_zero {a b : Int} (h : sign a b = 0) : a = b := by unfold sign at h; split at h <;> (try split at h) <;> omega
theorem is_dec {u v : Value} {ds zs : List Int} {a b : Option Addr} {capa capb : Nat} {w : World} (h1 : ArgD w u ds a capa) (h2 : Arg w v zs b capb) (hx : ds.length ≤ 68719476736) (hy : zs.length ≤ 134217728) :
 Calls Tryz.prog 124 #[u, v] w fun e w' => e = .returned (.bool (isB zs (valD ds))) ∧ Below w.heap.size w w' := by
 by_cases hf : trimN zs zs.length = zs.length
 · by_cases hv : val zs = valD ds
   · have e1 : isB zs (valD ds) = true := decide_eq_true ⟨hf, hv⟩
     rw [e1]
     exact is_true h1 h2 hx hy hf hv.symm
   · have e1 : isB zs (valD ds) = false := decide_eq_false (fun h => hv h.2)
     rw [e1]
     have hne : (sign (val zs) (valD ds) == 0) = false := by simp; exact fun h => hv (sign_zero h)
     go_enter Tryz.func124, Tryz.ntmps124
     go_wp2_with fail
     refine (canonical_true h2 (by omega) hf).mono ?_
     rintro e w' ⟨rfl, rfl⟩
     have HF := Lib.hid hf
     clear hf e1
     go_wp2_with fail
     refine (of_any h2 hy).mono ?_
     rintro e w1 ⟨r, rfl, qs, hq, hl, hb⟩
     obtain ⟨ad, cap, A⟩ := hq.arg
     have h1' := h1.later hb
     have hc := cmpD_any A h1' (by omega) hx
     rw [hq.eq] at hc
     obtain ⟨s, hs⟩ : ∃ s, sign (val zs) (valD ds) = s := ⟨_, rfl⟩
     rw [hs] at hc hne
     clear hs hv
     go_wp2_with fail
     refine hc.mono ?_
     rintro e w2 ⟨rfl, hb2⟩
     clear hc
     go_wp2_with fail
     go_ret
     exact ⟨rfl, hb.trans (hb2.mono hb.size)⟩
 · have e1 : isB zs (valD ds) = false := decide_eq_false (fun h => hf h.1)
   rw [e1]
   go_enter Tryz.func124, Tryz.ntmps124
   go_wp2_with fail
   refine (canonical_false h2 (by omega) hf).mono ?_
   rintro e w' ⟨rfl, rfl⟩
   clear hf e1
   go_wp2_with fail
   go_ret
   exact ⟨rfl, Below.refl _ _⟩
def validB (m : Bool) (xs ys : List Int) (X : Rat) : Bool := (m == decide (X.num < 0)) && (isB xs (X.num.natAbs : Int) && isB ys (X.den : Int))
theorem isR_dec {n : Nat} {w : World} {u : Value} {X : Rat} {m2 : Bool} {zs es : List Int} {a3 a4 : Option Addr} {c3 c4 : Nat} (hu : ArgR w u X n) (C : Arg w (.slice a3 zs.length c3) zs a3 c3) (D : Arg w (.slice a4 es.length c4) es a4 c4)
 (hn : n ≤ 1000000000) (hz : zs.length ≤ 134217728) (he : es.length ≤ 134217728) :
 Calls Tryz.prog 82 #[u, .agg #[.bool m2, .slice a3 zs.length c3, .slice a4 es.length c4]] w fun e w' => e = .returned (.bool (validB m2 zs es X)) ∧ Below w.heap.size w w' := by
 obtain ⟨xs, ds, a1, a2, c1, c2, rfl, A, B, hX1, hX2, hx, hd⟩ := hu
 obtain ⟨m1, hm1⟩ : ∃ m, decide (X.num < 0) = m := ⟨_, rfl⟩
 have hv : validB m2 zs es X = ((m2 == m1) && (isB zs (valD xs) && isB es (valD ds))) := by unfold validB; rw [hm1, hX1, hX2]
 rw [hm1, hv]
 clear hm1 hv hX1 hX2
 obtain ⟨W, hW⟩ : ∃ W, ((w.alloc (.cells #[.bool m1, .slice a1 xs.length c1, .slice a2 ds.length c2] 58)).alloc (.cells #[.bool m2, .slice a3 zs.length c3, .slice a4 es.length c4] 54)) = W := ⟨_, rfl⟩
 have R0 : Row W (w.heap.size) 58 #[.bool m1, .slice a1 xs.length c1, .slice a2 ds.length c2] := by rw [← hW]; exact ((Row.new _ _ _).alloc _)
 have R1 : Row W (w.heap.size + 1) 54 #[.bool m2, .slice a3 zs.length c3, .slice a4 es.length c4] := by rw [← hW]; have h := (Row.new (w.alloc (.cells #[.bool m1, .slice a1 xs.length c1, .slice a2 ds.length c2] 58)) 54 #[.bool m2, .slice a3 zs.length c3, .slice a4 es.length c4]); simp only [World.size_alloc] at h; exact h
 have hBW : Below w.heap.size w W := by rw [← hW]; exact (((Below.refl _ _).alloc (by (try simp) <;> omega) _).alloc (by (try simp) <;> omega) _)
 have hsW : w.heap.size + 1 + 1 ≤ W.heap.size := by rw [← hW]; simp
 have i1 := is_dec (A.later hBW) (C.later hBW) (by omega) hz
 have D1 := D.later hBW
 have B1 := B.later hBW
 obtain ⟨p0, p1, p2, _, _, _⟩ := R0.three
 obtain ⟨o0, o1, o2, _, _, _⟩ := R1.three
 obtain ⟨b1, hb1⟩ : ∃ b, isB zs (valD xs) = b := ⟨_, rfl⟩
 obtain ⟨b2, hb2⟩ : ∃ b, isB es (valD ds) = b := ⟨_, rfl⟩
 rw [hb1] at i1
 rw [hb1, hb2]
 have HB2 := Lib.hid hb2
 clear hb1 hb2
 obtain ⟨b0, hb0⟩ : ∃ b, (m2 == m1) = b := ⟨_, rfl⟩
 rw [hb0]
 cases b0 with
 | false =>
  go_enter Tryz.func82, Tryz.ntmps82
  go_wp2_with fail
  go_ret
  exact ⟨rfl, hBW⟩
 | true =>
  cases b1 with
  | false =>
   go_enter Tryz.func82, Tryz.ntmps82
   go_wp2_with fail
   refine i1.mono ?_
   rintro e w1 ⟨rfl, hb1⟩
   have hs1 := hb1.size
   clear i1
   go_wp2_with fail
   go_ret
   exact ⟨rfl, hBW.trans (hb1.mono (by omega))⟩
  | true =>
   go_enter Tryz.func82, Tryz.ntmps82
   go_wp2_with fail
   refine i1.mono ?_
   rintro e w1 ⟨rfl, hb1⟩
   have hs1 := hb1.size
   have i2 := is_dec (B1.later hb1) (D1.later hb1) (by omega) he
   rw [HB2.out] at i2
   clear i1 p0 p1 p2 o0 o1 o2
   obtain ⟨p0, p1, p2, _, _, _⟩ := (R0.later hb1).three
   obtain ⟨o0, o1, o2, _, _, _⟩ := (R1.later hb1).three
   go_wp2_with fail
   refine i2.mono ?_
   rintro e w2 ⟨rfl, hb2⟩
   clear i2
   go_wp2_with fail
   go_ret
   exact ⟨by cases b2 <;> rfl, (hBW.trans (hb1.mono (by omega))).trans (hb2.mono (by omega))⟩
end
section
open Go.RowKit
def RefQ (w : World) (X : Rat) (n : Nat) (zs ys : List Int) (f g : Option Addr) (j k : Nat) : Prop :=
 ArgD w (.slice f zs.length j) zs f j ∧ ArgD w (.slice g ys.length k) ys g k ∧ valD zs = (X.num.natAbs : Int) ∧ valD ys = (X.den : Int) ∧ zs.length ≤ n ∧ ys.length ≤ n
theorem RefQ.of {w : World} {v : Value} {X : Rat} {n : Nat} {m : Bool} (h : ArgR w v X n) (hm : decide (X.num < 0) = m) : ∃ (zs ys : List Int) (f g : Option Addr) (j k : Nat), v = .agg #[.bool m, .slice f zs.length j, .slice g ys.length k] ∧ RefQ w X n zs ys f g j k := by
 subst hm
 obtain ⟨zs, ys, ad, bd, ca, cb, rfl, h⟩ := h
 exact ⟨zs, ys, ad, bd, ca, cb, rfl, h⟩
theorem RefQ.later {w w' : World} {X : Rat} {n : Nat} {zs ys : List Int} {f g : Option Addr} {j k : Nat} (h : RefQ w X n zs ys f g j k) (hb : Below w.heap.size w w') : RefQ w' X n zs ys f g j k :=
 ⟨h.1.later hb, h.2.1.later hb, h.2.2⟩
end
section
open Go.RowKit
def kindT (t : TypeId) : IntKind := if t = 144 then .u32 else .i64
def Loose (G : Nat) (X Y : World) : Prop := Below G X Y ∧ ∀ b, b < X.heap.size → Y.heap[b]? = X.heap[b]? ∨
 ∃ (c c' : Array Value) (t : TypeId), (t = 144 ∨ t = 3) ∧ X.heap[b]? = some (.cells c t (0, 0)) ∧ Y.heap[b]? = some (.cells c' t (0, 0)) ∧ ∀ (j : Nat) (z : Int), c[j]? = some (Value.int (kindT t) z) → ∃ z', c'[j]? = some (Value.int (kindT t) z')
theorem Loose.refl (G : Nat) (X : World) : Loose G X X := ⟨Below.refl _ _, fun _ _ => .inl rfl⟩
theorem Loose.of {G : Nat} {X Y : World} (h : Below X.heap.size X Y) (hG : G ≤ X.heap.size) : Loose G X Y := ⟨h.mono hG, fun b hb => .inl (h.block b hb)⟩
theorem Loose.trans {G : Nat} {X Y Z : World} (h : Loose G X Y) (k : Loose G Y Z) : Loose G X Z := by
 refine ⟨h.1.trans k.1, fun b hb => ?_⟩
 have hb2 : b < Y.heap.size := Nat.lt_of_lt_of_le hb h.1.size
 rcases h.2 b hb with e | ⟨c, c', t, ht, e1, e2, e3⟩
 · rcases k.2 b hb2 with f | ⟨d, d', s, hs, f1, f2, f3⟩
   · exact .inl (f.trans e)
   · exact .inr ⟨d, d', s, hs, e ▸ f1, f2, f3⟩
 · rcases k.2 b hb2 with f | ⟨d, d', s, hs, f1, f2, f3⟩
   · exact .inr ⟨c, c', t, ht, e1, f.trans e2, e3⟩
   · rw [e2] at f1
     cases f1
     refine .inr ⟨c, d', t, ht, e1, f2, fun j z hz => ?_⟩
     obtain ⟨z', hz'⟩ := e3 j z hz
     exact f3 j z' hz'
theorem Loose.set {G b k : Nat} {X : World} {t : TypeId} {cur : Array Value} {z : Int} (hb : G ≤ b) (h : X.heap[b]? = some (.cells cur t (0, 0))) (ht : t = 144 ∨ t = 3) : Loose G X (X.setCell ⟨b, k, none⟩ (.int (kindT t) z)) := by
 refine ⟨(Below.refl _ _).setCell (p := ⟨b, k, none⟩) hb _, fun i hi => ?_⟩
 by_cases e : i = b
 · subst e
   refine .inr ⟨cur, _, t, ht, h, heap_setCell_same X i k cur t (.int (kindT t) z) h, fun j y hj => ?_⟩
   rw [Array.getElem?_setIfInBounds]
   by_cases ek : k = j
   · subst ek
     rw [if_pos rfl, if_pos (Array.getElem?_eq_some_iff.1 hj).1]
     exact ⟨z, rfl⟩
   · rw [if_neg ek]
     exact ⟨y, hj⟩
 · exact .inl (Below.heap_setCell _ _ _ _ e)
theorem Loose.drew {G : Nat} {X Y : World} (h : Loose G X Y) : Loose G X Y.drew := ⟨h.1.drew, h.2⟩
theorem Loose.row {G g : Nat} {X Y : World} {t : TypeId} {cs : Array Value} (L : Loose G X Y) (R : Row X g t cs) (h1 : t ≠ 144) (h2 : t ≠ 3) : Row Y g t cs := by
 rcases L.2 g R.lt with e | ⟨c, c', s, hs, e1, _, _⟩
 · exact e.trans R
 · have := R.symm.trans e1
   cases this
   rcases hs with h | h
   · exact absurd h h1
   · exact absurd h h2
theorem Cellz.lowT {lo lo' g : Nat} {w : World} {v : Value} (h : Cellz lo g w v) (hl : lo' ≤ lo) : Cellz lo' g w v := by
 obtain ⟨ad, n, cap, rfl, hm, h⟩ := h
 refine ⟨ad, n, cap, rfl, hm, ?_⟩
 rcases h with h | ⟨b, cur, rfl, h1, h2, h3, h4⟩
 · exact .inl h
 · exact .inr ⟨b, cur, rfl, by omega, h2, h3, h4⟩
def LootQ (G g : Nat) (w : World) (v : Value) : Prop := ∃ (p : Bool) (x y : Value), v = .agg #[.bool p, x, y] ∧ Cellz G g w x ∧ Cellz G g w y
theorem LootQ.mono {lo lo' g g' : Nat} {w : World} {v : Value} (h : LootQ lo g w v) (hl : lo' ≤ lo) (hg : g ≤ g') : LootQ lo' g' w v := by
 obtain ⟨p, x, y, rfl, h1, h2⟩ := h
 exact ⟨p, x, y, rfl, (h1.mono hg).lowT hl, (h2.mono hg).lowT hl⟩
end
section
open Go.RowKit
def LootE (G gl : Nat) (w : World) (v : Value) : Prop := ∃ (b : Option Addr) (m cap : Nat), v = .slice b m cap ∧ m ≤ maxLen ∧ (m = 0 ∨ ∃ (bb : Nat) (cs : Array Value), b = some ⟨bb, 0, none⟩ ∧ Row w bb 54 cs ∧
 ∀ k, k < m → ∃ x y, cs[k * 3 + 1]? = some x ∧ cs[k * 3 + 2]? = some y ∧ Cellz G gl w x ∧ Cellz G gl w y)
theorem LootE.mono {lo lo' g g' : Nat} {w : World} {v : Value} (h : LootE lo g w v) (hl : lo' ≤ lo) (hg : g ≤ g') : LootE lo' g' w v := by
 obtain ⟨b, m, cap, rfl, hm, h⟩ := h
 refine ⟨b, m, cap, rfl, hm, ?_⟩
 rcases h with h | ⟨bb, cs, rfl, R, hk⟩
 · exact .inl h
 · refine .inr ⟨bb, cs, rfl, R, fun k hlt => ?_⟩
   obtain ⟨x, y, h1, h2, h3, h4⟩ := hk k hlt
   exact ⟨x, y, h1, h2, (h3.mono hg).lowT hl, (h4.mono hg).lowT hl⟩
theorem CellzS.lowT {lo lo' g : Nat} {w : World} {v : Value} (h : CellzS lo g w v) (hl : lo' ≤ lo) : CellzS lo' g w v := by
 obtain ⟨ad, n, cap, rfl, hm, h⟩ := h
 refine ⟨ad, n, cap, rfl, hm, ?_⟩
 rcases h with h | ⟨b, cur, rfl, h1, h2, h3, h4⟩
 · exact .inl h
 · exact .inr ⟨b, cur, rfl, by omega, h2, h3, h4⟩
def LootT (G gl : Nat) (w : World) (va vb : Value) : Prop := CellzS G gl w va ∧ LootE G gl w vb
theorem LootT.mono {lo lo' g g' : Nat} {w : World} {va vb : Value} (h : LootT lo g w va vb) (hl : lo' ≤ lo) (hg : g ≤ g') : LootT lo' g' w va vb := ⟨(h.1.mono hg).lowT hl, h.2.mono hl hg⟩
theorem LootT.kept {G gl gb : Nat} {w w' : World} {va vb : Value} {cs : Array Value} (h : LootT G gl w va vb) (K : Kept gb w w') (R : Row w gb 26 cs) : LootT G gl w' va vb := by
 have hne : ∀ {b : Nat} {t : TypeId} {c : Array Value}, w.heap[b]? = some (.cells c t (0, 0)) → t ≠ 26 → w'.heap[b]? = some (.cells c t (0, 0)) := fun {b t c} hb ht => by
  refine (K.block b (lt_of_block hb) fun e => ?_).trans hb
  subst e
  have := hb.symm.trans R
  simp only [Option.some.injEq, Obj.cells.injEq] at this
  exact ht this.2.1
 have hcz : ∀ {v : Value}, Cellz G gl w v → Cellz G gl w' v := fun {v} hv => by
  obtain ⟨ad, n, cap, rfl, hm, hv⟩ := hv
  refine ⟨ad, n, cap, rfl, hm, ?_⟩
  rcases hv with hv | ⟨b, cur, rfl, h1, h2, h3, h4⟩
  · exact .inl hv
  · exact .inr ⟨b, cur, rfl, h1, h2, hne h3 (by decide), h4⟩
 obtain ⟨hs, he⟩ := h
 constructor
 · obtain ⟨ad, n, cap, rfl, hm, hv⟩ := hs
   refine ⟨ad, n, cap, rfl, hm, ?_⟩
   rcases hv with hv | ⟨b, cur, rfl, h1, h2, h3, h4⟩
   · exact .inl hv
   · exact .inr ⟨b, cur, rfl, h1, h2, hne h3 (by decide), h4⟩
 · obtain ⟨b, m, cap, rfl, hm, he⟩ := he
   refine ⟨b, m, cap, rfl, hm, ?_⟩
   rcases he with he | ⟨bb, c, rfl, R2, hk⟩
   · exact .inl he
   · refine .inr ⟨bb, c, rfl, hne R2 (by decide), fun k hlt => ?_⟩
     obtain ⟨x, y, h1, h2, h3, h4⟩ := hk k hlt
     exact ⟨x, y, h1, h2, hcz h3, hcz h4⟩
def Loots (G gl gb n : Nat) (w : World) (cs : Array Value) : Prop := Row w gb 26 cs ∧ ∀ i, i < n → ∃ va vb, cs[i * 2]? = some va ∧ cs[i * 2 + 1]? = some vb ∧ LootT G gl w va vb
theorem Loots.two {G gl : Nat} {w : World} {gb : Nat} {v0 v1 v2 v3 : Value} (R : Row w gb 26 #[v0, v1, v2, v3]) (h0 : LootT G gl w v0 v1) (h1 : LootT G gl w v2 v3) : Loots G gl gb 2 w #[v0, v1, v2, v3] :=
 ⟨R, fun i hi => by
  have hc : i = 0 ∨ i = 1 := by omega
  rcases hc with rfl | rfl
  · exact ⟨v0, v1, rfl, rfl, h0⟩
  · exact ⟨v2, v3, rfl, rfl, h1⟩⟩
theorem Loots.three {G gl B : Nat} {w : World} {v : Value} {v0 v1 v2 v3 v4 v5 : Value} (h : w.ownsRow B 26 2 v 3 [v0, v1, v2, v3, v4, v5]) (h0 : LootT G gl w v0 v1) (h1 : LootT G gl w v2 v3) (h2 : LootT G gl w v4 v5) :
 ∃ gb cap cs, v = .slice (some ⟨gb, 0, none⟩) 3 cap ∧ Loots G gl gb 3 w cs := by
 obtain ⟨_, hv⟩ := h
 rcases hv with ⟨_, hn⟩ | ⟨g, cap, cur, rfl, hb, hg, hc, hm, hs, ht⟩
 · cases hn
 · have hat : ∀ j, j < 6 → cur[j]? = [v0, v1, v2, v3, v4, v5][j]? := fun j hj => by
    have e1 : (cur.toList.take (3 * 2))[j]? = [v0, v1, v2, v3, v4, v5][j]? := by rw [ht]
    rw [List.getElem?_take, if_pos (by omega), Array.getElem?_toList] at e1
    exact e1
   refine ⟨g, cap, cur, rfl, hg, fun i hi => ?_⟩
   have hc : i = 0 ∨ i = 1 ∨ i = 2 := by omega
   rcases hc with rfl | rfl | rfl
   · exact ⟨v0, v1, hat 0 (by omega), hat 1 (by omega), h0⟩
   · exact ⟨v2, v3, hat 2 (by omega), hat 3 (by omega), h1⟩
   · exact ⟨v4, v5, hat 4 (by omega), hat 5 (by omega), h2⟩
end
end Go.Proofs.YtengpgodmbfmkaaGreat
