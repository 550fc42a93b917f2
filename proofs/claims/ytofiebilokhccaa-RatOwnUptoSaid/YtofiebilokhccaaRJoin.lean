/-
  Contracts of package rat: joined.
-/
import Derived.Test.YtofiebilokhccaaRNorm
namespace Go.Proofs.Ytofiebilokhccaa
open Go.RowKit
set_option linter.unusedVariables false
set_option linter.unusedSimpArgs false

set_option maxRecDepth 100000 in
set_option maxHeartbeats 8000000 in
theorem joinedP_any {n : Nat} {w : World} {m1 m2 : Bool} {xs ds zs es : List Int} {a1 a2 a3 a4 : Option Addr} {c1 c2 c3 c4 : Nat} {recv : Value}
    (A : Arg w (.slice a1 xs.length c1) xs a1 c1) (B : Arg w (.slice a2 ds.length c2) ds a2 c2) (C : Arg w (.slice a3 zs.length c3) zs a3 c3) (D : Arg w (.slice a4 es.length c4) es a4 c4)
    (hx : xs.length ≤ n) (hd : ds.length ≤ n) (hz : zs.length ≤ n) (he : es.length ≤ n) (hn : n ≤ 16777216) (hB : 0 < val ds) (hD : 0 < val es)
    (hr : SgnQ w recv (sgn m1 (val xs * val es)) (2 * n + 2)) :
    Calls Try.prog 67 #[.agg #[.bool m1, .slice a1 xs.length c1, .slice a2 ds.length c2], .agg #[.bool m2, .slice a3 zs.length c3, .slice a4 es.length c4], .func (.func 69) #[recv] #[]] w fun e w' =>
      ∃ r, e = .returned r ∧ ResQ w.heap.size w' r (ratOf m1 (val xs) (val ds) + ratOf m2 (val zs) (val es)) (2 * n + 6) ∧ Below w.heap.size w w' := by
  obtain ⟨W, hW⟩ : ∃ W, (((w.alloc (.cells #[.bool m1, .slice a1 xs.length c1, .slice a2 ds.length c2] 25)).alloc (.cells #[.bool m2, .slice a3 zs.length c3, .slice a4 es.length c4] 25)).alloc (.cells #[.bool false, .slice none 0 0, .slice none 0 0] 25)) = W := ⟨_, rfl⟩
  have R0 : Row W (w.heap.size) 25 #[.bool m1, .slice a1 xs.length c1, .slice a2 ds.length c2] := by rw [← hW]; exact (((Row.new _ _ _).alloc _).alloc _)
  have R1 : Row W (w.heap.size + 1) 25 #[.bool m2, .slice a3 zs.length c3, .slice a4 es.length c4] := by rw [← hW]; have h := (Row.new (w.alloc (.cells #[.bool m1, .slice a1 xs.length c1, .slice a2 ds.length c2] 25)) 25 #[.bool m2, .slice a3 zs.length c3, .slice a4 es.length c4]); simp only [World.size_alloc] at h; exact (h.alloc _)
  have R2 : Row W (w.heap.size + 1 + 1) 25 #[.bool false, .slice none 0 0, .slice none 0 0] := by rw [← hW]; have h := (Row.new ((w.alloc (.cells #[.bool m1, .slice a1 xs.length c1, .slice a2 ds.length c2] 25)).alloc (.cells #[.bool m2, .slice a3 zs.length c3, .slice a4 es.length c4] 25)) 25 #[.bool false, .slice none 0 0, .slice none 0 0]); simp only [World.size_alloc] at h; exact h
  have hBW : Below w.heap.size w W := by rw [← hW]; exact ((((Below.refl _ _).alloc (by (try simp) <;> omega) _).alloc (by (try simp) <;> omega) _).alloc (by (try simp) <;> omega) _)
  have hsW : w.heap.size + 1 + 1 + 1 ≤ W.heap.size := by rw [← hW]; simp
  have A' := A.later hBW
  have B' := B.later hBW
  have C' := C.later hBW
  have D' := D.later hBW
  have hr' := hr.later hBW
  obtain ⟨p0, p1, p2, _, _, _⟩ := R0.three
  obtain ⟨o0, o1, o2, _, _, _⟩ := R1.three
  go_enter Try.func67, Try.ntmps67
  go_wp2_with fail
  refine (over_any (neg := m2) (neg' := m1) C' B' hz hd (by omega)).mono ?_
  rintro e w1 ⟨r1, rfl, h1, hb1⟩
  have hs1 := hb1.size
  go_wp2_with fail
  refine (plus_any (hr'.later hb1) h1 (by omega)).mono ?_
  rintro e w2 ⟨r2, rfl, ⟨rn, us, b1, k1, rfl, F, hS, hl⟩, hb2⟩
  have hs2 := hb2.size
  have hval : ratOf rn (val us) (val ds * val es) = ratOf m1 (val xs) (val ds) + ratOf m2 (val zs) (val es) := rat_sum hB hD (hS.trans rfl)
  have HV := Lib.hid hval
  clear hval hS hW h1 hr hr' p0 p1 p2 o0 o1 o2
  obtain ⟨U, hU⟩ : ∃ U, w2.alloc (.cells #[.bool rn, .slice b1 us.length k1] 84) = U := ⟨_, rfl⟩
  have hBU : Below w2.heap.size w2 U := by rw [← hU]; exact (Below.refl _ _).alloc (by simp) _
  have hsU : w2.heap.size + 1 ≤ U.heap.size := by rw [← hU]; simp
  have Q7 : Row U w2.heap.size 84 #[.bool rn, .slice b1 us.length k1] := by rw [← hU]; exact Row.new _ _ _
  have P0 := ((R0.later hb1).later hb2).later hBU
  have P1 := ((R1.later hb1).later hb2).later hBU
  have P2 := ((R2.later hb1).later hb2).later hBU
  have BU := ((B'.later hb1).later hb2).later hBU
  have DU := ((D'.later hb1).later hb2).later hBU
  have FU := F.later hBU
  have hB2 : Below w.heap.size w U := ((hBW.trans (hb1.mono (by omega))).trans (hb2.mono (by omega))).trans (hBU.mono (by omega))
  have mkS : ∀ X, Kept (w.heap.size + 1 + 1) U X → X.cell? ⟨w2.heap.size, 0, none⟩ = some (.bool rn) ∧ X.cell? ⟨w2.heap.size, 1, none⟩ = some (.slice b1 us.length k1) ∧ X.cell? ⟨w.heap.size, 2, none⟩ = some (.slice a2 ds.length c2) ∧ X.cell? ⟨w.heap.size + 1, 2, none⟩ = some (.slice a4 es.length c4) ∧ Kept (w.heap.size + 1 + 1) U X := fun X h => ⟨(Q7.kept h (by omega)).cell 0, (Q7.kept h (by omega)).cell 1, (P0.kept h (by omega)).cell 2, (P1.kept h (by omega)).cell 2, h⟩
  go_wp2_with fail
  clear hU R0 R1 R2 A B C D A' B' C' D' F hb1 hb2 hBU hBW
  go_region_held3 (fun X => X.cell? ⟨w2.heap.size, 0, none⟩ = some (.bool rn) ∧ X.cell? ⟨w2.heap.size, 1, none⟩ = some (.slice b1 us.length k1) ∧ X.cell? ⟨w.heap.size, 2, none⟩ = some (.slice a2 ds.length c2) ∧ X.cell? ⟨w.heap.size + 1, 2, none⟩ = some (.slice a4 es.length c4) ∧ Kept (w.heap.size + 1 + 1) U X)
    (((refine mkS _ ?_; (repeat' (first | exact Kept.refl _ _ | refine Kept.drew ?_ | refine Kept.alloc ?_ _ | refine Kept.set ?_ _ _ | refine Kept.below ?_ (by assumption))))))
    ((first
      | (go_at_call 12; refine (norm_any (n := 2 * n + 4) ⟨rn, us, z3, b1, ad3, k1, cp3, rfl, F3, A3, HV3.out, by omega, by omega⟩ (by omega)).mono ?_; rintro e w4 ⟨r4, rfl, q4, hb4⟩; obtain ⟨ng, fs, gs, f1, f2, j1, j2, rfl⟩ := q4.arg.box; have P4 := P3.later hb4; obtain ⟨u0, u1, u2, g0, g1, g2⟩ := P4.three)
      | (go_at_call 71; refine (product_any (by first | exact Row.new _ _ _ | exact (Row.new _ _ _).drew) (BU.later (by (repeat' (first | exact Below.refl _ _ | refine Below.drew ?_ | refine Below.alloc ?_ (by (try simp) <;> omega) _ | refine below_set3 ?_ (by (try simp) <;> omega) _ _ _ | refine below_set2 ?_ (by (try simp) <;> omega) _ _ | refine Below.setCell ?_ (by (try simp) <;> omega) _ | refine Below.trans ?_ (Below.mono (by assumption) (by (try simp) <;> omega)))))) (DU.later (by (repeat' (first | exact Below.refl _ _ | refine Below.drew ?_ | refine Below.alloc ?_ (by (try simp) <;> omega) _ | refine below_set3 ?_ (by (try simp) <;> omega) _ _ _ | refine below_set2 ?_ (by (try simp) <;> omega) _ _ | refine Below.setCell ?_ (by (try simp) <;> omega) _ | refine Below.trans ?_ (Below.mono (by assumption) (by (try simp) <;> omega)))))) hd he (by omega)).mono ?_; rintro e w3 ⟨r3, z3, rfl, q3, l3, hb3⟩; obtain ⟨ad3, cp3, rfl, q3, A3⟩ := q3.slice; have hb3' := (show Below U.heap.size U w3 by (repeat' (first | exact Below.refl _ _ | refine Below.drew ?_ | refine Below.alloc ?_ (by (try simp) <;> omega) _ | refine below_set3 ?_ (by (try simp) <;> omega) _ _ _ | refine below_set2 ?_ (by (try simp) <;> omega) _ _ | refine Below.setCell ?_ (by (try simp) <;> omega) _ | refine Below.trans ?_ (Below.mono (by assumption) (by (try simp) <;> omega))))); have F3 := FU.later hb3'; have P3 := P2.later hb3'; have HV3 := Lib.hid ((congrArg (ratOf rn (val us)) q3.eq).trans HV.out))))
  have hs4 := hb4.size
  have hs3 := hb3'.size
  go_wp2_with fail
  refine bodyPost_ret (v := .agg #[.bool ng, .slice f1 fs.length j1, .slice f2 gs.length j2]) (by simp [results, Try.results67, go_sem, u0, u1, u2]) rfl ⟨_, rfl, ?_, ?_⟩
  · exact ((q4.far P4 (by decide) (kept3 _ _ _)).mono (by omega)).more (by omega)
  · exact below_set3 ((hB2.trans (hb3'.mono (by omega))).trans (hb4.mono (by omega))) (by omega) _ _ _

set_option maxRecDepth 100000 in
set_option maxHeartbeats 8000000 in
theorem joinedM_any {n : Nat} {w : World} {m1 m2 : Bool} {xs ds zs es : List Int} {a1 a2 a3 a4 : Option Addr} {c1 c2 c3 c4 : Nat} {recv : Value}
    (A : Arg w (.slice a1 xs.length c1) xs a1 c1) (B : Arg w (.slice a2 ds.length c2) ds a2 c2) (C : Arg w (.slice a3 zs.length c3) zs a3 c3) (D : Arg w (.slice a4 es.length c4) es a4 c4)
    (hx : xs.length ≤ n) (hd : ds.length ≤ n) (hz : zs.length ≤ n) (he : es.length ≤ n) (hn : n ≤ 16777216) (hB : 0 < val ds) (hD : 0 < val es)
    (hr : SgnQ w recv (sgn m1 (val xs * val es)) (2 * n + 2)) :
    Calls Try.prog 67 #[.agg #[.bool m1, .slice a1 xs.length c1, .slice a2 ds.length c2], .agg #[.bool m2, .slice a3 zs.length c3, .slice a4 es.length c4], .func (.func 70) #[recv] #[]] w fun e w' =>
      ∃ r, e = .returned r ∧ ResQ w.heap.size w' r (ratOf m1 (val xs) (val ds) - ratOf m2 (val zs) (val es)) (2 * n + 6) ∧ Below w.heap.size w w' := by
  obtain ⟨W, hW⟩ : ∃ W, (((w.alloc (.cells #[.bool m1, .slice a1 xs.length c1, .slice a2 ds.length c2] 25)).alloc (.cells #[.bool m2, .slice a3 zs.length c3, .slice a4 es.length c4] 25)).alloc (.cells #[.bool false, .slice none 0 0, .slice none 0 0] 25)) = W := ⟨_, rfl⟩
  have R0 : Row W (w.heap.size) 25 #[.bool m1, .slice a1 xs.length c1, .slice a2 ds.length c2] := by rw [← hW]; exact (((Row.new _ _ _).alloc _).alloc _)
  have R1 : Row W (w.heap.size + 1) 25 #[.bool m2, .slice a3 zs.length c3, .slice a4 es.length c4] := by rw [← hW]; have h := (Row.new (w.alloc (.cells #[.bool m1, .slice a1 xs.length c1, .slice a2 ds.length c2] 25)) 25 #[.bool m2, .slice a3 zs.length c3, .slice a4 es.length c4]); simp only [World.size_alloc] at h; exact (h.alloc _)
  have R2 : Row W (w.heap.size + 1 + 1) 25 #[.bool false, .slice none 0 0, .slice none 0 0] := by rw [← hW]; have h := (Row.new ((w.alloc (.cells #[.bool m1, .slice a1 xs.length c1, .slice a2 ds.length c2] 25)).alloc (.cells #[.bool m2, .slice a3 zs.length c3, .slice a4 es.length c4] 25)) 25 #[.bool false, .slice none 0 0, .slice none 0 0]); simp only [World.size_alloc] at h; exact h
  have hBW : Below w.heap.size w W := by rw [← hW]; exact ((((Below.refl _ _).alloc (by (try simp) <;> omega) _).alloc (by (try simp) <;> omega) _).alloc (by (try simp) <;> omega) _)
  have hsW : w.heap.size + 1 + 1 + 1 ≤ W.heap.size := by rw [← hW]; simp
  have A' := A.later hBW
  have B' := B.later hBW
  have C' := C.later hBW
  have D' := D.later hBW
  have hr' := hr.later hBW
  obtain ⟨p0, p1, p2, _, _, _⟩ := R0.three
  obtain ⟨o0, o1, o2, _, _, _⟩ := R1.three
  go_enter Try.func67, Try.ntmps67
  go_wp2_with fail
  refine (over_any (neg := m2) (neg' := m1) C' B' hz hd (by omega)).mono ?_
  rintro e w1 ⟨r1, rfl, h1, hb1⟩
  have hs1 := hb1.size
  go_wp2_with fail
  refine (minus_any (hr'.later hb1) h1 (by omega)).mono ?_
  rintro e w2 ⟨r2, rfl, ⟨rn, us, b1, k1, rfl, F, hS, hl⟩, hb2⟩
  have hs2 := hb2.size
  have hval : ratOf rn (val us) (val ds * val es) = ratOf m1 (val xs) (val ds) - ratOf m2 (val zs) (val es) := rat_diff hB hD (hS.trans (by rw [sgn_not, Int.sub_eq_add_neg]))
  have HV := Lib.hid hval
  clear hval hS hW h1 hr hr' p0 p1 p2 o0 o1 o2
  obtain ⟨U, hU⟩ : ∃ U, w2.alloc (.cells #[.bool rn, .slice b1 us.length k1] 84) = U := ⟨_, rfl⟩
  have hBU : Below w2.heap.size w2 U := by rw [← hU]; exact (Below.refl _ _).alloc (by simp) _
  have hsU : w2.heap.size + 1 ≤ U.heap.size := by rw [← hU]; simp
  have Q7 : Row U w2.heap.size 84 #[.bool rn, .slice b1 us.length k1] := by rw [← hU]; exact Row.new _ _ _
  have P0 := ((R0.later hb1).later hb2).later hBU
  have P1 := ((R1.later hb1).later hb2).later hBU
  have P2 := ((R2.later hb1).later hb2).later hBU
  have BU := ((B'.later hb1).later hb2).later hBU
  have DU := ((D'.later hb1).later hb2).later hBU
  have FU := F.later hBU
  have hB2 : Below w.heap.size w U := ((hBW.trans (hb1.mono (by omega))).trans (hb2.mono (by omega))).trans (hBU.mono (by omega))
  have mkS : ∀ X, Kept (w.heap.size + 1 + 1) U X → X.cell? ⟨w2.heap.size, 0, none⟩ = some (.bool rn) ∧ X.cell? ⟨w2.heap.size, 1, none⟩ = some (.slice b1 us.length k1) ∧ X.cell? ⟨w.heap.size, 2, none⟩ = some (.slice a2 ds.length c2) ∧ X.cell? ⟨w.heap.size + 1, 2, none⟩ = some (.slice a4 es.length c4) ∧ Kept (w.heap.size + 1 + 1) U X := fun X h => ⟨(Q7.kept h (by omega)).cell 0, (Q7.kept h (by omega)).cell 1, (P0.kept h (by omega)).cell 2, (P1.kept h (by omega)).cell 2, h⟩
  go_wp2_with fail
  clear hU R0 R1 R2 A B C D A' B' C' D' F hb1 hb2 hBU hBW
  go_region_held3 (fun X => X.cell? ⟨w2.heap.size, 0, none⟩ = some (.bool rn) ∧ X.cell? ⟨w2.heap.size, 1, none⟩ = some (.slice b1 us.length k1) ∧ X.cell? ⟨w.heap.size, 2, none⟩ = some (.slice a2 ds.length c2) ∧ X.cell? ⟨w.heap.size + 1, 2, none⟩ = some (.slice a4 es.length c4) ∧ Kept (w.heap.size + 1 + 1) U X)
    (((refine mkS _ ?_; (repeat' (first | exact Kept.refl _ _ | refine Kept.drew ?_ | refine Kept.alloc ?_ _ | refine Kept.set ?_ _ _ | refine Kept.below ?_ (by assumption))))))
    ((first
      | (go_at_call 12; refine (norm_any (n := 2 * n + 4) ⟨rn, us, z3, b1, ad3, k1, cp3, rfl, F3, A3, HV3.out, by omega, by omega⟩ (by omega)).mono ?_; rintro e w4 ⟨r4, rfl, q4, hb4⟩; obtain ⟨ng, fs, gs, f1, f2, j1, j2, rfl⟩ := q4.arg.box; have P4 := P3.later hb4; obtain ⟨u0, u1, u2, g0, g1, g2⟩ := P4.three)
      | (go_at_call 71; refine (product_any (by first | exact Row.new _ _ _ | exact (Row.new _ _ _).drew) (BU.later (by (repeat' (first | exact Below.refl _ _ | refine Below.drew ?_ | refine Below.alloc ?_ (by (try simp) <;> omega) _ | refine below_set3 ?_ (by (try simp) <;> omega) _ _ _ | refine below_set2 ?_ (by (try simp) <;> omega) _ _ | refine Below.setCell ?_ (by (try simp) <;> omega) _ | refine Below.trans ?_ (Below.mono (by assumption) (by (try simp) <;> omega)))))) (DU.later (by (repeat' (first | exact Below.refl _ _ | refine Below.drew ?_ | refine Below.alloc ?_ (by (try simp) <;> omega) _ | refine below_set3 ?_ (by (try simp) <;> omega) _ _ _ | refine below_set2 ?_ (by (try simp) <;> omega) _ _ | refine Below.setCell ?_ (by (try simp) <;> omega) _ | refine Below.trans ?_ (Below.mono (by assumption) (by (try simp) <;> omega)))))) hd he (by omega)).mono ?_; rintro e w3 ⟨r3, z3, rfl, q3, l3, hb3⟩; obtain ⟨ad3, cp3, rfl, q3, A3⟩ := q3.slice; have hb3' := (show Below U.heap.size U w3 by (repeat' (first | exact Below.refl _ _ | refine Below.drew ?_ | refine Below.alloc ?_ (by (try simp) <;> omega) _ | refine below_set3 ?_ (by (try simp) <;> omega) _ _ _ | refine below_set2 ?_ (by (try simp) <;> omega) _ _ | refine Below.setCell ?_ (by (try simp) <;> omega) _ | refine Below.trans ?_ (Below.mono (by assumption) (by (try simp) <;> omega))))); have F3 := FU.later hb3'; have P3 := P2.later hb3'; have HV3 := Lib.hid ((congrArg (ratOf rn (val us)) q3.eq).trans HV.out))))
  have hs4 := hb4.size
  have hs3 := hb3'.size
  go_wp2_with fail
  refine bodyPost_ret (v := .agg #[.bool ng, .slice f1 fs.length j1, .slice f2 gs.length j2]) (by simp [results, Try.results67, go_sem, u0, u1, u2]) rfl ⟨_, rfl, ?_, ?_⟩
  · exact ((q4.far P4 (by decide) (kept3 _ _ _)).mono (by omega)).more (by omega)
  · exact below_set3 ((hB2.trans (hb3'.mono (by omega))).trans (hb4.mono (by omega))) (by omega) _ _ _
end Go.Proofs.Ytofiebilokhccaa
