/-
  Contracts of package rat: whole numbers with a sign: plus, minus, sign.
-/
import Derived.Test.YtofiebilokhccaaRProd
namespace Go.Proofs.Ytofiebilokhccaa
open Go.RowKit
set_option linter.unusedVariables false
set_option linter.unusedSimpArgs false

theorem sgn_add (p : Bool) (X Y : Int) : sgn p (X + Y) = sgn p X + sgn p Y := by cases p <;> simp [sgn] <;> omega
theorem sgn_sub {p q : Bool} (h : p ≠ q) (X Y : Int) : sgn p (X - Y) = sgn p X + sgn q Y := by cases p <;> cases q <;> simp_all [sgn] <;> omega
theorem cmp_geN {u v : Value} {xs ys : List Int} {a b : Option Addr} {capa capb : Nat} {w : World} (h1 : Arg w u xs a capa) (h2 : Arg w v ys b capb) (hx : xs.length ≤ 35184372088832) (hy : ys.length ≤ 35184372088832) (h : val ys ≤ val xs) :
    Calls Try.prog 82 #[u, v] w fun e w' => ∃ r : Int, e = .returned (.int .i64 r) ∧ decide (r < 0) = false ∧ Below w.heap.size w w' := by
  refine (cmp_res h1 h2 hx hy).mono fun e w' ⟨he, hb⟩ => ⟨_, he, decide_eq_false ?_, hb⟩
  unfold sign
  rw [if_neg (by omega)]
  split <;> omega
theorem sgn_not (q : Bool) (Y : Int) : sgn (!q) Y = -sgn q Y := by cases q <;> simp [sgn]

set_option maxRecDepth 100000 in
set_option maxHeartbeats 4000000 in
theorem plus_any {n : Nat} {w : World} {u v : Value} {X Y : Int} (hu : SgnQ w u X n) (hv : SgnQ w v Y n) (hn : n ≤ 2147483648) :
    Calls Try.prog 69 #[u, v] w fun e w' => ∃ r, e = .returned r ∧ SgnQ w' r (X + Y) (n + 1) ∧ Below w.heap.size w w' := by
  obtain ⟨p, xs, a1, c1, rfl, A, hX, hx⟩ := hu
  obtain ⟨q, ys, a2, c2, rfl, B, hY, hy⟩ := hv
  obtain ⟨W, hW⟩ : ∃ W, (((w.alloc (.cells #[.bool p, .slice a1 xs.length c1] 84)).alloc (.cells #[.bool q, .slice a2 ys.length c2] 84)).alloc (.cells #[.bool false, .slice none 0 0] 84)) = W := ⟨_, rfl⟩
  have R0 : Row W (w.heap.size) 84 #[.bool p, .slice a1 xs.length c1] := by rw [← hW]; exact (((Row.new _ _ _).alloc _).alloc _)
  have R1 : Row W (w.heap.size + 1) 84 #[.bool q, .slice a2 ys.length c2] := by rw [← hW]; have h := (Row.new (w.alloc (.cells #[.bool p, .slice a1 xs.length c1] 84)) 84 #[.bool q, .slice a2 ys.length c2]); simp only [World.size_alloc] at h; exact (h.alloc _)
  have R2 : Row W (w.heap.size + 1 + 1) 84 #[.bool false, .slice none 0 0] := by rw [← hW]; have h := (Row.new ((w.alloc (.cells #[.bool p, .slice a1 xs.length c1] 84)).alloc (.cells #[.bool q, .slice a2 ys.length c2] 84)) 84 #[.bool false, .slice none 0 0]); simp only [World.size_alloc] at h; exact h
  have hBW : Below w.heap.size w W := by rw [← hW]; exact ((((Below.refl _ _).alloc (by (try simp) <;> omega) _).alloc (by (try simp) <;> omega) _).alloc (by (try simp) <;> omega) _)
  have hsW : w.heap.size + 1 + 1 + 1 ≤ W.heap.size := by rw [← hW]; simp
  by_cases hpq : p = q
  · subst hpq
    have hfin : sgn p (val xs + val ys) = X + Y := by rw [sgn_add, hX, hY]
    have HF := Lib.hid hfin
    clear hX hY hfin
    have mkS : ∀ X, Below (w.heap.size + 1 + 1) W X → X.cell? ⟨w.heap.size, 0, none⟩ = some (.bool p) ∧ X.cell? ⟨w.heap.size, 1, none⟩ = some (.slice a1 xs.length c1) ∧ X.cell? ⟨w.heap.size + 1, 1, none⟩ = some (.slice a2 ys.length c2) ∧ Below w.heap.size w X ∧ Below (w.heap.size + 1 + 1) W X := fun X h => ⟨(R0.below h (by omega)).cell 0, (R0.below h (by omega)).cell 1, (R1.below h (by omega)).cell 1, hBW.trans (h.mono (by omega)), h⟩
    obtain ⟨e0, e1, _, _⟩ := R0.two
    obtain ⟨o0, o1, _, _⟩ := R1.two
    have hbb : (p == p) = true := by simp
    go_enter Try.func69, Try.ntmps69
    go_wp2_with fail
    clear hW e0 e1 o0 o1
    go_region_held3 (fun X => X.cell? ⟨w.heap.size, 0, none⟩ = some (.bool p) ∧ X.cell? ⟨w.heap.size, 1, none⟩ = some (.slice a1 xs.length c1) ∧ X.cell? ⟨w.heap.size + 1, 1, none⟩ = some (.slice a2 ys.length c2) ∧ Below w.heap.size w X ∧ Below (w.heap.size + 1 + 1) W X)
      (((refine mkS _ ?_; (repeat' (first | exact Below.refl _ _ | refine Below.drew ?_ | refine Below.alloc ?_ (by (try simp) <;> omega) _ | refine below_set3 ?_ (by (try simp) <;> omega) _ _ _ | refine below_set2 ?_ (by (try simp) <;> omega) _ _ | refine Below.setCell ?_ (by (try simp) <;> omega) _ | refine Below.trans ?_ (Below.mono (by assumption) (by (try simp) <;> omega)))))))
      ((go_at_call 91; refine (add_res (A.later (by (repeat' (first | exact Below.refl _ _ | exact hBW | refine Below.drew ?_ | refine Below.alloc ?_ (by (try simp) <;> omega) _ | refine below_set3 ?_ (by (try simp) <;> omega) _ _ _ | refine below_set2 ?_ (by (try simp) <;> omega) _ _ | refine Below.setCell ?_ (by (try simp) <;> omega) _ | refine Below.trans ?_ (Below.mono (by assumption) (by (try simp) <;> omega)))))) (B.later (by (repeat' (first | exact Below.refl _ _ | exact hBW | refine Below.drew ?_ | refine Below.alloc ?_ (by (try simp) <;> omega) _ | refine below_set3 ?_ (by (try simp) <;> omega) _ _ _ | refine below_set2 ?_ (by (try simp) <;> omega) _ _ | refine Below.setCell ?_ (by (try simp) <;> omega) _ | refine Below.trans ?_ (Below.mono (by assumption) (by (try simp) <;> omega)))))) (by omega) (by omega)).mono ?_; rintro e w2 ⟨r2, z2, rfl, q2, l2, hb2⟩; have hs2 := hb2.size; simp at hs2; obtain ⟨ad2, cp2, rfl, q2, A2⟩ := q2.slice; have R2' := R2.later (show Below W.heap.size W w2 by (repeat' (first | exact Below.refl _ _ | refine Below.drew ?_ | refine Below.alloc ?_ (by (try simp) <;> omega) _ | refine below_set3 ?_ (by (try simp) <;> omega) _ _ _ | refine below_set2 ?_ (by (try simp) <;> omega) _ _ | refine Below.setCell ?_ (by (try simp) <;> omega) _ | refine Below.trans ?_ (Below.mono (by assumption) (by (try simp) <;> omega))))); obtain ⟨u0, u1, g0, g1⟩ := R2'.two))
    go_wp2_with fail
    refine bodyPost_ret (v := .agg #[.bool p, .slice ad2 z2.length cp2]) (by simp [results, Try.results69, go_sem, u0, u1]) rfl ⟨_, rfl, ?_, ?_⟩
    · exact ⟨p, z2, ad2, cp2, rfl, (q2.kept (kept2 _ _) (by simp; omega)).at_.2, by rw [q2.eq, HF.out], by omega⟩
    · (repeat' (first | exact Below.refl _ _ | exact hBW | refine Below.drew ?_ | refine Below.alloc ?_ (by (try simp) <;> omega) _ | refine below_set3 ?_ (by (try simp) <;> omega) _ _ _ | refine below_set2 ?_ (by (try simp) <;> omega) _ _ | refine Below.setCell ?_ (by (try simp) <;> omega) _ | refine Below.trans ?_ (Below.mono (by assumption) (by (try simp) <;> omega))))
  · have hbb : (p == q) = false := by simpa using hpq
    have A' := A.later hBW
    have B' := B.later hBW
    obtain ⟨e0, e1, h0, h1⟩ := R0.two
    obtain ⟨o0, o1, i0, i1⟩ := R1.two
    by_cases hlt : val xs < val ys
    · have hfin : sgn q (val ys - val xs) = X + Y := by rw [sgn_sub (fun h => hpq h.symm), hX, hY, Int.add_comm]
      have HF := Lib.hid hfin
      clear hX hY hfin
      go_enter Try.func69, Try.ntmps69
      go_wp2_with fail
      refine (cmp_lt A' B' (by omega) (by omega) hlt).mono ?_
      rintro e w1 ⟨rfl, hb1⟩
      have hs1 := hb1.size
      have R0' := R0.later hb1
      have R1' := R1.later hb1
      have R2' := R2.later hb1
      have A1 := A'.later hb1
      have B1 := B'.later hb1
      clear e0 e1 h0 h1 o0 o1 i0 i1 hW R0 R1 R2 A' B'
      have hBW1 := hBW.trans (hb1.mono (by omega))
      obtain ⟨e0, e1, h0, h1⟩ := R0'.two
      obtain ⟨o0, o1, i0, i1⟩ := R1'.two
      obtain ⟨V, hV⟩ : ∃ V, (((w1.setCell ⟨w.heap.size, 0, none⟩ (.bool q)).setCell ⟨w.heap.size, 1, none⟩ (.slice a2 ys.length c2)).setCell ⟨w.heap.size + 1, 0, none⟩ (.bool p)).setCell ⟨w.heap.size + 1, 1, none⟩ (.slice a1 xs.length c1) = V := ⟨_, rfl⟩
      have hBV : Below w.heap.size w V := by rw [← hV]; exact below_set2 (below_set2 hBW1 (by omega) _ _) (by omega) _ _
      have hsV : V.heap.size = w1.heap.size := by rw [← hV]; simp
      have Q0 : Row V (w.heap.size) 84 #[.bool q, .slice a2 ys.length c2] := by rw [← hV]; exact ((R0'.set2 _ _).far (by simp <;> omega) _).far (by simp <;> omega) _
      have Q1 : Row V (w.heap.size + 1) 84 #[.bool p, .slice a1 xs.length c1] := by rw [← hV]; exact ((R1'.far (by simp <;> omega) _).far (by simp <;> omega) _).set2 _ _
      have Q2 : Row V (w.heap.size + 1 + 1) 84 #[.bool false, .slice none 0 0] := by rw [← hV]; exact (((R2'.far (by simp <;> omega) _).far (by simp <;> omega) _).far (by simp <;> omega) _).far (by simp <;> omega) _
      have AV := A.later hBV
      have BV := B.later hBV
      obtain ⟨j0, j1, _, _⟩ := Q0.two
      obtain ⟨k0, k1, _, _⟩ := Q1.two
      go_wp2_with fail
      refine (sub_res BV AV (by omega) (by omega) (by omega)).mono ?_
      rintro e w2 ⟨r2, z2, rfl, q2, l2, hb2⟩
      obtain ⟨ad2, cp2, rfl, q2, A2⟩ := q2.slice
      have hs2 := hb2.size
      clear e0 e1 h0 h1 o0 o1 i0 i1 j0 j1 k0 k1 hV
      obtain ⟨j0, j1, _, _⟩ := (Q0.later hb2).two
      obtain ⟨u0, u1, g0, g1⟩ := (Q2.later hb2).two
      go_wp2_with fail
      refine bodyPost_ret (v := .agg #[.bool q, .slice ad2 z2.length cp2]) (by simp [results, Try.results69, go_sem, u0, u1]) rfl ⟨_, rfl, ?_, ?_⟩
      · exact ⟨q, z2, ad2, cp2, rfl, (q2.kept (kept2 _ _) (by omega)).at_.2, by rw [q2.eq, HF.out], by omega⟩
      · exact below_set2 (hBV.trans (hb2.mono (by omega))) (by omega) _ _
    · have hfin : sgn p (val xs - val ys) = X + Y := by rw [sgn_sub hpq, hX, hY]
      have HF := Lib.hid hfin
      clear hX hY hfin
      go_enter Try.func69, Try.ntmps69
      go_wp2_with fail
      refine (cmp_geN A' B' (by omega) (by omega) (by omega)).mono ?_
      rintro e w1 ⟨r1, rfl, hr1, hb1⟩
      have hs1 := hb1.size
      have R0' := R0.later hb1
      have R1' := R1.later hb1
      have R2' := R2.later hb1
      have A1 := A'.later hb1
      have B1 := B'.later hb1
      clear e0 e1 h0 h1 o0 o1 i0 i1 hW R0 R1 R2 A' B'
      have hBW1 := hBW.trans (hb1.mono (by omega))
      obtain ⟨e0, e1, h0, h1⟩ := R0'.two
      obtain ⟨o0, o1, i0, i1⟩ := R1'.two
      go_wp2_with fail
      refine (sub_res A1 B1 (by omega) (by omega) (by omega)).mono ?_
      rintro e w2 ⟨r2, z2, rfl, q2, l2, hb2⟩
      obtain ⟨ad2, cp2, rfl, q2, A2⟩ := q2.slice
      have hs2 := hb2.size
      clear e0 e1 h0 h1 o0 o1 i0 i1
      obtain ⟨j0, j1, _, _⟩ := (R0'.later hb2).two
      obtain ⟨u0, u1, g0, g1⟩ := (R2'.later hb2).two
      go_wp2_with fail
      refine bodyPost_ret (v := .agg #[.bool p, .slice ad2 z2.length cp2]) (by simp [results, Try.results69, go_sem, u0, u1]) rfl ⟨_, rfl, ?_, ?_⟩
      · exact ⟨p, z2, ad2, cp2, rfl, (q2.kept (kept2 _ _) (by omega)).at_.2, by rw [q2.eq, HF.out], by omega⟩
      · exact below_set2 (hBW1.trans (hb2.mono (by omega))) (by omega) _ _

set_option maxRecDepth 100000 in
set_option maxHeartbeats 2000000 in
theorem minus_any {n : Nat} {w : World} {u v : Value} {X Y : Int} (hu : SgnQ w u X n) (hv : SgnQ w v Y n) (hn : n ≤ 2147483648) :
    Calls Try.prog 70 #[u, v] w fun e w' => ∃ r, e = .returned r ∧ SgnQ w' r (X - Y) (n + 1) ∧ Below w.heap.size w w' := by
  obtain ⟨p, xs, a1, c1, rfl, A, hX, hx⟩ := hu
  obtain ⟨q, ys, a2, c2, rfl, B, hY, hy⟩ := hv
  obtain ⟨W, hW⟩ : ∃ W, (((w.alloc (.cells #[.bool p, .slice a1 xs.length c1] 84)).alloc (.cells #[.bool q, .slice a2 ys.length c2] 84)).alloc (.cells #[.bool false, .slice none 0 0] 84)) = W := ⟨_, rfl⟩
  have R0 : Row W (w.heap.size) 84 #[.bool p, .slice a1 xs.length c1] := by rw [← hW]; exact (((Row.new _ _ _).alloc _).alloc _)
  have R1 : Row W (w.heap.size + 1) 84 #[.bool q, .slice a2 ys.length c2] := by rw [← hW]; have h := (Row.new (w.alloc (.cells #[.bool p, .slice a1 xs.length c1] 84)) 84 #[.bool q, .slice a2 ys.length c2]); simp only [World.size_alloc] at h; exact (h.alloc _)
  have R2 : Row W (w.heap.size + 1 + 1) 84 #[.bool false, .slice none 0 0] := by rw [← hW]; have h := (Row.new ((w.alloc (.cells #[.bool p, .slice a1 xs.length c1] 84)).alloc (.cells #[.bool q, .slice a2 ys.length c2] 84)) 84 #[.bool false, .slice none 0 0]); simp only [World.size_alloc] at h; exact h
  have hBW : Below w.heap.size w W := by rw [← hW]; exact ((((Below.refl _ _).alloc (by (try simp) <;> omega) _).alloc (by (try simp) <;> omega) _).alloc (by (try simp) <;> omega) _)
  have hsW : w.heap.size + 1 + 1 + 1 ≤ W.heap.size := by rw [← hW]; simp
  have U : SgnQ W (.agg #[.bool p, .slice a1 xs.length c1]) X n := ⟨p, xs, a1, c1, rfl, A.later hBW, hX, hx⟩
  have V : SgnQ W (.agg #[.bool !q, .slice a2 ys.length c2]) (-Y) n := ⟨!q, ys, a2, c2, rfl, B.later hBW, by rw [sgn_not, hY], hy⟩
  clear hX hY
  obtain ⟨e0, e1, _, _⟩ := R0.two
  obtain ⟨o0, o1, _, _⟩ := R1.two
  go_enter Try.func70, Try.ntmps70
  go_wp2_with fail
  refine (plus_any U V hn).mono ?_
  rintro e w2 ⟨r2, rfl, ⟨s, zs, a3, c3, rfl, A3, hZ, hz⟩, hb2⟩
  have hs2 := hb2.size
  have HZ := Lib.hid hZ
  clear e0 e1 o0 o1 hW hZ
  obtain ⟨u0, u1, g0, g1⟩ := (R2.later hb2).two
  go_wp2_with fail
  refine bodyPost_ret (v := .agg #[.bool s, .slice a3 zs.length c3]) (by simp [results, Try.results70, go_sem, u0, u1]) rfl ⟨_, rfl, ?_, ?_⟩
  · exact ⟨s, zs, a3, c3, rfl, A3.far (R2.later hb2) (noInts2 _ _ _ _) (kept2 _ _), by rw [HZ.out, Int.sub_eq_add_neg], hz⟩
  · exact below_set2 (hBW.trans (hb2.mono (by omega))) (by omega) _ _

set_option maxRecDepth 100000 in
set_option maxHeartbeats 1000000 in
theorem sign_any {n : Nat} {w : World} {u : Value} {X : Int} (hu : SgnQ w u X n) (hn : n ≤ 2147483648) :
    Calls Try.prog 73 #[u] w fun e w' => e = .returned (.int .i64 X.sign) ∧ Below w.heap.size w w' := by
  obtain ⟨p, xs, a1, c1, rfl, A, hX, hx⟩ := hu
  have hsg := sgn_sign p (val_nonneg A.wf)
  rw [hX] at hsg
  obtain ⟨W, hW⟩ : ∃ W, (w.alloc (.cells #[.bool p, .slice a1 xs.length c1] 84)) = W := ⟨_, rfl⟩
  have R0 : Row W (w.heap.size) 84 #[.bool p, .slice a1 xs.length c1] := by rw [← hW]; exact (Row.new _ _ _)
  have hBW : Below w.heap.size w W := by rw [← hW]; exact ((Below.refl _ _).alloc (by (try simp) <;> omega) _)
  have hsW : w.heap.size + 1 ≤ W.heap.size := by rw [← hW]; simp
  have A' := A.later hBW
  obtain ⟨e0, e1, _, _⟩ := R0.two
  have hbits := bits_res A' (by omega) (bitsN_is A.wf)
  have hbp := bits_pos A.wf
  have h0 := val_nonneg A.wf
  obtain ⟨nb, hnb⟩ : ∃ nb, bitsN xs = nb := ⟨_, rfl⟩
  rw [hnb] at hbits hbp
  clear hnb hX
  by_cases hz : val xs = 0
  · have hb0 : ((nb : Int) == 0) = true := by have : nb = 0 := by omega
                                              subst this; rfl
    rw [if_pos hz] at hsg
    have HS := Lib.hid hsg
    clear hsg hz hbp h0
    go_enter Try.func73, Try.ntmps73
    go_wp2_with fail
    refine hbits.mono ?_
    rintro e w' ⟨rfl, rfl⟩
    clear hbits
    go_wp2_with fail
    go_ret
    exact ⟨by rw [HS.out]; rfl, hBW⟩
  · have hb0 : ((nb : Int) == 0) = false := by simp; omega
    rw [if_neg hz] at hsg
    have HS := Lib.hid hsg
    clear hsg hz hbp h0
    cases p with
    | true =>
      go_enter Try.func73, Try.ntmps73
      go_wp2_with fail
      refine hbits.mono ?_
      rintro e w' ⟨rfl, rfl⟩
      clear hbits
      go_wp2_with fail
      go_ret
      exact ⟨by rw [HS.out]; rfl, hBW⟩
    | false =>
      go_enter Try.func73, Try.ntmps73
      go_wp2_with fail
      refine hbits.mono ?_
      rintro e w' ⟨rfl, rfl⟩
      clear hbits
      go_wp2_with fail
      go_ret
      exact ⟨by rw [HS.out]; rfl, hBW⟩
end Go.Proofs.Ytofiebilokhccaa
