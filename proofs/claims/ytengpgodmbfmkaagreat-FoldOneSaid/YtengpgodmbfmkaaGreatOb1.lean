/-
  Part 1 of 5: contracts and what they rest on (RMath, RArg, RSgn, RCmp, SRefC, SRefD, SFacts, SCode3, TCode0, TOrdIn, PPairs, PJoin, MMath, MMath2, MMath3, FMath, FPlus).
-/
import Derived.Test.YtengpgodmbfmkaaGreatD30
namespace Go.Proofs.YtengpgodmbfmkaaGreat
set_option linter.unusedVariables false
set_option linter.unusedSimpArgs false
set_option maxRecDepth 100000
set_option maxHeartbeats 40000000
section
open Go.RowKit
theorem rat_diff {m n r : Bool} {A B C D S : Int} (hB : 0 < B) (hD : 0 < D) (h : sgn r S = sgn m (A * D) + sgn (!n) (C * B)) : ratOf r S (B * D) = ratOf m A B - ratOf n C D := by
 rw [rat_sum hB hD h, Rat.sub_eq_add_neg]
 congr 1
 unfold ratOf
 rw [Rat.neg_divInt]
 congr 1
 cases n <;> simp [sgn]
def sgR (x : Rat) : Int := x.num.sign
theorem sgR_zero (x : Rat) : sgR x = 0 ↔ x = 0 := by unfold sgR; rw [Int.sign_eq_zero_iff_zero, Rat.num_eq_zero]
theorem sgR_divInt (a : Int) {b : Int} (hb : 0 < b) : sgR (Rat.divInt a b) = a.sign := by
 unfold sgR
 rw [Rat.num_divInt, Int.sign_eq_one_of_pos hb, Int.one_mul]
 have hg : (0 : Int) < (Int.gcd b a : Int) := gcd_pos hb
 rcases Int.lt_trichotomy a 0 with h | h | h
 · rw [Int.sign_eq_neg_one_of_neg h]
   apply Int.sign_eq_neg_one_of_neg
   have h2 := quo_pos (A := -a) (g := (Int.gcd b a : Int)) (by omega) hg (Int.dvd_neg.2 (Int.gcd_dvd_right _ _))
   rw [Int.neg_ediv_of_dvd (Int.gcd_dvd_right _ _)] at h2
   omega
 · rw [h]; simp
 · rw [Int.sign_eq_one_of_pos h]
   exact Int.sign_eq_one_of_pos (quo_pos h hg (Int.gcd_dvd_right _ _))
theorem sgR_ratOf (n : Bool) (A : Int) {B : Int} (hB : 0 < B) : sgR (ratOf n A B) = (sgn n A).sign := sgR_divInt _ hB
theorem sgn_sign (n : Bool) {A : Int} (hA : 0 ≤ A) : (sgn n A).sign = if A = 0 then 0 else if n = true then -1 else 1 := by
 by_cases h : A = 0
 · rw [if_pos h, h, sgn_zero]; rfl
 · rw [if_neg h]
   cases n with
   | false => rw [sgn_pos]; exact Int.sign_eq_one_of_pos (by omega)
   | true => rw [sgn_neg, if_pos rfl]; exact Int.sign_eq_neg_one_of_neg (by omega)
end
section
open Go.RowKit
theorem noInts2 (p : Bool) (ad : Option Addr) (n cap : Nat) : NoInts #[.bool p, .slice ad n cap] := by
 intro i k x
 match i with
 | 0 => simp
 | 1 => simp
 | _ + 2 => simp
end
section
open Go.RowKit
theorem sgn_not (q : Bool) (Y : Int) : sgn (!q) Y = -sgn q Y := by cases q <;> simp [sgn]
theorem minus_any {n : Nat} {w : World} {u v : Value} {X Y : Int} (hu : SgnQ w u X n) (hv : SgnQ w v Y n) (hn : n ≤ 2147483648) :
 Calls Tryz.prog 143 #[u, v] w fun e w' => ∃ r, e = .returned r ∧ SgnQ w' r (X - Y) (n + 1) ∧ Below w.heap.size w w' := by
 obtain ⟨p, xs, a1, c1, rfl, A, hX, hx⟩ := hu
 obtain ⟨q, ys, a2, c2, rfl, B, hY, hy⟩ := hv
 obtain ⟨W, hW⟩ : ∃ W, (((w.alloc (.cells #[.bool p, .slice a1 xs.length c1] 157)).alloc (.cells #[.bool q, .slice a2 ys.length c2] 157)).alloc (.cells #[.bool false, .slice none 0 0] 157)) = W := ⟨_, rfl⟩
 have R0 : Row W (w.heap.size) 157 #[.bool p, .slice a1 xs.length c1] := by rw [← hW]; exact (((Row.new _ _ _).alloc _).alloc _)
 have R1 : Row W (w.heap.size + 1) 157 #[.bool q, .slice a2 ys.length c2] := by rw [← hW]; have h := (Row.new (w.alloc (.cells #[.bool p, .slice a1 xs.length c1] 157)) 157 #[.bool q, .slice a2 ys.length c2]); simp only [World.size_alloc] at h; exact (h.alloc _)
 have R2 : Row W (w.heap.size + 1 + 1) 157 #[.bool false, .slice none 0 0] := by rw [← hW]; have h := (Row.new ((w.alloc (.cells #[.bool p, .slice a1 xs.length c1] 157)).alloc (.cells #[.bool q, .slice a2 ys.length c2] 157)) 157 #[.bool false, .slice none 0 0]); simp only [World.size_alloc] at h; exact h
 have hBW : Below w.heap.size w W := by rw [← hW]; exact ((((Below.refl _ _).alloc (by (try simp) <;> omega) _).alloc (by (try simp) <;> omega) _).alloc (by (try simp) <;> omega) _)
 have hsW : w.heap.size + 1 + 1 + 1 ≤ W.heap.size := by rw [← hW]; simp
 have U : SgnQ W (.agg #[.bool p, .slice a1 xs.length c1]) X n := ⟨p, xs, a1, c1, rfl, A.later hBW, hX, hx⟩
 have V : SgnQ W (.agg #[.bool !q, .slice a2 ys.length c2]) (-Y) n := ⟨!q, ys, a2, c2, rfl, B.later hBW, by rw [sgn_not, hY], hy⟩
 clear hX hY
 obtain ⟨e0, e1, _, _⟩ := R0.two
 obtain ⟨o0, o1, _, _⟩ := R1.two
 go_enter Tryz.func143, Tryz.ntmps143
 go_wp2_with fail
 refine (plus_any U V hn).mono ?_
 rintro e w2 ⟨r2, rfl, ⟨s, zs, a3, c3, rfl, A3, hZ, hz⟩, hb2⟩
 have hs2 := hb2.size
 have HZ := Lib.hid hZ
 clear e0 e1 o0 o1 hW hZ
 obtain ⟨u0, u1, g0, g1⟩ := (R2.later hb2).two
 go_wp2_with fail
 refine bodyPost_ret (v := .agg #[.bool s, .slice a3 zs.length c3]) (by simp [results, Tryz.results143, go_sem, u0, u1]) rfl ⟨_, rfl, ?_, ?_⟩
 · exact ⟨s, zs, a3, c3, rfl, A3.far (R2.later hb2) (noInts2 _ _ _ _) (kept2 _ _), by rw [HZ.out, Int.sub_eq_add_neg], hz⟩
 · exact below_set2 (hBW.trans (hb2.mono (by omega))) (by omega) _ _
theorem sign_any {n : Nat} {w : World} {u : Value} {X : Int} (hu : SgnQ w u X n) (hn : n ≤ 2147483648) :
 Calls Tryz.prog 144 #[u] w fun e w' => e = .returned (.int .i64 X.sign) ∧ Below w.heap.size w w' := by
 obtain ⟨p, xs, a1, c1, rfl, A, hX, hx⟩ := hu
 have hsg := sgn_sign p (val_nonneg A.wf)
 rw [hX] at hsg
 obtain ⟨W, hW⟩ : ∃ W, (w.alloc (.cells #[.bool p, .slice a1 xs.length c1] 157)) = W := ⟨_, rfl⟩
 have R0 : Row W (w.heap.size) 157 #[.bool p, .slice a1 xs.length c1] := by rw [← hW]; exact (Row.new _ _ _)
 have hBW : Below w.heap.size w W := by rw [← hW]; exact ((Below.refl _ _).alloc (by (try simp) <;> omega) _)
 have hsW : w.heap.size + 1 ≤ W.heap.size := by rw [← hW]; simp
 have A' := A.later hBW
 obtain ⟨e0, e1, _, _⟩ := R0.two
 have hbits := bits_res A' (by omega) (bitsN_is A.wf)
 have hbp := bits_pos A.wf
 have h0 := val_nonneg A.wf
 obtain ⟨nb, hnb⟩ : ∃ nb, bitsN xs = nb := ⟨_, rfl⟩
 rw [hnb] at hbits hbp
 clear hnb hX
 by_cases hz : val xs = 0
 · have hb0 : ((nb : Int) == 0) = true := by have : nb = 0 := by omega
                                             subst this; rfl
   rw [if_pos hz] at hsg
   have HS := Lib.hid hsg
   clear hsg hz hbp h0
   go_enter Tryz.func144, Tryz.ntmps144
   go_wp2_with fail
   refine hbits.mono ?_
   rintro e w' ⟨rfl, rfl⟩
   clear hbits
   go_wp2_with fail
   go_ret
   exact ⟨by rw [HS.out]; rfl, hBW⟩
 · have hb0 : ((nb : Int) == 0) = false := by simp; omega
   rw [if_neg hz] at hsg
   have HS := Lib.hid hsg
   clear hsg hz hbp h0
   cases p with
   | true =>
    go_enter Tryz.func144, Tryz.ntmps144
    go_wp2_with fail
    refine hbits.mono ?_
    rintro e w' ⟨rfl, rfl⟩
    clear hbits
    go_wp2_with fail
    go_ret
    exact ⟨by rw [HS.out]; rfl, hBW⟩
   | false =>
    go_enter Tryz.func144, Tryz.ntmps144
    go_wp2_with fail
    refine hbits.mono ?_
    rintro e w' ⟨rfl, rfl⟩
    clear hbits
    go_wp2_with fail
    go_ret
    exact ⟨by rw [HS.out]; rfl, hBW⟩
end
section
open Go.RowKit
theorem sgR_diff {m n : Bool} {A B C D : Int} (hB : 0 < B) (hD : 0 < D) : sgR (ratOf m A B - ratOf n C D) = (sgn m (A * D) - sgn n (C * B)).sign := by
 have h := rat_diff (m := m) (n := n) (r := false) (S := sgn m (A * D) - sgn n (C * B)) hB hD (by rw [sgn_not, sgn_pos, Int.sub_eq_add_neg])
 rw [← h, sgR_ratOf _ _ (Int.mul_pos hB hD), sgn_pos]
theorem cmpQ_any {n : Nat} {w : World} {u v : Value} {X Y : Rat} (hu : ArgQ w u X n) (hv : ArgQ w v Y n) (hn : n ≤ 16777000) :
 Calls Tryz.prog 106 #[u, v] w fun e w' => e = .returned (.int .i64 (sgR (X - Y))) ∧ Below w.heap.size w w' := by
 obtain ⟨n1, ps, qs, e1, e2, k1, k2, rfl⟩ := hu.box
 obtain ⟨n2, rs, ss, e3, e4, k3, k4, rfl⟩ := hv.box
 obtain ⟨W, hW⟩ : ∃ W, ((w.alloc (.cells #[.bool n1, .slice e1 ps.length k1, .slice e2 qs.length k2] 54)).alloc (.cells #[.bool n2, .slice e3 rs.length k3, .slice e4 ss.length k4] 54)) = W := ⟨_, rfl⟩
 have R0 : Row W (w.heap.size) 54 #[.bool n1, .slice e1 ps.length k1, .slice e2 qs.length k2] := by rw [← hW]; exact ((Row.new _ _ _).alloc _)
 have R1 : Row W (w.heap.size + 1) 54 #[.bool n2, .slice e3 rs.length k3, .slice e4 ss.length k4] := by rw [← hW]; have h := (Row.new (w.alloc (.cells #[.bool n1, .slice e1 ps.length k1, .slice e2 qs.length k2] 54)) 54 #[.bool n2, .slice e3 rs.length k3, .slice e4 ss.length k4]); simp only [World.size_alloc] at h; exact h
 have hBW : Below w.heap.size w W := by rw [← hW]; exact (((Below.refl _ _).alloc (by (try simp) <;> omega) _).alloc (by (try simp) <;> omega) _)
 have hsW : w.heap.size + 1 + 1 ≤ W.heap.size := by rw [← hW]; simp
 have hu' := (hu.later hBW).later (Below.refl _ W).drew
 have hv' := hv.later hBW
 obtain ⟨p0, p1, p2, p3, p4, p5⟩ := R0.three
 obtain ⟨o0, o1, o2, o3, o4, o5⟩ := R1.three
 have hmf : ∀ (fn : Fn) (first cap : Array Value) (w : World), (Instr.makeFunc fn first cap).run Tryz.prog w = .ok (.func fn first cap) w := fun _ _ _ _ => rfl
 go_enter Tryz.func106, Tryz.ntmps106
 go_wp2_with fail
 clear hW
 refine wp_region_noPanic ?_
 refine wp_region_held_drew (S := fun _ => True) (by kernel_rfl) trivial (fun hHeld => ?_)
 clear hHeld
 refine wpAnyH_ready (rs := [0, 2]) (by kernel_rfl) (by simp) ?_
 refine AllReadyH.cons rfl (fun K hK => ?o1_0) (AllReadyH.cons rfl (fun K hK => ?o1_2) AllReadyH.nil)
 case o1_0 =>
  go_simp
  refine hK.out _ _ trivial (fun hHeld => ?_)
  clear hK K hHeld
  try simp only [Act.put, nD, nE, nF]
  refine wpAnyH_ready (rs := [1, 2]) (by kernel_rfl) (by simp) ?_
  refine AllReadyH.cons rfl (fun K hK => ?o2_1) (AllReadyH.cons rfl (fun K hK => ?o2_2) AllReadyH.nil)
  case o2_1 =>
   go_simp
   (refine (plain_any hu' (by omega)).mono ?_)
   rintro e w1 ⟨r1, rfl, h1, hb1⟩
   have hb1d : Below W.heap.size W w1 := ⟨hb1.os, hb1.tape, hb1.output, hb1.size, hb1.block⟩
   obtain ⟨m1, xs, ds, a1, a2, c1, c2, rfl, A, B, hX, hx, hd, hB, _⟩ := h1
   have R0' := R0.later hb1d
   have R1' := R1.later hb1d
   obtain ⟨i0, i1, i2, _, _, _⟩ := R1'.three
   go_simp
   refine hK.out _ _ trivial (fun hHeld => ?_)
   clear hK K hHeld
   try simp only [Act.put, nD, nE, nF]
   refine wpAnyH_ready (rs := [2]) (by kernel_rfl) (by simp) ?_
   refine AllReadyH.cons rfl (fun K hK => ?o3_2) AllReadyH.nil
   case o3_2 =>
    go_simp
    refine hK.out _ _ trivial (fun hHeld => ?_)
    clear hK K hHeld
    try simp only [Act.put, nD, nE, nF]
    refine wpAnyH_ready (rs := [3]) (by kernel_rfl) (by simp) ?_
    refine AllReadyH.cons rfl (fun K hK => ?o4_3) AllReadyH.nil
    case o4_3 =>
     go_simp
     (refine (plain_any (hv'.later (show Below W.heap.size W w1 from hb1d)) (by omega)).mono ?_)
     rintro e w2 ⟨r2, rfl, h2, hb2⟩
     obtain ⟨m2, zs, es, a3, a4, c3, c4, rfl, C, D, hY, hz, he, hD, _⟩ := h2
     obtain ⟨t0, t1, t2, t3, t4, t5⟩ := (R0'.later hb2).three
     obtain ⟨s0, s1, s2, s3, s4, s5⟩ := (R1'.later hb2).three
     go_simp
     refine hK.out _ _ trivial (fun hHeld => ?_)
     clear hK K hHeld
     try simp only [Act.put, nD, nE, nF]
     refine wpAnyH_ready (rs := [4]) (by kernel_rfl) (by simp) ?_
     refine AllReadyH.cons rfl (fun K hK => ?o5_4) AllReadyH.nil
     case o5_4 =>
      go_simp
      refine hK.out _ _ trivial (fun hHeld => ?_)
      clear hK K hHeld
      try simp only [Act.put, nD, nE, nF]
      refine wpAnyH_ready (rs := [5]) (by kernel_rfl) (by simp) ?_
      refine AllReadyH.cons rfl (fun K hK => ?o6_5) AllReadyH.nil
      case o6_5 =>
       go_simp
       refine hK.out _ _ trivial (fun hHeld => ?_)
       clear hK K hHeld
       try simp only [Act.put, nD, nE, nF]
       refine wpAnyH_done (by kernel_rfl) ?_ _
       refine NoPanic.normal ?_
       have hs1 := hb1d.size
       have hs2 := hb2.size
       obtain ⟨V, hV⟩ : ∃ V, (((((w2.setCell ⟨w.heap.size, 0, none⟩ (.bool m1)).setCell ⟨w.heap.size, 1, none⟩ (.slice a1 xs.length c1)).setCell ⟨w.heap.size, 2, none⟩ (.slice a2 ds.length c2)).setCell ⟨w.heap.size + 1, 0, none⟩ (.bool m2)).setCell ⟨w.heap.size + 1, 1, none⟩ (.slice a3 zs.length c3)).setCell ⟨w.heap.size + 1, 2, none⟩ (.slice a4 es.length c4) = V := ⟨_, rfl⟩
       have Z0 := (R0'.later hb2)
       have Z1 := (R1'.later hb2)
       have Z1' : Row (((w2.setCell ⟨w.heap.size, 0, none⟩ (.bool m1)).setCell ⟨w.heap.size, 1, none⟩ (.slice a1 xs.length c1)).setCell ⟨w.heap.size, 2, none⟩ (.slice a2 ds.length c2)) (w.heap.size + 1) 54 #[.bool n2, .slice e3 rs.length k3, .slice e4 ss.length k4] := ((Z1.far (by simp) _).far (by simp) _).far (by simp) _
       have P0 : Row V (w.heap.size) 54 #[.bool m1, .slice a1 xs.length c1, .slice a2 ds.length c2] := by rw [← hV]; exact (((Z0.set3 _ _ _).far (by simp) _).far (by simp) _).far (by simp) _
       have P1 : Row V (w.heap.size + 1) 54 #[.bool m2, .slice a3 zs.length c3, .slice a4 es.length c4] := by rw [← hV]; exact Z1'.set3 _ _ _
       have hsV : w2.heap.size ≤ V.heap.size := by rw [← hV]; simp
       have hB2 : Below w.heap.size w V := by rw [← hV]; exact below_set3 (below_set3 ((hBW.trans (hb1d.mono (by omega))).trans (hb2.mono (by omega))) (by omega) _ _ _) (by omega) _ _ _
       have AV : Arg V (.slice a1 xs.length c1) xs a1 c1 := by rw [← hV]; exact ((A.later hb2).far Z0 (noInts3 _ _ _ _ _ _ _) (kept3 _ _ _)).far Z1' (noInts3 _ _ _ _ _ _ _) (kept3 _ _ _)
       have BV : Arg V (.slice a2 ds.length c2) ds a2 c2 := by rw [← hV]; exact ((B.later hb2).far Z0 (noInts3 _ _ _ _ _ _ _) (kept3 _ _ _)).far Z1' (noInts3 _ _ _ _ _ _ _) (kept3 _ _ _)
       have CV : Arg V (.slice a3 zs.length c3) zs a3 c3 := by rw [← hV]; exact (C.far Z0 (noInts3 _ _ _ _ _ _ _) (kept3 _ _ _)).far Z1' (noInts3 _ _ _ _ _ _ _) (kept3 _ _ _)
       have DV : Arg V (.slice a4 es.length c4) es a4 c4 := by rw [← hV]; exact (D.far Z0 (noInts3 _ _ _ _ _ _ _) (kept3 _ _ _)).far Z1' (noInts3 _ _ _ _ _ _ _) (kept3 _ _ _)
       have hfin : (sgn m1 (val xs * val es) - sgn m2 (val zs * val ds)).sign = sgR (X - Y) := by rw [← sgR_diff hB hD, hX, hY]
       have HF := Lib.hid hfin
       have mkS : ∀ X, Kept (w.heap.size + 1 + 1) V X → X.cell? ⟨w.heap.size, 0, none⟩ = some (.bool m1) ∧ X.cell? ⟨w.heap.size, 1, none⟩ = some (.slice a1 xs.length c1) ∧ X.cell? ⟨w.heap.size, 2, none⟩ = some (.slice a2 ds.length c2) ∧ X.cell? ⟨w.heap.size + 1, 0, none⟩ = some (.bool m2) ∧ X.cell? ⟨w.heap.size + 1, 1, none⟩ = some (.slice a3 zs.length c3) ∧ X.cell? ⟨w.heap.size + 1, 2, none⟩ = some (.slice a4 es.length c4) ∧ Kept (w.heap.size + 1 + 1) V X := fun X h => ⟨(P0.kept h (by omega)).cell 0, (P0.kept h (by omega)).cell 1, (P0.kept h (by omega)).cell 2, (P1.kept h (by omega)).cell 0, (P1.kept h (by omega)).cell 1, (P1.kept h (by omega)).cell 2, h⟩
       clear hfin hX hY Z0 Z1 Z1' A B C D R0 R1 R0' R1' hu hv hu' hv' hb1 hb1d hb2 hBW p0 p1 p2 p3 p4 p5 o0 o1 o2 o3 o4 o5 t0 t1 t2 t3 t4 t5 s0 s1 s2 s3 s4 s5 i0 i1 i2
       go_wp2_with fail
       (try rw [hV])
       clear hV
       go_region_held3 (fun X => X.cell? ⟨w.heap.size, 0, none⟩ = some (.bool m1) ∧ X.cell? ⟨w.heap.size, 1, none⟩ = some (.slice a1 xs.length c1) ∧ X.cell? ⟨w.heap.size, 2, none⟩ = some (.slice a2 ds.length c2) ∧ X.cell? ⟨w.heap.size + 1, 0, none⟩ = some (.bool m2) ∧ X.cell? ⟨w.heap.size + 1, 1, none⟩ = some (.slice a3 zs.length c3) ∧ X.cell? ⟨w.heap.size + 1, 2, none⟩ = some (.slice a4 es.length c4) ∧ Kept (w.heap.size + 1 + 1) V X)
        (((refine mkS _ ?_; (repeat' (first | exact Kept.refl _ _ | refine Kept.drew ?_ | refine Kept.alloc ?_ _ | refine Kept.set ?_ _ _ | refine Kept.below ?_ (by assumption))))))
        ((first
         | (go_at_call 144; refine (sign_any h5 (by omega)).mono ?_; rintro e w6 ⟨rfl, hb6⟩)
         | (go_at_call 143; refine (minus_any (h3.later hb4) h4 (by omega)).mono ?_; rintro e w5 ⟨r5, rfl, h5, hb5⟩)
         | (go_at_call 120; (with_reducible refine (over_any (m := n + 2) (CV.later hb3d) (BV.later hb3d) hz hd (by omega)).mono ?_); rintro e w4 ⟨r4, rfl, h4, hb4⟩)
         | (go_at_call 120; (with_reducible refine (over_any (m := n + 2) (AV.later (Below.refl _ V).drew) (DV.later (Below.refl _ V).drew) hx he (by omega)).mono ?_); rintro e w3 ⟨r3, rfl, h3, hb3⟩; have hb3d : Below V.heap.size V w3 := ⟨hb3.os, hb3.tape, hb3.output, hb3.size, hb3.block⟩)))
       have hs3 := hb3d.size
       have hs4 := hb4.size
       have hs5 := hb5.size
       go_wp2_with fail
       go_ret
       exact ⟨by rw [← HF.out]; rfl, (((hB2.trans (hb3d.mono (by omega))).trans (hb4.mono (by omega))).trans (hb5.mono (by omega))).trans (hb6.mono (by omega))⟩
  case o2_2 =>
   go_simp
   refine hK.out _ _ trivial (fun hHeld => ?_)
   clear hK K hHeld
   try simp only [Act.put, nD, nE, nF]
   refine wpAnyH_ready (rs := [1]) (by kernel_rfl) (by simp) ?_
   refine AllReadyH.cons rfl (fun K hK => ?o7_1) AllReadyH.nil
   case o7_1 =>
    go_simp
    (refine (plain_any hu' (by omega)).mono ?_)
    rintro e w1 ⟨r1, rfl, h1, hb1⟩
    have hb1d : Below W.heap.size W w1 := ⟨hb1.os, hb1.tape, hb1.output, hb1.size, hb1.block⟩
    obtain ⟨m1, xs, ds, a1, a2, c1, c2, rfl, A, B, hX, hx, hd, hB, _⟩ := h1
    have R0' := R0.later hb1d
    have R1' := R1.later hb1d
    obtain ⟨i0, i1, i2, _, _, _⟩ := R1'.three
    go_simp
    refine hK.out _ _ trivial (fun hHeld => ?_)
    clear hK K hHeld
    try simp only [Act.put, nD, nE, nF]
    refine wpAnyH_ready (rs := [3]) (by kernel_rfl) (by simp) ?_
    refine AllReadyH.cons rfl (fun K hK => ?o8_3) AllReadyH.nil
    case o8_3 =>
     go_simp
     (refine (plain_any (hv'.later (show Below W.heap.size W w1 from hb1d)) (by omega)).mono ?_)
     rintro e w2 ⟨r2, rfl, h2, hb2⟩
     obtain ⟨m2, zs, es, a3, a4, c3, c4, rfl, C, D, hY, hz, he, hD, _⟩ := h2
     obtain ⟨t0, t1, t2, t3, t4, t5⟩ := (R0'.later hb2).three
     obtain ⟨s0, s1, s2, s3, s4, s5⟩ := (R1'.later hb2).three
     go_simp
     refine hK.out _ _ trivial (fun hHeld => ?_)
     clear hK K hHeld
     try simp only [Act.put, nD, nE, nF]
     refine wpAnyH_ready (rs := [4]) (by kernel_rfl) (by simp) ?_
     refine AllReadyH.cons rfl (fun K hK => ?o9_4) AllReadyH.nil
     case o9_4 =>
      go_simp
      refine hK.out _ _ trivial (fun hHeld => ?_)
      clear hK K hHeld
      try simp only [Act.put, nD, nE, nF]
      refine wpAnyH_ready (rs := [5]) (by kernel_rfl) (by simp) ?_
      refine AllReadyH.cons rfl (fun K hK => ?o10_5) AllReadyH.nil
      case o10_5 =>
       go_simp
       refine hK.out _ _ trivial (fun hHeld => ?_)
       clear hK K hHeld
       try simp only [Act.put, nD, nE, nF]
       refine wpAnyH_done (by kernel_rfl) ?_ _
       refine NoPanic.normal ?_
       have hs1 := hb1d.size
       have hs2 := hb2.size
       obtain ⟨V, hV⟩ : ∃ V, (((((w2.setCell ⟨w.heap.size, 0, none⟩ (.bool m1)).setCell ⟨w.heap.size, 1, none⟩ (.slice a1 xs.length c1)).setCell ⟨w.heap.size, 2, none⟩ (.slice a2 ds.length c2)).setCell ⟨w.heap.size + 1, 0, none⟩ (.bool m2)).setCell ⟨w.heap.size + 1, 1, none⟩ (.slice a3 zs.length c3)).setCell ⟨w.heap.size + 1, 2, none⟩ (.slice a4 es.length c4) = V := ⟨_, rfl⟩
       have Z0 := (R0'.later hb2)
       have Z1 := (R1'.later hb2)
       have Z1' : Row (((w2.setCell ⟨w.heap.size, 0, none⟩ (.bool m1)).setCell ⟨w.heap.size, 1, none⟩ (.slice a1 xs.length c1)).setCell ⟨w.heap.size, 2, none⟩ (.slice a2 ds.length c2)) (w.heap.size + 1) 54 #[.bool n2, .slice e3 rs.length k3, .slice e4 ss.length k4] := ((Z1.far (by simp) _).far (by simp) _).far (by simp) _
       have P0 : Row V (w.heap.size) 54 #[.bool m1, .slice a1 xs.length c1, .slice a2 ds.length c2] := by rw [← hV]; exact (((Z0.set3 _ _ _).far (by simp) _).far (by simp) _).far (by simp) _
       have P1 : Row V (w.heap.size + 1) 54 #[.bool m2, .slice a3 zs.length c3, .slice a4 es.length c4] := by rw [← hV]; exact Z1'.set3 _ _ _
       have hsV : w2.heap.size ≤ V.heap.size := by rw [← hV]; simp
       have hB2 : Below w.heap.size w V := by rw [← hV]; exact below_set3 (below_set3 ((hBW.trans (hb1d.mono (by omega))).trans (hb2.mono (by omega))) (by omega) _ _ _) (by omega) _ _ _
       have AV : Arg V (.slice a1 xs.length c1) xs a1 c1 := by rw [← hV]; exact ((A.later hb2).far Z0 (noInts3 _ _ _ _ _ _ _) (kept3 _ _ _)).far Z1' (noInts3 _ _ _ _ _ _ _) (kept3 _ _ _)
       have BV : Arg V (.slice a2 ds.length c2) ds a2 c2 := by rw [← hV]; exact ((B.later hb2).far Z0 (noInts3 _ _ _ _ _ _ _) (kept3 _ _ _)).far Z1' (noInts3 _ _ _ _ _ _ _) (kept3 _ _ _)
       have CV : Arg V (.slice a3 zs.length c3) zs a3 c3 := by rw [← hV]; exact (C.far Z0 (noInts3 _ _ _ _ _ _ _) (kept3 _ _ _)).far Z1' (noInts3 _ _ _ _ _ _ _) (kept3 _ _ _)
       have DV : Arg V (.slice a4 es.length c4) es a4 c4 := by rw [← hV]; exact (D.far Z0 (noInts3 _ _ _ _ _ _ _) (kept3 _ _ _)).far Z1' (noInts3 _ _ _ _ _ _ _) (kept3 _ _ _)
       have hfin : (sgn m1 (val xs * val es) - sgn m2 (val zs * val ds)).sign = sgR (X - Y) := by rw [← sgR_diff hB hD, hX, hY]
       have HF := Lib.hid hfin
       have mkS : ∀ X, Kept (w.heap.size + 1 + 1) V X → X.cell? ⟨w.heap.size, 0, none⟩ = some (.bool m1) ∧ X.cell? ⟨w.heap.size, 1, none⟩ = some (.slice a1 xs.length c1) ∧ X.cell? ⟨w.heap.size, 2, none⟩ = some (.slice a2 ds.length c2) ∧ X.cell? ⟨w.heap.size + 1, 0, none⟩ = some (.bool m2) ∧ X.cell? ⟨w.heap.size + 1, 1, none⟩ = some (.slice a3 zs.length c3) ∧ X.cell? ⟨w.heap.size + 1, 2, none⟩ = some (.slice a4 es.length c4) ∧ Kept (w.heap.size + 1 + 1) V X := fun X h => ⟨(P0.kept h (by omega)).cell 0, (P0.kept h (by omega)).cell 1, (P0.kept h (by omega)).cell 2, (P1.kept h (by omega)).cell 0, (P1.kept h (by omega)).cell 1, (P1.kept h (by omega)).cell 2, h⟩
       clear hfin hX hY Z0 Z1 Z1' A B C D R0 R1 R0' R1' hu hv hu' hv' hb1 hb1d hb2 hBW p0 p1 p2 p3 p4 p5 o0 o1 o2 o3 o4 o5 t0 t1 t2 t3 t4 t5 s0 s1 s2 s3 s4 s5 i0 i1 i2
       go_wp2_with fail
       (try rw [hV])
       clear hV
       go_region_held3 (fun X => X.cell? ⟨w.heap.size, 0, none⟩ = some (.bool m1) ∧ X.cell? ⟨w.heap.size, 1, none⟩ = some (.slice a1 xs.length c1) ∧ X.cell? ⟨w.heap.size, 2, none⟩ = some (.slice a2 ds.length c2) ∧ X.cell? ⟨w.heap.size + 1, 0, none⟩ = some (.bool m2) ∧ X.cell? ⟨w.heap.size + 1, 1, none⟩ = some (.slice a3 zs.length c3) ∧ X.cell? ⟨w.heap.size + 1, 2, none⟩ = some (.slice a4 es.length c4) ∧ Kept (w.heap.size + 1 + 1) V X)
        (((refine mkS _ ?_; (repeat' (first | exact Kept.refl _ _ | refine Kept.drew ?_ | refine Kept.alloc ?_ _ | refine Kept.set ?_ _ _ | refine Kept.below ?_ (by assumption))))))
        ((first
         | (go_at_call 144; refine (sign_any h5 (by omega)).mono ?_; rintro e w6 ⟨rfl, hb6⟩)
         | (go_at_call 143; refine (minus_any (h3.later hb4) h4 (by omega)).mono ?_; rintro e w5 ⟨r5, rfl, h5, hb5⟩)
         | (go_at_call 120; (with_reducible refine (over_any (m := n + 2) (CV.later hb3d) (BV.later hb3d) hz hd (by omega)).mono ?_); rintro e w4 ⟨r4, rfl, h4, hb4⟩)
         | (go_at_call 120; (with_reducible refine (over_any (m := n + 2) (AV.later (Below.refl _ V).drew) (DV.later (Below.refl _ V).drew) hx he (by omega)).mono ?_); rintro e w3 ⟨r3, rfl, h3, hb3⟩; have hb3d : Below V.heap.size V w3 := ⟨hb3.os, hb3.tape, hb3.output, hb3.size, hb3.block⟩)))
       have hs3 := hb3d.size
       have hs4 := hb4.size
       have hs5 := hb5.size
       go_wp2_with fail
       go_ret
       exact ⟨by rw [← HF.out]; rfl, (((hB2.trans (hb3d.mono (by omega))).trans (hb4.mono (by omega))).trans (hb5.mono (by omega))).trans (hb6.mono (by omega))⟩
 case o1_2 =>
  go_simp
  refine hK.out _ _ trivial (fun hHeld => ?_)
  clear hK K hHeld
  try simp only [Act.put, nD, nE, nF]
  refine wpAnyH_ready (rs := [0]) (by kernel_rfl) (by simp) ?_
  refine AllReadyH.cons rfl (fun K hK => ?o11_0) AllReadyH.nil
  case o11_0 =>
   go_simp
   refine hK.out _ _ trivial (fun hHeld => ?_)
   clear hK K hHeld
   try simp only [Act.put, nD, nE, nF]
   refine wpAnyH_ready (rs := [1]) (by kernel_rfl) (by simp) ?_
   refine AllReadyH.cons rfl (fun K hK => ?o12_1) AllReadyH.nil
   case o12_1 =>
    go_simp
    (refine (plain_any hu' (by omega)).mono ?_)
    rintro e w1 ⟨r1, rfl, h1, hb1⟩
    have hb1d : Below W.heap.size W w1 := ⟨hb1.os, hb1.tape, hb1.output, hb1.size, hb1.block⟩
    obtain ⟨m1, xs, ds, a1, a2, c1, c2, rfl, A, B, hX, hx, hd, hB, _⟩ := h1
    have R0' := R0.later hb1d
    have R1' := R1.later hb1d
    obtain ⟨i0, i1, i2, _, _, _⟩ := R1'.three
    go_simp
    refine hK.out _ _ trivial (fun hHeld => ?_)
    clear hK K hHeld
    try simp only [Act.put, nD, nE, nF]
    refine wpAnyH_ready (rs := [3]) (by kernel_rfl) (by simp) ?_
    refine AllReadyH.cons rfl (fun K hK => ?o13_3) AllReadyH.nil
    case o13_3 =>
     go_simp
     (refine (plain_any (hv'.later (show Below W.heap.size W w1 from hb1d)) (by omega)).mono ?_)
     rintro e w2 ⟨r2, rfl, h2, hb2⟩
     obtain ⟨m2, zs, es, a3, a4, c3, c4, rfl, C, D, hY, hz, he, hD, _⟩ := h2
     obtain ⟨t0, t1, t2, t3, t4, t5⟩ := (R0'.later hb2).three
     obtain ⟨s0, s1, s2, s3, s4, s5⟩ := (R1'.later hb2).three
     go_simp
     refine hK.out _ _ trivial (fun hHeld => ?_)
     clear hK K hHeld
     try simp only [Act.put, nD, nE, nF]
     refine wpAnyH_ready (rs := [4]) (by kernel_rfl) (by simp) ?_
     refine AllReadyH.cons rfl (fun K hK => ?o14_4) AllReadyH.nil
     case o14_4 =>
      go_simp
      refine hK.out _ _ trivial (fun hHeld => ?_)
      clear hK K hHeld
      try simp only [Act.put, nD, nE, nF]
      refine wpAnyH_ready (rs := [5]) (by kernel_rfl) (by simp) ?_
      refine AllReadyH.cons rfl (fun K hK => ?o15_5) AllReadyH.nil
      case o15_5 =>
       go_simp
       refine hK.out _ _ trivial (fun hHeld => ?_)
       clear hK K hHeld
       try simp only [Act.put, nD, nE, nF]
       refine wpAnyH_done (by kernel_rfl) ?_ _
       refine NoPanic.normal ?_
       have hs1 := hb1d.size
       have hs2 := hb2.size
       obtain ⟨V, hV⟩ : ∃ V, (((((w2.setCell ⟨w.heap.size, 0, none⟩ (.bool m1)).setCell ⟨w.heap.size, 1, none⟩ (.slice a1 xs.length c1)).setCell ⟨w.heap.size, 2, none⟩ (.slice a2 ds.length c2)).setCell ⟨w.heap.size + 1, 0, none⟩ (.bool m2)).setCell ⟨w.heap.size + 1, 1, none⟩ (.slice a3 zs.length c3)).setCell ⟨w.heap.size + 1, 2, none⟩ (.slice a4 es.length c4) = V := ⟨_, rfl⟩
       have Z0 := (R0'.later hb2)
       have Z1 := (R1'.later hb2)
       have Z1' : Row (((w2.setCell ⟨w.heap.size, 0, none⟩ (.bool m1)).setCell ⟨w.heap.size, 1, none⟩ (.slice a1 xs.length c1)).setCell ⟨w.heap.size, 2, none⟩ (.slice a2 ds.length c2)) (w.heap.size + 1) 54 #[.bool n2, .slice e3 rs.length k3, .slice e4 ss.length k4] := ((Z1.far (by simp) _).far (by simp) _).far (by simp) _
       have P0 : Row V (w.heap.size) 54 #[.bool m1, .slice a1 xs.length c1, .slice a2 ds.length c2] := by rw [← hV]; exact (((Z0.set3 _ _ _).far (by simp) _).far (by simp) _).far (by simp) _
       have P1 : Row V (w.heap.size + 1) 54 #[.bool m2, .slice a3 zs.length c3, .slice a4 es.length c4] := by rw [← hV]; exact Z1'.set3 _ _ _
       have hsV : w2.heap.size ≤ V.heap.size := by rw [← hV]; simp
       have hB2 : Below w.heap.size w V := by rw [← hV]; exact below_set3 (below_set3 ((hBW.trans (hb1d.mono (by omega))).trans (hb2.mono (by omega))) (by omega) _ _ _) (by omega) _ _ _
       have AV : Arg V (.slice a1 xs.length c1) xs a1 c1 := by rw [← hV]; exact ((A.later hb2).far Z0 (noInts3 _ _ _ _ _ _ _) (kept3 _ _ _)).far Z1' (noInts3 _ _ _ _ _ _ _) (kept3 _ _ _)
       have BV : Arg V (.slice a2 ds.length c2) ds a2 c2 := by rw [← hV]; exact ((B.later hb2).far Z0 (noInts3 _ _ _ _ _ _ _) (kept3 _ _ _)).far Z1' (noInts3 _ _ _ _ _ _ _) (kept3 _ _ _)
       have CV : Arg V (.slice a3 zs.length c3) zs a3 c3 := by rw [← hV]; exact (C.far Z0 (noInts3 _ _ _ _ _ _ _) (kept3 _ _ _)).far Z1' (noInts3 _ _ _ _ _ _ _) (kept3 _ _ _)
       have DV : Arg V (.slice a4 es.length c4) es a4 c4 := by rw [← hV]; exact (D.far Z0 (noInts3 _ _ _ _ _ _ _) (kept3 _ _ _)).far Z1' (noInts3 _ _ _ _ _ _ _) (kept3 _ _ _)
       have hfin : (sgn m1 (val xs * val es) - sgn m2 (val zs * val ds)).sign = sgR (X - Y) := by rw [← sgR_diff hB hD, hX, hY]
       have HF := Lib.hid hfin
       have mkS : ∀ X, Kept (w.heap.size + 1 + 1) V X → X.cell? ⟨w.heap.size, 0, none⟩ = some (.bool m1) ∧ X.cell? ⟨w.heap.size, 1, none⟩ = some (.slice a1 xs.length c1) ∧ X.cell? ⟨w.heap.size, 2, none⟩ = some (.slice a2 ds.length c2) ∧ X.cell? ⟨w.heap.size + 1, 0, none⟩ = some (.bool m2) ∧ X.cell? ⟨w.heap.size + 1, 1, none⟩ = some (.slice a3 zs.length c3) ∧ X.cell? ⟨w.heap.size + 1, 2, none⟩ = some (.slice a4 es.length c4) ∧ Kept (w.heap.size + 1 + 1) V X := fun X h => ⟨(P0.kept h (by omega)).cell 0, (P0.kept h (by omega)).cell 1, (P0.kept h (by omega)).cell 2, (P1.kept h (by omega)).cell 0, (P1.kept h (by omega)).cell 1, (P1.kept h (by omega)).cell 2, h⟩
       clear hfin hX hY Z0 Z1 Z1' A B C D R0 R1 R0' R1' hu hv hu' hv' hb1 hb1d hb2 hBW p0 p1 p2 p3 p4 p5 o0 o1 o2 o3 o4 o5 t0 t1 t2 t3 t4 t5 s0 s1 s2 s3 s4 s5 i0 i1 i2
       go_wp2_with fail
       (try rw [hV])
       clear hV
       go_region_held3 (fun X => X.cell? ⟨w.heap.size, 0, none⟩ = some (.bool m1) ∧ X.cell? ⟨w.heap.size, 1, none⟩ = some (.slice a1 xs.length c1) ∧ X.cell? ⟨w.heap.size, 2, none⟩ = some (.slice a2 ds.length c2) ∧ X.cell? ⟨w.heap.size + 1, 0, none⟩ = some (.bool m2) ∧ X.cell? ⟨w.heap.size + 1, 1, none⟩ = some (.slice a3 zs.length c3) ∧ X.cell? ⟨w.heap.size + 1, 2, none⟩ = some (.slice a4 es.length c4) ∧ Kept (w.heap.size + 1 + 1) V X)
        (((refine mkS _ ?_; (repeat' (first | exact Kept.refl _ _ | refine Kept.drew ?_ | refine Kept.alloc ?_ _ | refine Kept.set ?_ _ _ | refine Kept.below ?_ (by assumption))))))
        ((first
         | (go_at_call 144; refine (sign_any h5 (by omega)).mono ?_; rintro e w6 ⟨rfl, hb6⟩)
         | (go_at_call 143; refine (minus_any (h3.later hb4) h4 (by omega)).mono ?_; rintro e w5 ⟨r5, rfl, h5, hb5⟩)
         | (go_at_call 120; (with_reducible refine (over_any (m := n + 2) (CV.later hb3d) (BV.later hb3d) hz hd (by omega)).mono ?_); rintro e w4 ⟨r4, rfl, h4, hb4⟩)
         | (go_at_call 120; (with_reducible refine (over_any (m := n + 2) (AV.later (Below.refl _ V).drew) (DV.later (Below.refl _ V).drew) hx he (by omega)).mono ?_); rintro e w3 ⟨r3, rfl, h3, hb3⟩; have hb3d : Below V.heap.size V w3 := ⟨hb3.os, hb3.tape, hb3.output, hb3.size, hb3.block⟩)))
       have hs3 := hb3d.size
       have hs4 := hb4.size
       have hs5 := hb5.size
       go_wp2_with fail
       go_ret
       exact ⟨by rw [← HF.out]; rfl, (((hB2.trans (hb3d.mono (by omega))).trans (hb4.mono (by omega))).trans (hb5.mono (by omega))).trans (hb6.mono (by omega))⟩
end
section
open Go.RowKit
def fitC (f t : List Int) : Int := if mayC f ≠ 0 then mayC f else if mayC t ≠ 0 then mayC t else if fitU f t f.length then 0 else 13
theorem fitC_from {f t : List Int} (h : mayC f ≠ 0) : fitC f t = mayC f := by unfold fitC; rw [if_pos h]
theorem fitC_to {f t : List Int} (h : mayC f = 0) (h2 : mayC t ≠ 0) : fitC f t = mayC t := by unfold fitC; rw [if_neg (by rw [h]; simp), if_pos h2]
theorem fitC_ok {f t : List Int} (h : mayC f = 0) (h2 : mayC t = 0) (h3 : fitU f t f.length) : fitC f t = 0 := by unfold fitC; rw [if_neg (by rw [h]; simp), if_neg (by rw [h2]; simp), if_pos h3]
theorem fitC_bad {f t : List Int} (h : mayC f = 0) (h2 : mayC t = 0) (h3 : ¬ fitU f t f.length) : fitC f t = 13 := by unfold fitC; rw [if_neg (by rw [h]; simp), if_neg (by rw [h2]; simp), if_neg h3]
end
section
open Go.RowKit
def grownL (f t : List Int) : Nat → List Int
 | 0 => []
 | j + 1 => grownL f t j ++ (if backS f (t.length - j) = backS t (t.length - j) then [] else [(j : Int)])
def grownS (f t : List Int) : List Int := if fitC f t = 0 then grownL f t t.length else []
end
section
theorem back_zero {s : List Int} {k : Nat} (h : s.length < k) : backS s k = 0 := by unfold backS; rw [if_pos h]
theorem fitC_is {f t : List Int} (h : fitC f t = 0) : OkS f ∧ OkS t ∧ fitU f t f.length := by
 by_cases h1 : mayC f = 0
 · by_cases h2 : mayC t = 0
   · by_cases h3 : fitU f t f.length
     · exact ⟨mayC_zero.1 h1, mayC_zero.1 h2, h3⟩
     · rw [fitC_bad h1 h2 h3] at h; cases h
   · rw [fitC_to h1 h2] at h; exact absurd h h2
 · rw [fitC_from h1] at h; exact absurd h h1
theorem fitC_of {f t : List Int} (h1 : OkS f) (h2 : OkS t) (h3 : fitU f t f.length) : fitC f t = 0 := fitC_ok (mayC_ok h1) (mayC_ok h2) h3
theorem fit_len {f t : List Int} (h : fitC f t = 0) : f.length ≤ t.length := by
 obtain ⟨o1, o2, hu⟩ := fitC_is h
 rcases Nat.lt_or_ge t.length f.length with g | g
 · have := (hu f.length (by omega) (Nat.le_refl _)).1
   rw [back_zero g] at this
   exact absurd rfl this
 · exact g
end
section
open Go.RowKit
theorem back_ahead {f t : List Int} {k : Nat} (h : k < t.length - f.length) : backS f (t.length - k) = 0 := by
 unfold backS
 rw [if_pos (by omega)]
theorem fit_far {f t : List Int} (o1 : OkS f) (o2 : OkS t) (h : t.length < f.length) : fitC f t = 13 := by
 refine fitC_bad (mayC_ok o1) (mayC_ok o2) fun hu => ?_
 have := (hu f.length (by omega) (Nat.le_refl _)).1
 rw [back_zero h] at this
 exact this rfl
theorem grownS_bad {f t : List Int} (h : fitC f t ≠ 0) : grownS f t = [] := by unfold grownS; rw [if_neg h]
theorem grownS_ok {f t : List Int} (h : fitC f t = 0) : grownS f t = grownL f t t.length := by unfold grownS; rw [if_pos h]
theorem grown_any {u v : Value} {xs ys : List Int} {a b : Option Addr} {ca cb : Nat} {w : World} (A : ArgS w u xs a ca) (B : ArgS w v ys b cb) :
 Calls Tryz.prog 100 #[u, v] w fun e w' => ∃ r, e = .returned (.tuple #[r, .int .i64 (fitC xs ys)]) ∧ ResS w.heap.size w' r (grownS xs ys) ∧ Below w.heap.size w w' := by
 obtain ⟨i0, hi, hz0, hz1, hz2⟩ := info_parts infoS
 have HA := Lib.hid A
 have HB := Lib.hid B
 obtain rfl := A.is
 obtain rfl := B.is
 obtain ⟨c, hc⟩ : ∃ c, fitC xs ys = c := ⟨_, rfl⟩
 obtain ⟨r, hr⟩ : ∃ r, grownS xs ys = r := ⟨_, rfl⟩
 obtain ⟨F, hF⟩ : ∃ F, xs.length = F := ⟨_, rfl⟩
 obtain ⟨T, hT⟩ : ∃ T, ys.length = T := ⟨_, rfl⟩
 have HC := Lib.hid hc
 have HR := Lib.hid hr
 have HF := Lib.hid hF
 have HT := Lib.hid hT
 rw [hc, hr, hF, hT]
 clear A B hc hr hF hT
 go_enter Tryz.func100, Tryz.ntmps100
 go_wp2
 go_step3
 go_wp2
 have hbW : Below w.heap.size w (w.alloc (.cells #[.slice a F ca, .slice b T cb] 23)) := (Below.refl _ _).alloc (Nat.le_refl _) _
 have hc0 : (w.alloc (.cells #[.slice a F ca, .slice b T cb] 23)).cell? ⟨w.heap.size, 0, none⟩ = some (.slice a F ca) := cell_of_row _ _ 0 _ 23 (0, 0) (heap_alloc_new w _)
 have hc1 : (w.alloc (.cells #[.slice a F ca, .slice b T cb] 23)).cell? ⟨w.heap.size, 1, none⟩ = some (.slice b T cb) := cell_of_row _ _ 1 _ 23 (0, 0) (heap_alloc_new w _)
 obtain ⟨W, hW⟩ : ∃ W, w.alloc (.cells #[.slice a F ca, .slice b T cb] 23) = W := ⟨_, rfl⟩
 rw [hW] at hbW hc0 hc1 ⊢
 clear hW
 have hm1 := mayS_eq (HA.out.later hbW)
 have hm2 := mayS_eq (HB.out.later hbW)
 rw [HF.out] at hm1
 rw [HT.out] at hm2
 go_loop [7, 8, 17] (fun _ _ i => ∃ (k : Nat), i = .int .i64 (k : Int) ∧ k ≤ 2 ∧ (1 ≤ k → mayC xs = 0) ∧ (2 ≤ k → mayC ys = 0)) (fun _ _ i => 2 - (intOf i).toNat)
 case atStart => exact ⟨0, rfl, by omega, fun h => by omega, fun h => by omega⟩
 case round =>
  obtain ⟨k, rfl, hk, h1, h2⟩ := hrel
  rcases (show k = 0 ∨ k = 1 ∨ k = 2 by omega) with rfl | rfl | rfl
  · obtain ⟨m, hm⟩ : ∃ m, mayC xs = m := ⟨_, rfl⟩
    rw [hm] at hm1
    have HM := Lib.hid hm
    clear hm h1 h2
    by_cases h0 : m = 0
    · subst h0
      go_wp2_with (go_at_call 96; refine hm1.mono ?_; rintro e w1 ⟨rfl, rfl⟩)
      go_round
      case rel => exact ⟨1, by go_num, by omega, fun _ => HM.out, fun h => by omega⟩
      case measure => simp [intOf]
    · have hcc := fitC_from (f := xs) (t := ys) (by rw [HM.out]; exact h0)
      obtain rfl : c = m := by rw [← HC.out, hcc]; exact HM.out
      obtain rfl : r = [] := by rw [← HR.out]; exact grownS_bad (by rw [HC.out]; exact h0)
      have hne : (c != 0) = true := by simpa using h0
      clear hcc
      go_wp2_with (go_at_call 96; refine hm1.mono ?_; rintro e w1 ⟨rfl, rfl⟩)
      (try rw [Exit.noGoto_ret])
      go_ret2
      exact ⟨_, rfl, ResS.nil _ _, hbW⟩
  · obtain ⟨m, hm⟩ : ∃ m, mayC ys = m := ⟨_, rfl⟩
    have H1 := Lib.hid (h1 (by omega))
    rw [hm] at hm2
    have HM := Lib.hid hm
    clear hm h1 h2
    by_cases h0 : m = 0
    · subst h0
      go_wp2_with (go_at_call 96; refine hm2.mono ?_; rintro e w1 ⟨rfl, rfl⟩)
      go_round
      case rel => exact ⟨2, by go_num, by omega, fun _ => H1.out, fun _ => HM.out⟩
      case measure => simp [intOf]
    · have hcc := fitC_to (f := xs) (t := ys) H1.out (by rw [HM.out]; exact h0)
      obtain rfl : c = m := by rw [← HC.out, hcc]; exact HM.out
      obtain rfl : r = [] := by rw [← HR.out]; exact grownS_bad (by rw [HC.out]; exact h0)
      have hne : (c != 0) = true := by simpa using h0
      clear hcc
      go_wp2_with (go_at_call 96; refine hm2.mono ?_; rintro e w1 ⟨rfl, rfl⟩)
      (try rw [Exit.noGoto_ret])
      go_ret2
      exact ⟨_, rfl, ResS.nil _ _, hbW⟩
  · have o1 := mayC_zero.1 (h1 (by omega))
    have o2 := mayC_zero.1 (h2 (by omega))
    have l1 := o1.rank
    have l2 := o2.rank
    rw [HF.out] at l1
    rw [HT.out] at l2
    have O1 := Lib.hid o1
    have O2 := Lib.hid o2
    clear h1 h2 hm1 hm2 o1 o2
    have hnn : ¬ ((2 : Nat) : Int) < 2 := by omega
    by_cases hft : F ≤ T
    · obtain ⟨D, hD⟩ : ∃ D, T - F = D := ⟨_, rfl⟩
      have hDI : (T : Int) - (F : Int) = (D : Int) := by omega
      have hD0 : ¬ (D : Int) < 0 := by omega
      have HD := Lib.hid hD
      clear hD
      go_wp2
      go_step3
      go_wp2
      go_loopw [10, 11, 12, 36] (fun s _ _ i wr => ∃ (k : Nat) (zs : List Int), i = .int .i64 (k : Int) ∧ k ≤ T ∧ ResS w.heap.size wr s zs ∧ zs.length ≤ k ∧ grownL xs ys k = zs ∧ fitP xs ys k ∧ Below w.heap.size w wr) (fun _ _ _ i _ => T - (intOf i).toNat)
      case atStart => exact ⟨0, [], rfl, Nat.zero_le _, ResS.nil _ _, Nat.le_refl _, rfl, fun i hi => by omega, hbW⟩
      case round =>
       obtain ⟨k, zs, rfl, hk, R, hzl, hz, hfp, hb⟩ := hrel
       have hsz := hb.size
       have HZ := Lib.hid hz
       have HFP := Lib.hid hfp
       have HRES := Lib.hid R
       have hrow : wr.ownsRow w.heap.size 3 1 _ zs.length (zs.map (Value.int .i64)) := R.num
       clear hz hfp R
       by_cases hlt : k < T
       · obtain ⟨b2, o2, rfl, c2⟩ := (HB.out.later hb).at (i := k) (by rw [HT.out]; exact hlt)
         have hst : grownL xs ys (k + 1) = zs ++ (if backS xs (ys.length - k) = backS ys (ys.length - k) then [] else [(k : Int)]) := by simp only [grownL]; rw [HZ.out]
         rw [back_to (t := ys) (by rw [HT.out]; exact hlt)] at hst
         have hdp := O2.out.pos.getD (i := k) (by rw [HT.out]; exact hlt)
         obtain ⟨d, hde⟩ : ∃ d, ys.getD k 0 = d := ⟨_, rfl⟩
         rw [hde] at c2 hst hdp
         have HDE := Lib.hid hde
         have hltI : (k : Int) < (T : Int) := by omega
         clear hde
         by_cases hin : k < D
         · have hinI : (k : Int) < (D : Int) := by omega
           rw [back_ahead (f := xs) (t := ys) (by rw [HT.out, HF.out, HD.out]; exact hin), if_neg (by omega)] at hst
           have HST := Lib.hid hst
           have HN := Lib.hid (HFP.out.next fun h => by rw [HT.out, HF.out, HD.out] at h; omega)
           clear hst
           go_wp2_with (at_builtin; refine wpList_append_own _ rfl _ _ 22 rfl w.heap.size 3 i0 (.int .i64 0) 1 8 Tryz.underlying22 hi hz0 hz1 hz2 rfl (by decide) _ _ _ rfl (hrow.alloc _) ⟨wr.heap.size, 0, none⟩ 1 1 [.int .i64 (k : Int)] rfl rfl (cell_one_new _ _ _) (by simp [Value.oneCell']) (by unfold maxLen; omega) (by omega) (by simp; omega) ?_; intro v' w1 hown' hgrow _)
           go_roundw
           case rel =>
            obtain ⟨hn, hbw⟩ := pushS hb hsz HRES.out.num hown' hgrow
            exact ⟨k + 1, zs ++ [(k : Int)], by go_num, by omega, ⟨hn, HRES.out.wf.append (Wid.one (by omega))⟩, by rw [List.length_append]; simp only [List.length_cons, List.length_nil]; omega, HST.out, HN.out, hbw⟩
           case measure => simp [intOf]; omega
         · have hinI : ¬ (k : Int) < (D : Int) := by omega
           obtain ⟨j, hj⟩ : ∃ j, k - D = j := ⟨_, rfl⟩
           have hjI : (k : Int) - (D : Int) = (j : Int) := by omega
           have hjF : j < F := by have := HD.out; omega
           have hjFI : (j : Int) < (F : Int) := by omega
           obtain ⟨b1, o1, rfl, c1⟩ := (HA.out.later hb).at (i := j) (by rw [HF.out]; exact hjF)
           have hle : xs.length ≤ ys.length := by rw [HF.out, HT.out]; exact hft
           have hkk : ys.length - xs.length ≤ k := by rw [HT.out, HF.out, HD.out]; omega
           have hkt : k < ys.length := by rw [HT.out]; exact hlt
           have ej : k - (ys.length - xs.length) = j := by rw [HT.out, HF.out, HD.out]; exact hj
           rw [back_in hle hkt hkk, ej] at hst
           have hno : xs.getD j 0 ≠ d → xs.getD j 0 ≠ 1 → fitC xs ys = 13 := fun g1 g2 => fitC_bad (mayC_ok O1.out) (mayC_ok O2.out) fun hu => by
            have := hu.at hle hkt hkk
            rw [ej, HDE.out] at this
            omega
           have hyes : xs.getD j 0 = d ∨ xs.getD j 0 = 1 → fitP xs ys (k + 1) := fun g => HFP.out.next fun _ => by rw [ej, HDE.out]; exact g
           obtain ⟨x, hxe⟩ : ∃ x, xs.getD j 0 = x := ⟨_, rfl⟩
           rw [hxe] at c1 hst hno hyes
           have HNO := Lib.hid hno
           have HYES := Lib.hid hyes
           clear hno hyes hle hkk hkt ej hxe hj
           by_cases hxd : x = d
           · subst hxd
             rw [if_pos rfl, List.append_nil] at hst
             have HST := Lib.hid hst
             have heq : (x == x) = true := by simp
             clear hst
             go_wp2
             go_roundw
             case rel => exact ⟨k + 1, zs, by go_num, by omega, HRES.out, by omega, HST.out, HYES.out (.inl rfl), hb⟩
             case measure => simp [intOf]; omega
           · rw [if_neg hxd] at hst
             have HST := Lib.hid hst
             have heq : (x == d) = false := by simpa using hxd
             clear hst
             by_cases hx1 : x = 1
             · subst hx1
               go_wp2_with (at_builtin; refine wpList_append_own _ rfl _ _ 22 rfl w.heap.size 3 i0 (.int .i64 0) 1 8 Tryz.underlying22 hi hz0 hz1 hz2 rfl (by decide) _ _ _ rfl (hrow.alloc _) ⟨wr.heap.size, 0, none⟩ 1 1 [.int .i64 (k : Int)] rfl rfl (cell_one_new _ _ _) (by simp [Value.oneCell']) (by unfold maxLen; omega) (by omega) (by simp; omega) ?_; intro v' w1 hown' hgrow _)
               go_roundw
               case rel =>
                obtain ⟨hn, hbw⟩ := pushS hb hsz HRES.out.num hown' hgrow
                exact ⟨k + 1, zs ++ [(k : Int)], by go_num, by omega, ⟨hn, HRES.out.wf.append (Wid.one (by omega))⟩, by rw [List.length_append]; simp only [List.length_cons, List.length_nil]; omega, HST.out, HYES.out (.inr rfl), hbw⟩
               case measure => simp [intOf]; omega
             · have hcc := HNO.out hxd hx1
               obtain rfl : c = 13 := by rw [← HC.out]; exact hcc
               obtain rfl : r = [] := by rw [← HR.out]; exact grownS_bad (by rw [hcc]; decide)
               have hne : (x != 1) = true := by simpa using hx1
               clear hcc
               go_wp2
               (try rw [Exit.noGoto_ret])
               go_ret2
               exact ⟨_, rfl, ResS.nil _ _, hb⟩
       · obtain rfl : k = T := by omega
         have hu := fitP.all (f := xs) (t := ys) O2.out (by rw [HF.out, HT.out]; exact hft) (by rw [HT.out]; exact HFP.out)
         have hcc := fitC_of O1.out O2.out hu
         obtain rfl : c = 0 := by rw [← HC.out]; exact hcc
         have hrr : zs = r := by rw [← HR.out, grownS_ok hcc, HT.out]; exact HZ.out.symm
         subst hrr
         have hltI : ¬ (k : Int) < (k : Int) := by omega
         clear hu hcc
         go_wp2
         (try rw [Exit.noGoto_ret])
         go_ret2
         exact ⟨_, rfl, HRES.out, hb⟩
    · obtain rfl : c = 13 := by rw [← HC.out]; exact fit_far O1.out O2.out (by rw [HF.out, HT.out]; omega)
      obtain rfl : r = [] := by rw [← HR.out]; exact grownS_bad (by rw [HC.out]; decide)
      have hd : (T : Int) - (F : Int) < 0 := by omega
      go_wp2
      go_ret2
      exact ⟨_, rfl, ResS.nil _ _, hbW⟩
theorem fitsS_any {u v : Value} {xs ys : List Int} {a b : Option Addr} {ca cb : Nat} {w : World} (A : ArgS w u xs a ca) (B : ArgS w v ys b cb) (ha : a = none → ca = 0) (hb : b = none → cb = 0) (hx : xs.length ≤ 17592186044416) (hy : ys.length ≤ 17592186044416) :
 Calls Tryz.prog 58 #[u, v] w fun e w' => e = .returned (.int .i64 (fitC xs ys)) ∧ Below w.heap.size w w' := by
 have h := grown_any A B
 obtain rfl := A.is
 obtain rfl := B.is
 obtain ⟨c, hc⟩ : ∃ c, fitC xs ys = c := ⟨_, rfl⟩
 obtain ⟨z, hz⟩ : ∃ z, grownS xs ys = z := ⟨_, rfl⟩
 obtain ⟨n, hn⟩ : ∃ n, xs.length = n := ⟨_, rfl⟩
 obtain ⟨m, hm⟩ : ∃ n, ys.length = n := ⟨_, rfl⟩
 rw [hc, hz, hn, hm] at h
 rw [hc, hn, hm]
 clear A B ha hb hx hy hc hz hn hm
 go_enter Tryz.func58, Tryz.ntmps58
 go_wp2_with (go_at_call 100; refine h.mono ?_; rintro e w1 ⟨r, rfl, R, hb⟩)
 go_ret
 exact ⟨rfl, hb⟩
theorem grownC_any {u v : Value} {xs ys : List Int} {a b : Option Addr} {ca cb : Nat} {w : World} (A : ArgS w u xs a ca) (B : ArgS w v ys b cb) (ha : a = none → ca = 0) (hb : b = none → cb = 0) (hx : xs.length ≤ 17592186044416) (hy : ys.length ≤ 17592186044416) :
 Calls Tryz.prog 101 #[u, v] w fun e w' => ∃ r, e = .returned r ∧ ResS w.heap.size w' r (grownS xs ys) ∧ Below w.heap.size w w' := by
 have h := grown_any A B
 obtain rfl := A.is
 obtain rfl := B.is
 obtain ⟨c, hc⟩ : ∃ c, fitC xs ys = c := ⟨_, rfl⟩
 obtain ⟨z, hz⟩ : ∃ z, grownS xs ys = z := ⟨_, rfl⟩
 obtain ⟨n, hn⟩ : ∃ n, xs.length = n := ⟨_, rfl⟩
 obtain ⟨m, hm⟩ : ∃ n, ys.length = n := ⟨_, rfl⟩
 rw [hc, hz, hn, hm] at h
 rw [hz, hn, hm]
 clear A B ha hb hx hy hc hz hn hm
 go_enter Tryz.func101, Tryz.ntmps101
 go_wp2_with (go_at_call 100; refine h.mono ?_; rintro e w1 ⟨r, rfl, R, hb⟩)
 go_ret
 exact ⟨_, rfl, R, hb⟩
end
section
open Go.RowKit Go.Shelf
attribute [local go_sem] Oper.semAt_some
def ratsAt (es fs : List E3) {n : Nat} (x : Fin n) : Array Value := #[.agg #[(es[x.val]?.getD dfE).a, (es[x.val]?.getD dfE).b, (es[x.val]?.getD dfE).c], .agg #[(fs[x.val]?.getD dfE).a, (fs[x.val]?.getD dfE).b, (fs[x.val]?.getD dfE).c]]
end
section
open Go.RowKit
variable {F : Fence} {n : Nat} {P : Program} {ops : Array Oper} {Q : Exit → Act → World → Prop} {md : Region.Mode} {S : World → Prop} {zs : List Nat}
def YieldsIfF (P : Program) (ops : Array Oper) (S : World → Prop) (o : Oper) (v : Value) (a : Act) : Prop := YieldsIf P ops S o v a ∧ ∀ w, o.about P w a.eval = none
theorem YieldsIfF.wpOpIn {i : Nat} {o : Oper} {v : Value} {a : Act} (hro : F.round = none) (hi : ops[i]? = some o) (hy : YieldsIfF P ops S o v a)
 {K : Act → World → Prop} {w : World} (hS : S w) (h : K (a.put o.dst v) w) : wpOpIn F n P ops Q i K a w := by
 unfold Go.wpOpIn
 simp only [hi]
 have hab : ∀ f, o.about P w a.eval = some f → F.fn f := fun f hf => by rw [hy.2 w] at hf; cases hf
 rcases hy.1 with ⟨hw, hv⟩ | ⟨hw, rfl⟩
 · simp only [hw, if_true, Oper.wpIn, hro, Oper.semAt_none, hv w hS, Oper.uponIn]; exact ⟨hab, h⟩
 · simp only [hw, Bool.false_eq_true, if_false]; exact ⟨hab, h⟩
theorem YieldsIfF.of_same {o : Oper} {v : Value} {a a' : Act} (hy : YieldsIfF P ops S o v a) (he : execOp a'.eval o = execOp a.eval o)
 (hw : Region.wanted o (yielded ops a'.tmps) = Region.wanted o (yielded ops a.tmps)) (hb : ∀ w, o.about P w a'.eval = o.about P w a.eval) : YieldsIfF P ops S o v a' :=
 ⟨hy.1.of_same he hw, fun w => by rw [hb w]; exact hy.2 w⟩
theorem wpOpIn_putIf {j : Nat} {oi oj : Oper} {v : Value} (hro : F.round = none) (hj : ops[j]? = some oj) (hap : oi.apart ops oj = true)
 (hsi : ∀ cs b, oi.op ≠ .select cs b) (hsj : ∀ cs b, oj.op ≠ .select cs b)
 (hQ : ∀ c a w, Q (.panic c) (a.put oi.dst v) w → Q (.panic c) a w) {K : Act → World → Prop} {a : Act} {w : World}
 (hy : YieldsIfF P ops S oi v a) (h : wpOpIn F n P ops Q j K (a.put oi.dst v) w) :
 wpOpIn F n P ops Q j (fun a' w' => YieldsIfF P ops S oi v a' ∧ K (a'.put oi.dst v) w') a w := by
 obtain ⟨h1, h2, h3⟩ := Oper.apart_spec hap
 have keep : ∀ (a : Act), YieldsIfF P ops S oi v a → ∀ u, YieldsIfF P ops S oi v (a.put oj.dst u) := fun a hy u =>
  hy.of_same (execOp_put oi hsi a oj.dst u h3) (wanted_put oi a oj.dst u h3) (fun w => about_put oi w a oj.dst u h3)
 have keepD : ∀ d, YieldsIfF P ops S oi v { a with defers := d :: a.defers } := fun d => hy.of_same rfl rfl (fun _ => rfl)
 unfold wpOpIn at *
 simp only [hj] at *
 rw [wanted_put oj a oi.dst v h1, about_put oj w a oi.dst v h1] at h
 split
 · rename_i hw
   simp only [hw, if_true] at h
   unfold Oper.wpIn at *
   rw [about_put oj w a oi.dst v h1] at h
   refine ⟨h.1, ?_⟩
   have h := h.2
   rw [hro, Oper.semAt_none, execOp_put oj hsj a oi.dst v h1] at h
   rw [hro, Oper.semAt_none]
   generalize (execOp a.eval oj).run P w = r at *
   cases r with
   | ok x w' =>
    cases x <;> simp only [Oper.uponIn] at h ⊢
    case value u => exact ⟨keep a hy u, by rw [← Act.put_comm a v u h2]; exact h⟩
    case skip => exact ⟨keep a hy _, by rw [← Act.put_comm a v undef h2]; exact h⟩
    case defer d =>
     refine ⟨keep _ (keepD d) _, ?_⟩
     rw [← Act.put_comm _ v undef h2, ← Act.put_defers]
     exact h
    case enter f args =>
     refine ⟨h.1, CallsIn.mono h.2 fun e w'' he => ?_⟩
     cases e with
     | returned u => exact ⟨keep a hy u, by rw [← Act.put_comm a v u h2]; exact he⟩
     | panicked c => exact hQ _ _ _ he
     | outgrown => exact he
    case row row args => exact ⟨h.1, RowsIn.mono h.2 fun u w'' he => ⟨keep a hy u, by rw [← Act.put_comm a v u h2]; exact he⟩⟩
    case round l f tmps assign body =>
     refine ⟨h.1, RoundIn.mono h.2 fun e w'' he => ?_⟩
     cases e with
     | returned u => exact ⟨keep a hy u, by rw [← Act.put_comm a v u h2]; exact he⟩
     | panicked c => exact hQ _ _ _ he
     | outgrown => exact he
   | halt x w' =>
    cases x <;> simp only [Oper.uponIn] at h ⊢
    case panic u => exact hQ _ _ _ h
 · rename_i hw
   simp only [hw] at h
   exact ⟨h.1, keep a hy _, by rw [← Act.put_comm a v undef h2]; exact h.2⟩
def wpAnyInL (F : Fence) (n : Nat) (P : Program) (md : Region.Mode) (ops : Array Oper) (Q : Exit → Act → World → Prop) (S : World → Prop) (zs : List Nat) : Nat → Array Bool → Act → World → Prop
 | 0, listed, a, w => Region.ready md ops listed = [] ∧ Q .normal a w
 | fuel + 1, listed, a, w =>
  (Region.ready md ops listed = [] → Q .normal a w) ∧
  ∀ i ∈ Region.ready md ops listed, wpOpIn F n P ops Q i (fun a' w' => (i ∉ zs → S w') ∧ wpAnyInL F n P md ops Q S zs fuel (listed.setIfInBounds i true) a' w') a w
theorem wpAnyIn_of_L : ∀ (fuel : Nat) (listed : Array Bool) (a : Act) (w : World), wpAnyInL F n P md ops Q S zs fuel listed a w → wpAnyIn F n P md ops Q fuel listed a w
 | 0, _, _, _, h => h
 | fuel + 1, _, _, _, h => ⟨h.1, fun i hi => wpOpIn_mono (fun a' w' h' => wpAnyIn_of_L fuel _ a' w' h'.2) (h.2 i hi)⟩
def chainB (md : Region.Mode) (ops : Array Oper) (i : Nat) (ch : List Nat) : Bool := ch.all fun c => (i :: ch).any fun p => waitsB md ops c p
theorem chain_spec {i : Nat} {ch : List Nat} (h : chainB md ops i ch = true) : ∀ c ∈ ch, ∃ p, (p = i ∨ p ∈ ch) ∧ ∀ o, ops[c]? = some o → ∃ e ∈ o.after, Region.binds md e = true ∧ e.on = p := fun c hc => by
 have h1 := List.all_eq_true.1 h c hc
 obtain ⟨p, hp, h2⟩ := List.any_eq_true.1 h1
 exact ⟨p, List.mem_cons.1 hp, waits_spec h2⟩
theorem wpAnyInL_first {i : Nat} {oi : Oper} {v : Value} {ch : List Nat} (hro : F.round = none) (hi : ops[i]? = some oi) (hsel : ∀ (j : Nat) (o : Oper) cs b, ops[j]? = some o → o.op ≠ .select cs b)
 (hQ : ∀ c a w, Q (.panic c) (a.put oi.dst v) w → Q (.panic c) a w) (hch : ∀ c ∈ ch, ∃ p, (p = i ∨ p ∈ ch) ∧ ∀ o, ops[c]? = some o → ∃ e ∈ o.after, Region.binds md e = true ∧ e.on = p) (hzs : ∀ z ∈ zs, z ∈ ch) :
 ∀ (fuel : Nat) (listed : Array Bool) (a : Act) (w : World),
  (∀ j oj, ops[j]? = some oj → j ≠ i → listed.getD j true = false → (∀ e ∈ oj.after, Region.binds md e = true → e.on ≠ i) → oi.apart ops oj = true) →
  (∀ c ∈ ch, listed.getD c true = false) →
  i ∈ Region.ready md ops listed → YieldsIfF P ops S oi v a → S w →
  wpAnyInL F n P md ops Q S zs fuel (listed.setIfInBounds i true) (a.put oi.dst v) w → wpAnyInL F n P md ops Q S zs (fuel + 1) listed a w := by
 intro fuel
 induction fuel with
 | zero =>
  intro listed a w _ _ hr hy hS H
  refine ⟨fun h => (by rw [h] at hr; cases hr), fun j hj => ?_⟩
  by_cases hji : j = i
  · subst hji; exact hy.wpOpIn hro hi hS ⟨fun _ => hS, H⟩
  · have := ready_mono hj hji
    rw [H.1] at this
    cases this
 | succ fuel ih =>
  intro listed a w hfree hun0 hr hy hS H
  refine ⟨fun h => (by rw [h] at hr; cases hr), fun j hj => ?_⟩
  by_cases hji : j = i
  · subst hji; exact hy.wpOpIn hro hi hS ⟨fun _ => hS, H⟩
  · have h1 := H.2 j (ready_mono hj hji)
    obtain ⟨hjun, oj, hoj, hall⟩ := mem_ready.1 hj
    have hwait : ∀ p, listed.getD p true = false → ∀ e ∈ oj.after, Region.binds md e = true → e.on ≠ p := fun p h0 e he hb heq => by
     have h1 := hall e he hb
     rw [heq] at h1
     rcases Nat.lt_or_ge p listed.size with h' | h'
     · simp [h'] at h0 h1; rw [h0] at h1; cases h1
     · simp [Array.getElem?_eq_none h'] at h1
    have hnot : ∀ e ∈ oj.after, Region.binds md e = true → e.on ≠ i := hwait i (mem_ready.1 hr).1
    have hjc : j ∉ ch := fun hc => by
     obtain ⟨p, hp, hw⟩ := hch j hc
     obtain ⟨e, he, hb, hon⟩ := hw oj hoj
     rcases hp with rfl | hp
     · exact hnot e he hb hon
     · exact hwait p (hun0 p hp) e he hb hon
    have hjz : j ∉ zs := fun h => hjc (hzs j h)
    have h2 := wpOpIn_putIf hro hoj (hfree j oj hoj hji hjun hnot) (fun cs b => hsel i oi cs b hi) (fun cs b => hsel j oj cs b hoj) hQ hy h1
    have hfree' : ∀ k ok, ops[k]? = some ok → k ≠ i → (listed.setIfInBounds j true).getD k true = false →
     (∀ e ∈ ok.after, Region.binds md e = true → e.on ≠ i) → oi.apart ops ok = true := fun k ok hk hki hun hno => by
     refine hfree k ok hk hki ?_ hno
     by_cases hjk : j = k
     · subst hjk; exact hjun
     · rw [Go.getD_set_ne true hjk] at hun; exact hun
    have hun' : ∀ c ∈ ch, (listed.setIfInBounds j true).getD c true = false := fun c hc => by
     rw [Go.getD_set_ne true (fun e => hjc (by subst e; exact hc))]
     exact hun0 c hc
    refine wpOpIn_mono (fun a' w' h3 => ⟨fun _ => h3.2.1 hjz, ih (listed.setIfInBounds j true) a' w' hfree' hun' (ready_mono hr (Ne.symm hji)) h3.1 (h3.2.1 hjz) ?_⟩) h2
    rw [Array.setIfInBounds_comm _ _ hji]
    exact h3.2.2
theorem wpAnyInL_take {i : Nat} {oi : Oper} {v : Value} {fuel : Nat} {listed : Array Bool} {a : Act} {w : World} (ch : List Nat) (hro : F.round = none) (hi : ops[i]? = some oi)
 (hs : Region.noSelect ops = true) (hf : Region.free md ops listed i = true) (hr : (Region.ready md ops listed).contains i = true) (hc : chainB md ops i ch = true) (hu : (ch.all fun c => !(listed.getD c true)) = true) (hzs : (zs.all fun z => ch.contains z) = true)
 (hQ : ∀ c a w, Q (.panic c) (a.put oi.dst v) w → Q (.panic c) a w) (hy : YieldsIf P ops S oi v a) (hab : ∀ w, oi.about P w a.eval = none) (hS : S w)
 (h : wpAnyInL F n P md ops Q S zs fuel (listed.setIfInBounds i true) (a.put oi.dst v) w) : wpAnyInL F n P md ops Q S zs (fuel + 1) listed a w :=
 wpAnyInL_first hro hi (Region.noSelect_spec hs) hQ (chain_spec hc) (fun z hz => by simpa using List.all_eq_true.1 hzs z hz) fuel listed a w (Region.free_spec hi hf) (fun c hcc => by simpa using List.all_eq_true.1 hu c hcc) (by simpa using hr) ⟨hy, hab⟩ hS h
theorem wpAnyInL_one {i : Nat} {o : Oper} {fuel : Nat} {listed : Array Bool} {a : Act} {w : World} (hr : Region.ready md ops listed = [i]) (ho : ops[i]? = some o)
 (h : ∀ K' : Act → World → Prop, Shut (∀ a w, (i ∉ zs → S w) → ((i ∉ zs → S w) → wpAnyInL F n P md ops Q S zs fuel (listed.setIfInBounds i true) a w) → K' a w) → if Region.wanted o (yielded ops a.tmps) = true then Oper.wpIn F n P o a w K' Q else (∀ f, o.about P w a.eval = some f → F.fn f) ∧ K' (a.put o.dst undef) w) :
 wpAnyInL F n P md ops Q S zs (fuel + 1) listed a w := by
 refine ⟨fun h0 => (by rw [hr] at h0; cases h0), fun j hj => ?_⟩
 rw [hr, List.mem_singleton] at hj
 subst hj
 exact wpOpIn_step ho (fun K' hK => h K' (fun a w hS hW => hK a w ⟨hS, hW hS⟩))
theorem wpAnyInL_done {listed : Array Bool} {a : Act} {w : World} (hr : Region.ready md ops listed = []) (h : Q .normal a w) :
 ∀ fuel, wpAnyInL F n P md ops Q S zs fuel listed a w
 | 0 => ⟨hr, h⟩
 | _ + 1 => ⟨fun _ => h, by rw [hr]; simp⟩
theorem wpIn_region_L {id : Nat} {a : Act} {w : World} (S : World → Prop) (zs : List Nat) (hm : P.follows .mixedOrders = true) (hS : S w.drew)
 (h : S w.drew → wpAnyInL F n P .any ops Q S zs ops.size (Array.replicate ops.size false) a w.drew) : (Code.region id ops true).wpIn F n P Q a w :=
 wpIn_region_any hm (wpAnyIn_of_L _ _ _ _ (h hS))
end
section
open Go.RowKit Go.Shelf
attribute [local go_sem] Oper.semAt_some
theorem pairsQ_in (n l Bs n₀ : Nat) (a1 a2 : Option Addr) (es fs : List E3) (cap1 cap2 : Nat) (hm : es.length ≤ 1000000000000) (hlen : fs.length = es.length) (J Jx : List (Fin es.length) → World → Prop)
 (hJ : ∀ pre A B, J pre A → Below A.heap.size A B → J pre B)
 (hY : ∀ pre x W, J pre W → pre.length < es.length → YieldAt Fence.wide (n - 1) Tryz.prog l (ratsAt es fs x) W fun e W' =>
  (e = .returned (.bool true) ∧ J (pre ++ [x]) W' ∧ KpS n₀ (Bs + 1) W W') ∨ (e = .returned (.bool false) ∧ Jx (pre ++ [x]) W'))
 (W : World) (hn₀ : Bs + 1 < W.heap.size) (hW₀ : n₀ ≤ W.heap.size) (hB1 : W.cell? ⟨Bs, 0, none⟩ = some (.slice a1 es.length cap1)) (hB2 : W.cell? ⟨Bs + 1, 0, none⟩ = some (.slice a2 fs.length cap2)) (hl1 : LimE W a1 es n₀) (hl2 : LimE W a2 fs n₀) (hsh1 : ShE es) (hsh2 : ShE fs) (h0 : J [] W) :
 CallsIn Fence.wide n Tryz.prog 167 #[.func (.yield l) #[] #[], .pointer (some ⟨Bs, 0, none⟩), .pointer (some ⟨Bs + 1, 0, none⟩)] W fun e W' => (∃ v, e = .returned v) ∧
  ((∃ ys, Upto ys es.length ∧ J ys W') ∨ (∃ pre, (∃ k, k ≤ es.length ∧ Upto pre k) ∧ Jx pre W')) := by
 refine callsIn_of_wp Tryz.func167 rfl trivial ?_ rfl
 simp only [Tryz.ntmps167, List.size_toArray, List.length_cons, List.length_nil, Nat.reduceAdd, Nat.reduceSub, Array.replicate_succ, Array.replicate_zero, List.push_toArray, List.append_toArray, List.nil_append, List.cons_append]
 gi_wp2_with fail
 gi_loopw [4, 5, 8] (fun _ _ i wr => ∃ (k : Nat) (pre : List (Fin es.length)), k ≤ es.length ∧ i = .int .i64 k ∧ Upto pre k ∧ J pre wr ∧ KpS n₀ (Bs + 1) W wr)
  (fun _ _ i _ => es.length - (intOf i).toNat)
 case atStart => exact ⟨0, [], Nat.zero_le _, rfl, rfl, h0, KpS.refl _ _ _⟩
 case round =>
  obtain ⟨k, pre, hk, rfl, hup, hJs, hnx⟩ := hrel
  by_cases hlt : k < es.length
  · obtain ⟨b, o, rfl, c0, c1, c2⟩ := (hl1.below hnx.below).cells hlt
    obtain ⟨b', o', rfl, e0, e1, e2⟩ := (hl2.below hnx.below).cells (k := k) (by omega)
    have hB2' := (World.cell?_of_block (a := ⟨Bs + 1, 0, none⟩) hnx.box).trans hB2
    have hsz := hnx.below.size
    obtain ⟨z1, z2, z3, z4, z5, z6, z7, he⟩ := hsh1 k hlt
    obtain ⟨y1, y2, y3, y4, y5, y6, y7, hf⟩ := hsh2 k (by omega)
    obtain ⟨W2, hW2⟩ : ∃ W2, wr.alloc (.cells #[(es[k]?.getD dfE).a, (es[k]?.getD dfE).b, (es[k]?.getD dfE).c] 54) = W2 := ⟨_, rfl⟩
    have hb2 : Below wr.heap.size wr W2 := by rw [← hW2]; exact (Below.refl _ _).alloc (Nat.le_refl _) _
    have R2 : Row W2 wr.heap.size 54 #[(es[k]?.getD dfE).a, (es[k]?.getD dfE).b, (es[k]?.getD dfE).c] := by rw [← hW2]; exact Row.new _ _ _
    obtain ⟨d0, d1, d2, _, _, _⟩ := R2.three
    have hY2 := hY pre ⟨k, hlt⟩ W2.drew (hJ _ _ _ hJs hb2.drew) (by rw [hup.length]; exact hlt)
    obtain ⟨fn, tmps, assign, body, hy, hR⟩ := hY2
    have hnx2 : KpS n₀ (Bs + 1) W W2.drew := hnx.trans ⟨(hb2.mono (by omega)).drew, hb2.block (Bs + 1) (by omega)⟩
    simp only [ratsAt] at hy
    have f0 := (hb2.cell (p := ⟨b', o' + k * 3, none⟩) (World.block_lt_of_cell? wr _ e0)).trans e0
    have f1 := (hb2.cell (p := ⟨b', o' + k * 3 + 1, none⟩) (World.block_lt_of_cell? wr _ e1)).trans e1
    have f2 := (hb2.cell (p := ⟨b', o' + k * 3 + 2, none⟩) (World.block_lt_of_cell? wr _ e2)).trans e2
    have g2 := (hb2.cell (p := ⟨Bs + 1, 0, none⟩) (World.block_lt_of_cell? wr _ hB2')).trans hB2'
    rw [he] at hy c0 c1 c2 hW2 d0 d1 d2
    rw [hf] at hy e0 e1 e2 f0 f1 f2
    simp only at hy
    have hfl : fs.length = es.length := hlen
    rw [hfl] at g2
    have HJ := Lib.hid hJ
    have HY := Lib.hid hY
    have hkI : (k : Int) < (es.length : Int) := by omega
    clear hJ hY hl1 hl2 he hf R2 hsh1 hsh2 hlen
    gi_wp2_with fail
    refine wpIn_region_L (fun X => X.cell? ⟨wr.heap.size, 0, none⟩ = some (.bool z1) ∧ X.cell? ⟨wr.heap.size, 1, none⟩ = some (.slice z2 z3 z4) ∧ X.cell? ⟨wr.heap.size, 2, none⟩ = some (.slice z5 z6 z7) ∧
     X.cell? ⟨Bs + 1, 0, none⟩ = some (.slice (some ⟨b', o', none⟩) es.length cap2) ∧ X.cell? ⟨b', o' + k * 3, none⟩ = some (.bool y1) ∧ X.cell? ⟨b', o' + k * 3 + 1, none⟩ = some (.slice y2 y3 y4) ∧ X.cell? ⟨b', o' + k * 3 + 2, none⟩ = some (.slice y5 y6 y7)) [6, 7] (by kernel_rfl)
     ⟨d0, d1, d2, g2, f0, f1, f2⟩ (fun hHeld => ?_)
    refine wpAnyInL_take (i := 0) (v := ?va0) [6, 7] rfl rfl (by kernel_rfl) (by kernel_rfl) (by kernel_rfl) (by kernel_rfl) (by kernel_rfl) (by kernel_rfl) (fun _ _ _ h => h) (Or.inl ⟨by rfl, ?ha0⟩) (fun _ => rfl) (by assumption) ?ra0
    case ha0 =>
     intro w hSw
     try dsimp only at hSw
     go_simp
     try with_reducible rfl
    try simp only [Act.put, nD, nE, nF]
    refine wpAnyInL_take (i := 1) (v := ?va1) [6, 7] rfl rfl (by kernel_rfl) (by kernel_rfl) (by kernel_rfl) (by kernel_rfl) (by kernel_rfl) (by kernel_rfl) (fun _ _ _ h => h) (Or.inl ⟨by rfl, ?ha1⟩) (fun _ => rfl) (by assumption) ?ra1
    case ha1 =>
     intro w hSw
     try dsimp only at hSw
     go_simp
     try with_reducible rfl
    try simp only [Act.put, nD, nE, nF]
    refine wpAnyInL_take (i := 2) (v := ?va2) [4, 5, 6, 7] rfl rfl (by kernel_rfl) (by kernel_rfl) (by kernel_rfl) (by kernel_rfl) (by kernel_rfl) (by kernel_rfl) (fun _ _ _ h => h) (Or.inl ⟨by rfl, ?ha2⟩) (fun _ => rfl) (by assumption) ?ra2
    case ha2 =>
     intro w hSw
     try dsimp only at hSw
     go_simp
     try with_reducible rfl
    try simp only [Act.put, nD, nE, nF]
    refine wpAnyInL_take (i := 3) (v := ?va3) [4, 5, 6, 7] rfl rfl (by kernel_rfl) (by kernel_rfl) (by kernel_rfl) (by kernel_rfl) (by kernel_rfl) (by kernel_rfl) (fun _ _ _ h => h) (Or.inl ⟨by rfl, ?ha3⟩) (fun _ => rfl) (by assumption) ?ra3
    case ha3 =>
     intro w hSw
     try dsimp only at hSw
     go_simp
     try with_reducible rfl
    try simp only [Act.put, nD, nE, nF]
    refine wpAnyInL_take (i := 4) (v := ?va4) [5, 6, 7] rfl rfl (by kernel_rfl) (by kernel_rfl) (by kernel_rfl) (by kernel_rfl) (by kernel_rfl) (by kernel_rfl) (fun _ _ _ h => h) (Or.inl ⟨by rfl, ?ha4⟩) (fun _ => rfl) (by assumption) ?ra4
    case ha4 =>
     intro w hSw
     try dsimp only at hSw
     go_simp
     try with_reducible rfl
    try simp only [Act.put, nD, nE, nF]
    refine wpAnyInL_take (i := 5) (v := ?va5) [6, 7] rfl rfl (by kernel_rfl) (by kernel_rfl) (by kernel_rfl) (by kernel_rfl) (by kernel_rfl) (by kernel_rfl) (fun _ _ _ h => h) (Or.inl ⟨by rfl, ?ha5⟩) (fun _ => rfl) (by assumption) ?ra5
    case ha5 =>
     intro w hSw
     try dsimp only at hSw
     go_simp
     try with_reducible rfl
    try simp only [Act.put, nD, nE, nF]
    refine wpAnyInL_one (i := 6) (by kernel_rfl) rfl (fun K hK => ?sb6)
    go_simp
    refine ⟨(fun h => by cases h), hR.mono ?_⟩
    rintro e W3 (⟨rfl, hJ3, hk3⟩ | ⟨rfl, hJx3⟩)
    · refine hK.out _ _ (fun h => absurd (by decide) h) (fun _ => ?mb6)
      clear hK K
      try simp only [Act.put, nD, nE, nF]
      refine wpAnyInL_one (i := 7) (by kernel_rfl) rfl (fun K hK => ?sb7)
      go_simp
      refine hK.out _ _ (fun h => absurd (by decide) h) (fun _ => ?mb7)
      clear hK K
      try simp only [Act.put, nD, nE, nF]
      refine wpAnyInL_done (by kernel_rfl) ?_ _
      gi_wp2
      go_roundw
      case rel => exact ⟨k + 1, _, by omega, by go_num, hup.snoc hlt, hJ3, hnx2.trans hk3⟩
      case measure => simp [intOf]; omega
    · refine hK.out _ _ (fun h => absurd (by decide) h) (fun _ => ?mc6)
      clear hK K
      try simp only [Act.put, nD, nE, nF]
      refine wpAnyInL_one (i := 7) (by kernel_rfl) rfl (fun K hK => ?sc7)
      go_simp
      refine hK.out _ _ (fun h => absurd (by decide) h) (fun _ => ?mc7)
      clear hK K
      try simp only [Act.put, nD, nE, nF]
      refine wpAnyInL_done (by kernel_rfl) ?_ _
      gi_wp2
      refine bodyPost_ret (results_none rfl _ _ _) rfl ?_
      exact ⟨⟨_, rfl⟩, .inr ⟨_, ⟨k + 1, by omega, hup.snoc hlt⟩, hJx3⟩⟩
  · obtain rfl : k = es.length := by omega
    gi_wp2
    go_end0
    exact ⟨⟨_, rfl⟩, .inl ⟨_, hup, hJs⟩⟩
theorem pairsQ_stops (n Bs n₀ : Nat) (a1 a2 : Option Addr) (es fs : List E3) (cap1 cap2 : Nat) (hm : es.length ≤ 1000000000000) (hlen : fs.length = es.length) (w : World) (hn₀ : Bs + 1 < w.heap.size) (hw : n₀ ≤ w.heap.size)
 (hB1 : w.cell? ⟨Bs, 0, none⟩ = some (.slice a1 es.length cap1)) (hB2 : w.cell? ⟨Bs + 1, 0, none⟩ = some (.slice a2 fs.length cap2)) (hl1 : LimE w a1 es n₀) (hl2 : LimE w a2 fs n₀) (hsh1 : ShE es) (hsh2 : ShE fs) :
 SeqStopsK Fence.wide n Tryz.prog 167 #[.pointer (some ⟨Bs, 0, none⟩), .pointer (some ⟨Bs + 1, 0, none⟩)] (ratsAt es fs (n := es.length)) (KpS n₀ (Bs + 1)) (fun ys => Upto ys es.length) (fun pre => ∃ k, k ≤ es.length ∧ Upto pre k) es.length w := fun l J Jx W hW hJ _ hY h0 =>
 pairsQ_in n l Bs n₀ a1 a2 es fs cap1 cap2 hm hlen J Jx (fun pre A B hj hb => hJ pre A B none hj ⟨hb.os, hb.tape, hb.output, hb.size, fun k hk _ => hb.block k hk⟩ (fun _ h => by cases h)) hY W (Nat.lt_of_lt_of_le hn₀ hW.size) (Nat.le_trans hw hW.size) ((hW.cell (p := ⟨Bs, 0, none⟩) (by show Bs < w.heap.size; omega)).trans hB1) ((hW.cell (p := ⟨Bs + 1, 0, none⟩) (by show Bs + 1 < w.heap.size; omega)).trans hB2) (hl1.below (hW.mono hw)) (hl2.below (hW.mono hw)) hsh1 hsh2 h0
theorem pairsQ_any (a b : Option Addr) (n m ca cb : Nat) (w : World) :
 Calls Tryz.prog 147 #[.slice a n ca, .slice b m cb] w fun e w' => e = .returned (.func (.func 167) #[] #[.pointer (some ⟨w.heap.size, 0, none⟩), .pointer (some ⟨w.heap.size + 1, 0, none⟩)]) ∧
  w' = (w.alloc (.cells #[.slice a n ca] 24)).alloc (.cells #[.slice b m cb] 24) := by
 go_enter Tryz.func147, Tryz.ntmps147
 go_wp2
 go_ret
 simp
end
section
open Go.RowKit Go.Shelf
attribute [local go_sem] Oper.semAt_some
def Op2 (base : Nat) (w' : World) (e : Ending) (ok : Bool) (x : Rat) (N : Nat) : Prop :=
 (ok = true ∧ ∃ r, e = .returned (.tuple #[r, .int .i64 0]) ∧ ResQ base w' r x N) ∨ (ok = false ∧ e = .returned (.tuple #[.agg #[.bool false, .slice none 0 0, .slice none 0 0], .int .i64 17]))
def zipQ (f : Rat → Rat → Rat) (q1 q2 : List Q3) : List Rat := List.zipWith (fun p q => f p.rat q.rat) q1 q2
def zipOk (ok : Rat → Rat → Bool) (q1 q2 : List Q3) : Bool := (List.zipWith (fun p q => ok p.rat q.rat) q1 q2).all id
theorem zip_upto {α : Type} {q1 q2 : List Q3} (g : Q3 → Q3 → α) {N : Nat} (h1 : q1.length = N) (h2 : q2.length = N) {ys : List (Fin N)} (h : Upto ys N) : ys.map (fun x => g (q1[x.val]?.getD ⟨false, [], []⟩) (q2[x.val]?.getD ⟨false, [], []⟩)) = List.zipWith g q1 q2 := by
 have e : ys.map (fun x => g (q1[x.val]?.getD ⟨false, [], []⟩) (q2[x.val]?.getD ⟨false, [], []⟩)) = (ys.map Fin.val).map (fun k => g (q1[k]?.getD ⟨false, [], []⟩) (q2[k]?.getD ⟨false, [], []⟩)) := by rw [List.map_map]; rfl
 rw [e, show ys.map Fin.val = List.range N from h]
 apply List.ext_getElem
 · simp [h1, h2]
 · intro i a b
   have i1 : i < q1.length := by simp at a; omega
   have i2 : i < q2.length := by simp at a; omega
   simp [i1, i2]
theorem zipOk_bad {ok : Rat → Rat → Bool} {q1 q2 : List Q3} {k : Nat} (hk : k < q1.length) (hl : q2.length = q1.length) (h : ok (q1[k]?.getD ⟨false, [], []⟩).rat (q2[k]?.getD ⟨false, [], []⟩).rat = false) : zipOk ok q1 q2 = false := by
 have k2 : k < q2.length := by omega
 rw [List.getElem?_eq_getElem hk, List.getElem?_eq_getElem k2] at h
 cases e : zipOk ok q1 q2 with
 | false => rfl
 | true =>
  unfold zipOk at e
  rw [List.all_eq_true] at e
  have h3 := e (ok q1[k].rat q2[k].rat) (by
   rw [List.mem_iff_getElem]
   exact ⟨k, by simp; omega, by simp⟩)
  simp at h3
  simp [h3] at h
theorem joined_any {N F : Nat} {cap : Array Value} {ok : Rat → Rat → Bool} {f : Rat → Rat → Rat} {w : World} {u v : Value} {q1 q2 : List Q3} {b1 b2 : Option Addr} {cb1 cb2 : Nat} (E1 : RowA RawQ w u q1 b1 cb1) (E2 : RowA RawQ w v q2 b2 cb2) (hlen : q2.length = q1.length) (hq : q1.length ≤ 1000000)
 (heF : ∀ args w, (callFunc F args).run Tryz.prog w = .ok (.enter F args) w)
 (hdo : ∀ (W : World) (x y : Value) (p q : Q3), p ∈ q1 → q ∈ q2 → Below w.heap.size w W → RawQ W x p → RawQ W y q → Calls Tryz.prog F (#[x, y] ++ cap) W fun e w' => Op2 W.heap.size w' e (ok p.rat q.rat) (f p.rat q.rat) N ∧ Below W.heap.size W w') :
 Calls Tryz.prog 115 #[u, v, .func (.func F) #[] cap] w fun e w' =>
  ((zipOk ok q1 q2 = true ∧ ∃ r, e = .returned (.tuple #[r, .int .i64 0]) ∧ RowO w.heap.size 54 (fun W v x => ResQ w.heap.size W v x N) w' r (zipQ f q1 q2)) ∨ (zipOk ok q1 q2 = false ∧ e = .returned (.tuple #[.slice none 0 0, .int .i64 17]))) ∧ Below w.heap.size w w' := by
 obtain ⟨i0, hi, hz0, hz1, hz2⟩ := info_parts infoQ
 obtain rfl := E1.is
 obtain rfl := E2.is
 obtain ⟨es, hlim1, hall1⟩ := E1.limE
 obtain ⟨fs, hlim2, hall2⟩ := E2.limE
 have hsh1 : ShE es := shE_of hall1 (fun v x h => h.form)
 have hsh2 : ShE fs := shE_of hall2 (fun v x h => h.form)
 have hel1 : es.length = q1.length := hall1.1
 have hel2 : fs.length = es.length := by rw [hall2.1, hlen, hall1.1]
 have hcap1 := E1.le
 have HA1 := Lib.hid hall1
 have HA2 := Lib.hid hall2
 have HDO := Lib.hid hdo
 have HLEN := Lib.hid hlen
 have HEL1 := Lib.hid hel1
 have HEL2 := Lib.hid hel2
 rw [hlen, ← hel1]
 rw [← hel1] at hq hcap1
 clear E1 E2 hall1 hall2 hdo hlen hel1 hel2
 have hmk := make_rowP es.length (by omega)
 obtain ⟨n', hn'⟩ : ∃ n' : Nat, Hid (3 ≤ n') := ⟨3, Nat.le_refl 3⟩
 refine (callsIn_wide (n := n')).1 ?_
 refine callsIn_of_wp_marks Tryz.func115 rfl trivial ?_ rfl
 simp only [Tryz.ntmps115, List.size_toArray, List.length_cons, List.length_nil, Nat.reduceAdd, Nat.reduceSub, Array.replicate_succ, Array.replicate_zero, List.push_toArray, List.append_toArray, List.nil_append, List.cons_append]
 gi_wp2_with fail
 refine wideCall ((pairsQ_any _ _ _ _ _ _ _).mono ?_)
 rintro e w' ⟨rfl, rfl⟩
 gi_wp2_with fail
 obtain ⟨B, hB⟩ : ∃ B, w.heap.size = B := ⟨_, rfl⟩
 obtain ⟨V1, hV1⟩ : ∃ V1, w.alloc (.cells #[.func (.func F) #[] cap] 109) = V1 := ⟨_, rfl⟩
 obtain ⟨V2, hV2⟩ : ∃ V2, V1.alloc (.cells #[.slice none 0 0] 24) = V2 := ⟨_, rfl⟩
 obtain ⟨V3, hV3⟩ : ∃ V3, V2.alloc (.cells #[.int .i64 0] 29) = V3 := ⟨_, rfl⟩
 obtain ⟨V4, hV4⟩ : ∃ V4, V3.alloc (.cells (madeCells #[.bool false, .slice none 0 0, .slice none 0 0] (es.length * 3)) 54) = V4 := ⟨_, rfl⟩
 obtain ⟨V5, hV5⟩ : ∃ V5, V4.alloc (.cells #[.slice (some ⟨B + 1 + 1 + 1, 0, none⟩) 0 es.length] 24) = V5 := ⟨_, rfl⟩
 obtain ⟨V6, hV6⟩ : ∃ V6, V5.alloc (.cells #[.slice b1 es.length cb1] 24) = V6 := ⟨_, rfl⟩
 obtain ⟨V, hV⟩ : ∃ V, V6.alloc (.cells #[.slice b2 es.length cb2] 24) = V := ⟨_, rfl⟩
 have s1 : V1.heap.size = B + 1 := by rw [← hV1, ← hB]; simp
 have s2 : V2.heap.size = B + 1 + 1 := by rw [← hV2, World.size_alloc, s1]
 have s3 : V3.heap.size = B + 1 + 1 + 1 := by rw [← hV3, World.size_alloc, s2]
 have s4 : V4.heap.size = B + 1 + 1 + 1 + 1 := by rw [← hV4, World.size_alloc, s3]
 have s5 : V5.heap.size = B + 1 + 1 + 1 + 1 + 1 := by rw [← hV5, World.size_alloc, s4]
 have s6 : V6.heap.size = B + 1 + 1 + 1 + 1 + 1 + 1 := by rw [← hV6, World.size_alloc, s5]
 have sV : V.heap.size = B + 1 + 1 + 1 + 1 + 1 + 1 + 1 := by rw [← hV, World.size_alloc, s6]
 have d0 : Boxed V B 109 (.func (.func F) #[] cap) := by
  rw [← hV, ← hV6, ← hV5, ← hV4, ← hV3, ← hV2, ← hV1, ← hB]; exact ((((((Boxed.new _ _ _).alloc _).alloc _).alloc _).alloc _).alloc _).alloc _
 have d1 : Boxed V (B + 1) 24 (.slice none 0 0) := by
  rw [← hV, ← hV6, ← hV5, ← hV4, ← hV3, ← hV2, ← s1]; exact (((((Boxed.new _ _ _).alloc _).alloc _).alloc _).alloc _).alloc _
 have d2 : Boxed V (B + 1 + 1) 29 (.int .i64 0) := by
  rw [← hV, ← hV6, ← hV5, ← hV4, ← hV3, ← s2]; exact ((((Boxed.new _ _ _).alloc _).alloc _).alloc _).alloc _
 have d3 : OwnE B 54 V (.slice (some ⟨B + 1 + 1 + 1, 0, none⟩) 0 es.length) [] := by
  have h : OwnE B 54 V4 (.slice (some ⟨V3.heap.size, 0, none⟩) 0 es.length) [] := by
   rw [← hV4]
   exact World.ownsRow_made V3 _ es.length (by omega) (by unfold maxLen; omega) (madeP_len _ _)
  rw [s3] at h
  have hb : Below V4.heap.size V4 V := by rw [← hV, ← hV6, ← hV5]; exact (((Below.refl _ _).alloc (Nat.le_refl _) _).alloc (by simp) _).alloc (by simp <;> omega) _
  exact h.later hb
 have d4 : Boxed V (B + 1 + 1 + 1 + 1) 24 (.slice (some ⟨B + 1 + 1 + 1, 0, none⟩) 0 es.length) := by
  rw [← hV, ← hV6, ← hV5, ← s4]; exact ((Boxed.new _ _ _).alloc _).alloc _
 have d5 : Boxed V (B + 1 + 1 + 1 + 1 + 1) 24 (.slice b1 es.length cb1) := by
  rw [← hV, ← hV6, ← s5]; exact (Boxed.new _ _ _).alloc _
 have d6 : Boxed V (B + 1 + 1 + 1 + 1 + 1 + 1) 24 (.slice b2 fs.length cb2) := by
  rw [HEL2.out, ← hV, ← s6]; exact Boxed.new _ _ _
 have hbV : Below B w V := by
  rw [← hV, ← hV6, ← hV5, ← hV4, ← hV3, ← hV2, ← hV1]
  exact (((((((Below.refl _ w).alloc (by omega) _).alloc (by simp; omega) _).alloc (by simp; omega) _).alloc (by simp; omega) _).alloc (by simp; omega) _).alloc (by simp; omega) _).alloc (by simp; omega) _
 rw [hB] at hlim1 hlim2
 simp only [hB, hV1, hV2, hV3, hV4, hV5, hV6, hV]
 have h3 : 3 ≤ n' := hn'
 clear hV1 hV2 hV3 hV4 hV5 hV6 hV hmk s1 s2 s3 s4 s5 s6
 refine wpIn_rangeFunc_ownH (F := Fence.wide) (n := n') rfl (by omega) (gf := 167) (lb := #[.pointer (some ⟨B + 1 + 1 + 1 + 1 + 1, 0, none⟩), .pointer (some ⟨B + 1 + 1 + 1 + 1 + 1 + 1, 0, none⟩)]) rfl trivial (enters_of Tryz.func167 (by kernel_rfl) rfl)
  (pairsQ_stops (n' - 1) (B + 1 + 1 + 1 + 1 + 1) B b1 b2 es fs cb1 cb2 (by omega) HEL2.out V (by omega) (by omega) d5.cell d6.cell (hlim1.below hbV) (hlim2.below hbV) hsh1 hsh2) KpS.trans (KpS.b (by omega) (by omega)) (Below.refl _ _) (fun _ => rfl)
  (fun (pre : List (Fin es.length)) X => ∃ v gs, Boxed X B 109 (.func (.func F) #[] cap) ∧ Boxed X (B + 1) 24 (.slice none 0 0) ∧ Boxed X (B + 1 + 1) 29 (.int .i64 0) ∧ Boxed X (B + 1 + 1 + 1 + 1) 24 v ∧ OwnE B 54 X v gs ∧
   AllE ((fun W v x => ResQ B W v x N) X) gs (pre.map (fun x => f (q1[x.val]?.getD ⟨false, [], []⟩).rat (q2[x.val]?.getD ⟨false, [], []⟩).rat)) ∧ (∀ x ∈ pre, ok (q1[x.val]?.getD ⟨false, [], []⟩).rat (q2[x.val]?.getD ⟨false, [], []⟩).rat = true) ∧ Below B w X ∧ B + 1 + 1 + 1 + 1 + 1 + 1 + 1 ≤ X.heap.size ∧ Boxed X (B + 1 + 1 + 1 + 1 + 1 + 1) 24 (.slice b2 fs.length cb2))
  (fun c pre X => c = .ret ∧ Row X (B + 1) 24 #[.slice none 0 0] ∧ Row X (B + 1 + 1) 29 #[.int .i64 17] ∧ (∃ x ∈ pre, ok (q1[x.val]?.getD ⟨false, [], []⟩).rat (q2[x.val]?.getD ⟨false, [], []⟩).rat = false) ∧ Below B w X)
  (fun pre X Y row ⟨v, gs, h0, h1, h2, h3, h4, h5, h6, h7, h8, h9⟩ hg hr => by
   have kk := KeepC.grown hg (fun r e => (hr r e).2)
   exact ⟨v, gs, Boxed.keepC h0 kk, Boxed.keepC h1 kk, Boxed.keepC h2 kk, Boxed.keepC h3 kk, h4.keepC kk, h5.imp (fun _ _ _ h => h.keepC kk), h6, h7.grown hg (by have := h7.size; omega) (fun k e => by have := (hr k e).1; omega), Nat.le_trans h8 hg.size, Boxed.keepC h9 kk⟩)
  (fun c pre X Y row ⟨h0, h1, h2, h3, h4⟩ hg hr => ⟨h0, h1.keepC (KeepC.grown hg (fun r e => (hr r e).2)), h2.keepC (KeepC.grown hg (fun r e => (hr r e).2)), h3, h4.grown hg (by have := h4.size; omega) (fun k e => by have := (hr k e).1; omega)⟩)
  ⟨_, [], d0, d1, d2, d4, d3, AllE.nil _, (fun x h => by cases h), hbV, by omega, d6⟩
  (fun (x : Fin es.length) a' X => ∃ p1 p2, B + 1 + 1 + 1 + 1 + 1 + 1 + 1 ≤ p1 ∧ B + 1 + 1 + 1 + 1 + 1 + 1 + 1 ≤ p2 ∧ Row X p1 54 #[(es[x.val]?.getD dfE).a, (es[x.val]?.getD dfE).b, (es[x.val]?.getD dfE).c] ∧ Row X p2 54 #[(fs[x.val]?.getD dfE).a, (fs[x.val]?.getD dfE).b, (fs[x.val]?.getD dfE).c] ∧
   a' = { tmps := #[.slice b1 es.length cb1, .slice b2 es.length cb2, .func (.func F) #[] cap, undef, undef, .pointer (some ⟨B, 0, none⟩), .pointer (some ⟨B + 1, 0, none⟩), .pointer (some ⟨B + 1 + 1, 0, none⟩), .pointer (some ⟨B + 1 + 1 + 1 + 1, 0, none⟩), .pointer (some ⟨p1, 0, none⟩), .pointer (some ⟨p2, 0, none⟩), undef, undef,
    .slice b1 es.length cb1, .int .i64 es.length, .slice (some ⟨B + 1 + 1 + 1, 0, none⟩) 0 es.length, .slice b1 es.length cb1, .slice b2 es.length cb2, .func (.func 167) #[] #[.pointer (some ⟨B + 1 + 1 + 1 + 1 + 1, 0, none⟩), .pointer (some ⟨B + 1 + 1 + 1 + 1 + 1 + 1, 0, none⟩)],
    .agg #[(es[x.val]?.getD dfE).a, (es[x.val]?.getD dfE).b, (es[x.val]?.getD dfE).c], .agg #[(fs[x.val]?.getD dfE).a, (fs[x.val]?.getD dfE).b, (fs[x.val]?.getD dfE).c],
    undef, undef, undef, undef, undef, undef, undef, undef, undef, undef, undef, undef, undef, undef, undef], defers := [] })
  (fun x a' _ X Y row ⟨p1, p2, g1, g2, h1, h2, h3⟩ hg hr => ⟨p1, p2, g1, g2, h1.keepC (KeepC.grown hg (fun r e => (hr r e).2)), h2.keepC (KeepC.grown hg (fun r e => (hr r e).2)), h3⟩)
  ?assign ?body ?done ?stop
 case assign =>
  rintro l pre ⟨k, hk⟩ X K ⟨v, gs, h0, h1, h2, h3, h4, h5, h6, h7, h8, h9⟩ hK
  obtain ⟨z1, z2, z3, z4, z5, z6, z7, he⟩ := hsh1 k hk
  obtain ⟨y1, y2, y3, y4, y5, y6, y7, hf⟩ := hsh2 k (by rw [HEL2.out]; exact hk)
  have hs7 := h7.size
  have hbX1 : Below X.heap.size X (X.alloc (.cells #[.bool z1, .slice z2 z3 z4, .slice z5 z6 z7] 54)) := (Below.refl _ _).alloc (Nat.le_refl _) _
  have hbX : Below X.heap.size X ((X.alloc (.cells #[.bool z1, .slice z2 z3 z4, .slice z5 z6 z7] 54)).alloc (.cells #[.bool y1, .slice y2 y3 y4, .slice y5 y6 y7] 54)) := hbX1.alloc (by simp) _
  have kk := KeepC.below hbX
  have HK := Lib.hid hK
  simp only [ratsAt]
  rw [he, hf]
  simp only
  clear hK
  gi_wp2
  refine HK.out _ _ (keepsFrom_below hbX) ⟨hbX.mono (by omega), hbX.block _ (by omega)⟩ ⟨v, gs, Boxed.keepC h0 kk, Boxed.keepC h1 kk, Boxed.keepC h2 kk, Boxed.keepC h3 kk, h4.keepC kk, h5.imp (fun _ _ _ h => h.keepC kk), h6, h7.trans (hbX.mono (by omega)), by simp; omega, Boxed.keepC h9 kk⟩ ⟨X.heap.size, X.heap.size + 1, h8, by omega, ?_, ?_, ?_⟩
  · simp only [he]; exact (Row.new _ _ _).alloc _
  · simp only [hf]
    have h := Row.new (X.alloc (.cells #[.bool z1, .slice z2 z3 z4, .slice z5 z6 z7] 54)) 54 #[.bool y1, .slice y2 y3 y4, .slice y5 y6 y7]
    simp only [World.size_alloc] at h
    exact h
  · simp only [he, hf]
 case body =>
  rintro l pre ⟨k, hk⟩ a' X hl hrec ⟨v, gs, h0, h1, h2, h3, h4, h5, h6, h7, h8, h9⟩ ⟨p1, p2, hp1, hp2, hR, hR', rfl⟩ hlt
  have hkf : k < fs.length := by rw [HEL2.out]; exact hk
  obtain ⟨z1, z2, z3, z4, z5, z6, z7, he⟩ := hsh1 k hk
  obtain ⟨y1, y2, y3, y4, y5, y6, y7, hf⟩ := hsh2 k hkf
  simp only at hR hR' ⊢
  rw [he] at hR ⊢
  rw [hf] at hR' ⊢
  simp only at hR hR' ⊢
  have hkq : k < q1.length := by rw [← HEL1.out]; exact hk
  have hkq2 : k < q2.length := by rw [HLEN.out]; exact hkq
  have hqk : q1[k]? = some q1[k] := List.getElem?_eq_getElem hkq
  have hqk2 : q2[k]? = some q2[k] := List.getElem?_eq_getElem hkq2
  obtain ⟨p, hpe⟩ : ∃ q, q1[k] = q := ⟨_, rfl⟩
  obtain ⟨q, hqe⟩ : ∃ q, q2[k] = q := ⟨_, rfl⟩
  rw [hpe] at hqk
  rw [hqe] at hqk2
  have hek : es[k]? = some es[k] := List.getElem?_eq_getElem hk
  have hfk : fs[k]? = some fs[k] := List.getElem?_eq_getElem hkf
  have hraw := HA1.out.2 k _ _ hek hqk
  have hraw2 := HA2.out.2 k _ _ hfk hqk2
  have e2 : es[k] = ⟨.bool z1, .slice z2 z3 z4, .slice z5 z6 z7⟩ := by rw [hek] at he; exact he
  have f2 : fs[k] = ⟨.bool y1, .slice y2 y3 y4, .slice y5 y6 y7⟩ := by rw [hfk] at hf; exact hf
  rw [e2] at hraw
  rw [f2] at hraw2
  have hmem := List.mem_of_getElem? hqk
  have hmem2 := List.mem_of_getElem? hqk2
  have hgd : q1[k]?.getD ⟨false, [], []⟩ = p := by rw [hqk]; rfl
  have hgd2 : q2[k]?.getD ⟨false, [], []⟩ = q := by rw [hqk2]; rfl
  obtain ⟨g0, g1, g2, _, _, _⟩ := hR.three
  obtain ⟨j0, j1, j2, _, _, _⟩ := hR'.three
  have c0 := Boxed.cell h0
  have hs7 := h7.size
  have hrX := hraw.later (hB.symm ▸ h7 : Below w.heap.size w X)
  have hrX2 := hraw2.later (hB.symm ▸ h7 : Below w.heap.size w X)
  have hcall := HDO.out X _ _ p q hmem hmem2 (hB.symm ▸ h7 : Below w.heap.size w X) hrX hrX2
  gi_wp2_with fail
  refine roundCall (hcall.mono ?_)
  rintro e w5 ⟨hop, hb5⟩
  have s5 := hb5.size
  have kk5 : KeepC X w5 := KeepC.below hb5
  have hB5 : Below B w w5 := h7.trans (hb5.mono (by omega))
  rcases hop with ⟨hok, rv, rfl, qv⟩ | ⟨hok, rfl⟩
  · have Q5 := Lib.hid qv
    obtain ⟨m5, f1, l1, i1, f2, l2, i2, rfl⟩ := qv.shape
    clear qv
    obtain ⟨r, hrv, hrb, hrne, hrc, hro⟩ := ownV_hits h4 (by omega)
    have n3 := hrne _ _ _ h3 (by decide)
    have n0 := hrne _ _ _ h0 (by decide)
    have n1 := hrne _ _ _ h1 (by decide)
    have n2 := hrne _ _ _ h2 (by decide)
    have n6 := hrne _ _ _ h9 (by decide)
    obtain ⟨av0, cv0, rfl⟩ := ownT_slice h4
    have hle : gs.length ≤ es.length := by rw [h5.1, List.length_map]; exact Nat.le_of_lt hlt
    have HLE := Lib.hid hle
    obtain ⟨x0, x1, x2, _, _, _⟩ := (Row.new w5 54 #[.bool m5, .slice f1 l1 i1, .slice f2 l2 i2]).three
    have c3 := Boxed.cell ((Boxed.keepC h3 kk5).alloc (.cells #[.bool m5, .slice f1 l1 i1, .slice f2 l2 i2] 54))
    have hown5 : OwnE B 54 w5 (.slice av0 gs.length cv0) gs := h4.keepC kk5
    have hall5 := h5.imp (Q := fun u x => (fun W v x => ResQ B W v x N) w5 u x) fun u x _ h => h.keepC kk5
    have b6 : Below w5.heap.size w5 (w5.alloc (.cells #[.bool m5, .slice f1 l1 i1, .slice f2 l2 i2] 54)) := (Below.refl _ _).alloc (Nat.le_refl _) _
    have HA5 := Lib.hid hall5
    have HA4 := Lib.hid h5
    clear hall5 h5
    have hcn := cell_three_new (w5.alloc (.cells #[.bool m5, .slice f1 l1 i1, .slice f2 l2 i2] 54)) (.bool m5) (.slice f1 l1 i1) (.slice f2 l2 i2) 54
    simp only [World.size_alloc] at hcn
    have HCN := Lib.hid hcn
    clear hcn
    gi_wp2_with (gi_at_builtin; refine wpListIn_append_own _ rfl _ _ 24 rfl B 54 i0 _ 3 56 Tryz.underlying24 hi hz0 hz1 hz2 rfl (by decide) _ gs.length (flat3 gs) rfl ((hown5.later b6).later ((Below.refl _ _).alloc (Nat.le_refl _) _)) ⟨w5.heap.size + 1, 0, none⟩ 1 1 [.bool m5, .slice f1 l1 i1, .slice f2 l2 i2] rfl rfl HCN.out (by simp [Value.oneCell']) (by unfold maxLen; omega) (by omega) (by simp; omega) ?_)
    intro v' w7 hown' hgrow _
    obtain ⟨av, cv, rfl⟩ := ownT_slice hown'
    have hk5 : Kept r X w5 := (Kept.refl r X).below hb5
    have hk7 : Kept r X w7 := ((hk5.alloc _).alloc _).grown hgrow hrv
    have R37 : Row w7 (B + 1 + 1 + 1 + 1) 24 #[.slice av0 gs.length cv0] := Row.kept h3 hk7 n3
    have f37 := R37.free 0
    have d37 := R37.cell 0
    have hx5 : ResQ B w5 (E3.agg ⟨.bool m5, .slice f1 l1 i1, .slice f2 l2 i2⟩) (f p.rat q.rat) N := Q5.out.mono (by omega)
    gi_wp2
    obtain ⟨hrow6, hb6⟩ := pushE (P := fun W v x => ResQ B W v x N) (e := ⟨.bool m5, .slice f1 l1 i1, .slice f2 l2 i2⟩) (base := B) (w := w) (hB5.alloc (by omega) (.cells #[.bool m5, .slice f1 l1 i1, .slice f2 l2 i2] 54)) (by simp; omega) (hown5.later b6) (HA5.out.imp fun u x _ h => h.later b6) (hx5.later b6) (fun u y h => h.apart (hown5.later b6) hgrow (by decide)) hown' hgrow
    obtain ⟨fs', ho', ha'⟩ := RowO.far (w' := w7.setCell ⟨B + 1 + 1 + 1 + 1, 0, none⟩ (.slice av (gs.length + 1) cv)) hrow6 R37 (by decide) (kept1 _) (fun u y h => h.far R37 (by decide) (kept1 _))
    have hk7s := hk7.size
    have hbk : Below B X w7 := ⟨hk7.os, hk7.tape, hk7.output, hk7.size, fun k hk => hk7.block k (by omega) (by omega)⟩
    have hsz := (Only.set w7 (B + 1 + 1 + 1 + 1) 0 (.slice av (gs.length + 1) cv)).size
    have hblk : (w7.setCell ⟨B + 1 + 1 + 1 + 1, 0, none⟩ (.slice av (gs.length + 1) cv)).heap[B + 1 + 1 + 1 + 1 + 1 + 1]? = X.heap[B + 1 + 1 + 1 + 1 + 1 + 1]? := (Below.heap_setCell w7 _ _ _ (by show B + 1 + 1 + 1 + 1 + 1 + 1 ≠ B + 1 + 1 + 1 + 1; omega)).trans (hk7.block _ (by omega) n6)
    refine ⟨keepsFrom_set (keepsFrom_kept hk7 hrc) _ _, ⟨hbk.setCell (by show B ≤ B + 1 + 1 + 1 + 1; omega) _, hblk⟩, _, fs', Row.far (p := ⟨B + 1 + 1 + 1 + 1, 0, none⟩) (Row.kept h0 hk7 n0) (by show B ≠ B + 1 + 1 + 1 + 1; omega) _, Row.far (p := ⟨B + 1 + 1 + 1 + 1, 0, none⟩) (Row.kept h1 hk7 n1) (by show B + 1 ≠ B + 1 + 1 + 1 + 1; omega) _, Row.far (p := ⟨B + 1 + 1 + 1 + 1, 0, none⟩) (Row.kept h2 hk7 n2) (by show B + 1 + 1 ≠ B + 1 + 1 + 1 + 1; omega) _,
     Boxed.set _ R37, ho', ?_, fun x hx => ?_, hb6.setCell (by show B ≤ B + 1 + 1 + 1 + 1; omega) _, by omega, Row.far (p := ⟨B + 1 + 1 + 1 + 1, 0, none⟩) (Row.kept h9 hk7 n6) (by show B + 1 + 1 + 1 + 1 + 1 + 1 ≠ B + 1 + 1 + 1 + 1; omega) _⟩
    · rw [List.map_append, List.map_cons, List.map_nil]
      simp only [hgd, hgd2]
      exact ha'
    · rcases List.mem_append.1 hx with hx | hx
      · exact h6 x hx
      · simp at hx
        subst hx
        simp only
        rw [hgd, hgd2]
        exact hok
  · have k1 := (Boxed.keepC h1 kk5).alloc (.cells #[.bool false, .slice none 0 0, .slice none 0 0] 54)
    have k2 := (Boxed.keepC h2 kk5).alloc (.cells #[.bool false, .slice none 0 0, .slice none 0 0] 54)
    have f1 := Row.free k1 0
    have d1 := Row.cell k1 0
    have k2' := Row.far k2 (p := ⟨B + 1, 0, none⟩) (by show B + 1 + 1 ≠ B + 1; omega) (.slice none 0 0)
    have f2 := Row.free k2' 0
    have d2 := Row.cell k2' 0
    have b6 : Below w5.heap.size w5 (w5.alloc (.cells #[.bool false, .slice none 0 0, .slice none 0 0] 54)) := (Below.refl _ _).alloc (Nat.le_refl _) _
    have b56 : Below X.heap.size X (w5.alloc (.cells #[.bool false, .slice none 0 0, .slice none 0 0] 54)) := hb5.trans (b6.mono s5)
    have g1 := (Row.set k1 0 (.slice none 0 0)).far (p := ⟨B + 1 + 1, 0, none⟩) (by show B + 1 ≠ B + 1 + 1; omega) (.int .i64 17)
    have g2 := Row.set k2' 0 (.int .i64 17)
    gi_wp2
    refine ⟨keepsFrom_set (keepsFrom_set (keepsFrom_below b56) _ _) _ _, rfl, g1, g2, ⟨_, List.mem_append_right _ (List.mem_singleton.2 rfl), ?_⟩, ((h7.trans (b56.mono (by omega))).setCell (by show B ≤ B + 1; omega) _).setCell (by show B ≤ B + 1 + 1; omega) _⟩
    show ok (q1[k]?.getD ⟨false, [], []⟩).rat (q2[k]?.getD ⟨false, [], []⟩).rat = false
    rw [hgd, hgd2]
    exact hok
 case done =>
  rintro D ys X hD hup ⟨v, gs, h0, h1, h2, h3, h4, h5, h6, h7, h8, h9⟩ hK
  have c3 := Boxed.cell h3
  have f1 := Row.free h1 0
  have d1 := Row.cell h1 0
  obtain ⟨av, cv, rfl⟩ := ownT_slice h4
  have h2' := Row.far h2 (p := ⟨B + 1, 0, none⟩) (by show B + 1 + 1 ≠ B + 1; omega) (.slice av gs.length cv)
  have f2 := Row.free h2' 0
  have d2 := Row.cell h2' 0
  have HOK := Lib.hid h6
  have HA24 := Lib.hid h5
  clear h5 h6
  gi_wp2
  have hrow : RowO B 54 (fun W v x => ResQ B W v x N) X (.slice av gs.length cv) (zipQ f q1 q2) := ⟨gs, h4, by
   have h := HA24.out
   rw [zip_upto (fun p q => f p.rat q.rat) HEL1.out.symm (by rw [HLEN.out]; exact HEL1.out.symm) hup] at h
   exact h⟩
  have hzip : zipOk ok q1 q2 = true := by
   unfold zipOk
   rw [← zip_upto (fun p q => ok p.rat q.rat) HEL1.out.symm (by rw [HLEN.out]; exact HEL1.out.symm) hup, List.all_map, List.all_eq_true]
   intro x hx
   exact HOK.out x hx
  have r1 := (Row.set h1 0 (.slice av gs.length cv)).far (p := ⟨B + 1 + 1, 0, none⟩) (by show B + 1 ≠ B + 1 + 1; omega) (.int .i64 0)
  have r2 := Row.set h2' 0 (.int .i64 0)
  have hrow1 := RowO.far (w' := X.setCell ⟨B + 1, 0, none⟩ (.slice av gs.length cv)) hrow h1 (by decide) (kept1 (.slice av gs.length cv)) (fun u y h => h.far h1 (by decide) (kept1 _))
  have hrow2 := RowO.far (w' := (X.setCell ⟨B + 1, 0, none⟩ (.slice av gs.length cv)).setCell ⟨B + 1 + 1, 0, none⟩ (.int .i64 0)) hrow1 h2' (by decide) (kept1 (.int .i64 0)) (fun u y h => h.far h2' (by decide) (kept1 _))
  have hK' := (KeepsOthers.setCell (X.setCell ⟨B + 1, 0, none⟩ (.slice av gs.length cv)) ⟨B + 1 + 1, 0, none⟩ (.int .i64 0)).same D _ ((KeepsOthers.setCell X ⟨B + 1, 0, none⟩ (.slice av gs.length cv)).same D _ hK rfl) rfl
  have hbE := (h7.setCell (p := ⟨B + 1, 0, none⟩) (by show B ≤ B + 1; omega) (.slice av gs.length cv)).setCell (p := ⟨B + 1 + 1, 0, none⟩) (by show B ≤ B + 1 + 1; omega) (.int .i64 0)
  have hsE := hbE.size
  generalize hY : (X.setCell ⟨B + 1, 0, none⟩ (.slice av gs.length cv)).setCell ⟨B + 1 + 1, 0, none⟩ (.int .i64 0) = Y at *
  refine ⟨by simp, .inl ⟨_, _, rfl, run_takeDeferred hK', ?_⟩⟩
  have kk : ∀ o', KeepC Y (Y.putObj D o') := fun o' => KeepC.grown (grownBy_putObj' Y D o') (fun r e => by cases e; exact ⟨_, hK', rfl⟩)
  have hc1 := cell_kept (Row.cell r1 0) (grownBy_putObj' _ D (.deferred none)) (fun r e => by cases e; exact ⟨_, hK', rfl⟩)
  have hc2 := cell_kept (Row.cell r2 0) (grownBy_putObj' _ D (.deferred none)) (fun r e => by cases e; exact ⟨_, hK', rfl⟩)
  simp at hc1 hc2
  obtain ⟨fs', ho', ha'⟩ := hrow2
  refine ⟨.tuple #[.slice av gs.length cv, .int .i64 0], by simp [results, Tryz.f115, go_sem, hc1, hc2], .inl ⟨hzip, _, rfl, fs', ho'.keepC (kk _), ha'.imp fun u x _ h => h.keepC (kk _)⟩, ?_⟩
  exact hbE.trans (belowK_b (n₀ := B) (w := w) (by omega) _ D _ _ (by omega) hK' rfl rfl)
 case stop =>
  rintro D c pre X hD ⟨k, hk, hup⟩ ⟨rfl, h1, h2, ⟨x, hx, hbad⟩, h4⟩ hK
  have hzip : zipOk ok q1 q2 = false := zipOk_bad (by rw [← HEL1.out]; exact x.isLt) HLEN.out hbad
  have hs4 := h4.size
  gi_wp2
  refine ⟨by simp, .inl ⟨_, _, rfl, run_takeDeferred hK, ?_⟩⟩
  have hc1 := cell_kept (Row.cell h1 0) (grownBy_putObj' _ D (.deferred none)) (fun r e => by cases e; exact ⟨_, hK, rfl⟩)
  have hc2 := cell_kept (Row.cell h2 0) (grownBy_putObj' _ D (.deferred none)) (fun r e => by cases e; exact ⟨_, hK, rfl⟩)
  simp at hc1 hc2
  refine ⟨.tuple #[.slice none 0 0, .int .i64 17], by simp [results, Tryz.f115, go_sem, hc1, hc2], .inr ⟨hzip, rfl⟩, ?_⟩
  rw [hB]
  exact h4.trans (belowK_b (n₀ := B) (w := w) (by omega) _ D _ _ (by omega) hK rfl rfl)
end
section
def elV (s : List Int) (L : List Rat) (xs : List Int) : Rat := if inS s xs then L.getD (placeS s xs).toNat 0 else 0
theorem elV_in {s xs : List Int} {L : List Rat} (h : inS s xs) : elV s L xs = L.getD (placeS s xs).toNat 0 := if_pos h
end
section
theorem fit_at {f t : List Int} (h : fitC f t = 0) {i : Nat} (hi : i < f.length) : f.getD i 0 = 1 ∨ f.getD i 0 = t.getD (t.length - f.length + i) 0 := by
 have hl := fit_len h
 have h3 := ((fitC_is h).2.2 (f.length - i) (by omega) (by omega)).2
 unfold backS at h3
 rw [if_neg (by omega), if_neg (by omega), show f.length - (f.length - i) = i by omega, show t.length - (f.length - i) = t.length - f.length + i by omega] at h3
 exact h3
theorem bcI_self {s xs : List Int} (h : inS s xs) : bcI s 0 xs = xs := by
 refine list_eq_getD (by rw [bcI_len, inS_length h]) fun i hi => ?_
 rw [bcI_len] at hi
 have h3 := inS_at h hi
 rw [bcI_at _ _ _ hi, Nat.zero_add, Int.emod_eq_of_lt h3.1 h3.2]
end
section
open Go.RowKit
theorem ResS.arg2 {B : Nat} {w : World} {u : Value} {xs : List Int} (h : ResS B w u xs) : ∃ ad cap, ArgS w u xs ad cap ∧ (ad = none → cap = 0) := by
 obtain ⟨ad, cap, rfl, _, A, hn⟩ := h.slice
 exact ⟨ad, cap, A, hn⟩
end
section
theorem sumK_zero {f : Nat → Rat} {n : Nat} (h : ∀ k, k < n → f k = 0) : sumK f n = 0 := by
 induction n with
 | zero => rfl
 | succ n ih => simp only [sumK]; rw [ih fun k hk => h k (by omega), h n (by omega)]; grind
theorem sumK_one {f : Nat → Rat} {n i : Nat} (hi : i < n) (h : ∀ k, k < n → k ≠ i → f k = 0) : sumK f n = f i := by
 induction n with
 | zero => omega
 | succ n ih =>
  simp only [sumK]
  by_cases e : i = n
  · subst e; rw [sumK_zero fun k hk => h k (by omega) (by omega)]; grind
  · rw [ih (by omega) fun k hk hn => h k (by omega) hn, h n (by omega) (by omega)]; grind
theorem ratL_eq {a b : List Rat} (hl : a.length = b.length) (h : ∀ i, i < a.length → a.getD i 0 = b.getD i 0) : a = b := by
 apply List.ext_getElem hl
 intro i g1 g2
 have := h i g1
 simpa [List.getD_eq_getElem?_getD, g1, g2] using this
theorem dropL_len (s xs axes : List Int) (j : Nat) : (dropL xs axes j).length = (dropL s axes j).length := by
 induction j with
 | zero => rfl
 | succ j ih => simp only [dropL, List.length_append, ih]; split <;> rfl
theorem place_snoc10 {s xs : List Int} (h : s.length = xs.length) (d x : Int) : placeS (s ++ [d]) (xs ++ [x]) = placeS s xs * d + x := by
 induction s generalizing xs with
 | nil =>
  cases xs with
  | nil => simp [placeS, prodS]
  | cons => simp at h
 | cons a s ih => cases xs with
  | nil => simp at h
  | cons y xs =>
   simp only [List.cons_append, placeS]
   rw [ih (by simpa using h), prodS_append]
   simp only [prodS, Int.mul_one]
   rw [Int.add_mul, Int.mul_assoc, Int.add_assoc]
theorem place_grown {f t xs : List Int} (h : fitC f t = 0) (hx : inS t xs) : placeS (dropS t (grownS f t)) (dropS xs (grownS f t)) = placeS f (bcI f (t.length - f.length) xs) ∧ (dropS t (grownS f t)).length ≤ f.length := by
 have hl := fit_len h
 obtain ⟨okf, okt, _⟩ := fitC_is h
 have hxl := inS_length hx
 have hg : ∀ j : Nat, (j : Int) ∈ grownS f t ↔ j < t.length ∧ backS f (t.length - j) ≠ backS t (t.length - j) := fun j => by
  rw [show grownS f t = grownL f t t.length from if_pos h]
  have key : ∀ n : Nat, (j : Int) ∈ grownL f t n ↔ j < n ∧ backS f (t.length - j) ≠ backS t (t.length - j) := fun n => by
   induction n with
   | zero => simp [grownL]
   | succ n ih =>
    simp only [grownL, List.mem_append, ih]
    by_cases e : backS f (t.length - n) = backS t (t.length - n)
    · rw [if_pos e]
      constructor
      · rintro (⟨h1, h2⟩ | h1)
        · exact ⟨by omega, h2⟩
        · cases h1
      · rintro ⟨h1, h2⟩
        exact .inl ⟨by have : j ≠ n := fun e2 => h2 (e2 ▸ e); omega, h2⟩
    · rw [if_neg e]
      constructor
      · rintro (⟨h1, h2⟩ | h1)
        · exact ⟨by omega, h2⟩
        · have e2 : j = n := by have := List.mem_singleton.1 h1; omega
          subst e2
          exact ⟨by omega, e⟩
      · rintro ⟨h1, h2⟩
        by_cases e2 : j = n
        · subst e2; exact .inr (by simp)
        · exact .inl ⟨by omega, h2⟩
  exact key t.length
 obtain ⟨G, hG⟩ : ∃ G, grownS f t = G := ⟨_, rfl⟩
 rw [hG] at hg ⊢
 obtain ⟨k, hk⟩ : ∃ k, t.length - f.length = k := ⟨_, rfl⟩
 have key : ∀ j, j ≤ t.length → placeS (dropL t G j) (dropL xs G j) = placeS (f.take (j - k)) ((bcI f k xs).take (j - k)) ∧ (dropL t G j).length ≤ j - k := fun j => by
  induction j with
  | zero => intro _; simp [dropL, placeS]
  | succ j ih =>
   intro hj
   obtain ⟨h1, h2⟩ := ih (by omega)
   have htj := okt.pos.getD (i := j) (by omega)
   have hxj := inS_at hx (i := j) (by omega)
   have ebt : backS t (t.length - j) = t.getD j 0 := by unfold backS; rw [if_neg (by omega), show t.length - (t.length - j) = j by omega]
   simp only [dropL]
   by_cases hjk : j < k
   · have ebf : backS f (t.length - j) = 0 := by unfold backS; rw [if_pos (by omega)]
     rw [if_pos ((hg j).2 ⟨by omega, by rw [ebf, ebt]; omega⟩), if_pos ((hg j).2 ⟨by omega, by rw [ebf, ebt]; omega⟩), List.append_nil, List.append_nil, h1, show j - k = 0 by omega, show j + 1 - k = 0 by omega]
     exact ⟨by simp [placeS], by omega⟩
   · obtain ⟨i, hi⟩ : ∃ i, j - k = i := ⟨_, rfl⟩
     have hif : i < f.length := by omega
     have ebf : backS f (t.length - j) = f.getD i 0 := by unfold backS; rw [if_neg (by omega), show f.length - (t.length - j) = i by omega]
     have hbl : (bcI f k xs).length = f.length := bcI_len f k xs
     have hfit := fit_at h hif
     rw [hk, show k + i = j by omega] at hfit
     have tk : ∀ l : List Int, l.length = f.length → l.take (i + 1) = l.take i ++ [l.getD i 0] := fun l hll => by
      rw [List.take_add_one, List.getElem?_eq_getElem (show i < l.length by omega), List.getD_eq_getElem?_getD, List.getElem?_eq_getElem (show i < l.length by omega)]; rfl
     rw [show j + 1 - k = i + 1 by omega, tk f rfl, tk _ hbl, place_snoc10 (by rw [List.length_take, List.length_take, hbl])]
     rw [hi] at h1 h2
     have hb := bcI_at f k xs hif
     rw [show k + i = j by omega] at hb
     by_cases e : f.getD i 0 = t.getD j 0
     · have hn : ¬ (j : Int) ∈ G := fun hm => ((hg j).1 hm).2 (by rw [ebf, ebt, e])
       rw [if_neg hn, if_neg hn, place_snoc10 (dropL_len xs t G j), h1, hb, e, Int.emod_eq_of_lt hxj.1 hxj.2]
       exact ⟨rfl, by simp; omega⟩
     · have hm : (j : Int) ∈ G := (hg j).2 ⟨by omega, by rw [ebf, ebt]; exact e⟩
       have e1 := hfit.resolve_right e
       rw [if_pos hm, if_pos hm, List.append_nil, List.append_nil, h1, hb, e1, Int.emod_one, Int.mul_one, Int.add_zero]
       exact ⟨rfl, by omega⟩
 obtain ⟨h1, h2⟩ := key t.length (Nat.le_refl _)
 rw [show t.length - k = f.length by omega, List.take_length] at h1
 rw [show (bcI f k xs).take f.length = bcI f k xs from by rw [← bcI_len f k xs, List.take_length]] at h1
 unfold dropS
 rw [hxl, hk]
 exact ⟨h1, by omega⟩
theorem mmF_len (a b c : Nat) (X Y : List Rat) : (mmF a b c X Y).length = a * c := by simp [mmF]
theorem mmF_get (a b c : Nat) (X Y : List Rat) {n : Nat} (h : n < a * c) : (mmF a b c X Y).getD n 0 = sumK (fun k => X.getD (b * (n / c) + k) 0 * Y.getD (c * k + n % c) 0) b := by
 unfold mmF
 rw [List.getD_eq_getElem?_getD, List.getElem?_map, List.getElem?_range h]; rfl
theorem mat_lt {a c i j : Nat} (hi : i < a) (hj : j < c) : c * i + j < a * c := by
 have h : c * (i + 1) ≤ c * a := Nat.mul_le_mul_left c hi
 rw [Nat.mul_succ, Nat.mul_comm c a] at h
 omega
theorem mmF_at (a b c : Nat) (X Y : List Rat) {i j : Nat} (hi : i < a) (hj : j < c) : (mmF a b c X Y).getD (c * i + j) 0 = sumK (fun k => X.getD (b * i + k) 0 * Y.getD (c * k + j) 0) b := by
 rw [mmF_get a b c X Y (mat_lt hi hj), (mat_div hj).1, (mat_div hj).2]
theorem mat_split {a c n : Nat} (h : n < a * c) : ∃ i j, i < a ∧ j < c ∧ n = c * i + j := by
 have hc : 0 < c := by
  rcases Nat.eq_zero_or_pos c with e | e
  · subst e; simp at h
  · exact e
 refine ⟨n / c, n % c, ?_, Nat.mod_lt _ hc, (Nat.div_add_mod n c).symm⟩
 exact Nat.div_lt_of_lt_mul (by rw [Nat.mul_comm]; exact h)
theorem mat_ext {a c : Nat} {A B : List Rat} (hA : A.length = a * c) (hB : B.length = a * c) (h : ∀ i j, i < a → j < c → A.getD (c * i + j) 0 = B.getD (c * i + j) 0) : A = B := by
 refine ratL_eq (by rw [hA, hB]) fun n hn => ?_
 rw [hA] at hn
 obtain ⟨i, j, hi, hj, rfl⟩ := mat_split hn
 exact h i j hi hj
theorem zipAdd_at {A B : List Rat} (h : B.length = A.length) (n : Nat) : (List.zipWith (fun x y => x + y) A B).getD n 0 = A.getD n 0 + B.getD n 0 := by
 by_cases hn : n < A.length
 · have h2 : n < B.length := by omega
   rw [List.getD_eq_getElem?_getD, List.getD_eq_getElem?_getD, List.getD_eq_getElem?_getD, List.getElem?_zipWith, List.getElem?_eq_getElem hn, List.getElem?_eq_getElem h2]
   rfl
 · have h2 : ¬ n < B.length := by omega
   have h3 : ¬ n < (List.zipWith (fun x y => x + y) A B).length := by rw [List.length_zipWith]; omega
   simp only [List.getD_eq_getElem?_getD]
   rw [List.getElem?_eq_none (by omega), List.getElem?_eq_none (by omega), List.getElem?_eq_none (by omega)]
   simp only [Option.getD_none]
   grind
def oneF (b : Nat) : List Rat := (List.range (b * b)).map fun n => if n / b = n % b then 1 else 0
theorem oneF_at {b i j : Nat} (hi : i < b) (hj : j < b) : (oneF b).getD (b * i + j) 0 = if i = j then 1 else 0 := by
 unfold oneF
 rw [List.getD_eq_getElem?_getD, List.getElem?_map, List.getElem?_range (mat_lt hi hj)]
 simp only [Option.map_some, Option.getD_some, (mat_div hj).1, (mat_div hj).2]
theorem mmF_one {a b : Nat} {X : List Rat} (h : X.length = a * b) : mmF a b b X (oneF b) = X := by
 refine mat_ext (mmF_len ..) h fun i j hi hj => ?_
 rw [mmF_at _ _ _ _ _ hi hj, sumK_one (i := j) hj fun k hk hne => by rw [oneF_at hk hj, if_neg hne]; grind]
 rw [oneF_at hj hj, if_pos rfl]
 grind
def plusF (t f : List Int) (X Z : List Rat) : List Rat := (List.range (cntF t)).map fun n => X.getD n 0 + elV f Z (bcI f (t.length - f.length) (idxS t (n : Int)))
theorem plusF_len (t f : List Int) (X Z : List Rat) : (plusF t f X Z).length = cntF t := by simp [plusF]
theorem plusF_self {t : List Int} {X Z : List Rat} (ok : OkS t) (hX : X.length = cntF t) (hZ : Z.length = cntF t) : plusF t t X Z = List.zipWith (fun x y => x + y) X Z := by
 have hc := ok.cnt
 refine ratL_eq (by rw [plusF_len, List.length_zipWith]; omega) fun n hn => ?_
 rw [plusF_len] at hn
 rw [zipAdd_at (by omega)]
 unfold plusF
 rw [List.getD_eq_getElem?_getD, List.getElem?_map, List.getElem?_range hn]
 simp only [Option.map_some, Option.getD_some]
 have hi := place_idx ok.pos (n := (n : Int)) (by omega) (by omega)
 rw [Nat.sub_self, bcI_self hi.1, elV_in hi.1, hi.2]
 rfl
theorem plusF_zero {t : List Int} {X : List Rat} (ok : OkS t) (hX : X.length = cntF t) : plusF t [] X [0] = X := by
 refine ratL_eq (by rw [plusF_len, hX]) fun n hn => ?_
 rw [plusF_len] at hn
 unfold plusF
 rw [List.getD_eq_getElem?_getD, List.getElem?_map, List.getElem?_range hn]
 simp only [Option.map_some, Option.getD_some]
 have e : elV [] [0] (bcI [] (t.length - ([] : List Int).length) (idxS t (n : Int))) = 0 := by
  unfold elV
  split
  · rfl
  · rfl
 rw [e]
 grind
end
section
open Go.RowKit Go.Shelf
attribute [local go_sem] Oper.semAt_some
theorem grownS_le (f t : List Int) : (grownS f t).length ≤ t.length := by
 have key : ∀ j, (grownL f t j).length ≤ j := fun j => by
  induction j with
  | zero => simp [grownL]
  | succ j ih => simp only [grownL, List.length_append]; split <;> simp <;> omega
 unfold grownS
 split
 · exact key _
 · simp
theorem bcI_in10 {s : List Int} (hp : posS s) (k : Nat) (xs : List Int) : inS s (bcI s k xs) := by
 refine inS_of (bcI_len _ _ _) fun i hi => ?_
 rw [bcI_at s k xs hi]
 have := hp.getD hi
 exact ⟨Int.emod_nonneg _ (by omega), Int.emod_lt_of_pos _ (by omega)⟩
def plusL (t f : List Int) (X Z : List Rat) (k : Nat) : List Rat := (List.range k).map fun n => X.getD n 0 + elV f Z (bcI f (t.length - f.length) (idxS t (n : Int)))
theorem plus_at {t f : List Int} {Z : List Rat} (ok : OkS t) (hf : fitC f t = 0) (hZ : Z.length = cntF f) {n : Nat} (hn : n < cntF t) : toF t (grownS f t) n < Z.length ∧ elV f Z (bcI f (t.length - f.length) (idxS t (n : Int))) = Z.getD (toF t (grownS f t) n) 0 := by
 obtain ⟨okf, _, _⟩ := fitC_is hf
 have hc := ok.cnt
 have hcf := okf.cnt
 have hi := place_idx ok.pos (n := (n : Int)) (by omega) (by omega)
 have hin := bcI_in10 okf.pos (t.length - f.length) (idxS t (n : Int))
 have hp := (place_grown hf hi.1).1
 have hlt := place_range hin
 have e : toF t (grownS f t) n = (placeS f (bcI f (t.length - f.length) (idxS t (n : Int)))).toNat := by unfold toF; rw [hp]
 refine ⟨by rw [e, hZ]; omega, by rw [elV_in hin, e]⟩
theorem plusQ_any {n : Nat} {w : World} {t f : List Int} {X Z : List Rat} {a1 b1 a2 b2 : Option Addr} {ca1 cb1 ca2 cb2 : Nat} (A1 : ArgS w (.slice a1 t.length ca1) t a1 ca1) (na1 : a1 = none → ca1 = 0) (E1 : RowA (fun W v x => ArgQ W v x n) w (.slice b1 X.length cb1) X b1 cb1)
 (A2 : ArgS w (.slice a2 f.length ca2) f a2 ca2) (na2 : a2 = none → ca2 = 0) (E2 : RowA (fun W v x => ArgQ W v x n) w (.slice b2 Z.length cb2) Z b2 cb2) (ok : OkS t) (hX : X.length = cntF t) (hZ : Z.length = cntF f) (hf : fitC f t = 0) (hn : n ≤ 16777000) :
 Calls Tryz.prog 60 #[.agg #[.slice a1 t.length ca1, .slice b1 X.length cb1], .agg #[.slice a2 f.length ca2, .slice b2 Z.length cb2]] w fun e w' => ∃ r, e = .returned r ∧ ResT w.heap.size w' r t (plusF t f X Z) (2 * n + 10) ∧ Below w.heap.size w w' := by
 obtain ⟨i0, hi, hz0, hz1, hz2⟩ := info_parts infoQ
 obtain ⟨okf, _, _⟩ := fitC_is hf
 have hct := ok.cnt
 have hcf := okf.cnt
 have hrk := ok.rank
 have hrf := okf.rank
 have hval := fun (n : Nat) (h : n < cntF t) => plus_at (Z := Z) ok hf hZ h
 have hyl := grownS_le f t
 have hgr := fun (X : World) (h : Below w.heap.size w X) => grownC_any (A2.later h) (A1.later h) na2 na1 (by omega) (by omega)
 have hclo := fun (X : World) (h : Below w.heap.size w X) => cloneS_any (A1.later h) na1 (by omega)
 obtain ⟨ys, hys⟩ : ∃ ys, grownS f t = ys := ⟨_, rfl⟩
 rw [hys] at hval hyl
 simp only [hys] at hgr
 obtain ⟨W, hW⟩ : ∃ W, (((w.alloc (.cells #[.slice a1 t.length ca1, .slice b1 X.length cb1] 26)).alloc (.cells #[.slice a2 f.length ca2, .slice b2 Z.length cb2] 26)).alloc (.cells #[.slice none 0 0, .slice none 0 0] 26)) = W := ⟨_, rfl⟩
 have R0 : Row W (w.heap.size) 26 #[.slice a1 t.length ca1, .slice b1 X.length cb1] := by rw [← hW]; have h := Row.new w 26 #[.slice a1 t.length ca1, .slice b1 X.length cb1]; (try simp only [World.size_alloc] at h); exact ((h.alloc _).alloc _)
 have R1 : Row W (w.heap.size + 1) 26 #[.slice a2 f.length ca2, .slice b2 Z.length cb2] := by rw [← hW]; have h := Row.new (w.alloc (.cells #[.slice a1 t.length ca1, .slice b1 X.length cb1] 26)) 26 #[.slice a2 f.length ca2, .slice b2 Z.length cb2]; (try simp only [World.size_alloc] at h); exact (h.alloc _)
 have R2 : Row W (w.heap.size + 1 + 1) 26 #[.slice none 0 0, .slice none 0 0] := by rw [← hW]; have h := Row.new ((w.alloc (.cells #[.slice a1 t.length ca1, .slice b1 X.length cb1] 26)).alloc (.cells #[.slice a2 f.length ca2, .slice b2 Z.length cb2] 26)) 26 #[.slice none 0 0, .slice none 0 0]; (try simp only [World.size_alloc] at h); exact h
 have hBW : Below w.heap.size w W := by rw [← hW]; exact ((((Below.refl _ _).alloc (by (try simp) <;> omega) _).alloc (by (try simp) <;> omega) _).alloc (by (try simp) <;> omega) _)
 have hsW : W.heap.size = w.heap.size + 1 + 1 + 1 := by rw [← hW]; simp
 obtain ⟨m, hm⟩ : ∃ m, X.length = m := ⟨_, rfl⟩
 obtain ⟨zl, hzl⟩ : ∃ m, Z.length = m := ⟨_, rfl⟩
 have hmk := make_rowP m (by omega)
 have HE1 := Lib.hid E1
 have HE2 := Lib.hid E2
 have HA1 := Lib.hid A1
 have HGR := Lib.hid hgr
 have HCL := Lib.hid hclo
 have HVAL := Lib.hid hval
 have HOK := Lib.hid ok
 have HM := Lib.hid hm
 have HZL := Lib.hid hzl
 have HCT := Lib.hid hct
 have HX := Lib.hid hX
 have hm4 : m ≤ 1024 := by omega
 have hz4 : zl ≤ 1024 := by omega
 rw [hm] at hW R0 ⊢
 rw [hzl] at hW R1 ⊢
 obtain ⟨p0, p1, _, _⟩ := R0.two
 obtain ⟨p2, p3, _, _⟩ := R1.two
 have mkS : ∀ Y, Below W.heap.size W Y → Y.cell? ⟨w.heap.size, 0, none⟩ = some (.slice a1 t.length ca1) ∧ Y.cell? ⟨w.heap.size + 1, 0, none⟩ = some (.slice a2 f.length ca2) ∧ Below W.heap.size W Y := fun Y h => ⟨(h.cell (World.block_lt_of_cell? _ _ p0)).trans p0, (h.cell (World.block_lt_of_cell? _ _ p2)).trans p2, h⟩
 have B0 : Below W.heap.size W W.drew := (Below.refl _ W).drew
 have HR0 := Lib.hid R0
 have HR1 := Lib.hid R1
 have HR2 := Lib.hid R2
 clear E1 E2 A1 A2 hgr hclo hval hm hzl hct hcf hX hZ hf ok okf R0 R1 R2 hys
 go_enter Tryz.func60, Tryz.ntmps60
 (try rw [hW])
 go_wp2_with fail
 (try rw [hW])
 clear hW
 refine wp_region_held_drew (S := fun Y => Y.cell? ⟨w.heap.size, 0, none⟩ = some (.slice a1 t.length ca1) ∧ Y.cell? ⟨w.heap.size + 1, 0, none⟩ = some (.slice a2 f.length ca2) ∧ Below W.heap.size W Y) (by kernel_rfl) (mkS _ B0) (fun hHeld => ?_)
 obtain ⟨y0, hdr⟩ : ∃ Y, W.drew = Y := ⟨_, rfl⟩
 rw [hdr] at B0 hHeld ⊢
 clear hdr
 refine todo [0, 1, 2, 3, 4, 5] ?_
 iterate 6
  refine todoH (v := ?_) rfl (by kernel_rfl) (fun _ _ _ h => h) (by assumption) (Or.inl ⟨by rfl, ?_⟩) ?_
  rotate_left
  · intro w hSw; (try dsimp only at hSw); go_simp; (try with_reducible rfl)
  try simp only [Act.put, nA, nB, nC, nD, nE, nF]
 refine todone ?_
 refine wpAnyH_ready (rs := [6]) (by kernel_rfl) (by simp) ?_
 refine AllReadyH.cons rfl (fun K hK => ?sg_6) AllReadyH.nil
 go_simp
 refine (HGR.out _ (hBW.trans (B0.mono hBW.size))).mono ?_
 rintro e y1 ⟨rg, rfl, RG, hy⟩
 have B1 : Below W.heap.size W y1 := B0.trans (hy.mono B0.size)
 have Dg1 := hy
 clear hy
 obtain ⟨dg, cg, AG, ng⟩ := RG.arg2
 obtain rfl := AG.is
 clear RG
 go_simp
 refine hK.out _ _ (mkS _ B1) (fun hHeld2 => ?mg_6)
 clear hK K hHeld
 have hHeld := hHeld2
 clear hHeld2
 try simp only [Act.put, nA, nB, nC, nD, nE, nF]
 refine wpAnyH_ready (rs := [7]) (by kernel_rfl) (by simp) ?_
 refine AllReadyH.cons rfl (fun K hK => ?sg_7) AllReadyH.nil
 go_simp
 refine (position_any (HA1.out.later (hBW.trans (B1.mono hBW.size))) na1 AG ng (by omega) (by omega)).mono ?_
 rintro e y2 ⟨g1, g2, g3, d, cd, rfl, PC, hy⟩
 have B2 : Below W.heap.size W y2 := B1.trans (hy.mono B1.size)
 have Dg2 := hy
 clear hy
 go_simp
 refine hK.out _ _ (mkS _ B2) (fun hHeld2 => ?mg_7)
 clear hK K hHeld
 have hHeld := hHeld2
 clear hHeld2
 try simp only [Act.put, nA, nB, nC, nD, nE, nF]
 refine todo [8] ?_
 iterate 1
  refine todoH (v := ?_) rfl (by kernel_rfl) (fun _ _ _ h => h) (by assumption) (Or.inl ⟨by rfl, ?_⟩) ?_
  rotate_left
  · intro w hSw; (try dsimp only at hSw); go_simp; (try with_reducible rfl)
  try simp only [Act.put, nA, nB, nC, nD, nE, nF]
 refine todone ?_
 refine wpAnyH_done (by kernel_rfl) ?_ _
 (try dsimp only [Straight])
 have bw2 : Below w.heap.size w y2 := hBW.trans (B2.mono hBW.size)
 have sw2 := bw2.size
 have s1y := B1.size
 have AG2 := AG.later Dg2
 have hPC : PosC w.heap.size y2 t ys a1 dg d ca1 cg cd g1 g2 g3 := ⟨PC.r1, PC.r2, PC.r3, PC.res.mono (by omega), by have := PC.l1; omega, by have := PC.l2; omega, by have := PC.l3; omega⟩
 have HPC := Lib.hid hPC
 have HAG := Lib.hid AG2
 have q0 := HR0.out.later B2
 have q1 := HR1.out.later B2
 have q2 := HR2.out.later B2
 have HQ0 := Lib.hid q0
 have HQ1 := Lib.hid q1
 have HQ2 := Lib.hid q2
 obtain ⟨x0, x1, _, _⟩ := q0.two
 obtain ⟨V, hV⟩ : ∃ V, y2.alloc (.cells (madeCells #[.bool false, .slice none 0 0, .slice none 0 0] (m * 3)) 54) = V := ⟨_, rfl⟩
 have hown0 : OwnE y2.heap.size 54 V (.slice (some ⟨y2.heap.size, 0, none⟩) 0 m) [] := by
  rw [← hV]
  exact World.ownsRow_made y2 _ m (Nat.le_refl _) (by unfold maxLen; omega) (madeP_len _ _)
 have bV : Below y2.heap.size y2 V := by rw [← hV]; exact (Below.refl _ _).alloc (Nat.le_refl _) _
 have HO0 := Lib.hid hown0
 have HBV := Lib.hid bV
 have v0 := q0.later bV
 obtain ⟨x2, x3, _, _⟩ := v0.two
 clear hPC AG AG2 PC q0 q1 q2 hown0 bV mkS p0 p1 p2 p3 v0
 go_wp2_with fail
 (try rw [hV])
 clear hV hmk
 go_loopw [6, 24] (fun v i wr => ∃ (k : Nat), i = .int .i64 (k : Int) ∧ k ≤ m ∧ RowO y2.heap.size 54 (fun W v x => ResQ y2.heap.size W v x (2 * n + 10)) wr v (plusL t f X Z k) ∧ Below y2.heap.size y2 wr) (fun _ i _ => m - (intOf i).toNat)
 case atStart => exact ⟨0, rfl, Nat.zero_le _, ⟨[], HO0.out, AllE.nil _⟩, HBV.out⟩
 case round =>
  obtain ⟨k, rfl, hk, ⟨es, hown, hall⟩, hb⟩ := hrel
  obtain ⟨av, cv, rfl⟩ := ownT_slice hown
  have hsz := hb.size
  have hle : es.length = k := by rw [hall.1]; simp [plusL]
  subst hle
  have hwb : Below w.heap.size w wr := bw2.trans (hb.mono sw2)
  by_cases hlt : es.length < m
  · obtain ⟨hjz, hjv⟩ := HVAL.out es.length (by rw [← HX.out, HM.out]; exact hlt)
    obtain ⟨j, hj⟩ : ∃ j, toF t ys es.length = j := ⟨_, rfl⟩
    rw [hj] at hjz hjv
    obtain ⟨b1, o1, x0, x1, x2, q1, hbo1, hqk1, f0, f1, f2, hr1⟩ := (HE1.out.later hwb (fun _ _ _ h => h.later hwb)).at (i := es.length) (by rw [HM.out]; exact hlt)
    obtain ⟨b2, o2, y0', y1', y2', q2, hbo2, hqk2, g0, g1', g2', hr2⟩ := (HE2.out.later hwb (fun _ _ _ h => h.later hwb)).at (i := j) hjz
    obtain ⟨b2', o2', _, _, _, _, hbo2', _, g0', _, _, _⟩ := HE2.out.at (i := j) hjz
    rw [hbo2] at hbo2'
    obtain ⟨rfl, rfl⟩ : b2 = b2' ∧ o2 = o2' := by simpa using hbo2'
    have lt2 : b2 < w.heap.size := World.block_lt_of_cell? _ _ g0'
    subst hbo1
    subst hbo2
    obtain ⟨m1, u1, l1, j1, u2, l2, j2, e1⟩ := hr1.shape
    simp only [Value.agg.injEq, Array.mk.injEq, List.cons.injEq, and_true] at e1
    obtain ⟨rfl, rfl, rfl⟩ := e1
    obtain ⟨m2, u3, l3, j3, u4, l4, j4, e2⟩ := hr2.shape
    simp only [Value.agg.injEq, Array.mk.injEq, List.cons.injEq, and_true] at e2
    obtain ⟨rfl, rfl, rfl⟩ := e2
    have hval : plusL t f X Z (es.length + 1) = plusL t f X Z es.length ++ [q1 + q2] := by
     unfold plusL
     rw [List.range_succ, List.map_append, List.map_cons, List.map_nil, hjv, List.getD_eq_getElem?_getD, List.getD_eq_getElem?_getD (l := Z), hqk1, hqk2]
     rfl
    have HVL := Lib.hid hval
    have HR1' := Lib.hid hr1
    have HR2' := Lib.hid hr2
    obtain ⟨X1, hX1⟩ : ∃ X, wr.alloc (.cells #[.bool m1, .slice u1 l1 j1, .slice u2 l2 j2] 54) = X := ⟨_, rfl⟩
    have RX : Row X1 wr.heap.size 54 #[.bool m1, .slice u1 l1 j1, .slice u2 l2 j2] := by rw [← hX1]; exact Row.new _ _ _
    have bX : Below wr.heap.size wr X1 := by rw [← hX1]; exact (Below.refl _ _).alloc (Nat.le_refl _) _
    have b2X : Below y2.heap.size y2 X1 := hb.trans (bX.mono hsz)
    have bwX : Below w.heap.size w X1 := hwb.trans (bX.mono hwb.size)
    have hownX := hown.later bX
    have sX := b2X.size
    have sXw := bwX.size
    obtain ⟨r, hrv, hrb, hrne, hrA⟩ := hownX.hits10 sX
    have np := hrA wr.heap.size RX.lt (fun e => by have := (hown.lt _ e).2; omega)
    have n2 : b2 ≠ r := by omega
    have R1X := HQ1.out.later b2X
    have nY : w.heap.size + 1 ≠ r := hrne _ _ _ R1X (by decide)
    obtain ⟨_, c1, _, _⟩ := R1X.two
    obtain ⟨d0, d1, d2, _, _, _⟩ := RX.three
    have h0 := (bX.cell (World.block_lt_of_cell? _ _ g0)).trans g0
    have h1 := (bX.cell (World.block_lt_of_cell? _ _ g1')).trans g1'
    have h2 := (bX.cell (World.block_lt_of_cell? _ _ g2')).trans g2'
    have mkS : ∀ Y, Kept r X1 Y → Y.cell? ⟨w.heap.size + 1, 1, none⟩ = some (.slice (some ⟨b2, o2, none⟩) zl cb2) ∧ (Y.cell? ⟨wr.heap.size, 0, none⟩ = some (.bool m1) ∧ Y.cell? ⟨wr.heap.size, 1, none⟩ = some (.slice u1 l1 j1) ∧ Y.cell? ⟨wr.heap.size, 2, none⟩ = some (.slice u2 l2 j2)) ∧ (Y.cell? ⟨b2, o2 + j * 3, none⟩ = some (.bool m2) ∧ Y.cell? ⟨b2, o2 + j * 3 + 1, none⟩ = some (.slice u3 l3 j3) ∧ Y.cell? ⟨b2, o2 + j * 3 + 2, none⟩ = some (.slice u4 l4 j4)) ∧ Kept r X1 Y := fun Y h => ⟨h.cell c1 nY, ⟨h.cell d0 np, h.cell d1 np, h.cell d2 np⟩, ⟨h.cell h0 n2, h.cell h1 n2, h.cell h2 n2⟩, h⟩
    have K0 : Kept r X1 X1.drew := (Kept.refl r X1).drew
    have hltI : (es.length : Int) < (m : Int) := by omega
    have hjI : (j : Int) < (zl : Int) := by rw [HZL.out] at hjz; omega
    have hj0 : (0 : Int) ≤ (j : Int) := by omega
    have hcl := fun (Y : World) (hY : Below X1.heap.size X1 Y) => by
     have hY2 : Below y2.heap.size y2 Y := b2X.trans (hY.mono sX)
     have pc := HPC.out.later hY2
     obtain ⟨_, hda, hdn⟩ := pc.res.at_
     exact position1_any (n := es.length) (pc.r1.cell 0) (pc.r2.cell 0) (pc.r3.cell 0) (HA1.out.later (bwX.trans (hY.mono sXw))) na1 hda hdn (HAG.out.later hY2) ng HOK.out (by rw [← HX.out, HM.out]; exact hlt) (by omega)
    rw [hj] at hcl
    have HCLO := Lib.hid hcl
    have HALL := Lib.hid hall
    have HOWN := Lib.hid hownX
    clear hval hr1 hr2 hqk1 hqk2 hbo2' g0' hall hown hownX g0 g1' g2' hjv hcl hj
    go_wp2_with fail
    (try rw [hX1])
    clear hX1 f0 f1 f2
    refine wp_region_held_drew (S := fun Y => Y.cell? ⟨w.heap.size + 1, 1, none⟩ = some (.slice (some ⟨b2, o2, none⟩) zl cb2) ∧ (Y.cell? ⟨wr.heap.size, 0, none⟩ = some (.bool m1) ∧ Y.cell? ⟨wr.heap.size, 1, none⟩ = some (.slice u1 l1 j1) ∧ Y.cell? ⟨wr.heap.size, 2, none⟩ = some (.slice u2 l2 j2)) ∧ (Y.cell? ⟨b2, o2 + j * 3, none⟩ = some (.bool m2) ∧ Y.cell? ⟨b2, o2 + j * 3 + 1, none⟩ = some (.slice u3 l3 j3) ∧ Y.cell? ⟨b2, o2 + j * 3 + 2, none⟩ = some (.slice u4 l4 j4)) ∧ Kept r X1 Y) (by kernel_rfl) (mkS _ K0) (fun hHeld => ?_)
    obtain ⟨z0, hdr⟩ : ∃ Y, X1.drew = Y := ⟨_, rfl⟩
    have C0 : Below X1.heap.size X1 z0 := by rw [← hdr]; exact (Below.refl _ _).drew
    rw [hdr] at K0 hHeld ⊢
    clear hdr
    refine todo [0, 1, 2, 3, 4, 5] ?_
    iterate 6
     refine todoH (v := ?_) rfl (by kernel_rfl) (fun _ _ _ h => h) (by assumption) (Or.inl ⟨by rfl, ?_⟩) ?_
     rotate_left
     · intro w hSw; (try dsimp only at hSw); go_simp; (try with_reducible rfl)
     try simp only [Act.put, nA, nB, nC, nD, nE, nF]
    refine todone ?_
    refine wpAnyH_ready (rs := [6]) (by kernel_rfl) (by simp) ?_
    refine AllReadyH.cons rfl (fun K hK => ?sk_6) AllReadyH.nil
    go_simp
    refine (HCLO.out _ C0).mono ?_
    rintro e z1 ⟨rfl, hy⟩
    have K1 := K0.below hy
    have C1 : Below X1.heap.size X1 z1 := C0.trans (hy.mono C0.size)
    go_simp
    refine hK.out _ _ (mkS _ K1) (fun hHeld2 => ?mk_6)
    clear hK K hHeld
    have hHeld := hHeld2
    clear hHeld2
    try simp only [Act.put, nA, nB, nC, nD, nE, nF]
    refine todo [7, 8] ?_
    iterate 2
     refine todoH (v := ?_) rfl (by kernel_rfl) (fun _ _ _ h => h) (by assumption) (Or.inl ⟨by rfl, ?_⟩) ?_
     rotate_left
     · intro w hSw; (try dsimp only at hSw); go_simp; (try with_reducible rfl)
     try simp only [Act.put, nA, nB, nC, nD, nE, nF]
    refine todone ?_
    refine wpAnyH_ready (rs := [9]) (by kernel_rfl) (by simp) ?_
    refine AllReadyH.cons rfl (fun K hK => ?sk_9) AllReadyH.nil
    go_simp
    refine (addQ_any (n := n) (HR1'.out.later (bX.trans (C1.mono bX.size))) (HR2'.out.later (bX.trans (C1.mono bX.size))) hn).mono ?_
    rintro e z2 ⟨rv, rfl, qv, hy2⟩
    have K2 := K1.below hy2
    have C2 : Below X1.heap.size X1 z2 := C1.trans (hy2.mono C1.size)
    have hBw : Below y2.heap.size y2 z2 := b2X.trans (C2.mono sX)
    have sw5 := hBw.size
    have Q5 := Lib.hid (qv.mono (show y2.heap.size ≤ z1.heap.size from Nat.le_trans sX C1.size))
    obtain ⟨m5, j5, j6, j7, j8, j9, k1, rfl⟩ := qv.shape
    clear qv hy2
    have hownY := HOWN.out.later C2
    have hallY : AllE (fun v x => ResQ y2.heap.size z2 v x (2 * n + 10)) es (plusL t f X Z es.length) := HALL.out.imp fun u x _ h => h.later (bX.trans (C2.mono bX.size))
    go_simp
    refine hK.out _ _ (mkS _ K2) (fun hHeld2 => ?mk_9)
    clear hK K hHeld
    have hHeld := hHeld2
    clear hHeld2
    try simp only [Act.put, nA, nB, nC, nD, nE, nF]
    refine wpAnyH_ready (rs := [10]) (by kernel_rfl) (by simp) ?_
    refine AllReadyH.cons rfl (fun K hK => ?sk_10) AllReadyH.nil
    go_simp
    refine hK.out _ _ (mkS _ (K2.alloc _)) (fun hHeld2 => ?mk_10)
    clear hK K hHeld
    have hHeld := hHeld2
    clear hHeld2
    try simp only [Act.put, nA, nB, nC, nD, nE, nF]
    refine wpAnyH_ready (rs := [11]) (by kernel_rfl) (by simp) ?_
    refine AllReadyH.cons rfl (fun K hK => ?sk_11) AllReadyH.nil
    refine step_append_lies _ rfl _ _ 24 rfl y2.heap.size 54 i0 _ 3 56 Tryz.underlying24 hi hz0 hz1 hz2 rfl (by decide) _ es.length (flat3 es) rfl (hownY.later ((Below.refl _ _).alloc (Nat.le_refl _) _)) ⟨z2.heap.size, 0, none⟩ 1 1 [.bool m5, .slice j5 j6 j7, .slice j8 j9 k1] rfl rfl (cell_three_new _ _ _ _ _) (by simp [Value.oneCell']) (by omega) (by unfold maxLen; omega) (by omega) (by simp; omega) _ rfl ?_
    intro g cp w7 hown' hgrow hg' hlt'
    have K7 := (K2.alloc _).grown hgrow hrv
    refine hK.out _ _ (mkS _ K7) (fun hHeld2 => ?mk_11)
    clear hK K hHeld
    have hHeld := hHeld2
    clear hHeld2
    try simp only [Act.put, nA, nB, nC, nD, nE, nF]
    refine todo [12] ?_
    iterate 1
     refine todoH (v := ?_) rfl (by kernel_rfl) (fun _ _ _ h => h) (by assumption) (Or.inl ⟨by rfl, ?_⟩) ?_
     rotate_left
     · intro w hSw; (try dsimp only at hSw); go_simp; (try with_reducible rfl)
     try simp only [Act.put, nA, nB, nC, nD, nE, nF]
    refine todone ?_
    refine wpAnyH_done (by kernel_rfl) ?_ _
    (try dsimp only [Straight])
    go_wp2
    go_roundw
    case rel =>
     obtain ⟨hrow8, hb8⟩ := pushE (P := fun W v x => ResQ y2.heap.size W v x (2 * n + 10)) (o := .cells #[.bool m5, .slice j5 j6 j7, .slice j8 j9 k1] 54) (e := ⟨.bool m5, .slice j5 j6 j7, .slice j8 j9 k1⟩) hBw sw5 hownY hallY Q5.out (fun u y h => ResQ.apart hownY hgrow (by decide) h) hown' hgrow
     refine ⟨es.length + 1, by go_num, by omega, ?_, hb8⟩
     rw [HVL.out]
     exact hrow8
    case measure => simp [intOf]; omega
  · have hkl : es.length = m := by omega
    have hltI : ¬ (es.length : Int) < (m : Int) := by omega
    have hpl : plusL t f X Z es.length = plusF t f X Z := by unfold plusL plusF; rw [hkl, ← HM.out, HX.out]
    have hrow : RowO w.heap.size 54 (fun W v x => ResQ w.heap.size W v x (2 * n + 10)) wr (.slice av es.length cv) (plusF t f X Z) := RowO.mono (P := fun W v x => ResQ y2.heap.size W v x (2 * n + 10)) ⟨es, hown, by rw [← hpl]; exact hall⟩ sw2 (fun _ _ h => h.mono sw2)
    have hlen : (plusF t f X Z).length = es.length := by rw [← hpl]; simp [plusL]
    have HROW := Lib.hid hrow
    have HLEN := Lib.hid hlen
    have hc := HCL.out wr hwb
    have P0 := HQ0.out.below hb (by have := hsW; have := B2.size; omega)
    have P2 := HQ2.out.below hb (by have := hsW; have := B2.size; omega)
    obtain ⟨z0, z1, _, _⟩ := P0.two
    clear hown hall hkl hrow hpl hlen hlt
    go_wp2_with fail
    refine hc.mono ?_
    rintro e w9 ⟨r9, rfl, RS9, hb9⟩
    obtain ⟨ad9, cp9, rfl, RS9', _, _⟩ := RS9.slice
    have HRS := Lib.hid RS9'
    have P29 := P2.later hb9
    obtain ⟨t0, t1, t2, t3⟩ := P29.two
    have hrow9 := HROW.out.later hb9 (fun _ _ h => h.later hb9)
    have HR9 := Lib.hid hrow9
    have hb9w : Below w.heap.size w w9 := hwb.trans (hb9.mono hwb.size)
    clear RS9 RS9' hrow9
    go_wp2_with fail
    have P3 := P29.set2 (.slice ad9 t.length cp9) (.slice av es.length cv)
    obtain ⟨k0, k1, _, _⟩ := P3.two
    refine bodyPost_ret (v := .agg #[.slice ad9 t.length cp9, .slice av es.length cv]) (by simp [results, Tryz.results60, go_sem, k0, k1]) rfl ⟨_, rfl, ?_, below_set2 hb9w (by omega) _ _⟩
    have hR : ResT w.heap.size w9 (.agg #[.slice ad9 t.length cp9, .slice av es.length cv]) t (plusF t f X Z) (2 * n + 10) := ⟨ad9, av, cp9, cv, by rw [HLEN.out], HRS.out.mono hwb.size, by have h := HR9.out; rw [HLEN.out]; exact h⟩
    exact hR.far P29 (by decide) (by decide) (by decide) (kept2 _ _)
end
end Go.Proofs.YtengpgodmbfmkaaGreat
