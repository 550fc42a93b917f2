/-
  The law NatRing: what it answers, from the contracts: for limbs of at most 1048576 in each argument.
-/
import Derived.Test.YteinfanfhgpciaaKnown
namespace Go.Proofs.Yteinfanfhgpciaa
open Go.RowKit

set_option maxRecDepth 100000 in
set_option maxHeartbeats 4000000 in
theorem ring_walk (u v t : Value) (xs ys zs : List Int) (a b c : Option Addr) (capa capb capc : Nat) (w : World) (Aa : Arg w u xs a capa) (Ab : Arg w v ys b capb) (Ac : Arg w t zs c capc)
    (hx : xs.length ≤ 1048576) (hy : ys.length ≤ 1048576) (hz : zs.length ≤ 1048576) :
    Calls Try.prog 8 #[u, v, t] w fun e w' => e = .returned (.bool true) ∧ Below w.heap.size w w' := by
  have vx := val_nonneg Aa.wf
  have vy := val_nonneg Ab.wf
  have hW : Below w.heap.size w w := Below.refl _ _
  have hS : w.heap.size ≤ w.heap.size := Nat.le_refl _
  have h00 : ((0 : Int) == 0) = true := by decide
  go_enter Try.func8, Try.ntmps8
  go_wp2_with fail
  refine (add_res Aa Ab (by omega) (by omega)).mono ?_
  rintro e W1 ⟨r1, l1, rfl, q1, n1, hb⟩
  replace Aa := Aa.later hb
  replace Ab := Ab.later hb
  replace Ac := Ac.later hb
  replace hW := hW.trans (hb.mono hS)
  replace hS := Nat.le_trans hS hb.size
  clear hb
  obtain ⟨ad1, cap1, A1⟩ := q1.arg
  go_wp2_with fail
  refine (add_res Ab Ac (by omega) (by omega)).mono ?_
  rintro e W2 ⟨r2, l2, rfl, q2, n2, hb⟩
  replace Aa := Aa.later hb
  replace Ab := Ab.later hb
  replace Ac := Ac.later hb
  replace A1 := A1.later hb
  replace hW := hW.trans (hb.mono hS)
  replace hS := Nat.le_trans hS hb.size
  clear hb
  obtain ⟨ad2, cap2, A2⟩ := q2.arg
  go_wp2_with fail
  refine (mul_res Aa Ab (by omega) (by omega)).mono ?_
  rintro e W3 ⟨r3, l3, rfl, q3, n3, hb⟩
  replace Aa := Aa.later hb
  replace Ab := Ab.later hb
  replace Ac := Ac.later hb
  replace A1 := A1.later hb
  replace A2 := A2.later hb
  replace hW := hW.trans (hb.mono hS)
  replace hS := Nat.le_trans hS hb.size
  clear hb
  obtain ⟨ad3, cap3, A3⟩ := q3.arg
  go_wp2_with fail
  refine (mul_res Ab Ac (by omega) (by omega)).mono ?_
  rintro e W4 ⟨r4, l4, rfl, q4, n4, hb⟩
  replace Aa := Aa.later hb
  replace Ab := Ab.later hb
  replace Ac := Ac.later hb
  replace A1 := A1.later hb
  replace A2 := A2.later hb
  replace A3 := A3.later hb
  replace hW := hW.trans (hb.mono hS)
  replace hS := Nat.le_trans hS hb.size
  clear hb
  obtain ⟨ad4, cap4, A4⟩ := q4.arg
  go_wp2_with fail
  refine (sub_res A1 Ab (by omega) (by omega) (by rw [q1.eq]; omega)).mono ?_
  rintro e W5 ⟨r5, l5, rfl, q5, n5, hb⟩
  replace Aa := Aa.later hb
  replace Ab := Ab.later hb
  replace Ac := Ac.later hb
  replace A1 := A1.later hb
  replace A2 := A2.later hb
  replace A3 := A3.later hb
  replace A4 := A4.later hb
  replace hW := hW.trans (hb.mono hS)
  replace hS := Nat.le_trans hS hb.size
  clear hb
  obtain ⟨ad5, cap5, A5⟩ := q5.arg
  go_wp2_with fail
  refine (add_res Ab Aa (by omega) (by omega)).mono ?_
  rintro e W6 ⟨r6, l6, rfl, q6, n6, hb⟩
  replace Aa := Aa.later hb
  replace Ab := Ab.later hb
  replace Ac := Ac.later hb
  replace A1 := A1.later hb
  replace A2 := A2.later hb
  replace A3 := A3.later hb
  replace A4 := A4.later hb
  replace A5 := A5.later hb
  replace hW := hW.trans (hb.mono hS)
  replace hS := Nat.le_trans hS hb.size
  clear hb
  obtain ⟨ad6, cap6, A6⟩ := q6.arg
  go_wp2_with fail
  refine (same_res A1 A6 (by omega) (canon q1.wf q6.wf q1.full q6.full (by rw [q1.eq, q6.eq]; grind))).mono ?_
  rintro e w' ⟨rfl, rfl⟩
  clear A6
  go_wp2_with fail
  refine (add_res A1 Ac (by omega) (by omega)).mono ?_
  rintro e W7 ⟨r7, l7, rfl, q7, n7, hb⟩
  replace Aa := Aa.later hb
  replace Ab := Ab.later hb
  replace Ac := Ac.later hb
  replace A1 := A1.later hb
  replace A2 := A2.later hb
  replace A3 := A3.later hb
  replace A4 := A4.later hb
  replace A5 := A5.later hb
  replace hW := hW.trans (hb.mono hS)
  replace hS := Nat.le_trans hS hb.size
  clear hb
  obtain ⟨ad7, cap7, A7⟩ := q7.arg
  go_wp2_with fail
  refine (add_res Aa A2 (by omega) (by omega)).mono ?_
  rintro e W8 ⟨r8, l8, rfl, q8, n8, hb⟩
  replace Aa := Aa.later hb
  replace Ab := Ab.later hb
  replace Ac := Ac.later hb
  replace A1 := A1.later hb
  replace A2 := A2.later hb
  replace A3 := A3.later hb
  replace A4 := A4.later hb
  replace A5 := A5.later hb
  replace A7 := A7.later hb
  replace hW := hW.trans (hb.mono hS)
  replace hS := Nat.le_trans hS hb.size
  clear hb
  obtain ⟨ad8, cap8, A8⟩ := q8.arg
  go_wp2_with fail
  refine (same_res A7 A8 (by omega) (canon q7.wf q8.wf q7.full q8.full (by rw [q7.eq, q8.eq, q1.eq, q2.eq]; grind))).mono ?_
  rintro e w' ⟨rfl, rfl⟩
  clear A7 A8
  go_wp2_with fail
  refine (mul_res Ab Aa (by omega) (by omega)).mono ?_
  rintro e W9 ⟨r9, l9, rfl, q9, n9, hb⟩
  replace Aa := Aa.later hb
  replace Ab := Ab.later hb
  replace Ac := Ac.later hb
  replace A1 := A1.later hb
  replace A2 := A2.later hb
  replace A3 := A3.later hb
  replace A4 := A4.later hb
  replace A5 := A5.later hb
  replace hW := hW.trans (hb.mono hS)
  replace hS := Nat.le_trans hS hb.size
  clear hb
  obtain ⟨ad9, cap9, A9⟩ := q9.arg
  go_wp2_with fail
  refine (same_res A3 A9 (by omega) (canon q3.wf q9.wf q3.full q9.full (by rw [q3.eq, q9.eq]; grind))).mono ?_
  rintro e w' ⟨rfl, rfl⟩
  clear A9
  go_wp2_with fail
  refine (mul_res A3 Ac (by omega) (by omega)).mono ?_
  rintro e W10 ⟨r10, l10, rfl, q10, n10, hb⟩
  replace Aa := Aa.later hb
  replace Ab := Ab.later hb
  replace Ac := Ac.later hb
  replace A1 := A1.later hb
  replace A2 := A2.later hb
  replace A3 := A3.later hb
  replace A4 := A4.later hb
  replace A5 := A5.later hb
  replace hW := hW.trans (hb.mono hS)
  replace hS := Nat.le_trans hS hb.size
  clear hb
  obtain ⟨ad10, cap10, A10⟩ := q10.arg
  go_wp2_with fail
  refine (mul_res Aa A4 (by omega) (by omega)).mono ?_
  rintro e W11 ⟨r11, l11, rfl, q11, n11, hb⟩
  replace Aa := Aa.later hb
  replace Ab := Ab.later hb
  replace Ac := Ac.later hb
  replace A1 := A1.later hb
  replace A2 := A2.later hb
  replace A3 := A3.later hb
  replace A4 := A4.later hb
  replace A5 := A5.later hb
  replace A10 := A10.later hb
  replace hW := hW.trans (hb.mono hS)
  replace hS := Nat.le_trans hS hb.size
  clear hb
  obtain ⟨ad11, cap11, A11⟩ := q11.arg
  go_wp2_with fail
  refine (same_res A10 A11 (by omega) (canon q10.wf q11.wf q10.full q11.full (by rw [q10.eq, q11.eq, q3.eq, q4.eq]; grind))).mono ?_
  rintro e w' ⟨rfl, rfl⟩
  clear A10 A11
  go_wp2_with fail
  refine (mul_res A1 Ac (by omega) (by omega)).mono ?_
  rintro e W12 ⟨r12, l12, rfl, q12, n12, hb⟩
  replace Aa := Aa.later hb
  replace Ab := Ab.later hb
  replace Ac := Ac.later hb
  replace A1 := A1.later hb
  replace A2 := A2.later hb
  replace A3 := A3.later hb
  replace A4 := A4.later hb
  replace A5 := A5.later hb
  replace hW := hW.trans (hb.mono hS)
  replace hS := Nat.le_trans hS hb.size
  clear hb
  obtain ⟨ad12, cap12, A12⟩ := q12.arg
  go_wp2_with fail
  refine (mul_res Aa Ac (by omega) (by omega)).mono ?_
  rintro e W13 ⟨r13, l13, rfl, q13, n13, hb⟩
  replace Aa := Aa.later hb
  replace Ab := Ab.later hb
  replace Ac := Ac.later hb
  replace A1 := A1.later hb
  replace A2 := A2.later hb
  replace A3 := A3.later hb
  replace A4 := A4.later hb
  replace A5 := A5.later hb
  replace A12 := A12.later hb
  replace hW := hW.trans (hb.mono hS)
  replace hS := Nat.le_trans hS hb.size
  clear hb
  obtain ⟨ad13, cap13, A13⟩ := q13.arg
  go_wp2_with fail
  refine (add_res A13 A4 (by omega) (by omega)).mono ?_
  rintro e W14 ⟨r14, l14, rfl, q14, n14, hb⟩
  replace Aa := Aa.later hb
  replace Ab := Ab.later hb
  replace Ac := Ac.later hb
  replace A1 := A1.later hb
  replace A2 := A2.later hb
  replace A3 := A3.later hb
  replace A4 := A4.later hb
  replace A5 := A5.later hb
  replace A12 := A12.later hb
  replace A13 := A13.later hb
  replace hW := hW.trans (hb.mono hS)
  replace hS := Nat.le_trans hS hb.size
  clear hb
  obtain ⟨ad14, cap14, A14⟩ := q14.arg
  go_wp2_with fail
  refine (same_res A12 A14 (by omega) (canon q12.wf q14.wf q12.full q14.full (by rw [q12.eq, q14.eq, q13.eq, q1.eq, q4.eq]; grind))).mono ?_
  rintro e w' ⟨rfl, rfl⟩
  clear A12 A13 A14
  go_wp2_with fail
  refine (trim_res Aa (by omega)).mono ?_
  rintro e W15 ⟨r15, l15, rfl, q15, n15, hb⟩
  replace Aa := Aa.later hb
  replace Ab := Ab.later hb
  replace Ac := Ac.later hb
  replace A1 := A1.later hb
  replace A2 := A2.later hb
  replace A3 := A3.later hb
  replace A4 := A4.later hb
  replace A5 := A5.later hb
  replace hW := hW.trans (hb.mono hS)
  replace hS := Nat.le_trans hS hb.size
  clear hb
  obtain ⟨ad15, cap15, A15⟩ := q15.arg
  go_wp2_with fail
  refine (same_res A5 A15 (by omega) (canon q5.wf q15.wf q5.full q15.full (by rw [q5.eq, q15.eq, q1.eq]; grind))).mono ?_
  rintro e w' ⟨rfl, rfl⟩
  go_wp2_with fail
  refine (known_any _).mono ?_
  rintro e W16 ⟨rfl, hb⟩
  go_wp2_with fail
  go_ret
  exact ⟨rfl, hW.trans (hb.mono hS)⟩
end Go.Proofs.Yteinfanfhgpciaa
