/-
  Layer 2's laws: 'is', and the chapter's rows ('known'): they answer true.
-/
import Derived.Test.YtdcdaielfkikhaaQPow
import Derived.Test.YtdcdaielfkikhaaB3
namespace Go.Proofs.Ytdcdaielfkikhaa
open Go.RowKit
set_option linter.unusedVariables false
set_option linter.unusedSimpArgs false

set_option maxHeartbeats 1000000 in
theorem is2_any {u v : Value} {zs ds : List Int} {a b : Option Addr} {capa capb : Nat} {w : World} (h1 : Arg w u zs a capa) (h2 : ArgD w v ds b capb) (hx : zs.length ≤ 134217728) (hy : ds.length ≤ 68719476736)
    (hf : trimN zs zs.length = zs.length) (h : val zs = valD ds) :
    Calls Try.prog 18 #[u, v] w fun e w' => e = .returned (.bool true) ∧ Below w.heap.size w w' := by
  have hof := of_any h1 hx
  obtain ⟨n, hn⟩ : ∃ n, zs.length = n := ⟨_, rfl⟩
  have hlast := trimN_last zs zs.length
  rw [hf, hn] at hlast
  obtain ⟨rfl, lx, hle, wx⟩ := h1
  rw [hn] at hof hx ⊢
  have h0 : ((0 : Int) == 0) = true := by decide
  by_cases hz : n = 0
  · subst hz
    have hd0 : (((0 : Nat) : Int) == 0) = true := by decide
    clear hlast hf
    go_enter Try.func18, Try.ntmps18
    go_wp2_with fail
    refine hof.mono ?_
    rintro e w1 ⟨r, rfl, qs, hq, hl, hb⟩
    obtain ⟨ad, cap, A⟩ := hq.arg
    have h2' := h2.later hb
    go_wp2_with fail
    refine (cmpD_any A h2' (by omega) hy).mono ?_
    rintro e w2 ⟨rfl, hb2⟩
    rw [hq.eq, h, sign_self]
    go_wp2_with fail
    go_ret
    exact ⟨rfl, hb.trans (hb2.mono hb.size)⟩
  · obtain ⟨j, hj⟩ : ∃ j, n = j + 1 := ⟨n - 1, by omega⟩
    have hne := hlast (by omega)
    rw [hj, Nat.add_sub_cancel] at hne
    rcases lx with rfl | ⟨bb, off, rfl, hc⟩
    · simp at hn; omega
    have hcj := hc j (by omega)
    obtain ⟨x, hxj⟩ : ∃ x, zs.getD j 0 = x := ⟨_, rfl⟩
    rw [hxj] at hcj hne
    have hji : ((n : Int) - 1) = (j : Int) := by omega
    have hjn : (j : Int) < (n : Int) := by omega
    have hd0 : ((n : Int) == 0) = false := by simp; omega
    have hdx : (x != 0) = true := by simpa using hne
    clear hc hxj hlast hf hne hj hn
    go_enter Try.func18, Try.ntmps18
    go_wp2_with fail
    refine hof.mono ?_
    rintro e w1 ⟨r, rfl, qs, hq, hl, hb⟩
    obtain ⟨ad, cap, A⟩ := hq.arg
    have h2' := h2.later hb
    go_wp2_with fail
    refine (cmpD_any A h2' (by omega) hy).mono ?_
    rintro e w2 ⟨rfl, hb2⟩
    rw [hq.eq, h, sign_self]
    go_wp2_with fail
    go_ret
    exact ⟨rfl, hb.trans (hb2.mono hb.size)⟩
theorem nil_arg (w : World) : Arg w (.slice none 0 0) [] none 0 := ⟨rfl, .inl rfl, Nat.le_refl _, Wf.nil⟩

set_option maxRecDepth 100000 in
set_option maxHeartbeats 4000000 in
theorem known2_any (w : World) : Calls Try.prog 14 #[] w fun e w' => e = .returned (.bool true) ∧ Below w.heap.size w w' := by
  have hW : Below w.heap.size w w := Below.refl _ _
  have hS : w.heap.size ≤ w.heap.size := Nat.le_refl _
  have h17 : ((17 : Int) == 17) = true := by decide
  have h00 : ((0 : Int) == 0) = true := by decide
  go_enter Try.func14, Try.ntmps14
  have ba := Blk.lit w [0, 0, 1]
  have bb := Blk.lit (w.alloc (.cells ([0, 0, 1].map (Value.int .u32)).toArray 38)) [3]
  simp only [World.size_alloc] at bb
  have hb : Below w.heap.size w ((w.alloc (.cells ([0, 0, 1].map (Value.int .u32)).toArray 38)).alloc (.cells ([3].map (Value.int .u32)).toArray 38)) := (((Below.refl _ _).alloc (by simp) (.cells ([0, 0, 1].map (Value.int .u32)).toArray 38)).alloc (by simp) (.cells ([3].map (Value.int .u32)).toArray 38))
  have Aa := lit_arg _ _ _ (ba.alloc (.cells ([3].map (Value.int .u32)).toArray 38)) (Wf.cons (by omega) (Wf.cons (by omega) (Wf.cons (by omega) Wf.nil)))
  have Ab := lit_arg _ _ _ bb (Wf.cons (by omega) Wf.nil)
  clear ba
  clear bb
  replace hW := hW.trans (hb.mono hS)
  replace hS := Nat.le_trans hS hb.size
  clear hb
  go_wp2_with fail
  refine (div_any Aa Ab (by simp) (by simp) (by simp [val])).mono ?_
  rintro e V1 ⟨r1, r2, rfl, hb, ⟨l1, q1, n1⟩, ⟨l2, q2, n2, m2⟩⟩
  replace Aa := Aa.later hb
  replace Ab := Ab.later hb
  replace hW := hW.trans (hb.mono hS)
  replace hS := Nat.le_trans hS hb.size
  clear hb
  obtain ⟨ad1, cap1, A1⟩ := q1.arg
  obtain ⟨ad2, cap2, A2⟩ := q2.arg
  clear Aa Ab
  have e1 : val l1 = 6148914691236517205 := by rw [q1.eq]; decide
  have e2 : val l2 = 1 := by rw [q2.eq]; decide
  have f1 := q1.full
  have f2 := q2.full
  simp only [List.length_cons, List.length_nil] at n1 n2
  clear q1 q2 m2
  have bc := Blk.lit V1 [1]
  have bd := Blk.lit (V1.alloc (.cells ([1].map (Value.int .u32)).toArray 38)) [0, 0]
  simp only [World.size_alloc] at bd
  have hb : Below V1.heap.size V1 ((V1.alloc (.cells ([1].map (Value.int .u32)).toArray 38)).alloc (.cells ([0, 0].map (Value.int .u32)).toArray 38)) := (((Below.refl _ _).alloc (by simp) (.cells ([1].map (Value.int .u32)).toArray 38)).alloc (by simp) (.cells ([0, 0].map (Value.int .u32)).toArray 38))
  have Ac := lit_arg _ _ _ (bc.alloc (.cells ([0, 0].map (Value.int .u32)).toArray 38)) (Wf.cons (by omega) Wf.nil)
  have Ad := lit_arg _ _ _ bd (Wf.cons (by omega) (Wf.cons (by omega) Wf.nil))
  clear bc
  clear bd
  replace A1 := A1.later hb
  replace A2 := A2.later hb
  replace hW := hW.trans (hb.mono hS)
  replace hS := Nat.le_trans hS hb.size
  clear hb
  go_wp2_with fail
  refine (div_zero Ac Ad (by simp) (by simp [val])).mono ?_
  rintro e V2 ⟨rfl, hb⟩
  replace A1 := A1.later hb
  replace A2 := A2.later hb
  replace Ac := Ac.later hb
  replace Ad := Ad.later hb
  replace hW := hW.trans (hb.mono hS)
  replace hS := Nat.le_trans hS hb.size
  clear hb
  clear Ac Ad
  have bg := Blk.lit V2 [1431655765, 1431655765]
  have hb : Below V2.heap.size V2 (V2.alloc (.cells ([1431655765, 1431655765].map (Value.int .u32)).toArray 38)) := ((Below.refl _ _).alloc (by simp) (.cells ([1431655765, 1431655765].map (Value.int .u32)).toArray 38))
  have Ag := lit_arg _ _ _ bg (Wf.cons (by omega) (Wf.cons (by omega) Wf.nil))
  clear bg
  replace A1 := A1.later hb
  replace A2 := A2.later hb
  replace hW := hW.trans (hb.mono hS)
  replace hS := Nat.le_trans hS hb.size
  clear hb
  go_wp2_with fail
  refine (of_any Ag (by simp)).mono ?_
  rintro e V3 ⟨r3, rfl, l3, q3, n3, hb⟩
  replace A1 := A1.later hb
  replace A2 := A2.later hb
  replace Ag := Ag.later hb
  replace hW := hW.trans (hb.mono hS)
  replace hS := Nat.le_trans hS hb.size
  clear hb
  obtain ⟨ad3, cap3, A3⟩ := q3.arg
  clear Ag
  simp only [List.length_cons, List.length_nil] at n3
  go_wp2_with fail
  refine (is2_any A1 A3 (by omega) (by omega) f1 (by rw [e1, q3.eq]; decide)).mono ?_
  rintro e V4 ⟨rfl, hb⟩
  replace A1 := A1.later hb
  replace A2 := A2.later hb
  replace A3 := A3.later hb
  replace hW := hW.trans (hb.mono hS)
  replace hS := Nat.le_trans hS hb.size
  clear hb
  clear A1 A3
  go_wp2_with fail
  refine (small_any 1 _ (by omega) (by omega)).mono ?_
  rintro e V5 ⟨r4, rfl, l4, q4, n4, hb⟩
  replace A2 := A2.later hb
  replace hW := hW.trans (hb.mono hS)
  replace hS := Nat.le_trans hS hb.size
  clear hb
  obtain ⟨ad4, cap4, A4⟩ := q4.arg
  go_wp2_with fail
  refine (is2_any A2 A4 (by omega) (by omega) f2 (by rw [e2, q4.eq])).mono ?_
  rintro e V6 ⟨rfl, hb⟩
  replace A2 := A2.later hb
  replace A4 := A4.later hb
  replace hW := hW.trans (hb.mono hS)
  replace hS := Nat.le_trans hS hb.size
  clear hb
  clear A2 A4
  go_wp2_with fail
  refine (ofN_any 12 _ (by omega) (by omega)).mono ?_
  rintro e V7 ⟨r5, l5, rfl, q5, n5, hb⟩
  replace hW := hW.trans (hb.mono hS)
  replace hS := Nat.le_trans hS hb.size
  clear hb
  obtain ⟨ad5, cap5, A5⟩ := q5.arg
  go_wp2_with fail
  refine (ofN_any 18 _ (by omega) (by omega)).mono ?_
  rintro e V8 ⟨r6, l6, rfl, q6, n6, hb⟩
  replace A5 := A5.later hb
  replace hW := hW.trans (hb.mono hS)
  replace hS := Nat.le_trans hS hb.size
  clear hb
  obtain ⟨ad6, cap6, A6⟩ := q6.arg
  go_wp2_with fail
  refine (gcd_any A5 A6 (by omega) (by omega)).mono ?_
  rintro e V9 ⟨r7, l7, rfl, q7, n7, hb⟩
  replace A5 := A5.later hb
  replace A6 := A6.later hb
  replace hW := hW.trans (hb.mono hS)
  replace hS := Nat.le_trans hS hb.size
  clear hb
  obtain ⟨ad7, cap7, A7⟩ := q7.arg
  clear A5 A6
  go_wp2_with fail
  refine (small_any 6 _ (by omega) (by omega)).mono ?_
  rintro e V10 ⟨r8, rfl, l8, q8, n8, hb⟩
  replace A7 := A7.later hb
  replace hW := hW.trans (hb.mono hS)
  replace hS := Nat.le_trans hS hb.size
  clear hb
  obtain ⟨ad8, cap8, A8⟩ := q8.arg
  go_wp2_with fail
  refine (is2_any A7 A8 (by omega) (by omega) q7.full (by rw [q7.eq, q8.eq, q5.eq, q6.eq]; decide)).mono ?_
  rintro e V11 ⟨rfl, hb⟩
  replace A7 := A7.later hb
  replace A8 := A8.later hb
  replace hW := hW.trans (hb.mono hS)
  replace hS := Nat.le_trans hS hb.size
  clear hb
  clear A7 A8
  go_wp2_with fail
  refine (ofN_any 5 _ (by omega) (by omega)).mono ?_
  rintro e V12 ⟨r9, l9, rfl, q9, n9, hb⟩
  replace hW := hW.trans (hb.mono hS)
  replace hS := Nat.le_trans hS hb.size
  clear hb
  obtain ⟨ad9, cap9, A9⟩ := q9.arg
  go_wp2_with fail
  refine (gcd_any (nil_arg _) A9 (by simp) (by omega)).mono ?_
  rintro e V13 ⟨r10, l10, rfl, q10, n10, hb⟩
  replace A9 := A9.later hb
  replace hW := hW.trans (hb.mono hS)
  replace hS := Nat.le_trans hS hb.size
  clear hb
  obtain ⟨ad10, cap10, A10⟩ := q10.arg
  clear A9
  go_wp2_with fail
  refine (small_any 5 _ (by omega) (by omega)).mono ?_
  rintro e V14 ⟨r11, rfl, l11, q11, n11, hb⟩
  replace A10 := A10.later hb
  replace hW := hW.trans (hb.mono hS)
  replace hS := Nat.le_trans hS hb.size
  clear hb
  obtain ⟨ad11, cap11, A11⟩ := q11.arg
  simp only [List.length_nil] at n10
  go_wp2_with fail
  refine (is2_any A10 A11 (by omega) (by omega) q10.full (by rw [q10.eq, q11.eq, q9.eq]; decide)).mono ?_
  rintro e V15 ⟨rfl, hb⟩
  replace A10 := A10.later hb
  replace A11 := A11.later hb
  replace hW := hW.trans (hb.mono hS)
  replace hS := Nat.le_trans hS hb.size
  clear hb
  clear A10 A11
  go_wp2_with fail
  refine (pow_any 0 (nil_arg _) (by simp) (by omega)).mono ?_
  rintro e V16 ⟨r12, l12, rfl, q12, n12, hb⟩
  replace hW := hW.trans (hb.mono hS)
  replace hS := Nat.le_trans hS hb.size
  clear hb
  obtain ⟨ad12, cap12, A12⟩ := q12.arg
  simp only [List.length_nil] at n12
  go_wp2_with fail
  refine (small_any 1 _ (by omega) (by omega)).mono ?_
  rintro e V17 ⟨r13, rfl, l13, q13, n13, hb⟩
  replace A12 := A12.later hb
  replace hW := hW.trans (hb.mono hS)
  replace hS := Nat.le_trans hS hb.size
  clear hb
  obtain ⟨ad13, cap13, A13⟩ := q13.arg
  go_wp2_with fail
  refine (is2_any A12 A13 (by omega) (by omega) q12.full (by rw [q12.eq, q13.eq]; decide)).mono ?_
  rintro e V18 ⟨rfl, hb⟩
  replace A12 := A12.later hb
  replace A13 := A13.later hb
  replace hW := hW.trans (hb.mono hS)
  replace hS := Nat.le_trans hS hb.size
  clear hb
  clear A12 A13
  go_wp2_with fail
  refine (ofN_any 7 _ (by omega) (by omega)).mono ?_
  rintro e V19 ⟨r14, l14, rfl, q14, n14, hb⟩
  replace hW := hW.trans (hb.mono hS)
  replace hS := Nat.le_trans hS hb.size
  clear hb
  obtain ⟨ad14, cap14, A14⟩ := q14.arg
  go_wp2_with fail
  refine (pow_any 3 A14 (by omega) (by omega)).mono ?_
  rintro e V20 ⟨r15, l15, rfl, q15, n15, hb⟩
  replace A14 := A14.later hb
  replace hW := hW.trans (hb.mono hS)
  replace hS := Nat.le_trans hS hb.size
  clear hb
  obtain ⟨ad15, cap15, A15⟩ := q15.arg
  clear A14
  have n15' : l15.length ≤ 7 := Nat.le_trans n15 (by have : (3 : Int).toNat = 3 := rfl; rw [this]; omega)
  go_wp2_with fail
  refine (small_any 343 _ (by omega) (by omega)).mono ?_
  rintro e V21 ⟨r16, rfl, l16, q16, n16, hb⟩
  replace A15 := A15.later hb
  replace hW := hW.trans (hb.mono hS)
  replace hS := Nat.le_trans hS hb.size
  clear hb
  obtain ⟨ad16, cap16, A16⟩ := q16.arg
  go_wp2_with fail
  refine (is2_any A15 A16 (by omega) (by omega) q15.full (by rw [q15.eq, q16.eq, q14.eq]; decide)).mono ?_
  rintro e V22 ⟨rfl, hb⟩
  replace A15 := A15.later hb
  replace A16 := A16.later hb
  replace hW := hW.trans (hb.mono hS)
  replace hS := Nat.le_trans hS hb.size
  clear hb
  clear A15 A16
  go_wp2_with fail
  go_ret
  exact ⟨rfl, hW⟩
end Go.Proofs.Ytdcdaielfkikhaa
