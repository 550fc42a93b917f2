/-
  Part 12 of 30: contracts and what they rest on (QDiv, QGcd, RInt, RProd, RNorm, RMul).
-/
import Derived.Test.YtengpgodmbfmkaaGreatD10
import Derived.Test.YtengpgodmbfmkaaGreatD11
namespace Go.Proofs.YtengpgodmbfmkaaGreat
set_option linter.unusedVariables false
set_option linter.unusedSimpArgs false
set_option maxRecDepth 100000
set_option maxHeartbeats 40000000
section
open Go.RowKit
theorem full_len {zs : List Int} {m : Nat} (hw : Wf zs) (hf : trimN zs zs.length = zs.length) (h : val zs < 4294967296 ^ m) : zs.length ≤ m := by
 rcases Nat.lt_or_ge m zs.length with k | k
 · exfalso
   have h1 := full_ge hw hf (zs.length - 1) (by omega)
   have h2 : (4294967296 : Int) ^ m ≤ 4294967296 ^ (zs.length - 1) := by rw [pow_limb, pow_limb]; exact two_mono (by omega)
   omega
 · exact k
theorem Res.lenLe {base : Nat} {w : World} {u : Value} {zs xs : List Int} {n : Int} (h : Res base w u zs n) (hx : Wf xs) (hle : n ≤ val xs) : zs.length ≤ xs.length := by
 have := val_lt hx
 exact full_len h.wf h.full (by rw [h.eq]; omega)
theorem Res.nil (base : Nat) (w : World) : Res base w (.slice none 0 0) [] 0 := ⟨⟨rfl, .inl ⟨rfl, rfl⟩⟩, Wf.nil, rfl, rfl⟩
theorem ediv_le {a b : Int} (ha : 0 ≤ a) (hb : 0 < b) : a / b ≤ a := Int.ediv_le_self b ha
theorem emod_le {a b : Int} (ha : 0 ≤ a) (hb : 0 < b) : a % b ≤ a := by
 have h1 := Int.emod_add_mul_ediv a b
 have h2 := Int.mul_nonneg (show 0 ≤ b by omega) (Int.ediv_nonneg ha (show 0 ≤ b by omega))
 omega
theorem val_zero {xs : List Int} (h : Wf xs) : val xs = 0 ↔ trimN xs xs.length = 0 := by
 constructor
 · intro h0
   rcases Nat.eq_zero_or_pos (trimN xs xs.length) with k | k
   · exact k
   · exfalso
     have h1 := full_ge h.trim (trim_full xs) (trimN xs xs.length - 1) (by rw [trim_length]; omega)
     rw [val_trim] at h1
     have := pow_pos' (trimN xs xs.length - 1)
     omega
 · intro h0
   rw [← val_trim xs]
   unfold trim
   rw [h0]
   rfl
theorem div_any {u v : Value} {xs ys : List Int} {a b : Option Addr} {capa capb : Nat} {w : World} (h1 : Arg w u xs a capa) (h2 : Arg w v ys b capb) (hx : xs.length ≤ 134217728) (hy : ys.length ≤ 134217728) (h0 : 0 < val ys) :
 Calls Tryz.prog 138 #[u, v] w fun e w' => ∃ r t, e = .returned (.tuple #[r, t, .int .i64 0]) ∧ Below w.heap.size w w' ∧ (∃ zs, Res w.heap.size w' r zs (val xs / val ys) ∧ zs.length ≤ xs.length) ∧
  (∃ zs, Res w.heap.size w' t zs (val xs % val ys) ∧ zs.length ≤ xs.length ∧ zs.length ≤ ys.length) := by
 have hc := count_any h2 (by omega)
 have hx0 := val_nonneg h1.wf
 have hq := ediv_le hx0 h0
 have hr := emod_le hx0 h0
 have hr2 := Int.emod_lt_of_pos (val xs) h0
 obtain ⟨t, ht⟩ : ∃ t, trimN ys ys.length = t := ⟨_, rfl⟩
 have htp : t ≠ 0 := by
  intro e
  have := (val_zero h2.wf).2 (ht.trans e)
  omega
 rw [ht] at hc
 have hd0 : ((t : Int) == 0) = false := by simp; omega
 have HQ := Lib.hid hq
 have HR := Lib.hid hr
 have HR2 := Lib.hid hr2
 clear hq hr hr2
 by_cases ht1 : t = 1
 · subst ht1
   have hd1 : (((1 : Nat) : Int) == 1) = true := by decide
   have hv1 := val_take_ge ys 1 (by omega)
   rw [val_take_succ] at hv1
   simp only [List.take_zero, val, Int.pow_zero, Int.one_mul, Int.zero_add] at hv1
   have hb := h2.wf.getD 0
   obtain ⟨bx, hbx⟩ : ∃ bx, ys.getD 0 0 = bx := ⟨_, rfl⟩
   rw [hbx] at hv1 hb
   have hl1 := trim_le ys
   rw [ht] at hl1
   obtain ⟨rfl, ly, hle, wy⟩ := h2
   rcases ly with rfl | ⟨bb, off, rfl, hcell⟩
   · simp at hl1
   have hc0 := hcell 0 (by omega)
   rw [hbx, Nat.add_zero] at hc0
   have hlt : (0 : Int) < (ys.length : Int) := by omega
   have HV := Lib.hid hv1
   have HY := Lib.hid wy
   clear hcell ht hbx hv1 hd0 htp
   go_enter Tryz.func138, Tryz.ntmps138
   go_wp2_with fail
   refine hc.mono ?_
   rintro e w' ⟨rfl, rfl⟩
   clear hc
   go_wp2_with fail
   refine (short1_any bx h1 (by omega) ⟨by rw [HV.out]; exact h0, hb.2⟩).mono ?_
   rintro e w2 ⟨r2, rfl, z2, q2, n2, hb2⟩
   have hm0 : 0 ≤ val xs % bx := Int.emod_nonneg _ (by rw [HV.out]; omega)
   have hm1 : val xs % bx < 18446744073709551616 := by have := HR2.out; rw [← HV.out] at this; omega
   have hwm : IntKind.u64.wrap (val xs % bx) = val xs % bx := wrap_u64 hm0 hm1
   go_wp2_with fail
   refine (ofN_any (val xs % bx) _ hm0 hm1).mono ?_
   rintro e w3 ⟨r3, z3, rfl, q3, n3, hb3⟩
   have hs2 := hb2.size
   have q2' := q2.later hb3
   have hB : Below w.heap.size w w3 := hb2.trans (hb3.mono hs2)
   rw [HV.out] at q2' q3
   have l2 := q3.lenLe h1.wf HR.out
   have l3 := q3.lenLe HY.out (Int.le_of_lt HR2.out)
   go_wp2_with fail
   go_ret3
   exact ⟨r2, r3, rfl, hB, ⟨z2, q2', n2⟩, ⟨z3, ⟨q3.num.mono hs2, q3.wf, q3.full, q3.eq⟩, l2, l3⟩⟩
 · have hd1 : ((t : Int) == 1) = false := by simp; omega
   have hcmp := cmp_res h1 h2 (by omega) (by omega)
   by_cases hlt : val xs < val ys
   · rw [sign_lt hlt] at hcmp
     have hn : decide ((-1 : Int) < 0) = true := by decide
     go_enter Tryz.func138, Tryz.ntmps138
     go_wp2_with fail
     refine hc.mono ?_
     rintro e w' ⟨rfl, rfl⟩
     clear hc
     go_wp2_with fail
     refine hcmp.mono ?_
     rintro e w2 ⟨rfl, hb2⟩
     clear hcmp
     have A1 := h1.later hb2
     have hs2 := hb2.size
     go_wp2_with fail
     refine (trim_res A1 (by omega)).mono ?_
     rintro e w3 ⟨r3, z3, rfl, q3, n3, hb3⟩
     have hB : Below w.heap.size w w3 := hb2.trans (hb3.mono hs2)
     have e1 : val xs / val ys = 0 := Int.ediv_eq_zero_of_lt hx0 hlt
     have e2 : val xs % val ys = val xs := Int.emod_eq_of_lt hx0 hlt
     have l3 := q3.lenLe h2.wf (Int.le_of_lt hlt)
     have E1 := Lib.hid e1
     have E2 := Lib.hid e2
     clear e1 e2
     go_wp2_with fail
     go_ret3
     exact ⟨_, r3, rfl, hB, ⟨[], by rw [E1.out]; exact Res.nil _ _, by simp⟩, ⟨z3, ⟨q3.num.mono hs2, q3.wf, q3.full, q3.eq.trans E2.out.symm⟩, n3, l3⟩⟩
   · have hn : decide (sign (val xs) (val ys) < 0) = false := decide_eq_false (by unfold sign; rw [if_neg hlt]; split <;> omega)
     go_enter Tryz.func138, Tryz.ntmps138
     go_wp2_with fail
     refine hc.mono ?_
     rintro e w' ⟨rfl, rfl⟩
     clear hc
     go_wp2_with fail
     refine hcmp.mono ?_
     rintro e w2 ⟨rfl, hb2⟩
     clear hcmp
     have A1 := h1.later hb2
     have A2 := h2.later hb2
     have hs2 := hb2.size
     go_wp2_with fail
     refine (long_any A1 A2 (by omega) (by omega) (by omega) (by omega)).mono ?_
     rintro e w3 ⟨r3, t3, rfl, hb3, ⟨z3, q3, _⟩, ⟨z4, q4, _⟩⟩
     have hB : Below w.heap.size w w3 := hb2.trans (hb3.mono hs2)
     have l1 := q3.lenLe h1.wf HQ.out
     have l2 := q4.lenLe h1.wf HR.out
     have l3 := q4.lenLe h2.wf (Int.le_of_lt HR2.out)
     go_wp2_with fail
     go_ret3
     exact ⟨r3, t3, rfl, hB, ⟨z3, ⟨q3.num.mono hs2, q3.wf, q3.full, q3.eq⟩, l1⟩, ⟨z4, ⟨q4.num.mono hs2, q4.wf, q4.full, q4.eq⟩, l2, l3⟩⟩
end
section
open Go.RowKit
theorem shortGcd_any (x y : Int) (w : World) (hx : 0 ≤ x ∧ x < 18446744073709551616) (hy : 0 ≤ y ∧ y < 18446744073709551616) :
 Calls Tryz.prog 161 #[.int .u64 x, .int .u64 y] w fun e w' => e = .returned (.int .u64 (Int.gcd x y : Int)) ∧ Below w.heap.size w w' := by
 obtain ⟨hx0, hx1⟩ := hx
 obtain ⟨hy0, hy1⟩ := hy
 go_enter Tryz.func161, Tryz.ntmps161
 go_wp2
 go_loopw [0, 1] (fun p q wr => ∃ P Q : Int, p = .int .u64 P ∧ q = .int .u64 Q ∧ 0 ≤ P ∧ P < 18446744073709551616 ∧ 0 ≤ Q ∧ Q < 18446744073709551616 ∧ Int.gcd P Q = Int.gcd x y ∧ Below w.heap.size w wr) (fun _ q _ => (intOf q).toNat)
 case atStart => exact ⟨x, y, rfl, rfl, hx0, hx1, hy0, hy1, rfl, Below.refl _ _⟩
 case round =>
  obtain ⟨P, Q, rfl, rfl, hP0, hP1, hQ0, hQ1, hg, hb⟩ := hrel
  have hsz := hb.size
  have HG := Lib.hid hg
  clear hg
  by_cases hgo : 0 < Q
  · obtain ⟨m, hm⟩ : ∃ m, P % Q = m := ⟨_, rfl⟩
    have htm : Int.tmod P Q = m := by rw [Int.tmod_eq_emod_of_nonneg hP0, hm]
    have hm0 : 0 ≤ m := by rw [← hm]; exact Int.emod_nonneg _ (by omega)
    have hm1 : m < Q := by rw [← hm]; exact Int.emod_lt_of_pos _ hgo
    have hwm : IntKind.u64.wrap m = m := wrap_u64 (by omega) (by omega)
    have hq0 : Q ≠ 0 := by omega
    have hg2 : Int.gcd Q m = Int.gcd x y := by rw [← hm, gcd_step]; exact HG.out
    have HG2 := Lib.hid hg2
    clear hg2 hm
    go_wp2
    go_quiet (fail)
    go_wp2
    go_roundw
    case rel => exact ⟨Q, m, rfl, rfl, hQ0, hQ1, hm0, by omega, HG2.out, ⟨hb.os, hb.tape, hb.output, hb.size, hb.block⟩⟩
    case measure => simp [intOf]; omega
  · obtain rfl : Q = 0 := by omega
    have hfin : P = (Int.gcd x y : Int) := by rw [← HG.out]; exact (gcd_end hP0).symm
    have HF := Lib.hid hfin
    clear hfin
    go_wp2
    go_ret
    exact ⟨by rw [← HF.out]; rfl, hb⟩
def leftN (w : World) (v : Value) : Nat := (val (readV w v)).toNat
theorem Arg.left {w : World} {u : Value} {xs : List Int} {a : Option Addr} {cap : Nat} (h : Arg w u xs a cap) : leftN w u = (val xs).toNat := by unfold leftN; rw [h.read]
theorem bits_pos {xs : List Int} (h : Wf xs) : 0 < val xs ↔ 0 < bitsN xs := by
 rcases bitsN_is h with ⟨h1, h2⟩ | ⟨j, h1, h2, _⟩
 · omega
 · have := two_pos j; omega
theorem uint_gen {u : Value} {xs : List Int} {a : Option Addr} {capa : Nat} {w : World} (h1 : Arg w u xs a capa) (hx : xs.length ≤ 35184372088832) :
 Calls Tryz.prog 160 #[u] w fun e w' => (∃ X : Int, e = .returned (.tuple #[.int .u64 X, .bool (decide (val xs < 18446744073709551616))])) ∧ w = w' := by
 by_cases h : val xs < 18446744073709551616
 · rw [decide_eq_true h]
   exact (uint_small h1 hx h).mono fun e w' ⟨he, hw⟩ => ⟨⟨_, he⟩, hw⟩
 · rw [decide_eq_false h]
   exact (uint_big h1 hx (by omega)).mono fun e w' ⟨he, hw⟩ => ⟨⟨_, he⟩, hw⟩
theorem gcd_any {u v : Value} {xs ys : List Int} {a b : Option Addr} {capa capb : Nat} {w : World} (h1 : Arg w u xs a capa) (h2 : Arg w v ys b capb) (hx : xs.length ≤ 134217728) (hy : ys.length ≤ 134217728) :
 Calls Tryz.prog 135 #[u, v] w fun e w' => ∃ r zs, e = .returned r ∧ Res w.heap.size w' r zs (Int.gcd (val xs) (val ys) : Int) ∧ zs.length ≤ max xs.length ys.length + 2 ∧ Below w.heap.size w w' := by
 obtain ⟨m, hm⟩ : ∃ m, max xs.length ys.length = m := ⟨_, rfl⟩
 have hm2 : m ≤ 134217728 := by omega
 have hmx : xs.length ≤ m := by omega
 have hmy : ys.length ≤ m := by omega
 rw [hm]
 clear hm hx hy
 go_enter Tryz.func135, Tryz.ntmps135
 go_wp2
 go_loopw [0, 1, 5, 6, 7, 8, 9, 10, 11] (fun p q _ _ _ _ _ _ _ wr => ∃ (p' q' : Value) (us vs : List Int) (ad bd : Option Addr) (cp cq : Nat), p' = p ∧ q' = q ∧ Arg wr p' us ad cp ∧ Arg wr q' vs bd cq ∧ us.length ≤ m ∧ vs.length ≤ m ∧ Int.gcd (val us) (val vs) = Int.gcd (val xs) (val ys) ∧ Below w.heap.size w wr) (fun _ q _ _ _ _ _ _ _ wr => leftN wr q)
 case atStart => exact ⟨u, v, xs, ys, a, b, capa, capb, rfl, rfl, h1, h2, hmx, hmy, rfl, Below.refl _ _⟩
 case round =>
  obtain ⟨p, q, us, vs, ad, bd, cp, cq, rfl, rfl, A1, A2, hu, hv, hg, hb⟩ := hrel
  have hsz := hb.size
  have HG := Lib.hid hg
  clear hg h1 h2
  have hbits := bits_res A2 (by omega) (bitsN_is A2.wf)
  obtain ⟨nb, hnb⟩ : ∃ nb, bitsN vs = nb := ⟨_, rfl⟩
  have hbp := bits_pos A2.wf
  rw [hnb] at hbits hbp
  have hu0 := val_nonneg A1.wf
  have hv0 := val_nonneg A2.wf
  clear hnb
  by_cases hgo : 0 < nb
  · have hpos := hbp.2 hgo
    have hgo2 : (0 : Int) < (nb : Int) := by omega
    by_cases hs : val us < 18446744073709551616 ∧ val vs < 18446744073709551616
    · obtain ⟨hs1, hs2⟩ := hs
      go_wp2_with fail
      refine hbits.mono ?_
      rintro e w' ⟨rfl, rfl⟩
      clear hbits
      go_wp2_with fail
      refine (uint_small A1 (by omega) hs1).mono ?_
      rintro e w' ⟨rfl, rfl⟩
      go_wp2_with fail
      refine (uint_small A2 (by omega) hs2).mono ?_
      rintro e w' ⟨rfl, rfl⟩
      go_wp2_with fail
      refine (shortGcd_any (val us) (val vs) _ ⟨hu0, hs1⟩ ⟨hv0, hs2⟩).mono ?_
      rintro e w2 ⟨rfl, hb2⟩
      have hgl : (Int.gcd (val us) (val vs) : Int) < 18446744073709551616 := by
       have h3 : Int.gcd (val us) (val vs) ∣ (val vs).natAbs := Int.gcd_dvd_natAbs_right _ _
       have h4 := Nat.le_of_dvd (by omega) h3
       omega
      have hs3 := hb2.size
      go_wp2_with fail
      refine (ofN_any _ _ (Int.natCast_nonneg _) hgl).mono ?_
      rintro e w3 ⟨r3, z3, rfl, q3, n3, hb3⟩
      have hB := (hb.trans (hb2.mono hsz)).trans (hb3.mono (by omega))
      have q3e := q3.eq
      rw [HG.out] at q3e
      have HE := Lib.hid q3e
      clear q3e hgl hs1 hs2 hgo2 hpos hbp
      go_wp2_with fail
      go_ret
      exact ⟨r3, z3, rfl, ⟨q3.num.mono (by omega), q3.wf, q3.full, HE.out⟩, by omega, hB⟩
    · by_cases hs1 : val us < 18446744073709551616
      · have hs2 : ¬ val vs < 18446744073709551616 := fun h => hs ⟨hs1, h⟩
        have d1 : decide (val us < 18446744073709551616) = true := decide_eq_true hs1
        have d2 : decide (val vs < 18446744073709551616) = false := decide_eq_false hs2
        have u1 := uint_gen A1 (by omega)
        have u2 := uint_gen A2 (by omega)
        rw [d1] at u1
        rw [d2] at u2
        clear d1 d2
        go_wp2_with fail
        refine hbits.mono ?_
        rintro e w' ⟨rfl, rfl⟩
        clear hbits
        go_wp2_with fail
        refine u1.mono ?_
        rintro e w' ⟨⟨X, rfl⟩, rfl⟩
        go_wp2_with fail
        refine u2.mono ?_
        rintro e w' ⟨⟨Y, rfl⟩, rfl⟩
        go_wp2_with fail
        refine (div_any A1 A2 (by omega) (by omega) hpos).mono ?_
        rintro e w2 ⟨r2, s2, rfl, hb2, _, ⟨z2, q2, n2, n2'⟩⟩
        obtain ⟨ad2, cap2, A3⟩ := q2.arg
        have A2' := A2.later hb2
        have hB2 := hb.trans (hb2.mono hsz)
        have hl2 := A3.left
        have hleft := A2.left
        have hr1 := Int.emod_lt_of_pos (val us) hpos
        have hr2 := Int.emod_nonneg (val us) (show val vs ≠ 0 by omega)
        have hm3 : leftN w2 s2 < leftN wr q := by rw [hleft, hl2, q2.eq]; omega
        have hg3 : Int.gcd (val vs) (val z2) = Int.gcd (val xs) (val ys) := by rw [q2.eq, gcd_step]; exact HG.out
        have HG3 := Lib.hid hg3
        have HM3 := Lib.hid hm3
        clear hg3 hm3 hr1 hr2 hl2 hleft q2 A1 A2 hb2 hpos hbp hs
        go_wp2
        go_roundw
        case rel => exact ⟨_, _, vs, z2, bd, ad2, cq, cap2, rfl, rfl, A2', A3, hv, by omega, HG3.out, hB2⟩
        case measure => exact HM3.out
      · have d1 : decide (val us < 18446744073709551616) = false := decide_eq_false hs1
        have u1 := uint_gen A1 (by omega)
        have u2 := uint_gen A2 (by omega)
        rw [d1] at u1
        generalize decide (val vs < 18446744073709551616) = f2 at u2
        clear d1
        go_wp2_with fail
        refine hbits.mono ?_
        rintro e w' ⟨rfl, rfl⟩
        clear hbits
        go_wp2_with fail
        refine u1.mono ?_
        rintro e w' ⟨⟨X, rfl⟩, rfl⟩
        go_wp2_with fail
        refine u2.mono ?_
        rintro e w' ⟨⟨Y, rfl⟩, rfl⟩
        go_wp2_with fail
        refine (div_any A1 A2 (by omega) (by omega) hpos).mono ?_
        rintro e w2 ⟨r2, s2, rfl, hb2, _, ⟨z2, q2, n2, n2'⟩⟩
        obtain ⟨ad2, cap2, A3⟩ := q2.arg
        have A2' := A2.later hb2
        have hB2 := hb.trans (hb2.mono hsz)
        have hl2 := A3.left
        have hleft := A2.left
        have hr1 := Int.emod_lt_of_pos (val us) hpos
        have hr2 := Int.emod_nonneg (val us) (show val vs ≠ 0 by omega)
        have hm3 : leftN w2 s2 < leftN wr q := by rw [hleft, hl2, q2.eq]; omega
        have hg3 : Int.gcd (val vs) (val z2) = Int.gcd (val xs) (val ys) := by rw [q2.eq, gcd_step]; exact HG.out
        have HG3 := Lib.hid hg3
        have HM3 := Lib.hid hm3
        clear hg3 hm3 hr1 hr2 hl2 hleft q2 A1 A2 hb2 hpos hbp hs
        go_wp2
        go_roundw
        case rel => exact ⟨_, _, vs, z2, bd, ad2, cq, cap2, rfl, rfl, A2', A3, hv, by omega, HG3.out, hB2⟩
        case measure => exact HM3.out
  · have h0 : nb = 0 := by omega
    have hvz : val vs = 0 := by omega
    have hfin : val us = (Int.gcd (val xs) (val ys) : Int) := by rw [← HG.out, hvz]; exact (gcd_end hu0).symm
    have HF := Lib.hid hfin
    subst h0
    have hd : decide ((0 : Int) < ((0 : Nat) : Int)) = false := by decide
    clear hfin hvz hbp
    go_wp2_with fail
    refine hbits.mono ?_
    rintro e w' ⟨rfl, rfl⟩
    clear hbits
    go_wp2_with fail
    refine (trim_res A1 (by omega)).mono ?_
    rintro e w3 ⟨r3, z3, rfl, q3, n3, hb3⟩
    have hB := hb.trans (hb3.mono hsz)
    have HE := Lib.hid (q3.eq.trans HF.out)
    go_wp2_with fail
    go_ret
    exact ⟨r3, z3, rfl, ⟨q3.num.mono hsz, q3.wf, q3.full, HE.out⟩, by omega, hB⟩
end
section
open Go.RowKit
def intQ (n : Int) : Rat := ratOf (decide (n < 0)) (n.natAbs : Int) 1
theorem intQ_parts (n : Int) : decide ((intQ n).num < 0) = decide (n < 0) ∧ ((intQ n).num.natAbs : Int) = (n.natAbs : Int) ∧ ((intQ n).den : Int) = 1 := by
 unfold intQ
 have hg : (Int.gcd (n.natAbs : Int) 1 : Int) = 1 := by simp
 refine ⟨ratOf_neg (by omega) (by omega) fun h => decide_eq_false (by omega), ?_, ?_⟩
 · rw [ratOf_abs (by omega) (by omega), hg, Int.ediv_one]
 · rw [ratOf_den (by omega), hg]; rfl
theorem intQ_zero : intQ 0 = 0 := by unfold intQ; exact ratOf_zero_left _ _
theorem int_any (n : Int) (w : World) (h0 : -9223372036854775808 ≤ n) (h1 : n ≤ 9223372036854775807) :
 Calls Tryz.prog 148 #[.int .i64 n] w fun e w' => ∃ r, e = .returned r ∧ ResQ w.heap.size w' r (intQ n) 2 ∧ Below w.heap.size w w' := by
 obtain ⟨p1, p2, p3⟩ := intQ_parts n
 obtain ⟨d, hd⟩ : ∃ d, decide (n < 0) = d := ⟨_, rfl⟩
 rw [hd] at p1
 have P1 := Lib.hid p1
 have P2 := Lib.hid p2
 have P3 := Lib.hid p3
 clear p1 p2 p3
 have R := Row.new w 54 #[.bool false, .slice none 0 0, .slice none 0 0]
 have hB := (Below.refl w.heap.size w).alloc (Nat.le_refl _) (.cells #[.bool false, .slice none 0 0, .slice none 0 0] 54)
 go_enter Tryz.func148, Tryz.ntmps148
 go_wp2_with fail
 refine (size_any n _ h0 h1).mono ?_
 rintro e w1 ⟨r1, z1, rfl, q1, n1, hb1⟩
 obtain ⟨ad1, c1, rfl, q1, A1⟩ := q1.slice
 replace R := R.later hb1
 have hs0 : w.heap.size + 1 ≤ w1.heap.size := by have := hb1.size; simpa using this
 replace hB := hB.trans (hb1.mono (by simp))
 go_wp2_with fail
 refine (ofN_any 1 _ (by omega) (by omega)).mono ?_
 rintro e w2 ⟨r2, z2, rfl, q2, n2, hb2⟩
 obtain ⟨ad2, c2, rfl, q2, A2⟩ := q2.slice
 replace R := R.later hb2
 replace hB := hB.trans (hb2.mono (by omega))
 replace q1 := q1.later hb2
 obtain ⟨c0, c1', c2', f0, f1, f2⟩ := R.three
 go_wp2_with fail
 refine bodyPost_ret (v := .agg #[.bool d, .slice ad1 z1.length c1, .slice ad2 z2.length c2]) (by simp [results, Tryz.results148, go_sem, c0, c1', c2']) rfl ⟨_, rfl, ?_, below_set3 hB (Nat.le_refl _) _ _ _⟩
 refine ⟨z1, z2, ad1, ad2, c1, c2, by rw [P1.out], ?_, ?_, n1, n2⟩
 · rw [P2.out]
   exact (q1.kept (kept3 _ _ _) (by simp)).mono (by simp)
 · rw [P3.out]
   exact (q2.kept (kept3 _ _ _) (by omega)).mono (by omega)
end
section
open Go.RowKit
def prodK (X Y : Int) : Nat → Int
 | 0 => 1
 | 1 => X
 | _ => X * Y
theorem product_any {xs ys : List Int} {ad bd : Option Addr} {ca cb g m : Nat} {w : World} (R : Row w g 52 #[.slice ad xs.length ca, .slice bd ys.length cb])
 (A : Arg w (.slice ad xs.length ca) xs ad ca) (B : Arg w (.slice bd ys.length cb) ys bd cb) (hx : xs.length ≤ m) (hy : ys.length ≤ m) (hm : m ≤ 1073741824) :
 Calls Tryz.prog 140 #[.slice (some ⟨g, 0, none⟩) 2 2] w fun e w' => ∃ r zs, e = .returned r ∧ Res w.heap.size w' r zs (val xs * val ys) ∧ zs.length ≤ 2 * m + 2 ∧ Below w.heap.size w w' := by
 go_enter Tryz.func140, Tryz.ntmps140
 go_wp2_with fail
 refine (ofN_any 1 _ (by omega) (by omega)).mono ?_
 rintro e w0 ⟨r0, z0, rfl, q0, n0, hb0⟩
 go_wp2_with fail
 go_loopw [3, 5, 9] (fun p _ i wr => ∃ (k : Nat) (q : Value) (us : List Int), q = p ∧ i = .int .i64 k ∧ k ≤ 2 ∧ Res w.heap.size wr q us (prodK (val xs) (val ys) k) ∧ us.length ≤ k * m + 2 ∧ Below w.heap.size w wr) (fun _ _ i _ => 2 - (intOf i).toNat)
 case atStart => exact ⟨0, _, z0, rfl, rfl, by omega, q0, by omega, hb0⟩
 case round =>
  obtain ⟨k, q, us, rfl, rfl, hk, hq, hl, hb⟩ := hrel
  have hsz := hb.size
  clear q0 n0 hb0
  have R' := R.below hb R.lt
  obtain ⟨c0, c1, _, _⟩ := R'.two
  have A' := A.later hb
  have B' := B.later hb
  obtain ⟨adq, cq, rfl, hq, AQ⟩ := hq.slice
  match k, hk, hl, hq with
  | 0, _, hl, hq =>
   have hl0 : us.length ≤ 2 := by omega
   go_wp2_with fail
   refine (mul_res AQ A' (by omega) (by omega)).mono ?_
   rintro e w2 ⟨r2, z2, rfl, q2, n2, hb2⟩
   have hv : val us * val xs = prodK (val xs) (val ys) 1 := by rw [hq.eq]; show 1 * val xs = val xs; omega
   have HV := Lib.hid hv
   clear hv
   go_wp2_with fail
   go_roundw
   case rel => exact ⟨1, r2, z2, rfl, rfl, by omega, ⟨q2.num.mono hsz, q2.wf, q2.full, q2.eq.trans HV.out⟩, by omega, hb.trans (hb2.mono hsz)⟩
   case measure => simp [intOf]
  | 1, _, hl, hq =>
   go_wp2_with fail
   refine (mul_res AQ B' (by omega) (by omega)).mono ?_
   rintro e w2 ⟨r2, z2, rfl, q2, n2, hb2⟩
   have hv : val us * val ys = prodK (val xs) (val ys) 2 := by rw [hq.eq]; rfl
   have HV := Lib.hid hv
   clear hv
   go_wp2_with fail
   go_roundw
   case rel => exact ⟨2, r2, z2, rfl, rfl, by omega, ⟨q2.num.mono hsz, q2.wf, q2.full, q2.eq.trans HV.out⟩, by omega, hb.trans (hb2.mono hsz)⟩
   case measure => simp [intOf]
  | 2, _, hl, hq =>
   go_wp2_with fail
   go_ret
   exact ⟨_, us, rfl, hq, by omega, hb⟩
theorem over_any {m n2 n3 c1 c2 c3 c4 : Nat} {w : World} {neg neg' : Bool} {xs ys : List Int} {a1 a2 a3 a4 : Option Addr}
 (A : Arg w (.slice a1 xs.length c1) xs a1 c1) (B : Arg w (.slice a4 ys.length c4) ys a4 c4) (hx : xs.length ≤ m) (hy : ys.length ≤ m) (hm : m ≤ 1073741824) :
 Calls Tryz.prog 120 #[.agg #[.bool neg, .slice a1 xs.length c1, .slice a2 n2 c2], .agg #[.bool neg', .slice a3 n3 c3, .slice a4 ys.length c4]] w fun e w' =>
  ∃ r, e = .returned r ∧ SgnQ w' r (sgn neg (val xs * val ys)) (2 * m + 2) ∧ Below w.heap.size w w' := by
 obtain ⟨W, hW⟩ : ∃ W, (((w.alloc (.cells #[.bool neg, .slice a1 xs.length c1, .slice a2 n2 c2] 54)).alloc (.cells #[.bool neg', .slice a3 n3 c3, .slice a4 ys.length c4] 54)).alloc (.cells #[.bool false, .slice none 0 0] 157)) = W := ⟨_, rfl⟩
 have R0 : Row W (w.heap.size) 54 #[.bool neg, .slice a1 xs.length c1, .slice a2 n2 c2] := by rw [← hW]; exact (((Row.new _ _ _).alloc _).alloc _)
 have R1 : Row W (w.heap.size + 1) 54 #[.bool neg', .slice a3 n3 c3, .slice a4 ys.length c4] := by rw [← hW]; have h := (Row.new (w.alloc (.cells #[.bool neg, .slice a1 xs.length c1, .slice a2 n2 c2] 54)) 54 #[.bool neg', .slice a3 n3 c3, .slice a4 ys.length c4]); simp only [World.size_alloc] at h; exact (h.alloc _)
 have R2 : Row W (w.heap.size + 1 + 1) 157 #[.bool false, .slice none 0 0] := by rw [← hW]; have h := (Row.new ((w.alloc (.cells #[.bool neg, .slice a1 xs.length c1, .slice a2 n2 c2] 54)).alloc (.cells #[.bool neg', .slice a3 n3 c3, .slice a4 ys.length c4] 54)) 157 #[.bool false, .slice none 0 0]); simp only [World.size_alloc] at h; exact h
 have hBW : Below w.heap.size w W := by rw [← hW]; exact ((((Below.refl _ _).alloc (by (try simp) <;> omega) _).alloc (by (try simp) <;> omega) _).alloc (by (try simp) <;> omega) _)
 have hsW : w.heap.size + 1 + 1 + 1 ≤ W.heap.size := by rw [← hW]; simp
 have mkS : ∀ X, Below (w.heap.size + 1 + 1) W X → X.cell? ⟨w.heap.size, 0, none⟩ = some (.bool neg) ∧ X.cell? ⟨w.heap.size, 1, none⟩ = some (.slice a1 xs.length c1) ∧ X.cell? ⟨w.heap.size + 1, 2, none⟩ = some (.slice a4 ys.length c4) ∧ Below w.heap.size w X ∧ Below (w.heap.size + 1 + 1) W X := fun X h => ⟨(R0.below h (by omega)).cell 0, (R0.below h (by omega)).cell 1, (R1.below h (by omega)).cell 2, hBW.trans (h.mono (by omega)), h⟩
 go_enter Tryz.func120, Tryz.ntmps120
 go_wp2_with fail
 clear hW
 go_region_held3 (fun X => X.cell? ⟨w.heap.size, 0, none⟩ = some (.bool neg) ∧ X.cell? ⟨w.heap.size, 1, none⟩ = some (.slice a1 xs.length c1) ∧ X.cell? ⟨w.heap.size + 1, 2, none⟩ = some (.slice a4 ys.length c4) ∧ Below w.heap.size w X ∧ Below (w.heap.size + 1 + 1) W X)
  (((refine mkS _ ?_; (repeat' (first | exact Below.refl _ _ | refine Below.drew ?_ | refine Below.alloc ?_ (by (try simp) <;> omega) _ | refine below_set3 ?_ (by (try simp) <;> omega) _ _ _ | refine below_set2 ?_ (by (try simp) <;> omega) _ _ | refine Below.setCell ?_ (by (try simp) <;> omega) _ | refine Below.trans ?_ (Below.mono (by assumption) (by (try simp) <;> omega)))))))
  ((go_at_call 140; refine (product_any (by first | exact Row.new _ _ _ | exact (Row.new _ _ _).drew) (A.later (by (repeat' (first | exact Below.refl _ _ | exact hBW | refine Below.drew ?_ | refine Below.alloc ?_ (by (try simp) <;> omega) _ | refine below_set3 ?_ (by (try simp) <;> omega) _ _ _ | refine below_set2 ?_ (by (try simp) <;> omega) _ _ | refine Below.setCell ?_ (by (try simp) <;> omega) _ | refine Below.trans ?_ (Below.mono (by assumption) (by (try simp) <;> omega)))))) (B.later (by (repeat' (first | exact Below.refl _ _ | exact hBW | refine Below.drew ?_ | refine Below.alloc ?_ (by (try simp) <;> omega) _ | refine below_set3 ?_ (by (try simp) <;> omega) _ _ _ | refine below_set2 ?_ (by (try simp) <;> omega) _ _ | refine Below.setCell ?_ (by (try simp) <;> omega) _ | refine Below.trans ?_ (Below.mono (by assumption) (by (try simp) <;> omega)))))) hx hy hm).mono ?_; rintro e w2 ⟨r2, z2, rfl, q2, l2, hb2⟩; have hs2 := hb2.size; simp at hs2; obtain ⟨ad2, cp2, rfl, q2, A2⟩ := q2.slice; have R2' := R2.later (show Below W.heap.size W w2 by (repeat' (first | exact Below.refl _ _ | refine Below.drew ?_ | refine Below.alloc ?_ (by (try simp) <;> omega) _ | refine below_set3 ?_ (by (try simp) <;> omega) _ _ _ | refine below_set2 ?_ (by (try simp) <;> omega) _ _ | refine Below.setCell ?_ (by (try simp) <;> omega) _ | refine Below.trans ?_ (Below.mono (by assumption) (by (try simp) <;> omega))))); obtain ⟨u0, u1, g0, g1⟩ := R2'.two))
 go_wp2_with fail
 refine bodyPost_ret (v := .agg #[.bool neg, .slice ad2 z2.length cp2]) (by simp [results, Tryz.results120, go_sem, u0, u1]) rfl ⟨_, rfl, ?_, ?_⟩
 · exact ⟨neg, z2, ad2, cp2, rfl, (q2.kept (kept2 _ _) (by simp; omega)).at_.2, by rw [q2.eq], l2⟩
 · (repeat' (first | exact Below.refl _ _ | exact hBW | refine Below.drew ?_ | refine Below.alloc ?_ (by (try simp) <;> omega) _ | refine below_set3 ?_ (by (try simp) <;> omega) _ _ _ | refine below_set2 ?_ (by (try simp) <;> omega) _ _ | refine Below.setCell ?_ (by (try simp) <;> omega) _ | refine Below.trans ?_ (Below.mono (by assumption) (by (try simp) <;> omega))))
end
section
open Go.RowKit
theorem ArgQ.box {w : World} {v : Value} {X : Rat} {n : Nat} (h : ArgQ w v X n) : ∃ (neg : Bool) (xs ys : List Int) (ad bd : Option Addr) (ca cb : Nat), v = .agg #[.bool neg, .slice ad xs.length ca, .slice bd ys.length cb] := by
 obtain ⟨neg, xs, ys, ad, bd, ca, cb, rfl, _⟩ := h
 exact ⟨neg, xs, ys, ad, bd, ca, cb, rfl⟩
theorem plain_any {n : Nat} {w : World} {v : Value} {X : Rat} (h : ArgQ w v X n) (hn : n ≤ 2147483648) :
 Calls Tryz.prog 118 #[v] w fun e w' => ∃ r, e = .returned r ∧ PlainQ w' r X (n + 2) ∧ Below w.heap.size w w' := by
 obtain ⟨neg, xs, ys, a1, a2, c1, c2, rfl, A, B, hX, hx, hy⟩ := h
 obtain ⟨W, hW⟩ : ∃ W, ((w.alloc (.cells #[.bool neg, .slice a1 xs.length c1, .slice a2 ys.length c2] 54)).alloc (.cells #[.bool false, .slice none 0 0, .slice none 0 0] 54)) = W := ⟨_, rfl⟩
 have R0 : Row W (w.heap.size) 54 #[.bool neg, .slice a1 xs.length c1, .slice a2 ys.length c2] := by rw [← hW]; exact ((Row.new _ _ _).alloc _)
 have R1 : Row W (w.heap.size + 1) 54 #[.bool false, .slice none 0 0, .slice none 0 0] := by rw [← hW]; have h := (Row.new (w.alloc (.cells #[.bool neg, .slice a1 xs.length c1, .slice a2 ys.length c2] 54)) 54 #[.bool false, .slice none 0 0, .slice none 0 0]); simp only [World.size_alloc] at h; exact h
 have hBW : Below w.heap.size w W := by rw [← hW]; exact (((Below.refl _ _).alloc (by (try simp) <;> omega) _).alloc (by (try simp) <;> omega) _)
 have hsW : w.heap.size + 1 + 1 ≤ W.heap.size := by rw [← hW]; simp
 have A' := A.later hBW
 have B' := B.later hBW
 obtain ⟨e0, e1, e2, _, _, _⟩ := R0.three
 have hb1 := bits_res A' (by omega) (bitsN_is A.wf)
 have hp1 := bits_pos A.wf
 have hb2 := bits_res B' (by omega) (bitsN_is B.wf)
 have hp2 := bits_pos B.wf
 have h01 := val_nonneg A.wf
 have h02 := val_nonneg B.wf
 obtain ⟨m1, hm1⟩ : ∃ m, bitsN xs = m := ⟨_, rfl⟩
 obtain ⟨m2, hm2⟩ : ∃ m, bitsN ys = m := ⟨_, rfl⟩
 rw [hm1] at hb1 hp1
 rw [hm2] at hb2 hp2
 clear hm1 hm2
 by_cases z1 : val xs = 0
 · have hX0 : X = 0 := by rw [← hX, z1]; exact ratOf_zero_left _ _
   have HX := Lib.hid hX0
   have d1 : ((m1 : Int) == 0) = true := by obtain rfl : m1 = 0 := by omega
                                            rfl
   clear hX hX0 z1 hp1 hp2 h01 h02
   go_enter Tryz.func118, Tryz.ntmps118
   go_wp2_with fail
   refine hb1.mono ?_
   rintro e w' ⟨rfl, rfl⟩
   clear hb1 hb2
   go_wp2_with fail
   refine (int_any 0 _ (by omega) (by omega)).mono ?_
   rintro e w2 ⟨r2, rfl, q2, hb2⟩
   have P2 := q2.plain
   obtain ⟨neg', us, vs, b1, b2, k1, k2, rfl⟩ := q2.arg.box
   have R1' := R1.later hb2
   clear e0 e1 e2 hW
   obtain ⟨u0, u1, u2, g0, g1, g2⟩ := R1'.three
   go_wp2_with fail
   refine bodyPost_ret (v := .agg #[.bool neg', .slice b1 us.length k1, .slice b2 vs.length k2]) (by simp [results, Tryz.results118, go_sem, u0, u1, u2]) rfl ⟨_, rfl, ?_, below_set3 (hBW.trans (hb2.mono (by omega))) (by omega) _ _ _⟩
   rw [HX.out, ← intQ_zero]
   exact (P2.far R1' (noInts3 _ _ _ _ _ _ _) (kept3 _ _ _)).more (by omega)
 · by_cases z2 : val ys = 0
   · have hX0 : X = 0 := by rw [← hX, z2]; exact ratOf_zero_right _ _
     have HX := Lib.hid hX0
     have d1 : ((m1 : Int) == 0) = false := by simp; omega
     have d2 : ((m2 : Int) == 0) = true := by obtain rfl : m2 = 0 := by omega
                                              rfl
     clear hX hX0 z1 z2 hp1 hp2 h01 h02
     go_enter Tryz.func118, Tryz.ntmps118
     go_wp2_with fail
     refine hb1.mono ?_
     rintro e w' ⟨rfl, rfl⟩
     clear hb1
     go_wp2_with fail
     refine hb2.mono ?_
     rintro e w' ⟨rfl, rfl⟩
     clear hb2
     go_wp2_with fail
     refine (int_any 0 _ (by omega) (by omega)).mono ?_
     rintro e w2 ⟨r2, rfl, q2, hb2⟩
     have P2 := q2.plain
     obtain ⟨neg', us, vs, b1, b2, k1, k2, rfl⟩ := q2.arg.box
     have R1' := R1.later hb2
     clear e0 e1 e2 hW
     obtain ⟨u0, u1, u2, g0, g1, g2⟩ := R1'.three
     go_wp2_with fail
     refine bodyPost_ret (v := .agg #[.bool neg', .slice b1 us.length k1, .slice b2 vs.length k2]) (by simp [results, Tryz.results118, go_sem, u0, u1, u2]) rfl ⟨_, rfl, ?_, below_set3 (hBW.trans (hb2.mono (by omega))) (by omega) _ _ _⟩
     rw [HX.out, ← intQ_zero]
     exact (P2.far R1' (noInts3 _ _ _ _ _ _ _) (kept3 _ _ _)).more (by omega)
   · have HX := Lib.hid hX
     have d1 : ((m1 : Int) == 0) = false := by simp; omega
     have d2 : ((m2 : Int) == 0) = false := by simp; omega
     have hpos : 0 < val ys := by omega
     have hn0 : val xs = 0 → neg = false := fun h => absurd h z1
     clear hX z1 z2 hp1 hp2 h01 h02
     obtain ⟨u0, u1, u2, g0, g1, g2⟩ := R1.three
     have HN := Lib.hid hn0
     clear hn0
     go_enter Tryz.func118, Tryz.ntmps118
     go_wp2_with fail
     refine hb1.mono ?_
     rintro e w' ⟨rfl, rfl⟩
     clear hb1
     go_wp2_with fail
     refine hb2.mono ?_
     rintro e w' ⟨rfl, rfl⟩
     clear hb2 hW
     go_wp2_with fail
     refine bodyPost_ret (v := .agg #[.bool neg, .slice a1 xs.length c1, .slice a2 ys.length c2]) (by simp [results, Tryz.results118, go_sem, u0, u1, u2]) rfl ⟨_, rfl, ?_, below_set3 hBW (by omega) _ _ _⟩
     exact ⟨neg, xs, ys, a1, a2, c1, c2, rfl, A'.far R1 (noInts3 _ _ _ _ _ _ _) (kept3 _ _ _), B'.far R1 (noInts3 _ _ _ _ _ _ _) (kept3 _ _ _), HX.out, by omega, by omega, hpos, HN.out⟩
theorem side_any {w : World} {g : Nat} {xs gs : List Int} {a1 gd : Option Addr} {c1 gc : Nat} (G : w.cell? ⟨g, 0, none⟩ = some (.slice gd gs.length gc)) (Ag : Arg w (.slice gd gs.length gc) gs gd gc)
 (A : Arg w (.slice a1 xs.length c1) xs a1 c1) (hpos : 0 < val gs) (hx : xs.length ≤ 134217728) (hg : gs.length ≤ 134217728) :
 Calls Tryz.prog 137 #[.slice a1 xs.length c1, .pointer (some ⟨g, 0, none⟩)] w fun e w' => ∃ r zs, e = .returned r ∧ Res w.heap.size w' r zs (val xs / val gs) ∧ zs.length ≤ xs.length ∧ Below w.heap.size w w' := by
 go_enter Tryz.func137, Tryz.ntmps137
 go_wp2_with fail
 refine (div_any A Ag hx hg hpos).mono ?_
 rintro e w2 ⟨r2, s2, rfl, hb2, ⟨z2, q2, l2⟩, _⟩
 clear G
 go_wp2_with fail
 go_ret
 exact ⟨r2, z2, rfl, q2, l2, hb2⟩
theorem bothNorm_any {w : World} {g : Nat} {neg : Bool} {xs ys gs : List Int} {a1 a2 gd : Option Addr} {c1 c2 gc : Nat} (G : w.cell? ⟨g, 0, none⟩ = some (.slice gd gs.length gc)) (Ag : Arg w (.slice gd gs.length gc) gs gd gc)
 (A : Arg w (.slice a1 xs.length c1) xs a1 c1) (B : Arg w (.slice a2 ys.length c2) ys a2 c2) (hpos : 0 < val gs) (hx : xs.length ≤ 134217728) (hy : ys.length ≤ 134217728) (hg : gs.length ≤ 134217728) :
 Calls Tryz.prog 136 #[.agg #[.bool neg, .slice a1 xs.length c1, .slice a2 ys.length c2], .func (.func 137) #[] #[.pointer (some ⟨g, 0, none⟩)]] w fun e w' => ∃ r, e = .returned r ∧ ∃ (us vs : List Int) (b1 b2 : Option Addr) (k1 k2 : Nat), r = .agg #[.bool neg, .slice b1 us.length k1, .slice b2 vs.length k2] ∧
  Res w.heap.size w' (.slice b1 us.length k1) us (val xs / val gs) ∧ Res w.heap.size w' (.slice b2 vs.length k2) vs (val ys / val gs) ∧ us.length ≤ xs.length ∧ vs.length ≤ ys.length ∧ Below w.heap.size w w' := by
 have hgl := World.block_lt_of_cell? w _ G
 obtain ⟨W, hW⟩ : ∃ W, ((w.alloc (.cells #[.bool neg, .slice a1 xs.length c1, .slice a2 ys.length c2] 54)).alloc (.cells #[.bool false, .slice none 0 0, .slice none 0 0] 54)) = W := ⟨_, rfl⟩
 have R0 : Row W (w.heap.size) 54 #[.bool neg, .slice a1 xs.length c1, .slice a2 ys.length c2] := by rw [← hW]; exact ((Row.new _ _ _).alloc _)
 have R1 : Row W (w.heap.size + 1) 54 #[.bool false, .slice none 0 0, .slice none 0 0] := by rw [← hW]; have h := (Row.new (w.alloc (.cells #[.bool neg, .slice a1 xs.length c1, .slice a2 ys.length c2] 54)) 54 #[.bool false, .slice none 0 0, .slice none 0 0]); simp only [World.size_alloc] at h; exact h
 have hBW : Below w.heap.size w W := by rw [← hW]; exact (((Below.refl _ _).alloc (by (try simp) <;> omega) _).alloc (by (try simp) <;> omega) _)
 have hsW : w.heap.size + 1 + 1 ≤ W.heap.size := by rw [← hW]; simp
 have mkS : ∀ X, Below (w.heap.size + 1) W X → X.cell? ⟨w.heap.size, 0, none⟩ = some (.bool neg) ∧ X.cell? ⟨w.heap.size, 1, none⟩ = some (.slice a1 xs.length c1) ∧ X.cell? ⟨w.heap.size, 2, none⟩ = some (.slice a2 ys.length c2) ∧ Below w.heap.size w X ∧ Below (w.heap.size + 1) W X := fun X h => ⟨(R0.below h (by omega)).cell 0, (R0.below h (by omega)).cell 1, (R0.below h (by omega)).cell 2, hBW.trans (h.mono (by omega)), h⟩
 go_enter Tryz.func136, Tryz.ntmps136
 go_wp2_with fail
 clear hW
 go_region_held3 (fun X => X.cell? ⟨w.heap.size, 0, none⟩ = some (.bool neg) ∧ X.cell? ⟨w.heap.size, 1, none⟩ = some (.slice a1 xs.length c1) ∧ X.cell? ⟨w.heap.size, 2, none⟩ = some (.slice a2 ys.length c2) ∧ Below w.heap.size w X ∧ Below (w.heap.size + 1) W X)
  (((refine mkS _ ?_; (repeat' (first | exact Below.refl _ _ | refine Below.drew ?_ | refine Below.alloc ?_ (by (try simp) <;> omega) _ | refine below_set3 ?_ (by (try simp) <;> omega) _ _ _ | refine below_set2 ?_ (by (try simp) <;> omega) _ _ | refine Below.setCell ?_ (by (try simp) <;> omega) _ | refine Below.trans ?_ (Below.mono (by assumption) (by (try simp) <;> omega)))))))
  ((first
   | (have HB : Below w.heap.size w _ := (‹_ ∧ _ ∧ _ ∧ Below w.heap.size w _ ∧ _›).2.2.2.1; go_at_call 137; first
    | ((with_reducible refine (side_any (((HB).cell (p := ⟨g, 0, none⟩) hgl).trans G) (Ag.later HB) (A.later HB) hpos (by omega) (by omega)).mono ?_); rintro e w2 ⟨r2, z2, rfl, q2, l2, hb2⟩; have hs2 := hb2.size; (try simp at hs2); obtain ⟨ad2, cp2, rfl, q2, A2⟩ := q2.slice; clear HB)
    | ((with_reducible refine (side_any (((HB).cell (p := ⟨g, 0, none⟩) hgl).trans G) (Ag.later HB) (B.later HB) hpos (by omega) (by omega)).mono ?_); rintro e w3 ⟨r3, z3, rfl, q3, l3, hb3⟩; clear HB; have hs3 := hb3.size; (try simp at hs3); obtain ⟨ad3, cp3, rfl, q3, A3⟩ := q3.slice; replace q2 := q2.later hb3; have R1' := R1.later (show Below W.heap.size W w3 by (repeat' (first | exact Below.refl _ _ | refine Below.drew ?_ | refine Below.alloc ?_ (by (try simp) <;> omega) _ | refine below_set3 ?_ (by (try simp) <;> omega) _ _ _ | refine below_set2 ?_ (by (try simp) <;> omega) _ _ | refine Below.setCell ?_ (by (try simp) <;> omega) _ | refine Below.trans ?_ (Below.mono (by assumption) (by (try simp) <;> omega))))); obtain ⟨u0, u1, u2, g0, g1, g2⟩ := R1'.three))))
 go_wp2_with fail
 refine bodyPost_ret (v := .agg #[.bool neg, .slice ad2 z2.length cp2, .slice ad3 z3.length cp3]) (by simp [results, Tryz.results136, go_sem, u0, u1, u2]) rfl ⟨_, rfl, z2, z3, ad2, ad3, cp2, cp3, rfl, ?_, ?_, l2, l3, ?_⟩
 · exact (q2.far R1' (by decide) (kept3 _ _ _)).mono (by (try simp) <;> omega)
 · exact (q3.far R1' (by decide) (kept3 _ _ _)).mono (by (try simp) <;> omega)
 · (repeat' (first | exact Below.refl _ _ | exact hBW | refine Below.drew ?_ | refine Below.alloc ?_ (by (try simp) <;> omega) _ | refine below_set3 ?_ (by (try simp) <;> omega) _ _ _ | refine below_set2 ?_ (by (try simp) <;> omega) _ _ | refine Below.setCell ?_ (by (try simp) <;> omega) _ | refine Below.trans ?_ (Below.mono (by assumption) (by (try simp) <;> omega))))
theorem norm_any {n : Nat} {w : World} {v : Value} {X : Rat} (h : ArgQ w v X n) (hn : n ≤ 67108864) :
 Calls Tryz.prog 90 #[v] w fun e w' => ∃ r, e = .returned r ∧ ResQ w.heap.size w' r X (n + 2) ∧ Below w.heap.size w w' := by
 obtain ⟨neg0, xs0, ys0, e1, e2, k1, k2, rfl⟩ := h.box
 obtain ⟨W, hW⟩ : ∃ W, ((w.alloc (.cells #[.bool neg0, .slice e1 xs0.length k1, .slice e2 ys0.length k2] 54)).alloc (.cells #[.bool false, .slice none 0 0, .slice none 0 0] 54)) = W := ⟨_, rfl⟩
 have R0 : Row W (w.heap.size) 54 #[.bool neg0, .slice e1 xs0.length k1, .slice e2 ys0.length k2] := by rw [← hW]; exact ((Row.new _ _ _).alloc _)
 have R1 : Row W (w.heap.size + 1) 54 #[.bool false, .slice none 0 0, .slice none 0 0] := by rw [← hW]; have h := (Row.new (w.alloc (.cells #[.bool neg0, .slice e1 xs0.length k1, .slice e2 ys0.length k2] 54)) 54 #[.bool false, .slice none 0 0, .slice none 0 0]); simp only [World.size_alloc] at h; exact h
 have hBW : Below w.heap.size w W := by rw [← hW]; exact (((Below.refl _ _).alloc (by (try simp) <;> omega) _).alloc (by (try simp) <;> omega) _)
 have hsW : w.heap.size + 1 + 1 ≤ W.heap.size := by rw [← hW]; simp
 have h' := h.later hBW
 obtain ⟨t0, t1, t2, f0, f1, f2⟩ := R0.three
 have hmf : ∀ (fn : Fn) (first cap : Array Value) (w : World), (Instr.makeFunc fn first cap).run Tryz.prog w = .ok (.func fn first cap) w := fun _ _ _ _ => rfl
 go_enter Tryz.func90, Tryz.ntmps90
 go_wp2_with fail
 refine (plain_any h' (by omega)).mono ?_
 rintro e w1 ⟨r1, rfl, hp, hb1⟩
 have hs1 := hb1.size
 replace R0 := R0.later hb1
 replace R1 := R1.later hb1
 clear t0 t1 t2 f0 f1 f2 hW h h'
 obtain ⟨neg, xs, ys, a1, a2, c1, c2, rfl, A, B, hX, hx, hy, hpos, hn0⟩ := hp
 obtain ⟨t0, t1, t2, f0, f1, f2⟩ := R0.three
 obtain ⟨V, hV⟩ : ∃ V, ((w1.setCell ⟨w.heap.size, 0, none⟩ (.bool neg)).setCell ⟨w.heap.size, 1, none⟩ (.slice a1 xs.length c1)).setCell ⟨w.heap.size, 2, none⟩ (.slice a2 ys.length c2) = V := ⟨_, rfl⟩
 have hBV : Below w.heap.size w V := by rw [← hV]; exact below_set3 (hBW.trans (hb1.mono (by omega))) (by omega) _ _ _
 have hsV : w.heap.size + 1 + 1 ≤ V.heap.size := by rw [← hV]; simp; omega
 have AV : Arg V (.slice a1 xs.length c1) xs a1 c1 := by rw [← hV]; exact A.far R0 (noInts3 _ _ _ _ _ _ _) (kept3 _ _ _)
 have BV : Arg V (.slice a2 ys.length c2) ys a2 c2 := by rw [← hV]; exact B.far R0 (noInts3 _ _ _ _ _ _ _) (kept3 _ _ _)
 have Q0 : Row V (w.heap.size) 54 #[.bool neg, .slice a1 xs.length c1, .slice a2 ys.length c2] := by rw [← hV]; exact R0.set3 _ _ _
 have Q1 : Row V (w.heap.size + 1) 54 #[.bool false, .slice none 0 0, .slice none 0 0] := by rw [← hV]; exact ((R1.far (by simp <;> omega) _).far (by simp <;> omega) _).far (by simp <;> omega) _
 obtain ⟨p0, p1, p2, _, _, _⟩ := Q0.three
 have h0 := val_nonneg A.wf
 have e1 := ratOf_neg h0 hpos hn0
 have e2 := ratOf_abs (n := neg) h0 hpos
 have e3 := ratOf_den (n := neg) (A := val xs) hpos
 have hgp : 0 < (Int.gcd (val xs) (val ys) : Int) := gcd_pos_right hpos
 rw [hX] at e1 e2 e3
 have E1 := Lib.hid e1
 have E2 := Lib.hid e2
 have E3 := Lib.hid e3
 clear e1 e2 e3 hX hn0 R0 R1 A B hb1 hs1
 go_wp2_with fail
 refine (gcd_any AV BV (by omega) (by omega)).mono ?_
 rintro e w2 ⟨r2, gs, rfl, q2, l2, hb2⟩
 have hs2 := hb2.size
 obtain ⟨gd, gc, rfl, q2, Ag⟩ := q2.slice
 have q2e := q2.eq
 have hgs : 0 < val gs := by rw [q2e]; exact hgp
 have QE := Lib.hid q2e
 clear q2e hgp t0 t1 t2 f0 f1 f2 hV p0 p1 p2
 obtain ⟨U, hU⟩ : ∃ U, (w2.alloc (.cells #[.slice none 0 0] 52)).setCell ⟨w2.heap.size, 0, none⟩ (.slice gd gs.length gc) = U := ⟨_, rfl⟩
 have hBU : Below w2.heap.size w2 U := by rw [← hU]; exact ((Below.refl _ _).alloc (by simp) _).setCell (by simp) _
 have hB2 : Below w.heap.size w U := (hBV.trans (hb2.mono (by omega))).trans (hBU.mono (by omega))
 have hsU : U.heap.size = w2.heap.size + 1 := by rw [← hU]; simp
 have G : U.cell? ⟨w2.heap.size, 0, none⟩ = some (.slice gd gs.length gc) := by
  rw [← hU]; exact ((Row.new w2 52 #[.slice none 0 0]).set 0 _).cell 0
 obtain ⟨p0, p1, p2, _, _, _⟩ := ((Q0.later hb2).later hBU).three
 replace Q1 := (Q1.later hb2).later hBU
 have AU := (AV.later hb2).later hBU
 have BU := (BV.later hb2).later hBU
 have AgU := Ag.later hBU
 obtain ⟨pa, pb, pc, _, _, _⟩ := (Q0.later hb2).three
 go_wp2_with fail
 refine (bothNorm_any G AgU AU BU hgs (by omega) (by omega) (by omega)).mono ?_
 rintro e w3 ⟨r3, rfl, us, vs, b1, b2, j1, j2, rfl, q3, q4, l3, l4, hb3⟩
 have hs3 := hb3.size
 replace Q1 := Q1.later hb3
 obtain ⟨u0, u1, u2, g0, g1, g2⟩ := Q1.three
 clear p0 p1 p2 pa pb pc G
 go_wp2_with fail
 refine bodyPost_ret (v := .agg #[.bool neg, .slice b1 us.length j1, .slice b2 vs.length j2]) (by simp [results, Tryz.results90, go_sem, u0, u1, u2]) rfl ⟨_, rfl, ⟨us, vs, b1, b2, j1, j2, by rw [E1.out], ?_, ?_, by omega, by omega⟩, below_set3 (hB2.trans (hb3.mono (by omega))) (by omega) _ _ _⟩
 · rw [E2.out, ← QE.out]
   exact (q3.far Q1 (by decide) (kept3 _ _ _)).mono (by omega)
 · rw [E3.out, ← QE.out]
   exact (q4.far Q1 (by decide) (kept3 _ _ _)).mono (by omega)
end
section
open Go.RowKit
theorem Row.at {w : World} {g : Nat} {t : TypeId} {cs : Array Value} (h : g = w.heap.size) : Row (w.alloc (.cells cs t)) g t cs := h ▸ Row.new w t cs
theorem mulQ_any {n : Nat} {w : World} {u v : Value} {X Y : Rat} (hu : ArgQ w u X n) (hv : ArgQ w v Y n) (hn : n ≤ 16777000) :
 Calls Tryz.prog 93 #[u, v] w fun e w' => ∃ r, e = .returned r ∧ ResQ w.heap.size w' r (X * Y) (2 * n + 4) ∧ Below w.heap.size w w' := by
 obtain ⟨m1, xs, ds, a1, a2, c1, c2, rfl, A, B, hX, hx, hd⟩ := hu
 obtain ⟨m2, zs, es, a3, a4, c3, c4, rfl, C, D, hY, hz, he⟩ := hv
 obtain ⟨W, hW⟩ : ∃ W, (((w.alloc (.cells #[.bool m1, .slice a1 xs.length c1, .slice a2 ds.length c2] 54)).alloc (.cells #[.bool m2, .slice a3 zs.length c3, .slice a4 es.length c4] 54)).alloc (.cells #[.bool false, .slice none 0 0, .slice none 0 0] 54)) = W := ⟨_, rfl⟩
 have R0 : Row W (w.heap.size) 54 #[.bool m1, .slice a1 xs.length c1, .slice a2 ds.length c2] := by rw [← hW]; exact (((Row.new _ _ _).alloc _).alloc _)
 have R1 : Row W (w.heap.size + 1) 54 #[.bool m2, .slice a3 zs.length c3, .slice a4 es.length c4] := by rw [← hW]; have h := (Row.new (w.alloc (.cells #[.bool m1, .slice a1 xs.length c1, .slice a2 ds.length c2] 54)) 54 #[.bool m2, .slice a3 zs.length c3, .slice a4 es.length c4]); simp only [World.size_alloc] at h; exact (h.alloc _)
 have R2 : Row W (w.heap.size + 1 + 1) 54 #[.bool false, .slice none 0 0, .slice none 0 0] := by rw [← hW]; have h := (Row.new ((w.alloc (.cells #[.bool m1, .slice a1 xs.length c1, .slice a2 ds.length c2] 54)).alloc (.cells #[.bool m2, .slice a3 zs.length c3, .slice a4 es.length c4] 54)) 54 #[.bool false, .slice none 0 0, .slice none 0 0]); simp only [World.size_alloc] at h; exact h
 have hBW : Below w.heap.size w W := by rw [← hW]; exact ((((Below.refl _ _).alloc (by (try simp) <;> omega) _).alloc (by (try simp) <;> omega) _).alloc (by (try simp) <;> omega) _)
 have hsW : w.heap.size + 1 + 1 + 1 ≤ W.heap.size := by rw [← hW]; simp
 have hfin : ratOf (!(m1 == m2)) (val xs * val zs) (val ds * val es) = X * Y := by rw [← hX, ← hY]; exact rat_prod m1 m2 _ _ _ _
 have HF := Lib.hid hfin
 clear hfin hX hY
 have mkS : ∀ X, Kept (w.heap.size + 1 + 1) W X → X.cell? ⟨w.heap.size, 0, none⟩ = some (.bool m1) ∧ X.cell? ⟨w.heap.size, 1, none⟩ = some (.slice a1 xs.length c1) ∧ X.cell? ⟨w.heap.size, 2, none⟩ = some (.slice a2 ds.length c2) ∧ X.cell? ⟨w.heap.size + 1, 0, none⟩ = some (.bool m2) ∧ X.cell? ⟨w.heap.size + 1, 1, none⟩ = some (.slice a3 zs.length c3) ∧ X.cell? ⟨w.heap.size + 1, 2, none⟩ = some (.slice a4 es.length c4) ∧ Kept (w.heap.size + 1 + 1) W X := fun X h => ⟨(R0.kept h (by omega)).cell 0, (R0.kept h (by omega)).cell 1, (R0.kept h (by omega)).cell 2, (R1.kept h (by omega)).cell 0, (R1.kept h (by omega)).cell 1, (R1.kept h (by omega)).cell 2, h⟩
 go_enter Tryz.func93, Tryz.ntmps93
 go_wp2_with fail
 clear hW
 go_region_held3 (fun X => X.cell? ⟨w.heap.size, 0, none⟩ = some (.bool m1) ∧ X.cell? ⟨w.heap.size, 1, none⟩ = some (.slice a1 xs.length c1) ∧ X.cell? ⟨w.heap.size, 2, none⟩ = some (.slice a2 ds.length c2) ∧ X.cell? ⟨w.heap.size + 1, 0, none⟩ = some (.bool m2) ∧ X.cell? ⟨w.heap.size + 1, 1, none⟩ = some (.slice a3 zs.length c3) ∧ X.cell? ⟨w.heap.size + 1, 2, none⟩ = some (.slice a4 es.length c4) ∧ Kept (w.heap.size + 1 + 1) W X)
  (((refine mkS _ ?_; (repeat' (first | exact Kept.refl _ _ | refine Kept.drew ?_ | refine Kept.alloc ?_ _ | refine Kept.set ?_ _ _ | refine Kept.below ?_ (by assumption))))))
  ((first
   | (go_at_call 90; refine (norm_any (n := 2 * n + 2) ⟨!(m1 == m2), z3, z4, ad3, ad4, cp3, cp4, rfl, A3', A4, HV.out, by omega, by omega⟩ (by omega)).mono ?_; rintro e w5 ⟨r5, rfl, q5, hb5⟩; obtain ⟨ng, fs, gs, f1, f2, j1, j2, rfl⟩ := q5.arg.box; have P5 := R2.kept (show Kept (w.heap.size + 1 + 1 + 1) W w5 by (repeat' (first | exact Kept.refl _ _ | refine Kept.drew ?_ | refine Kept.alloc ?_ _ | refine Kept.set ?_ _ _ | refine Kept.below ?_ (by assumption)))) (by omega); obtain ⟨u0, u1, u2, g0, g1, g2⟩ := P5.three)
   | (go_at_call 140; refine (product_any (xs := ds) (ys := es) (ad := a2) (bd := a4) (ca := c2) (cb := c4) (by first | (first | exact Row.at (by simp) | exact (Row.at (by simp)).drew | exact (Row.at (by simp)).alloc _ | exact ((Row.at (by simp)).alloc _).drew) | (refine Row.later ?_ hb3; first | exact Row.at (by simp) | exact (Row.at (by simp)).drew | exact (Row.at (by simp)).alloc _ | exact ((Row.at (by simp)).alloc _).drew)) (B.later (Kept.under (show Kept (w.heap.size + 1 + 1) W _ by (repeat' (first | exact Kept.refl _ _ | refine Kept.drew ?_ | refine Kept.alloc ?_ _ | refine Kept.set ?_ _ _ | refine Kept.below ?_ (by assumption)))) hBW (by omega) (by omega))) (D.later (Kept.under (show Kept (w.heap.size + 1 + 1) W _ by (repeat' (first | exact Kept.refl _ _ | refine Kept.drew ?_ | refine Kept.alloc ?_ _ | refine Kept.set ?_ _ _ | refine Kept.below ?_ (by assumption)))) hBW (by omega) (by omega))) hd he (by omega)).mono ?_; rintro e w4 ⟨r4, z4, rfl, q4, l4, hb4⟩; obtain ⟨ad4, cp4, rfl, q4, A4⟩ := q4.slice; have A3' := A3.later (show Below w3.heap.size w3 w4 by (repeat' (first | exact Below.refl _ _ | refine Below.drew ?_ | refine Below.alloc ?_ (by (try simp) <;> omega) _ | refine below_set3 ?_ (by (try simp) <;> omega) _ _ _ | refine below_set2 ?_ (by (try simp) <;> omega) _ _ | refine Below.setCell ?_ (by (try simp) <;> omega) _ | refine Below.trans ?_ (Below.mono (by assumption) (by (try simp) <;> omega))))); have HV := Lib.hid ((show ratOf (!(m1 == m2)) (val z3) (val z4) = ratOf (!(m1 == m2)) (val xs * val zs) (val ds * val es) by rw [q3.eq, q4.eq]).trans HF.out))
   | (go_at_call 140; refine (product_any (xs := xs) (ys := zs) (ad := a1) (bd := a3) (ca := c1) (cb := c3) (by first | (first | exact Row.at (by simp) | exact (Row.at (by simp)).drew | exact (Row.at (by simp)).alloc _ | exact ((Row.at (by simp)).alloc _).drew) | (refine Row.later ?_ hb3; first | exact Row.at (by simp) | exact (Row.at (by simp)).drew | exact (Row.at (by simp)).alloc _ | exact ((Row.at (by simp)).alloc _).drew)) (A.later (Kept.under (show Kept (w.heap.size + 1 + 1) W _ by (repeat' (first | exact Kept.refl _ _ | refine Kept.drew ?_ | refine Kept.alloc ?_ _ | refine Kept.set ?_ _ _ | refine Kept.below ?_ (by assumption)))) hBW (by omega) (by omega))) (C.later (Kept.under (show Kept (w.heap.size + 1 + 1) W _ by (repeat' (first | exact Kept.refl _ _ | refine Kept.drew ?_ | refine Kept.alloc ?_ _ | refine Kept.set ?_ _ _ | refine Kept.below ?_ (by assumption)))) hBW (by omega) (by omega))) hx hz (by omega)).mono ?_; rintro e w3 ⟨r3, z3, rfl, q3, l3, hb3⟩; obtain ⟨ad3, cp3, rfl, q3, A3⟩ := q3.slice)))
 all_goals (
  have hs4 := hb4.size
  have hs5 := hb5.size
  have hk5 := (show Kept (w.heap.size + 1 + 1 + 1) W w5 by (repeat' (first | exact Kept.refl _ _ | refine Kept.drew ?_ | refine Kept.alloc ?_ _ | refine Kept.set ?_ _ _ | refine Kept.below ?_ (by assumption)))).size
  have hk4 := (show Kept (w.heap.size + 1 + 1 + 1) W w4 by (repeat' (first | exact Kept.refl _ _ | refine Kept.drew ?_ | refine Kept.alloc ?_ _ | refine Kept.set ?_ _ _ | refine Kept.below ?_ (by assumption)))).size
  have hK4 := (Kept.under (show Kept (w.heap.size + 1 + 1 + 1) W w5 by (repeat' (first | exact Kept.refl _ _ | refine Kept.drew ?_ | refine Kept.alloc ?_ _ | refine Kept.set ?_ _ _ | refine Kept.below ?_ (by assumption)))) hBW (by omega) (by omega))
  go_wp2_with fail
  refine bodyPost_ret (v := .agg #[.bool ng, .slice f1 fs.length j1, .slice f2 gs.length j2]) (by simp [results, Tryz.results93, go_sem, u0, u1, u2]) rfl ⟨_, rfl, ?_, below_set3 hK4 (by omega) _ _ _⟩
  exact ((q5.far P5 (by decide) (kept3 _ _ _)).mono (by omega)).more (by omega))
end
end Go.Proofs.YtengpgodmbfmkaaGreat
