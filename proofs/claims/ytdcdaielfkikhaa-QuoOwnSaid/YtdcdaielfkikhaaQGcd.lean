/-
  Contracts of package quo: Gcd, Divides, Pow.
-/
import Derived.Test.YtdcdaielfkikhaaQDiv
import Derived.Lib.ItoaNum
namespace Go.Proofs.Ytdcdaielfkikhaa
open Go.RowKit
set_option linter.unusedVariables false
set_option linter.unusedSimpArgs false

set_option maxRecDepth 100000 in
set_option maxHeartbeats 1000000 in
theorem shortGcd_any (x y : Int) (w : World) (hx : 0 ≤ x ∧ x < 18446744073709551616) (hy : 0 ≤ y ∧ y < 18446744073709551616) :
    Calls Try.prog 49 #[.int .u64 x, .int .u64 y] w fun e w' => e = .returned (.int .u64 (Int.gcd x y : Int)) ∧ Below w.heap.size w w' := by
  obtain ⟨hx0, hx1⟩ := hx
  obtain ⟨hy0, hy1⟩ := hy
  go_enter Try.func49, Try.ntmps49
  go_wp2
  go_loopw [0, 1] (fun p q wr => ∃ P Q : Int, p = .int .u64 P ∧ q = .int .u64 Q ∧ 0 ≤ P ∧ P < 18446744073709551616 ∧ 0 ≤ Q ∧ Q < 18446744073709551616 ∧ Int.gcd P Q = Int.gcd x y ∧ Below w.heap.size w wr) (fun _ q _ => (intOf q).toNat)
  case atStart => exact ⟨x, y, rfl, rfl, hx0, hx1, hy0, hy1, rfl, Below.refl _ _⟩
  case round =>
    obtain ⟨P, Q, rfl, rfl, hP0, hP1, hQ0, hQ1, hg, hb⟩ := hrel
    have hsz := hb.size
    have HG := Lib.hid hg
    clear hg
    by_cases hgo : 0 < Q
    · obtain ⟨m, hm⟩ : ∃ m, P % Q = m := ⟨_, rfl⟩
      have htm : Int.tmod P Q = m := by rw [Int.tmod_eq_emod_of_nonneg hP0, hm]
      have hm0 : 0 ≤ m := by rw [← hm]; exact Int.emod_nonneg _ (by omega)
      have hm1 : m < Q := by rw [← hm]; exact Int.emod_lt_of_pos _ hgo
      have hwm : IntKind.u64.wrap m = m := wrap_u64 (by omega) (by omega)
      have hq0 : Q ≠ 0 := by omega
      have hg2 : Int.gcd Q m = Int.gcd x y := by rw [← hm, gcd_step]; exact HG.out
      have HG2 := Lib.hid hg2
      clear hg2 hm
      go_wp2
      go_quiet (fail)
      go_wp2
      go_roundw
      case rel => exact ⟨Q, m, rfl, rfl, hQ0, hQ1, hm0, by omega, HG2.out, ⟨hb.os, hb.tape, hb.output, hb.size, hb.block⟩⟩
      case measure => simp [intOf]; omega
    · obtain rfl : Q = 0 := by omega
      have hfin : P = (Int.gcd x y : Int) := by rw [← HG.out]; exact (gcd_end hP0).symm
      have HF := Lib.hid hfin
      clear hfin
      go_wp2
      go_ret
      exact ⟨by rw [← HF.out]; rfl, hb⟩

/-- loops over pairs: how much is left -/
def leftN (w : World) (v : Value) : Nat := (val (readV w v)).toNat
theorem Arg.left {w : World} {u : Value} {xs : List Int} {a : Option Addr} {cap : Nat} (h : Arg w u xs a cap) : leftN w u = (val xs).toNat := by unfold leftN; rw [h.read]
theorem bits_pos {xs : List Int} (h : Wf xs) : 0 < val xs ↔ 0 < bitsN xs := by
  rcases bitsN_is h with ⟨h1, h2⟩ | ⟨j, h1, h2, _⟩
  · omega
  · have := two_pos j; omega

theorem uint_gen {u : Value} {xs : List Int} {a : Option Addr} {capa : Nat} {w : World} (h1 : Arg w u xs a capa) (hx : xs.length ≤ 35184372088832) :
    Calls Try.prog 48 #[u] w fun e w' => (∃ X : Int, e = .returned (.tuple #[.int .u64 X, .bool (decide (val xs < 18446744073709551616))])) ∧ w = w' := by
  by_cases h : val xs < 18446744073709551616
  · rw [decide_eq_true h]
    exact (uint_small h1 hx h).mono fun e w' ⟨he, hw⟩ => ⟨⟨_, he⟩, hw⟩
  · rw [decide_eq_false h]
    exact (uint_big h1 hx (by omega)).mono fun e w' ⟨he, hw⟩ => ⟨⟨_, he⟩, hw⟩

set_option maxRecDepth 100000 in
set_option maxHeartbeats 2000000 in
theorem gcd_any {u v : Value} {xs ys : List Int} {a b : Option Addr} {capa capb : Nat} {w : World} (h1 : Arg w u xs a capa) (h2 : Arg w v ys b capb) (hx : xs.length ≤ 134217728) (hy : ys.length ≤ 134217728) :
    Calls Try.prog 25 #[u, v] w fun e w' => ∃ r zs, e = .returned r ∧ Res w.heap.size w' r zs (Int.gcd (val xs) (val ys) : Int) ∧ zs.length ≤ max xs.length ys.length + 2 ∧ Below w.heap.size w w' := by
  obtain ⟨m, hm⟩ : ∃ m, max xs.length ys.length = m := ⟨_, rfl⟩
  have hm2 : m ≤ 134217728 := by omega
  have hmx : xs.length ≤ m := by omega
  have hmy : ys.length ≤ m := by omega
  rw [hm]
  clear hm hx hy
  go_enter Try.func25, Try.ntmps25
  go_wp2
  go_loopw [0, 1, 5, 6, 7, 8, 9, 10, 11] (fun p q _ _ _ _ _ _ _ wr => ∃ (p' q' : Value) (us vs : List Int) (ad bd : Option Addr) (cp cq : Nat), p' = p ∧ q' = q ∧ Arg wr p' us ad cp ∧ Arg wr q' vs bd cq ∧ us.length ≤ m ∧ vs.length ≤ m ∧ Int.gcd (val us) (val vs) = Int.gcd (val xs) (val ys) ∧ Below w.heap.size w wr) (fun _ q _ _ _ _ _ _ _ wr => leftN wr q)
  case atStart => exact ⟨u, v, xs, ys, a, b, capa, capb, rfl, rfl, h1, h2, hmx, hmy, rfl, Below.refl _ _⟩
  case round =>
    obtain ⟨p, q, us, vs, ad, bd, cp, cq, rfl, rfl, A1, A2, hu, hv, hg, hb⟩ := hrel
    have hsz := hb.size
    have HG := Lib.hid hg
    clear hg h1 h2
    have hbits := bits_res A2 (by omega) (bitsN_is A2.wf)
    obtain ⟨nb, hnb⟩ : ∃ nb, bitsN vs = nb := ⟨_, rfl⟩
    have hbp := bits_pos A2.wf
    rw [hnb] at hbits hbp
    have hu0 := val_nonneg A1.wf
    have hv0 := val_nonneg A2.wf
    clear hnb
    by_cases hgo : 0 < nb
    · have hpos := hbp.2 hgo
      have hgo2 : (0 : Int) < (nb : Int) := by omega
      by_cases hs : val us < 18446744073709551616 ∧ val vs < 18446744073709551616
      · obtain ⟨hs1, hs2⟩ := hs
        go_wp2_with fail
        refine hbits.mono ?_
        rintro e w' ⟨rfl, rfl⟩
        clear hbits
        go_wp2_with fail
        refine (uint_small A1 (by omega) hs1).mono ?_
        rintro e w' ⟨rfl, rfl⟩
        go_wp2_with fail
        refine (uint_small A2 (by omega) hs2).mono ?_
        rintro e w' ⟨rfl, rfl⟩
        go_wp2_with fail
        refine (shortGcd_any (val us) (val vs) _ ⟨hu0, hs1⟩ ⟨hv0, hs2⟩).mono ?_
        rintro e w2 ⟨rfl, hb2⟩
        have hgl : (Int.gcd (val us) (val vs) : Int) < 18446744073709551616 := by
          have h3 : Int.gcd (val us) (val vs) ∣ (val vs).natAbs := Int.gcd_dvd_natAbs_right _ _
          have h4 := Nat.le_of_dvd (by omega) h3
          omega
        have hs3 := hb2.size
        go_wp2_with fail
        refine (ofN_any _ _ (Int.natCast_nonneg _) hgl).mono ?_
        rintro e w3 ⟨r3, z3, rfl, q3, n3, hb3⟩
        have hB := (hb.trans (hb2.mono hsz)).trans (hb3.mono (by omega))
        have q3e := q3.eq
        rw [HG.out] at q3e
        have HE := Lib.hid q3e
        clear q3e hgl hs1 hs2 hgo2 hpos hbp
        go_wp2_with fail
        go_ret
        exact ⟨r3, z3, rfl, ⟨q3.num.mono (by omega), q3.wf, q3.full, HE.out⟩, by omega, hB⟩
      · by_cases hs1 : val us < 18446744073709551616
        · have hs2 : ¬ val vs < 18446744073709551616 := fun h => hs ⟨hs1, h⟩
          have d1 : decide (val us < 18446744073709551616) = true := decide_eq_true hs1
          have d2 : decide (val vs < 18446744073709551616) = false := decide_eq_false hs2
          have u1 := uint_gen A1 (by omega)
          have u2 := uint_gen A2 (by omega)
          rw [d1] at u1
          rw [d2] at u2
          clear d1 d2
          go_wp2_with fail
          refine hbits.mono ?_
          rintro e w' ⟨rfl, rfl⟩
          clear hbits
          go_wp2_with fail
          refine u1.mono ?_
          rintro e w' ⟨⟨X, rfl⟩, rfl⟩
          go_wp2_with fail
          refine u2.mono ?_
          rintro e w' ⟨⟨Y, rfl⟩, rfl⟩
          go_wp2_with fail
          refine (div_any A1 A2 (by omega) (by omega) hpos).mono ?_
          rintro e w2 ⟨r2, s2, rfl, hb2, _, ⟨z2, q2, n2, n2'⟩⟩
          obtain ⟨ad2, cap2, A3⟩ := q2.arg
          have A2' := A2.later hb2
          have hB2 := hb.trans (hb2.mono hsz)
          have hl2 := A3.left
          have hleft := A2.left
          have hr1 := Int.emod_lt_of_pos (val us) hpos
          have hr2 := Int.emod_nonneg (val us) (show val vs ≠ 0 by omega)
          have hm3 : leftN w2 s2 < leftN wr q := by rw [hleft, hl2, q2.eq]; omega
          have hg3 : Int.gcd (val vs) (val z2) = Int.gcd (val xs) (val ys) := by rw [q2.eq, gcd_step]; exact HG.out
          have HG3 := Lib.hid hg3
          have HM3 := Lib.hid hm3
          clear hg3 hm3 hr1 hr2 hl2 hleft q2 A1 A2 hb2 hpos hbp hs
          go_wp2
          go_roundw
          case rel => exact ⟨_, _, vs, z2, bd, ad2, cq, cap2, rfl, rfl, A2', A3, hv, by omega, HG3.out, hB2⟩
          case measure => exact HM3.out
        · have d1 : decide (val us < 18446744073709551616) = false := decide_eq_false hs1
          have u1 := uint_gen A1 (by omega)
          have u2 := uint_gen A2 (by omega)
          rw [d1] at u1
          generalize decide (val vs < 18446744073709551616) = f2 at u2
          clear d1
          go_wp2_with fail
          refine hbits.mono ?_
          rintro e w' ⟨rfl, rfl⟩
          clear hbits
          go_wp2_with fail
          refine u1.mono ?_
          rintro e w' ⟨⟨X, rfl⟩, rfl⟩
          go_wp2_with fail
          refine u2.mono ?_
          rintro e w' ⟨⟨Y, rfl⟩, rfl⟩
          go_wp2_with fail
          refine (div_any A1 A2 (by omega) (by omega) hpos).mono ?_
          rintro e w2 ⟨r2, s2, rfl, hb2, _, ⟨z2, q2, n2, n2'⟩⟩
          obtain ⟨ad2, cap2, A3⟩ := q2.arg
          have A2' := A2.later hb2
          have hB2 := hb.trans (hb2.mono hsz)
          have hl2 := A3.left
          have hleft := A2.left
          have hr1 := Int.emod_lt_of_pos (val us) hpos
          have hr2 := Int.emod_nonneg (val us) (show val vs ≠ 0 by omega)
          have hm3 : leftN w2 s2 < leftN wr q := by rw [hleft, hl2, q2.eq]; omega
          have hg3 : Int.gcd (val vs) (val z2) = Int.gcd (val xs) (val ys) := by rw [q2.eq, gcd_step]; exact HG.out
          have HG3 := Lib.hid hg3
          have HM3 := Lib.hid hm3
          clear hg3 hm3 hr1 hr2 hl2 hleft q2 A1 A2 hb2 hpos hbp hs
          go_wp2
          go_roundw
          case rel => exact ⟨_, _, vs, z2, bd, ad2, cq, cap2, rfl, rfl, A2', A3, hv, by omega, HG3.out, hB2⟩
          case measure => exact HM3.out
    · have h0 : nb = 0 := by omega
      have hvz : val vs = 0 := by omega
      have hfin : val us = (Int.gcd (val xs) (val ys) : Int) := by rw [← HG.out, hvz]; exact (gcd_end hu0).symm
      have HF := Lib.hid hfin
      subst h0
      have hd : decide ((0 : Int) < ((0 : Nat) : Int)) = false := by decide
      clear hfin hvz hbp
      go_wp2_with fail
      refine hbits.mono ?_
      rintro e w' ⟨rfl, rfl⟩
      clear hbits
      go_wp2_with fail
      refine (trim_res A1 (by omega)).mono ?_
      rintro e w3 ⟨r3, z3, rfl, q3, n3, hb3⟩
      have hB := hb.trans (hb3.mono hsz)
      have HE := Lib.hid (q3.eq.trans HF.out)
      go_wp2_with fail
      go_ret
      exact ⟨r3, z3, rfl, ⟨q3.num.mono hsz, q3.wf, q3.full, HE.out⟩, by omega, hB⟩

set_option maxRecDepth 100000 in
set_option maxHeartbeats 1000000 in
/-- divides: 0 divides only 0 -/
theorem divides_any {u v : Value} {xs ys : List Int} {a b : Option Addr} {capa capb : Nat} {w : World} (h1 : Arg w u xs a capa) (h2 : Arg w v ys b capb) (hx : xs.length ≤ 134217728) (hy : ys.length ≤ 134217728) :
    Calls Try.prog 27 #[u, v] w fun e w' => e = .returned (.bool (decide (val ys % val xs = 0))) ∧ Below w.heap.size w w' := by
  have hx0 := val_nonneg h1.wf
  by_cases h0 : val xs = 0
  · have hbits := bits_res h2 (by omega) (bitsN_is h2.wf)
    have hbp := bits_pos h2.wf
    have hy0 := val_nonneg h2.wf
    obtain ⟨nb, hnb⟩ : ∃ nb, bitsN ys = nb := ⟨_, rfl⟩
    rw [hnb] at hbp hbits
    have he : ((nb : Int) == 0) = decide (val ys % val xs = 0) := by
      rw [h0, Int.emod_zero]
      by_cases h : val ys = 0
      · have : nb = 0 := by omega
        subst this
        simp [h]
      · have h3 : nb ≠ 0 := by omega
        simp [h]
        omega
    have HE := Lib.hid he
    clear he
    go_enter Try.func27, Try.ntmps27
    go_wp2_with fail
    refine (div_zero h2 h1 hx h0).mono ?_
    rintro e w2 ⟨rfl, hb2⟩
    have hbits2 := bits_res (h2.later hb2) (by omega) (bitsN_is h2.wf)
    rw [hnb] at hbits2
    clear hbits hnb
    go_wp2_with fail
    refine hbits2.mono ?_
    rintro e w' ⟨rfl, rfl⟩
    clear hbits2
    go_wp2_with fail
    go_ret
    exact ⟨by rw [← HE.out]; rfl, hb2⟩
  · have hpos : 0 < val xs := by omega
    go_enter Try.func27, Try.ntmps27
    go_wp2_with fail
    refine (div_any h2 h1 hy hx hpos).mono ?_
    rintro e w2 ⟨r2, s2, rfl, hb2, _, ⟨z2, q2, n2, n2'⟩⟩
    obtain ⟨ad2, cap2, A3⟩ := q2.arg
    have hbits := bits_res A3 (by omega) (bitsN_is A3.wf)
    have hbp := bits_pos A3.wf
    have hz0 := val_nonneg A3.wf
    obtain ⟨nb, hnb⟩ : ∃ nb, bitsN z2 = nb := ⟨_, rfl⟩
    rw [hnb] at hbp hbits
    have he : ((nb : Int) == 0) = decide (val ys % val xs = 0) := by
      rw [← q2.eq]
      by_cases h : val z2 = 0
      · have : nb = 0 := by omega
        subst this
        simp [h]
      · have h3 : nb ≠ 0 := by omega
        simp [h]
        omega
    have HE := Lib.hid he
    clear he hnb hbp
    go_wp2_with fail
    refine hbits.mono ?_
    rintro e w' ⟨rfl, rfl⟩
    clear hbits
    go_wp2_with fail
    go_ret
    exact ⟨by rw [← HE.out]; rfl, hb2⟩
end Go.Proofs.Ytdcdaielfkikhaa
