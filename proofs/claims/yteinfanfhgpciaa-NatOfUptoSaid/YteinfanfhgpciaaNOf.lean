/-
  NatOf, for arguments that hold together at most 1048576 values: the law answers true (any number of Go's is told by limbs, and comes back; and which limbs fit one), and each argument reads behind the call as it read before. No other condition.
-/
import Derived.Test.YteinfanfhgpciaaRefD
import Derived.Test.YteinfanfhgpciaaRefE
import Derived.Test.YteinfanfhgpciaaNatD
import Derived.Test.YteinfanfhgpciaaOpen2
namespace Go.Proofs.Yteinfanfhgpciaa
open Go.RowKit Go.ChangeShapes Go.WideShapes Go.ChangeAt

set_option maxRecDepth 100000 in
set_option maxHeartbeats 4000000 in
theorem natOf_walk (i0 : Int) (u1 : Value) (xs1 : List Int) (ad1 : Option Addr) (cap1 : Nat) (w : World) (hi0 : (Lit.int .u64 i0).wf = true) (A1 : Arg w u1 xs1 ad1 cap1) (hx1 : xs1.length ≤ 1048576) (hn1 : ad1 = none → cap1 = 0) :
    Calls Try.prog 3 #[.int .u64 i0, u1] w fun e w' => e = .returned (.bool true) ∧ Below w.heap.size w w' := by
  have H1 := Lib.hid hn1
  clear hn1
  have hW : Below w.heap.size w w := Below.refl _ _
  have hS : w.heap.size ≤ w.heap.size := Nat.le_refl _
  obtain ⟨hb0, hb1⟩ : 0 ≤ i0 ∧ i0 < 18446744073709551616 := by simp [Lit.wf, IntKind.min, IntKind.max, IntKind.signed, IntKind.bits] at hi0; omega
  clear hi0
  have hand : wrap64 (bits BinOp.and IntKind.u64 i0 4294967295) = i0 % 4294967296 := by
    have h := bits_mask .u64 64 (by decide) (fun n h0 h1 => by rw [IntKind.wrap_u64]; omega) 32 (by decide) i0 hb0 (by omega)
    rw [show (4294967295 : Int) = 2 ^ 32 - 1 from rfl, h]
    unfold wrap64; omega
  have HAND := Lib.hid hand
  clear hand
  have hv0 := val_nonneg A1.wf
  obtain ⟨nb, hnb⟩ : ∃ nb, IsBits (val xs1) nb := ⟨_, bitsN_is A1.wf⟩
  have hnb2 : nb ≤ 33554432 := Nat.le_trans (hnb.le (m := xs1.length * 32) (by rw [← pow_limb]; exact val_lt A1.wf)) (by omega)
  have HB := Lib.hid hnb
  clear hnb
  by_cases hf : val xs1 < 18446744073709551616
  · have hnf : (nb : Int) ≤ 64 := by have := HB.out.le (m := 64) hf; omega
    go_enter Try.func3, Try.ntmps3
    go_wp2_with fail
    refine (ofN_any i0 _ hb0 hb1).mono ?_
    rintro e W2 ⟨r2, l2, rfl, q2, n2, hb⟩
    replace A1 := A1.later hb
    replace hW := hW.trans (hb.mono hS)
    replace hS := Nat.le_trans hS hb.size
    clear hb
    obtain ⟨ad2, cap2, A2⟩ := q2.arg
    go_wp2_with fail
    refine (uint_small A2 (by omega) (by rw [q2.eq]; exact hb1)).mono ?_
    rintro e w' ⟨rfl, rfl⟩
    rw [q2.eq]
    go_wp2_with fail
    refine (small_any (i0 / 4294967296) _ (by omega) (by omega)).mono ?_
    rintro e W3 ⟨r3, rfl, l3, q3, n3, hb⟩
    replace A1 := A1.later hb
    replace A2 := A2.later hb
    replace hW := hW.trans (hb.mono hS)
    replace hS := Nat.le_trans hS hb.size
    clear hb
    obtain ⟨ad3, cap3, A3⟩ := q3.arg
    go_wp2_with fail
    refine (power_any 32 _ (by omega)).mono ?_
    rintro e W4 ⟨r4, rfl, l4, q4, n4, hb⟩
    replace A1 := A1.later hb
    replace A2 := A2.later hb
    replace A3 := A3.later hb
    replace hW := hW.trans (hb.mono hS)
    replace hS := Nat.le_trans hS hb.size
    clear hb
    obtain ⟨ad4, cap4, A4⟩ := q4.arg
    go_wp2_with fail
    refine (mulD_any A3 A4 (by omega) (by omega)).mono ?_
    rintro e W5 ⟨r5, rfl, l5, q5, n5, hb⟩
    replace A1 := A1.later hb
    replace A2 := A2.later hb
    replace A3 := A3.later hb
    replace A4 := A4.later hb
    replace hW := hW.trans (hb.mono hS)
    replace hS := Nat.le_trans hS hb.size
    clear hb
    obtain ⟨ad5, cap5, A5⟩ := q5.arg
    clear A3 A4
    go_wp2_with fail
    rw [HAND.out]
    refine (small_any (i0 % 4294967296) _ (by omega) (by omega)).mono ?_
    rintro e W6 ⟨r6, rfl, l6, q6, n6, hb⟩
    replace A1 := A1.later hb
    replace A2 := A2.later hb
    replace A5 := A5.later hb
    replace hW := hW.trans (hb.mono hS)
    replace hS := Nat.le_trans hS hb.size
    clear hb
    obtain ⟨ad6, cap6, A6⟩ := q6.arg
    go_wp2_with fail
    refine (addD_any A5 A6 (by omega) (by omega)).mono ?_
    rintro e W7 ⟨r7, rfl, l7, q7, n7, hb⟩
    replace A1 := A1.later hb
    replace A2 := A2.later hb
    replace A5 := A5.later hb
    replace A6 := A6.later hb
    replace hW := hW.trans (hb.mono hS)
    replace hS := Nat.le_trans hS hb.size
    clear hb
    obtain ⟨ad7, cap7, A7⟩ := q7.arg
    clear A5 A6
    go_wp2_with fail
    refine (is_true A7 A2 (by omega) (by omega) q2.full (by rw [q7.eq, q5.eq, q6.eq, q3.eq, q4.eq, q2.eq]; omega)).mono ?_
    rintro e V1 ⟨rfl, hb⟩
    replace A1 := A1.later hb
    replace A2 := A2.later hb
    replace A7 := A7.later hb
    replace hW := hW.trans (hb.mono hS)
    replace hS := Nat.le_trans hS hb.size
    clear hb
    clear A7 A2
    go_wp2_with fail
    refine (own_any A1 (by omega) H1.out).mono ?_
    rintro e W8 ⟨r8, rfl, _, ad8, cap8, A8, hn8, hb⟩
    replace A1 := A1.later hb
    replace hW := hW.trans (hb.mono hS)
    replace hS := Nat.le_trans hS hb.size
    clear hb
    go_wp2_with fail
    refine (uint_small A8 (by omega) hf).mono ?_
    rintro e w' ⟨rfl, rfl⟩
    clear A8
    go_wp2_with fail
    refine (of_any A1 (by omega)).mono ?_
    rintro e W9 ⟨r9, rfl, l9, q9, n9, hb⟩
    replace A1 := A1.later hb
    replace hW := hW.trans (hb.mono hS)
    replace hS := Nat.le_trans hS hb.size
    clear hb
    obtain ⟨ad9, cap9, A9⟩ := q9.arg
    go_wp2_with fail
    refine (bitsD_any A9 (by omega) (by rw [q9.eq]; exact HB.out) (by omega)).mono ?_
    rintro e V2 ⟨rfl, hb⟩
    replace A1 := A1.later hb
    replace A9 := A9.later hb
    replace hW := hW.trans (hb.mono hS)
    replace hS := Nat.le_trans hS hb.size
    clear hb
    clear A9
    have hd : decide ((nb : Int) ≤ 64) = true := decide_eq_true hnf
    go_wp2_with fail
    refine (ofN_any (val xs1) _ hv0 hf).mono ?_
    rintro e WO ⟨rO, lO, rfl, qO, nO, hb⟩
    replace A1 := A1.later hb
    replace hW := hW.trans (hb.mono hS)
    replace hS := Nat.le_trans hS hb.size
    clear hb
    obtain ⟨adO, capO, AO⟩ := qO.arg
    go_wp2_with fail
    refine (equal_true AO A1 (by omega) (by omega) qO.eq).mono ?_
    rintro e w' ⟨rfl, rfl⟩
    go_wp2_with fail
    refine (known_any _).mono ?_
    rintro e WK ⟨rfl, hb⟩
    go_wp2_with fail
    go_ret
    exact ⟨rfl, hW.trans (hb.mono hS)⟩
  · have hnf : ¬ (nb : Int) ≤ 64 := fun h => hf (HB.out.lt (m := 64) (by omega))
    replace hf : 18446744073709551616 ≤ val xs1 := by omega
    go_enter Try.func3, Try.ntmps3
    go_wp2_with fail
    refine (ofN_any i0 _ hb0 hb1).mono ?_
    rintro e W2 ⟨r2, l2, rfl, q2, n2, hb⟩
    replace A1 := A1.later hb
    replace hW := hW.trans (hb.mono hS)
    replace hS := Nat.le_trans hS hb.size
    clear hb
    obtain ⟨ad2, cap2, A2⟩ := q2.arg
    go_wp2_with fail
    refine (uint_small A2 (by omega) (by rw [q2.eq]; exact hb1)).mono ?_
    rintro e w' ⟨rfl, rfl⟩
    rw [q2.eq]
    go_wp2_with fail
    refine (small_any (i0 / 4294967296) _ (by omega) (by omega)).mono ?_
    rintro e W3 ⟨r3, rfl, l3, q3, n3, hb⟩
    replace A1 := A1.later hb
    replace A2 := A2.later hb
    replace hW := hW.trans (hb.mono hS)
    replace hS := Nat.le_trans hS hb.size
    clear hb
    obtain ⟨ad3, cap3, A3⟩ := q3.arg
    go_wp2_with fail
    refine (power_any 32 _ (by omega)).mono ?_
    rintro e W4 ⟨r4, rfl, l4, q4, n4, hb⟩
    replace A1 := A1.later hb
    replace A2 := A2.later hb
    replace A3 := A3.later hb
    replace hW := hW.trans (hb.mono hS)
    replace hS := Nat.le_trans hS hb.size
    clear hb
    obtain ⟨ad4, cap4, A4⟩ := q4.arg
    go_wp2_with fail
    refine (mulD_any A3 A4 (by omega) (by omega)).mono ?_
    rintro e W5 ⟨r5, rfl, l5, q5, n5, hb⟩
    replace A1 := A1.later hb
    replace A2 := A2.later hb
    replace A3 := A3.later hb
    replace A4 := A4.later hb
    replace hW := hW.trans (hb.mono hS)
    replace hS := Nat.le_trans hS hb.size
    clear hb
    obtain ⟨ad5, cap5, A5⟩ := q5.arg
    clear A3 A4
    go_wp2_with fail
    rw [HAND.out]
    refine (small_any (i0 % 4294967296) _ (by omega) (by omega)).mono ?_
    rintro e W6 ⟨r6, rfl, l6, q6, n6, hb⟩
    replace A1 := A1.later hb
    replace A2 := A2.later hb
    replace A5 := A5.later hb
    replace hW := hW.trans (hb.mono hS)
    replace hS := Nat.le_trans hS hb.size
    clear hb
    obtain ⟨ad6, cap6, A6⟩ := q6.arg
    go_wp2_with fail
    refine (addD_any A5 A6 (by omega) (by omega)).mono ?_
    rintro e W7 ⟨r7, rfl, l7, q7, n7, hb⟩
    replace A1 := A1.later hb
    replace A2 := A2.later hb
    replace A5 := A5.later hb
    replace A6 := A6.later hb
    replace hW := hW.trans (hb.mono hS)
    replace hS := Nat.le_trans hS hb.size
    clear hb
    obtain ⟨ad7, cap7, A7⟩ := q7.arg
    clear A5 A6
    go_wp2_with fail
    refine (is_true A7 A2 (by omega) (by omega) q2.full (by rw [q7.eq, q5.eq, q6.eq, q3.eq, q4.eq, q2.eq]; omega)).mono ?_
    rintro e V1 ⟨rfl, hb⟩
    replace A1 := A1.later hb
    replace A2 := A2.later hb
    replace A7 := A7.later hb
    replace hW := hW.trans (hb.mono hS)
    replace hS := Nat.le_trans hS hb.size
    clear hb
    clear A7 A2
    go_wp2_with fail
    refine (own_any A1 (by omega) H1.out).mono ?_
    rintro e W8 ⟨r8, rfl, _, ad8, cap8, A8, hn8, hb⟩
    replace A1 := A1.later hb
    replace hW := hW.trans (hb.mono hS)
    replace hS := Nat.le_trans hS hb.size
    clear hb
    go_wp2_with fail
    refine (uint_big A8 (by omega) hf).mono ?_
    rintro e w' ⟨rfl, rfl⟩
    clear A8
    go_wp2_with fail
    refine (of_any A1 (by omega)).mono ?_
    rintro e W9 ⟨r9, rfl, l9, q9, n9, hb⟩
    replace A1 := A1.later hb
    replace hW := hW.trans (hb.mono hS)
    replace hS := Nat.le_trans hS hb.size
    clear hb
    obtain ⟨ad9, cap9, A9⟩ := q9.arg
    go_wp2_with fail
    refine (bitsD_any A9 (by omega) (by rw [q9.eq]; exact HB.out) (by omega)).mono ?_
    rintro e V2 ⟨rfl, hb⟩
    replace A1 := A1.later hb
    replace A9 := A9.later hb
    replace hW := hW.trans (hb.mono hS)
    replace hS := Nat.le_trans hS hb.size
    clear hb
    clear A9
    have hd : decide ((nb : Int) ≤ 64) = false := decide_eq_false (by omega)
    go_wp2_with fail
    refine (known_any _).mono ?_
    rintro e WK ⟨rfl, hb⟩
    go_wp2_with fail
    go_ret
    exact ⟨rfl, hW.trans (hb.mono hS)⟩

namespace natOf
theorem contract (H : Type) (enc : TypeId × Value → H) (W : World) (base : Nat) (args : Array Value) (ds gs : List (DataW H)) (before : List MemPlace)
    (hval : ∀ (j : Nat) t v, Try.f3.params[j]? = some t → args[j]? = some v → Value.okWide Try.prog W .any base t v)
    (hW : DataW.Whole enc Try.prog Try.f3.params.toList Rows.natOfSpec.vars false W args.toList ds gs before) (hk : Rows.uptoSmall H (ds ++ gs) = true) :
    Calls Try.prog 3 args W fun e W' => ∃ v, e = .returned v ∧ Rows.natOfSpec.post enc Try.prog Try.f3 false true false false W args v W' := by
  have hW' := hW
  have hlt := fun p hp => hW'.lt p hp
  obtain ⟨p, q, hA0, hV, rfl, hfz, hnd⟩ := hW
  have hA : DataW.TrodAll enc Try.prog W 0 (fun _ => true) true Try.f3.params.toList args.toList ds p := hA0
  rw [Try.params3] at hA hval
  obtain ⟨v0, vs0, d0, ds0, p0, q0, ha0, rfl, rfl, h0, r0⟩ := trodAll_cons hA
  obtain ⟨v1, vs1, d1, ds1, p1, q1, ha1, rfl, rfl, h1, r1⟩ := trodAll_cons r0
  obtain ⟨rfl, rfl, rfl⟩ := trodAll_nil r1
  subst ha1
  obtain rfl : args = #[v0, v1] := by cases args; simp_all
  obtain ⟨rfl, rfl⟩ := trodVars_none hV
  clear hA hA0 hV
  obtain ⟨a0, rfl, rfl, rfl, w0⟩ := open_int Try.underlying22 (hval 0 22 v0 rfl rfl) h0
  simp only [List.append_nil] at hW' hk hlt
  simp only [List.nil_append] at hW' hk hlt
  obtain ⟨k0, k1⟩ := small2 hk
  obtain ⟨ad1, xs1, cap1, A1, l1, n1⟩ := open_nat2 (okWide_slice Try.underlying24 (hval 1 24 v1 rfl rfl)) h1 k1
  refine (natOf_walk a0 v1 xs1 ad1 cap1 W w0 A1 l1 n1).mono fun e W' ⟨he, hb⟩ => ?_
  subst he
  have t1 := Below.trod laid (by kernel_rfl) (of_decide_eq_true (by kernel_rfl)) h1 hb (fun x hx => hlt x (by simp [hx]))
  exact ⟨_, rfl, [.lit (.int .u64 a0), d1], [], p1, [], ([] ++ (p1 ++ [])), [], hW', trodAll_cons_mk (shut_bool Try.underlying4 _) trodAll_mk0,
    (trodAll_cons_mk (shut_int Try.underlying22 w0) (trodAll_cons_mk t1 trodAll_mk0)), rfl, hb.frame _, fun h => by cases h⟩

set_option maxRecDepth 100000 in
theorem lifted (os : Os) (started : os.Started) (H : Type) (enc : TypeId × Value → H) (F : Stop.Interp) :
    ReturnsInHanded {} Try.checked os 3 .any ((Rows.OpenSpec.upto Rows.natOfSpec).pre6 enc Try.prog Try.f3 Rows.natOfUptoRow.domain false) (((Rows.OpenSpec.upto Rows.natOfSpec).at F).post enc Try.prog Try.f3 false true false false) := by
  refine returnsInHanded_of_cond (C := Try.checked) (s := Rows.OpenSpec.upto Rows.natOfSpec) (k := Rows.uptoSmall) rfl own started (by kernel_rfl) Try.func3
    (OpenSpec.witness (enc := enc) (C := Try.checked) (s := Rows.OpenSpec.upto Rows.natOfSpec) (k := Rows.uptoSmall) rfl false ⟨#[], #[.int .u64 0, .slice none 0 0], []⟩ 8 (by kernel_rfl) (by kernel_rfl) (by kernel_rfl)
      (x := ([.lit (.int .u64 0), .nil], [], [])) (by kernel_rfl) rfl (by kernel_rfl)) ?_
  intro W base args ds gs before hval hW _ hk _
  exact contract H enc W base args ds gs before hval hW hk

theorem proved : Rows.NatOfUptoSaid :=
  OpenClaim.holds_of_cond 3 Try.f3 rfl rfl rfl rfl rfl rfl rfl ⟨rfl, rfl, rfl, rfl, rfl⟩ rfl rfl rfl rfl rfl (by kernel_rfl) Try.func3 (by kernel_rfl)
    (of_decide_eq_true (by kernel_rfl)) (by unfold Func.isWrapper; first | (rw [if_pos (by decide +kernel)]; kernel_rfl) | (rw [if_neg (by decide +kernel)]; exact ⟨rfl, rfl⟩))
    (fun os started H enc _ F => lifted os started H enc F)
end natOf
end Go.Proofs.Yteinfanfhgpciaa
