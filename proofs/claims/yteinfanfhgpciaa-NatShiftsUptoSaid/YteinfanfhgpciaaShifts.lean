/-
  NatShifts, for arguments that hold together at most 1048576 values: the law answers true (any number times, and by, a power of 2; and that the one undoes the other one), and each argument reads behind the call as it read before. No other condition.
-/
import Derived.Test.YteinfanfhgpciaaRefD
import Derived.Test.YteinfanfhgpciaaRefE
import Derived.Test.YteinfanfhgpciaaShl
import Derived.Test.YteinfanfhgpciaaOpen2
namespace Go.Proofs.Yteinfanfhgpciaa
open Go.RowKit Go.ChangeShapes Go.WideShapes Go.ChangeAt

set_option maxRecDepth 100000 in
set_option maxHeartbeats 4000000 in
theorem natShifts_walk (u0 : Value) (xs0 : List Int) (ad0 : Option Addr) (cap0 : Nat) (i1 : Int) (w : World) (A0 : Arg w u0 xs0 ad0 cap0) (hx0 : xs0.length ≤ 1048576) (hn0 : ad0 = none → cap0 = 0) (hi1 : (Lit.int .i64 i1).wf = true) :
    Calls Try.prog 10 #[u0, .int .i64 i1] w fun e w' => e = .returned (.bool true) ∧ Below w.heap.size w w' := by
  have H0 := Lib.hid hn0
  clear hn0
  have hW : Below w.heap.size w w := Below.refl _ _
  have hS : w.heap.size ≤ w.heap.size := Nat.le_refl _
  obtain ⟨hb0, hb1⟩ : -9223372036854775808 ≤ i1 ∧ i1 ≤ 9223372036854775807 := by simpa [Lit.wf, IntKind.min, IntKind.max, IntKind.signed, IntKind.bits] using hi1
  clear hi1
  by_cases hfar : 600 < i1
  · go_enter Try.func10, Try.ntmps10
    go_wp2_with fail
    refine (known_any _).mono ?_
    rintro e WK ⟨rfl, hb⟩
    go_wp2_with fail
    go_ret
    exact ⟨rfl, hW.trans (hb.mono hS)⟩
  · obtain ⟨m, hmax⟩ : ∃ m : Nat, max i1 0 = (m : Int) := ⟨i1.toNat, by omega⟩
    have ht : i1.toNat = m := by omega
    have hm6 : m ≤ 600 := by omega
    have HT := Lib.hid ht
    clear ht
    go_enter Try.func10, Try.ntmps10
    go_wp2_with fail
    refine (own_any A0 (by omega) H0.out).mono ?_
    rintro e W1 ⟨r1, rfl, _, ad1, cap1, A1, hn1, hb⟩
    replace A0 := A0.later hb
    replace hW := hW.trans (hb.mono hS)
    replace hS := Nat.le_trans hS hb.size
    clear hb
    go_wp2_with fail
    refine (shl_any i1 A1 (by omega) (by omega) (by omega)).mono ?_
    rintro e W2 ⟨r2, l2, rfl, q2, n2, hb⟩
    replace A0 := A0.later hb
    replace A1 := A1.later hb
    replace hW := hW.trans (hb.mono hS)
    replace hS := Nat.le_trans hS hb.size
    clear hb
    obtain ⟨ad2, cap2, A2⟩ := q2.arg
    clear A1
    go_wp2_with fail
    refine (own_any A0 (by omega) H0.out).mono ?_
    rintro e W3 ⟨r3, rfl, _, ad3, cap3, A3, hn3, hb⟩
    replace A0 := A0.later hb
    replace A2 := A2.later hb
    replace hW := hW.trans (hb.mono hS)
    replace hS := Nat.le_trans hS hb.size
    clear hb
    go_wp2_with fail
    refine (shr_any i1 A3 (by omega) (by omega) (by omega)).mono ?_
    rintro e W4 ⟨r4, l4, rfl, q4, n4, hb⟩
    replace A0 := A0.later hb
    replace A2 := A2.later hb
    replace A3 := A3.later hb
    replace hW := hW.trans (hb.mono hS)
    replace hS := Nat.le_trans hS hb.size
    clear hb
    obtain ⟨ad4, cap4, A4⟩ := q4.arg
    clear A3
    rw [HT.out] at q2 q4 n2
    go_wp2_with fail
    refine (of_any A0 (by omega)).mono ?_
    rintro e W5 ⟨r5, rfl, l5, q5, n5, hb⟩
    replace A0 := A0.later hb
    replace A2 := A2.later hb
    replace A4 := A4.later hb
    replace hW := hW.trans (hb.mono hS)
    replace hS := Nat.le_trans hS hb.size
    clear hb
    obtain ⟨ad5, cap5, A5⟩ := q5.arg
    generalize W5 = WL at *
    go_wp2_with fail
    go_loopw [8, 9, 10, 11] (fun s i _ _ wr => ∃ (k : Nat) (q : Value) (ds : List Int) (ad : Option Addr) (cap : Nat), k ≤ m ∧ q = s ∧ i = .int .i64 k ∧ ArgD wr q ds ad cap ∧ valD ds = val xs0 / 2 ^ k ∧ ds.length ≤ 5 * xs0.length ∧ Below WL.heap.size WL wr) (fun _ i _ _ _ => m - (intOf i).toNat)
    case atStart => exact ⟨0, _, l5, ad5, cap5, Nat.zero_le _, rfl, rfl, A5, by rw [q5.eq]; simp, n5, Below.refl _ _⟩
    case round =>
      obtain ⟨k, q, ds, ad, cap, hk, rfl, rfl, A6, hv, hl, hb⟩ := hrel
      have HV := Lib.hid hv
      clear hv A5 q5
      by_cases hlt : k < m
      · have hlt2 : (k : Int) < (m : Int) := by omega
        go_wp2_with fail
        refine (short_any 2 A6 (by omega) (by omega)).mono ?_
        rintro e W7 ⟨r7, rfl, l7, q7, n7, hb7⟩
        have hB7 := hb.trans (hb7.mono hb.size)
        obtain ⟨ad7, cap7, A7⟩ := q7.arg
        have hv7 : valD l7 = val xs0 / 2 ^ (k + 1) := by rw [q7.eq, HV.out, Int.pow_succ, ← Int.ediv_ediv_of_nonneg (Int.le_of_lt (two_pos k))]
        have HV7 := Lib.hid hv7
        clear hv7 q7
        go_wp2
        go_roundw
        case rel => exact ⟨k + 1, r7, l7, ad7, cap7, by omega, rfl, by go_num, A7, HV7.out, by omega, hB7⟩
        case measure => simp [intOf]; omega
      · obtain rfl : k = m := by omega
        replace A0 := A0.later hb
        replace A2 := A2.later hb
        replace A4 := A4.later hb
        replace hW := hW.trans (hb.mono hS)
        replace hS := Nat.le_trans hS hb.size
        clear hb
        go_wp2_with fail
        refine (of_any A0 (by omega)).mono ?_
        rintro e W7 ⟨r7, rfl, l7, q7, n7, hb⟩
        replace A0 := A0.later hb
        replace A2 := A2.later hb
        replace A4 := A4.later hb
        replace A6 := A6.later hb
        replace hW := hW.trans (hb.mono hS)
        replace hS := Nat.le_trans hS hb.size
        clear hb
        obtain ⟨ad7, cap7, A7⟩ := q7.arg
        go_wp2_with fail
        refine (power_any k _ (by omega)).mono ?_
        rintro e W8 ⟨r8, rfl, l8, q8, n8, hb⟩
        replace A0 := A0.later hb
        replace A2 := A2.later hb
        replace A4 := A4.later hb
        replace A6 := A6.later hb
        replace A7 := A7.later hb
        replace hW := hW.trans (hb.mono hS)
        replace hS := Nat.le_trans hS hb.size
        clear hb
        obtain ⟨ad8, cap8, A8⟩ := q8.arg
        go_wp2_with fail
        refine (mulD_any A7 A8 (by omega) (by omega)).mono ?_
        rintro e W9 ⟨r9, rfl, l9, q9, n9, hb⟩
        replace A0 := A0.later hb
        replace A2 := A2.later hb
        replace A4 := A4.later hb
        replace A6 := A6.later hb
        replace A7 := A7.later hb
        replace A8 := A8.later hb
        replace hW := hW.trans (hb.mono hS)
        replace hS := Nat.le_trans hS hb.size
        clear hb
        obtain ⟨ad9, cap9, A9⟩ := q9.arg
        clear A7 A8
        go_wp2_with fail
        refine (is_true A9 A2 (by omega) (by omega) q2.full (by rw [q9.eq, q7.eq, q8.eq, q2.eq])).mono ?_
        rintro e V1 ⟨rfl, hb⟩
        replace A0 := A0.later hb
        replace A2 := A2.later hb
        replace A4 := A4.later hb
        replace A6 := A6.later hb
        replace A9 := A9.later hb
        replace hW := hW.trans (hb.mono hS)
        replace hS := Nat.le_trans hS hb.size
        clear hb
        clear A9
        go_wp2_with fail
        refine (is_true A6 A4 (by omega) (by omega) q4.full (by rw [HV.out, q4.eq])).mono ?_
        rintro e V2 ⟨rfl, hb⟩
        replace A0 := A0.later hb
        replace A2 := A2.later hb
        replace A4 := A4.later hb
        replace A6 := A6.later hb
        replace hW := hW.trans (hb.mono hS)
        replace hS := Nat.le_trans hS hb.size
        clear hb
        clear A6 A4
        go_wp2_with fail
        refine (shr_any i1 A2 (by omega) (by omega) (by omega)).mono ?_
        rintro e W10 ⟨r10, l10, rfl, q10, n10, hb⟩
        replace A0 := A0.later hb
        replace A2 := A2.later hb
        replace hW := hW.trans (hb.mono hS)
        replace hS := Nat.le_trans hS hb.size
        clear hb
        obtain ⟨ad10, cap10, A10⟩ := q10.arg
        clear A2
        go_wp2_with fail
        refine (trim_res A0 (by omega)).mono ?_
        rintro e W11 ⟨r11, l11, rfl, q11, n11, hb⟩
        replace A0 := A0.later hb
        replace A10 := A10.later hb
        replace hW := hW.trans (hb.mono hS)
        replace hS := Nat.le_trans hS hb.size
        clear hb
        obtain ⟨ad11, cap11, A11⟩ := q11.arg
        have e10 : val l2 / 2 ^ i1.toNat = val xs0 := by rw [HT.out, q2.eq, Int.mul_ediv_cancel _ (by have := two_pos k; omega)]
        rw [e10] at q10
        have es := q10.unique q11
        have ES := Lib.hid es
        clear es e10
        go_wp2_with fail
        refine (same_res A10 A11 (by omega) ES.out).mono ?_
        rintro e w' ⟨rfl, rfl⟩
        go_wp2_with fail
        refine (known_any _).mono ?_
        rintro e WK ⟨rfl, hb⟩
        go_wp2_with fail
        go_ret
        exact ⟨rfl, hW.trans (hb.mono hS)⟩

namespace natShifts
theorem contract (H : Type) (enc : TypeId × Value → H) (W : World) (base : Nat) (args : Array Value) (ds gs : List (DataW H)) (before : List MemPlace)
    (hval : ∀ (j : Nat) t v, Try.f10.params[j]? = some t → args[j]? = some v → Value.okWide Try.prog W .any base t v)
    (hW : DataW.Whole enc Try.prog Try.f10.params.toList Rows.natShiftsSpec.vars false W args.toList ds gs before) (hk : Rows.uptoSmall H (ds ++ gs) = true) :
    Calls Try.prog 10 args W fun e W' => ∃ v, e = .returned v ∧ Rows.natShiftsSpec.post enc Try.prog Try.f10 false true false false W args v W' := by
  have hW' := hW
  have hlt := fun p hp => hW'.lt p hp
  obtain ⟨p, q, hA0, hV, rfl, hfz, hnd⟩ := hW
  have hA : DataW.TrodAll enc Try.prog W 0 (fun _ => true) true Try.f10.params.toList args.toList ds p := hA0
  rw [Try.params10] at hA hval
  obtain ⟨v0, vs0, d0, ds0, p0, q0, ha0, rfl, rfl, h0, r0⟩ := trodAll_cons hA
  obtain ⟨v1, vs1, d1, ds1, p1, q1, ha1, rfl, rfl, h1, r1⟩ := trodAll_cons r0
  obtain ⟨rfl, rfl, rfl⟩ := trodAll_nil r1
  subst ha1
  obtain rfl : args = #[v0, v1] := by cases args; simp_all
  obtain ⟨rfl, rfl⟩ := trodVars_none hV
  clear hA hA0 hV
  obtain ⟨a1, rfl, rfl, rfl, w1⟩ := open_int Try.underlying3 (hval 1 3 v1 rfl rfl) h1
  simp only [List.append_nil] at hW' hk hlt
  obtain ⟨k0, k1⟩ := small2 hk
  obtain ⟨ad0, xs0, cap0, A0, l0, n0⟩ := open_nat2 (okWide_slice Try.underlying24 (hval 0 24 v0 rfl rfl)) h0 k0
  refine (natShifts_walk v0 xs0 ad0 cap0 a1 W A0 l0 n0 w1).mono fun e W' ⟨he, hb⟩ => ?_
  subst he
  have t0 := Below.trod laid (by kernel_rfl) (of_decide_eq_true (by kernel_rfl)) h0 hb (fun x hx => hlt x (by simp [hx]))
  exact ⟨_, rfl, [d0, .lit (.int .i64 a1)], [], p0, [], (p0 ++ ([] ++ [])), [], hW', trodAll_cons_mk (shut_bool Try.underlying4 _) trodAll_mk0,
    (trodAll_cons_mk t0 (trodAll_cons_mk (shut_int Try.underlying3 w1) trodAll_mk0)), rfl, hb.frame _, fun h => by cases h⟩

set_option maxRecDepth 100000 in
theorem lifted (os : Os) (started : os.Started) (H : Type) (enc : TypeId × Value → H) (F : Stop.Interp) :
    ReturnsInHanded {} Try.checked os 10 .any ((Rows.OpenSpec.upto Rows.natShiftsSpec).pre6 enc Try.prog Try.f10 Rows.natShiftsUptoRow.domain false) (((Rows.OpenSpec.upto Rows.natShiftsSpec).at F).post enc Try.prog Try.f10 false true false false) := by
  refine returnsInHanded_of_cond (C := Try.checked) (s := Rows.OpenSpec.upto Rows.natShiftsSpec) (k := Rows.uptoSmall) rfl own started (by kernel_rfl) Try.func10
    (OpenSpec.witness (enc := enc) (C := Try.checked) (s := Rows.OpenSpec.upto Rows.natShiftsSpec) (k := Rows.uptoSmall) rfl false ⟨#[], #[.slice none 0 0, .int .i64 0], []⟩ 8 (by kernel_rfl) (by kernel_rfl) (by kernel_rfl)
      (x := ([.nil, .lit (.int .i64 0)], [], [])) (by kernel_rfl) rfl (by kernel_rfl)) ?_
  intro W base args ds gs before hval hW _ hk _
  exact contract H enc W base args ds gs before hval hW hk

theorem proved : Rows.NatShiftsUptoSaid :=
  OpenClaim.holds_of_cond 10 Try.f10 rfl rfl rfl rfl rfl rfl rfl ⟨rfl, rfl, rfl, rfl, rfl⟩ rfl rfl rfl rfl rfl (by kernel_rfl) Try.func10 (by kernel_rfl)
    (of_decide_eq_true (by kernel_rfl)) (by unfold Func.isWrapper; first | (rw [if_pos (by decide +kernel)]; kernel_rfl) | (rw [if_neg (by decide +kernel)]; exact ⟨rfl, rfl⟩))
    (fun os started H enc _ F => lifted os started H enc F)
end natShifts
end Go.Proofs.Yteinfanfhgpciaa
