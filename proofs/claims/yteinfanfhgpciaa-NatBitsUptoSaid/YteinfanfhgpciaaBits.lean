/-
  NatBits, for arguments that hold together at most 1048576 values: the law answers true (how many bits any number has, and which they are), and each argument reads behind the call as it read before. No other condition.
-/
import Derived.Test.YteinfanfhgpciaaRefD
import Derived.Test.YteinfanfhgpciaaNatD
import Derived.Test.YteinfanfhgpciaaOpen2
namespace Go.Proofs.Yteinfanfhgpciaa
open Go.RowKit Go.ChangeShapes Go.WideShapes Go.ChangeAt

set_option maxRecDepth 100000 in
set_option maxHeartbeats 4000000 in
theorem natBits_walk (u0 : Value) (xs0 : List Int) (ad0 : Option Addr) (cap0 : Nat) (i1 : Int) (w : World) (A0 : Arg w u0 xs0 ad0 cap0) (hx0 : xs0.length ≤ 1048576) (hn0 : ad0 = none → cap0 = 0) (hi1 : (Lit.int .i64 i1).wf = true) :
    Calls Try.prog 9 #[u0, .int .i64 i1] w fun e w' => e = .returned (.bool true) ∧ Below w.heap.size w w' := by
  have H0 := Lib.hid hn0
  clear hn0
  have hW : Below w.heap.size w w := Below.refl _ _
  have hS : w.heap.size ≤ w.heap.size := Nat.le_refl _
  obtain ⟨nb, hnb⟩ : ∃ nb, IsBits (val xs0) nb := ⟨_, bitsN_is A0.wf⟩
  have hnb2 : nb ≤ 33554432 := Nat.le_trans (hnb.le (m := xs0.length * 32) (by rw [← pow_limb]; exact val_lt A0.wf)) (by omega)
  have HB := Lib.hid hnb
  clear hnb
  obtain ⟨hb0, hb1⟩ : -9223372036854775808 ≤ i1 ∧ i1 ≤ 9223372036854775807 := by simpa [Lit.wf, IntKind.min, IntKind.max, IntKind.signed, IntKind.bits] using hi1
  clear hi1
  by_cases hz : nb = 0
  · subst hz
    by_cases hneg : i1 < 0
    · have hout : i1 < 0 ∨ ((0 : Nat) : Int) ≤ i1 := .inl hneg
      go_enter Try.func9, Try.ntmps9
      go_wp2_with fail
      refine (own_any A0 (by omega) H0.out).mono ?_
      rintro e W1 ⟨r1, rfl, _, ad1, cap1, A1, hn1, hb⟩
      replace A0 := A0.later hb
      replace hW := hW.trans (hb.mono hS)
      replace hS := Nat.le_trans hS hb.size
      clear hb
      go_wp2_with fail
      refine (bits_res A1 (by omega) HB.out).mono ?_
      rintro e w' ⟨rfl, rfl⟩
      clear A1
      go_wp2_with fail
      refine (of_any A0 (by omega)).mono ?_
      rintro e W2 ⟨r2, rfl, l2, q2, n2, hb⟩
      replace A0 := A0.later hb
      replace hW := hW.trans (hb.mono hS)
      replace hS := Nat.le_trans hS hb.size
      clear hb
      obtain ⟨ad2, cap2, A2⟩ := q2.arg
      go_wp2_with fail
      refine (bitsD_any A2 (by omega) (by rw [q2.eq]; exact HB.out) (by omega)).mono ?_
      rintro e V1 ⟨rfl, hb⟩
      replace A0 := A0.later hb
      replace A2 := A2.later hb
      replace hW := hW.trans (hb.mono hS)
      replace hS := Nat.le_trans hS hb.size
      clear hb
      clear A2
      go_wp2_with fail
      refine (bit_out _ A0 (by omega) HB.out (by omega) (by omega)).mono ?_
      rintro e w' ⟨rfl, rfl⟩
      go_wp2_with fail
      refine (bit_out _ A0 (by omega) HB.out hb1 hout).mono ?_
      rintro e w' ⟨rfl, rfl⟩
      go_wp2_with fail
      refine (known_any _).mono ?_
      rintro e WK ⟨rfl, hb⟩
      go_wp2_with fail
      go_ret
      exact ⟨rfl, hW.trans (hb.mono hS)⟩
    · have hpos : 0 ≤ i1 := by omega
      have hout : i1 < 0 ∨ ((0 : Nat) : Int) ≤ i1 := .inr hpos
      go_enter Try.func9, Try.ntmps9
      go_wp2_with fail
      refine (own_any A0 (by omega) H0.out).mono ?_
      rintro e W1 ⟨r1, rfl, _, ad1, cap1, A1, hn1, hb⟩
      replace A0 := A0.later hb
      replace hW := hW.trans (hb.mono hS)
      replace hS := Nat.le_trans hS hb.size
      clear hb
      go_wp2_with fail
      refine (bits_res A1 (by omega) HB.out).mono ?_
      rintro e w' ⟨rfl, rfl⟩
      clear A1
      go_wp2_with fail
      refine (of_any A0 (by omega)).mono ?_
      rintro e W2 ⟨r2, rfl, l2, q2, n2, hb⟩
      replace A0 := A0.later hb
      replace hW := hW.trans (hb.mono hS)
      replace hS := Nat.le_trans hS hb.size
      clear hb
      obtain ⟨ad2, cap2, A2⟩ := q2.arg
      go_wp2_with fail
      refine (bitsD_any A2 (by omega) (by rw [q2.eq]; exact HB.out) (by omega)).mono ?_
      rintro e V1 ⟨rfl, hb⟩
      replace A0 := A0.later hb
      replace A2 := A2.later hb
      replace hW := hW.trans (hb.mono hS)
      replace hS := Nat.le_trans hS hb.size
      clear hb
      clear A2
      go_wp2_with fail
      refine (bit_out _ A0 (by omega) HB.out (by omega) (by omega)).mono ?_
      rintro e w' ⟨rfl, rfl⟩
      go_wp2_with fail
      refine (bit_out _ A0 (by omega) HB.out hb1 hout).mono ?_
      rintro e w' ⟨rfl, rfl⟩
      go_wp2_with fail
      refine (known_any _).mono ?_
      rintro e WK ⟨rfl, hb⟩
      go_wp2_with fail
      go_ret
      exact ⟨rfl, hW.trans (hb.mono hS)⟩
  · obtain ⟨j, rfl⟩ : ∃ j, nb = j + 1 := ⟨nb - 1, by omega⟩
    by_cases hneg : i1 < 0
    · have hout : i1 < 0 ∨ ((j + 1 : Nat) : Int) ≤ i1 := .inl hneg
      go_enter Try.func9, Try.ntmps9
      go_wp2_with fail
      refine (own_any A0 (by omega) H0.out).mono ?_
      rintro e W1 ⟨r1, rfl, _, ad1, cap1, A1, hn1, hb⟩
      replace A0 := A0.later hb
      replace hW := hW.trans (hb.mono hS)
      replace hS := Nat.le_trans hS hb.size
      clear hb
      go_wp2_with fail
      refine (bits_res A1 (by omega) HB.out).mono ?_
      rintro e w' ⟨rfl, rfl⟩
      clear A1
      go_wp2_with fail
      refine (of_any A0 (by omega)).mono ?_
      rintro e W2 ⟨r2, rfl, l2, q2, n2, hb⟩
      replace A0 := A0.later hb
      replace hW := hW.trans (hb.mono hS)
      replace hS := Nat.le_trans hS hb.size
      clear hb
      obtain ⟨ad2, cap2, A2⟩ := q2.arg
      go_wp2_with fail
      refine (bitsD_any A2 (by omega) (by rw [q2.eq]; exact HB.out) (by omega)).mono ?_
      rintro e V1 ⟨rfl, hb⟩
      replace A0 := A0.later hb
      replace A2 := A2.later hb
      replace hW := hW.trans (hb.mono hS)
      replace hS := Nat.le_trans hS hb.size
      clear hb
      clear A2
      go_wp2_with fail
      refine (bit_top j A0 (by omega) (by omega) HB.out).mono ?_
      rintro e w' ⟨rfl, rfl⟩
      go_wp2_with fail
      refine (bit_out _ A0 (by omega) HB.out (by omega) (by omega)).mono ?_
      rintro e w' ⟨rfl, rfl⟩
      go_wp2_with fail
      refine (bit_out _ A0 (by omega) HB.out hb1 hout).mono ?_
      rintro e w' ⟨rfl, rfl⟩
      go_wp2_with fail
      refine (known_any _).mono ?_
      rintro e WK ⟨rfl, hb⟩
      go_wp2_with fail
      go_ret
      exact ⟨rfl, hW.trans (hb.mono hS)⟩
    · have hpos : 0 ≤ i1 := by omega
      by_cases hge : (j : Int) + 1 ≤ i1
      · have hout : i1 < 0 ∨ ((j + 1 : Nat) : Int) ≤ i1 := .inr (by omega)
        go_enter Try.func9, Try.ntmps9
        go_wp2_with fail
        refine (own_any A0 (by omega) H0.out).mono ?_
        rintro e W1 ⟨r1, rfl, _, ad1, cap1, A1, hn1, hb⟩
        replace A0 := A0.later hb
        replace hW := hW.trans (hb.mono hS)
        replace hS := Nat.le_trans hS hb.size
        clear hb
        go_wp2_with fail
        refine (bits_res A1 (by omega) HB.out).mono ?_
        rintro e w' ⟨rfl, rfl⟩
        clear A1
        go_wp2_with fail
        refine (of_any A0 (by omega)).mono ?_
        rintro e W2 ⟨r2, rfl, l2, q2, n2, hb⟩
        replace A0 := A0.later hb
        replace hW := hW.trans (hb.mono hS)
        replace hS := Nat.le_trans hS hb.size
        clear hb
        obtain ⟨ad2, cap2, A2⟩ := q2.arg
        go_wp2_with fail
        refine (bitsD_any A2 (by omega) (by rw [q2.eq]; exact HB.out) (by omega)).mono ?_
        rintro e V1 ⟨rfl, hb⟩
        replace A0 := A0.later hb
        replace A2 := A2.later hb
        replace hW := hW.trans (hb.mono hS)
        replace hS := Nat.le_trans hS hb.size
        clear hb
        clear A2
        go_wp2_with fail
        refine (bit_top j A0 (by omega) (by omega) HB.out).mono ?_
        rintro e w' ⟨rfl, rfl⟩
        go_wp2_with fail
        refine (bit_out _ A0 (by omega) HB.out (by omega) (by omega)).mono ?_
        rintro e w' ⟨rfl, rfl⟩
        go_wp2_with fail
        refine (bit_out _ A0 (by omega) HB.out hb1 hout).mono ?_
        rintro e w' ⟨rfl, rfl⟩
        go_wp2_with fail
        refine (known_any _).mono ?_
        rintro e WK ⟨rfl, hb⟩
        go_wp2_with fail
        go_ret
        exact ⟨rfl, hW.trans (hb.mono hS)⟩
      · obtain ⟨m, rfl⟩ := Int.eq_ofNat_of_zero_le hpos
        have hm : m < j + 1 := by omega
        have hm2 : (m : Int) < (j : Int) + 1 := by omega
        go_enter Try.func9, Try.ntmps9
        go_wp2_with fail
        refine (own_any A0 (by omega) H0.out).mono ?_
        rintro e W1 ⟨r1, rfl, _, ad1, cap1, A1, hn1, hb⟩
        replace A0 := A0.later hb
        replace hW := hW.trans (hb.mono hS)
        replace hS := Nat.le_trans hS hb.size
        clear hb
        go_wp2_with fail
        refine (bits_res A1 (by omega) HB.out).mono ?_
        rintro e w' ⟨rfl, rfl⟩
        clear A1
        go_wp2_with fail
        refine (of_any A0 (by omega)).mono ?_
        rintro e W2 ⟨r2, rfl, l2, q2, n2, hb⟩
        replace A0 := A0.later hb
        replace hW := hW.trans (hb.mono hS)
        replace hS := Nat.le_trans hS hb.size
        clear hb
        obtain ⟨ad2, cap2, A2⟩ := q2.arg
        go_wp2_with fail
        refine (bitsD_any A2 (by omega) (by rw [q2.eq]; exact HB.out) (by omega)).mono ?_
        rintro e V1 ⟨rfl, hb⟩
        replace A0 := A0.later hb
        replace A2 := A2.later hb
        replace hW := hW.trans (hb.mono hS)
        replace hS := Nat.le_trans hS hb.size
        clear hb
        clear A2
        go_wp2_with fail
        refine (bit_top j A0 (by omega) (by omega) HB.out).mono ?_
        rintro e w' ⟨rfl, rfl⟩
        go_wp2_with fail
        refine (bit_out _ A0 (by omega) HB.out (by omega) (by omega)).mono ?_
        rintro e w' ⟨rfl, rfl⟩
        go_wp2_with fail
        refine (of_any A0 (by omega)).mono ?_
        rintro e W3 ⟨r3, rfl, l3, q3, n3, hb⟩
        replace A0 := A0.later hb
        replace hW := hW.trans (hb.mono hS)
        replace hS := Nat.le_trans hS hb.size
        clear hb
        obtain ⟨ad3, cap3, A3⟩ := q3.arg
        generalize W3 = WL at *
        go_wp2_with fail
        go_loopw [6, 7, 8, 9] (fun s i _ _ wr => ∃ (k : Nat) (q : Value) (ds : List Int) (ad : Option Addr) (cap : Nat), k ≤ m ∧ q = s ∧ i = .int .i64 k ∧ ArgD wr q ds ad cap ∧ valD ds = val xs0 / 2 ^ k ∧ ds.length ≤ 5 * xs0.length ∧ Below WL.heap.size WL wr) (fun _ i _ _ _ => m - (intOf i).toNat)
        case atStart => exact ⟨0, _, l3, ad3, cap3, Nat.zero_le _, rfl, rfl, A3, by rw [q3.eq]; simp, n3, Below.refl _ _⟩
        case round =>
          obtain ⟨k, q, ds, ad, cap, hk, rfl, rfl, A4, hv, hl, hb⟩ := hrel
          have HV := Lib.hid hv
          clear hv A3 q3
          by_cases hlt : k < m
          · have hlt2 : (k : Int) < (m : Int) := by omega
            go_wp2_with fail
            refine (short_any 2 A4 (by omega) (by omega)).mono ?_
            rintro e W5 ⟨r5, rfl, l5, q5, n5, hb5⟩
            have hB5 := hb.trans (hb5.mono hb.size)
            obtain ⟨ad5, cap5, A5⟩ := q5.arg
            have hv5 : valD l5 = val xs0 / 2 ^ (k + 1) := by rw [q5.eq, HV.out, Int.pow_succ, ← Int.ediv_ediv_of_nonneg (Int.le_of_lt (two_pos k))]
            have HV5 := Lib.hid hv5
            clear hv5 q5
            go_wp2
            go_roundw
            case rel => exact ⟨k + 1, r5, l5, ad5, cap5, by omega, rfl, by go_num, A5, HV5.out, by omega, hB5⟩
            case measure => simp [intOf]; omega
          · obtain rfl : k = m := by omega
            go_wp2_with fail
            refine (short_any 2 A4 (by omega) (by omega)).mono ?_
            rintro e W5 ⟨r5, rfl, l5, q5, n5, hb5⟩
            rw [HV.out]
            replace A0 := A0.later (hb.trans (hb5.mono hb.size))
            replace hW := hW.trans ((hb.trans (hb5.mono hb.size)).mono hS)
            replace hS := Nat.le_trans hS (hb.trans (hb5.mono hb.size)).size
            clear q5 A4
            go_wp2_with fail
            refine (bit_res k A0 (by omega) (by omega)).mono ?_
            rintro e w' ⟨rfl, rfl⟩
            have hbe : ((val xs0 / 2 ^ k % 2 : Int) == 1) = decide (val xs0 / 2 ^ k % 2 = 1) := beq_dec _ _
            have hbb : ∀ b : Bool, (b == b) = true := fun b => by cases b <;> rfl
            generalize val xs0 / 2 ^ k % 2 = bt at *
            go_wp2_with fail
            refine (known_any _).mono ?_
            rintro e WK ⟨rfl, hb⟩
            go_wp2_with fail
            go_ret
            exact ⟨rfl, hW.trans (hb.mono hS)⟩

namespace natBits
theorem contract (H : Type) (enc : TypeId × Value → H) (W : World) (base : Nat) (args : Array Value) (ds gs : List (DataW H)) (before : List MemPlace)
    (hval : ∀ (j : Nat) t v, Try.f9.params[j]? = some t → args[j]? = some v → Value.okWide Try.prog W .any base t v)
    (hW : DataW.Whole enc Try.prog Try.f9.params.toList Rows.natBitsSpec.vars false W args.toList ds gs before) (hk : Rows.uptoSmall H (ds ++ gs) = true) :
    Calls Try.prog 9 args W fun e W' => ∃ v, e = .returned v ∧ Rows.natBitsSpec.post enc Try.prog Try.f9 false true false false W args v W' := by
  have hW' := hW
  have hlt := fun p hp => hW'.lt p hp
  obtain ⟨p, q, hA0, hV, rfl, hfz, hnd⟩ := hW
  have hA : DataW.TrodAll enc Try.prog W 0 (fun _ => true) true Try.f9.params.toList args.toList ds p := hA0
  rw [Try.params9] at hA hval
  obtain ⟨v0, vs0, d0, ds0, p0, q0, ha0, rfl, rfl, h0, r0⟩ := trodAll_cons hA
  obtain ⟨v1, vs1, d1, ds1, p1, q1, ha1, rfl, rfl, h1, r1⟩ := trodAll_cons r0
  obtain ⟨rfl, rfl, rfl⟩ := trodAll_nil r1
  subst ha1
  obtain rfl : args = #[v0, v1] := by cases args; simp_all
  obtain ⟨rfl, rfl⟩ := trodVars_none hV
  clear hA hA0 hV
  obtain ⟨a1, rfl, rfl, rfl, w1⟩ := open_int Try.underlying3 (hval 1 3 v1 rfl rfl) h1
  simp only [List.append_nil] at hW' hk hlt
  obtain ⟨k0, k1⟩ := small2 hk
  obtain ⟨ad0, xs0, cap0, A0, l0, n0⟩ := open_nat2 (okWide_slice Try.underlying24 (hval 0 24 v0 rfl rfl)) h0 k0
  refine (natBits_walk v0 xs0 ad0 cap0 a1 W A0 l0 n0 w1).mono fun e W' ⟨he, hb⟩ => ?_
  subst he
  have t0 := Below.trod laid (by kernel_rfl) (of_decide_eq_true (by kernel_rfl)) h0 hb (fun x hx => hlt x (by simp [hx]))
  exact ⟨_, rfl, [d0, .lit (.int .i64 a1)], [], p0, [], (p0 ++ ([] ++ [])), [], hW', trodAll_cons_mk (shut_bool Try.underlying4 _) trodAll_mk0,
    (trodAll_cons_mk t0 (trodAll_cons_mk (shut_int Try.underlying3 w1) trodAll_mk0)), rfl, hb.frame _, fun h => by cases h⟩

set_option maxRecDepth 100000 in
theorem lifted (os : Os) (started : os.Started) (H : Type) (enc : TypeId × Value → H) (F : Stop.Interp) :
    ReturnsInHanded {} Try.checked os 9 .any ((Rows.OpenSpec.upto Rows.natBitsSpec).pre6 enc Try.prog Try.f9 Rows.natBitsUptoRow.domain false) (((Rows.OpenSpec.upto Rows.natBitsSpec).at F).post enc Try.prog Try.f9 false true false false) := by
  refine returnsInHanded_of_cond (C := Try.checked) (s := Rows.OpenSpec.upto Rows.natBitsSpec) (k := Rows.uptoSmall) rfl own started (by kernel_rfl) Try.func9
    (OpenSpec.witness (enc := enc) (C := Try.checked) (s := Rows.OpenSpec.upto Rows.natBitsSpec) (k := Rows.uptoSmall) rfl false ⟨#[], #[.slice none 0 0, .int .i64 0], []⟩ 8 (by kernel_rfl) (by kernel_rfl) (by kernel_rfl)
      (x := ([.nil, .lit (.int .i64 0)], [], [])) (by kernel_rfl) rfl (by kernel_rfl)) ?_
  intro W base args ds gs before hval hW _ hk _
  exact contract H enc W base args ds gs before hval hW hk

theorem proved : Rows.NatBitsUptoSaid :=
  OpenClaim.holds_of_cond 9 Try.f9 rfl rfl rfl rfl rfl rfl rfl ⟨rfl, rfl, rfl, rfl, rfl⟩ rfl rfl rfl rfl rfl (by kernel_rfl) Try.func9 (by kernel_rfl)
    (of_decide_eq_true (by kernel_rfl)) (by unfold Func.isWrapper; first | (rw [if_pos (by decide +kernel)]; kernel_rfl) | (rw [if_neg (by decide +kernel)]; exact ⟨rfl, rfl⟩))
    (fun os started H enc _ F => lifted os started H enc F)
end natBits
end Go.Proofs.Yteinfanfhgpciaa
