/-
  ShapePerms. (Made by wip/gen/gen_slaws.py.)
-/
import Derived.Test.YthlohkehacnolaaSOpen
import Derived.Test.YthlohkehacnolaaSFacts
namespace Go.Proofs.Ythlohkehacnolaa
open Go.RowKit
set_option linter.unusedVariables false
set_option linter.unusedSimpArgs false

set_option maxRecDepth 100000 in
set_option maxHeartbeats 8000000 in
theorem shapePerms_walk (xs0 : List Int) (a0 : Option Addr) (ca0 : Nat) (i1 : Int) (w : World) (A0 : ArgS w (.slice a0 xs0.length ca0) xs0 a0 ca0) (l0 : xs0.length ≤ 17592186043904) (n0 : a0 = none → ca0 = 0) (w1 : -9223372036854775808 ≤ i1 ∧ i1 ≤ 9223372036854775807) :
    Calls Try.prog 8 #[.slice a0 xs0.length ca0, .int .i64 i1] w fun e w' => e = .returned (.bool true) ∧ Below w.heap.size w w' := by
  obtain ⟨L, hL⟩ : ∃ L, xs0.length = L := ⟨_, rfl⟩
  by_cases hbig : 100 < L
  · rw [hL]
    have hI : (100 : Int) < (L : Int) := by omega
    clear A0 l0 n0 hL
    go_enter Try.func8, Try.ntmps8
    have B0 : Below w.heap.size w w := Below.refl _ _
    have S0 := B0.size
    go_wp2_with fail
    refine (known6_any _).mono ?_
    rintro e w1 ⟨rfl, hb⟩
    have B1 := B0.trans (hb.mono S0)
    have S1 := B1.size
    clear hb
    go_wp2_with fail
    go_ret
    exact ⟨rfl, B1⟩
  · have hI : ¬ (100 : Int) < (L : Int) := by omega
    have p1 := permS_any i1 A0 n0 (by omega) w1.1 w1.2
    have p2 := fun W (hb : Below w.heap.size w W) => inverseS_any (A0.later hb) n0 (by omega)
    have p3 := fun W (hb : Below w.heap.size w W) => permR_any i1 (A0.later hb) (by omega) w1.1 w1.2
    have p4 := fun W (hb : Below w.heap.size w W) => permR_any (L : Int) (A0.later hb) (by omega) (by omega) (by omega)
    obtain ⟨b, hb0⟩ : ∃ b, permB xs0 i1 = b := ⟨_, rfl⟩
    have hper : permB xs0 xs0.length = true → IsPerm xs0 := fun h => (permB_is h).1
    rw [hL] at hper
    obtain ⟨d, hd0⟩ : ∃ d, permB xs0 (L : Int) = d := ⟨_, rfl⟩
    rw [hd0] at hper
    unfold permC at p1 p2
    rw [hL, hb0] at p1
    simp only [hL, hd0] at p2
    simp only [hL, hb0] at p3
    simp only [hL, hd0] at p4
    have hinv : invV xs0 = if d = true then invL xs0 else [] := by unfold invV; rw [hL, hd0]
    rw [hinv] at p2
    have HA := Lib.hid A0
    have HL := Lib.hid hL
    have HP := Lib.hid hper
    rw [hL]
    clear A0 l0 n0 hL hb0 hd0 hinv hper
    cases b with
    | true =>
      cases d with
      | true =>
        simp only [if_true, Bool.false_eq_true, if_false] at p1 p2
        have nb : (true != true) = false := rfl
        go_enter Try.func8, Try.ntmps8
        have B0 : Below w.heap.size w w := Below.refl _ _
        have S0 := B0.size
        go_wp2_with fail
        refine (p1).mono ?_
        rintro e w1 ⟨rfl, hb⟩
        have B1 := B0.trans (hb.mono S0)
        have S1 := B1.size
        clear hb
        go_wp2_with fail
        refine (p2 _ B1).mono ?_
        rintro e w2 ⟨rq, rfl, RQ, hb⟩
        have B2 := B1.trans (hb.mono S1)
        have S2 := B2.size
        obtain ⟨bq, cq, rfl, QQ, AQ, nq⟩ := RQ.slice
        clear RQ QQ
        clear hb
        rw [invL_length, HL.out]
        go_wp2_with fail
        refine (p3 _ B2).mono ?_
        rintro e w3 ⟨rfl, rfl⟩
        go_wp2_with fail
        refine (p4 _ B2).mono ?_
        rintro e w3 ⟨rfl, rfl⟩
        have hip := HP.out (by trivial)
        have hq1 := is_permB hip.inv
        rw [invL_length, HL.out] at hq1
        have pq := permR_any (L : Int) AQ (by rw [invL_length, HL.out]; omega) (by omega) (by omega)
        rw [hq1, invL_length, HL.out] at pq
        have iq := fun W (hb : Below w2.heap.size w2 W) => inverseS_any (AQ.later hb) nq (by rw [invL_length, HL.out]; omega)
        unfold permC invV at iq
        simp only [invL_length, HL.out, hq1, if_true, hip.twice] at iq
        have HIP := Lib.hid hip
        have HAQ := Lib.hid AQ
        clear hip hq1 AQ nq
        go_wp2_with fail
        refine (pq).mono ?_
        rintro e w3 ⟨rfl, rfl⟩
        go_wp2_with fail
        go_loopw [8] (fun i wr => ∃ k : Nat, i = .int .i64 (k : Int) ∧ k ≤ L ∧ w2 = wr) (fun i _ => L - (intOf i).toNat)
        case atStart => exact ⟨0, rfl, Nat.zero_le _, rfl⟩
        case round =>
          obtain ⟨k, rfl, hkL, rfl⟩ := hrel
          by_cases hlt : k < L
          · obtain ⟨⟨x0, x1⟩, hbk⟩ := HIP.out.back (i := k) (by rw [HL.out]; exact hlt)
            rw [HL.out] at x1
            obtain ⟨ba, oa, rfl, hca⟩ := (HA.out.later B2).at (i := k) (by rw [HL.out]; exact hlt)
            obtain ⟨x, hx⟩ : ∃ x, xs0.getD k 0 = x := ⟨_, rfl⟩
            rw [hx] at x0 x1 hbk hca
            obtain ⟨m, rfl⟩ : ∃ m : Nat, x = (m : Int) := ⟨x.toNat, by omega⟩
            rw [Int.toNat_natCast] at hbk
            obtain ⟨bb, ob, rfl, hcb⟩ := HAQ.out.at (i := m) (by rw [invL_length, HL.out]; omega)
            rw [hbk] at hcb
            have hltI : (k : Int) < (L : Int) := by omega
            have hmI : (m : Int) < (L : Int) := by omega
            have hn : ((k : Int) != (k : Int)) = false := by simp
            clear hbk hx
            go_wp2
            go_roundw
            case rel => exact ⟨k + 1, by go_num, by omega, by trivial⟩
            case measure => simp [intOf]; omega
          · obtain rfl : k = L := by omega
            have hltI : ¬ (k : Int) < (k : Int) := by omega
            go_wp2_with fail
            refine (iq _ (Below.refl _ _)).mono ?_
            rintro e w3 ⟨rr, rfl, RR, hb⟩
            have B3 := B2.trans (hb.mono S2)
            have S3 := B3.size
            obtain ⟨br, cr, rfl, QR, AR, nr⟩ := RR.slice
            have hsm := sameL_any AR (HA.out.later (B2.trans (hb.mono S2))) (by rw [HL.out]; omega)
            rw [decide_eq_true rfl, HL.out] at hsm
            rw [HL.out]
            clear RR QR AR nr iq
            clear hb
            go_wp2_with fail
            refine (hsm).mono ?_
            rintro e w4 ⟨rfl, hb⟩
            have B4 := B3.trans (hb.mono S3)
            have S4 := B4.size
            clear hsm
            clear hb
            go_wp2_with fail
            refine (known6_any _).mono ?_
            rintro e w5 ⟨rfl, hb⟩
            have B5 := B4.trans (hb.mono S4)
            have S5 := B5.size
            clear hb
            go_wp2_with fail
            go_ret
            exact ⟨rfl, B5⟩
      | false =>
        simp only [if_true, Bool.false_eq_true, if_false] at p1 p2
        have nb : (true != true) = false := rfl
        go_enter Try.func8, Try.ntmps8
        have B0 : Below w.heap.size w w := Below.refl _ _
        have S0 := B0.size
        go_wp2_with fail
        refine (p1).mono ?_
        rintro e w1 ⟨rfl, hb⟩
        have B1 := B0.trans (hb.mono S0)
        have S1 := B1.size
        clear hb
        go_wp2_with fail
        refine (p2 _ B1).mono ?_
        rintro e w2 ⟨rq, rfl, RQ, hb⟩
        have B2 := B1.trans (hb.mono S1)
        have S2 := B2.size
        obtain ⟨bq, cq, rfl, QQ, AQ, nq⟩ := RQ.slice
        clear RQ QQ
        clear hb
        go_wp2_with fail
        refine (p3 _ B2).mono ?_
        rintro e w3 ⟨rfl, rfl⟩
        go_wp2_with fail
        refine (p4 _ B2).mono ?_
        rintro e w3 ⟨rfl, rfl⟩
        go_wp2_with fail
        refine (known6_any _).mono ?_
        rintro e w3 ⟨rfl, hb⟩
        have B3 := B2.trans (hb.mono S2)
        have S3 := B3.size
        clear hb
        go_wp2_with fail
        go_ret
        exact ⟨rfl, B3⟩
    | false =>
      cases d with
      | true =>
        simp only [if_true, Bool.false_eq_true, if_false] at p1 p2
        have nb : (false != false) = false := rfl
        go_enter Try.func8, Try.ntmps8
        have B0 : Below w.heap.size w w := Below.refl _ _
        have S0 := B0.size
        go_wp2_with fail
        refine (p1).mono ?_
        rintro e w1 ⟨rfl, hb⟩
        have B1 := B0.trans (hb.mono S0)
        have S1 := B1.size
        clear hb
        go_wp2_with fail
        refine (p2 _ B1).mono ?_
        rintro e w2 ⟨rq, rfl, RQ, hb⟩
        have B2 := B1.trans (hb.mono S1)
        have S2 := B2.size
        obtain ⟨bq, cq, rfl, QQ, AQ, nq⟩ := RQ.slice
        clear RQ QQ
        clear hb
        rw [invL_length, HL.out]
        go_wp2_with fail
        refine (p3 _ B2).mono ?_
        rintro e w3 ⟨rfl, rfl⟩
        go_wp2_with fail
        refine (p4 _ B2).mono ?_
        rintro e w3 ⟨rfl, rfl⟩
        have hip := HP.out (by trivial)
        have hq1 := is_permB hip.inv
        rw [invL_length, HL.out] at hq1
        have pq := permR_any (L : Int) AQ (by rw [invL_length, HL.out]; omega) (by omega) (by omega)
        rw [hq1, invL_length, HL.out] at pq
        have iq := fun W (hb : Below w2.heap.size w2 W) => inverseS_any (AQ.later hb) nq (by rw [invL_length, HL.out]; omega)
        unfold permC invV at iq
        simp only [invL_length, HL.out, hq1, if_true, hip.twice] at iq
        have HIP := Lib.hid hip
        have HAQ := Lib.hid AQ
        clear hip hq1 AQ nq
        go_wp2_with fail
        refine (pq).mono ?_
        rintro e w3 ⟨rfl, rfl⟩
        go_wp2_with fail
        go_loopw [8] (fun i wr => ∃ k : Nat, i = .int .i64 (k : Int) ∧ k ≤ L ∧ w2 = wr) (fun i _ => L - (intOf i).toNat)
        case atStart => exact ⟨0, rfl, Nat.zero_le _, rfl⟩
        case round =>
          obtain ⟨k, rfl, hkL, rfl⟩ := hrel
          by_cases hlt : k < L
          · obtain ⟨⟨x0, x1⟩, hbk⟩ := HIP.out.back (i := k) (by rw [HL.out]; exact hlt)
            rw [HL.out] at x1
            obtain ⟨ba, oa, rfl, hca⟩ := (HA.out.later B2).at (i := k) (by rw [HL.out]; exact hlt)
            obtain ⟨x, hx⟩ : ∃ x, xs0.getD k 0 = x := ⟨_, rfl⟩
            rw [hx] at x0 x1 hbk hca
            obtain ⟨m, rfl⟩ : ∃ m : Nat, x = (m : Int) := ⟨x.toNat, by omega⟩
            rw [Int.toNat_natCast] at hbk
            obtain ⟨bb, ob, rfl, hcb⟩ := HAQ.out.at (i := m) (by rw [invL_length, HL.out]; omega)
            rw [hbk] at hcb
            have hltI : (k : Int) < (L : Int) := by omega
            have hmI : (m : Int) < (L : Int) := by omega
            have hn : ((k : Int) != (k : Int)) = false := by simp
            clear hbk hx
            go_wp2
            go_roundw
            case rel => exact ⟨k + 1, by go_num, by omega, by trivial⟩
            case measure => simp [intOf]; omega
          · obtain rfl : k = L := by omega
            have hltI : ¬ (k : Int) < (k : Int) := by omega
            go_wp2_with fail
            refine (iq _ (Below.refl _ _)).mono ?_
            rintro e w3 ⟨rr, rfl, RR, hb⟩
            have B3 := B2.trans (hb.mono S2)
            have S3 := B3.size
            obtain ⟨br, cr, rfl, QR, AR, nr⟩ := RR.slice
            have hsm := sameL_any AR (HA.out.later (B2.trans (hb.mono S2))) (by rw [HL.out]; omega)
            rw [decide_eq_true rfl, HL.out] at hsm
            rw [HL.out]
            clear RR QR AR nr iq
            clear hb
            go_wp2_with fail
            refine (hsm).mono ?_
            rintro e w4 ⟨rfl, hb⟩
            have B4 := B3.trans (hb.mono S3)
            have S4 := B4.size
            clear hsm
            clear hb
            go_wp2_with fail
            refine (known6_any _).mono ?_
            rintro e w5 ⟨rfl, hb⟩
            have B5 := B4.trans (hb.mono S4)
            have S5 := B5.size
            clear hb
            go_wp2_with fail
            go_ret
            exact ⟨rfl, B5⟩
      | false =>
        simp only [if_true, Bool.false_eq_true, if_false] at p1 p2
        have nb : (false != false) = false := rfl
        go_enter Try.func8, Try.ntmps8
        have B0 : Below w.heap.size w w := Below.refl _ _
        have S0 := B0.size
        go_wp2_with fail
        refine (p1).mono ?_
        rintro e w1 ⟨rfl, hb⟩
        have B1 := B0.trans (hb.mono S0)
        have S1 := B1.size
        clear hb
        go_wp2_with fail
        refine (p2 _ B1).mono ?_
        rintro e w2 ⟨rq, rfl, RQ, hb⟩
        have B2 := B1.trans (hb.mono S1)
        have S2 := B2.size
        obtain ⟨bq, cq, rfl, QQ, AQ, nq⟩ := RQ.slice
        clear RQ QQ
        clear hb
        go_wp2_with fail
        refine (p3 _ B2).mono ?_
        rintro e w3 ⟨rfl, rfl⟩
        go_wp2_with fail
        refine (p4 _ B2).mono ?_
        rintro e w3 ⟨rfl, rfl⟩
        go_wp2_with fail
        refine (known6_any _).mono ?_
        rintro e w3 ⟨rfl, hb⟩
        have B3 := B2.trans (hb.mono S2)
        have S3 := B3.size
        clear hb
        go_wp2_with fail
        go_ret
        exact ⟨rfl, B3⟩

namespace shapePerms
open Go.ChangeShapes Go.WideShapes Go.ChangeAt
theorem contract (H : Type) (enc : TypeId × Value → H) (W : World) (base : Nat) (args : Array Value) (ds gs : List (DataW H)) (before : List MemPlace)
    (hval : ∀ (j : Nat) t v, Try.f8.params[j]? = some t → args[j]? = some v → Value.okWide Try.prog W .any base t v)
    (hW : DataW.Whole enc Try.prog Try.f8.params.toList Rows.shapePermsSpec.vars false W args.toList ds gs before) (hsz0 : (DataW.weightsEach Try.prog (Try.f8.params.toList ++ Rows.shapePermsSpec.plain.varTypes Try.prog) (ds ++ gs)).all (· ≤ reachBytes) = true) :
    Calls Try.prog 8 args W fun e W' => ∃ v, e = .returned v ∧ Rows.shapePermsSpec.post enc Try.prog Try.f8 false true false false W args v W' := by
  have hW' := hW
  have hlt := fun p hp => hW'.lt p hp
  have hsz : (DataW.weightsEach Try.prog (Try.f8.params.toList ++ []) (ds ++ gs)).all (· ≤ reachBytes) = true := hsz0
  obtain ⟨p, q, hA0, hV, rfl, hfz, hnd⟩ := hW
  have hA : DataW.TrodAll enc Try.prog W 0 (fun _ => true) true Try.f8.params.toList args.toList ds p := hA0
  rw [Try.params8] at hA hval hsz
  obtain ⟨v0, vs0, d0, ds0, p0, q0, ha0, rfl, rfl, h0, r0⟩ := trodAll_cons hA
  obtain ⟨v1, vs1, d1, ds1, p1, q1, ha1, rfl, rfl, h1, r1⟩ := trodAll_cons r0
  obtain ⟨rfl, rfl, rfl⟩ := trodAll_nil r1
  subst ha1
  obtain rfl : args = #[v0, v1] := by cases args; simp_all
  obtain ⟨rfl, rfl⟩ := trodVars_none hV
  clear hA hA0 hV
  obtain ⟨i1, rfl, rfl, rfl, w1⟩ := open_int Try.underlying3 (hval 1 3 v1 rfl rfl) h1
  simp only [List.append_nil] at hW' hlt hsz
  (try simp only [List.nil_append] at hW' hlt hsz)
  obtain ⟨a0, xs0, ca0, A0, l0, n0⟩ := open_list (okWide_slice Try.underlying22 (hval 0 22 v0 rfl rfl)) h0 (reach_list hsz (j := 0) rfl rfl)
  have e0 := A0.is
  subst e0
  refine (shapePerms_walk xs0 a0 ca0 i1 W A0 l0 n0 (wf_w64 w1)).mono fun e W' ⟨he, hb⟩ => ?_
  subst he
  have t0 := Below.trod laid (by kernel_rfl) (of_decide_eq_true (by kernel_rfl)) h0 hb (fun x hx => hlt x (by simp [hx]))
  exact ⟨_, rfl, [d0, .lit (.int .i64 i1)], [], p0, [], (p0 ++ ([] ++ [])), [], hW', trodAll_cons_mk (shut_bool Try.underlying4 _) trodAll_mk0,
    (trodAll_cons_mk t0 (trodAll_cons_mk (shut_int Try.underlying3 w1) trodAll_mk0)), rfl, hb.frame _, fun h => by cases h⟩

set_option maxRecDepth 100000 in
theorem lifted (os : Os) (started : os.Started) (H : Type) (enc : TypeId × Value → H) :
    ReturnsInHanded {} Try.checked os 8 .any (Rows.shapePermsSpec.pre6 enc Try.prog Try.f8 Rows.shapePermsRow.domain false) (Rows.shapePermsSpec.post enc Try.prog Try.f8 false true false false) := by
  refine returnsInHanded_of_change_sized (C := Try.checked) own started (by kernel_rfl) Try.func8
    (ChangeSpec.witness6 (enc := enc) (C := Try.checked) false ⟨#[], #[.slice none 0 0, .int .i64 0], []⟩ 8 (by kernel_rfl) (by kernel_rfl) (by kernel_rfl) (by kernel_rfl)) ?_
  intro W base args ds gs before hval hW _ hsz0 _
  exact contract H enc W base args ds gs before hval hW hsz0

theorem proved : Rows.ShapePermsSaid :=
  OpenClaim.holds_of_wide 8 Try.f8 rfl rfl rfl rfl rfl rfl rfl ⟨rfl, rfl, rfl, rfl, rfl⟩ rfl rfl rfl rfl rfl (by kernel_rfl) Try.func8 (by kernel_rfl)
    (of_decide_eq_true (by kernel_rfl)) (by unfold Func.isWrapper; first | (rw [if_pos (by decide +kernel)]; kernel_rfl) | (rw [if_neg (by decide +kernel)]; exact ⟨rfl, rfl⟩))
    (fun os started H enc _ => lifted os started H enc)
end shapePerms
end Go.Proofs.Ythlohkehacnolaa
