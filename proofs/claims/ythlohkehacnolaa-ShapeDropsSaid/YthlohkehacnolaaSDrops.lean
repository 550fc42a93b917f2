/-
  ShapeDrops. (Made by wip/gen/gen_slaws.py.)
-/
import Derived.Test.YthlohkehacnolaaSOpen
import Derived.Test.YthlohkehacnolaaSFacts
namespace Go.Proofs.Ythlohkehacnolaa
open Go.RowKit
set_option linter.unusedVariables false
set_option linter.unusedSimpArgs false

set_option maxRecDepth 100000 in
set_option maxHeartbeats 8000000 in
theorem shapeDrops_walk (xs0 : List Int) (a0 : Option Addr) (ca0 : Nat) (xs1 : List Int) (a1 : Option Addr) (ca1 : Nat) (w : World) (A0 : ArgS w (.slice a0 xs0.length ca0) xs0 a0 ca0) (l0 : xs0.length ≤ 17592186043904) (n0 : a0 = none → ca0 = 0) (A1 : ArgS w (.slice a1 xs1.length ca1) xs1 a1 ca1) (l1 : xs1.length ≤ 17592186043904) (n1 : a1 = none → ca1 = 0) :
    Calls Try.prog 12 #[.slice a0 xs0.length ca0, .slice a1 xs1.length ca1] w fun e w' => e = .returned (.bool true) ∧ Below w.heap.size w w' := by
  obtain ⟨L, hL⟩ : ∃ L, xs0.length = L := ⟨_, rfl⟩
  obtain ⟨M, hM⟩ : ∃ M, xs1.length = M := ⟨_, rfl⟩
  by_cases hb1 : 50 < L
  · rw [hL, hM]
    have hI : (50 : Int) < (L : Int) := by omega
    clear A0 A1 l0 l1 n0 n1 hL hM
    go_enter Try.func12, Try.ntmps12
    have B0 : Below w.heap.size w w := Below.refl _ _
    have S0 := B0.size
    go_wp2_with fail
    refine (known6_any _).mono ?_
    rintro e w1 ⟨rfl, hb⟩
    have B1 := B0.trans (hb.mono S0)
    have S1 := B1.size
    clear hb
    go_wp2_with fail
    go_ret
    exact ⟨rfl, B1⟩
  · by_cases hb2 : 100 < M
    · rw [hL, hM]
      have hI : ¬ (50 : Int) < (L : Int) := by omega
      have hI2 : (100 : Int) < (M : Int) := by omega
      clear A0 A1 l0 l1 n0 n1 hL hM
      go_enter Try.func12, Try.ntmps12
      have B0 : Below w.heap.size w w := Below.refl _ _
      have S0 := B0.size
      go_wp2_with fail
      refine (known6_any _).mono ?_
      rintro e w1 ⟨rfl, hb⟩
      have B1 := B0.trans (hb.mono S0)
      have S1 := B1.size
      clear hb
      go_wp2_with fail
      go_ret
      exact ⟨rfl, B1⟩
    · have hI : ¬ (50 : Int) < (L : Int) := by omega
      have hI2 : ¬ (100 : Int) < (M : Int) := by omega
      have d1 := fun W (hb : Below w.heap.size w W) => dropC_any (A0.later hb) (A1.later hb) n0 n1 (by omega) (by omega)
      have d2 := fun W (hb : Below w.heap.size w W) => onesC_any (A0.later hb) (A1.later hb) n0 n1 (by omega) (by omega)
      have d3 := fun W (hb : Below w.heap.size w W) => dropR_any (A0.later hb) (A1.later hb) (by omega) (by omega)
      have d4 := fun W (hb : Below w.heap.size w W) => onesR_any (A0.later hb) (A1.later hb) (by omega) (by omega)
      have m1 := fun W (hb : Below w.heap.size w W) => mayR6_any (A0.later hb)
      have hdl : (dropS xs0 xs1).length ≤ L := by rw [← hL]; exact dropL_le xs0 xs1 _
      have hol : (onesS xs0 xs1).length = L := by rw [← hL]; exact ones_len xs0 xs1
      have hfit : mayC xs0 = 0 → fitC (onesS xs0 xs1) xs0 = 0 ∧ countS (dropS xs0 xs1) = countS (onesS xs0 xs1) ∧ (grownS (onesS xs0 xs1) xs0).length ≤ L := fun h => by
        refine ⟨ones_fit xs1 (mayC_zero.1 h), count_two xs1 (mayC_zero.1 h), ?_⟩
        unfold grownS
        rw [if_pos (ones_fit xs1 (mayC_zero.1 h)), ← hL]
        exact grownL_le _ _ _
      obtain ⟨D, hD⟩ : ∃ D, dropS xs0 xs1 = D := ⟨_, rfl⟩
      obtain ⟨O, hO⟩ : ∃ O, onesS xs0 xs1 = O := ⟨_, rfl⟩
      obtain ⟨mc, hmc⟩ : ∃ c, mayC xs0 = c := ⟨_, rfl⟩
      simp only [hL, hM, hD] at d1 d3
      simp only [hL, hM, hO] at d2 d4
      simp only [hL, hmc] at m1
      rw [hD] at hdl
      rw [hO] at hol
      rw [hmc, hD, hO] at hfit
      have HF := Lib.hid hfit
      have HA := Lib.hid A0
      have HL := Lib.hid hL
      have hdl2 := hdl
      have HOL := Lib.hid hol
      rw [hL, hM]
      clear A0 A1 l0 l1 n1 hL hM hD hO hmc hfit hol
      go_enter Try.func12, Try.ntmps12
      have B0 : Below w.heap.size w w := Below.refl _ _
      have S0 := B0.size
      go_wp2_with fail
      refine (d1 _ B0).mono ?_
      rintro e w1 ⟨rD, rfl, RD, hb⟩
      have B1 := B0.trans (hb.mono S0)
      have S1 := B1.size
      obtain ⟨bD, cD, rfl, QD, AD, nD⟩ := RD.slice
      clear RD QD
      clear hb
      go_wp2_with fail
      refine (d2 _ B1).mono ?_
      rintro e w2 ⟨rO, rfl, RO, hb⟩
      have B2 := B1.trans (hb.mono S1)
      have S2 := B2.size
      have AD := AD.later hb
      obtain ⟨bO, cO, rfl, QO, AO, nO⟩ := RO.slice
      clear RO QO
      clear hb
      go_wp2_with fail
      refine (d3 _ B2).mono ?_
      rintro e w3 ⟨rX, rfl, RX, hb⟩
      have B3 := B2.trans (hb.mono S2)
      have S3 := B3.size
      have AD := AD.later hb
      have AO := AO.later hb
      obtain ⟨bX, cX, rfl, QX, AX, nX⟩ := RX.slice
      clear RX QX
      have sx := sameL_any AD AX (by omega)
      rw [decide_eq_true rfl] at sx
      clear hb
      go_wp2_with fail
      refine (sx).mono ?_
      rintro e w4 ⟨rfl, hb⟩
      have B4 := B3.trans (hb.mono S3)
      have S4 := B4.size
      have AD := AD.later hb
      have AO := AO.later hb
      clear sx AX
      clear hb
      go_wp2_with fail
      refine (d4 _ B4).mono ?_
      rintro e w5 ⟨rY, rfl, RY, hb⟩
      have B5 := B4.trans (hb.mono S4)
      have S5 := B5.size
      have AD := AD.later hb
      have AO := AO.later hb
      obtain ⟨bY, cY, rfl, QY, AY, nY⟩ := RY.slice
      clear RY QY
      have sy := sameL_any AO AY (by have := HOL.out; omega)
      rw [decide_eq_true rfl] at sy
      clear hb
      go_wp2_with fail
      refine (sy).mono ?_
      rintro e w6 ⟨rfl, hb⟩
      have B6 := B5.trans (hb.mono S5)
      have S6 := B6.size
      have AD := AD.later hb
      have AO := AO.later hb
      clear sy AY
      clear hb
      go_wp2_with fail
      refine (m1 _ B6).mono ?_
      rintro e w7 ⟨rfl, rfl⟩
      by_cases hm0 : mc = 0
      · obtain ⟨hf0, hcc, hgl⟩ := HF.out hm0
        subst hm0
        have B0 := B6
        have AW := HA.out.later B6
        have f1 := fitsS_any AO AW nO n0 (by have := HOL.out; omega) (by have := HL.out; omega)
        rw [hf0, HL.out] at f1
        go_wp2_with fail
        refine (f1).mono ?_
        rintro e w7 ⟨rfl, hb⟩
        have B7 := B6.trans (hb.mono S6)
        have S7 := B7.size
        have AD := AD.later hb
        have AO := AO.later hb
        have AW := AW.later hb
        clear f1
        have g1 := grownC_any AO AW nO n0 (by have := HOL.out; omega) (by have := HL.out; omega)
        rw [HL.out] at g1
        clear hb
        go_wp2_with fail
        refine (g1).mono ?_
        rintro e w8 ⟨rG, rfl, RG, hb⟩
        have B8 := B7.trans (hb.mono S7)
        have S8 := B8.size
        have AD := AD.later hb
        have AO := AO.later hb
        have AW := AW.later hb
        obtain ⟨bG, cG, rfl, QG, AG, nG⟩ := RG.slice
        clear RG QG g1
        have g2 := grownR_any AO AW
        rw [HL.out] at g2
        clear hb
        go_wp2_with fail
        refine (g2).mono ?_
        rintro e w9 ⟨rH, rfl, RH, hb⟩
        have B9 := B8.trans (hb.mono S8)
        have S9 := B9.size
        have AD := AD.later hb
        have AO := AO.later hb
        have AG := AG.later hb
        obtain ⟨bH, cH, rfl, QH, AH, nH⟩ := RH.slice
        clear RH QH g2
        have sg := sameL_any AG AH (by omega)
        rw [decide_eq_true rfl] at sg
        clear hb
        go_wp2_with fail
        refine (sg).mono ?_
        rintro e w10 ⟨rfl, hb⟩
        have B10 := B9.trans (hb.mono S9)
        have S10 := B10.size
        have AD := AD.later hb
        have AO := AO.later hb
        clear sg AG AH
        have c1 := countS_any AD (by omega)
        rw [hcc] at c1
        clear hb
        go_wp2_with fail
        refine (c1).mono ?_
        rintro e w11 ⟨rfl, hb⟩
        have B11 := B10.trans (hb.mono S10)
        have S11 := B11.size
        have AO := AO.later hb
        clear c1
        have c2 := countS_any AO (by have := HOL.out; omega)
        clear hb
        go_wp2_with fail
        refine (c2).mono ?_
        rintro e w12 ⟨rfl, hb⟩
        have B12 := B11.trans (hb.mono S11)
        have S12 := B12.size
        clear c2
        clear AO AD
        clear hb
        go_wp2_with fail
        refine (known6_any _).mono ?_
        rintro e w13 ⟨rfl, hb⟩
        have B13 := B12.trans (hb.mono S12)
        have S13 := B13.size
        clear hb
        go_wp2_with fail
        go_ret
        exact ⟨rfl, B13⟩
      · have hne : (mc != 0) = true := bne_iff_ne.2 hm0
        clear AD AO
        go_wp2_with fail
        refine (known6_any _).mono ?_
        rintro e w7 ⟨rfl, hb⟩
        have B7 := B6.trans (hb.mono S6)
        have S7 := B7.size
        clear hb
        go_wp2_with fail
        go_ret
        exact ⟨rfl, B7⟩

namespace shapeDrops
open Go.ChangeShapes Go.WideShapes Go.ChangeAt
theorem contract (H : Type) (enc : TypeId × Value → H) (W : World) (base : Nat) (args : Array Value) (ds gs : List (DataW H)) (before : List MemPlace)
    (hval : ∀ (j : Nat) t v, Try.f12.params[j]? = some t → args[j]? = some v → Value.okWide Try.prog W .any base t v)
    (hW : DataW.Whole enc Try.prog Try.f12.params.toList Rows.shapeDropsSpec.vars false W args.toList ds gs before) (hsz0 : (DataW.weightsEach Try.prog (Try.f12.params.toList ++ Rows.shapeDropsSpec.plain.varTypes Try.prog) (ds ++ gs)).all (· ≤ reachBytes) = true) :
    Calls Try.prog 12 args W fun e W' => ∃ v, e = .returned v ∧ Rows.shapeDropsSpec.post enc Try.prog Try.f12 false true false false W args v W' := by
  have hW' := hW
  have hlt := fun p hp => hW'.lt p hp
  have hsz : (DataW.weightsEach Try.prog (Try.f12.params.toList ++ []) (ds ++ gs)).all (· ≤ reachBytes) = true := hsz0
  obtain ⟨p, q, hA0, hV, rfl, hfz, hnd⟩ := hW
  have hA : DataW.TrodAll enc Try.prog W 0 (fun _ => true) true Try.f12.params.toList args.toList ds p := hA0
  rw [Try.params12] at hA hval hsz
  obtain ⟨v0, vs0, d0, ds0, p0, q0, ha0, rfl, rfl, h0, r0⟩ := trodAll_cons hA
  obtain ⟨v1, vs1, d1, ds1, p1, q1, ha1, rfl, rfl, h1, r1⟩ := trodAll_cons r0
  obtain ⟨rfl, rfl, rfl⟩ := trodAll_nil r1
  subst ha1
  obtain rfl : args = #[v0, v1] := by cases args; simp_all
  obtain ⟨rfl, rfl⟩ := trodVars_none hV
  clear hA hA0 hV
  simp only [List.append_nil] at hW' hlt hsz
  (try simp only [List.nil_append] at hW' hlt hsz)
  obtain ⟨a0, xs0, ca0, A0, l0, n0⟩ := open_shape (okWide_slice Try.underlying23 (hval 0 23 v0 rfl rfl)) h0 (reach_shape hsz (j := 0) rfl rfl)
  have e0 := A0.is
  subst e0
  obtain ⟨a1, xs1, ca1, A1, l1, n1⟩ := open_list (okWide_slice Try.underlying22 (hval 1 22 v1 rfl rfl)) h1 (reach_list hsz (j := 1) rfl rfl)
  have e1 := A1.is
  subst e1
  refine (shapeDrops_walk xs0 a0 ca0 xs1 a1 ca1 W A0 l0 n0 A1 l1 n1).mono fun e W' ⟨he, hb⟩ => ?_
  subst he
  have t0 := Below.trod laid (by kernel_rfl) (of_decide_eq_true (by kernel_rfl)) h0 hb (fun x hx => hlt x (by simp [hx]))
  have t1 := Below.trod laid (by kernel_rfl) (of_decide_eq_true (by kernel_rfl)) h1 hb (fun x hx => hlt x (by simp [hx]))
  exact ⟨_, rfl, [d0, d1], [], (p0 ++ p1), [], (p0 ++ (p1 ++ [])), [], hW', trodAll_cons_mk (shut_bool Try.underlying4 _) trodAll_mk0,
    (trodAll_cons_mk t0 (trodAll_cons_mk t1 trodAll_mk0)), rfl, hb.frame _, fun h => by cases h⟩

set_option maxRecDepth 100000 in
theorem lifted (os : Os) (started : os.Started) (H : Type) (enc : TypeId × Value → H) :
    ReturnsInHanded {} Try.checked os 12 .any (Rows.shapeDropsSpec.pre6 enc Try.prog Try.f12 Rows.shapeDropsRow.domain false) (Rows.shapeDropsSpec.post enc Try.prog Try.f12 false true false false) := by
  refine returnsInHanded_of_change_sized (C := Try.checked) own started (by kernel_rfl) Try.func12
    (ChangeSpec.witness6 (enc := enc) (C := Try.checked) false ⟨#[], #[.slice none 0 0, .slice none 0 0], []⟩ 8 (by kernel_rfl) (by kernel_rfl) (by kernel_rfl) (by kernel_rfl)) ?_
  intro W base args ds gs before hval hW _ hsz0 _
  exact contract H enc W base args ds gs before hval hW hsz0

theorem proved : Rows.ShapeDropsSaid :=
  OpenClaim.holds_of_wide 12 Try.f12 rfl rfl rfl rfl rfl rfl rfl ⟨rfl, rfl, rfl, rfl, rfl⟩ rfl rfl rfl rfl rfl (by kernel_rfl) Try.func12 (by kernel_rfl)
    (of_decide_eq_true (by kernel_rfl)) (by unfold Func.isWrapper; first | (rw [if_pos (by decide +kernel)]; kernel_rfl) | (rw [if_neg (by decide +kernel)]; exact ⟨rfl, rfl⟩))
    (fun os started H enc _ => lifted os started H enc)
end shapeDrops
end Go.Proofs.Ythlohkehacnolaa
