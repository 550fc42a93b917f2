/-
  ShapeAxes. (Made by wip/gen/gen_slaws.py.)
-/
import Derived.Test.YthlohkehacnolaaSOpen
namespace Go.Proofs.Ythlohkehacnolaa
open Go.RowKit
set_option linter.unusedVariables false
set_option linter.unusedSimpArgs false

set_option maxRecDepth 100000 in
set_option maxHeartbeats 8000000 in
theorem shapeAxes_walk (xs0 : List Int) (a0 : Option Addr) (ca0 : Nat) (i1 : Int) (w : World) (A0 : ArgS w (.slice a0 xs0.length ca0) xs0 a0 ca0) (l0 : xs0.length ≤ 17592186043904) (n0 : a0 = none → ca0 = 0) (w1 : -9223372036854775808 ≤ i1 ∧ i1 ≤ 9223372036854775807) :
    Calls Try.prog 9 #[.slice a0 xs0.length ca0, .int .i64 i1] w fun e w' => e = .returned (.bool true) ∧ Below w.heap.size w w' := by
  obtain ⟨L, hL⟩ : ∃ L, xs0.length = L := ⟨_, rfl⟩
  by_cases hbig : 100 < L
  · rw [hL]
    have hI : (100 : Int) < (L : Int) := by omega
    clear A0 l0 n0 hL
    go_enter Try.func9, Try.ntmps9
    have B0 : Below w.heap.size w w := Below.refl _ _
    have S0 := B0.size
    go_wp2_with fail
    refine (known6_any _).mono ?_
    rintro e w1 ⟨rfl, hb⟩
    have B1 := B0.trans (hb.mono S0)
    have S1 := B1.size
    clear hb
    go_wp2_with fail
    go_ret
    exact ⟨rfl, B1⟩
  · have m1 := axesS_any i1 A0 n0 (by omega) w1.1 w1.2
    have m2 := fun W (hb : Below w.heap.size w W) => axesR_any i1 (A0.later hb) (by omega)
    obtain ⟨b, hb0⟩ : ∃ b, axesB xs0 i1 = b := ⟨_, rfl⟩
    unfold axesC at m1
    rw [hL, hb0] at m1
    simp only [hL, hb0] at m2
    rw [hL]
    have hI : ¬ (100 : Int) < (L : Int) := by omega
    clear A0 l0 n0 hL hb0
    go_enter Try.func9, Try.ntmps9
    cases b with
    | true =>
      simp only [if_true, Bool.false_eq_true, if_false] at m1
      have B0 : Below w.heap.size w w := Below.refl _ _
      have S0 := B0.size
      go_wp2_with fail
      refine (m1).mono ?_
      rintro e w1 ⟨rfl, hb⟩
      have B1 := B0.trans (hb.mono S0)
      have S1 := B1.size
      clear hb
      go_wp2_with fail
      refine (m2 _ B1).mono ?_
      rintro e w2 ⟨rfl, hb⟩
      have B2 := B1.trans (hb.mono S1)
      have S2 := B2.size
      clear hb
      go_wp2_with fail
      refine (known6_any _).mono ?_
      rintro e w3 ⟨rfl, hb⟩
      have B3 := B2.trans (hb.mono S2)
      have S3 := B3.size
      clear hb
      go_wp2_with fail
      go_ret
      exact ⟨rfl, B3⟩
    | false =>
      simp only [if_true, Bool.false_eq_true, if_false] at m1
      have B0 : Below w.heap.size w w := Below.refl _ _
      have S0 := B0.size
      go_wp2_with fail
      refine (m1).mono ?_
      rintro e w1 ⟨rfl, hb⟩
      have B1 := B0.trans (hb.mono S0)
      have S1 := B1.size
      clear hb
      go_wp2_with fail
      refine (m2 _ B1).mono ?_
      rintro e w2 ⟨rfl, hb⟩
      have B2 := B1.trans (hb.mono S1)
      have S2 := B2.size
      clear hb
      go_wp2_with fail
      refine (known6_any _).mono ?_
      rintro e w3 ⟨rfl, hb⟩
      have B3 := B2.trans (hb.mono S2)
      have S3 := B3.size
      clear hb
      go_wp2_with fail
      go_ret
      exact ⟨rfl, B3⟩

namespace shapeAxes
open Go.ChangeShapes Go.WideShapes Go.ChangeAt
theorem contract (H : Type) (enc : TypeId × Value → H) (W : World) (base : Nat) (args : Array Value) (ds gs : List (DataW H)) (before : List MemPlace)
    (hval : ∀ (j : Nat) t v, Try.f9.params[j]? = some t → args[j]? = some v → Value.okWide Try.prog W .any base t v)
    (hW : DataW.Whole enc Try.prog Try.f9.params.toList Rows.shapeAxesSpec.vars false W args.toList ds gs before) (hsz0 : (DataW.weightsEach Try.prog (Try.f9.params.toList ++ Rows.shapeAxesSpec.plain.varTypes Try.prog) (ds ++ gs)).all (· ≤ reachBytes) = true) :
    Calls Try.prog 9 args W fun e W' => ∃ v, e = .returned v ∧ Rows.shapeAxesSpec.post enc Try.prog Try.f9 false true false false W args v W' := by
  have hW' := hW
  have hlt := fun p hp => hW'.lt p hp
  have hsz : (DataW.weightsEach Try.prog (Try.f9.params.toList ++ []) (ds ++ gs)).all (· ≤ reachBytes) = true := hsz0
  obtain ⟨p, q, hA0, hV, rfl, hfz, hnd⟩ := hW
  have hA : DataW.TrodAll enc Try.prog W 0 (fun _ => true) true Try.f9.params.toList args.toList ds p := hA0
  rw [Try.params9] at hA hval hsz
  obtain ⟨v0, vs0, d0, ds0, p0, q0, ha0, rfl, rfl, h0, r0⟩ := trodAll_cons hA
  obtain ⟨v1, vs1, d1, ds1, p1, q1, ha1, rfl, rfl, h1, r1⟩ := trodAll_cons r0
  obtain ⟨rfl, rfl, rfl⟩ := trodAll_nil r1
  subst ha1
  obtain rfl : args = #[v0, v1] := by cases args; simp_all
  obtain ⟨rfl, rfl⟩ := trodVars_none hV
  clear hA hA0 hV
  obtain ⟨i1, rfl, rfl, rfl, w1⟩ := open_int Try.underlying3 (hval 1 3 v1 rfl rfl) h1
  simp only [List.append_nil] at hW' hlt hsz
  (try simp only [List.nil_append] at hW' hlt hsz)
  obtain ⟨a0, xs0, ca0, A0, l0, n0⟩ := open_list (okWide_slice Try.underlying22 (hval 0 22 v0 rfl rfl)) h0 (reach_list hsz (j := 0) rfl rfl)
  have e0 := A0.is
  subst e0
  refine (shapeAxes_walk xs0 a0 ca0 i1 W A0 l0 n0 (wf_w64 w1)).mono fun e W' ⟨he, hb⟩ => ?_
  subst he
  have t0 := Below.trod laid (by kernel_rfl) (of_decide_eq_true (by kernel_rfl)) h0 hb (fun x hx => hlt x (by simp [hx]))
  exact ⟨_, rfl, [d0, .lit (.int .i64 i1)], [], p0, [], (p0 ++ ([] ++ [])), [], hW', trodAll_cons_mk (shut_bool Try.underlying4 _) trodAll_mk0,
    (trodAll_cons_mk t0 (trodAll_cons_mk (shut_int Try.underlying3 w1) trodAll_mk0)), rfl, hb.frame _, fun h => by cases h⟩

set_option maxRecDepth 100000 in
theorem lifted (os : Os) (started : os.Started) (H : Type) (enc : TypeId × Value → H) :
    ReturnsInHanded {} Try.checked os 9 .any (Rows.shapeAxesSpec.pre6 enc Try.prog Try.f9 Rows.shapeAxesRow.domain false) (Rows.shapeAxesSpec.post enc Try.prog Try.f9 false true false false) := by
  refine returnsInHanded_of_change_sized (C := Try.checked) own started (by kernel_rfl) Try.func9
    (ChangeSpec.witness6 (enc := enc) (C := Try.checked) false ⟨#[], #[.slice none 0 0, .int .i64 0], []⟩ 8 (by kernel_rfl) (by kernel_rfl) (by kernel_rfl) (by kernel_rfl)) ?_
  intro W base args ds gs before hval hW _ hsz0 _
  exact contract H enc W base args ds gs before hval hW hsz0

theorem proved : Rows.ShapeAxesSaid :=
  OpenClaim.holds_of_wide 9 Try.f9 rfl rfl rfl rfl rfl rfl rfl ⟨rfl, rfl, rfl, rfl, rfl⟩ rfl rfl rfl rfl rfl (by kernel_rfl) Try.func9 (by kernel_rfl)
    (of_decide_eq_true (by kernel_rfl)) (by unfold Func.isWrapper; first | (rw [if_pos (by decide +kernel)]; kernel_rfl) | (rw [if_neg (by decide +kernel)]; exact ⟨rfl, rfl⟩))
    (fun os started H enc _ => lifted os started H enc)
end shapeAxes
end Go.Proofs.Ythlohkehacnolaa
