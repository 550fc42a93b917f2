/-
  DigitsNats: the law answers true (the digits of any natural, and how many they are), and each argument reads behind the call as it read before, whatever the arguments are. No condition.
-/
import Derived.Test.YtokinmmnoiacdaaDLaw0
namespace Go.Proofs.Ytokinmmnoiacdaa
open Go.RowKit Go.ChangeShapes Go.WideShapes Go.ChangeAt
set_option linter.unusedVariables false
set_option linter.unusedSimpArgs false
set_option maxRecDepth 100000

set_option maxRecDepth 100000 in
set_option maxHeartbeats 8000000 in
theorem digitsNats_walk (xs0 : List Int) (a0 : Option Addr) (ca0 : Nat) (w : World) (A0 : Arg w (.slice a0 xs0.length ca0) xs0 a0 ca0) :
    Calls Try.prog 3 #[.slice a0 xs0.length ca0] w fun e w' => e = .returned (.bool true) ∧ Below w.heap.size w w' := by
  by_cases g0 : xs0.length ≤ 60
  case neg =>
    have d0 : decide ((60 : Int) < (xs0.length : Int)) = true := decide_eq_true (by omega)
    have hW := Below.refl w.heap.size w
    go_enter Try.func3, Try.ntmps3
    go_wp2_with fail
    refine (known4_any _).mono ?_
    rintro e VK ⟨rfl, hbk⟩
    go_wp2_with fail
    go_ret
    exact ⟨rfl, hW.trans (hbk.mono (by omega))⟩
  have d0 : decide ((60 : Int) < (xs0.length : Int)) = false := decide_eq_false (by omega)
  go_enter Try.func3, Try.ntmps3
  go_wp2_with fail
  refine (of_any A0 (by omega)).mono ?_
  rintro e V1 ⟨r1, rfl, zs, q1, l1, hb1⟩
  obtain ⟨ad1, cp1, D1⟩ := q1.arg
  have hv1 := q1.eq
  have hz1 := hb1.size
  go_wp2_with fail
  refine (natD_any D1 (by omega)).mono ?_
  rintro e V2 ⟨s1, rfl, hs1, hm1, hb2⟩
  rw [hv1] at hs1
  have hz2 := hb2.size
  have hB2 : Below w.heap.size w V2 := hb1.trans (hb2.mono hz1)
  have A2 := (A0.later hb1).later hb2
  have H1 := Lib.hid hs1
  clear hs1 hv1 q1 D1 hb1 hb2 l1
  go_wp2_with fail
  refine (nat4_any A2 (by omega)).mono ?_
  rintro e V3 ⟨s2, rfl, hs2, hm2, hb3⟩
  have hz3 := hb3.size
  have A3 := A2.later hb3
  have hB3 := hB2.trans (hb3.mono (by omega))
  have hq : (s2.toList == s1.toList) = true := by rw [ByteArray.toList_eq, ByteArray.toList_eq, hs2, H1.out]; simp
  have hsz := size_of H1.out
  obtain ⟨m, hm⟩ : ∃ m, s1.size = m := ⟨_, rfl⟩
  have hcount := count4_any A3 (by omega)
  rw [show (dec (val xs0).toNat).length = m by omega] at hcount
  clear hs2 hsz hb3
  go_wp2_with fail
  refine hcount.mono ?_
  rintro e V4 ⟨rfl, hb4⟩
  have hz4 := hb4.size
  have hB4 := hB3.trans (hb4.mono (by omega))
  clear hcount hb4
  go_wp2_with fail
  refine (known4_any _).mono ?_
  rintro e VK ⟨rfl, hbk⟩
  go_wp2_with fail
  go_ret
  exact ⟨rfl, hB4.trans (hbk.mono (by omega))⟩

namespace digitsNats
theorem contract (H : Type) (enc : TypeId × Value → H) (W : World) (base : Nat) (args : Array Value) (ds gs : List (DataW H)) (before : List MemPlace)
    (hval : ∀ (j : Nat) t v, Try.f3.params[j]? = some t → args[j]? = some v → Value.okWide Try.prog W .any base t v)
    (hW : DataW.Whole enc Try.prog Try.f3.params.toList Rows.digitsNatsSpec.vars false W args.toList ds gs before) :
    Calls Try.prog 3 args W fun e W' => ∃ v, e = .returned v ∧ Rows.digitsNatsSpec.post enc Try.prog Try.f3 false true false false W args v W' := by
  have hW' := hW
  have hlt := fun p hp => hW'.lt p hp
  obtain ⟨p, q, hA0, hV, rfl, hfz, hnd⟩ := hW
  have hA : DataW.TrodAll enc Try.prog W 0 (fun _ => true) true Try.f3.params.toList args.toList ds p := hA0
  rw [Try.params3] at hA hval
  obtain ⟨v0, vs0, d0, ds0, p0, q0, ha0, rfl, rfl, h0, r0⟩ := trodAll_cons hA
  obtain ⟨rfl, rfl, rfl⟩ := trodAll_nil r0
  obtain rfl : args = #[v0] := by cases args; simp_all
  obtain ⟨rfl, rfl⟩ := trodVars_none hV
  clear hA hA0 hV
  simp only [List.append_nil] at hW' hlt
  obtain ⟨a0, xs0, ca0, A0, n0⟩ := open_nat3 (okWide_slice Try.underlying23 (hval 0 23 v0 rfl rfl)) h0
  have e0 := A0.is
  subst e0
  refine (digitsNats_walk xs0 a0 ca0 W A0).mono fun e W' ⟨he, hb⟩ => ?_
  subst he
  have t0 := Below.trod laid (by kernel_rfl) (of_decide_eq_true (by kernel_rfl)) h0 hb (fun x hx => hlt x (by simp [hx]))
  exact ⟨_, rfl, [d0], [], p0, [], (p0 ++ []), [], hW', trodAll_cons_mk (shut_bool Try.underlying4 _) trodAll_mk0,
    (trodAll_cons_mk t0 trodAll_mk0), rfl, hb.frame _, fun h => by cases h⟩

set_option maxRecDepth 100000 in
theorem lifted (os : Os) (started : os.Started) (H : Type) (enc : TypeId × Value → H) :
    ReturnsInHanded {} Try.checked os 3 .any (Rows.digitsNatsSpec.pre6 enc Try.prog Try.f3 Rows.digitsNatsRow.domain false) (Rows.digitsNatsSpec.post enc Try.prog Try.f3 false true false false) := by
  refine returnsInHanded_of_change (C := Try.checked) own started (by kernel_rfl) Try.func3
    (ChangeSpec.witness6 (enc := enc) (C := Try.checked) false ⟨#[], #[.slice none 0 0], []⟩ 8 (by kernel_rfl) (by kernel_rfl) (by kernel_rfl) (by kernel_rfl)) ?_
  intro W base args ds gs before hval hW _ _
  exact contract H enc W base args ds gs before hval hW

theorem proved : Rows.DigitsNatsSaid :=
  OpenClaim.holds_of_wide 3 Try.f3 rfl rfl rfl rfl rfl rfl rfl ⟨rfl, rfl, rfl, rfl, rfl⟩ rfl rfl rfl rfl rfl (by kernel_rfl) Try.func3 (by kernel_rfl)
    (of_decide_eq_true (by kernel_rfl)) (by unfold Func.isWrapper; first | (rw [if_pos (by decide +kernel)]; kernel_rfl) | (rw [if_neg (by decide +kernel)]; exact ⟨rfl, rfl⟩))
    (fun os started H enc _ => lifted os started H enc)
end digitsNats
end Go.Proofs.Ytokinmmnoiacdaa
