/-
  DigitsReads: the law answers true (which natural any bytes are the digits of, or why of none), and each argument reads behind the call as it read before, whatever the arguments are. No condition.
-/
import Derived.Test.YtokinmmnoiacdaaDLaw0
namespace Go.Proofs.Ytokinmmnoiacdaa
open Go.RowKit Go.ChangeShapes Go.WideShapes Go.ChangeAt
set_option linter.unusedVariables false
set_option linter.unusedSimpArgs false
set_option maxRecDepth 100000

set_option maxRecDepth 100000 in
set_option maxHeartbeats 8000000 in
theorem digitsReads_walk (s0 : ByteArray) (l0 : List UInt8) (w : World) (hs0 : s0.data.toList = l0) (hm0 : s0.size ≤ 9223372036854775807) :
    Calls Try.prog 4 #[.string s0] w fun e w' => e = .returned (.bool true) ∧ Below w.heap.size w w' := by
  have hcc : (codeN l0 == codeN l0) = true := by simp
  obtain ⟨c, hc⟩ : ∃ c, codeN l0 = c := ⟨_, rfl⟩
  have hp := fun w => parse4_any hs0 w hm0
  have hr := fun w => parseD_any hs0 w hm0
  rw [hc] at hp hr hcc
  have HC := Lib.hid hc
  clear hc
  go_enter Try.func4, Try.ntmps4
  go_wp2_with fail
  refine (hp _).mono ?_
  rintro e V1 ⟨r1, rfl, q1, hb1⟩
  have hz1 := hb1.size
  have Q1 := Lib.hid q1
  clear q1 hp
  go_wp2_with fail
  refine (hr _).mono ?_
  rintro e V2 ⟨r2, rfl, q2, hb2⟩
  have hz2 := hb2.size
  have hB2 : Below w.heap.size w V2 := hb1.trans (hb2.mono hz1)
  obtain ⟨zs, R1, l1⟩ := Q1.out
  obtain ⟨ys, R2, l2⟩ := q2.any
  have his := isN_true R2 (R1.later hb2) (by omega) (by omega)
  clear q2 hr R1 R2 hb1 hb2
  go_wp2_with fail
  refine his.mono ?_
  rintro e V3 ⟨rfl, hb3⟩
  have hz3 := hb3.size
  have hB3 := hB2.trans (hb3.mono (by omega))
  clear his hb3
  go_wp2_with fail
  refine (known4_any _).mono ?_
  rintro e VK ⟨rfl, hbk⟩
  go_wp2_with fail
  go_ret
  exact ⟨rfl, hB3.trans (hbk.mono (by omega))⟩

namespace digitsReads
theorem contract (H : Type) (enc : TypeId × Value → H) (W : World) (base : Nat) (args : Array Value) (ds gs : List (DataW H)) (before : List MemPlace)
    (hval : ∀ (j : Nat) t v, Try.f4.params[j]? = some t → args[j]? = some v → Value.okWide Try.prog W .any base t v)
    (hW : DataW.Whole enc Try.prog Try.f4.params.toList Rows.digitsReadsSpec.vars false W args.toList ds gs before) :
    Calls Try.prog 4 args W fun e W' => ∃ v, e = .returned v ∧ Rows.digitsReadsSpec.post enc Try.prog Try.f4 false true false false W args v W' := by
  have hW' := hW
  have hlt := fun p hp => hW'.lt p hp
  obtain ⟨p, q, hA0, hV, rfl, hfz, hnd⟩ := hW
  have hA : DataW.TrodAll enc Try.prog W 0 (fun _ => true) true Try.f4.params.toList args.toList ds p := hA0
  rw [Try.params4] at hA hval
  obtain ⟨v0, vs0, d0, ds0, p0, q0, ha0, rfl, rfl, h0, r0⟩ := trodAll_cons hA
  obtain ⟨rfl, rfl, rfl⟩ := trodAll_nil r0
  obtain rfl : args = #[v0] := by cases args; simp_all
  obtain ⟨rfl, rfl⟩ := trodVars_none hV
  clear hA hA0 hV
  obtain ⟨s0, rfl, rfl, rfl, w0⟩ := Go.ChangeMaps.open_string Try.underlying9 (hval 0 9 v0 rfl rfl) h0
  simp only [List.append_nil] at hW' hlt
  (try simp only [List.nil_append] at hW' hlt)
  refine (digitsReads_walk s0 s0.data.toList W rfl (by unfold maxLen at w0; exact w0)).mono fun e W' ⟨he, hb⟩ => ?_
  subst he
  exact ⟨_, rfl, [.lit (.string s0.data.toList)], [], [], [], ([] ++ []), [], hW', trodAll_cons_mk (shut_bool Try.underlying4 _) trodAll_mk0,
    (trodAll_cons_mk (Go.ChangeMaps.shut_string Try.underlying9 w0) trodAll_mk0), rfl, hb.frame _, fun h => by cases h⟩

set_option maxRecDepth 100000 in
theorem lifted (os : Os) (started : os.Started) (H : Type) (enc : TypeId × Value → H) :
    ReturnsInHanded {} Try.checked os 4 .any (Rows.digitsReadsSpec.pre6 enc Try.prog Try.f4 Rows.digitsReadsRow.domain false) (Rows.digitsReadsSpec.post enc Try.prog Try.f4 false true false false) := by
  refine returnsInHanded_of_change (C := Try.checked) own started (by kernel_rfl) Try.func4
    (ChangeSpec.witness6 (enc := enc) (C := Try.checked) false ⟨#[], #[.string (ByteArray.mk #[])], []⟩ 8 (by kernel_rfl) (by kernel_rfl) (by kernel_rfl) (by kernel_rfl)) ?_
  intro W base args ds gs before hval hW _ _
  exact contract H enc W base args ds gs before hval hW

theorem proved : Rows.DigitsReadsSaid :=
  OpenClaim.holds_of_wide 4 Try.f4 rfl rfl rfl rfl rfl rfl rfl ⟨rfl, rfl, rfl, rfl, rfl⟩ rfl rfl rfl rfl rfl (by kernel_rfl) Try.func4 (by kernel_rfl)
    (of_decide_eq_true (by kernel_rfl)) (by unfold Func.isWrapper; first | (rw [if_pos (by decide +kernel)]; kernel_rfl) | (rw [if_neg (by decide +kernel)]; exact ⟨rfl, rfl⟩))
    (fun os started H enc _ => lifted os started H enc)
end digitsReads
end Go.Proofs.Ytokinmmnoiacdaa
