/-
  DigitsTexts: the law answers true (which rational any bytes are the text of, or why of none), and each argument reads behind the call as it read before, whatever the arguments are. No condition.
-/
import Derived.Test.YtokinmmnoiacdaaDLaw0
namespace Go.Proofs.Ytokinmmnoiacdaa
open Go.RowKit Go.ChangeShapes Go.WideShapes Go.ChangeAt
set_option linter.unusedVariables false
set_option linter.unusedSimpArgs false
set_option maxRecDepth 100000

set_option maxRecDepth 100000 in
set_option maxHeartbeats 8000000 in
theorem digitsTexts_walk (s0 : ByteArray) (l0 : List UInt8) (w : World) (hs0 : s0.data.toList = l0) (hm0 : s0.size ≤ 9223372036854775807) :
    Calls Try.prog 6 #[.string s0] w fun e w' => e = .returned (.bool true) ∧ Below w.heap.size w w' := by
  by_cases g0 : s0.size ≤ 120
  case pos =>
    have d0 : decide ((120 : Int) < (s0.size : Int)) = false := decide_eq_false (by omega)
    obtain ⟨c, hc⟩ : ∃ c, codeR l0 = c := ⟨_, rfl⟩
    have hp := fun w => parseQ_any hs0 w hm0
    have hr := fun w => parseRD_any hs0 w hm0
    rw [hc] at hp hr
    have HC := Lib.hid hc
    have hcc : (c == c) = true := by simp
    by_cases h0 : c = 0
    · subst h0
      have h00 : ((0 : Int) != 0) = false := by decide
      clear hc
      go_enter Try.func6, Try.ntmps6
      go_wp2_with fail
      refine (hp _).mono ?_
      rintro e V1 ⟨r1, rfl, q1, hb1⟩
      unfold ParsedQ at q1
      rw [if_pos HC.out] at q1
      have hz1 := hb1.size
      obtain ⟨m1, fs1, gs1, f1, g1, j1, k1, rfl⟩ := q1.arg.box
      clear hp
      obtain ⟨U1, hU1⟩ : ∃ U, V1.alloc (.cells #[.bool m1, .slice f1 fs1.length j1, .slice g1 gs1.length k1] 40) = U := ⟨_, rfl⟩
      have hbU1 : Below V1.heap.size V1 U1 := by rw [← hU1]; exact (Below.refl _ _).alloc (Nat.le_refl _) _
      have R1 : Row U1 V1.heap.size 40 #[.bool m1, .slice f1 fs1.length j1, .slice g1 gs1.length k1] := by rw [← hU1]; exact Row.new _ _ _
      have hzU1 := hbU1.size
      have q1' := q1.later hbU1
      have hB1 : Below w.heap.size w U1 := hb1.trans (hbU1.mono hz1)
      clear q1 hb1
      go_wp2_with fail
      (try rw [hU1])
      refine (hr _).mono ?_
      rintro e V2 ⟨r2, rfl, q2, hb2⟩
      unfold ParsedR at q2
      rw [if_pos HC.out] at q2
      have hz2 := hb2.size
      obtain ⟨m2, fs2, gs2, f2, g2, j2, k2, rfl⟩ := q2.box
      clear hr
      obtain ⟨U2, hU2⟩ : ∃ U, V2.alloc (.cells #[.bool m2, .slice f2 fs2.length j2, .slice g2 gs2.length k2] 44) = U := ⟨_, rfl⟩
      have hbU2 : Below V2.heap.size V2 U2 := by rw [← hU2]; exact (Below.refl _ _).alloc (Nat.le_refl _) _
      have R2 : Row U2 V2.heap.size 44 #[.bool m2, .slice f2 fs2.length j2, .slice g2 gs2.length k2] := by rw [← hU2]; exact Row.new _ _ _
      have hzU2 := hbU2.size
      have q2' := q2.later hbU2
      have q1'' := (q1'.later hb2).later hbU2
      have R1' := (R1.later hb2).later hbU2
      have hB2 : Below w.heap.size w U2 := hB1.trans ((hb2.trans (hbU2.mono hz2)).mono (by omega))
      clear q1' q2 hb2 hU1
      obtain ⟨p0, p1, p2, _, _, _⟩ := R1'.three
      obtain ⟨o0, o1, o2, _, _, _⟩ := R2.three
      go_wp2_with fail
      (try rw [hU2])
      refine (isR_true q2' q1'' (by omega) (by omega)).mono ?_
      rintro e V3 ⟨rfl, hb3⟩
      have hz3 := hb3.size
      have hB3 := hB2.trans (hb3.mono (by omega))
      clear p0 p1 p2 o0 o1 o2 hb3 hU2
      go_wp2_with fail
      refine (known4_any _).mono ?_
      rintro e VK ⟨rfl, hbk⟩
      go_wp2_with fail
      go_ret
      exact ⟨rfl, hB3.trans (hbk.mono (by omega))⟩
    · have h1 : (c != 0) = true := by simpa using h0
      have H0 := Lib.hid h0
      clear hc h0
      go_enter Try.func6, Try.ntmps6
      go_wp2_with fail
      refine (hp _).mono ?_
      rintro e V1 ⟨r1, rfl, q1, hb1⟩
      unfold ParsedQ at q1
      rw [if_neg (by rw [HC.out]; exact H0.out)] at q1
      subst q1
      have hz1 := hb1.size
      clear hp
      go_wp2_with fail
      refine (hr _).mono ?_
      rintro e V2 ⟨r2, rfl, q2, hb2⟩
      unfold ParsedR at q2
      rw [if_neg (by rw [HC.out]; exact H0.out)] at q2
      subst q2
      have hz2 := hb2.size
      have hB2 : Below w.heap.size w V2 := (hb1.alloc (by omega) _).trans (hb2.mono (by simp; omega))
      have hz3 := hB2.size
      clear hr hb1 hb2
      go_wp2_with fail
      refine (falls_any hs0 HC.out H0.out _ hm0).mono ?_
      rintro e V3 ⟨rfl, hb3⟩
      have hB3 := (hB2.alloc (by omega) _).trans (hb3.mono (by simp; omega))
      have hz4 := hB3.size
      clear hb3
      go_wp2_with fail
      refine (known4_any _).mono ?_
      rintro e VK ⟨rfl, hbk⟩
      go_wp2_with fail
      go_ret
      exact ⟨rfl, hB3.trans (hbk.mono (by omega))⟩
  have d0 : decide ((120 : Int) < (s0.size : Int)) = true := decide_eq_true (by omega)
  by_cases g1 : s0.size ≤ 800
  case pos =>
    have d1 : decide ((s0.size : Int) ≤ 800) = true := decide_eq_true (by omega)
    have hWW := Below.refl w.heap.size w
    go_enter Try.func6, Try.ntmps6
    go_wp2_with fail
    refine (known4_any _).mono ?_
    rintro e VK ⟨rfl, hbk⟩
    go_wp2_with fail
    go_ret
    exact ⟨rfl, hWW.trans (hbk.mono (by omega))⟩
  have d1 : decide ((s0.size : Int) ≤ 800) = false := decide_eq_false (by omega)
  obtain ⟨c, hc⟩ : ∃ c, codeR l0 = c := ⟨_, rfl⟩
  have hp := fun w => parseQ_any hs0 w hm0
  have hr := fun w => parseRD_any hs0 w hm0
  rw [hc] at hp hr
  have HC := Lib.hid hc
  have hcc : (c == c) = true := by simp
  by_cases h0 : c = 0
  · subst h0
    have h00 : ((0 : Int) != 0) = false := by decide
    clear hc
    go_enter Try.func6, Try.ntmps6
    go_wp2_with fail
    refine (hp _).mono ?_
    rintro e V1 ⟨r1, rfl, q1, hb1⟩
    unfold ParsedQ at q1
    rw [if_pos HC.out] at q1
    have hz1 := hb1.size
    obtain ⟨m1, fs1, gs1, f1, g1, j1, k1, rfl⟩ := q1.arg.box
    clear hp
    obtain ⟨U1, hU1⟩ : ∃ U, V1.alloc (.cells #[.bool m1, .slice f1 fs1.length j1, .slice g1 gs1.length k1] 40) = U := ⟨_, rfl⟩
    have hbU1 : Below V1.heap.size V1 U1 := by rw [← hU1]; exact (Below.refl _ _).alloc (Nat.le_refl _) _
    have R1 : Row U1 V1.heap.size 40 #[.bool m1, .slice f1 fs1.length j1, .slice g1 gs1.length k1] := by rw [← hU1]; exact Row.new _ _ _
    have hzU1 := hbU1.size
    have q1' := q1.later hbU1
    have hB1 : Below w.heap.size w U1 := hb1.trans (hbU1.mono hz1)
    clear q1 hb1
    go_wp2_with fail
    (try rw [hU1])
    refine (hr _).mono ?_
    rintro e V2 ⟨r2, rfl, q2, hb2⟩
    unfold ParsedR at q2
    rw [if_pos HC.out] at q2
    have hz2 := hb2.size
    obtain ⟨m2, fs2, gs2, f2, g2, j2, k2, rfl⟩ := q2.box
    clear hr
    obtain ⟨U2, hU2⟩ : ∃ U, V2.alloc (.cells #[.bool m2, .slice f2 fs2.length j2, .slice g2 gs2.length k2] 44) = U := ⟨_, rfl⟩
    have hbU2 : Below V2.heap.size V2 U2 := by rw [← hU2]; exact (Below.refl _ _).alloc (Nat.le_refl _) _
    have R2 : Row U2 V2.heap.size 44 #[.bool m2, .slice f2 fs2.length j2, .slice g2 gs2.length k2] := by rw [← hU2]; exact Row.new _ _ _
    have hzU2 := hbU2.size
    have q2' := q2.later hbU2
    have q1'' := (q1'.later hb2).later hbU2
    have R1' := (R1.later hb2).later hbU2
    have hB2 : Below w.heap.size w U2 := hB1.trans ((hb2.trans (hbU2.mono hz2)).mono (by omega))
    clear q1' q2 hb2 hU1
    obtain ⟨p0, p1, p2, _, _, _⟩ := R1'.three
    obtain ⟨o0, o1, o2, _, _, _⟩ := R2.three
    go_wp2_with fail
    (try rw [hU2])
    refine (isR_true q2' q1'' (by omega) (by omega)).mono ?_
    rintro e V3 ⟨rfl, hb3⟩
    have hz3 := hb3.size
    have hB3 := hB2.trans (hb3.mono (by omega))
    clear p0 p1 p2 o0 o1 o2 hb3 hU2
    go_wp2_with fail
    refine (known4_any _).mono ?_
    rintro e VK ⟨rfl, hbk⟩
    go_wp2_with fail
    go_ret
    exact ⟨rfl, hB3.trans (hbk.mono (by omega))⟩
  · have h1 : (c != 0) = true := by simpa using h0
    have H0 := Lib.hid h0
    clear hc h0
    go_enter Try.func6, Try.ntmps6
    go_wp2_with fail
    refine (hp _).mono ?_
    rintro e V1 ⟨r1, rfl, q1, hb1⟩
    unfold ParsedQ at q1
    rw [if_neg (by rw [HC.out]; exact H0.out)] at q1
    subst q1
    have hz1 := hb1.size
    clear hp
    go_wp2_with fail
    refine (hr _).mono ?_
    rintro e V2 ⟨r2, rfl, q2, hb2⟩
    unfold ParsedR at q2
    rw [if_neg (by rw [HC.out]; exact H0.out)] at q2
    subst q2
    have hz2 := hb2.size
    have hB2 : Below w.heap.size w V2 := (hb1.alloc (by omega) _).trans (hb2.mono (by simp; omega))
    have hz3 := hB2.size
    clear hr hb1 hb2
    go_wp2_with fail
    refine (falls_any hs0 HC.out H0.out _ hm0).mono ?_
    rintro e V3 ⟨rfl, hb3⟩
    have hB3 := (hB2.alloc (by omega) _).trans (hb3.mono (by simp; omega))
    have hz4 := hB3.size
    clear hb3
    go_wp2_with fail
    refine (known4_any _).mono ?_
    rintro e VK ⟨rfl, hbk⟩
    go_wp2_with fail
    go_ret
    exact ⟨rfl, hB3.trans (hbk.mono (by omega))⟩

namespace digitsTexts
theorem contract (H : Type) (enc : TypeId × Value → H) (W : World) (base : Nat) (args : Array Value) (ds gs : List (DataW H)) (before : List MemPlace)
    (hval : ∀ (j : Nat) t v, Try.f6.params[j]? = some t → args[j]? = some v → Value.okWide Try.prog W .any base t v)
    (hW : DataW.Whole enc Try.prog Try.f6.params.toList Rows.digitsTextsSpec.vars false W args.toList ds gs before) :
    Calls Try.prog 6 args W fun e W' => ∃ v, e = .returned v ∧ Rows.digitsTextsSpec.post enc Try.prog Try.f6 false true false false W args v W' := by
  have hW' := hW
  have hlt := fun p hp => hW'.lt p hp
  obtain ⟨p, q, hA0, hV, rfl, hfz, hnd⟩ := hW
  have hA : DataW.TrodAll enc Try.prog W 0 (fun _ => true) true Try.f6.params.toList args.toList ds p := hA0
  rw [Try.params6] at hA hval
  obtain ⟨v0, vs0, d0, ds0, p0, q0, ha0, rfl, rfl, h0, r0⟩ := trodAll_cons hA
  obtain ⟨rfl, rfl, rfl⟩ := trodAll_nil r0
  obtain rfl : args = #[v0] := by cases args; simp_all
  obtain ⟨rfl, rfl⟩ := trodVars_none hV
  clear hA hA0 hV
  obtain ⟨s0, rfl, rfl, rfl, w0⟩ := Go.ChangeMaps.open_string Try.underlying9 (hval 0 9 v0 rfl rfl) h0
  simp only [List.append_nil] at hW' hlt
  (try simp only [List.nil_append] at hW' hlt)
  refine (digitsTexts_walk s0 s0.data.toList W rfl (by unfold maxLen at w0; exact w0)).mono fun e W' ⟨he, hb⟩ => ?_
  subst he
  exact ⟨_, rfl, [.lit (.string s0.data.toList)], [], [], [], ([] ++ []), [], hW', trodAll_cons_mk (shut_bool Try.underlying4 _) trodAll_mk0,
    (trodAll_cons_mk (Go.ChangeMaps.shut_string Try.underlying9 w0) trodAll_mk0), rfl, hb.frame _, fun h => by cases h⟩

set_option maxRecDepth 100000 in
theorem lifted (os : Os) (started : os.Started) (H : Type) (enc : TypeId × Value → H) :
    ReturnsInHanded {} Try.checked os 6 .any (Rows.digitsTextsSpec.pre6 enc Try.prog Try.f6 Rows.digitsTextsRow.domain false) (Rows.digitsTextsSpec.post enc Try.prog Try.f6 false true false false) := by
  refine returnsInHanded_of_change (C := Try.checked) own started (by kernel_rfl) Try.func6
    (ChangeSpec.witness6 (enc := enc) (C := Try.checked) false ⟨#[], #[.string (ByteArray.mk #[])], []⟩ 8 (by kernel_rfl) (by kernel_rfl) (by kernel_rfl) (by kernel_rfl)) ?_
  intro W base args ds gs before hval hW _ _
  exact contract H enc W base args ds gs before hval hW

theorem proved : Rows.DigitsTextsSaid :=
  OpenClaim.holds_of_wide 6 Try.f6 rfl rfl rfl rfl rfl rfl rfl ⟨rfl, rfl, rfl, rfl, rfl⟩ rfl rfl rfl rfl rfl (by kernel_rfl) Try.func6 (by kernel_rfl)
    (of_decide_eq_true (by kernel_rfl)) (by unfold Func.isWrapper; first | (rw [if_pos (by decide +kernel)]; kernel_rfl) | (rw [if_neg (by decide +kernel)]; exact ⟨rfl, rfl⟩))
    (fun os started H enc _ => lifted os started H enc)
end digitsTexts
end Go.Proofs.Ytokinmmnoiacdaa
