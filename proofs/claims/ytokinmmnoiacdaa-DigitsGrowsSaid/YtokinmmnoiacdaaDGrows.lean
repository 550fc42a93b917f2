/-
  DigitsGrows: the law answers true (the digits of ten times a natural (not 0), and a digit, are that one's digits and the digit), and each argument reads behind the call as it read before, whatever the arguments are. No condition.
-/
import Derived.Test.YtokinmmnoiacdaaDLaw0
namespace Go.Proofs.Ytokinmmnoiacdaa
open Go.RowKit Go.ChangeShapes Go.WideShapes Go.ChangeAt
set_option linter.unusedVariables false
set_option linter.unusedSimpArgs false
set_option maxRecDepth 100000

theorem count4_i {u : Value} {xs : List Int} {a : Option Addr} {capa : Nat} {w : World} {m : Int} (h1 : Arg w u xs a capa) (hx : xs.length ≤ 1048576) (hm : ((dec (val xs).toNat).length : Int) = m) :
    Calls Try.prog 16 #[u] w fun e w' => e = .returned (.int .i64 m) ∧ Below w.heap.size w w' := by
  have k := count4_any h1 hx
  rwa [hm] at k
theorem nil_argG (w : World) : Arg w (.slice none 0 0) [] none 0 := ⟨rfl, .inl rfl, Nat.le_refl _, Wf.nil⟩
set_option maxRecDepth 100000 in
set_option maxHeartbeats 8000000 in
theorem digitsGrows_walk (xs0 : List Int) (a0 : Option Addr) (ca0 : Nat) (i1 : Int) (w : World) (A0 : Arg w (.slice a0 xs0.length ca0) xs0 a0 ca0) (lo1 : -9223372036854775808 ≤ i1) (hi1 : i1 ≤ 9223372036854775807) :
    Calls Try.prog 9 #[.slice a0 xs0.length ca0, .int .i64 i1] w fun e w' => e = .returned (.bool true) ∧ Below w.heap.size w w' := by
  have hWW := Below.refl w.heap.size w
  by_cases g0 : xs0.length ≤ 40
  case neg =>
    have d0 : decide ((40 : Int) < (xs0.length : Int)) = true := decide_eq_true (by omega)
    go_enter Try.func9, Try.ntmps9
    go_wp2_with fail
    refine (known4_any _).mono ?_
    rintro e VK ⟨rfl, hbk⟩
    go_wp2_with fail
    go_ret
    exact ⟨rfl, hWW.trans (hbk.mono (by omega))⟩
  by_cases g1 : 0 ≤ i1
  case neg =>
    have d0 : decide ((40 : Int) < (xs0.length : Int)) = false := decide_eq_false (by omega)
    have d1 : decide (i1 < (0 : Int)) = true := decide_eq_true (by omega)
    go_enter Try.func9, Try.ntmps9
    go_wp2_with fail
    refine (known4_any _).mono ?_
    rintro e VK ⟨rfl, hbk⟩
    go_wp2_with fail
    go_ret
    exact ⟨rfl, hWW.trans (hbk.mono (by omega))⟩
  by_cases g2 : i1 ≤ 9
  case neg =>
    have d0 : decide ((40 : Int) < (xs0.length : Int)) = false := decide_eq_false (by omega)
    have d1 : decide (i1 < (0 : Int)) = false := decide_eq_false (by omega)
    have d2 : decide ((9 : Int) < i1) = true := decide_eq_true (by omega)
    go_enter Try.func9, Try.ntmps9
    go_wp2_with fail
    refine (known4_any _).mono ?_
    rintro e VK ⟨rfl, hbk⟩
    go_wp2_with fail
    go_ret
    exact ⟨rfl, hWW.trans (hbk.mono (by omega))⟩
  have d0 : decide ((40 : Int) < (xs0.length : Int)) = false := decide_eq_false (by omega)
  have d1 : decide (i1 < (0 : Int)) = false := decide_eq_false (by omega)
  have d2 : decide ((9 : Int) < i1) = false := decide_eq_false (by omega)
  have hn0 := val_nonneg A0.wf
  have hcmp := fun w' (hb : Below w.heap.size w w') => cmp_res (A0.later hb) (nil_argG w') (by omega) (by simp)
  by_cases g3 : val xs0 = 0
  · have hsg : sign (val xs0) (val []) = 0 := by rw [g3]; rfl
    rw [hsg] at hcmp
    go_enter Try.func9, Try.ntmps9
    go_wp2_with fail
    refine (hcmp _ (Below.refl _ _)).mono ?_
    rintro e V1 ⟨rfl, hb1⟩
    have hz1 := hb1.size
    clear hcmp
    go_wp2_with fail
    refine (known4_any _).mono ?_
    rintro e VK ⟨rfl, hbk⟩
    go_wp2_with fail
    go_ret
    exact ⟨rfl, hb1.trans (hbk.mono (by omega))⟩
  · have hsg : sign (val xs0) (val []) = 1 := by unfold sign; rw [if_neg (by show ¬ val xs0 < 0; omega), if_pos (by show 0 < val xs0; omega)]
    rw [hsg] at hcmp
    obtain ⟨x, hx⟩ : ∃ x, (val xs0).toNat = x := ⟨_, rfl⟩
    have hx0 : 0 < x := by omega
    have hw1 : IntKind.i64.wrap (i1 + 1) = i1 + 1 := IntWalk.i64_in _ (by omega)
    have hwu : IntKind.u64.wrap i1 = i1 := by
      have h := wrap_abs i1.toNat (by omega)
      have e : ((i1.toNat : Nat) : Int) = i1 := by omega
      rw [e] at h
      rwa [show wrap64 i1 = i1 from wrap64_small _ (by omega) (by omega)] at h
    have e0 : 0 ≤ i1 := by omega
    have e1 : i1 ≤ i1 + 1 := by omega
    have e2 : i1 + 1 ≤ 10 := by omega
    have hcut := digit_cut i1 (by omega) (by omega)
    have HX := Lib.hid hx
    have hg1 : ((1 : Int) == 0) = false := by decide
    go_enter Try.func9, Try.ntmps9
    go_wp2_with fail
    refine (hcmp _ (Below.refl _ _)).mono ?_
    rintro e V1 ⟨rfl, hb1⟩
    have hz1 := hb1.size
    clear hcmp
    go_wp2_with fail
    refine (ofN_any 10 _ (by omega) (by omega)).mono ?_
    rintro e V2 ⟨r2, z2, rfl, q2, n2, hb2⟩
    obtain ⟨ad2, cp2, T2⟩ := q2.arg
    have A2 := (A0.later hb1).later hb2
    have hz2 := hb2.size
    have hv2 := q2.eq
    go_wp2_with fail
    refine (mul_res A2 T2 (by omega) (by omega)).mono ?_
    rintro e V3 ⟨r3, z3, rfl, q3, n3, hb3⟩
    have hz3 := hb3.size
    have A3 := A2.later hb3
    have hv3 := q3.eq
    go_wp2_with fail
    refine (ofN_any i1 _ (by omega) (by omega)).mono ?_
    rintro e V5 ⟨r5, z5, rfl, q5, n5, hb5⟩
    have hz5 := hb5.size
    have q3' := q3.later hb5
    obtain ⟨ad3, cp3, T3⟩ := q3'.arg
    obtain ⟨ad5, cp5, T5⟩ := q5.arg
    have hv5 := q5.eq
    go_wp2_with fail
    refine (add_res T3 T5 (by omega) (by omega)).mono ?_
    rintro e V4 ⟨r4, z4, rfl, q4, n4, hb4⟩
    have hz4 := hb4.size
    obtain ⟨ad4, cp4, B4⟩ := q4.arg
    have A4 := (A3.later hb5).later hb4
    have hv4 : val z4 = val xs0 * 10 + i1 := by rw [q4.eq, hv3, hv2, hv5]
    have hB4 : Below w.heap.size w V4 := hb1.trans (((hb2.trans (hb3.mono hz2)).trans ((hb5.trans (hb4.mono hz5)).mono (by omega))).mono hz1)
    have hdec : dec (val z4).toNat = dec x ++ [dig i1.toNat] := by
      have e : (val z4).toNat = x * 10 + i1.toNat := by rw [hv4]; omega
      rw [e]; exact dec_snoc hx0 (by omega)
    have hlen4 : z4.length ≤ 1048576 := by omega
    obtain ⟨M, hM⟩ : ∃ M : Int, ((dec x).length : Int) = M := ⟨_, rfl⟩
    have HM0 := Lib.hid (show ((dec (val xs0).toNat).length : Int) = M by rw [HX.out]; exact hM)
    have HM1 := Lib.hid (show ((dec (val z4).toNat).length : Int) = M + 1 by rw [hdec, List.length_append, List.length_singleton]; omega)
    have HD := Lib.hid (show dec (val z4).toNat = dec (val xs0).toNat ++ [dig i1.toNat] by rw [HX.out]; exact hdec)
    have hMb : M ≤ 1000000 := by
      have h1 := dec_length_val A0.wf
      rw [HX.out] at h1
      rw [← hM]
      omega
    have hM0 : 0 ≤ M := by omega
    have hwm : IntKind.i64.wrap (M + 1) = M + 1 := IntWalk.i64_in _ (by omega)
    obtain rfl := B4.is
    clear q2 q3 q3' q4 q5 T2 T3 T5 A2 A3 hb1 hb2 hb3 hb4 hb5 hv2 hv3 hv4 hv5 hdec hM hsg hx g3
    go_wp2_with fail
    have mkS : ∀ X, Kept (V4.heap.size) V4 X → Kept (V4.heap.size) V4 X := fun X h => h
    go_region_held3 (fun X => Kept (V4.heap.size) V4 X)
      (((refine mkS _ ?_; (repeat' (first | exact Kept.refl _ _ | refine Kept.drew ?_ | refine Kept.alloc ?_ _ | refine Kept.set ?_ _ _ | refine Kept.below ?_ (by assumption))))))
      ((first
        | (go_at_call 12; have hprev := hbv4; clear hprev; (with_reducible refine (known4_any _).mono ?_); rintro e v5 ⟨rfl, hbv5⟩; have hsv5 := hbv5.size; (try simp at hsv5); skip)
        | (go_at_call 16; have hprev := hbv3; clear hprev; (with_reducible refine (count4_i (A4.later (show Below V4.heap.size V4 _ by (repeat' (first | exact Below.refl _ _ | refine Below.drew ?_ | refine Below.alloc ?_ (by (try simp) <;> omega) _ | refine below_set3 ?_ (by (try simp) <;> omega) _ _ _ | refine below_set2 ?_ (by (try simp) <;> omega) _ _ | refine Below.setCell ?_ (by (try simp) <;> omega) _ | refine Below.trans ?_ (Below.mono (by assumption) (by (try simp) <;> omega)))))) (by omega) HM0.out).mono ?_); rintro e v4 ⟨rfl, hbv4⟩; have hsv4 := hbv4.size; (try simp at hsv4); skip)
        | (go_at_call 16; have hprev := hbv2; clear hprev; (with_reducible refine (count4_i (B4.later (show Below V4.heap.size V4 _ by (repeat' (first | exact Below.refl _ _ | refine Below.drew ?_ | refine Below.alloc ?_ (by (try simp) <;> omega) _ | refine below_set3 ?_ (by (try simp) <;> omega) _ _ _ | refine below_set2 ?_ (by (try simp) <;> omega) _ _ | refine Below.setCell ?_ (by (try simp) <;> omega) _ | refine Below.trans ?_ (Below.mono (by assumption) (by (try simp) <;> omega)))))) (by omega) HM1.out).mono ?_); rintro e v3 ⟨rfl, hbv3⟩; have hsv3 := hbv3.size; (try simp at hsv3); skip)
        | (go_at_call 15; have hprev := hbv1; clear hprev; (with_reducible refine (nat4_any (A4.later (show Below V4.heap.size V4 _ by (repeat' (first | exact Below.refl _ _ | refine Below.drew ?_ | refine Below.alloc ?_ (by (try simp) <;> omega) _ | refine below_set3 ?_ (by (try simp) <;> omega) _ _ _ | refine below_set2 ?_ (by (try simp) <;> omega) _ _ | refine Below.setCell ?_ (by (try simp) <;> omega) _ | refine Below.trans ?_ (Below.mono (by assumption) (by (try simp) <;> omega)))))) (by omega)).mono ?_); rintro e v2 ⟨s2, rfl, hs2, hm2, hbv2⟩; have hm3 : ¬ (9223372036854775807 < s2.size + 1) := (by omega); have hsv2 := hbv2.size; (try simp at hsv2); have hq : (s1.toList == (s2 ++ ByteArray.mk [dig i1.toNat].toArray).toList) = true := (by rw [ByteArray.toList_eq, ByteArray.toList_eq, H1.out, bytes_app hs2 rfl, HD.out]; simp); clear hs2; skip)
        | (go_at_call 15; (with_reducible refine (nat4_any (B4.later (show Below V4.heap.size V4 _ by (repeat' (first | exact Below.refl _ _ | refine Below.drew ?_ | refine Below.alloc ?_ (by (try simp) <;> omega) _ | refine below_set3 ?_ (by (try simp) <;> omega) _ _ _ | refine below_set2 ?_ (by (try simp) <;> omega) _ _ | refine Below.setCell ?_ (by (try simp) <;> omega) _ | refine Below.trans ?_ (Below.mono (by assumption) (by (try simp) <;> omega)))))) (by omega)).mono ?_); rintro e v1 ⟨s1, rfl, hs1, hm1, hbv1⟩; have hsv1 := hbv1.size; (try simp at hsv1); have H1 := Lib.hid hs1; clear hs1; skip)))
    all_goals
      go_wp2_with fail
      go_ret
      exact ⟨rfl, hB4.trans ((show Below V4.heap.size V4 _ by (repeat' (first | exact Below.refl _ _ | refine Below.drew ?_ | refine Below.alloc ?_ (by (try simp) <;> omega) _ | refine below_set3 ?_ (by (try simp) <;> omega) _ _ _ | refine below_set2 ?_ (by (try simp) <;> omega) _ _ | refine Below.setCell ?_ (by (try simp) <;> omega) _ | refine Below.trans ?_ (Below.mono (by assumption) (by (try simp) <;> omega))))).mono (by omega))⟩

namespace digitsGrows
theorem contract (H : Type) (enc : TypeId × Value → H) (W : World) (base : Nat) (args : Array Value) (ds gs : List (DataW H)) (before : List MemPlace)
    (hval : ∀ (j : Nat) t v, Try.f9.params[j]? = some t → args[j]? = some v → Value.okWide Try.prog W .any base t v)
    (hW : DataW.Whole enc Try.prog Try.f9.params.toList Rows.digitsGrowsSpec.vars false W args.toList ds gs before) :
    Calls Try.prog 9 args W fun e W' => ∃ v, e = .returned v ∧ Rows.digitsGrowsSpec.post enc Try.prog Try.f9 false true false false W args v W' := by
  have hW' := hW
  have hlt := fun p hp => hW'.lt p hp
  obtain ⟨p, q, hA0, hV, rfl, hfz, hnd⟩ := hW
  have hA : DataW.TrodAll enc Try.prog W 0 (fun _ => true) true Try.f9.params.toList args.toList ds p := hA0
  rw [Try.params9] at hA hval
  obtain ⟨v0, vs0, d0, ds0, p0, q0, ha0, rfl, rfl, h0, r0⟩ := trodAll_cons hA
  obtain ⟨v1, vs1, d1, ds1, p1, q1, ha1, rfl, rfl, h1, r1⟩ := trodAll_cons r0
  obtain ⟨rfl, rfl, rfl⟩ := trodAll_nil r1
  subst ha1
  obtain rfl : args = #[v0, v1] := by cases args; simp_all
  obtain ⟨rfl, rfl⟩ := trodVars_none hV
  clear hA hA0 hV
  obtain ⟨i1, rfl, rfl, rfl, w1⟩ := open_int Try.underlying3 (hval 1 3 v1 rfl rfl) h1
  simp only [List.append_nil] at hW' hlt
  obtain ⟨a0, xs0, ca0, A0, n0⟩ := open_nat3 (okWide_slice Try.underlying23 (hval 0 23 v0 rfl rfl)) h0
  have e0 := A0.is
  subst e0
  refine (digitsGrows_walk xs0 a0 ca0 i1 W A0 (wf_i64 w1).1 (wf_i64 w1).2).mono fun e W' ⟨he, hb⟩ => ?_
  subst he
  have t0 := Below.trod laid (by kernel_rfl) (of_decide_eq_true (by kernel_rfl)) h0 hb (fun x hx => hlt x (by simp [hx]))
  exact ⟨_, rfl, [d0, .lit (.int .i64 i1)], [], p0, [], (p0 ++ ([] ++ [])), [], hW', trodAll_cons_mk (shut_bool Try.underlying4 _) trodAll_mk0,
    (trodAll_cons_mk t0 (trodAll_cons_mk (shut_int Try.underlying3 w1) trodAll_mk0)), rfl, hb.frame _, fun h => by cases h⟩

set_option maxRecDepth 100000 in
theorem lifted (os : Os) (started : os.Started) (H : Type) (enc : TypeId × Value → H) :
    ReturnsInHanded {} Try.checked os 9 .any (Rows.digitsGrowsSpec.pre6 enc Try.prog Try.f9 Rows.digitsGrowsRow.domain false) (Rows.digitsGrowsSpec.post enc Try.prog Try.f9 false true false false) := by
  refine returnsInHanded_of_change (C := Try.checked) own started (by kernel_rfl) Try.func9
    (ChangeSpec.witness6 (enc := enc) (C := Try.checked) false ⟨#[], #[.slice none 0 0, .int .i64 0], []⟩ 8 (by kernel_rfl) (by kernel_rfl) (by kernel_rfl) (by kernel_rfl)) ?_
  intro W base args ds gs before hval hW _ _
  exact contract H enc W base args ds gs before hval hW

theorem proved : Rows.DigitsGrowsSaid :=
  OpenClaim.holds_of_wide 9 Try.f9 rfl rfl rfl rfl rfl rfl rfl ⟨rfl, rfl, rfl, rfl, rfl⟩ rfl rfl rfl rfl rfl (by kernel_rfl) Try.func9 (by kernel_rfl)
    (of_decide_eq_true (by kernel_rfl)) (by unfold Func.isWrapper; first | (rw [if_pos (by decide +kernel)]; kernel_rfl) | (rw [if_neg (by decide +kernel)]; exact ⟨rfl, rfl⟩))
    (fun os started H enc _ => lifted os started H enc)
end digitsGrows
end Go.Proofs.Ytokinmmnoiacdaa
