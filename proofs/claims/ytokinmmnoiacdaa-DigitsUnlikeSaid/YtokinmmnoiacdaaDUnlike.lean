/-
  DigitsUnlike: the law answers true (two naturals, and two rationals, have the same text just if they are the same), and each argument reads behind the call as it read before, whatever the arguments are. No condition.
-/
import Derived.Test.YtokinmmnoiacdaaDLaw0
import Derived.Test.YtokinmmnoiacdaaDSame
namespace Go.Proofs.Ytokinmmnoiacdaa
open Go.RowKit Go.ChangeShapes Go.WideShapes Go.ChangeAt
set_option linter.unusedVariables false
set_option linter.unusedSimpArgs false
set_option maxRecDepth 100000

theorem sameR_c {n : Nat} {w : World} {neg0 neg1 : Bool} {xs0 ds0 xs1 ds1 : List Int} {a0 b0 a1 b1 : Option Addr} {ca0 cb0 ca1 cb1 : Nat} {X Y : Rat} {d : Bool} (hu : ArgQ w (.agg #[.bool neg0, .slice a0 xs0.length ca0, .slice b0 ds0.length cb0]) X n) (hv : ArgQ w (.agg #[.bool neg1, .slice a1 xs1.length ca1, .slice b1 ds1.length cb1]) Y n) (hn : n ≤ 1048576) (hd : decide (X = Y) = d) :
    Calls Try.prog 28 #[.agg #[.bool neg0, .slice a0 xs0.length ca0, .slice b0 ds0.length cb0], .agg #[.bool neg1, .slice a1 xs1.length ca1, .slice b1 ds1.length cb1]] w fun e w' => e = .returned (.bool d) ∧ Below w.heap.size w w' := by
  rw [← hd]
  exact sameR_any hu hv hn
theorem cmpD_c {u v : Value} {us vs : List Int} {a b : Option Addr} {capa capb : Nat} {w : World} {c : Int} (h1 : ArgD w u us a capa) (h2 : ArgD w v vs b capb) (hx : us.length ≤ 68719476736) (hy : vs.length ≤ 68719476736) (hc : sign (valD us) (valD vs) = c) :
    Calls Try.prog 29 #[u, v] w fun e w' => e = .returned (.int .i64 c) ∧ Below w.heap.size w w' := by
  rw [← hc]
  exact cmpD_any h1 h2 hx hy
set_option maxRecDepth 100000 in
set_option maxHeartbeats 8000000 in
theorem digitsUnlike_walk (neg0 : Bool) (xs0 ds0 : List Int) (a0 b0 : Option Addr) (ca0 cb0 : Nat) (neg1 : Bool) (xs1 ds1 : List Int) (a1 b1 : Option Addr) (ca1 cb1 : Nat) (w : World) (A0 : Arg w (.slice a0 xs0.length ca0) xs0 a0 ca0) (B0 : Arg w (.slice b0 ds0.length cb0) ds0 b0 cb0) (A1 : Arg w (.slice a1 xs1.length ca1) xs1 a1 ca1) (B1 : Arg w (.slice b1 ds1.length cb1) ds1 b1 cb1) :
    Calls Try.prog 8 #[.agg #[.bool neg0, .slice a0 xs0.length ca0, .slice b0 ds0.length cb0], .agg #[.bool neg1, .slice a1 xs1.length ca1, .slice b1 ds1.length cb1]] w fun e w' => e = .returned (.bool true) ∧ Below w.heap.size w w' := by
  obtain ⟨W, hW⟩ : ∃ W, ((w.alloc (.cells #[.bool neg0, .slice a0 xs0.length ca0, .slice b0 ds0.length cb0] 40)).alloc (.cells #[.bool neg1, .slice a1 xs1.length ca1, .slice b1 ds1.length cb1] 40)) = W := ⟨_, rfl⟩
  have R0 : Row W (w.heap.size) 40 #[.bool neg0, .slice a0 xs0.length ca0, .slice b0 ds0.length cb0] := by rw [← hW]; exact ((Row.new _ _ _).alloc _)
  have R1 : Row W (w.heap.size + 1) 40 #[.bool neg1, .slice a1 xs1.length ca1, .slice b1 ds1.length cb1] := by rw [← hW]; have h := (Row.new (w.alloc (.cells #[.bool neg0, .slice a0 xs0.length ca0, .slice b0 ds0.length cb0] 40)) 40 #[.bool neg1, .slice a1 xs1.length ca1, .slice b1 ds1.length cb1]); simp only [World.size_alloc] at h; exact h
  have hBW : Below w.heap.size w W := by rw [← hW]; exact (((Below.refl _ _).alloc (by (try simp) <;> omega) _).alloc (by (try simp) <;> omega) _)
  have hsW : w.heap.size + 1 + 1 ≤ W.heap.size := by rw [← hW]; simp
  obtain ⟨p0, p1, p2, _, _, _⟩ := R0.three
  obtain ⟨o0, o1, o2, _, _, _⟩ := R1.three
  by_cases g0 : xs0.length ≤ 8
  case neg =>
    have d0 : decide ((8 : Int) < (xs0.length : Int)) = true := decide_eq_true (by omega)
    go_enter Try.func8, Try.ntmps8
    go_wp2_with fail
    refine (known4_any _).mono ?_
    rintro e VK ⟨rfl, hbk⟩
    go_wp2_with fail
    go_ret
    exact ⟨rfl, hBW.trans (hbk.mono (by omega))⟩
  by_cases g1 : ds0.length ≤ 8
  case neg =>
    have d0 : decide ((8 : Int) < (xs0.length : Int)) = false := decide_eq_false (by omega)
    have d1 : decide ((8 : Int) < (ds0.length : Int)) = true := decide_eq_true (by omega)
    go_enter Try.func8, Try.ntmps8
    go_wp2_with fail
    refine (known4_any _).mono ?_
    rintro e VK ⟨rfl, hbk⟩
    go_wp2_with fail
    go_ret
    exact ⟨rfl, hBW.trans (hbk.mono (by omega))⟩
  by_cases g2 : xs1.length ≤ 8
  case neg =>
    have d0 : decide ((8 : Int) < (xs0.length : Int)) = false := decide_eq_false (by omega)
    have d1 : decide ((8 : Int) < (ds0.length : Int)) = false := decide_eq_false (by omega)
    have d2 : decide ((8 : Int) < (xs1.length : Int)) = true := decide_eq_true (by omega)
    go_enter Try.func8, Try.ntmps8
    go_wp2_with fail
    refine (known4_any _).mono ?_
    rintro e VK ⟨rfl, hbk⟩
    go_wp2_with fail
    go_ret
    exact ⟨rfl, hBW.trans (hbk.mono (by omega))⟩
  by_cases g3 : ds1.length ≤ 8
  case neg =>
    have d0 : decide ((8 : Int) < (xs0.length : Int)) = false := decide_eq_false (by omega)
    have d1 : decide ((8 : Int) < (ds0.length : Int)) = false := decide_eq_false (by omega)
    have d2 : decide ((8 : Int) < (xs1.length : Int)) = false := decide_eq_false (by omega)
    have d3 : decide ((8 : Int) < (ds1.length : Int)) = true := decide_eq_true (by omega)
    go_enter Try.func8, Try.ntmps8
    go_wp2_with fail
    refine (known4_any _).mono ?_
    rintro e VK ⟨rfl, hbk⟩
    go_wp2_with fail
    go_ret
    exact ⟨rfl, hBW.trans (hbk.mono (by omega))⟩
  have d0 : decide ((8 : Int) < (xs0.length : Int)) = false := decide_eq_false (by omega)
  have d1 : decide ((8 : Int) < (ds0.length : Int)) = false := decide_eq_false (by omega)
  have d2 : decide ((8 : Int) < (xs1.length : Int)) = false := decide_eq_false (by omega)
  have d3 : decide ((8 : Int) < (ds1.length : Int)) = false := decide_eq_false (by omega)
  obtain ⟨X0, hX0⟩ : ∃ X, ratOf neg0 (val xs0) (val ds0) = X := ⟨_, rfl⟩
  have Q0 : ArgQ w (.agg #[.bool neg0, .slice a0 xs0.length ca0, .slice b0 ds0.length cb0]) X0 8 := ⟨neg0, xs0, ds0, a0, b0, ca0, cb0, rfl, A0, B0, hX0, by omega, by omega⟩
  obtain ⟨X1, hX1⟩ : ∃ X, ratOf neg1 (val xs1) (val ds1) = X := ⟨_, rfl⟩
  have Q1 : ArgQ w (.agg #[.bool neg1, .slice a1 xs1.length ca1, .slice b1 ds1.length cb1]) X1 8 := ⟨neg1, xs1, ds1, a1, b1, ca1, cb1, rfl, A1, B1, hX1, by omega, by omega⟩
  have Q0W := Q0.later hBW
  have Q1W := Q1.later hBW
  have A0W := A0.later hBW
  have A1W := A1.later hBW
  obtain ⟨d, hd⟩ : ∃ d, decide (X0 = X1) = d := ⟨_, rfl⟩
  obtain ⟨f, hf⟩ : ∃ f, decide (val xs0 = val xs1) = f := ⟨_, rfl⟩
  obtain ⟨sg, hsg⟩ : ∃ s, sign (val xs0) (val xs1) = s := ⟨_, rfl⟩
  have hsf : (sg == 0) = f := by rw [← hsg, ← hf]; exact sign_zeroB _ _
  have HD := Lib.hid hd
  have HF := Lib.hid hf
  have HSG := Lib.hid hsg
  have hn0 := val_nonneg A0.wf
  have hn1 := val_nonneg A1.wf
  have hdd : (d == d) = true := by simp
  have hff : (f == f) = true := by simp
  clear Q0 Q1 hX0 hX1 hd hf hsg A0 A1 B0 B1
  go_enter Try.func8, Try.ntmps8
  go_wp2_with fail
  clear hW p0 p1 p2 o0 o1 o2
  have lt_R0 := R0.lt
  have lt_R1 := R1.lt
  have mkS : ∀ X, Kept (W.heap.size) W X → X.cell? ⟨w.heap.size, 0, none⟩ = some (.bool neg0) ∧ X.cell? ⟨w.heap.size, 1, none⟩ = some (.slice a0 xs0.length ca0) ∧ X.cell? ⟨w.heap.size, 2, none⟩ = some (.slice b0 ds0.length cb0) ∧ X.cell? ⟨w.heap.size + 1, 0, none⟩ = some (.bool neg1) ∧ X.cell? ⟨w.heap.size + 1, 1, none⟩ = some (.slice a1 xs1.length ca1) ∧ X.cell? ⟨w.heap.size + 1, 2, none⟩ = some (.slice b1 ds1.length cb1) ∧ Kept (W.heap.size) W X := fun X h => ⟨(R0.kept h (by omega)).cell 0, (R0.kept h (by omega)).cell 1, (R0.kept h (by omega)).cell 2, (R1.kept h (by omega)).cell 0, (R1.kept h (by omega)).cell 1, (R1.kept h (by omega)).cell 2, h⟩
  go_region_held3 (fun X => X.cell? ⟨w.heap.size, 0, none⟩ = some (.bool neg0) ∧ X.cell? ⟨w.heap.size, 1, none⟩ = some (.slice a0 xs0.length ca0) ∧ X.cell? ⟨w.heap.size, 2, none⟩ = some (.slice b0 ds0.length cb0) ∧ X.cell? ⟨w.heap.size + 1, 0, none⟩ = some (.bool neg1) ∧ X.cell? ⟨w.heap.size + 1, 1, none⟩ = some (.slice a1 xs1.length ca1) ∧ X.cell? ⟨w.heap.size + 1, 2, none⟩ = some (.slice b1 ds1.length cb1) ∧ Kept (W.heap.size) W X)
    (((refine mkS _ ?_; (repeat' (first | exact Kept.refl _ _ | refine Kept.drew ?_ | refine Kept.alloc ?_ _ | refine Kept.set ?_ _ _ | refine Kept.below ?_ (by assumption))))))
    ((first
      | (go_at_call 12; have hprev := hbv8; clear hprev; (with_reducible refine (known4_any _).mono ?_); rintro e v9 ⟨rfl, hbv9⟩; have hsv9 := hbv9.size; (try simp at hsv9); skip)
      | (go_at_call 29; have hprev := hbv7; clear hprev; (with_reducible refine (cmpD_c (D6.later (show Below v6.heap.size v6 _ by (repeat' (first | exact Below.refl _ _ | refine Below.drew ?_ | refine Below.alloc ?_ (by (try simp) <;> omega) _ | refine below_set3 ?_ (by (try simp) <;> omega) _ _ _ | refine below_set2 ?_ (by (try simp) <;> omega) _ _ | refine Below.setCell ?_ (by (try simp) <;> omega) _ | refine Below.trans ?_ (Below.mono (by assumption) (by (try simp) <;> omega)))))) D7 (by omega) (by omega) (show sign (valD zs6) (valD zs7) = sg by rw [e6.out, e7.out]; exact HSG.out)).mono ?_); rintro e v8 ⟨rfl, hbv8⟩; have hsv8 := hbv8.size; (try simp at hsv8); skip)
      | (go_at_call 14; have hprev := hbv6; clear hprev; (with_reducible refine (of_any (A1W.later (show Below W.heap.size W _ by (repeat' (first | exact Below.refl _ _ | refine Below.drew ?_ | refine Below.alloc ?_ (by (try simp) <;> omega) _ | refine below_set3 ?_ (by (try simp) <;> omega) _ _ _ | refine below_set2 ?_ (by (try simp) <;> omega) _ _ | refine Below.setCell ?_ (by (try simp) <;> omega) _ | refine Below.trans ?_ (Below.mono (by assumption) (by (try simp) <;> omega)))))) (by omega)).mono ?_); rintro e v7 ⟨r7, rfl, zs7, q7, l7, hbv7⟩; have hsv7 := hbv7.size; (try simp at hsv7); obtain ⟨ad7, cp7, D7⟩ := q7.arg; have e7 := Lib.hid q7.eq; clear q7; skip)
      | (go_at_call 14; have hprev := hbv5; clear hprev; (with_reducible refine (of_any (A0W.later (show Below W.heap.size W _ by (repeat' (first | exact Below.refl _ _ | refine Below.drew ?_ | refine Below.alloc ?_ (by (try simp) <;> omega) _ | refine below_set3 ?_ (by (try simp) <;> omega) _ _ _ | refine below_set2 ?_ (by (try simp) <;> omega) _ _ | refine Below.setCell ?_ (by (try simp) <;> omega) _ | refine Below.trans ?_ (Below.mono (by assumption) (by (try simp) <;> omega)))))) (by omega)).mono ?_); rintro e v6 ⟨r6, rfl, zs6, q6, l6, hbv6⟩; have hsv6 := hbv6.size; (try simp at hsv6); obtain ⟨ad6, cp6, D6⟩ := q6.arg; have e6 := Lib.hid q6.eq; clear q6; skip)
      | (go_at_call 15; have hprev := hbv4; clear hprev; (with_reducible refine (nat4_any (A1W.later (show Below W.heap.size W _ by (repeat' (first | exact Below.refl _ _ | refine Below.drew ?_ | refine Below.alloc ?_ (by (try simp) <;> omega) _ | refine below_set3 ?_ (by (try simp) <;> omega) _ _ _ | refine below_set2 ?_ (by (try simp) <;> omega) _ _ | refine Below.setCell ?_ (by (try simp) <;> omega) _ | refine Below.trans ?_ (Below.mono (by assumption) (by (try simp) <;> omega)))))) (by omega)).mono ?_); rintro e v5 ⟨s5, rfl, hs5, hm5, hbv5⟩; have hsv5 := hbv5.size; (try simp at hsv5); have hq2 : (s4.toList == s5.toList) = f := (by rw [ByteArray.toList_eq, ByteArray.toList_eq, H4.out, hs5, ← HF.out, Bool.eq_iff_iff, beq_iff_eq, decide_eq_true_iff]; exact ⟨fun e => by have := dec_inj e; omega, fun e => by rw [e]⟩); clear hs5; skip)
      | (go_at_call 15; have hprev := hbv3; clear hprev; (with_reducible refine (nat4_any (A0W.later (show Below W.heap.size W _ by (repeat' (first | exact Below.refl _ _ | refine Below.drew ?_ | refine Below.alloc ?_ (by (try simp) <;> omega) _ | refine below_set3 ?_ (by (try simp) <;> omega) _ _ _ | refine below_set2 ?_ (by (try simp) <;> omega) _ _ | refine Below.setCell ?_ (by (try simp) <;> omega) _ | refine Below.trans ?_ (Below.mono (by assumption) (by (try simp) <;> omega)))))) (by omega)).mono ?_); rintro e v4 ⟨s4, rfl, hs4, hm4, hbv4⟩; have hsv4 := hbv4.size; (try simp at hsv4); have H4 := Lib.hid hs4; clear hs4; skip)
      | (go_at_call 28; have hprev := hbv2; clear hprev; (with_reducible refine (sameR_c (Q0W.later (show Below W.heap.size W _ by (repeat' (first | exact Below.refl _ _ | refine Below.drew ?_ | refine Below.alloc ?_ (by (try simp) <;> omega) _ | refine below_set3 ?_ (by (try simp) <;> omega) _ _ _ | refine below_set2 ?_ (by (try simp) <;> omega) _ _ | refine Below.setCell ?_ (by (try simp) <;> omega) _ | refine Below.trans ?_ (Below.mono (by assumption) (by (try simp) <;> omega)))))) (Q1W.later (show Below W.heap.size W _ by (repeat' (first | exact Below.refl _ _ | refine Below.drew ?_ | refine Below.alloc ?_ (by (try simp) <;> omega) _ | refine below_set3 ?_ (by (try simp) <;> omega) _ _ _ | refine below_set2 ?_ (by (try simp) <;> omega) _ _ | refine Below.setCell ?_ (by (try simp) <;> omega) _ | refine Below.trans ?_ (Below.mono (by assumption) (by (try simp) <;> omega)))))) (by omega) HD.out).mono ?_); rintro e v3 ⟨rfl, hbv3⟩; have hsv3 := hbv3.size; (try simp at hsv3); skip)
      | (go_at_call 20; have hprev := hbv1; clear hprev; (with_reducible refine (rat4_any (n := 8) (Q1W.later (show Below W.heap.size W _ by (repeat' (first | exact Below.refl _ _ | refine Below.drew ?_ | refine Below.alloc ?_ (by (try simp) <;> omega) _ | refine below_set3 ?_ (by (try simp) <;> omega) _ _ _ | refine below_set2 ?_ (by (try simp) <;> omega) _ _ | refine Below.setCell ?_ (by (try simp) <;> omega) _ | refine Below.trans ?_ (Below.mono (by assumption) (by (try simp) <;> omega)))))) (by omega)).mono ?_); rintro e v2 ⟨s2, rfl, hs2, hm2, hbv2⟩; have hsv2 := hbv2.size; (try simp at hsv2); have hq : (s1.toList == s2.toList) = d := (by rw [ByteArray.toList_eq, ByteArray.toList_eq, H1.out, hs2, ← HD.out, Bool.eq_iff_iff, beq_iff_eq, decide_eq_true_iff]; exact ⟨ratS_inj, fun e => by rw [e]⟩); clear hs2; skip)
      | (go_at_call 20; (with_reducible refine (rat4_any (n := 8) (Q0W.later (show Below W.heap.size W _ by (repeat' (first | exact Below.refl _ _ | refine Below.drew ?_ | refine Below.alloc ?_ (by (try simp) <;> omega) _ | refine below_set3 ?_ (by (try simp) <;> omega) _ _ _ | refine below_set2 ?_ (by (try simp) <;> omega) _ _ | refine Below.setCell ?_ (by (try simp) <;> omega) _ | refine Below.trans ?_ (Below.mono (by assumption) (by (try simp) <;> omega)))))) (by omega)).mono ?_); rintro e v1 ⟨s1, rfl, hs1, hm1, hbv1⟩; have hsv1 := hbv1.size; (try simp at hsv1); have H1 := Lib.hid hs1; clear hs1; skip)))
  go_wp2_with fail
  go_ret
  exact ⟨rfl, hBW.trans ((show Below W.heap.size W _ by (repeat' (first | exact Below.refl _ _ | refine Below.drew ?_ | refine Below.alloc ?_ (by (try simp) <;> omega) _ | refine below_set3 ?_ (by (try simp) <;> omega) _ _ _ | refine below_set2 ?_ (by (try simp) <;> omega) _ _ | refine Below.setCell ?_ (by (try simp) <;> omega) _ | refine Below.trans ?_ (Below.mono (by assumption) (by (try simp) <;> omega))))).mono (by omega))⟩

namespace digitsUnlike
theorem contract (H : Type) (enc : TypeId × Value → H) (W : World) (base : Nat) (args : Array Value) (ds gs : List (DataW H)) (before : List MemPlace)
    (hval : ∀ (j : Nat) t v, Try.f8.params[j]? = some t → args[j]? = some v → Value.okWide Try.prog W .any base t v)
    (hW : DataW.Whole enc Try.prog Try.f8.params.toList Rows.digitsUnlikeSpec.vars false W args.toList ds gs before) :
    Calls Try.prog 8 args W fun e W' => ∃ v, e = .returned v ∧ Rows.digitsUnlikeSpec.post enc Try.prog Try.f8 false true false false W args v W' := by
  have hW' := hW
  have hlt := fun p hp => hW'.lt p hp
  obtain ⟨p, q, hA0, hV, rfl, hfz, hnd⟩ := hW
  have hA : DataW.TrodAll enc Try.prog W 0 (fun _ => true) true Try.f8.params.toList args.toList ds p := hA0
  rw [Try.params8] at hA hval
  obtain ⟨v0, vs0, d0, ds0, p0, q0, ha0, rfl, rfl, h0, r0⟩ := trodAll_cons hA
  obtain ⟨v1, vs1, d1, ds1, p1, q1, ha1, rfl, rfl, h1, r1⟩ := trodAll_cons r0
  obtain ⟨rfl, rfl, rfl⟩ := trodAll_nil r1
  subst ha1
  obtain rfl : args = #[v0, v1] := by cases args; simp_all
  obtain ⟨rfl, rfl⟩ := trodVars_none hV
  clear hA hA0 hV
  simp only [List.append_nil] at hW' hlt
  obtain ⟨neg0, xs0, ys0, a0, b0, ca0, cb0, rfl, A0, B0⟩ := open_rat3 (hval 0 40 v0 rfl rfl) h0
  obtain ⟨neg1, xs1, ys1, a1, b1, ca1, cb1, rfl, A1, B1⟩ := open_rat3 (hval 1 40 v1 rfl rfl) h1
  refine (digitsUnlike_walk neg0 xs0 ys0 a0 b0 ca0 cb0 neg1 xs1 ys1 a1 b1 ca1 cb1 W A0 B0 A1 B1).mono fun e W' ⟨he, hb⟩ => ?_
  subst he
  have t0 := Below.trod laid (by kernel_rfl) (of_decide_eq_true (by kernel_rfl)) h0 hb (fun x hx => hlt x (by simp [hx]))
  have t1 := Below.trod laid (by kernel_rfl) (of_decide_eq_true (by kernel_rfl)) h1 hb (fun x hx => hlt x (by simp [hx]))
  exact ⟨_, rfl, [d0, d1], [], (p0 ++ p1), [], (p0 ++ (p1 ++ [])), [], hW', trodAll_cons_mk (shut_bool Try.underlying4 _) trodAll_mk0,
    (trodAll_cons_mk t0 (trodAll_cons_mk t1 trodAll_mk0)), rfl, hb.frame _, fun h => by cases h⟩

set_option maxRecDepth 100000 in
theorem lifted (os : Os) (started : os.Started) (H : Type) (enc : TypeId × Value → H) :
    ReturnsInHanded {} Try.checked os 8 .any (Rows.digitsUnlikeSpec.pre6 enc Try.prog Try.f8 Rows.digitsUnlikeRow.domain false) (Rows.digitsUnlikeSpec.post enc Try.prog Try.f8 false true false false) := by
  refine returnsInHanded_of_change (C := Try.checked) own started (by kernel_rfl) Try.func8
    (ChangeSpec.witness6 (enc := enc) (C := Try.checked) false ⟨#[], #[.agg #[.bool false, .slice none 0 0, .slice none 0 0], .agg #[.bool false, .slice none 0 0, .slice none 0 0]], []⟩ 8 (by kernel_rfl) (by kernel_rfl) (by kernel_rfl) (by kernel_rfl)) ?_
  intro W base args ds gs before hval hW _ _
  exact contract H enc W base args ds gs before hval hW

theorem proved : Rows.DigitsUnlikeSaid :=
  OpenClaim.holds_of_wide 8 Try.f8 rfl rfl rfl rfl rfl rfl rfl ⟨rfl, rfl, rfl, rfl, rfl⟩ rfl rfl rfl rfl rfl (by kernel_rfl) Try.func8 (by kernel_rfl)
    (of_decide_eq_true (by kernel_rfl)) (by unfold Func.isWrapper; first | (rw [if_pos (by decide +kernel)]; kernel_rfl) | (rw [if_neg (by decide +kernel)]; exact ⟨rfl, rfl⟩))
    (fun os started H enc _ => lifted os started H enc)
end digitsUnlike
end Go.Proofs.Ytokinmmnoiacdaa
