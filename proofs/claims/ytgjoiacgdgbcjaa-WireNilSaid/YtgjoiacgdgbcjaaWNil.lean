/-
  WireNil: a nil cursor, a zero one.
-/
import Derived.Test.YtgjoiacgdgbcjaaWOpen
namespace Go.Proofs.Ytgjoiacgdgbcjaa
open Go.RowKit
set_option linter.unusedVariables false
set_option linter.unusedSimpArgs false

set_option maxRecDepth 100000 in
set_option maxHeartbeats 1000000 in
theorem guardB_nil (fn : Fn) (x y : Array Value) (w : World) :
    Calls Try.prog 45 #[.pointer none, .func fn x y] w fun e w' => e = .returned (.tuple #[.int .u8 0, .int .i64 1]) ∧ Below w.heap.size w w' := by
  have hmf := hmfW
  have hb : Below w.heap.size w ((w.alloc (.cells #[.pointer none] 33)).alloc (.cells #[.int .i64 1] 35)) := ((Below.refl _ w).alloc (Nat.le_refl _) _).alloc (by simp) _
  have HB := Lib.hid hb
  clear hb
  go_enter_defers Try.func45, Try.ntmps45
  go_wp2
  refine ⟨_, ?_, rfl, HB.out⟩
  simp [results, Try.results45, go_sem]
set_option maxRecDepth 100000 in
set_option maxHeartbeats 1000000 in
theorem guardU_nil (fn : Fn) (x y : Array Value) (w : World) :
    Calls Try.prog 35 #[.pointer none, .func fn x y] w fun e w' => e = .returned (.tuple #[.int .u64 0, .int .i64 1]) ∧ Below w.heap.size w w' := by
  have hmf := hmfW
  have hb : Below w.heap.size w ((w.alloc (.cells #[.pointer none] 33)).alloc (.cells #[.int .i64 1] 35)) := ((Below.refl _ w).alloc (Nat.le_refl _) _).alloc (by simp) _
  have HB := Lib.hid hb
  clear hb
  go_enter_defers Try.func35, Try.ntmps35
  go_wp2
  refine ⟨_, ?_, rfl, HB.out⟩
  simp [results, Try.results35, go_sem]
set_option maxRecDepth 100000 in
set_option maxHeartbeats 1000000 in
theorem guardI_nil (fn : Fn) (x y : Array Value) (w : World) :
    Calls Try.prog 37 #[.pointer none, .func fn x y] w fun e w' => e = .returned (.tuple #[.int .i64 0, .int .i64 1]) ∧ Below w.heap.size w w' := by
  have hmf := hmfW
  have hb : Below w.heap.size w ((w.alloc (.cells #[.pointer none] 33)).alloc (.cells #[.int .i64 1] 35)) := ((Below.refl _ w).alloc (Nat.le_refl _) _).alloc (by simp) _
  have HB := Lib.hid hb
  clear hb
  go_enter_defers Try.func37, Try.ntmps37
  go_wp2
  refine ⟨_, ?_, rfl, HB.out⟩
  simp [results, Try.results37, go_sem]
set_option maxRecDepth 100000 in
set_option maxHeartbeats 1000000 in
theorem guardS_nil (fn : Fn) (x y : Array Value) (w : World) :
    Calls Try.prog 40 #[.pointer none, .func fn x y] w fun e w' => e = .returned (.tuple #[.slice none 0 0, .int .i64 1]) ∧ Below w.heap.size w w' := by
  have hmf := hmfW
  have hb : Below w.heap.size w ((w.alloc (.cells #[.pointer none] 33)).alloc (.cells #[.int .i64 1] 35)) := ((Below.refl _ w).alloc (Nat.le_refl _) _).alloc (by simp) _
  have HB := Lib.hid hb
  clear hb
  go_enter_defers Try.func40, Try.ntmps40
  go_wp2
  refine ⟨_, ?_, rfl, HB.out⟩
  simp [results, Try.results40, go_sem]
set_option maxRecDepth 100000 in
theorem byteN_any (w : World) :
    Calls Try.prog 26 #[.pointer none] w fun e w' => e = .returned (.tuple #[.int .u8 0, .int .i64 1]) ∧ Below w.heap.size w w' := by
  have hmf := hmfW
  go_enter Try.func26, Try.ntmps26
  go_wp2_with (go_at_call 45; refine (guardB_nil _ _ _ _).mono ?_; rintro e w1 ⟨rfl, hb⟩)
  go_ret2
  exact ⟨rfl, hb⟩
set_option maxRecDepth 100000 in
theorem uvarN_any (w : World) :
    Calls Try.prog 19 #[.pointer none] w fun e w' => e = .returned (.tuple #[.int .u64 0, .int .i64 1]) ∧ Below w.heap.size w w' := by
  have hmf := hmfW
  go_enter Try.func19, Try.ntmps19
  go_wp2_with (go_at_call 35; refine (guardU_nil _ _ _ _).mono ?_; rintro e w1 ⟨rfl, hb⟩)
  go_ret2
  exact ⟨rfl, hb⟩
set_option maxRecDepth 100000 in
theorem zigN_any (w : World) :
    Calls Try.prog 20 #[.pointer none] w fun e w' => e = .returned (.tuple #[.int .i64 0, .int .i64 1]) ∧ Below w.heap.size w w' := by
  have hmf := hmfW
  have hm := makeI_any (.func 36) (.func 39) #[.pointer none] #[] #[] #[] w
  go_enter Try.func20, Try.ntmps20
  go_wp2_with fail
  refine hm.mono ?_
  rintro e w1 ⟨rfl, hw1⟩
  have hb1 : Below w.heap.size w w1 := by rw [hw1]; exact ((Below.refl _ w).alloc (Nat.le_refl _) _).alloc (by simp) _
  have hs := hb1.size
  clear hm hw1
  go_wp2_with (go_at_call 37; refine (guardI_nil _ _ _ _).mono ?_; rintro e w2 ⟨rfl, hb⟩)
  go_ret2
  exact ⟨rfl, hb1.trans (hb.mono hs)⟩
set_option maxRecDepth 100000 in
theorem takeN_any (n : Int) (w : World) :
    Calls Try.prog 24 #[.pointer none, .int .i64 n] w fun e w' => e = .returned (.tuple #[.slice none 0 0, .int .i64 1]) ∧ Below w.heap.size w w' := by
  have hmf := hmfW
  have hb1 : Below w.heap.size w ((w.alloc (.cells #[.pointer none] 33)).alloc (.cells #[.int .i64 n] 3)) := ((Below.refl _ w).alloc (Nat.le_refl _) _).alloc (by simp) _
  have HB := Lib.hid hb1
  clear hb1
  go_enter Try.func24, Try.ntmps24
  go_wp2_with (go_at_call 40; refine (guardS_nil _ _ _ _).mono ?_; rintro e w2 ⟨rfl, hb⟩)
  go_ret2
  exact ⟨rfl, HB.out.trans (hb.mono HB.out.size)⟩
set_option maxRecDepth 100000 in
theorem blockN_any (n : Int) (w : World) :
    Calls Try.prog 21 #[.pointer none, .int .i64 n] w fun e w' => e = .returned (.tuple #[.slice none 0 0, .int .i64 1]) ∧ Below w.heap.size w w' := by
  have hmf := hmfW
  have hb1 : Below w.heap.size w ((w.alloc (.cells #[.pointer none] 33)).alloc (.cells #[.int .i64 n] 3)) := ((Below.refl _ w).alloc (Nat.le_refl _) _).alloc (by simp) _
  have HB := Lib.hid hb1
  clear hb1
  go_enter Try.func21, Try.ntmps21
  go_wp2_with (go_at_call 40; refine (guardS_nil _ _ _ _).mono ?_; rintro e w2 ⟨rfl, hb⟩)
  go_ret2
  exact ⟨rfl, HB.out.trans (hb.mono HB.out.size)⟩
theorem atN_any (w : World) :
    Calls Try.prog 25 #[.pointer none] w fun e w' => e = .returned (.int .i64 0) ∧ w = w' := by
  go_enter Try.func25, Try.ntmps25
  go_wp2
  go_ret
  exact ⟨rfl, rfl⟩
theorem leftN_any (w : World) :
    Calls Try.prog 22 #[.pointer none] w fun e w' => e = .returned (.int .i64 0) ∧ w = w' := by
  go_enter Try.func22, Try.ntmps22
  go_wp2
  go_ret
  exact ⟨rfl, rfl⟩
theorem endN_any (w : World) :
    Calls Try.prog 23 #[.pointer none] w fun e w' => e = .returned (.int .i64 1) ∧ w = w' := by
  go_enter Try.func23, Try.ntmps23
  go_wp2
  go_ret
  exact ⟨rfl, rfl⟩

theorem zeroCur (w : World) : Cur w.heap.size (w.alloc (.cells #[.slice none 0 0, .int .i64 0] 58)) w.heap.size [] 0 :=
  ⟨Nat.le_refl _, ⟨none, 0, RowB.new _ _ _, ResB.nil _ _, (fun a h => by cases h), fun _ => rfl⟩, Nat.le_refl _, by simp⟩
set_option maxRecDepth 100000 in
set_option maxHeartbeats 8000000 in
theorem wireNil_walk (n : Int) (w : World) (h0 : -9223372036854775808 ≤ n) (h1 : n ≤ 9223372036854775807) :
    Calls Try.prog 9 #[.int .i64 n] w fun e w' => e = .returned (.bool true) ∧ Below w.heap.size w w' := by
  have hC0 := zeroCur w
  have HC0 := Lib.hid hC0
  have hbz : Below w.heap.size w (w.alloc (.cells #[.slice none 0 0, .int .i64 0] 58)) := (Below.refl _ w).alloc (Nat.le_refl _) _
  have hsz : w.heap.size < (w.alloc (.cells #[.slice none 0 0, .int .i64 0] 58)).heap.size := by simp
  have HBZ := Lib.hid hbz
  have HSZ := Lib.hid hsz
  clear hC0 hbz hsz
  go_enter Try.func9, Try.ntmps9
  go_wp2_with fail
  generalize w.alloc (.cells #[.slice none 0 0, .int .i64 0] 58) = w0 at *
  have C0 := HC0.out
  have B0 := HBZ.out
  have S0 := B0.size
  refine (byteN_any _).mono ?_
  rintro e w1 ⟨rfl, hb1⟩
  have C1 := C0.later hb1
  have B1 := B0.trans (hb1.mono S0)
  have S1 := B1.size
  clear C0 B0 hb1 S0
  go_wp2_with fail
  refine (uvarN_any _).mono ?_
  rintro e w2 ⟨rfl, hb2⟩
  have C2 := C1.later hb2
  have B2 := B1.trans (hb2.mono S1)
  have S2 := B2.size
  clear C1 B1 hb2 S1
  go_wp2_with fail
  refine (zigN_any _).mono ?_
  rintro e w3 ⟨rfl, hb3⟩
  have C3 := C2.later hb3
  have B3 := B2.trans (hb3.mono S2)
  have S3 := B3.size
  clear C2 B2 hb3 S2
  go_wp2_with fail
  refine (takeN_any n _).mono ?_
  rintro e w4 ⟨rfl, hb4⟩
  have C4 := C3.later hb4
  have B4 := B3.trans (hb4.mono S3)
  have S4 := B4.size
  clear C3 B3 hb4 S3
  go_wp2_with fail
  refine (blockN_any n _).mono ?_
  rintro e w5 ⟨rfl, hb5⟩
  have C5 := C4.later hb5
  have B5 := B4.trans (hb5.mono S4)
  have S5 := B5.size
  clear C4 B4 hb5 S4
  have x1 := byteC_any C5
  simp at x1
  go_wp2_with fail
  refine (x1).mono ?_
  rintro e w6 ⟨rfl, C6, k6⟩
  have B6 := B5.trans (k6.below S5 (Nat.le_refl _))
  have S6 := B6.size
  clear C5 B5 k6 S5
  clear x1
  have x2 := uvarC_any C6
  rw [show numV (([] : List Int).drop 0) = 0 by decide, show getC (([] : List Int).drop 0) = 3 by decide, show numP (([] : List Int).drop 0) 0 = 0 by decide] at x2
  go_wp2_with fail
  refine (x2).mono ?_
  rintro e w7 ⟨rfl, C7, k7⟩
  have B7 := B6.trans (k7.below S6 (Nat.le_refl _))
  have S7 := B7.size
  clear C6 B6 k7 S6
  clear x2
  go_wp2_with fail
  refine (atN_any _).mono ?_
  rintro e w8 ⟨rfl, rfl⟩
  go_wp2_with fail
  refine (leftN_any _).mono ?_
  rintro e w8 ⟨rfl, rfl⟩
  go_wp2_with fail
  refine (endN_any _).mono ?_
  rintro e w8 ⟨rfl, rfl⟩
  have x3 := endC_any C7
  simp at x3
  go_wp2_with fail
  refine (x3).mono ?_
  rintro e w8 ⟨rfl, hb8⟩
  have C8 := C7.later hb8
  have B8 := B7.trans (hb8.mono S7)
  have S8 := B8.size
  clear C7 B7 hb8 S7
  clear x3
  go_wp2_with fail
  refine (known5_any _).mono ?_
  rintro e w9 ⟨rfl, hb9⟩
  have C9 := C8.later hb9
  have B9 := B8.trans (hb9.mono S8)
  have S9 := B9.size
  clear C8 B8 hb9 S8
  go_wp2_with fail
  go_ret
  exact ⟨rfl, B9⟩

namespace wireNil
open Go.ChangeShapes Go.WideShapes Go.ChangeAt
theorem contract (H : Type) (enc : TypeId × Value → H) (W : World) (base : Nat) (args : Array Value) (ds gs : List (DataW H)) (before : List MemPlace)
    (hval : ∀ (j : Nat) t v, Try.f9.params[j]? = some t → args[j]? = some v → Value.okWide Try.prog W .any base t v)
    (hW : DataW.Whole enc Try.prog Try.f9.params.toList Rows.wireNilSpec.vars false W args.toList ds gs before) :
    Calls Try.prog 9 args W fun e W' => ∃ v, e = .returned v ∧ Rows.wireNilSpec.post enc Try.prog Try.f9 false true false false W args v W' := by
  have hW' := hW
  have hlt := fun p hp => hW'.lt p hp
  obtain ⟨p, q, hA0, hV, rfl, hfz, hnd⟩ := hW
  have hA : DataW.TrodAll enc Try.prog W 0 (fun _ => true) true Try.f9.params.toList args.toList ds p := hA0
  rw [Try.params9] at hA hval
  obtain ⟨v0, vs0, d0, ds0, p0, q0, ha0, rfl, rfl, h0, r0⟩ := trodAll_cons hA
  obtain ⟨rfl, rfl, rfl⟩ := trodAll_nil r0
  obtain rfl : args = #[v0] := by cases args; simp_all
  obtain ⟨rfl, rfl⟩ := trodVars_none hV
  clear hA hA0 hV
  obtain ⟨i0, rfl, rfl, rfl, w0⟩ := open_int Try.underlying3 (hval 0 3 v0 rfl rfl) h0
  simp only [List.append_nil] at hW' hlt
  (try simp only [List.nil_append] at hW' hlt)
  refine (wireNil_walk i0 W (wf_w64 w0).1 (wf_w64 w0).2).mono fun e W' ⟨he, hb⟩ => ?_
  subst he
  exact ⟨_, rfl, [.lit (.int .i64 i0)], [], [], [], ([] ++ []), [], hW', trodAll_cons_mk (shut_bool Try.underlying4 _) trodAll_mk0,
    (trodAll_cons_mk (shut_int Try.underlying3 w0) trodAll_mk0), rfl, hb.frame _, fun h => by cases h⟩

set_option maxRecDepth 100000 in
theorem lifted (os : Os) (started : os.Started) (H : Type) (enc : TypeId × Value → H) :
    ReturnsInHanded {} Try.checked os 9 .any (Rows.wireNilSpec.pre6 enc Try.prog Try.f9 Rows.wireNilRow.domain false) (Rows.wireNilSpec.post enc Try.prog Try.f9 false true false false) := by
  refine returnsInHanded_of_change (C := Try.checked) own started (by kernel_rfl) Try.func9
    (ChangeSpec.witness6 (enc := enc) (C := Try.checked) false ⟨#[], #[.int .i64 0], []⟩ 8 (by kernel_rfl) (by kernel_rfl) (by kernel_rfl) (by kernel_rfl)) ?_
  intro W base args ds gs before hval hW _ _
  exact contract H enc W base args ds gs before hval hW

theorem proved : Rows.WireNilSaid :=
  OpenClaim.holds_of_wide 9 Try.f9 rfl rfl rfl rfl rfl rfl rfl ⟨rfl, rfl, rfl, rfl, rfl⟩ rfl rfl rfl rfl rfl (by kernel_rfl) Try.func9 (by kernel_rfl)
    (of_decide_eq_true (by kernel_rfl)) (by unfold Func.isWrapper; first | (rw [if_pos (by decide +kernel)]; kernel_rfl) | (rw [if_neg (by decide +kernel)]; exact ⟨rfl, rfl⟩))
    (fun os started H enc _ => lifted os started H enc)
end wireNil
end Go.Proofs.Ytgjoiacgdgbcjaa
