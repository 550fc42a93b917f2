/-
  WirePuts.
-/
import Derived.Test.YtgjoiacgdgbcjaaWOpen
namespace Go.Proofs.Ytgjoiacgdgbcjaa
open Go.RowKit
set_option linter.unusedVariables false
set_option linter.unusedSimpArgs false

set_option maxRecDepth 100000 in
set_option maxHeartbeats 8000000 in
theorem wirePuts_walk (xs0 : List Int) (a0 : Option Addr) (ca0 : Nat) (N : Nat) (k : Int) (xs3 : List Int) (a3 : Option Addr) (ca3 : Nat) (w : World) (A0 : ArgB w (.slice a0 xs0.length ca0) xs0 a0 ca0) (l0 : xs0.length ≤ 1048576) (n0 : a0 = none → ca0 = 0)
    (hN : N < 18446744073709551616) (hk0 : -9223372036854775808 ≤ k) (hk1 : k ≤ 9223372036854775807) (A3 : ArgB w (.slice a3 xs3.length ca3) xs3 a3 ca3) (l3 : xs3.length ≤ 1048576) (n3 : a3 = none → ca3 = 0) :
    Calls Try.prog 3 #[.slice a0 xs0.length ca0, .int .u64 (N : Int), .int .i64 k, .slice a3 xs3.length ca3] w fun e w' => e = .returned (.bool true) ∧ Below w.heap.size w w' := by
  have own0 := fun w' (hb : Below w.heap.size w w') => ownB_any (A0.later hb) n0 (by omega)
  have own3 := fun w' (hb : Below w.heap.size w w') => ownB_any (A3.later hb) n3 (by omega)
  go_enter Try.func3, Try.ntmps3
  go_wp2_with fail
  refine (own0 _ (Below.refl _ _)).mono ?_
  rintro e w1 ⟨r1, rfl, q1, hb1⟩
  have hB1 := hb1
  have hs1 := hB1.size
  obtain ⟨b1, c1, rfl, q1', B1, m1⟩ := q1.slice
  clear q1
  go_wp2_with fail
  refine (putU_any (N : Int) B1 m1 (by omega) (by omega) (by omega)).mono ?_
  rintro e w2 ⟨r2, rfl, q2, hb2⟩
  rw [Int.toNat_natCast] at q2
  have hB2 : Below w.heap.size w w2 := hB1.trans (hb2.mono hs1)
  have hs2 := hB2.size
  go_wp2_with fail
  refine (own0 _ hB2).mono ?_
  rintro e w3 ⟨r3, rfl, q3, hb3⟩
  have hB3 : Below w.heap.size w w3 := hB2.trans (hb3.mono hs2)
  have hs3 := hB3.size
  obtain ⟨b3, c3, rfl, q3', B3, m3⟩ := q3.slice
  clear q3
  go_wp2_with fail
  refine (putZ_any k B3 m3 (by omega) hk0 hk1).mono ?_
  rintro e w4 ⟨r4, rfl, q4, hb4⟩
  have hB4 : Below w.heap.size w w4 := hB3.trans (hb4.mono hs3)
  have hs4 := hB4.size
  go_wp2_with fail
  refine (own0 _ hB4).mono ?_
  rintro e w5 ⟨r5, rfl, q5, hb5⟩
  have hB5 : Below w.heap.size w w5 := hB4.trans (hb5.mono hs4)
  have hs5 := hB5.size
  obtain ⟨b5, c5, rfl, q5', B5, m5⟩ := q5.slice
  clear q5
  go_wp2_with fail
  refine (own3 _ hB5).mono ?_
  rintro e w6 ⟨r6, rfl, q6, hb6⟩
  have hB6 : Below w.heap.size w w6 := hB5.trans (hb6.mono hs5)
  have hs6 := hB6.size
  obtain ⟨b6, c6, rfl, q6', B6, m6⟩ := q6.slice
  clear q6
  go_wp2_with fail
  refine (putB_any (B5.later hb6) m5 B6 m6 (by omega)).mono ?_
  rintro e w7 ⟨r7, rfl, q7, hb7⟩
  have hB7 : Below w.heap.size w w7 := hB6.trans (hb7.mono hs6)
  have hs7 := hB7.size
  -- the results, at w7
  have p2 : ResB w1.heap.size w7 r2 (xs0 ++ encN N) := ((((q2.later (hb3.mono (by omega))).later hb4).later hb5).later hb6).later hb7
  have p4 : ResB w3.heap.size w7 r4 (xs0 ++ encN (zig k).toNat) := ((q4.later hb5).later hb6).later hb7
  go_wp2_with fail
  refine (own0 _ hB7).mono ?_
  rintro e w8 ⟨r8, rfl, q8, hb8⟩
  have hx8 := hb8.size
  go_wp2_with fail
  refine (numberB_any N _ hN).mono ?_
  rintro e w9 ⟨r9, rfl, q9, hb9⟩
  have hx9 := hb9.size
  obtain ⟨b9, c9, rfl, q9', A9, m9⟩ := q9.slice
  have l9 := encN_ten hN
  have p8 := q8.later hb9
  clear q9 q8
  go_wp2_with (at_builtin; refine step_joinB (by first | exact wanted_none rfl _ | rfl) _ _ rfl rfl rfl p8 A9 m9 (by omega) (by omega) ?_; intro r10 w10 q10 hb10)
  have hC : Below w7.heap.size w7 w10 := (hb8.trans (hb9.mono hx8)).trans hb10
  have hB10 : Below w.heap.size w w10 := hB7.trans (hC.mono hs7)
  have hs10 := hB10.size
  have u2 := p2.later hC
  have u4 := p4.later hC
  have u7 := q7.later hC
  clear p2 p4 q7 hC p8 A9 q9' hb8 hb9 hb10
  obtain ⟨_, _, E1, _, F1, _⟩ := u2.slice
  obtain ⟨_, _, E2, _, F2, _⟩ := q10.slice
  have S1 := sameB_any (show ArgB w10 r2 _ _ _ from E1 ▸ F1) (show ArgB w10 r10 _ _ _ from E2 ▸ F2)
  rw [decide_eq_true rfl] at S1
  clear E1 F1 E2 F2
  go_wp2_with fail
  refine S1.mono ?_
  rintro e w11 ⟨rfl, rfl⟩
  clear S1 q10
  go_wp2_with fail
  refine (own0 _ hB10).mono ?_
  rintro e w12 ⟨r12, rfl, q12, hb12⟩
  have hx12 := hb12.size
  go_wp2_with fail
  refine (signed_any k _ hk0 hk1).mono ?_
  rintro e w13 ⟨rfl, rfl⟩
  obtain ⟨z, hz⟩ : ∃ z : Nat, zig k = (z : Int) := ⟨(zig k).toNat, by have := zig_range hk0 hk1; omega⟩
  have hz1 : z < 18446744073709551616 := by have := zig_range hk0 hk1; omega
  rw [hz] at u4 ⊢
  rw [Int.toNat_natCast] at u4
  go_wp2_with fail
  refine (numberB_any z _ hz1).mono ?_
  rintro e w14 ⟨r14, rfl, q14, hb14⟩
  have hx14 := hb14.size
  obtain ⟨b14, c14, rfl, q14', A14, m14⟩ := q14.slice
  have l14 := encN_ten hz1
  have p12 := q12.later hb14
  clear q14 q12
  go_wp2_with (at_builtin; refine step_joinB (by first | exact wanted_none rfl _ | rfl) _ _ rfl rfl rfl p12 A14 m14 (by omega) (by omega) ?_; intro r15 w15 q15 hb15)
  have hC : Below w10.heap.size w10 w15 := (hb12.trans (hb14.mono hx12)).trans hb15
  have hB15 : Below w.heap.size w w15 := hB10.trans (hC.mono hs10)
  have hs15 := hB15.size
  have v4 := u4.later hC
  have v7 := u7.later hC
  clear u2 u4 u7 hC p12 A14 q14' hb12 hb14 hb15
  obtain ⟨_, _, E1, _, F1, _⟩ := v4.slice
  obtain ⟨_, _, E2, _, F2, _⟩ := q15.slice
  have S1 := sameB_any (show ArgB w15 r4 _ _ _ from E1 ▸ F1) (show ArgB w15 r15 _ _ _ from E2 ▸ F2)
  rw [decide_eq_true rfl] at S1
  clear E1 F1 E2 F2
  go_wp2_with fail
  refine S1.mono ?_
  rintro e w16 ⟨rfl, rfl⟩
  clear S1 q15
  go_wp2_with fail
  refine (own0 _ hB15).mono ?_
  rintro e w17 ⟨r17, rfl, q17, hb17⟩
  have hx17 := hb17.size
  have hwl : IntKind.u64.wrap (xs3.length : Int) = (xs3.length : Int) := wrap_u64 (by omega) (by omega)
  go_wp2_with fail
  refine (numberB_any xs3.length _ (by omega)).mono ?_
  rintro e w18 ⟨r18, rfl, q18, hb18⟩
  have hx18 := hb18.size
  obtain ⟨b18, c18, rfl, q18', A18, m18⟩ := q18.slice
  have l18 := encN_ten (show xs3.length < 18446744073709551616 by omega)
  have p17 := q17.later hb18
  clear q18 q17
  go_wp2_with (at_builtin; first
    | (refine step_joinB (by first | exact wanted_none rfl _ | rfl) _ _ rfl rfl rfl p17 A18 m18 (by omega) (by omega) ?_; intro r19 w19 q19 hb19; have hC : Below w15.heap.size w15 w19 := (hb17.trans (hb18.mono hx17)).trans hb19; have A3' := A3.later (hB15.trans (hC.mono hs15)); have hx19 := hb19.size; have hl19 : (xs0 ++ encN xs3.length).length ≤ 1048586 := (by rw [List.length_append]; omega))
    | (refine step_joinB (by first | exact wanted_none rfl _ | rfl) _ _ rfl rfl rfl q19 A3' n3 (by omega) (by omega) ?_; intro r20 w20 q20 hb20))
  have hC2 : Below w15.heap.size w15 w20 := hC.trans hb20
  have hB20 : Below w.heap.size w w20 := hB15.trans (hC2.mono hs15)
  have hs20 := hB20.size
  have y7 := v7.later hC2
  rw [← List.append_assoc] at y7
  clear v4 v7 hC hC2 p17 A18 q18' hb17 hb18 hb19 hb20 q19
  obtain ⟨_, _, E1, _, F1, _⟩ := y7.slice
  obtain ⟨_, _, E2, _, F2, _⟩ := q20.slice
  have S1 := sameB_any (show ArgB w20 r7 _ _ _ from E1 ▸ F1) (show ArgB w20 r20 _ _ _ from E2 ▸ F2)
  rw [decide_eq_true rfl] at S1
  clear E1 F1 E2 F2
  go_wp2_with fail
  refine S1.mono ?_
  rintro e w21 ⟨rfl, rfl⟩
  clear S1 q20 y7
  go_wp2_with fail
  refine (known5_any _).mono ?_
  rintro e w22 ⟨rfl, hb22⟩
  go_wp2_with fail
  go_ret
  exact ⟨rfl, hB20.trans (hb22.mono hs20)⟩

namespace wirePuts
open Go.ChangeShapes Go.WideShapes Go.ChangeAt
theorem contract (H : Type) (enc : TypeId × Value → H) (W : World) (base : Nat) (args : Array Value) (ds gs : List (DataW H)) (before : List MemPlace)
    (hval : ∀ (j : Nat) t v, Try.f3.params[j]? = some t → args[j]? = some v → Value.okWide Try.prog W .any base t v)
    (hW : DataW.Whole enc Try.prog Try.f3.params.toList Rows.wirePutsSpec.vars false W args.toList ds gs before) (hk : Rows.uptoSmall H (ds ++ gs) = true) :
    Calls Try.prog 3 args W fun e W' => ∃ v, e = .returned v ∧ Rows.wirePutsSpec.post enc Try.prog Try.f3 false true false false W args v W' := by
  have hW' := hW
  have hlt := fun p hp => hW'.lt p hp
  obtain ⟨p, q, hA0, hV, rfl, hfz, hnd⟩ := hW
  have hA : DataW.TrodAll enc Try.prog W 0 (fun _ => true) true Try.f3.params.toList args.toList ds p := hA0
  rw [Try.params3] at hA hval
  obtain ⟨v0, vs0, d0, ds0, p0, q0, ha0, rfl, rfl, h0, r0⟩ := trodAll_cons hA
  obtain ⟨v1, vs1, d1, ds1, p1, q1, ha1, rfl, rfl, h1, r1⟩ := trodAll_cons r0
  obtain ⟨v2, vs2, d2, ds2, p2, q2, ha2, rfl, rfl, h2, r2⟩ := trodAll_cons r1
  obtain ⟨v3, vs3, d3, ds3, p3, q3, ha3, rfl, rfl, h3, r3⟩ := trodAll_cons r2
  obtain ⟨rfl, rfl, rfl⟩ := trodAll_nil r3
  subst ha1
  subst ha2
  subst ha3
  obtain rfl : args = #[v0, v1, v2, v3] := by cases args; simp_all
  obtain ⟨rfl, rfl⟩ := trodVars_none hV
  clear hA hA0 hV
  obtain ⟨i1, rfl, rfl, rfl, w1⟩ := open_int Try.underlying23 (hval 1 23 v1 rfl rfl) h1
  obtain ⟨i2, rfl, rfl, rfl, w2⟩ := open_int Try.underlying2 (hval 2 2 v2 rfl rfl) h2
  simp only [List.append_nil] at hW' hlt hk
  (try simp only [List.nil_append] at hW' hlt hk)
  obtain ⟨a0, xs0, ca0, A0, l0, n0⟩ := open_bytes (okWide_slice Try.underlying22 (hval 0 22 v0 rfl rfl)) h0 (bulk_in (d := d0) (by simp) hk)
  have e0 := A0.is
  subst e0
  obtain ⟨a3, xs3, ca3, A3, l3, n3⟩ := open_bytes (okWide_slice Try.underlying22 (hval 3 22 v3 rfl rfl)) h3 (bulk_in (d := d3) (by simp) hk)
  have e3 := A3.is
  subst e3
  obtain ⟨N1, rfl⟩ : ∃ N : Nat, i1 = (N : Int) := ⟨i1.toNat, by have := wf_v64 w1; omega⟩
  refine (wirePuts_walk xs0 a0 ca0 N1 i2 xs3 a3 ca3 W A0 l0 n0 (by have := wf_v64 w1; omega) (wf_w64 w2).1 (wf_w64 w2).2 A3 l3 n3).mono fun e W' ⟨he, hb⟩ => ?_
  subst he
  have t0 := Below.trod laid (by kernel_rfl) (of_decide_eq_true (by kernel_rfl)) h0 hb (fun x hx => hlt x (by simp [hx]))
  have t3 := Below.trod laid (by kernel_rfl) (of_decide_eq_true (by kernel_rfl)) h3 hb (fun x hx => hlt x (by simp [hx]))
  exact ⟨_, rfl, [d0, .lit (.int .u64 (N1 : Int)), .lit (.int .i64 i2), d3], [], (p0 ++ p3), [], (p0 ++ ([] ++ ([] ++ (p3 ++ [])))), [], hW', trodAll_cons_mk (shut_bool Try.underlying4 _) trodAll_mk0,
    (trodAll_cons_mk t0 (trodAll_cons_mk (shut_int Try.underlying23 w1) (trodAll_cons_mk (shut_int Try.underlying2 w2) (trodAll_cons_mk t3 trodAll_mk0)))), rfl, hb.frame _, fun h => by cases h⟩

set_option maxRecDepth 100000 in
theorem lifted (os : Os) (started : os.Started) (H : Type) (enc : TypeId × Value → H) (F : Stop.Interp) :
    ReturnsInHanded {} Try.checked os 3 .any ((Rows.OpenSpec.upto Rows.wirePutsSpec).pre6 enc Try.prog Try.f3 Rows.wirePutsUptoRow.domain false) (((Rows.OpenSpec.upto Rows.wirePutsSpec).at F).post enc Try.prog Try.f3 false true false false) := by
  refine returnsInHanded_of_cond (C := Try.checked) (s := Rows.OpenSpec.upto Rows.wirePutsSpec) (k := Rows.uptoSmall) rfl own started (by kernel_rfl) Try.func3
    (OpenSpec.witness (enc := enc) (C := Try.checked) (s := Rows.OpenSpec.upto Rows.wirePutsSpec) (k := Rows.uptoSmall) rfl false ⟨#[], #[.slice none 0 0, .int .u64 0, .int .i64 0, .slice none 0 0], []⟩ 8 (by kernel_rfl) (by kernel_rfl) (by kernel_rfl)
      (x := ([.nil, .lit (.int .u64 0), .lit (.int .i64 0), .nil], [], [])) (by kernel_rfl) rfl (by kernel_rfl)) ?_
  intro W base args ds gs before hval hW _ hk _
  exact contract H enc W base args ds gs before hval hW hk

theorem proved : Rows.WirePutsUptoSaid :=
  OpenClaim.holds_of_cond 3 Try.f3 rfl rfl rfl rfl rfl rfl rfl ⟨rfl, rfl, rfl, rfl, rfl⟩ rfl rfl rfl rfl rfl (by kernel_rfl) Try.func3 (by kernel_rfl)
    (of_decide_eq_true (by kernel_rfl)) (by unfold Func.isWrapper; first | (rw [if_pos (by decide +kernel)]; kernel_rfl) | (rw [if_neg (by decide +kernel)]; exact ⟨rfl, rfl⟩))
    (fun os started H enc _ F => lifted os started H enc F)
end wirePuts
end Go.Proofs.Ytgjoiacgdgbcjaa
