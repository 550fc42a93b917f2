/-
  DigitsOrder: the law answers true (of two naturals the greater one has more digits, or as many, and then those that come later as a text), and each argument reads behind the call as it read before, whatever the arguments are. No condition.
-/
import Derived.Test.YtokinmmnoiacdaaDLaw0
namespace Go.Proofs.Ytokinmmnoiacdaa
open Go.RowKit Go.ChangeShapes Go.WideShapes Go.ChangeAt
set_option linter.unusedVariables false
set_option linter.unusedSimpArgs false
set_option maxRecDepth 100000

set_option maxRecDepth 100000 in
set_option maxHeartbeats 8000000 in
theorem digitsOrder_walk (xs0 : List Int) (a0 : Option Addr) (ca0 : Nat) (xs1 : List Int) (a1 : Option Addr) (ca1 : Nat) (w : World) (A0 : Arg w (.slice a0 xs0.length ca0) xs0 a0 ca0) (A1 : Arg w (.slice a1 xs1.length ca1) xs1 a1 ca1) :
    Calls Try.prog 10 #[.slice a0 xs0.length ca0, .slice a1 xs1.length ca1] w fun e w' => e = .returned (.bool true) ∧ Below w.heap.size w w' := by
  have hWW := Below.refl w.heap.size w
  by_cases g0 : xs0.length ≤ 30
  case neg =>
    have d0 : decide ((30 : Int) < (xs0.length : Int)) = true := decide_eq_true (by omega)
    go_enter Try.func10, Try.ntmps10
    go_wp2_with fail
    refine (known4_any _).mono ?_
    rintro e VK ⟨rfl, hbk⟩
    go_wp2_with fail
    go_ret
    exact ⟨rfl, hWW.trans (hbk.mono (by omega))⟩
  by_cases g1 : xs1.length ≤ 30
  case neg =>
    have d0 : decide ((30 : Int) < (xs0.length : Int)) = false := decide_eq_false (by omega)
    have d1 : decide ((30 : Int) < (xs1.length : Int)) = true := decide_eq_true (by omega)
    go_enter Try.func10, Try.ntmps10
    go_wp2_with fail
    refine (known4_any _).mono ?_
    rintro e VK ⟨rfl, hbk⟩
    go_wp2_with fail
    go_ret
    exact ⟨rfl, hWW.trans (hbk.mono (by omega))⟩
  have d0 : decide ((30 : Int) < (xs0.length : Int)) = false := decide_eq_false (by omega)
  have d1 : decide ((30 : Int) < (xs1.length : Int)) = false := decide_eq_false (by omega)
  have n0 := val_nonneg A0.wf
  have n1 := val_nonneg A1.wf
  obtain ⟨x, hx⟩ : ∃ x, (val xs0).toNat = x := ⟨_, rfl⟩
  obtain ⟨y, hy⟩ : ∃ y, (val xs1).toNat = y := ⟨_, rfl⟩
  have hxv : val xs0 = (x : Int) := by omega
  have hyv : val xs1 = (y : Int) := by omega
  have hc := fun w' (hb : Below w.heap.size w w') => cmp_res (A0.later hb) (A1.later hb) (by omega) (by omega)
  rw [hxv, hyv] at hc
  have hp0 := nat4_any A0 (by omega)
  rw [hx] at hp0
  have hp1 := fun w' (hb : Below w.heap.size w w') => nat4_any (A1.later hb) (by omega)
  rw [hy] at hp1
  clear hxv hyv
  have hless := dec_less x y
  have hmore := dec_less y x
  have hself := dec_less x x
  go_enter Try.func10, Try.ntmps10
  go_wp2_with fail
  refine hp0.mono ?_
  rintro e V1 ⟨s, rfl, hs, hm1, hb1⟩
  have hz1 := hb1.size
  clear hp0
  go_wp2_with fail
  refine (hp1 _ hb1).mono ?_
  rintro e V2 ⟨t, rfl, ht, hm2, hb2⟩
  have hz2 := hb2.size
  have hB2 : Below w.heap.size w V2 := hb1.trans (hb2.mono hz1)
  clear hp1 hb1 hb2
  have hls := size_of hs
  have hlt := size_of ht
  have ks : s.toList = dec x := by rw [ByteArray.toList_eq, hs]
  have kt : t.toList = dec y := by rw [ByteArray.toList_eq, ht]
  rw [← hls, ← hlt] at hless hmore
  rw [← hls] at hself
  have heq : (s.toList == t.toList) = decide (x = y) := by
    rw [ks, kt, Bool.eq_iff_iff, beq_iff_eq, decide_eq_true_iff]
    exact ⟨dec_inj, fun e => by rw [e]⟩
  rw [← ks, ← kt] at hless hmore
  rw [← ks] at hself
  clear ks kt hs ht hx hy hls hlt n0 n1
  rcases Nat.lt_trichotomy x y with hlt | hlt | hlt
  · have e1 : (s.toList == t.toList) = false := by rw [heq]; exact decide_eq_false (by omega)
    have hsg : (x : Int) < (y : Int) := by omega
    have HS := Lib.hid (sign_lt hsg)
    have hl := hless.1 hlt
    clear heq hless hmore hself hlt hsg
    by_cases hl1 : s.size < t.size
    · have hI : decide (s.size < t.size) = true := decide_eq_true hl1
      clear hl hl1
      go_wp2_with fail
      refine (hc _ hB2).mono ?_
      rintro e V3 ⟨rfl, hb3⟩
      have hz3 := hb3.size
      have hB3 := hB2.trans (hb3.mono (by omega))
      rw [HS.out]
      go_wp2_with fail
      refine (hc _ hB3).mono ?_
      rintro e V4 ⟨rfl, hb4⟩
      have hz4 := hb4.size
      have hB4 := hB3.trans (hb4.mono (by omega))
      rw [HS.out]
      clear hb3 hb4 hc
      go_wp2_with fail
      refine (known4_any _).mono ?_
      rintro e VK ⟨rfl, hbk⟩
      go_wp2_with fail
      go_ret
      exact ⟨rfl, hB4.trans (hbk.mono (by omega))⟩
    · have hl2 : s.size = t.size ∧ Op.bytesLess s.toList t.toList = true := by
        rcases hl with h | h
        · exact absurd h hl1
        · exact h
      obtain ⟨hl3, hl4⟩ := hl2
      have hI : decide (s.size < t.size) = false := decide_eq_false hl1
      have hE : ((s.size : Int) == (t.size : Int)) = true := by simp; omega
      clear hl hl1 hl3
      go_wp2_with fail
      refine (hc _ hB2).mono ?_
      rintro e V3 ⟨rfl, hb3⟩
      have hz3 := hb3.size
      have hB3 := hB2.trans (hb3.mono (by omega))
      rw [HS.out]
      go_wp2_with fail
      refine (hc _ hB3).mono ?_
      rintro e V4 ⟨rfl, hb4⟩
      have hz4 := hb4.size
      have hB4 := hB3.trans (hb4.mono (by omega))
      rw [HS.out]
      clear hb3 hb4 hc
      go_wp2_with fail
      refine (known4_any _).mono ?_
      rintro e VK ⟨rfl, hbk⟩
      go_wp2_with fail
      go_ret
      exact ⟨rfl, hB4.trans (hbk.mono (by omega))⟩
  · have e1 : (s.toList == t.toList) = true := by rw [heq]; exact decide_eq_true hlt
    have hst : s.toList = t.toList := by simpa using e1
    have HS := Lib.hid (show sign (x : Int) (y : Int) = 0 by rw [hlt]; exact sign_self _)
    have hsz : s.size = t.size := by
      have h1 : ¬ s.size < t.size := fun h => by have := hless.2 (.inl h); omega
      have h2 : ¬ t.size < s.size := fun h => by have := hmore.2 (.inl h); omega
      omega
    have hbl : Op.bytesLess s.toList t.toList = false := by
      rw [Bool.eq_false_iff]
      intro h
      have := hless.2 (.inr ⟨hsz, h⟩)
      omega
    have hI : decide (s.size < t.size) = false := decide_eq_false (by omega)
    have hE : ((s.size : Int) == (t.size : Int)) = true := by simp; omega
    clear heq hless hmore hself hlt hsz hst
    go_wp2_with fail
    refine (hc _ hB2).mono ?_
    rintro e V3 ⟨rfl, hb3⟩
    have hz3 := hb3.size
    have hB3 := hB2.trans (hb3.mono (by omega))
    rw [HS.out]
    go_wp2_with fail
    refine (hc _ hB3).mono ?_
    rintro e V4 ⟨rfl, hb4⟩
    have hz4 := hb4.size
    have hB4 := hB3.trans (hb4.mono (by omega))
    rw [HS.out]
    clear hb3 hb4 hc
    go_wp2_with fail
    refine (known4_any _).mono ?_
    rintro e VK ⟨rfl, hbk⟩
    go_wp2_with fail
    go_ret
    exact ⟨rfl, hB4.trans (hbk.mono (by omega))⟩
  · have e1 : (s.toList == t.toList) = false := by rw [heq]; exact decide_eq_false (by omega)
    have hsg : (y : Int) < (x : Int) := by omega
    have HS := Lib.hid (show sign (x : Int) (y : Int) = 1 by unfold sign; rw [if_neg (by omega), if_pos hsg])
    have hI : decide (s.size < t.size) = false := decide_eq_false (by
      intro h
      have := hless.2 (.inl h)
      omega)
    by_cases hl1 : s.size = t.size
    · have hbl : Op.bytesLess s.toList t.toList = false := by
        rw [Bool.eq_false_iff]
        intro h
        have := hless.2 (.inr ⟨hl1, h⟩)
        omega
      have hE : ((s.size : Int) == (t.size : Int)) = true := by simp; omega
      clear heq hless hmore hself hlt hsg hl1
      go_wp2_with fail
      refine (hc _ hB2).mono ?_
      rintro e V3 ⟨rfl, hb3⟩
      have hz3 := hb3.size
      have hB3 := hB2.trans (hb3.mono (by omega))
      rw [HS.out]
      go_wp2_with fail
      refine (hc _ hB3).mono ?_
      rintro e V4 ⟨rfl, hb4⟩
      have hz4 := hb4.size
      have hB4 := hB3.trans (hb4.mono (by omega))
      rw [HS.out]
      clear hb3 hb4 hc
      go_wp2_with fail
      refine (known4_any _).mono ?_
      rintro e VK ⟨rfl, hbk⟩
      go_wp2_with fail
      go_ret
      exact ⟨rfl, hB4.trans (hbk.mono (by omega))⟩
    · have hE : ((s.size : Int) == (t.size : Int)) = false := by simp; omega
      clear heq hless hmore hself hlt hsg hl1
      go_wp2_with fail
      refine (hc _ hB2).mono ?_
      rintro e V3 ⟨rfl, hb3⟩
      have hz3 := hb3.size
      have hB3 := hB2.trans (hb3.mono (by omega))
      rw [HS.out]
      go_wp2_with fail
      refine (hc _ hB3).mono ?_
      rintro e V4 ⟨rfl, hb4⟩
      have hz4 := hb4.size
      have hB4 := hB3.trans (hb4.mono (by omega))
      rw [HS.out]
      clear hb3 hb4 hc
      go_wp2_with fail
      refine (known4_any _).mono ?_
      rintro e VK ⟨rfl, hbk⟩
      go_wp2_with fail
      go_ret
      exact ⟨rfl, hB4.trans (hbk.mono (by omega))⟩

namespace digitsOrder
theorem contract (H : Type) (enc : TypeId × Value → H) (W : World) (base : Nat) (args : Array Value) (ds gs : List (DataW H)) (before : List MemPlace)
    (hval : ∀ (j : Nat) t v, Try.f10.params[j]? = some t → args[j]? = some v → Value.okWide Try.prog W .any base t v)
    (hW : DataW.Whole enc Try.prog Try.f10.params.toList Rows.digitsOrderSpec.vars false W args.toList ds gs before) :
    Calls Try.prog 10 args W fun e W' => ∃ v, e = .returned v ∧ Rows.digitsOrderSpec.post enc Try.prog Try.f10 false true false false W args v W' := by
  have hW' := hW
  have hlt := fun p hp => hW'.lt p hp
  obtain ⟨p, q, hA0, hV, rfl, hfz, hnd⟩ := hW
  have hA : DataW.TrodAll enc Try.prog W 0 (fun _ => true) true Try.f10.params.toList args.toList ds p := hA0
  rw [Try.params10] at hA hval
  obtain ⟨v0, vs0, d0, ds0, p0, q0, ha0, rfl, rfl, h0, r0⟩ := trodAll_cons hA
  obtain ⟨v1, vs1, d1, ds1, p1, q1, ha1, rfl, rfl, h1, r1⟩ := trodAll_cons r0
  obtain ⟨rfl, rfl, rfl⟩ := trodAll_nil r1
  subst ha1
  obtain rfl : args = #[v0, v1] := by cases args; simp_all
  obtain ⟨rfl, rfl⟩ := trodVars_none hV
  clear hA hA0 hV
  simp only [List.append_nil] at hW' hlt
  obtain ⟨a0, xs0, ca0, A0, n0⟩ := open_nat3 (okWide_slice Try.underlying23 (hval 0 23 v0 rfl rfl)) h0
  have e0 := A0.is
  subst e0
  obtain ⟨a1, xs1, ca1, A1, n1⟩ := open_nat3 (okWide_slice Try.underlying23 (hval 1 23 v1 rfl rfl)) h1
  have e1 := A1.is
  subst e1
  refine (digitsOrder_walk xs0 a0 ca0 xs1 a1 ca1 W A0 A1).mono fun e W' ⟨he, hb⟩ => ?_
  subst he
  have t0 := Below.trod laid (by kernel_rfl) (of_decide_eq_true (by kernel_rfl)) h0 hb (fun x hx => hlt x (by simp [hx]))
  have t1 := Below.trod laid (by kernel_rfl) (of_decide_eq_true (by kernel_rfl)) h1 hb (fun x hx => hlt x (by simp [hx]))
  exact ⟨_, rfl, [d0, d1], [], (p0 ++ p1), [], (p0 ++ (p1 ++ [])), [], hW', trodAll_cons_mk (shut_bool Try.underlying4 _) trodAll_mk0,
    (trodAll_cons_mk t0 (trodAll_cons_mk t1 trodAll_mk0)), rfl, hb.frame _, fun h => by cases h⟩

set_option maxRecDepth 100000 in
theorem lifted (os : Os) (started : os.Started) (H : Type) (enc : TypeId × Value → H) :
    ReturnsInHanded {} Try.checked os 10 .any (Rows.digitsOrderSpec.pre6 enc Try.prog Try.f10 Rows.digitsOrderRow.domain false) (Rows.digitsOrderSpec.post enc Try.prog Try.f10 false true false false) := by
  refine returnsInHanded_of_change (C := Try.checked) own started (by kernel_rfl) Try.func10
    (ChangeSpec.witness6 (enc := enc) (C := Try.checked) false ⟨#[], #[.slice none 0 0, .slice none 0 0], []⟩ 8 (by kernel_rfl) (by kernel_rfl) (by kernel_rfl) (by kernel_rfl)) ?_
  intro W base args ds gs before hval hW _ _
  exact contract H enc W base args ds gs before hval hW

theorem proved : Rows.DigitsOrderSaid :=
  OpenClaim.holds_of_wide 10 Try.f10 rfl rfl rfl rfl rfl rfl rfl ⟨rfl, rfl, rfl, rfl, rfl⟩ rfl rfl rfl rfl rfl (by kernel_rfl) Try.func10 (by kernel_rfl)
    (of_decide_eq_true (by kernel_rfl)) (by unfold Func.isWrapper; first | (rw [if_pos (by decide +kernel)]; kernel_rfl) | (rw [if_neg (by decide +kernel)]; exact ⟨rfl, rfl⟩))
    (fun os started H enc _ => lifted os started H enc)
end digitsOrder
end Go.Proofs.Ytokinmmnoiacdaa
