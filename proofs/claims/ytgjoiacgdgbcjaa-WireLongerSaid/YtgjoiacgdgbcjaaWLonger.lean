/-
  WireLonger.
-/
import Derived.Test.YtgjoiacgdgbcjaaWOpen
namespace Go.Proofs.Ytgjoiacgdgbcjaa
open Go.RowKit
set_option linter.unusedVariables false
set_option linter.unusedSimpArgs false

set_option maxRecDepth 100000 in
set_option maxHeartbeats 8000000 in
theorem wireLonger_walk (N : Nat) (more : Int) (w : World) (hN : N < 18446744073709551616) (hm0 : -9223372036854775808 ≤ more) (hm1 : more ≤ 9223372036854775807) :
    Calls Try.prog 7 #[.int .u64 (N : Int), .int .i64 more] w fun e w' => e = .returned (.bool true) ∧ Below w.heap.size w w' := by
  obtain ⟨i0, hi, hz0, hz1, hz2⟩ := info_parts infoByte
  have hpos := encN_pos N
  have hten := encN_ten hN
  obtain ⟨a, ha⟩ : ∃ a, (encN N).length = a := ⟨_, rfl⟩
  have HA := Lib.hid ha
  rw [ha] at hpos hten
  clear ha
  have haz : ((a : Int) == 0) = false := by rw [beq_eq_false_iff_ne]; omega
  have haI : (0 : Int) < (a : Int) := by omega
  go_enter Try.func7, Try.ntmps7
  go_wp2_with fail
  refine (putU_any (N : Int) (nil_argB _) (fun _ => rfl) (by simp) (by omega) (by omega)).mono ?_
  rintro e w1 ⟨r1, rfl, q1, hb1⟩
  rw [Int.toNat_natCast, List.nil_append] at q1
  have hs1 := hb1.size
  obtain ⟨g, cp, rfl, hg, hcp, hp⟩ := q1.num.partB (by intro e; have := HA.out; rw [e] at this; simp at this; omega)
  rw [HA.out]
  have hle := hp.le
  rw [HA.out] at hle
  by_cases hgo : 1 ≤ more ∧ a ≤ 9 ∧ more ≤ 9 - a
  · obtain ⟨g1, g2, g3⟩ := hgo
    obtain ⟨hH, hy0, hy1⟩ := enc_high HA.out
    have hByt := high_bytes HA.out
    obtain ⟨y, hy⟩ : ∃ y, (encN N).getD (a - 1) 0 = y := ⟨_, rfl⟩
    obtain ⟨t0, ht0⟩ : ∃ t0, (encN N).set (a - 1) (y + 128) = t0 := ⟨_, rfl⟩
    rw [hy] at hH hy0 hy1 hByt
    rw [ht0] at hH hByt
    have hc := hp.cell (a - 1) (by rw [HA.out]; omega)
    rw [hy] at hc
    have hf := hp.free (a - 1)
    have hpt := hp.set (a - 1) (by rw [HA.out]; omega) (y + 128)
    rw [ht0] at hpt
    have htl : t0.length = a := by rw [← ht0, List.length_set, HA.out]
    have HTL := Lib.hid htl
    have hor : bits .or .u8 y 128 = y + 128 := or_u8 hy0 hy1
    have hwa : IntKind.i64.wrap ((a : Int) - 1) = (a : Int) - 1 := IntWalk.i64_in _ (by omega)
    have e1 : (a : Int) - 1 = ((a - 1 : Nat) : Int) := by omega
    obtain ⟨j, hj⟩ : ∃ j, a - 1 = j := ⟨_, rfl⟩
    rw [hj] at hc hf hpt e1
    have hja : (j : Int) < (a : Int) := by omega
    have d1 : decide (more < 1) = false := decide_eq_false (by omega)
    have d2 : decide ((9 : Int) < (a : Int)) = false := decide_eq_false (by omega)
    have d3 : decide (9 - (a : Int) < more) = false := decide_eq_false (by omega)
    have hw9 : IntKind.i64.wrap (9 - (a : Int)) = 9 - (a : Int) := IntWalk.i64_in _ (by omega)
    clear ht0 hy htl hj hp
    go_wp2_with fail
    have hB2 : Below w.heap.size w (w1.setCell ⟨g, j, none⟩ (.int .u8 (y + 128))) := hb1.setCell (p := ⟨g, j, none⟩) hg _
    have N2 : NumB w.heap.size (w1.setCell ⟨g, j, none⟩ (.int .u8 (y + 128))) (.slice (some ⟨g, 0, none⟩) a cp) t0 := by
      have h := hpt.num hg hcp
      rw [HTL.out] at h
      exact h
    generalize (w1.setCell ⟨g, j, none⟩ (.int .u8 (y + 128))) = W at *
    clear hpt hc hf q1 hor hwa hw9 d1 d2 d3
    go_loopw [5, 6] (fun bv iv wr => ∃ (i : Nat) (v : Value) (t : List Int), v = bv ∧ iv = .int .i64 (i : Int) ∧ 1 ≤ i ∧ (i : Int) ≤ more ∧ High t ∧ Byt t ∧ t.length + 1 = a + i ∧ NumB w.heap.size wr v t ∧ Below w.heap.size w wr) (fun _ iv _ => (more - intOf iv).toNat)
    case atStart => exact ⟨1, _, t0, rfl, rfl, Nat.le_refl _, by omega, hH, hByt, by rw [HTL.out], N2, hB2⟩
    case round =>
      obtain ⟨i, v, t, rfl, rfl, hi1, hi2, hHt, hBt, htl, hown, hB⟩ := hrel
      have hsz := hB.size
      have HO := Lib.hid hown
      have HTt := Lib.hid htl
      have htb : t.length ≤ 8 := by omega
      have hrow : wr.ownsRow w.heap.size 5 1 v t.length (t.map (Value.int .u8)) := hown
      clear hown htl
      by_cases hlt : (i : Int) < more
      · have hw1 : IntKind.i64.wrap ((i : Int) + 1) = (i : Int) + 1 := IntWalk.i64_in _ (by omega)
        go_wp2_with (at_builtin; refine wpList_append_own _ rfl _ _ 22 rfl w.heap.size 5 i0 (.int .u8 0) 1 1 Try.underlying22 hi hz0 hz1 hz2 rfl (by decide) _ _ _ rfl (hrow.alloc _) ⟨wr.heap.size, 0, none⟩ 1 1 [.int .u8 128] rfl rfl (cell_one_new _ _ _) (by simp [Value.oneCell']) (by unfold maxLen; omega) (by omega) (by simp; omega) ?_; intro v' w2 hown' hgrow _)
        obtain ⟨hn, hbw⟩ := pushB hB hsz HO.out hown' hgrow
        go_roundw
        case rel => exact ⟨i + 1, v', t ++ [128], rfl, by simp, by omega, by omega, hHt.snoc, hBt.append (Byt.one (by omega)), by have := HTt.out; rw [List.length_append, List.length_singleton]; omega, hn, hbw⟩
        case measure => simp [intOf]; omega
      · have htl := HTt.out
        have R0 : ResB w.heap.size wr v t := ⟨HO.out, hBt⟩
        obtain ⟨b1, c1, rfl, _, B1, m1⟩ := R0.slice
        have s1 := high_short hHt (by omega)
        have s2 := high_nought hHt (by omega) (by omega)
        have S1 := Lib.hid s1
        have S2 := Lib.hid s2
        clear s1 s2 htl hrow
        go_wp2_with fail
        refine (ownB_any B1 m1 (by omega)).mono ?_
        rintro e w3 ⟨r3, rfl, q3, hb3⟩
        have hB3 : Below w.heap.size w w3 := hB.trans (hb3.mono hsz)
        have hs3 := hB3.size
        have B3 := B1.later hb3
        have hrow3 : w3.ownsRow wr.heap.size 5 1 r3 t.length (t.map (Value.int .u8)) := q3.num
        have hs3' := hb3.size
        go_wp2_with (at_builtin; refine wpList_append_own _ rfl _ _ 22 rfl wr.heap.size 5 i0 (.int .u8 0) 1 1 Try.underlying22 hi hz0 hz1 hz2 rfl (by decide) _ _ _ rfl (hrow3.alloc _) ⟨w3.heap.size, 0, none⟩ 1 1 [.int .u8 0] rfl rfl (cell_one_new _ _ _) (by simp [Value.oneCell']) (by unfold maxLen; omega) (by omega) (by simp; omega) ?_; intro v' w4 hown' hgrow _)
        obtain ⟨hn4, hb4⟩ := pushB (w := wr) hb3 hs3' q3.num hown' hgrow
        have R4 : ResB wr.heap.size w4 v' (t ++ [0]) := ⟨hn4, hBt.append (Byt.one (by omega))⟩
        have hl4 : (t ++ [0]).length ≤ 9 := by rw [List.length_append, List.length_singleton]; omega
        obtain ⟨_, _, E4, _, F4, m4⟩ := R4.slice
        have hB4 : Below w.heap.size w w4 := hB.trans (hb4.mono hsz)
        have hs4 := hB4.size
        have B4 := B1.later hb4
        have RR := reads5_any (show ArgB w4 v' _ _ _ from E4 ▸ F4) m4 (by omega)
        rw [S2.out] at RR
        clear E4 F4 R4 hn4 hown' hgrow hrow3 q3
        refine RR.mono ?_
        rintro e w5 ⟨rfl, hb5⟩
        have hB5 : Below w.heap.size w w5 := hB4.trans (hb5.mono hs4)
        have hs5 := hB5.size
        have B5 := B4.later hb5
        have RR2 := reads5_any B5 m1 (by omega)
        rw [S1.out] at RR2
        clear RR
        go_wp2_with fail
        refine RR2.mono ?_
        rintro e w6 ⟨rfl, hb6⟩
        have hB6 : Below w.heap.size w w6 := hB5.trans (hb6.mono hs5)
        have hs6 := hB6.size
        clear RR2
        go_wp2_with fail
        refine (known5_any _).mono ?_
        rintro e w7 ⟨rfl, hb7⟩
        go_wp2_with fail
        go_ret
        exact ⟨rfl, hB6.trans (hb7.mono hs6)⟩
  · by_cases d1 : more < 1
    · go_wp2_with fail
      refine (known5_any _).mono ?_
      rintro e w7 ⟨rfl, hb7⟩
      go_wp2_with fail
      go_ret
      exact ⟨rfl, hb1.trans (hb7.mono hs1)⟩
    · have d1' : decide (more < 1) = false := decide_eq_false d1
      by_cases d2 : (9 : Int) < (a : Int)
      · go_wp2_with fail
        refine (known5_any _).mono ?_
        rintro e w7 ⟨rfl, hb7⟩
        go_wp2_with fail
        go_ret
        exact ⟨rfl, hb1.trans (hb7.mono hs1)⟩
      · have d2' : decide ((9 : Int) < (a : Int)) = false := decide_eq_false d2
        have hw9 : IntKind.i64.wrap (9 - (a : Int)) = 9 - (a : Int) := IntWalk.i64_in _ (by omega)
        have d3 : 9 - (a : Int) < more := by omega
        go_wp2_with fail
        refine (known5_any _).mono ?_
        rintro e w7 ⟨rfl, hb7⟩
        go_wp2_with fail
        go_ret
        exact ⟨rfl, hb1.trans (hb7.mono hs1)⟩

namespace wireLonger
open Go.ChangeShapes Go.WideShapes Go.ChangeAt
theorem contract (H : Type) (enc : TypeId × Value → H) (W : World) (base : Nat) (args : Array Value) (ds gs : List (DataW H)) (before : List MemPlace)
    (hval : ∀ (j : Nat) t v, Try.f7.params[j]? = some t → args[j]? = some v → Value.okWide Try.prog W .any base t v)
    (hW : DataW.Whole enc Try.prog Try.f7.params.toList Rows.wireLongerSpec.vars false W args.toList ds gs before) :
    Calls Try.prog 7 args W fun e W' => ∃ v, e = .returned v ∧ Rows.wireLongerSpec.post enc Try.prog Try.f7 false true false false W args v W' := by
  have hW' := hW
  have hlt := fun p hp => hW'.lt p hp
  obtain ⟨p, q, hA0, hV, rfl, hfz, hnd⟩ := hW
  have hA : DataW.TrodAll enc Try.prog W 0 (fun _ => true) true Try.f7.params.toList args.toList ds p := hA0
  rw [Try.params7] at hA hval
  obtain ⟨v0, vs0, d0, ds0, p0, q0, ha0, rfl, rfl, h0, r0⟩ := trodAll_cons hA
  obtain ⟨v1, vs1, d1, ds1, p1, q1, ha1, rfl, rfl, h1, r1⟩ := trodAll_cons r0
  obtain ⟨rfl, rfl, rfl⟩ := trodAll_nil r1
  subst ha1
  obtain rfl : args = #[v0, v1] := by cases args; simp_all
  obtain ⟨rfl, rfl⟩ := trodVars_none hV
  clear hA hA0 hV
  obtain ⟨i0, rfl, rfl, rfl, w0⟩ := open_int Try.underlying23 (hval 0 23 v0 rfl rfl) h0
  obtain ⟨i1, rfl, rfl, rfl, w1⟩ := open_int Try.underlying3 (hval 1 3 v1 rfl rfl) h1
  simp only [List.append_nil] at hW' hlt
  (try simp only [List.nil_append] at hW' hlt)
  obtain ⟨N0, rfl⟩ : ∃ N : Nat, i0 = (N : Int) := ⟨i0.toNat, by have := wf_v64 w0; omega⟩
  refine (wireLonger_walk N0 i1 W (by have := wf_v64 w0; omega) (wf_w64 w1).1 (wf_w64 w1).2).mono fun e W' ⟨he, hb⟩ => ?_
  subst he
  exact ⟨_, rfl, [.lit (.int .u64 (N0 : Int)), .lit (.int .i64 i1)], [], [], [], ([] ++ ([] ++ [])), [], hW', trodAll_cons_mk (shut_bool Try.underlying4 _) trodAll_mk0,
    (trodAll_cons_mk (shut_int Try.underlying23 w0) (trodAll_cons_mk (shut_int Try.underlying3 w1) trodAll_mk0)), rfl, hb.frame _, fun h => by cases h⟩

set_option maxRecDepth 100000 in
theorem lifted (os : Os) (started : os.Started) (H : Type) (enc : TypeId × Value → H) :
    ReturnsInHanded {} Try.checked os 7 .any (Rows.wireLongerSpec.pre6 enc Try.prog Try.f7 Rows.wireLongerRow.domain false) (Rows.wireLongerSpec.post enc Try.prog Try.f7 false true false false) := by
  refine returnsInHanded_of_change (C := Try.checked) own started (by kernel_rfl) Try.func7
    (ChangeSpec.witness6 (enc := enc) (C := Try.checked) false ⟨#[], #[.int .u64 0, .int .i64 0], []⟩ 8 (by kernel_rfl) (by kernel_rfl) (by kernel_rfl) (by kernel_rfl)) ?_
  intro W base args ds gs before hval hW _ _
  exact contract H enc W base args ds gs before hval hW

theorem proved : Rows.WireLongerSaid :=
  OpenClaim.holds_of_wide 7 Try.f7 rfl rfl rfl rfl rfl rfl rfl ⟨rfl, rfl, rfl, rfl, rfl⟩ rfl rfl rfl rfl rfl (by kernel_rfl) Try.func7 (by kernel_rfl)
    (of_decide_eq_true (by kernel_rfl)) (by unfold Func.isWrapper; first | (rw [if_pos (by decide +kernel)]; kernel_rfl) | (rw [if_neg (by decide +kernel)]; exact ⟨rfl, rfl⟩))
    (fun os started H enc _ => lifted os started H enc)
end wireLonger
end Go.Proofs.Ytgjoiacgdgbcjaa
