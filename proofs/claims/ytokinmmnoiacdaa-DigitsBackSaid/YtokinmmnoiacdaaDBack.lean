/-
  DigitsBack: the law answers true (a natural, and a rational, is read of its text, if it has at most MaxLimbs limbs, and else refused; what is read of any bytes is told as these), and each argument reads behind the call as it read before, whatever the arguments are. No condition.
-/
import Derived.Test.YtokinmmnoiacdaaDLaw0
import Derived.Test.YtokinmmnoiacdaaDBackM
namespace Go.Proofs.Ytokinmmnoiacdaa
open Go.RowKit Go.ChangeShapes Go.WideShapes Go.ChangeAt
set_option linter.unusedVariables false
set_option linter.unusedSimpArgs false
set_option maxRecDepth 100000

set_option maxRecDepth 100000 in
set_option maxHeartbeats 8000000 in
theorem digitsBack_walk (xs0 : List Int) (a0 : Option Addr) (ca0 : Nat) (neg1 : Bool) (xs1 ds1 : List Int) (a1 b1 : Option Addr) (ca1 cb1 : Nat) (s2 : ByteArray) (l2 : List UInt8) (w : World) (A0 : Arg w (.slice a0 xs0.length ca0) xs0 a0 ca0) (A1 : Arg w (.slice a1 xs1.length ca1) xs1 a1 ca1) (B1 : Arg w (.slice b1 ds1.length cb1) ds1 b1 cb1) (hs2 : s2.data.toList = l2) (hm2 : s2.size ≤ 9223372036854775807) :
    Calls Try.prog 7 #[.slice a0 xs0.length ca0, .agg #[.bool neg1, .slice a1 xs1.length ca1, .slice b1 ds1.length cb1], .string s2] w fun e w' => e = .returned (.bool true) ∧ Below w.heap.size w w' := by
  obtain ⟨W, hW⟩ : ∃ W, (w.alloc (.cells #[.bool neg1, .slice a1 xs1.length ca1, .slice b1 ds1.length cb1] 40)) = W := ⟨_, rfl⟩
  have R0 : Row W (w.heap.size) 40 #[.bool neg1, .slice a1 xs1.length ca1, .slice b1 ds1.length cb1] := by rw [← hW]; exact (Row.new _ _ _)
  have hBW : Below w.heap.size w W := by rw [← hW]; exact ((Below.refl _ _).alloc (by (try simp) <;> omega) _)
  have hsW : w.heap.size + 1 ≤ W.heap.size := by rw [← hW]; simp
  obtain ⟨p0, p1, p2, _, _, _⟩ := R0.three
  by_cases g0 : xs0.length ≤ 40
  case neg =>
    have d0 : decide ((40 : Int) < (xs0.length : Int)) = true := decide_eq_true (by omega)
    go_enter Try.func7, Try.ntmps7
    go_wp2_with fail
    refine (known4_any _).mono ?_
    rintro e VK ⟨rfl, hbk⟩
    go_wp2_with fail
    go_ret
    exact ⟨rfl, hBW.trans (hbk.mono (by omega))⟩
  by_cases g1 : xs1.length ≤ 8
  case neg =>
    have d0 : decide ((40 : Int) < (xs0.length : Int)) = false := decide_eq_false (by omega)
    have d1 : decide ((8 : Int) < (xs1.length : Int)) = true := decide_eq_true (by omega)
    go_enter Try.func7, Try.ntmps7
    go_wp2_with fail
    refine (known4_any _).mono ?_
    rintro e VK ⟨rfl, hbk⟩
    go_wp2_with fail
    go_ret
    exact ⟨rfl, hBW.trans (hbk.mono (by omega))⟩
  by_cases g2 : ds1.length ≤ 8
  case neg =>
    have d0 : decide ((40 : Int) < (xs0.length : Int)) = false := decide_eq_false (by omega)
    have d1 : decide ((8 : Int) < (xs1.length : Int)) = false := decide_eq_false (by omega)
    have d2 : decide ((8 : Int) < (ds1.length : Int)) = true := decide_eq_true (by omega)
    go_enter Try.func7, Try.ntmps7
    go_wp2_with fail
    refine (known4_any _).mono ?_
    rintro e VK ⟨rfl, hbk⟩
    go_wp2_with fail
    go_ret
    exact ⟨rfl, hBW.trans (hbk.mono (by omega))⟩
  have d0 : decide ((40 : Int) < (xs0.length : Int)) = false := decide_eq_false (by omega)
  have d1 : decide ((8 : Int) < (xs1.length : Int)) = false := decide_eq_false (by omega)
  have d2 : decide ((8 : Int) < (ds1.length : Int)) = false := decide_eq_false (by omega)
  obtain ⟨X1, hX1⟩ : ∃ X, ratOf neg1 (val xs1) (val ds1) = X := ⟨_, rfl⟩
  have Q1 : ArgQ w (.agg #[.bool neg1, .slice a1 xs1.length ca1, .slice b1 ds1.length cb1]) X1 8 := ⟨neg1, xs1, ds1, a1, b1, ca1, cb1, rfl, A1, B1, hX1, by omega, by omega⟩
  have A0W := A0.later hBW
  have Q1W := Q1.later hBW
  obtain ⟨x, hx⟩ : ∃ x, (val xs0).toNat = x := ⟨_, rfl⟩
  have hn0 := val_nonneg A0.wf
  have hxv : val xs0 = (x : Int) := by omega
  obtain ⟨c1, hc1⟩ : ∃ c, codeN (dec x) = c := ⟨_, rfl⟩
  have HC1 := Lib.hid hc1
  have HX := Lib.hid hx
  obtain ⟨nb, hnb⟩ := IsBits.exists x
  have hnbl : nb ≤ 1024 ↔ x < lim1024 := isBits_p2 (m := 1024) hnb
  have hnb4 : nb ≤ 1280 := by
    refine (isBits_p2 (m := 1280) hnb).2 ?_
    have h1 := val_lt_nat A0.wf g0
    rw [hx] at h1
    exact Nat.lt_of_lt_of_le h1 (by decide +kernel)
  have HNB := Lib.hid (show IsBits (val xs0) nb by rw [hxv]; exact hnb)
  have HNL := Lib.hid hnbl
  obtain ⟨hsm1, hsm2⟩ := rat_small (neg := neg1) A1.wf B1.wf (by omega) (by omega)
  rw [hX1] at hsm1 hsm2
  have HR := Lib.hid (codeR_ratS hsm1 hsm2)
  clear hxv hx hc1 hnb hnbl hsm1 hsm2 hX1 Q1 B1 A1
  go_enter Try.func7, Try.ntmps7
  go_wp2_with fail
  refine (nat4_any A0W (by omega)).mono ?_
  rintro e V1 ⟨s1, rfl, hs1, hm1, hb1⟩
  rw [HX.out] at hs1
  have hz1 := hb1.size
  have hp1 := fun w => parse4_any hs1 w (by omega)
  rw [HC1.out] at hp1
  clear hs1
  go_wp2_with fail
  refine (hp1 _).mono ?_
  rintro e V2 ⟨r2, rfl, pq2, hb2⟩
  have hz2 := hb2.size
  obtain ⟨zs2, q2, lz2⟩ := pq2
  rw [dec_num] at q2
  have HQ2 := Lib.hid q2
  have A02 := (A0W.later hb1).later hb2
  obtain ⟨ad2, cp2, rfl, _, _⟩ := q2.slice
  clear hp1 q2
  go_wp2_with fail
  refine (of_any A02 (by omega)).mono ?_
  rintro e V3 ⟨r3, rfl, zs3, q3, l3, hb3⟩
  have hz3 := hb3.size
  obtain ⟨ad3, cp3, D3⟩ := q3.arg
  have hbits := bitsD_any (n := nb) D3 (by omega) (by rw [q3.eq]; exact HNB.out) (by omega)
  clear q3 D3
  go_upto_if 40 with ((refine hbits.mono ?_); (rintro e V4 ⟨rfl, hb4⟩))
  have hz4 := hb4.size
  have A04 := (A02.later hb3).later hb4
  have HQ4 := Lib.hid ((HQ2.out.later hb3).later hb4)
  have hB4 : Below W.heap.size W V4 := hb1.trans (((hb2.trans (hb3.mono hz2)).trans (hb4.mono (by omega))).mono hz1)
  clear hbits hb1 hb2 hb3 hb4 A02 HQ2 hW
  go_cut [] (fun wx => Below V4.heap.size V4 wx)
  case first =>
    by_cases hlim : x < lim1024
    · have hc : c1 = 0 := by rw [← HC1.out, codeN_dec, if_pos hlim]
      subst hc
      have h00 : ((0 : Int) != 0) = false := by decide
      have hd : (nb : Int) ≤ 1024 := by have := HNL.out.2 hlim; omega
      have hq := HQ4.out
      rw [if_pos HC1.out] at hq
      clear hlim
      go_wp2_with fail
      refine (of_any A04 (by omega)).mono ?_
      rintro e V5 ⟨r5, rfl, zs5, q5, l5, hb5⟩
      have hxq : val xs0 = (x : Int) := by have := HX.out; omega
      rw [hxq] at q5
      have his := isN_true q5 (hq.later hb5) (by omega) (by omega)
      have hz5 := hb5.size
      clear q5 hq hxq
      go_wp2_with fail
      refine his.mono ?_
      rintro e V6 ⟨rfl, hb6⟩
      clear his
      go_wp2_with fail
      go_meet
      exact hb5.trans (hb6.mono hz5)
    · have hc : c1 = 14 := by rw [← HC1.out, codeN_dec, if_neg hlim]
      subst hc
      have h14 : ((14 : Int) != 14) = false := by decide
      have hd : (1024 : Int) < (nb : Int) := by
        have : ¬ nb ≤ 1024 := fun h => hlim (HNL.out.1 h)
        omega
      have hq := HQ4.out
      rw [if_neg (by rw [HC1.out]; decide)] at hq
      have hzl : zs2 = [] := canon hq.wf Wf.nil hq.full rfl hq.eq
      have hl0 : zs2.length = 0 := by rw [hzl]; rfl
      clear hlim hq hzl
      go_wp2_with fail
      go_meet
      exact Below.refl _ _
  case rest =>
    have hz5 := hcut.size
    have hB5 : Below W.heap.size W wc := hB4.trans (hcut.mono (by omega))
    have Q15 := Q1W.later hB5
    have R05 := R0.later hB5
    have hBW5 : Below w.heap.size w wc := hBW.trans (hB5.mono (by omega))
    obtain ⟨hcr, hvr⟩ := HR.out
    have HCR := Lib.hid hcr
    have HVR := Lib.hid hvr
    clear hcut HQ4 A04 hB4 p0 p1 p2 hcr hvr
    obtain ⟨p0, p1, p2, _, _, _⟩ := R05.three
    go_wp2_with fail
    refine (rat4_any Q15 (by omega)).mono ?_
    rintro e V8 ⟨s8, rfl, hs8, hm8, hb8⟩
    have hz8 := hb8.size
    have hpr := fun w => parseQ_any hs8 w (by omega)
    rw [HCR.out] at hpr
    clear hs8 p0 p1 p2
    go_wp2_with fail
    refine (hpr _).mono ?_
    rintro e V9 ⟨r9, rfl, q9, hb9⟩
    have hz9 := hb9.size
    unfold ParsedQ at q9
    rw [if_pos HCR.out, HVR.out] at q9
    obtain ⟨m9, fs9, gs9, f9, g9, j9, k9, rfl⟩ := q9.arg.box
    clear hpr
    obtain ⟨U9, hU9⟩ : ∃ U, V9.alloc (.cells #[.bool m9, .slice f9 fs9.length j9, .slice g9 gs9.length k9] 40) = U := ⟨_, rfl⟩
    have hbU9 : Below V9.heap.size V9 U9 := by rw [← hU9]; exact (Below.refl _ _).alloc (Nat.le_refl _) _
    have R9 : Row U9 V9.heap.size 40 #[.bool m9, .slice f9 fs9.length j9, .slice g9 gs9.length k9] := by rw [← hU9]; exact Row.new _ _ _
    have hzU9 := hbU9.size
    have q9u := q9.later hbU9
    have R09 := ((R05.later hb8).later hb9).later hbU9
    have Q9 := ((Q15.later hb8).later hb9).later hbU9
    have hB9 : Below w.heap.size w U9 := hBW5.trans (((hb8.trans (hb9.mono hz8)).trans (hbU9.mono (by omega))).mono (by omega))
    have h00 : ((0 : Int) != 0) = false := by decide
    clear q9 R05 Q15 hb8 hb9
    go_wp2_with fail
    (try rw [hU9])
    clear hU9
    have lt_R09 := R09.lt
    have lt_R9 := R9.lt
    have mkS : ∀ X, Kept (U9.heap.size) U9 X → X.cell? ⟨w.heap.size, 0, none⟩ = some (.bool neg1) ∧ X.cell? ⟨w.heap.size, 1, none⟩ = some (.slice a1 xs1.length ca1) ∧ X.cell? ⟨w.heap.size, 2, none⟩ = some (.slice b1 ds1.length cb1) ∧ X.cell? ⟨V9.heap.size, 0, none⟩ = some (.bool m9) ∧ X.cell? ⟨V9.heap.size, 1, none⟩ = some (.slice f9 fs9.length j9) ∧ X.cell? ⟨V9.heap.size, 2, none⟩ = some (.slice g9 gs9.length k9) ∧ Kept (U9.heap.size) U9 X := fun X h => ⟨(R09.kept h (by omega)).cell 0, (R09.kept h (by omega)).cell 1, (R09.kept h (by omega)).cell 2, (R9.kept h (by omega)).cell 0, (R9.kept h (by omega)).cell 1, (R9.kept h (by omega)).cell 2, h⟩
    go_region_held3 (fun X => X.cell? ⟨w.heap.size, 0, none⟩ = some (.bool neg1) ∧ X.cell? ⟨w.heap.size, 1, none⟩ = some (.slice a1 xs1.length ca1) ∧ X.cell? ⟨w.heap.size, 2, none⟩ = some (.slice b1 ds1.length cb1) ∧ X.cell? ⟨V9.heap.size, 0, none⟩ = some (.bool m9) ∧ X.cell? ⟨V9.heap.size, 1, none⟩ = some (.slice f9 fs9.length j9) ∧ X.cell? ⟨V9.heap.size, 2, none⟩ = some (.slice g9 gs9.length k9) ∧ Kept (U9.heap.size) U9 X)
      (((refine mkS _ ?_; (repeat' (first | exact Kept.refl _ _ | refine Kept.drew ?_ | refine Kept.alloc ?_ _ | refine Kept.set ?_ _ _ | refine Kept.below ?_ (by assumption))))))
      ((first
        | (go_at_call 26; have hprev := hby1; clear hprev; (with_reducible refine (isR_true qy1 (q9u.later (show Below U9.heap.size U9 _ by (repeat' (first | exact Below.refl _ _ | refine Below.drew ?_ | refine Below.alloc ?_ (by (try simp) <;> omega) _ | refine below_set3 ?_ (by (try simp) <;> omega) _ _ _ | refine below_set2 ?_ (by (try simp) <;> omega) _ _ | refine Below.setCell ?_ (by (try simp) <;> omega) _ | refine Below.trans ?_ (Below.mono (by assumption) (by (try simp) <;> omega)))))) (by omega) (by omega)).mono ?_); rintro e y2 ⟨rfl, hby2⟩; have hsy2 := hby2.size; (try simp at hsy2); skip)
        | (go_at_call 22; (with_reducible refine (ofR_any (Q9.later (show Below U9.heap.size U9 _ by (repeat' (first | exact Below.refl _ _ | refine Below.drew ?_ | refine Below.alloc ?_ (by (try simp) <;> omega) _ | refine below_set3 ?_ (by (try simp) <;> omega) _ _ _ | refine below_set2 ?_ (by (try simp) <;> omega) _ _ | refine Below.setCell ?_ (by (try simp) <;> omega) _ | refine Below.trans ?_ (Below.mono (by assumption) (by (try simp) <;> omega)))))) (by omega)).mono ?_); rintro e y1 ⟨r1, rfl, qy1, hby1⟩; have hsy1 := hby1.size; (try simp at hsy1); skip)))
    have hBx : Below w.heap.size w y2 := hB9.trans ((show Below U9.heap.size U9 y2 by (repeat' (first | exact Below.refl _ _ | refine Below.drew ?_ | refine Below.alloc ?_ (by (try simp) <;> omega) _ | refine below_set3 ?_ (by (try simp) <;> omega) _ _ _ | refine below_set2 ?_ (by (try simp) <;> omega) _ _ | refine Below.setCell ?_ (by (try simp) <;> omega) _ | refine Below.trans ?_ (Below.mono (by assumption) (by (try simp) <;> omega))))).mono (by omega))
    have hzx := hBx.size
    have hp3 := fun w => parse4_any hs2 w hm2
    have hp4 := fun w => parseQ_any hs2 w hm2
    obtain ⟨c3, hc3⟩ : ∃ c, codeN l2 = c := ⟨_, rfl⟩
    obtain ⟨c4, hc4⟩ : ∃ c, codeR l2 = c := ⟨_, rfl⟩
    rw [hc3] at hp3
    rw [hc4] at hp4
    have HC3 := Lib.hid hc3
    have HC4 := Lib.hid hc4
    have HS2 := Lib.hid hs2
    clear hc3 hc4 qy1 hby1 hby2 q9u R09 R9 Q9 hB9 hs2
    go_wp2_with fail
    refine (hp3 _).mono ?_
    rintro e V12 ⟨r12, rfl, pq12, hb12⟩
    have hz12 := hb12.size
    have hB12 := hBx.trans (hb12.mono (by omega))
    obtain ⟨zs12, q12, l12⟩ := pq12
    have HQ12 := Lib.hid q12
    clear hp3 q12 hb12
    obtain ⟨ad12, cp12, rfl, _, _⟩ := HQ12.out.slice
    go_upto_region 13 with fail
    go_cut [84] (fun s84 wx => s84 = .bool false ∧ Below V12.heap.size V12 wx)
    case first =>
      by_cases h3 : c3 = 0
      · subst h3
        have hq12 := HQ12.out
        rw [if_pos HC3.out] at hq12
        obtain ⟨hlen, T12⟩ := hq12.at_
        have hval : (val zs12).toNat = numL l2 := by rw [hq12.eq]; simp
        have HV := Lib.hid hval
        clear hq12 hval hlen
        go_wp2_with fail
        refine (nat4_any T12 (by omega)).mono ?_
        rintro e V13 ⟨s13, rfl, hs13, hm13, hb13⟩
        have hq : (s13.toList == s2.toList) = true := by rw [ByteArray.toList_eq, ByteArray.toList_eq, hs13, HS2.out, HV.out, codeN_zero HC3.out]; simp
        clear hs13 T12
        go_wp2_with fail
        go_meet
        exact ⟨rfl, hb13⟩
      · have h3b : (c3 == 0) = false := by simpa using h3
        clear h3
        go_wp2_with fail
        go_meet
        exact ⟨rfl, Below.refl _ _⟩
    case rest =>
      obtain ⟨rfl, hb13⟩ := hcut
      have hz13 := hb13.size
      have hB13 := hB12.trans (hb13.mono (by omega))
      clear hb13 HQ12 hB12 hBx
      by_cases g5 : s2.size ≤ 120
      · have d5 : decide ((120 : Int) < (s2.size : Int)) = false := decide_eq_false (by omega)
        go_wp2_with fail
        refine (hp4 _).mono ?_
        rintro e V17 ⟨r17, rfl, q17, hb17⟩
        have hz17 := hb17.size
        have hB17 := hB13.trans (hb17.mono (by omega))
        clear hp4 hb17
        by_cases h4 : c4 = 0
        · subst h4
          unfold ParsedQ at q17
          rw [if_pos HC4.out] at q17
          obtain ⟨m6, fs6, gs6, f6, g6, j6, k6, rfl⟩ := q17.arg.box
          obtain ⟨U17, hU17⟩ : ∃ U, V17.alloc (.cells #[.bool m6, .slice f6 fs6.length j6, .slice g6 gs6.length k6] 40) = U := ⟨_, rfl⟩
          have hbU17 : Below V17.heap.size V17 U17 := by rw [← hU17]; exact (Below.refl _ _).alloc (Nat.le_refl _) _
          have R17 : Row U17 V17.heap.size 40 #[.bool m6, .slice f6 fs6.length j6, .slice g6 gs6.length k6] := by rw [← hU17]; exact Row.new _ _ _
          have hzU17 := hbU17.size
          have q17u := q17.arg.later hbU17
          have hBU := hB17.trans (hbU17.mono (by omega))
          clear q17
          obtain ⟨p0, p1, p2, _, _, _⟩ := R17.three
          go_wp2_with fail
          (try rw [hU17])
          refine (rat4_any q17u (by omega)).mono ?_
          rintro e V19 ⟨s19, rfl, hs19, hm19, hb19⟩
          have hq : (s19.toList == s2.toList) = true := by rw [ByteArray.toList_eq, ByteArray.toList_eq, hs19, HS2.out, codeR_zero HC4.out]; simp
          have hz19 := hb19.size
          have hB19 := hBU.trans (hb19.mono (by omega))
          clear hs19 p0 p1 p2 hb19
          go_wp2_with fail
          refine (known4_any _).mono ?_
          rintro e VK ⟨rfl, hbk⟩
          go_wp2_with fail
          go_ret
          exact ⟨rfl, hB19.trans (hbk.mono (by omega))⟩
        · unfold ParsedQ at q17
          rw [if_neg (by rw [HC4.out]; exact h4)] at q17
          subst q17
          have h4b : (c4 != 0) = true := by simpa using h4
          clear h4
          go_wp2_with fail
          refine (known4_any _).mono ?_
          rintro e VK ⟨rfl, hbk⟩
          go_wp2_with fail
          go_ret
          exact ⟨rfl, (hB17.alloc (by omega) _).trans (hbk.mono (by simp; omega))⟩
      · have d5 : decide ((120 : Int) < (s2.size : Int)) = true := decide_eq_true (by omega)
        go_wp2_with fail
        refine (known4_any _).mono ?_
        rintro e VK ⟨rfl, hbk⟩
        go_wp2_with fail
        go_ret
        exact ⟨rfl, hB13.trans (hbk.mono (by omega))⟩

namespace digitsBack
theorem contract (H : Type) (enc : TypeId × Value → H) (W : World) (base : Nat) (args : Array Value) (ds gs : List (DataW H)) (before : List MemPlace)
    (hval : ∀ (j : Nat) t v, Try.f7.params[j]? = some t → args[j]? = some v → Value.okWide Try.prog W .any base t v)
    (hW : DataW.Whole enc Try.prog Try.f7.params.toList Rows.digitsBackSpec.vars false W args.toList ds gs before) :
    Calls Try.prog 7 args W fun e W' => ∃ v, e = .returned v ∧ Rows.digitsBackSpec.post enc Try.prog Try.f7 false true false false W args v W' := by
  have hW' := hW
  have hlt := fun p hp => hW'.lt p hp
  obtain ⟨p, q, hA0, hV, rfl, hfz, hnd⟩ := hW
  have hA : DataW.TrodAll enc Try.prog W 0 (fun _ => true) true Try.f7.params.toList args.toList ds p := hA0
  rw [Try.params7] at hA hval
  obtain ⟨v0, vs0, d0, ds0, p0, q0, ha0, rfl, rfl, h0, r0⟩ := trodAll_cons hA
  obtain ⟨v1, vs1, d1, ds1, p1, q1, ha1, rfl, rfl, h1, r1⟩ := trodAll_cons r0
  obtain ⟨v2, vs2, d2, ds2, p2, q2, ha2, rfl, rfl, h2, r2⟩ := trodAll_cons r1
  obtain ⟨rfl, rfl, rfl⟩ := trodAll_nil r2
  subst ha1
  subst ha2
  obtain rfl : args = #[v0, v1, v2] := by cases args; simp_all
  obtain ⟨rfl, rfl⟩ := trodVars_none hV
  clear hA hA0 hV
  obtain ⟨s2, rfl, rfl, rfl, w2⟩ := Go.ChangeMaps.open_string Try.underlying9 (hval 2 9 v2 rfl rfl) h2
  simp only [List.append_nil] at hW' hlt
  obtain ⟨a0, xs0, ca0, A0, n0⟩ := open_nat3 (okWide_slice Try.underlying23 (hval 0 23 v0 rfl rfl)) h0
  have e0 := A0.is
  subst e0
  obtain ⟨neg1, xs1, ys1, a1, b1, ca1, cb1, rfl, A1, B1⟩ := open_rat3 (hval 1 40 v1 rfl rfl) h1
  refine (digitsBack_walk xs0 a0 ca0 neg1 xs1 ys1 a1 b1 ca1 cb1 s2 s2.data.toList W A0 A1 B1 rfl (by unfold maxLen at w2; exact w2)).mono fun e W' ⟨he, hb⟩ => ?_
  subst he
  have t0 := Below.trod laid (by kernel_rfl) (of_decide_eq_true (by kernel_rfl)) h0 hb (fun x hx => hlt x (by simp [hx]))
  have t1 := Below.trod laid (by kernel_rfl) (of_decide_eq_true (by kernel_rfl)) h1 hb (fun x hx => hlt x (by simp [hx]))
  exact ⟨_, rfl, [d0, d1, .lit (.string s2.data.toList)], [], (p0 ++ p1), [], (p0 ++ (p1 ++ ([] ++ []))), [], hW', trodAll_cons_mk (shut_bool Try.underlying4 _) trodAll_mk0,
    (trodAll_cons_mk t0 (trodAll_cons_mk t1 (trodAll_cons_mk (Go.ChangeMaps.shut_string Try.underlying9 w2) trodAll_mk0))), rfl, hb.frame _, fun h => by cases h⟩

set_option maxRecDepth 100000 in
theorem lifted (os : Os) (started : os.Started) (H : Type) (enc : TypeId × Value → H) :
    ReturnsInHanded {} Try.checked os 7 .any (Rows.digitsBackSpec.pre6 enc Try.prog Try.f7 Rows.digitsBackRow.domain false) (Rows.digitsBackSpec.post enc Try.prog Try.f7 false true false false) := by
  refine returnsInHanded_of_change (C := Try.checked) own started (by kernel_rfl) Try.func7
    (ChangeSpec.witness6 (enc := enc) (C := Try.checked) false ⟨#[], #[.slice none 0 0, .agg #[.bool false, .slice none 0 0, .slice none 0 0], .string (ByteArray.mk #[])], []⟩ 8 (by kernel_rfl) (by kernel_rfl) (by kernel_rfl) (by kernel_rfl)) ?_
  intro W base args ds gs before hval hW _ _
  exact contract H enc W base args ds gs before hval hW

theorem proved : Rows.DigitsBackSaid :=
  OpenClaim.holds_of_wide 7 Try.f7 rfl rfl rfl rfl rfl rfl rfl ⟨rfl, rfl, rfl, rfl, rfl⟩ rfl rfl rfl rfl rfl (by kernel_rfl) Try.func7 (by kernel_rfl)
    (of_decide_eq_true (by kernel_rfl)) (by unfold Func.isWrapper; first | (rw [if_pos (by decide +kernel)]; kernel_rfl) | (rw [if_neg (by decide +kernel)]; exact ⟨rfl, rfl⟩))
    (fun os started H enc _ => lifted os started H enc)
end digitsBack
end Go.Proofs.Ytokinmmnoiacdaa
