/-
  The reference of layer 4: ParseRat.
-/
import Derived.Test.YtokinmmnoiacdaaDRefD
import Derived.Deep.DeepCutAuto
namespace Go.Proofs.Ytokinmmnoiacdaa
open Go.RowKit
set_option linter.unusedVariables false
set_option linter.unusedSimpArgs false

/-- what is read of a text: a rational number, or nothing -/
def ParsedR (w : World) (r : Value) (l : List UInt8) : Prop := if codeR l = 0 then ArgR w r (valR l) 1301 else r = .agg #[.bool false, .slice none 0 0, .slice none 0 0]
theorem ParsedD.ok {base : Nat} {w : World} {r : Value} {l : List UInt8} (h : ParsedD base w r l) (hc : codeN l = 0) : ∃ zs, ResD base w r zs (numL l : Int) ∧ zs.length ≤ 1300 := by
  unfold ParsedD at h; rwa [if_pos hc] at h

set_option maxRecDepth 100000 in
set_option maxHeartbeats 8000000 in
theorem parseRD_any {s : ByteArray} {l : List UInt8} (hs : s.data.toList = l) (w : World) (hm : s.size ≤ 9223372036854775807) :
    Calls Try.prog 24 #[.string s] w fun e w' => ∃ r, e = .returned (.tuple #[r, .int .i64 (codeR l)]) ∧ ParsedR w' r l ∧ Below w.heap.size w w' := by
  have hz := size_of hs
  obtain ⟨L, hL⟩ : ∃ L, s.size = L := ⟨_, rfl⟩
  have hLm : L ≤ 9223372036854775807 := by omega
  have hll : l.length = L := by omega
  have HS := Lib.hid hs
  have HL := Lib.hid hll
  have hsL : s.size ≤ L := by omega
  have hLs : L ≤ s.size := by omega
  obtain ⟨cd, hcd⟩ : ∃ cd, codeR l = cd := ⟨_, rfl⟩
  have HCD := Lib.hid hcd
  rw [hcd]
  clear hz hs hll hm hcd
  obtain ⟨W, hW⟩ : ∃ W, (w.alloc (.cells #[.bool false, .slice none 0 0, .slice none 0 0] 44)) = W := ⟨_, rfl⟩
  have R0 : Row W (w.heap.size) 44 #[.bool false, .slice none 0 0, .slice none 0 0] := by rw [← hW]; exact (Row.new _ _ _)
  have hBW : Below w.heap.size w W := by rw [← hW]; exact ((Below.refl _ _).alloc (by (try simp) <;> omega) _)
  have hsW : w.heap.size + 1 ≤ W.heap.size := by rw [← hW]; simp
  go_enter Try.func24, Try.ntmps24
  go_upto_region 1 with fail
  clear hW
  go_cut [4] (fun s4 wx => s4 = .bool (sgnL l) ∧ Below W.heap.size W wx)
  case first =>
    rcases hl : l with _ | ⟨c, r⟩
    · have hk := HL.out
      rw [hl] at hk
      obtain rfl : L = 0 := by simpa using hk.symm
      have HG := Lib.hid (show sgnL l = false by rw [hl]; rfl)
      clear hk hl
      go_wp2_with fail
      go_meet
      exact ⟨by rw [HG.out], Below.refl _ _⟩
    · have hk := HL.out
      rw [hl, List.length_cons] at hk
      have hposI : (0 : Int) < (L : Int) := by omega
      have h0s : 0 < s.size := by omega
      have hby := byte_of HS.out h0s (c := c) (by rw [hl]; rfl)
      have HG := Lib.hid (show sgnL l = (c == 45) by rw [hl, sgnL_cons])
      clear hk hl
      by_cases hc : c = 45
      · subst hc
        go_wp2_with fail
        go_meet
        exact ⟨by rw [HG.out]; rfl, Below.refl _ _⟩
      · have hnn : ((c.toNat : Int) == 45) = false := by
          simp only [beq_eq_false_iff_ne, ne_eq]
          intro e
          exact hc (UInt8.toNat_inj.1 (by have : c.toNat = 45 := by omega
                                          rw [this]; rfl))
        have hcb : (c == 45) = false := by simpa using hc
        have HCB := Lib.hid hcb
        clear hc hcb
        go_wp2_with fail
        go_meet
        exact ⟨by rw [HG.out, HCB.out], Below.refl _ _⟩
  case rest =>
    obtain ⟨rfl, hb1⟩ := hcut
    go_upto_if 23 with fail
    obtain ⟨U, hU⟩ : ∃ U, wc = U := ⟨_, rfl⟩
    subst hU
    go_cut [4, 5] (fun s4 s5 wx => ∃ t : ByteArray, s4 = .bool (sgnL l) ∧ s5 = .string t ∧ t.data.toList = bare l ∧ Below wc.heap.size wc wx)
    case first =>
      rcases hb : sgnL l with _ | _
      · have hbl := bare_neg hb
        have HBL := Lib.hid hbl
        have HG := Lib.hid hb
        clear hb hbl
        go_wp2_with fail
        go_meet
        exact ⟨s, by rw [HG.out], rfl, by rw [HBL.out]; exact HS.out, Below.refl _ _⟩
      · have hbl := bare_pos hb
        have hne : l ≠ [] := by rintro rfl; cases hb
        have hpos : 0 < L := by rw [← HL.out]; exact List.length_pos_iff.2 hne
        have h1 : (1 : Int) ≤ (s.size : Int) := by omega
        have HBL := Lib.hid hbl
        have HG := Lib.hid hb
        clear hb hbl hne
        go_wp2_with fail
        go_meet
        exact ⟨_, by rw [HG.out], rfl, by rw [HBL.out, ← hL]; exact bytes_from HS.out 1, Below.refl _ _⟩
    case rest =>
      obtain ⟨t, rfl, rfl, ht, hb2⟩ := hcut
      have htl := size_of ht
      have htm : t.size ≤ 9223372036854775807 := by have := bare_length l; have := HL.out; omega
      have hcut4 := fun w => cut4_any ht w htm
      have hs1 := hb1.size
      go_wp2_with fail
      refine (hcut4 _).mono ?_
      rintro e U2 ⟨ta, tb0, rfl, hta, htb0, hb3⟩
      have hs2 := hb2.size
      have hs3 := hb3.size
      have hB3 : Below W.heap.size W U2 := hb1.trans ((hb2.trans (hb3.mono hs2)).mono hs1)
      have htam := size_of hta
      have htbm := size_of htb0
      have hta4 : ta.size ≤ 9223372036854775807 := by have := ahead_length (bare l); omega
      have htb4 : tb0.size ≤ 9223372036854775807 := by have := behind_length (bare l); omega
      have HTA := Lib.hid (show ta.data.toList = partA l from hta)
      have HTB := Lib.hid htb0
      clear hcut4 ht htl hta htb0 htam htbm hb1 hb2 hb3
      go_upto_if 33 with fail
      go_cut [7, 8] (fun s7 s8 wx => ∃ tb : ByteArray, s7 = .string tb ∧ s8 = .bool (hasStroke (bare l)) ∧ tb.data.toList = partB l ∧ tb.size ≤ 9223372036854775807 ∧ Below U2.heap.size U2 wx)
      case first =>
        rcases hb : hasStroke (bare l) with _ | _
        · have HG := Lib.hid hb
          have HX := Lib.hid (show partB l = [49] by unfold partB; rw [hb]; rfl)
          clear hb
          go_wp2_with fail
          go_meet
          exact ⟨_, rfl, by rw [HG.out], by rw [HX.out], by decide, Below.refl _ _⟩
        · have HG := Lib.hid hb
          have HX := Lib.hid (show partB l = behind (bare l) by unfold partB; rw [hb]; rfl)
          clear hb
          go_wp2_with fail
          go_meet
          exact ⟨_, rfl, by rw [HG.out], by rw [HX.out]; exact HTB.out, htb4, Below.refl _ _⟩
      case rest =>
        obtain ⟨tb, rfl, rfl, htb, htb5, hb4⟩ := hcut
        have hB4 : Below W.heap.size W wc := hB3.trans (hb4.mono (by omega))
        have hs4 := hB4.size
        have R4 := R0.later hB4
        have hB5 : Below w.heap.size w wc := hBW.trans (hB4.mono (by omega))
        have hnA := natural_any HTA.out wc hta4
        have hnB := natural_any htb wc htb5
        have HTB5 := Lib.hid htb
        clear htb hb4 hB3 hB4 HTB
        obtain ⟨nA, hA⟩ : ∃ b, natB (partA l) = b := ⟨_, rfl⟩
        obtain ⟨nB, hB⟩ : ∃ b, natB (partB l) = b := ⟨_, rfl⟩
        rw [hA] at hnA
        rw [hB] at hnB
        have HA := Lib.hid hA
        have HB := Lib.hid hB
        clear hA hB
        cases nA
        case false =>
          have hc := (HCD.out).symm.trans (codeR_bad (.inl HA.out))
          subst hc
          have HPZ : Hid (∀ w', ParsedR w' (.agg #[.bool false, .slice none 0 0, .slice none 0 0]) l) := fun w' => by unfold ParsedR; rw [HCD.out]; rfl
          go_wp2_with fail
          refine hnA.mono ?_
          rintro e w' ⟨rfl, rfl⟩
          clear hnA hnB
          obtain ⟨u0, u1, u2, g0, g1, g2⟩ := R4.three
          go_wp2_with fail
          refine bodyPost_ret (v := .tuple #[.agg #[.bool false, .slice none 0 0, .slice none 0 0], .int .i64 19]) (by simp [results, Try.results24, go_sem, u0, u1, u2]) rfl ⟨_, rfl, HPZ.out _, ?_⟩
          first | exact below_set3 (hB5) (by omega) _ _ _ | exact hB5
        case true =>
          go_wp2_with fail
          refine hnA.mono ?_
          rintro e w' ⟨rfl, rfl⟩
          clear hnA
          go_wp2_with fail
          refine hnB.mono ?_
          rintro e w' ⟨rfl, rfl⟩
          clear hnB
          cases nB
          case false =>
            have hc := (HCD.out).symm.trans (codeR_bad (.inr HB.out))
            subst hc
            have HPZ : Hid (∀ w', ParsedR w' (.agg #[.bool false, .slice none 0 0, .slice none 0 0]) l) := fun w' => by unfold ParsedR; rw [HCD.out]; rfl
            obtain ⟨u0, u1, u2, g0, g1, g2⟩ := R4.three
            go_wp2_with fail
            refine bodyPost_ret (v := .tuple #[.agg #[.bool false, .slice none 0 0, .slice none 0 0], .int .i64 19]) (by simp [results, Try.results24, go_sem, u0, u1, u2]) rfl ⟨_, rfl, HPZ.out _, ?_⟩
            first | exact below_set3 (hB5) (by omega) _ _ _ | exact hB5
          case true =>
            obtain ⟨cA, hcA⟩ : ∃ c, codeN (partA l) = c := ⟨_, rfl⟩
            obtain ⟨cB, hcB⟩ : ∃ c, codeN (partB l) = c := ⟨_, rfl⟩
            have hpA := fun w => parseD_any HTA.out w hta4
            have hpB := fun w => parseD_any HTB5.out w htb5
            rw [hcA] at hpA
            rw [hcB] at hpB
            have HCA := Lib.hid hcA
            have HCB := Lib.hid hcB
            clear hcA hcB
            go_wp2_with fail
            refine (hpA _).mono ?_
            rintro e V1 ⟨rA, rfl, pA, hv1⟩
            have hz1 := hv1.size
            have PA := Lib.hid pA
            clear pA hpA
            go_wp2_with fail
            refine (hpB _).mono ?_
            rintro e V2 ⟨rB, rfl, pB, hv2⟩
            have hz2 := hv2.size
            have PB := Lib.hid pB
            clear pB hpB
            have hB6 : Below w.heap.size w V2 := hB5.trans ((hv1.trans (hv2.mono hz1)).mono hB5.size)
            have R5 := (R4.later hv1).later hv2
            have hz3 := hB6.size
            by_cases h0 : cA = 0 ∧ cB = 0
            · obtain ⟨rfl, rfl⟩ := h0
              obtain ⟨zA, qA, lA⟩ := PA.out.ok HCA.out
              obtain ⟨zB, qB, lB⟩ := PB.out.ok HCB.out
              obtain ⟨a1, c1, AA⟩ := (qA.later hv2).arg
              obtain ⟨a2, c2, BB⟩ := qB.arg
              obtain rfl := AA.is
              obtain rfl := BB.is
              have HV := Lib.hid (show ratOf (sgnL l) (valD zA) (valD zB) = valR l by rw [qA.eq, qB.eq]; rfl)
              have h00 : ((0 : Int) != 0) = false := by decide
              clear qA qB hv1 hv2 PA PB
              go_wp2_with fail
              refine (makeR_any (n := 1300) (m1 := sgnL l) AA BB (by omega) (by omega) (by omega)).mono ?_
              rintro e V3 ⟨r3, rfl, q3, hv3⟩
              rw [HV.out] at q3
              have hz4 := hv3.size
              clear AA BB
              obtain ⟨m3, fs, gs, f1, g1, j1, k1, rfl⟩ := q3.box
              obtain ⟨U4, hU4⟩ : ∃ U, V3.alloc (.cells #[.bool m3, .slice f1 fs.length j1, .slice g1 gs.length k1] 44) = U := ⟨_, rfl⟩
              have hbU4 : Below V3.heap.size V3 U4 := by rw [← hU4]; exact (Below.refl _ _).alloc (Nat.le_refl _) _
              have RR : Row U4 V3.heap.size 44 #[.bool m3, .slice f1 fs.length j1, .slice g1 gs.length k1] := by rw [← hU4]; exact Row.new _ _ _
              have hz5 := hbU4.size
              have q4 := q3.later hbU4
              have R6 := (R5.later hv3).later hbU4
              have hB7 : Below w.heap.size w U4 := hB6.trans ((hv3.trans (hbU4.mono hz4)).mono hz3)
              obtain ⟨t0, t1, t2, _, _, _⟩ := RR.three
              clear q3
              go_wp2_with fail
              refine (ratD_any q4 (by omega)).mono ?_
              rintro e V5 ⟨s5, rfl, hs5, hv5⟩
              have hz6 := hv5.size
              have q5 := q4.later hv5
              have R7 := R6.later hv5
              have RR2 := RR.later hv5
              have hB8 : Below w.heap.size w V5 := hB7.trans (hv5.mono hB7.size)
              have hz7 := hB8.size
              have hsne : w.heap.size < V3.heap.size := by omega
              clear t0 t1 t2 hU4 q4 RR R6
              by_cases hq : ratS (valR l) = l
              · have hc := (HCD.out).symm.trans (codeR_ok HA.out HB.out HCA.out HCB.out hq)
                subst hc
                have hcmp : (s5.toList == s.toList) = true := by rw [ByteArray.toList_eq, ByteArray.toList_eq, hs5, HS.out, hq]; simp
                have HPR : Hid (∀ (w' : World) (r : Value), ArgR w' r (valR l) 1301 → ParsedR w' r l) := fun w' r h => by unfold ParsedR; rw [if_pos HCD.out]; exact h
                clear hq hs5
                obtain ⟨t0, t1, t2, _, _, _⟩ := RR2.three
                obtain ⟨u0, u1, u2, g0, g1', g2⟩ := R7.three
                go_wp2_with fail
                refine bodyPost_ret (v := .tuple #[.agg #[.bool m3, .slice f1 fs.length j1, .slice g1 gs.length k1], .int .i64 0]) (by simp [results, Try.results24, go_sem, u0, u1, u2]) rfl ⟨_, rfl, HPR.out _ _ (q5.far R7 (noInts3 _ _ _ _ _ _ _) (kept3 _ _ _)), below_set3 hB8 (by omega) _ _ _⟩
              · have hc := (HCD.out).symm.trans (codeR_other HA.out HB.out HCA.out HCB.out hq)
                subst hc
                have hcmp : (s5.toList == s.toList) = false := by
                  rw [ByteArray.toList_eq, ByteArray.toList_eq, hs5, HS.out]
                  simpa using hq
                have HPZ : Hid (∀ w', ParsedR w' (.agg #[.bool false, .slice none 0 0, .slice none 0 0]) l) := fun w' => by unfold ParsedR; rw [HCD.out]; rfl
                clear hq hs5
                obtain ⟨u0, u1, u2, g0, g1, g2⟩ := R7.three
                go_wp2_with fail
                refine bodyPost_ret (v := .tuple #[.agg #[.bool false, .slice none 0 0, .slice none 0 0], .int .i64 6]) (by simp [results, Try.results24, go_sem, u0, u1, u2]) rfl ⟨_, rfl, HPZ.out _, ?_⟩
                first | exact below_set3 (hB8) (by omega) _ _ _ | exact hB8
            · have hc := (HCD.out).symm.trans (codeR_long HA.out HB.out (by rw [HCA.out, HCB.out]; omega))
              subst hc
              have HPZ : Hid (∀ w', ParsedR w' (.agg #[.bool false, .slice none 0 0, .slice none 0 0]) l) := fun w' => by unfold ParsedR; rw [HCD.out]; rfl
              by_cases h1 : cA = 0
              · have h2 : ¬ cB = 0 := fun h => h0 ⟨h1, h⟩
                subst h1
                have h2b : (cB != 0) = true := by simpa using h2
                have h2c : ((0 : Int) != 0) = false := by decide
                clear h0 h2 hv1 hv2
                obtain ⟨u0, u1, u2, g0, g1, g2⟩ := R5.three
                go_wp2_with fail
                refine bodyPost_ret (v := .tuple #[.agg #[.bool false, .slice none 0 0, .slice none 0 0], .int .i64 14]) (by simp [results, Try.results24, go_sem, u0, u1, u2]) rfl ⟨_, rfl, HPZ.out _, ?_⟩
                first | exact below_set3 (hB6) (by omega) _ _ _ | exact hB6
              · have h1b : (cA != 0) = true := by simpa using h1
                clear h0 h1 hv1 hv2
                obtain ⟨u0, u1, u2, g0, g1, g2⟩ := R5.three
                go_wp2_with fail
                refine bodyPost_ret (v := .tuple #[.agg #[.bool false, .slice none 0 0, .slice none 0 0], .int .i64 14]) (by simp [results, Try.results24, go_sem, u0, u1, u2]) rfl ⟨_, rfl, HPZ.out _, ?_⟩
                first | exact below_set3 (hB6) (by omega) _ _ _ | exact hB6
end Go.Proofs.Ytokinmmnoiacdaa
