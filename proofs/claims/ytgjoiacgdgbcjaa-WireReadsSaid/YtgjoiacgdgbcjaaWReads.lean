/-
  WireReads. (Made by wip/gen/gen_wreads.py.)
-/
import Derived.Test.YtgjoiacgdgbcjaaWOpen
import Derived.Deep.DeepCutAuto
import Derived.Deep.CutBlock
namespace Go.Proofs.Ytgjoiacgdgbcjaa
open Go.RowKit
set_option linter.unusedVariables false
set_option linter.unusedSimpArgs false

theorem zag_zero : zag 0 = 0 := by decide

set_option maxRecDepth 100000 in
set_option maxHeartbeats 16000000 in
theorem wireReads_walk (xs0 : List Int) (a0 : Option Addr) (ca0 : Nat) (xs1 : List Int) (a1 : Option Addr) (ca1 : Nat) (xs2 : List Int) (a2 : Option Addr) (ca2 : Nat) (w : World)
    (A0 : ArgB w (.slice a0 xs0.length ca0) xs0 a0 ca0) (l0 : xs0.length ≤ 140737488355328) (n0 : a0 = none → ca0 = 0) (A1 : ArgI w (.slice a1 xs1.length ca1) xs1 a1 ca1) (l1 : xs1.length ≤ 140737488355328) (A2 : ArgI w (.slice a2 xs2.length ca2) xs2 a2 ca2) (l2 : xs2.length ≤ 140737488355328) :
    Calls Try.prog 5 #[.slice a0 xs0.length ca0, .slice a1 xs1.length ca1, .slice a2 xs2.length ca2] w fun e w' => e = .returned (.bool true) ∧ Below w.heap.size w w' := by
  have own0 := ownB_any A0 n0 l0
  obtain ⟨L, hL⟩ : ∃ L, xs0.length = L := ⟨_, rfl⟩
  obtain ⟨L1, hL1⟩ : ∃ L, xs1.length = L := ⟨_, rfl⟩
  obtain ⟨L2, hL2⟩ : ∃ L, xs2.length = L := ⟨_, rfl⟩
  rw [hL] at A0 l0 own0 ⊢
  rw [hL1] at A1 l1 ⊢
  rw [hL2] at A2 l2 ⊢
  have HL := Lib.hid hL
  have HL1 := Lib.hid hL1
  have HL2 := Lib.hid hL2
  clear hL hL1 hL2
  go_enter Try.func5, Try.ntmps5
  go_wp2_with fail
  refine own0.mono ?_
  rintro e w1 ⟨r1, rfl, q1, hb1⟩
  have hs1 := hb1.size
  obtain ⟨b1, c1, rfl, q1', B1, m1⟩ := q1.slice
  rw [HL.out] at B1 ⊢
  clear q1 own0
  go_wp2_with fail
  refine (newC_any B1 m1 (by have := HL.out; omega)).mono ?_
  rintro e w2 ⟨g, rfl, C2, hb2⟩
  obtain ⟨hg1, hg2, _, _⟩ := C2.facts
  have hB2 : Below w.heap.size w w2 := hb1.trans (hb2.mono hs1)
  have hgw : w.heap.size ≤ g := by omega
  obtain ⟨base, hbase⟩ : ∃ base, w1.heap.size = base := ⟨_, rfl⟩
  rw [hbase] at C2
  clear q1' B1 hbase hb2
  go_wp2_with fail
  go_loopw [8, 9] (fun pv iv wr => ∃ (p i : Nat), pv = .int .i64 (p : Int) ∧ iv = .int .i64 (i : Int) ∧ i ≤ L1 ∧ p ≤ L ∧ Cur base wr g xs0 p ∧ Below w.heap.size w wr) (fun _ iv _ => L1 - (intOf iv).toNat)
  case atStart => exact ⟨0, 0, rfl, rfl, Nat.zero_le _, Nat.zero_le _, C2, hB2⟩
  case round =>
    obtain ⟨p, i, rfl, rfl, hi, hpL, C, hB⟩ := hrel
    have hsz := hB.size
    by_cases h1 : i < L1
    · by_cases h2 : i < L2
      · obtain ⟨bb1, o1, rfl, hc1, hr1, hr1'⟩ := (A1.later hB).at (i := i) (by rw [HL1.out]; exact h1)
        obtain ⟨bb2, o2, rfl, hc2, hr2, hr2'⟩ := (A2.later hB).at (i := i) (by rw [HL2.out]; exact h2)
        obtain ⟨kd, hkd⟩ : ∃ k, xs1.getD i 0 = k := ⟨_, rfl⟩
        obtain ⟨mo, hmo⟩ : ∃ k, xs2.getD i 0 = k := ⟨_, rfl⟩
        rw [hkd] at hc1
        rw [hmo] at hc2 hr2 hr2'
        have hi1 : (i : Int) < (L1 : Int) := by omega
        have hi2 : (i : Int) < (L2 : Int) := by omega
        have hii : IntKind.i64.wrap ((i : Int) + 1) = (i : Int) + 1 := IntWalk.i64_in _ (by omega)
        have B0 := A0.later hB
        have hmoH := Lib.hid hmo
        clear hkd hmo hr1 hr1'
        go_upto_block 2 with fail
        go_cut [10, 11, 12, 13, 14, 15, 16, 17, 18, 19, 20, 21, 22, 23, 24, 25, 26, 27, 28, 29, 30, 31, 32] from 55 to 189 (fun s10 s11 s12 s13 _ _ _ _ _ _ _ _ _ _ _ _ _ _ _ _ _ _ _ wx => ∃ (q : Nat) (cc : Int), s10 = .int .i64 cc ∧ s11 = .int .i64 cc ∧ s12 = .int .i64 (q : Int) ∧ s13 = .bool true ∧ Cur base wx g xs0 q ∧ Below w.heap.size w wx)
        case rest =>
          obtain ⟨q, cc, rfl, rfl, rfl, rfl, CC, hBW⟩ := hcut
          have hsW := hBW.size
          have hqq : ((q : Int) != (q : Int)) = false := by simp
          have hcc : (cc != cc) = false := by simp
          have hqL : q ≤ L := by have := CC.facts.2.2.2; have := HL.out; omega
          have U := atC_any CC
          go_wp2_with fail
          refine U.mono ?_
          rintro e y1 ⟨rfl, hy1⟩
          have D1 := CC.later hy1
          have hBy1 : Below w.heap.size w y1 := hBW.trans (hy1.mono hsW)
          have hsy1 := hBy1.size
          have V := leftC_any D1
          have hlq : ((xs0.length : Int) - (q : Nat)) = (L : Int) - q := by rw [HL.out]
          rw [hlq] at V
          have hwl : IntKind.i64.wrap ((L : Int) - q) = (L : Int) - q := IntWalk.i64_in _ (by omega)
          clear U hlq
          go_wp2_with fail
          refine V.mono ?_
          rintro e y2 ⟨rfl, hy2⟩
          have D2 := D1.later hy2
          have hBy2 : Below w.heap.size w y2 := hBy1.trans (hy2.mono hsy1)
          clear V
          go_wp2_with fail
          go_roundw
          case rel => exact ⟨q, i + 1, rfl, by go_num, by omega, hqL, D2, hBy2⟩
          case measure => simp [intOf]; omega
        by_cases k1 : kd = 1
        · subst k1
          as_aux_lemma =>
            by_cases hp : p < L
            · have hpI : (p : Int) < (L : Int) := by omega
              obtain ⟨q, hq⟩ : ∃ q, p + 1 = q := ⟨_, rfl⟩
              have hpq : (p : Int) + 1 = (q : Int) := by omega
              have hw1 : IntKind.i64.wrap (q : Int) = (q : Int) := IntWalk.i64_in _ (by omega)
              have hqq : ((q : Int) != (q : Int)) = false := by simp
              have hne : xs0 ≠ [] := by rintro rfl; have := HL.out; simp at this; omega
              obtain ⟨bb0, o0, e0, hc0⟩ := A0.lim.resolve_left hne
              have hcp := hc0 p (by rw [HL.out]; exact hp)
              obtain ⟨z, hz⟩ : ∃ z, xs0.getD p 0 = z := ⟨_, rfl⟩
              rw [hz] at hcp
              subst e0
              have hzz : (z == z) = true := by simp
              have k := byteC_any C
              rw [HL.out, if_pos hp, if_pos hp, if_pos hp, hz, hq] at k
              clear hz hc0 hq B0
              go_wp2_with fail
              refine k.mono ?_
              rintro e W ⟨rfl, CC, kk⟩
              have hBW : Below w.heap.size w W := hB.trans (kk.below hsz hgw)
              have hcW := (hBW.cell (p := ⟨bb0, o0 + p, none⟩) (World.block_lt_of_cell? w _ hcp)).trans hcp
              clear k
              go_wp2_with fail
              go_meet
              exact ⟨q, _, rfl, rfl, by first | rfl | simp, by first | rfl | simp, CC, hBW⟩
            · have hpI : ¬ (p : Int) < (L : Int) := by omega
              obtain ⟨q, rfl⟩ : ∃ q, q = p := ⟨_, rfl⟩
              have hqq : ((q : Int) != (q : Int)) = false := by simp
              have h33 : ((3 : Int) != 3) = false := by decide
              have k := byteC_any C
              rw [HL.out, if_neg hp, if_neg hp, if_neg hp] at k
              clear B0
              go_wp2_with fail
              refine k.mono ?_
              rintro e W ⟨rfl, CC, kk⟩
              have hBW : Below w.heap.size w W := hB.trans (kk.below hsz hgw)
              clear k
              go_wp2_with fail
              go_meet
              exact ⟨q, _, rfl, rfl, by first | rfl | simp, by first | rfl | simp, CC, hBW⟩
        by_cases k2 : kd = 2
        · subst k2
          as_aux_lemma =>
            have k := uvarC_any C
            have gt := getB_any B0 (p := p) (by rw [HL.out]; exact hpL) (by rw [HL.out]; exact l0)
            obtain ⟨nv, hnv⟩ : ∃ x, numV (xs0.drop p) = x := ⟨_, rfl⟩
            obtain ⟨gc, hgc⟩ : ∃ x, getC (xs0.drop p) = x := ⟨_, rfl⟩
            obtain ⟨q, hq⟩ : ∃ x, numP (xs0.drop p) p = x := ⟨_, rfl⟩
            have hget : getA (xs0.drop p) p = .tuple #[.int .u64 nv, .int .i64 (q : Int), .int .i64 gc] := by
              rw [← hnv, ← hq, ← hgc]; unfold getA numV numP; split <;> simp
            rw [hnv, hgc, hq] at k
            clear hnv hgc hq
            go_wp2_with fail
            refine k.mono ?_
            rintro e W ⟨rfl, CC, kk⟩
            have hBW : Below w.heap.size w W := hB.trans (kk.below hsz hgw)
            have gt2 := getB_any (A0.later hBW) (p := p) (by rw [HL.out]; exact hpL) (by rw [HL.out]; exact l0)
            rw [hget] at gt2
            clear k gt hget
            go_wp2_with fail
            refine gt2.mono ?_
            rintro e W' ⟨rfl, rfl⟩
            have hnn : (nv == nv) = true := by simp
            have hgg : (gc != gc) = false := by simp
            have hqq : ((q : Int) != (q : Int)) = false := by simp
            clear gt2 B0
            go_wp2_with fail
            go_meet
            exact ⟨q, _, rfl, rfl, by first | rfl | simp, by first | rfl | simp, CC, hBW⟩
        by_cases k3 : kd = 3
        · subst k3
          as_aux_lemma =>
            have k := zigC_any C
            have gt := getB_any B0 (p := p) (by rw [HL.out]; exact hpL) (by rw [HL.out]; exact l0)
            obtain ⟨nv, hnv⟩ : ∃ x, numV (xs0.drop p) = x := ⟨_, rfl⟩
            obtain ⟨gc, hgc⟩ : ∃ x, getC (xs0.drop p) = x := ⟨_, rfl⟩
            obtain ⟨q, hq⟩ : ∃ x, numP (xs0.drop p) p = x := ⟨_, rfl⟩
            have hget : getA (xs0.drop p) p = .tuple #[.int .u64 nv, .int .i64 (q : Int), .int .i64 gc] := by
              rw [← hnv, ← hq, ← hgc]; unfold getA numV numP; split <;> simp
            rw [hnv, hgc, hq] at k
            have hnv0 : 0 ≤ nv := by
              rw [← hnv]; unfold numV; split
              · rename_i hx; exact (enc_get (A0.wf.drop p) hx).2.1
              · omega
            have hnv1 : nv < 18446744073709551616 := by
              rw [← hnv]; unfold numV; split
              · rename_i hx; exact (enc_get (A0.wf.drop p) hx).2.2.1
              · omega
            clear hnv hgc hq
            go_wp2_with fail
            refine k.mono ?_
            rintro e W ⟨rfl, CC, kk⟩
            have hBW : Below w.heap.size w W := hB.trans (kk.below hsz hgw)
            have gt2 := getB_any (A0.later hBW) (p := p) (by rw [HL.out]; exact hpL) (by rw [HL.out]; exact l0)
            rw [hget] at gt2
            clear k gt hget
            go_wp2_with fail
            refine gt2.mono ?_
            rintro e W' ⟨rfl, rfl⟩
            go_wp2_with fail
            refine (unsigned_any nv _ hnv0 hnv1).mono ?_
            rintro e W' ⟨rfl, rfl⟩
            have hnn : (zag nv == zag nv) = true := by simp
            have hgg : (gc != gc) = false := by simp
            have hqq : ((q : Int) != (q : Int)) = false := by simp
            clear gt2 B0
            go_wp2_with fail
            go_meet
            exact ⟨q, _, rfl, rfl, by first | rfl | simp, by first | rfl | simp, CC, hBW⟩
        by_cases k4 : kd = 4
        · subst k4
          as_aux_lemma =>
            have k := blockC_any mo C hr2 hr2'
            obtain ⟨bc, hbc⟩ : ∃ x, blockC (xs0.drop p) mo = x := ⟨_, rfl⟩
            obtain ⟨q, hq⟩ : ∃ x, blkP (xs0.drop p) p mo = x := ⟨_, rfl⟩
            rw [hbc, hq] at k
            have hqq : ((q : Int) != (q : Int)) = false := by simp
            have hgg : (bc != bc) = false := by simp
            have HBC := Lib.hid hbc
            have HQ := Lib.hid hq
            clear hbc hq
            go_wp2_with fail
            refine k.mono ?_
            rintro e W ⟨r, rfl, R, CC, kk⟩
            have hBW : Below w.heap.size w W := hB.trans (kk.below hsz hgw)
            have hc2W := ((A2.later hBW).at (i := i) (by rw [HL2.out]; exact h2))
            obtain ⟨bb3, o3, e3, hc3, _⟩ := hc2W
            obtain ⟨rfl, rfl⟩ : bb2 = bb3 ∧ o2 = o3 := by simpa using e3
            rw [hmoH.out] at hc3
            have gt := blockB_any (A0.later hBW) (p := p) (most := mo) (by rw [HL.out]; exact hpL) (by rw [HL.out]; exact l0) ⟨hr2, hr2'⟩
            clear k B0
            go_wp2_with fail
            refine gt.mono ?_
            rintro e W' ⟨⟨r4, nx, rfl, hcase⟩, rfl⟩
            rw [HBC.out] at hcase ⊢
            obtain ⟨ad4, cp4, B4, hnx⟩ : ∃ ad cap, ArgB W r4 (blkB (xs0.drop p) mo) ad cap ∧ nx = (q : Int) := by
              rcases hcase with ⟨hne, h, h'⟩ | ⟨h0, h, ad, cap, h'⟩
              · refine ⟨none, 0, ?_, ?_⟩
                · rw [h]; unfold blkB; rw [HBC.out, if_neg hne]; exact nil_argB _
                · rw [h', ← HQ.out]; unfold blkP; rw [HBC.out, if_neg hne]
              · refine ⟨ad, cap, ?_, ?_⟩
                · unfold blkB; rw [HBC.out, if_pos h0]; exact h'
                · rw [h, ← HQ.out]; unfold blkP; rw [HBC.out, if_pos h0]
                  have hg0 : getC (xs0.drop p) = 0 := by
                    by_cases hx : getC (xs0.drop p) = 0
                    · exact hx
                    · have := HBC.out; rw [blockC_get hx, h0] at this; exact absurd this hx
                  have := (enc_get (A0.wf.drop p) hg0).2.1
                  omega
            subst hnx
            obtain ⟨_, _, E1, _, F1, _⟩ := R.slice
            have S := sameB_any (show ArgB W r _ _ _ from E1 ▸ F1) B4
            rw [decide_eq_true rfl] at S
            clear E1 F1 hcase B4 gt
            go_wp2_with fail
            refine S.mono ?_
            rintro e W' ⟨rfl, rfl⟩
            clear S
            go_wp2_with fail
            go_meet
            exact ⟨q, _, rfl, rfl, by first | rfl | simp, by first | rfl | simp, CC, hBW⟩
        by_cases k5 : kd = 5
        · subst k5
          as_aux_lemma =>
            by_cases t1 : mo < 0
            · have htc : takeC (xs0.drop p) mo = 2 := by unfold takeC; rw [if_pos t1]
              have htb : takeB (xs0.drop p) mo = [] := by unfold takeB; rw [htc]; rfl
              obtain ⟨q, rfl⟩ : ∃ q, q = p := ⟨_, rfl⟩
              have hqq : ((q : Int) != (q : Int)) = false := by simp
              have hcc : ((2 : Int) != 2) = false := by decide
              have hq0 : (0 : Int) ≤ (q : Int) := by omega
              have hqc : (q : Int) ≤ (ca0 : Int) := by have := A0.le; have := HL.out; omega
              have k := takeC_any mo C hr2 hr2'
              rw [htc, htb, List.length_nil, Nat.add_zero] at k
              clear B0 htb
              rcases a0 with _ | ad
              · obtain rfl := n0 rfl
                obtain rfl : q = 0 := by omega
                go_wp2_with fail
                refine k.mono ?_
                rintro e W ⟨r, rfl, R, CC, kk⟩
                have hBW : Below w.heap.size w W := hB.trans (kk.below hsz hgw)
                obtain ⟨bb3, o3, e3, hc3, _⟩ := ((A2.later hBW).at (i := i) (by rw [HL2.out]; exact h2))
                obtain ⟨rfl, rfl⟩ : bb2 = bb3 ∧ o2 = o3 := by simpa using e3
                rw [hmoH.out] at hc3
                obtain ⟨adr, cpr, rfl, _, F1, _⟩ := R.slice
                simp only [List.length_nil] at F1
                clear k
                go_wp2_with fail
                refine Calls.mono (sameB_any (ys := []) F1 ⟨rfl, .inl rfl, Nat.zero_le _, Byt.nil⟩) ?_
                rintro e W' ⟨rfl, rfl⟩
                rw [show decide (([] : List Int) = []) = true from rfl]
                go_wp2_with fail
                go_meet
                exact ⟨0, _, rfl, rfl, by first | rfl | simp, by first | rfl | simp, CC, hBW⟩
              · by_cases hcq : ca0 = q
                · have hcq2 := hcq.symm
                  clear hcq
                  subst hcq2
                  go_wp2_with fail
                  refine k.mono ?_
                  rintro e W ⟨r, rfl, R, CC, kk⟩
                  have hBW : Below w.heap.size w W := hB.trans (kk.below hsz hgw)
                  obtain ⟨bb3, o3, e3, hc3, _⟩ := ((A2.later hBW).at (i := i) (by rw [HL2.out]; exact h2))
                  obtain ⟨rfl, rfl⟩ : bb2 = bb3 ∧ o2 = o3 := by simpa using e3
                  rw [hmoH.out] at hc3
                  obtain ⟨adr, cpr, rfl, _, F1, _⟩ := R.slice
                  simp only [List.length_nil] at F1
                  clear k
                  go_wp2_with fail
                  refine Calls.mono (sameB_any (ys := []) F1 ⟨rfl, .inl rfl, Nat.zero_le _, Byt.nil⟩) ?_
                  rintro e W' ⟨rfl, rfl⟩
                  rw [show decide (([] : List Int) = []) = true from rfl]
                  go_wp2_with fail
                  go_meet
                  exact ⟨q, _, rfl, rfl, by first | rfl | simp, by first | rfl | simp, CC, hBW⟩
                · have hcq' : (q : Int) < (ca0 : Int) := by omega
                  go_wp2_with fail
                  refine k.mono ?_
                  rintro e W ⟨r, rfl, R, CC, kk⟩
                  have hBW : Below w.heap.size w W := hB.trans (kk.below hsz hgw)
                  obtain ⟨bb3, o3, e3, hc3, _⟩ := ((A2.later hBW).at (i := i) (by rw [HL2.out]; exact h2))
                  obtain ⟨rfl, rfl⟩ : bb2 = bb3 ∧ o2 = o3 := by simpa using e3
                  rw [hmoH.out] at hc3
                  obtain ⟨adr, cpr, rfl, _, F1, _⟩ := R.slice
                  simp only [List.length_nil] at F1
                  clear k
                  go_wp2_with fail
                  refine Calls.mono (sameB_any (ys := []) F1 ⟨rfl, .inl rfl, Nat.zero_le _, Byt.nil⟩) ?_
                  rintro e W' ⟨rfl, rfl⟩
                  rw [show decide (([] : List Int) = []) = true from rfl]
                  go_wp2_with fail
                  go_meet
                  exact ⟨q, _, rfl, rfl, by first | rfl | simp, by first | rfl | simp, CC, hBW⟩
            · have hw5 : IntKind.i64.wrap ((L : Int) - p) = (L : Int) - p := IntWalk.i64_in _ (by omega)
              have hdl : ((xs0.drop p).length : Int) = (L : Int) - p := by rw [List.length_drop, HL.out]; omega
              by_cases t2 : (L : Int) - p < mo
              · have htc : takeC (xs0.drop p) mo = 3 := by unfold takeC; rw [if_neg t1, if_pos (by rw [hdl]; exact t2)]
                have htb : takeB (xs0.drop p) mo = [] := by unfold takeB; rw [htc]; rfl
                clear hdl
                obtain ⟨q, rfl⟩ : ∃ q, q = p := ⟨_, rfl⟩
                have hqq : ((q : Int) != (q : Int)) = false := by simp
                have hcc : ((3 : Int) != 3) = false := by decide
                have hq0 : (0 : Int) ≤ (q : Int) := by omega
                have hqc : (q : Int) ≤ (ca0 : Int) := by have := A0.le; have := HL.out; omega
                have k := takeC_any mo C hr2 hr2'
                rw [htc, htb, List.length_nil, Nat.add_zero] at k
                clear B0 htb
                rcases a0 with _ | ad
                · obtain rfl := n0 rfl
                  obtain rfl : q = 0 := by omega
                  go_wp2_with fail
                  refine k.mono ?_
                  rintro e W ⟨r, rfl, R, CC, kk⟩
                  have hBW : Below w.heap.size w W := hB.trans (kk.below hsz hgw)
                  obtain ⟨bb3, o3, e3, hc3, _⟩ := ((A2.later hBW).at (i := i) (by rw [HL2.out]; exact h2))
                  obtain ⟨rfl, rfl⟩ : bb2 = bb3 ∧ o2 = o3 := by simpa using e3
                  rw [hmoH.out] at hc3
                  obtain ⟨adr, cpr, rfl, _, F1, _⟩ := R.slice
                  simp only [List.length_nil] at F1
                  clear k
                  go_wp2_with fail
                  refine Calls.mono (sameB_any (ys := []) F1 ⟨rfl, .inl rfl, Nat.zero_le _, Byt.nil⟩) ?_
                  rintro e W' ⟨rfl, rfl⟩
                  rw [show decide (([] : List Int) = []) = true from rfl]
                  go_wp2_with fail
                  go_meet
                  exact ⟨0, _, rfl, rfl, by first | rfl | simp, by first | rfl | simp, CC, hBW⟩
                · by_cases hcq : ca0 = q
                  · have hcq2 := hcq.symm
                    clear hcq
                    subst hcq2
                    go_wp2_with fail
                    refine k.mono ?_
                    rintro e W ⟨r, rfl, R, CC, kk⟩
                    have hBW : Below w.heap.size w W := hB.trans (kk.below hsz hgw)
                    obtain ⟨bb3, o3, e3, hc3, _⟩ := ((A2.later hBW).at (i := i) (by rw [HL2.out]; exact h2))
                    obtain ⟨rfl, rfl⟩ : bb2 = bb3 ∧ o2 = o3 := by simpa using e3
                    rw [hmoH.out] at hc3
                    obtain ⟨adr, cpr, rfl, _, F1, _⟩ := R.slice
                    simp only [List.length_nil] at F1
                    clear k
                    go_wp2_with fail
                    refine Calls.mono (sameB_any (ys := []) F1 ⟨rfl, .inl rfl, Nat.zero_le _, Byt.nil⟩) ?_
                    rintro e W' ⟨rfl, rfl⟩
                    rw [show decide (([] : List Int) = []) = true from rfl]
                    go_wp2_with fail
                    go_meet
                    exact ⟨q, _, rfl, rfl, by first | rfl | simp, by first | rfl | simp, CC, hBW⟩
                  · have hcq' : (q : Int) < (ca0 : Int) := by omega
                    go_wp2_with fail
                    refine k.mono ?_
                    rintro e W ⟨r, rfl, R, CC, kk⟩
                    have hBW : Below w.heap.size w W := hB.trans (kk.below hsz hgw)
                    obtain ⟨bb3, o3, e3, hc3, _⟩ := ((A2.later hBW).at (i := i) (by rw [HL2.out]; exact h2))
                    obtain ⟨rfl, rfl⟩ : bb2 = bb3 ∧ o2 = o3 := by simpa using e3
                    rw [hmoH.out] at hc3
                    obtain ⟨adr, cpr, rfl, _, F1, _⟩ := R.slice
                    simp only [List.length_nil] at F1
                    clear k
                    go_wp2_with fail
                    refine Calls.mono (sameB_any (ys := []) F1 ⟨rfl, .inl rfl, Nat.zero_le _, Byt.nil⟩) ?_
                    rintro e W' ⟨rfl, rfl⟩
                    rw [show decide (([] : List Int) = []) = true from rfl]
                    go_wp2_with fail
                    go_meet
                    exact ⟨q, _, rfl, rfl, by first | rfl | simp, by first | rfl | simp, CC, hBW⟩
              · have htc : takeC (xs0.drop p) mo = 0 := by unfold takeC; rw [if_neg t1, if_neg (by rw [hdl]; exact t2)]
                obtain ⟨n, rfl⟩ : ∃ n : Nat, mo = (n : Int) := ⟨mo.toNat, by omega⟩
                have htb : takeB (xs0.drop p) (n : Int) = (xs0.drop p).take n := by unfold takeB; rw [if_pos htc, Int.toNat_natCast]
                have hnl : ((xs0.drop p).take n).length = n := by rw [List.length_take]; omega
                clear hdl
                by_cases hn0 : n = 0
                · subst hn0
                  simp only [List.take_zero] at htb
                  simp only [Int.natCast_zero] at htc htb hmoH hc2 t1 t2 hr2 hr2' ⊢
                  have hwp : IntKind.i64.wrap (p : Int) = (p : Int) := IntWalk.i64_in _ (by omega)
                  clear hnl
                  obtain ⟨q, rfl⟩ : ∃ q, q = p := ⟨_, rfl⟩
                  have hqq : ((q : Int) != (q : Int)) = false := by simp
                  have hcc : ((0 : Int) != 0) = false := by decide
                  have hq0 : (0 : Int) ≤ (q : Int) := by omega
                  have hqc : (q : Int) ≤ (ca0 : Int) := by have := A0.le; have := HL.out; omega
                  have k := takeC_any 0 C hr2 hr2'
                  rw [htc, htb, List.length_nil, Nat.add_zero] at k
                  clear B0 htb
                  rcases a0 with _ | ad
                  · obtain rfl := n0 rfl
                    obtain rfl : q = 0 := by omega
                    go_wp2_with fail
                    refine k.mono ?_
                    rintro e W ⟨r, rfl, R, CC, kk⟩
                    have hBW : Below w.heap.size w W := hB.trans (kk.below hsz hgw)
                    obtain ⟨bb3, o3, e3, hc3, _⟩ := ((A2.later hBW).at (i := i) (by rw [HL2.out]; exact h2))
                    obtain ⟨rfl, rfl⟩ : bb2 = bb3 ∧ o2 = o3 := by simpa using e3
                    rw [hmoH.out] at hc3
                    obtain ⟨adr, cpr, rfl, _, F1, _⟩ := R.slice
                    simp only [List.length_nil] at F1
                    clear k
                    go_wp2_with fail
                    refine Calls.mono (sameB_any (ys := []) F1 ⟨rfl, .inl rfl, Nat.zero_le _, Byt.nil⟩) ?_
                    rintro e W' ⟨rfl, rfl⟩
                    rw [show decide (([] : List Int) = []) = true from rfl]
                    go_wp2_with fail
                    go_meet
                    exact ⟨0, _, rfl, rfl, by first | rfl | simp, by first | rfl | simp, CC, hBW⟩
                  · by_cases hcq : ca0 = q
                    · have hcq2 := hcq.symm
                      clear hcq
                      subst hcq2
                      go_wp2_with fail
                      refine k.mono ?_
                      rintro e W ⟨r, rfl, R, CC, kk⟩
                      have hBW : Below w.heap.size w W := hB.trans (kk.below hsz hgw)
                      obtain ⟨bb3, o3, e3, hc3, _⟩ := ((A2.later hBW).at (i := i) (by rw [HL2.out]; exact h2))
                      obtain ⟨rfl, rfl⟩ : bb2 = bb3 ∧ o2 = o3 := by simpa using e3
                      rw [hmoH.out] at hc3
                      obtain ⟨adr, cpr, rfl, _, F1, _⟩ := R.slice
                      simp only [List.length_nil] at F1
                      clear k
                      go_wp2_with fail
                      refine Calls.mono (sameB_any (ys := []) F1 ⟨rfl, .inl rfl, Nat.zero_le _, Byt.nil⟩) ?_
                      rintro e W' ⟨rfl, rfl⟩
                      rw [show decide (([] : List Int) = []) = true from rfl]
                      go_wp2_with fail
                      go_meet
                      exact ⟨q, _, rfl, rfl, by first | rfl | simp, by first | rfl | simp, CC, hBW⟩
                    · have hcq' : (q : Int) < (ca0 : Int) := by omega
                      go_wp2_with fail
                      refine k.mono ?_
                      rintro e W ⟨r, rfl, R, CC, kk⟩
                      have hBW : Below w.heap.size w W := hB.trans (kk.below hsz hgw)
                      obtain ⟨bb3, o3, e3, hc3, _⟩ := ((A2.later hBW).at (i := i) (by rw [HL2.out]; exact h2))
                      obtain ⟨rfl, rfl⟩ : bb2 = bb3 ∧ o2 = o3 := by simpa using e3
                      rw [hmoH.out] at hc3
                      obtain ⟨adr, cpr, rfl, _, F1, _⟩ := R.slice
                      simp only [List.length_nil] at F1
                      clear k
                      go_wp2_with fail
                      refine Calls.mono (sameB_any (ys := []) F1 ⟨rfl, .inl rfl, Nat.zero_le _, Byt.nil⟩) ?_
                      rintro e W' ⟨rfl, rfl⟩
                      rw [show decide (([] : List Int) = []) = true from rfl]
                      go_wp2_with fail
                      go_meet
                      exact ⟨q, _, rfl, rfl, by first | rfl | simp, by first | rfl | simp, CC, hBW⟩
                · have hne : xs0 ≠ [] := by rintro rfl; have := HL.out; simp at this; omega
                  obtain ⟨bb0, o0, e0, hc0⟩ := A0.lim.resolve_left hne
                  subst e0
                  have hle0 := A0.le
                  have hLe := HL.out
                  have hp0 : (0 : Int) ≤ (p : Int) := by omega
                  have hpn : (p : Int) ≤ (p : Int) + (n : Int) := by omega
                  have hpc : (p : Int) + (n : Int) ≤ (ca0 : Int) := by omega
                  have hpc2 : (p : Int) < (ca0 : Int) := by omega
                  have hcne : ¬ ca0 = p := by omega
                  have hht : ((p : Int) + (n : Int)).toNat = p + n := by omega
                  have hw7 : IntKind.i64.wrap ((p : Int) + (n : Int)) = (p : Int) + (n : Int) := IntWalk.i64_in _ (by omega)
                  have hqq : ((p : Int) + (n : Int) != (p : Int) + (n : Int)) = false := by simp
                  have k := takeC_any (n : Int) C hr2 hr2'
                  rw [htc, htb, hnl] at k
                  have hz0 : ((0 : Int) != 0) = false := by decide
                  clear B0 htb hc0
                  go_wp2_with fail
                  refine k.mono ?_
                  rintro e W ⟨r, rfl, R, CC, kk⟩
                  have hBW : Below w.heap.size w W := hB.trans (kk.below hsz hgw)
                  obtain ⟨bb3, o3, e3, hc3, _⟩ := ((A2.later hBW).at (i := i) (by rw [HL2.out]; exact h2))
                  obtain ⟨rfl, rfl⟩ : bb2 = bb3 ∧ o2 = o3 := by simpa using e3
                  rw [hmoH.out] at hc3
                  have Z : ArgB W (.slice (some ⟨bb0, o0 + p, none⟩) n (ca0 - p)) ((xs0.drop p).take n) (some ⟨bb0, o0 + p, none⟩) (ca0 - p) := by
                    have AW := A0.later hBW
                    refine ⟨by rw [hnl], ?_, by rw [hnl]; omega, (A0.wf.drop p).take n⟩
                    obtain ⟨bb4, o4, e4, hc4⟩ := AW.lim.resolve_left hne
                    obtain ⟨rfl, rfl⟩ : bb0 = bb4 ∧ o0 = o4 := by simpa using e4
                    refine .inr ⟨bb0, o0 + p, rfl, fun m hm => ?_⟩
                    rw [hnl] at hm
                    have h5 := hc4 (p + m) (by omega)
                    rw [← Nat.add_assoc] at h5
                    rw [h5]
                    rw [List.getD_eq_getElem?_getD, List.getD_eq_getElem?_getD, List.getElem?_take, if_pos hm, List.getElem?_drop]
                  obtain ⟨adr, cpr, rfl, _, F1, _⟩ := R.slice
                  have S := sameB_any F1 Z
                  rw [decide_eq_true rfl, hnl] at S
                  rw [hnl]
                  clear k Z F1
                  go_wp2_with fail
                  refine S.mono ?_
                  rintro e W' ⟨rfl, rfl⟩
                  clear S
                  go_wp2_with fail
                  go_meet
                  exact ⟨p + n, _, rfl, rfl, by first | rfl | simp, by first | rfl | simp, CC, hBW⟩
        have e1 : (kd == 1) = false := by rw [beq_eq_false_iff_ne]; exact k1
        have e2 : (kd == 2) = false := by rw [beq_eq_false_iff_ne]; exact k2
        have e3 : (kd == 3) = false := by rw [beq_eq_false_iff_ne]; exact k3
        have e4 : (kd == 4) = false := by rw [beq_eq_false_iff_ne]; exact k4
        have e5 : (kd == 5) = false := by rw [beq_eq_false_iff_ne]; exact k5
        clear k1 k2 k3 k4 k5
        as_aux_lemma =>
          have k := endC_any C
          rw [HL.out] at k
          obtain ⟨q, rfl⟩ : ∃ q, q = p := ⟨_, rfl⟩
          have hqq : ((q : Int) != (q : Int)) = false := by simp
          by_cases hp : q < L
          · rw [if_pos hp] at k
            have hpI : (q : Int) < (L : Int) := by omega
            go_wp2_with fail
            refine k.mono ?_
            rintro e W ⟨rfl, kk⟩
            have CC := C.later kk
            have hBW : Below w.heap.size w W := hB.trans (kk.mono hsz)
            clear k
            go_wp2_with fail
            go_meet
            exact ⟨q, _, rfl, rfl, by first | rfl | simp, by first | rfl | simp, CC, hBW⟩
          · rw [if_neg hp] at k
            have hpI : ¬ (q : Int) < (L : Int) := by omega
            go_wp2_with fail
            refine k.mono ?_
            rintro e W ⟨rfl, kk⟩
            have CC := C.later kk
            have hBW : Below w.heap.size w W := hB.trans (kk.mono hsz)
            clear k
            go_wp2_with fail
            go_meet
            exact ⟨q, _, rfl, rfl, by first | rfl | simp, by first | rfl | simp, CC, hBW⟩
      · have h2' : ¬ (i : Int) < (L2 : Int) := by omega
        have h1' : (i : Int) < (L1 : Int) := by omega
        go_wp2_with fail
        refine (known5_any _).mono ?_
        rintro e w9 ⟨rfl, hb9⟩
        go_wp2_with fail
        go_ret
        exact ⟨rfl, hB.trans (hb9.mono hsz)⟩
    · have h1' : ¬ (i : Int) < (L1 : Int) := by omega
      go_wp2_with fail
      refine (known5_any _).mono ?_
      rintro e w9 ⟨rfl, hb9⟩
      go_wp2_with fail
      go_ret
      exact ⟨rfl, hB.trans (hb9.mono hsz)⟩

namespace wireReads
open Go.ChangeShapes Go.WideShapes Go.ChangeAt
theorem contract (H : Type) (enc : TypeId × Value → H) (W : World) (base : Nat) (args : Array Value) (ds gs : List (DataW H)) (before : List MemPlace)
    (hval : ∀ (j : Nat) t v, Try.f5.params[j]? = some t → args[j]? = some v → Value.okWide Try.prog W .any base t v)
    (hW : DataW.Whole enc Try.prog Try.f5.params.toList Rows.wireReadsSpec.vars false W args.toList ds gs before) (hsz0 : (DataW.weightsEach Try.prog (Try.f5.params.toList ++ Rows.wireReadsSpec.plain.varTypes Try.prog) (ds ++ gs)).all (· ≤ reachBytes) = true) :
    Calls Try.prog 5 args W fun e W' => ∃ v, e = .returned v ∧ Rows.wireReadsSpec.post enc Try.prog Try.f5 false true false false W args v W' := by
  have hW' := hW
  have hlt := fun p hp => hW'.lt p hp
  have hsz : (DataW.weightsEach Try.prog (Try.f5.params.toList ++ []) (ds ++ gs)).all (· ≤ reachBytes) = true := hsz0
  obtain ⟨p, q, hA0, hV, rfl, hfz, hnd⟩ := hW
  have hA : DataW.TrodAll enc Try.prog W 0 (fun _ => true) true Try.f5.params.toList args.toList ds p := hA0
  rw [Try.params5] at hA hval hsz
  obtain ⟨v0, vs0, d0, ds0, p0, q0, ha0, rfl, rfl, h0, r0⟩ := trodAll_cons hA
  obtain ⟨v1, vs1, d1, ds1, p1, q1, ha1, rfl, rfl, h1, r1⟩ := trodAll_cons r0
  obtain ⟨v2, vs2, d2, ds2, p2, q2, ha2, rfl, rfl, h2, r2⟩ := trodAll_cons r1
  obtain ⟨rfl, rfl, rfl⟩ := trodAll_nil r2
  subst ha1
  subst ha2
  obtain rfl : args = #[v0, v1, v2] := by cases args; simp_all
  obtain ⟨rfl, rfl⟩ := trodVars_none hV
  clear hA hA0 hV
  simp only [List.append_nil] at hW' hlt hsz
  (try simp only [List.nil_append] at hW' hlt hsz)
  obtain ⟨a0, xs0, ca0, A0, l0, n0⟩ := open_bytesW (okWide_slice Try.underlying22 (hval 0 22 v0 rfl rfl)) h0 (reach_bytes hsz (j := 0) rfl rfl)
  have e0 := A0.is
  subst e0
  obtain ⟨a1, xs1, ca1, A1, l1, n1⟩ := open_ints5W (okWide_slice Try.underlying45 (hval 1 45 v1 rfl rfl)) h1 (reach_ints5 hsz (j := 1) rfl rfl)
  have e1 := A1.is
  subst e1
  obtain ⟨a2, xs2, ca2, A2, l2, n2⟩ := open_ints5W (okWide_slice Try.underlying45 (hval 2 45 v2 rfl rfl)) h2 (reach_ints5 hsz (j := 2) rfl rfl)
  have e2 := A2.is
  subst e2
  refine (wireReads_walk xs0 a0 ca0 xs1 a1 ca1 xs2 a2 ca2 W A0 (by omega) n0 A1 (by omega) A2 (by omega)).mono fun e W' ⟨he, hb⟩ => ?_
  subst he
  have t0 := Below.trod laid (by kernel_rfl) (of_decide_eq_true (by kernel_rfl)) h0 hb (fun x hx => hlt x (by simp [hx]))
  have t1 := Below.trod laid (by kernel_rfl) (of_decide_eq_true (by kernel_rfl)) h1 hb (fun x hx => hlt x (by simp [hx]))
  have t2 := Below.trod laid (by kernel_rfl) (of_decide_eq_true (by kernel_rfl)) h2 hb (fun x hx => hlt x (by simp [hx]))
  exact ⟨_, rfl, [d0, d1, d2], [], (p0 ++ (p1 ++ p2)), [], (p0 ++ (p1 ++ (p2 ++ []))), [], hW', trodAll_cons_mk (shut_bool Try.underlying4 _) trodAll_mk0,
    (trodAll_cons_mk t0 (trodAll_cons_mk t1 (trodAll_cons_mk t2 trodAll_mk0))), rfl, hb.frame _, fun h => by cases h⟩

set_option maxRecDepth 100000 in
theorem lifted (os : Os) (started : os.Started) (H : Type) (enc : TypeId × Value → H) :
    ReturnsInHanded {} Try.checked os 5 .any (Rows.wireReadsSpec.pre6 enc Try.prog Try.f5 Rows.wireReadsRow.domain false) (Rows.wireReadsSpec.post enc Try.prog Try.f5 false true false false) := by
  refine returnsInHanded_of_change_sized (C := Try.checked) own started (by kernel_rfl) Try.func5
    (ChangeSpec.witness6 (enc := enc) (C := Try.checked) false ⟨#[], #[.slice none 0 0, .slice none 0 0, .slice none 0 0], []⟩ 8 (by kernel_rfl) (by kernel_rfl) (by kernel_rfl) (by kernel_rfl)) ?_
  intro W base args ds gs before hval hW _ hsz0 _
  exact contract H enc W base args ds gs before hval hW hsz0

theorem proved : Rows.WireReadsSaid :=
  OpenClaim.holds_of_wide 5 Try.f5 rfl rfl rfl rfl rfl rfl rfl ⟨rfl, rfl, rfl, rfl, rfl⟩ rfl rfl rfl rfl rfl (by kernel_rfl) Try.func5 (by kernel_rfl)
    (of_decide_eq_true (by kernel_rfl)) (by unfold Func.isWrapper; first | (rw [if_pos (by decide +kernel)]; kernel_rfl) | (rw [if_neg (by decide +kernel)]; exact ⟨rfl, rfl⟩))
    (fun os started H enc _ => lifted os started H enc)
end wireReads
end Go.Proofs.Ytgjoiacgdgbcjaa
