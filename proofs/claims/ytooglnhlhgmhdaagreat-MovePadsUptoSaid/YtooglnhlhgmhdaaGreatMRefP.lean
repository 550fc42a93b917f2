/-
  The reference of layer 9: Pad. (Made by wip/gen/gen_mrefp.py.)
-/
import Derived.Test.YtooglnhlhgmhdaaGreatMRef0
import Derived.Test.YtooglnhlhgmhdaaGreatK32
namespace Go.Proofs.YtooglnhlhgmhdaaGreat
open Go.RowKit
set_option linter.unusedVariables false
set_option linter.unusedSimpArgs false

theorem pd_pos9 {s pads : List Int} (hg : ∀ i, i < s.length → ¬ badPad pads i) (ok : OkS s) : (pdS s pads).length ≤ 4 ∧ posS (pdS s pads) := by
  refine ⟨by rw [pdS_len]; exact ok.rank, pos_of fun i hi => ?_⟩
  rw [pdS_len] at hi
  have a := hg i hi
  have h6 := ok.pos.getD hi
  unfold badPad at a
  rw [pdS_at _ _ hi]
  omega
theorem badPad_of {s t : List Int} {k : Nat} (hl : t.length = 2 * s.length) (hk : k < t.length) (h : t.getD k 0 < 0) : pdCW s t = 11 := by
  have hi : k / 2 < s.length := by omega
  refine pdCW_bad hi ?_
  rcases Nat.mod_two_eq_zero_or_one k with e | e
  · refine .inl ?_
    unfold fstP
    rw [show 2 * (k / 2) = k by omega]
    exact h
  · refine .inr ?_
    unfold sndP
    rw [show 2 * (k / 2) + 1 = k by omega]
    exact h
theorem noBad {s t : List Int} (hl : t.length = 2 * s.length) (h : ∀ k, k < t.length → ¬ t.getD k 0 < 0) : ∀ i, i < s.length → ¬ badPad t i := fun i hi h2 => by
  have a := h (2 * i) (by omega)
  have b := h (2 * i + 1) (by omega)
  unfold badPad fstP sndP at h2
  omega
theorem pdW_nn {s t : List Int} (ok : OkS s) (hg : ∀ i, i < s.length → ¬ badPad t i) : pdW s t = pdS s t := pdW_eq ok (.inr fun i hi => by
  have := hg i hi
  unfold badPad at this
  omega)
theorem pdCW_big {s t : List Int} (ok : OkS s) (hl : t.length = 2 * s.length) (hg : ∀ i, i < s.length → ¬ badPad t i) {i : Nat} (hi : i < s.length) (hb : 1024 < fstP t i ∨ 1024 < sndP t i) : pdCW s t = 14 := by
  rw [pdCW_good hl hg, pdW_nn ok hg]
  have hp := pd_pos9 hg ok
  refine mayC_count hp.1 hp.2 ?_
  have h4 := getD_le_prod hp.2 (k := i) (by rw [pdS_len]; exact hi)
  rw [pdS_at _ _ hi] at h4
  have h5 := ok.pos.getD hi
  have a := hg i hi
  unfold badPad at a
  omega
theorem pdW_small {s t : List Int} (ok : OkS s) (hg : ∀ i, i < s.length → ¬ badPad t i) {i : Nat} (hi : i < s.length) (h1 : fstP t i ≤ 1024) (h2 : sndP t i ≤ 1024) : (pdW s t).getD i 0 = fstP t i + s.getD i 0 + sndP t i := by
  rw [pdW_nn ok hg, pdS_at _ _ hi]
  omega
theorem pdW_len {s t : List Int} : (pdW s t).length = s.length := by simp [pdW]
theorem pdW_good {s t : List Int} (ok : OkS s) (hg : ∀ i, i < s.length → ¬ badPad t i) : (pdW s t).length ≤ 4 ∧ posS (pdW s t) := by
  rw [pdW_nn ok hg]
  exact pd_pos9 hg ok
theorem pdCW_many {s t : List Int} (ok : OkS s) (hl : t.length = 2 * s.length) (hg : ∀ i, i < s.length → ¬ badPad t i) (h : 1024 < cntR (pdW s t)) : pdCW s t = 14 := by
  have hp := pdW_good ok hg
  rw [pdCW_good hl hg]
  refine mayC_count hp.1 hp.2 ?_
  unfold cntR at h
  split at h <;> omega
theorem pdCW_few {s t : List Int} (ok : OkS s) (hl : t.length = 2 * s.length) (hg : ∀ i, i < s.length → ¬ badPad t i) (h : ¬ 1024 < cntR (pdW s t)) : pdCW s t = 0 ∧ OkS (pdW s t) := by
  have hp := pdW_good ok hg
  have hk : OkS (pdW s t) := ⟨hp.1, hp.2, by unfold cntR at h; split at h <;> omega⟩
  exact ⟨by rw [pdCW_good hl hg]; exact mayC_ok hk, hk⟩
set_option maxRecDepth 100000 in
set_option maxHeartbeats 40000000 in
theorem padR_any {m : Nat} {w : World} {v : Value} {s t : List Int} {L : List Rat} {ad : Option Addr} {cd : Nat} (T : TenR w v s L m) (ok : Ok9 s L.length) (D : ArgS w (.slice ad t.length cd) t ad cd) (nd : ad = none → cd = 0) (ht : t.length ≤ 8000000) (hm : 6 ≤ m) :
    Calls Tryz.prog 27 #[v, .slice ad t.length cd] w fun e w' => RefA w' e (pdCW s t) (pdW s t) (pdV s t L) m ∧ Below w.heap.size w w' := by
  obtain ⟨i0, hiS, hz0, hz1, hz2⟩ := info_parts infoS
  obtain ⟨j0, hjR, hyA, hyB, hyC⟩ := info_parts infoR
  obtain ⟨a, ca, b, cb, T⟩ := T
  obtain rfl := T.is
  have HOK := Lib.hid ok
  have HND := Lib.hid nd
  have hle := ok.le
  obtain ⟨N, hN⟩ : ∃ N, s.length = N := ⟨_, rfl⟩
  obtain ⟨K, hK⟩ : ∃ K, L.length = K := ⟨_, rfl⟩
  obtain ⟨Q, hQ⟩ : ∃ Q, t.length = Q := ⟨_, rfl⟩
  have HN := Lib.hid hN
  have HK := Lib.hid hK
  have HQ := Lib.hid hQ
  rw [hN, hK] at T
  rw [hN, hK] at hle
  rw [hQ] at D ht
  rw [hN, hK, hQ]
  have HT : Hid (TensR w (.agg #[.slice a N ca, .slice b K cb]) s L m a ca b cb) := Lib.hid T
  have HD : Hid (ArgS w (.slice ad Q cd) t ad cd) := Lib.hid D
  obtain ⟨c, hc⟩ : ∃ c, pdCW s t = c := ⟨_, rfl⟩
  obtain ⟨S, hS⟩ : ∃ S, pdW s t = S := ⟨_, rfl⟩
  obtain ⟨LR, hLR⟩ : ∃ LR, pdV s t L = LR := ⟨_, rfl⟩
  have HC := Lib.hid hc
  have HS := Lib.hid hS
  have HLR := Lib.hid hLR
  rw [hc, hS, hLR]
  obtain ⟨W, hW⟩ : ∃ W, ((w.alloc (.cells #[.slice a N ca, .slice b K cb] 34)).alloc (.cells #[.slice none 0 0, .slice none 0 0] 34)) = W := ⟨_, rfl⟩
  have R0 : Row W w.heap.size 34 #[.slice a N ca, .slice b K cb] := by rw [← hW]; exact (Row.new _ _ _).alloc _
  have R1 : Row W (w.heap.size + 1) 34 #[.slice none 0 0, .slice none 0 0] := by rw [← hW]; have h := Row.new (w.alloc (.cells #[.slice a N ca, .slice b K cb] 34)) 34 #[.slice none 0 0, .slice none 0 0]; simp only [World.size_alloc] at h; exact h
  have hBW : Below w.heap.size w W := by rw [← hW]; exact ((Below.refl _ _).alloc (Nat.le_refl _) _).alloc (by simp) _
  have hsW : W.heap.size = w.heap.size + 1 + 1 := by rw [← hW]; simp
  have H0 := Lib.hid R0
  have H1 := Lib.hid R1
  have HB := Lib.hid hBW
  have tsh : ∀ X, Below w.heap.size w X → ArgS X (.slice a N ca) s a ca := fun X h => by
    have h1 := HT.out.sh.later h
    rw [HN.out] at h1
    exact h1
  have TSH := Lib.hid tsh
  have dX : ∀ X, Below w.heap.size w X → ArgS X (.slice ad Q cd) t ad cd := fun X h => HD.out.later h
  have DX := Lib.hid dX
  have zW : w.heap.size < W.heap.size := by omega
  obtain ⟨p0, p1, _, _⟩ := R0.two
  have v1 : IntKind.i64.wrap (2 * (N : Int)) = 2 * (N : Int) := wrap_i64 (by omega) (by omega)
  clear T ok D nd hN hK hQ hc hS hLR R0 R1 hBW tsh dX
  by_cases hlen : Q = 2 * N
  · have hlI : ((Q : Int) != 2 * (N : Int)) = false := by simp; omega
    have HLEN : Hid (t.length = 2 * s.length) := Lib.hid (by rw [HQ.out, HN.out]; exact hlen)
    have hqN : Q ≤ 2 * N ∧ 2 * N ≤ Q := by omega
    clear hlen
    go_enter Tryz.func27, Tryz.ntmps27
    go_wp2_with fail
    (try rw [hW])
    clear hW p0 p1 v1 hlI
    go_loopw [6] (fun i W1 => ∃ (k : Nat), i = .int .i64 (k : Int) ∧ k ≤ Q ∧ (∀ j, j < k → ¬ t.getD j 0 < 0) ∧ Below W.heap.size W W1) (fun i _ => Q - (intOf i).toNat)
    case atStart => exact ⟨0, rfl, Nat.zero_le _, (fun j hj => by omega), Below.refl _ _⟩
    case round =>
      rename World => W1
      obtain ⟨k, rfl, hk, hgd, hb⟩ := hrel
      have hbw : Below w.heap.size w W1 := HB.out.trans (hb.mono (by omega))
      have hsz := hb.size
      have HGD := Lib.hid hgd
      obtain ⟨k0, k1, _, _⟩ := (H0.out.later hb).two
      clear hgd
      by_cases hlt : k < Q
      · have hltI : (k : Int) < (Q : Int) := by omega
        have hkt : k < t.length := by rw [HQ.out]; exact hlt
        obtain ⟨bt, ot, rfl, cs1⟩ := (DX.out _ hbw).at (i := k) hkt
        obtain ⟨x0, hx0⟩ : ∃ x, t.getD k 0 = x := ⟨_, rfl⟩
        rw [hx0] at cs1
        have HX0 := Lib.hid hx0
        clear hx0 hkt
        by_cases hn : x0 < 0
        · have hd : decide (x0 < 0) = true := decide_eq_true hn
          obtain rfl : c = 11 := by rw [← HC.out]; exact badPad_of HLEN.out (k := k) (by rw [HQ.out]; exact hlt) (by rw [HX0.out]; exact hn)
          have P1 := H1.out.later hb
          obtain ⟨u0, u1, g0', g1'⟩ := P1.two
          have P3 := P1.set2 (.slice none 0 0) (.slice none 0 0)
          obtain ⟨z0, z1, _, _⟩ := P3.two
          have hBE := below_set2 (HB.out.trans ((hb : Below W.heap.size W _).mono (by omega))) (show w.heap.size ≤ w.heap.size + 1 by omega) (.slice none 0 0) (.slice none 0 0)
          go_wp2_with fail
          refine bodyPost_ret (v := .tuple #[noTensor, .int .i64 11]) (by simp [results, Tryz.results27, go_sem, z0, z1, noTensor]) rfl ⟨⟨_, rfl, ⟨none, 0, 0, none, 0, 0, rfl⟩, fun h => by cases h⟩, hBE⟩
        · have hd : decide (x0 < 0) = false := decide_eq_false hn
          go_wp2_with fail
          go_roundw
          case rel =>
            refine ⟨k + 1, by go_num, by omega, fun j hj => ?_, hb⟩
            by_cases e : j = k
            · subst e
              rw [HX0.out]
              exact hn
            · exact HGD.out j (by omega)
          case measure => simp [intOf]; omega
      · obtain rfl : Q = k := by omega
        have hltI : ¬ (Q : Int) < (Q : Int) := by omega
        have HNB : Hid (∀ i, i < s.length → ¬ badPad t i) := Lib.hid (noBad HLEN.out (by rw [HQ.out]; exact HGD.out))
        have HBW1 := Lib.hid hb
        have HB1 := Lib.hid hbw
        obtain ⟨g, hg⟩ : ∃ g, W1.heap.size = g := ⟨_, rfl⟩
        have hgw : w.heap.size + 1 + 1 ≤ g := by omega
        have hWg : W.heap.size ≤ g := by omega
        have HBW1 := Lib.hid hb
        have HG1 := Lib.hid hg
        clear hb hbw hg
        go_wp2_with fail
        obtain ⟨W2, hW2⟩ : ∃ Y, W1.alloc (.cells #[.slice none 0 0, .slice none 0 0] 34) = Y := ⟨_, rfl⟩
        have RG : Row W2 g 34 #[.slice none 0 0, .slice none 0 0] := by rw [← hW2, ← HG1.out]; exact Row.new _ _ _
        have b2 : Below g W1 W2 := by rw [← hW2, ← HG1.out]; exact (Below.refl _ _).alloc (Nat.le_refl _) _
        have HRG := Lib.hid RG
        have HB2 := Lib.hid b2
        (try rw [hW2])
        (try rw [HG1.out])
        clear RG b2 hW2 k0 k1
        go_loopw [8] (fun i wr => ∃ (j : Nat) (v : Value), i = .int .i64 (j : Int) ∧ j ≤ N ∧ Row wr g 34 #[v, .slice none 0 0] ∧ ResS g wr v (S.take j) ∧ Below g W1 wr) (fun i _ => N - (intOf i).toNat)
        case atStart => exact ⟨0, _, rfl, Nat.zero_le _, HRG.out, ResS.nil _ _, HB2.out⟩
        case round =>
          obtain ⟨j, v, rfl, hj, rg, rs, hb⟩ := hrel
          have hbW : Below W.heap.size W wr := HBW1.out.trans (hb.mono hWg)
          have hbw : Below w.heap.size w wr := HB.out.trans (hbW.mono (by omega))
          have hgs : g ≤ wr.heap.size := by have h := hb.size; rw [HG1.out] at h; exact h
          have hg0 : g < wr.heap.size := rg.lt
          skip
          obtain ⟨k0, k1, _, _⟩ := (H0.out.later hbW).two
          have cg0 := rg.cell 0
          skip
          by_cases hlt : j < N
          · have hltI : (j : Int) < (N : Int) := by omega
            have hks : j < s.length := by rw [HN.out]; exact hlt
            obtain ⟨zs, hzs⟩ : ∃ z, S.take j = z := ⟨_, rfl⟩
            have hSj : j < S.length := by rw [← HS.out]; rw [pdW_len]; exact hks
            have hnx : S.take (j + 1) = S.take j ++ [S.getD j 0] := take_next hSj
            have hz16 : zs.length ≤ 16 := by rw [← hzs, List.length_take]; omega
            rw [hzs] at rs hnx
            have HNX := Lib.hid hnx
            clear hzs hnx hSj
            have hkt : 2 * j < t.length := by rw [HQ.out]; omega
            obtain ⟨bt, ot, rfl, cs1⟩ := (DX.out _ hbw).at (i := 2 * j) hkt
            obtain ⟨x0, hx0⟩ : ∃ x, t.getD (2 * j) 0 = x := ⟨_, rfl⟩
            rw [hx0] at cs1
            have HX0 : Hid (fstP t j = x0) := Lib.hid hx0
            have v1 : IntKind.i64.wrap (2 * (j : Int)) = 2 * (j : Int) := wrap_i64 (by omega) (by omega)
            have n1 : (2 * (j : Int)).toNat = 2 * j := by omega
            have j0' : (0 : Int) ≤ 2 * (j : Int) := by omega
            have j1 : 2 * (j : Int) < (Q : Int) := by omega
            clear hx0 hkt
            have hkt2 : 2 * j + 1 < t.length := by rw [HQ.out]; omega
            obtain ⟨bt2, ot2, hbt, cs2⟩ := (DX.out _ hbw).at (i := 2 * j + 1) hkt2
            cases hbt
            obtain ⟨x1, hx1⟩ : ∃ x, t.getD (2 * j + 1) 0 = x := ⟨_, rfl⟩
            rw [hx1] at cs2
            have HX1 : Hid (sndP t j = x1) := Lib.hid hx1
            have v2 : IntKind.i64.wrap (2 * (j : Int) + 1) = 2 * (j : Int) + 1 := wrap_i64 (by omega) (by omega)
            have n2 : (2 * (j : Int) + 1).toNat = 2 * j + 1 := by omega
            have j2 : (0 : Int) ≤ 2 * (j : Int) + 1 := by omega
            have j3 : 2 * (j : Int) + 1 < (Q : Int) := by omega
            clear hx1 hkt2
            obtain ⟨bs, os, rfl, cs3⟩ := (TSH.out _ hbw).at (i := j) hks
            have hd4 := getD_le_prod HOK.out.ok.pos hks
            have hd3 := HOK.out.ok.pos.getD hks
            have hd5 := HOK.out.ok.few
            have hnb := HNB.out j hks
            unfold badPad at hnb
            rw [HX0.out, HX1.out] at hnb
            obtain ⟨d, hd⟩ : ∃ d, s.getD j 0 = d := ⟨_, rfl⟩
            rw [hd] at cs3 hd4 hd3
            have HDD := Lib.hid hd
            clear hd
            by_cases ho : x0 > 1024
            · have hdd : decide (x0 > 1024) = true := decide_eq_true ho
              obtain rfl : c = 14 := by rw [← HC.out]; exact pdCW_big HOK.out.ok HLEN.out HNB.out hks (.inl (by rw [HX0.out]; exact ho))
              have P1 := H1.out.later hbW
              obtain ⟨u0, u1, g0', g1'⟩ := P1.two
              have P3 := P1.set2 (.slice none 0 0) (.slice none 0 0)
              obtain ⟨z0, z1, _, _⟩ := P3.two
              have hBE := below_set2 (HB.out.trans ((hbW : Below W.heap.size W _).mono (by omega))) (show w.heap.size ≤ w.heap.size + 1 by omega) (.slice none 0 0) (.slice none 0 0)
              go_wp2_with fail
              refine bodyPost_ret (v := .tuple #[noTensor, .int .i64 14]) (by simp [results, Tryz.results27, go_sem, z0, z1, noTensor]) rfl ⟨⟨_, rfl, ⟨none, 0, 0, none, 0, 0, rfl⟩, fun h => by cases h⟩, hBE⟩
            · have hdd : decide (x0 > 1024) = false := decide_eq_false ho
              by_cases ho2 : x1 > 1024
              · have hdd2 : decide (x1 > 1024) = true := decide_eq_true ho2
                obtain rfl : c = 14 := by rw [← HC.out]; exact pdCW_big HOK.out.ok HLEN.out HNB.out hks (.inr (by rw [HX1.out]; exact ho2))
                have P1 := H1.out.later hbW
                obtain ⟨u0, u1, g0', g1'⟩ := P1.two
                have P3 := P1.set2 (.slice none 0 0) (.slice none 0 0)
                obtain ⟨z0, z1, _, _⟩ := P3.two
                have hBE := below_set2 (HB.out.trans ((hbW : Below W.heap.size W _).mono (by omega))) (show w.heap.size ≤ w.heap.size + 1 by omega) (.slice none 0 0) (.slice none 0 0)
                go_wp2_with fail
                refine bodyPost_ret (v := .tuple #[noTensor, .int .i64 14]) (by simp [results, Tryz.results27, go_sem, z0, z1, noTensor]) rfl ⟨⟨_, rfl, ⟨none, 0, 0, none, 0, 0, rfl⟩, fun h => by cases h⟩, hBE⟩
              · have hdd2 : decide (x1 > 1024) = false := decide_eq_false ho2
                have HSV : Hid (S.getD j 0 = x0 + d + x1) := Lib.hid (by rw [← HS.out, pdW_small HOK.out.ok HNB.out hks (by rw [HX0.out]; omega) (by rw [HX1.out]; omega), HX0.out, HX1.out, HDD.out])
                have wy0 : IntKind.i64.wrap (x0 + d) = x0 + d := wrap_i64 (by omega) (by omega)
                have wy : IntKind.i64.wrap (x0 + d + x1) = x0 + d + x1 := wrap_i64 (by omega) (by omega)
                have hbt : bt < w.heap.size := by
                  obtain ⟨b', o', e1, e2⟩ := HD.out.at (i := 2 * j) (by rw [HQ.out]; omega)
                  cases e1
                  exact World.block_lt_of_cell? _ _ e2
                have hbs : bs < w.heap.size := by
                  obtain ⟨b', o', e1, e2⟩ := HT.out.sh.at (i := j) (by rw [HN.out]; omega)
                  cases e1
                  exact World.block_lt_of_cell? _ _ e2
                go_wp2_with fail
                obtain ⟨r, hrv, hrb, hrne, _, _⟩ := ownV_hits rs.num hgs
                have ng := hrne _ _ _ rg (by decide)
                have mkSsa : ∀ X, Kept r wr X → X.cell? ⟨g, 0, none⟩ = some v ∧ X.cell? ⟨bt, ot + 2 * j, none⟩ = some (.int .i64 x0) ∧ X.cell? ⟨w.heap.size, 0, none⟩ = some (.slice (some ⟨bs, os, none⟩) N ca) ∧ X.cell? ⟨bs, os + j, none⟩ = some (.int .i64 d) ∧ X.cell? ⟨bt, ot + (2 * j + 1), none⟩ = some (.int .i64 x1) ∧ Kept r wr X := fun X h => ⟨h.cell cg0 ng, h.cell cs1 (by show bt ≠ r; omega), h.cell k0 (by show w.heap.size ≠ r; omega), h.cell cs3 (by show bs ≠ r; omega), h.cell cs2 (by show bt ≠ r; omega), h⟩
                have hS0sa := mkSsa wr.drew ((Kept.refl r wr).drew)
                refine wp_region_L (S := fun X => X.cell? ⟨g, 0, none⟩ = some v ∧ X.cell? ⟨bt, ot + 2 * j, none⟩ = some (.int .i64 x0) ∧ X.cell? ⟨w.heap.size, 0, none⟩ = some (.slice (some ⟨bs, os, none⟩) N ca) ∧ X.cell? ⟨bs, os + j, none⟩ = some (.int .i64 d) ∧ X.cell? ⟨bt, ot + (2 * j + 1), none⟩ = some (.int .i64 x1) ∧ Kept r wr X) (z := 23) (by kernel_rfl) hS0sa (fun hHeld => ?_)
                refine wpAnyL_take (i := 0) (v := ?vsaa0) rfl (by kernel_rfl) (by kernel_rfl) (by kernel_rfl) (by kernel_rfl) (fun _ _ _ h => h) (Or.inl ⟨by rfl, ?hsaa0⟩) (by assumption) ?rsaa0
                case hsaa0 =>
                  intro w hSw
                  try dsimp only at hSw
                  go_simp
                  try with_reducible rfl
                try simp only [Act.put, List.getElem_toArray, List.getElem_cons_succ, List.getElem_cons_zero, List.setIfInBounds_toArray, List.set_cons_zero, List.set_cons_succ]
                refine wpAnyL_take (i := 1) (v := ?vsaa1) rfl (by kernel_rfl) (by kernel_rfl) (by kernel_rfl) (by kernel_rfl) (fun _ _ _ h => h) (Or.inl ⟨by rfl, ?hsaa1⟩) (by assumption) ?rsaa1
                case hsaa1 =>
                  intro w hSw
                  try dsimp only at hSw
                  go_simp
                  try with_reducible rfl
                try simp only [Act.put, List.getElem_toArray, List.getElem_cons_succ, List.getElem_cons_zero, List.setIfInBounds_toArray, List.set_cons_zero, List.set_cons_succ]
                refine wpAnyL_take (i := 2) (v := ?vsaa2) rfl (by kernel_rfl) (by kernel_rfl) (by kernel_rfl) (by kernel_rfl) (fun _ _ _ h => h) (Or.inl ⟨by rfl, ?hsaa2⟩) (by assumption) ?rsaa2
                case hsaa2 =>
                  intro w hSw
                  try dsimp only at hSw
                  go_simp
                  try with_reducible rfl
                try simp only [Act.put, List.getElem_toArray, List.getElem_cons_succ, List.getElem_cons_zero, List.setIfInBounds_toArray, List.set_cons_zero, List.set_cons_succ]
                refine wpAnyL_take (i := 3) (v := ?vsaa3) rfl (by kernel_rfl) (by kernel_rfl) (by kernel_rfl) (by kernel_rfl) (fun _ _ _ h => h) (Or.inl ⟨by rfl, ?hsaa3⟩) (by assumption) ?rsaa3
                case hsaa3 =>
                  intro w hSw
                  try dsimp only at hSw
                  go_simp
                  try with_reducible rfl
                try simp only [Act.put, List.getElem_toArray, List.getElem_cons_succ, List.getElem_cons_zero, List.setIfInBounds_toArray, List.set_cons_zero, List.set_cons_succ]
                refine wpAnyL_take (i := 4) (v := ?vsaa4) rfl (by kernel_rfl) (by kernel_rfl) (by kernel_rfl) (by kernel_rfl) (fun _ _ _ h => h) (Or.inl ⟨by rfl, ?hsaa4⟩) (by assumption) ?rsaa4
                case hsaa4 =>
                  intro w hSw
                  try dsimp only at hSw
                  go_simp
                  try with_reducible rfl
                try simp only [Act.put, List.getElem_toArray, List.getElem_cons_succ, List.getElem_cons_zero, List.setIfInBounds_toArray, List.set_cons_zero, List.set_cons_succ]
                refine wpAnyL_take (i := 5) (v := ?vsaa5) rfl (by kernel_rfl) (by kernel_rfl) (by kernel_rfl) (by kernel_rfl) (fun _ _ _ h => h) (Or.inl ⟨by rfl, ?hsaa5⟩) (by assumption) ?rsaa5
                case hsaa5 =>
                  intro w hSw
                  try dsimp only at hSw
                  go_simp
                  try with_reducible rfl
                try simp only [Act.put, List.getElem_toArray, List.getElem_cons_succ, List.getElem_cons_zero, List.setIfInBounds_toArray, List.set_cons_zero, List.set_cons_succ]
                refine wpAnyL_take (i := 6) (v := ?vsaa6) rfl (by kernel_rfl) (by kernel_rfl) (by kernel_rfl) (by kernel_rfl) (fun _ _ _ h => h) (Or.inl ⟨by rfl, ?hsaa6⟩) (by assumption) ?rsaa6
                case hsaa6 =>
                  intro w hSw
                  try dsimp only at hSw
                  go_simp
                  try with_reducible rfl
                try simp only [Act.put, List.getElem_toArray, List.getElem_cons_succ, List.getElem_cons_zero, List.setIfInBounds_toArray, List.set_cons_zero, List.set_cons_succ]
                refine wpAnyL_take (i := 7) (v := ?vsaa7) rfl (by kernel_rfl) (by kernel_rfl) (by kernel_rfl) (by kernel_rfl) (fun _ _ _ h => h) (Or.inl ⟨by rfl, ?hsaa7⟩) (by assumption) ?rsaa7
                case hsaa7 =>
                  intro w hSw
                  try dsimp only at hSw
                  go_simp
                  try with_reducible rfl
                try simp only [Act.put, List.getElem_toArray, List.getElem_cons_succ, List.getElem_cons_zero, List.setIfInBounds_toArray, List.set_cons_zero, List.set_cons_succ]
                refine wpAnyL_take (i := 8) (v := ?vsaa8) rfl (by kernel_rfl) (by kernel_rfl) (by kernel_rfl) (by kernel_rfl) (fun _ _ _ h => h) (Or.inl ⟨by rfl, ?hsaa8⟩) (by assumption) ?rsaa8
                case hsaa8 =>
                  intro w hSw
                  try dsimp only at hSw
                  go_simp
                  try with_reducible rfl
                try simp only [Act.put, List.getElem_toArray, List.getElem_cons_succ, List.getElem_cons_zero, List.setIfInBounds_toArray, List.set_cons_zero, List.set_cons_succ]
                refine wpAnyL_take (i := 9) (v := ?vsaa9) rfl (by kernel_rfl) (by kernel_rfl) (by kernel_rfl) (by kernel_rfl) (fun _ _ _ h => h) (Or.inl ⟨by rfl, ?hsaa9⟩) (by assumption) ?rsaa9
                case hsaa9 =>
                  intro w hSw
                  try dsimp only at hSw
                  go_simp
                  try with_reducible rfl
                try simp only [Act.put, List.getElem_toArray, List.getElem_cons_succ, List.getElem_cons_zero, List.setIfInBounds_toArray, List.set_cons_zero, List.set_cons_succ]
                refine wpAnyL_take (i := 10) (v := ?vsaa10) rfl (by kernel_rfl) (by kernel_rfl) (by kernel_rfl) (by kernel_rfl) (fun _ _ _ h => h) (Or.inl ⟨by rfl, ?hsaa10⟩) (by assumption) ?rsaa10
                case hsaa10 =>
                  intro w hSw
                  try dsimp only at hSw
                  go_simp
                  try with_reducible rfl
                try simp only [Act.put, List.getElem_toArray, List.getElem_cons_succ, List.getElem_cons_zero, List.setIfInBounds_toArray, List.set_cons_zero, List.set_cons_succ]
                refine wpAnyL_take (i := 11) (v := ?vsaa11) rfl (by kernel_rfl) (by kernel_rfl) (by kernel_rfl) (by kernel_rfl) (fun _ _ _ h => h) (Or.inl ⟨by rfl, ?hsaa11⟩) (by assumption) ?rsaa11
                case hsaa11 =>
                  intro w hSw
                  try dsimp only at hSw
                  go_simp
                  try with_reducible rfl
                try simp only [Act.put, List.getElem_toArray, List.getElem_cons_succ, List.getElem_cons_zero, List.setIfInBounds_toArray, List.set_cons_zero, List.set_cons_succ]
                refine wpAnyL_take (i := 12) (v := ?vsaa12) rfl (by kernel_rfl) (by kernel_rfl) (by kernel_rfl) (by kernel_rfl) (fun _ _ _ h => h) (Or.inl ⟨by rfl, ?hsaa12⟩) (by assumption) ?rsaa12
                case hsaa12 =>
                  intro w hSw
                  try dsimp only at hSw
                  go_simp
                  try with_reducible rfl
                try simp only [Act.put, List.getElem_toArray, List.getElem_cons_succ, List.getElem_cons_zero, List.setIfInBounds_toArray, List.set_cons_zero, List.set_cons_succ]
                refine wpAnyL_take (i := 13) (v := ?vsaa13) rfl (by kernel_rfl) (by kernel_rfl) (by kernel_rfl) (by kernel_rfl) (fun _ _ _ h => h) (Or.inl ⟨by rfl, ?hsaa13⟩) (by assumption) ?rsaa13
                case hsaa13 =>
                  intro w hSw
                  try dsimp only at hSw
                  go_simp
                  try with_reducible rfl
                try simp only [Act.put, List.getElem_toArray, List.getElem_cons_succ, List.getElem_cons_zero, List.setIfInBounds_toArray, List.set_cons_zero, List.set_cons_succ]
                refine wpAnyL_take (i := 14) (v := ?vsaa14) rfl (by kernel_rfl) (by kernel_rfl) (by kernel_rfl) (by kernel_rfl) (fun _ _ _ h => h) (Or.inl ⟨by rfl, ?hsaa14⟩) (by assumption) ?rsaa14
                case hsaa14 =>
                  intro w hSw
                  try dsimp only at hSw
                  go_simp
                  try with_reducible rfl
                try simp only [Act.put, List.getElem_toArray, List.getElem_cons_succ, List.getElem_cons_zero, List.setIfInBounds_toArray, List.set_cons_zero, List.set_cons_succ]
                refine wpAnyL_take (i := 15) (v := ?vsaa15) rfl (by kernel_rfl) (by kernel_rfl) (by kernel_rfl) (by kernel_rfl) (fun _ _ _ h => h) (Or.inl ⟨by rfl, ?hsaa15⟩) (by assumption) ?rsaa15
                case hsaa15 =>
                  intro w hSw
                  try dsimp only at hSw
                  go_simp
                  try with_reducible rfl
                try simp only [Act.put, List.getElem_toArray, List.getElem_cons_succ, List.getElem_cons_zero, List.setIfInBounds_toArray, List.set_cons_zero, List.set_cons_succ]
                refine wpAnyL_take (i := 16) (v := ?vsaa16) rfl (by kernel_rfl) (by kernel_rfl) (by kernel_rfl) (by kernel_rfl) (fun _ _ _ h => h) (Or.inl ⟨by rfl, ?hsaa16⟩) (by assumption) ?rsaa16
                case hsaa16 =>
                  intro w hSw
                  try dsimp only at hSw
                  go_simp
                  try with_reducible rfl
                try simp only [Act.put, List.getElem_toArray, List.getElem_cons_succ, List.getElem_cons_zero, List.setIfInBounds_toArray, List.set_cons_zero, List.set_cons_succ]
                refine wpAnyL_take (i := 17) (v := ?vsaa17) rfl (by kernel_rfl) (by kernel_rfl) (by kernel_rfl) (by kernel_rfl) (fun _ _ _ h => h) (Or.inl ⟨by rfl, ?hsaa17⟩) (by assumption) ?rsaa17
                case hsaa17 =>
                  intro w hSw
                  try dsimp only at hSw
                  go_simp
                  try with_reducible rfl
                try simp only [Act.put, List.getElem_toArray, List.getElem_cons_succ, List.getElem_cons_zero, List.setIfInBounds_toArray, List.set_cons_zero, List.set_cons_succ]
                refine wpAnyL_take (i := 18) (v := ?vsaa18) rfl (by kernel_rfl) (by kernel_rfl) (by kernel_rfl) (by kernel_rfl) (fun _ _ _ h => h) (Or.inl ⟨by rfl, ?hsaa18⟩) (by assumption) ?rsaa18
                case hsaa18 =>
                  intro w hSw
                  try dsimp only at hSw
                  go_simp
                  try with_reducible rfl
                try simp only [Act.put, List.getElem_toArray, List.getElem_cons_succ, List.getElem_cons_zero, List.setIfInBounds_toArray, List.set_cons_zero, List.set_cons_succ]
                refine wpAnyL_take (i := 19) (v := ?vsaa19) rfl (by kernel_rfl) (by kernel_rfl) (by kernel_rfl) (by kernel_rfl) (fun _ _ _ h => h) (Or.inl ⟨by rfl, ?hsaa19⟩) (by assumption) ?rsaa19
                case hsaa19 =>
                  intro w hSw
                  try dsimp only at hSw
                  go_simp
                  try with_reducible rfl
                try simp only [Act.put, List.getElem_toArray, List.getElem_cons_succ, List.getElem_cons_zero, List.setIfInBounds_toArray, List.set_cons_zero, List.set_cons_succ]
                obtain ⟨w5, hw5⟩ : ∃ Y, wr.drew = Y := ⟨_, rfl⟩
                have hb5 : Below wr.heap.size wr w5 := by rw [← hw5]; exact (Below.refl _ wr).drew
                have hk5 : Kept r wr w5 := (Kept.refl r wr).below hb5
                rw [hw5] at hHeld ⊢
                clear hw5
                refine wpAnyL_one (i := 20) (by kernel_rfl) rfl (fun K hK => ?ssab20)
                go_simp
                refine hK.out _ _ (fun _ => mkSsa _ (hk5.alloc _)) (fun hHeld2 => ?msab20)
                clear hK K hHeld
                have hHeld := hHeld2 (by decide)
                clear hHeld2
                try simp only [Act.put, List.getElem_toArray, List.getElem_cons_succ, List.getElem_cons_zero, List.setIfInBounds_toArray, List.set_cons_zero, List.set_cons_succ]
                refine wpAnyL_one (i := 21) (by kernel_rfl) rfl (fun K hK => ?ssab21)
                have hn5 : NumS g w5 v zs := rs.num.later hb5
                have hsz5 := hb5.size
                refine step_append_ownT rfl _ _ 22 rfl g 3 i0 (.int .i64 0) 1 8 Tryz.underlying22 hiS hz0 hz1 hz2 rfl (by decide) _ zs.length (zs.map (Value.int .i64)) rfl (hn5.later ((Below.refl _ _).alloc (Nat.le_refl _) _)) ⟨w5.heap.size, 0, none⟩ 1 1 [.int .i64 (x0 + d + x1)] rfl rfl (fun j u hj => ?celsa) (by simp [Value.oneCell']) (by unfold maxLen; omega) (by omega) (by simp; omega) ?_
                case celsa =>
                  have R := Row.new w5 3 #[.int .i64 (x0 + d + x1)]
                  match j, hj with
                  | 0, hj => simp at hj; subst hj; exact R.cell 0
                  | j + 1, hj => simp at hj
                intro v' w6 hown' hgrow _
                obtain ⟨av, cv, rfl⟩ := ownT_slice hown'
                have hk6 : Kept r wr w6 := (hk5.alloc _).grown hgrow hrv
                refine hK.out _ _ (fun _ => mkSsa _ hk6) (fun hHeld2 => ?msab21)
                clear hK K hHeld
                have hHeld := hHeld2 (by decide)
                clear hHeld2
                try simp only [Act.put, List.getElem_toArray, List.getElem_cons_succ, List.getElem_cons_zero, List.setIfInBounds_toArray, List.set_cons_zero, List.set_cons_succ]
                refine wpAnyL_take (i := 22) (v := ?vsaa22) rfl (by kernel_rfl) (by kernel_rfl) (by kernel_rfl) (by kernel_rfl) (fun _ _ _ h => h) (Or.inl ⟨by rfl, ?hsaa22⟩) (by assumption) ?rsaa22
                case hsaa22 =>
                  intro w hSw
                  try dsimp only at hSw
                  go_simp
                  try with_reducible rfl
                try simp only [Act.put, List.getElem_toArray, List.getElem_cons_succ, List.getElem_cons_zero, List.setIfInBounds_toArray, List.set_cons_zero, List.set_cons_succ]
                have RG6 := rg.kept hk6 ng
                have f21 := RG6.free 0
                have d21 := RG6.cell 0
                refine wpAnyL_one (i := 23) (by kernel_rfl) rfl (fun K hK => ?ssab23)
                go_simp
                refine hK.out _ _ (fun h => absurd rfl h) (fun _ => ?msab23)
                clear hK K
                try simp only [Act.put, List.getElem_toArray, List.getElem_cons_succ, List.getElem_cons_zero, List.setIfInBounds_toArray, List.set_cons_zero, List.set_cons_succ]
                refine wpAnyL_done (by kernel_rfl) ?_ _
                have hN6 : NumS g w6 (.slice av (zs.length + 1) cv) (zs ++ [(x0 + d + x1)]) := by
                  unfold NumS
                  rw [List.length_append, List.map_append]
                  exact hown'
                have hwz : Wid (zs ++ [(x0 + d + x1)]) := fun x hx => by
                  rcases List.mem_append.1 hx with h | h
                  · exact rs.wf x h
                  · simp only [List.mem_singleton] at h
                    subst h
                    omega
                have rs6 : ResS g w6 _ (zs ++ [(x0 + d + x1)]) := ⟨hN6, hwz⟩
                have hb6 : Below g W1 w6 := (hk6.under (B := g) hb (by omega) hrb)
                go_wp2_with fail
                go_roundw
                case rel =>
                  refine ⟨j + 1, _, by go_num, by omega, RG6.set20 _, ?rs, hb6.setCell (by show g ≤ g; omega) _⟩
                  case rs =>
                    rw [HNX.out, HSV.out]
                    exact rs6.far RG6 (by decide) (kept1 _)
                case measure => simp [intOf]; omega
          · obtain rfl : N = j := by omega
            have hltI : ¬ (N : Int) < (N : Int) := by omega
            have hSN : S.length = N := by rw [← HS.out]; rw [pdW_len, HN.out]
            rw [List.take_of_length_le (by omega)] at rs
            obtain ⟨a3, c3, rfl⟩ := ownT_slice rs.num
            have hrs := rs.mono (show w.heap.size ≤ g by omega)
            rw [hSN] at hrs rg cg0
            have HML := Lib.hid hSN
            have H05 := Lib.hid (H0.out.later hbW)
            have H15 := Lib.hid (H1.out.later hbW)
            have HG := Lib.hid rg
            have HSS := Lib.hid hrs
            have HB5 := Lib.hid hbw
            have hg2 : w.heap.size + 1 + 1 ≤ g := hgw
            have hgood := pdW_good HOK.out.ok HNB.out
            rw [HS.out] at hgood
            have hcnt := count9_any ((HSS.out.at_).2.1) hgood.2 (by have := hgood.1; omega)
            obtain ⟨q, hq⟩ : ∃ q, cntR S = q := ⟨_, rfl⟩
            rw [hq] at hcnt
            have HQQ := Lib.hid hq
            clear hq hrs rs hb rg
            go_wp2_with fail
            refine hcnt.mono ?_
            rintro e wq ⟨rfl, rfl⟩
            clear hcnt
            by_cases ho : q > 1024
            · have hdd : decide (q > 1024) = true := decide_eq_true ho
              obtain rfl : c = 14 := by rw [← HC.out]; exact pdCW_many HOK.out.ok HLEN.out HNB.out (by rw [HS.out, HQQ.out]; exact ho)
              have P1 := H1.out.later hbW
              obtain ⟨u0, u1, g0', g1'⟩ := P1.two
              have P3 := P1.set2 (.slice none 0 0) (.slice none 0 0)
              obtain ⟨z0, z1, _, _⟩ := P3.two
              have hBE := below_set2 (HB.out.trans ((hbW : Below W.heap.size W _).mono (by omega))) (show w.heap.size ≤ w.heap.size + 1 by omega) (.slice none 0 0) (.slice none 0 0)
              go_wp2_with fail
              refine bodyPost_ret (v := .tuple #[noTensor, .int .i64 14]) (by simp [results, Tryz.results27, go_sem, z0, z1, noTensor]) rfl ⟨⟨_, rfl, ⟨none, 0, 0, none, 0, 0, rfl⟩, fun h => by cases h⟩, hBE⟩
            · have hdd : decide (q > 1024) = false := decide_eq_false ho
              have hfew := pdCW_few HOK.out.ok HLEN.out HNB.out (by rw [HS.out, HQQ.out]; exact ho)
              obtain rfl : c = 0 := by rw [← HC.out]; exact hfew.1
              have okS : OkS S := by rw [← HS.out]; exact hfew.2
              have HOKS := Lib.hid okS
              obtain ⟨CN, hCN⟩ : ∃ n, (prodS S).toNat = n := ⟨_, rfl⟩
              have hps := prodS_pos okS.pos
              have hpf := okS.few
              have HPC : Hid (prodS S = (CN : Int)) := Lib.hid (by omega)
              have HRES : Hid (LR.length = CN) := Lib.hid (by rw [← HLR.out]; unfold pdV; rw [fillV_len, HS.out]; exact hCN)
              have hCN1 : CN ≤ 1024 := by omega
              clear hfew hgood okS hCN hps hpf hSN
              go_wp2_with fail
              clear k0 k1 cg0 hbw hbW hdd
              go_loopw [9, 10, 11] (fun i _ _ wr => ∃ (k : Nat) (v : Value), i = .int .i64 (k : Int) ∧ k ≤ CN ∧ Row wr w.heap.size 34 #[.slice a N ca, .slice b K cb] ∧ Row wr (w.heap.size + 1) 34 #[.slice none 0 0, .slice none 0 0] ∧
                Row wr g 34 #[.slice a3 N c3, v] ∧ ResS w.heap.size wr (.slice a3 N c3) S ∧ RowO w.heap.size 75 (fun W v x => ResA w.heap.size w W v x m) wr v (LR.take k) ∧ Below w.heap.size w wr) (fun i _ _ _ => CN - (intOf i).toNat)
              case atStart => exact ⟨0, _, rfl, Nat.zero_le _, H05.out, H15.out, HG.out, HSS.out, RowO.nil _ _ _ _, HB5.out⟩
              case round =>
                obtain ⟨k, v, rfl, hk, r0, r1, rg, rs, ⟨es, hown, hall⟩, hb⟩ := hrel
                have hsz := hb.size
                have hle9 : es.length = k := by have h := HRES.out; rw [hall.1, List.length_take, h]; omega
                have HLE := Lib.hid hle9
                have Q0 := Lib.hid r0
                have Q1 := Lib.hid r1
                have QG := Lib.hid rg
                have QS := Lib.hid rs
                have QO := Lib.hid hown
                have QA := Lib.hid hall
                have QB := Lib.hid hb
                clear r1 hall hown hle9
                have A3 := (rs.at_).2.1
                have cg0 := rg.cell 0
                have cg1 := rg.cell 1
                have c01 := r0.cell 1
                by_cases hlt : k < CN
                · have hkC : (k : Int) < (CN : Int) := by omega
                  have hkP : (k : Int) < prodS S := by rw [HPC.out]; omega
                  obtain ⟨l0, hl0⟩ : ∃ l, idxS S (k : Int) = l := ⟨_, rfl⟩
                  have hin0 := (place_idx HOKS.out.pos (show 0 ≤ (k : Int) by omega) hkP).1
                  have hidx := fun X (h : Below wr.heap.size wr X) => index9_any (A3.later h) HOKS.out (show 0 ≤ (k : Int) by omega) hkP
                  rw [hl0] at hidx hin0
                  have HIN := Lib.hid hin0
                  have hl0n : l0.length = N := by rw [inS_length hin0, HML.out]
                  have HLN := Lib.hid hl0n
                  have HL0 := Lib.hid hl0
                  clear hin0 hl0 hl0n hkP rs
                  have hcnt := fun X (h : Below wr.heap.size wr X) => count9_any (A3.later h) HOKS.out.pos (by have := HOKS.out.rank; omega)
                  rw [cntR_ok HOKS.out, HPC.out] at hcnt
                  go_wp2_with fail
                  refine (hcnt _ (Below.refl _ _)).mono ?_
                  rintro e wq ⟨rfl, rfl⟩
                  clear hcnt
                  go_wp2_with fail
                  refine (hidx _ (Below.refl _ _)).mono ?_
                  rintro e y1 ⟨rl, rfl, RL, hy1⟩
                  obtain ⟨al, cl, rfl, IL, hcl, nl, wl⟩ := RL.idx
                  rw [HLN.out] at hcl ⊢
                  have HIL := Lib.hid IL
                  have HWL := Lib.hid wl
                  have HNL := Lib.hid nl
                  have B1 : Below w.heap.size w y1 := hb.trans (hy1.mono hsz)
                  clear RL IL wl nl hidx cg0 cg1 c01 rg r0
                  go_wp2_with fail
                  go_loopw [11] (fun i wi => ∃ (j : Nat) (zs : List Int), i = .int .i64 (j : Int) ∧ j ≤ N ∧ zs = stpOf (fun i z => IntKind.i64.wrap (z - fstP t i)) l0 (List.range j) ∧ IdxP wr.heap.size wi al cl zs ∧ Below wr.heap.size wr wi) (fun i _ => N - (intOf i).toNat)
                  case atStart => exact ⟨0, _, rfl, Nat.zero_le _, rfl, HIL.out, hy1⟩
                  case round =>
                    rename World => wi
                    obtain ⟨j, zs, rfl, hj, hzs, hI, hbi⟩ := hrel
                    have hln : zs.length = N := by rw [hzs, stpOf_len, HLN.out]
                    have HZS := Lib.hid hzs
                    have HZL := Lib.hid hln
                    clear hzs
                    by_cases hlt2 : j < N
                    · have hltJ : (j : Int) < (N : Int) := by omega
                      have hbwi : Below w.heap.size w wi := QB.out.trans (hbi.mono hsz)
                      obtain ⟨gl, rfl, hgB, hmx, hP⟩ := hI.at (i := j) (by omega)
                      have cz := hP.cell j (by omega)
                      obtain ⟨z, hz⟩ : ∃ z, zs.getD j 0 = z := ⟨_, rfl⟩
                      rw [hz] at cz
                      have hkt : 2 * j < t.length := by rw [HQ.out]; omega
                      obtain ⟨bt, ot, rfl, cs1⟩ := (DX.out _ hbwi).at (i := 2 * j) hkt
                      obtain ⟨x0, hx0⟩ : ∃ x, t.getD (2 * j) 0 = x := ⟨_, rfl⟩
                      rw [hx0] at cs1
                      have HX0 : Hid (fstP t j = x0) := Lib.hid hx0
                      have v1 : IntKind.i64.wrap (2 * (j : Int)) = 2 * (j : Int) := wrap_i64 (by omega) (by omega)
                      have n1 : (2 * (j : Int)).toNat = 2 * j := by omega
                      have j0' : (0 : Int) ≤ 2 * (j : Int) := by omega
                      have j1 : 2 * (j : Int) < (Q : Int) := by omega
                      clear hx0 hkt
                      obtain ⟨y, hy⟩ : ∃ y, IntKind.i64.wrap (z - x0) = y := ⟨_, rfl⟩
                      have hnx : zs.set j y = stpOf (fun i z => IntKind.i64.wrap (z - fstP t i)) l0 (List.range (j + 1)) := by
                        rw [List.range_succ, stpOf_snoc, ← HZS.out]
                        show zs.set j y = zs.set j (IntKind.i64.wrap (zs.getD j 0 - fstP t j))
                        rw [hz, HX0.out, hy]
                      have HNX := Lib.hid hnx
                      have HP := Lib.hid hP
                      have hS0i : wi.drew.cell? ⟨gl, j, none⟩ = some (.int .i64 z) ∧ wi.drew.cell? ⟨bt, ot + 2 * j, none⟩ = some (.int .i64 x0) := ⟨cz, cs1⟩
                      have hfd : wi.drew.frozen? ⟨gl, j, none⟩ = false := hP.free j
                      clear hz hnx hln hI hP cz cs1
                      go_wp2_with fail
                      refine wp_region_L (S := fun Y => Y.cell? ⟨gl, j, none⟩ = some (.int .i64 z) ∧ Y.cell? ⟨bt, ot + 2 * j, none⟩ = some (.int .i64 x0)) (z := 13) (by kernel_rfl) hS0i (fun hHeld => ?_)
                      refine wpAnyL_take (i := 0) (v := ?via0) rfl (by kernel_rfl) (by kernel_rfl) (by kernel_rfl) (by kernel_rfl) (fun _ _ _ h => h) (Or.inl ⟨by rfl, ?hia0⟩) (by assumption) ?ria0
                      case hia0 =>
                        intro w hSw
                        try dsimp only at hSw
                        go_simp
                        try with_reducible rfl
                      try simp only [Act.put, List.getElem_toArray, List.getElem_cons_succ, List.getElem_cons_zero, List.setIfInBounds_toArray, List.set_cons_zero, List.set_cons_succ]
                      refine wpAnyL_take (i := 1) (v := ?via1) rfl (by kernel_rfl) (by kernel_rfl) (by kernel_rfl) (by kernel_rfl) (fun _ _ _ h => h) (Or.inl ⟨by rfl, ?hia1⟩) (by assumption) ?ria1
                      case hia1 =>
                        intro w hSw
                        try dsimp only at hSw
                        go_simp
                        try with_reducible rfl
                      try simp only [Act.put, List.getElem_toArray, List.getElem_cons_succ, List.getElem_cons_zero, List.setIfInBounds_toArray, List.set_cons_zero, List.set_cons_succ]
                      refine wpAnyL_take (i := 2) (v := ?via2) rfl (by kernel_rfl) (by kernel_rfl) (by kernel_rfl) (by kernel_rfl) (fun _ _ _ h => h) (Or.inl ⟨by rfl, ?hia2⟩) (by assumption) ?ria2
                      case hia2 =>
                        intro w hSw
                        try dsimp only at hSw
                        go_simp
                        try with_reducible rfl
                      try simp only [Act.put, List.getElem_toArray, List.getElem_cons_succ, List.getElem_cons_zero, List.setIfInBounds_toArray, List.set_cons_zero, List.set_cons_succ]
                      refine wpAnyL_take (i := 3) (v := ?via3) rfl (by kernel_rfl) (by kernel_rfl) (by kernel_rfl) (by kernel_rfl) (fun _ _ _ h => h) (Or.inl ⟨by rfl, ?hia3⟩) (by assumption) ?ria3
                      case hia3 =>
                        intro w hSw
                        try dsimp only at hSw
                        go_simp
                        try with_reducible rfl
                      try simp only [Act.put, List.getElem_toArray, List.getElem_cons_succ, List.getElem_cons_zero, List.setIfInBounds_toArray, List.set_cons_zero, List.set_cons_succ]
                      refine wpAnyL_take (i := 4) (v := ?via4) rfl (by kernel_rfl) (by kernel_rfl) (by kernel_rfl) (by kernel_rfl) (fun _ _ _ h => h) (Or.inl ⟨by rfl, ?hia4⟩) (by assumption) ?ria4
                      case hia4 =>
                        intro w hSw
                        try dsimp only at hSw
                        go_simp
                        try with_reducible rfl
                      try simp only [Act.put, List.getElem_toArray, List.getElem_cons_succ, List.getElem_cons_zero, List.setIfInBounds_toArray, List.set_cons_zero, List.set_cons_succ]
                      refine wpAnyL_take (i := 5) (v := ?via5) rfl (by kernel_rfl) (by kernel_rfl) (by kernel_rfl) (by kernel_rfl) (fun _ _ _ h => h) (Or.inl ⟨by rfl, ?hia5⟩) (by assumption) ?ria5
                      case hia5 =>
                        intro w hSw
                        try dsimp only at hSw
                        go_simp
                        try with_reducible rfl
                      try simp only [Act.put, List.getElem_toArray, List.getElem_cons_succ, List.getElem_cons_zero, List.setIfInBounds_toArray, List.set_cons_zero, List.set_cons_succ]
                      refine wpAnyL_take (i := 6) (v := ?via6) rfl (by kernel_rfl) (by kernel_rfl) (by kernel_rfl) (by kernel_rfl) (fun _ _ _ h => h) (Or.inl ⟨by rfl, ?hia6⟩) (by assumption) ?ria6
                      case hia6 =>
                        intro w hSw
                        try dsimp only at hSw
                        go_simp
                        try with_reducible rfl
                      try simp only [Act.put, List.getElem_toArray, List.getElem_cons_succ, List.getElem_cons_zero, List.setIfInBounds_toArray, List.set_cons_zero, List.set_cons_succ]
                      refine wpAnyL_take (i := 7) (v := ?via7) rfl (by kernel_rfl) (by kernel_rfl) (by kernel_rfl) (by kernel_rfl) (fun _ _ _ h => h) (Or.inl ⟨by rfl, ?hia7⟩) (by assumption) ?ria7
                      case hia7 =>
                        intro w hSw
                        try dsimp only at hSw
                        go_simp
                        try with_reducible rfl
                      try simp only [Act.put, List.getElem_toArray, List.getElem_cons_succ, List.getElem_cons_zero, List.setIfInBounds_toArray, List.set_cons_zero, List.set_cons_succ]
                      refine wpAnyL_take (i := 8) (v := ?via8) rfl (by kernel_rfl) (by kernel_rfl) (by kernel_rfl) (by kernel_rfl) (fun _ _ _ h => h) (Or.inl ⟨by rfl, ?hia8⟩) (by assumption) ?ria8
                      case hia8 =>
                        intro w hSw
                        try dsimp only at hSw
                        go_simp
                        try with_reducible rfl
                      try simp only [Act.put, List.getElem_toArray, List.getElem_cons_succ, List.getElem_cons_zero, List.setIfInBounds_toArray, List.set_cons_zero, List.set_cons_succ]
                      refine wpAnyL_take (i := 9) (v := ?via9) rfl (by kernel_rfl) (by kernel_rfl) (by kernel_rfl) (by kernel_rfl) (fun _ _ _ h => h) (Or.inl ⟨by rfl, ?hia9⟩) (by assumption) ?ria9
                      case hia9 =>
                        intro w hSw
                        try dsimp only at hSw
                        go_simp
                        try with_reducible rfl
                      try simp only [Act.put, List.getElem_toArray, List.getElem_cons_succ, List.getElem_cons_zero, List.setIfInBounds_toArray, List.set_cons_zero, List.set_cons_succ]
                      refine wpAnyL_take (i := 10) (v := ?via10) rfl (by kernel_rfl) (by kernel_rfl) (by kernel_rfl) (by kernel_rfl) (fun _ _ _ h => h) (Or.inl ⟨by rfl, ?hia10⟩) (by assumption) ?ria10
                      case hia10 =>
                        intro w hSw
                        try dsimp only at hSw
                        go_simp
                        try with_reducible rfl
                      try simp only [Act.put, List.getElem_toArray, List.getElem_cons_succ, List.getElem_cons_zero, List.setIfInBounds_toArray, List.set_cons_zero, List.set_cons_succ]
                      refine wpAnyL_take (i := 11) (v := ?via11) rfl (by kernel_rfl) (by kernel_rfl) (by kernel_rfl) (by kernel_rfl) (fun _ _ _ h => h) (Or.inl ⟨by rfl, ?hia11⟩) (by assumption) ?ria11
                      case hia11 =>
                        intro w hSw
                        try dsimp only at hSw
                        go_simp
                        try with_reducible rfl
                      try simp only [Act.put, List.getElem_toArray, List.getElem_cons_succ, List.getElem_cons_zero, List.setIfInBounds_toArray, List.set_cons_zero, List.set_cons_succ]
                      refine wpAnyL_take (i := 12) (v := ?via12) rfl (by kernel_rfl) (by kernel_rfl) (by kernel_rfl) (by kernel_rfl) (fun _ _ _ h => h) (Or.inl ⟨by rfl, ?hia12⟩) (by assumption) ?ria12
                      case hia12 =>
                        intro w hSw
                        try dsimp only at hSw
                        go_simp
                        try with_reducible rfl
                      try simp only [Act.put, List.getElem_toArray, List.getElem_cons_succ, List.getElem_cons_zero, List.setIfInBounds_toArray, List.set_cons_zero, List.set_cons_succ]
                      refine wpAnyL_one (i := 13) (by kernel_rfl) rfl (fun K hK => ?sib13)
                      go_simp
                      refine hK.out _ _ (fun h => absurd rfl h) (fun _ => ?mib13)
                      clear hK K
                      try simp only [Act.put, List.getElem_toArray, List.getElem_cons_succ, List.getElem_cons_zero, List.setIfInBounds_toArray, List.set_cons_zero, List.set_cons_succ]
                      refine wpAnyL_done (by kernel_rfl) ?_ _
                      go_wp2_with fail
                      go_roundw
                      case rel => exact ⟨j + 1, _, by go_num, by omega, HNX.out, .inr ⟨gl, rfl, hgB, hmx, PartS.set (show PartS wi.drew gl cl zs from HP.out) j (by rw [HZL.out]; omega) y⟩, setBelow hbi.drew hgB _ _⟩
                      case measure => simp [intOf]; omega
                    · obtain rfl : N = j := by omega
                      have hltJ : ¬ (N : Int) < (N : Int) := by omega
                      have hall9 := HZS.out
                      rw [stpOf_all _ HLN.out] at hall9
                      have hwz : Wid zs := by rw [hall9]; exact Wid.map_range fun i _ => wrap_range _
                      have XA := hI.arg (by rw [HZL.out]; exact hcl) hwz
                      rw [hln] at XA
                      have HLX : Hid (zs.length = s.length) := Lib.hid (by rw [HZL.out, HN.out])
                      have HVN : Hid (LR[k]? = some (elV s L zs)) := Lib.hid (by
                        rw [← HLR.out]
                        unfold pdV
                        unfold fillV
                        rw [List.getElem?_map, List.getElem?_range (by have h := HPC.out; rw [HS.out]; omega)]
                        simp only [Option.map_some, Option.some.injEq]
                        rw [HS.out]
                        rw [HL0.out, hall9, HN.out])
                      clear hall9 hln hI HZS
                      have r0 := Q0.out.later hbi
                      have r1 := Q1.out.later hbi
                      have rg := QG.out.later hbi
                      have rs := QS.out.later hbi
                      have hown : OwnE w.heap.size 75 wi v es := QO.out.later hbi
                      have hall : AllE (fun v x => ResA w.heap.size w wi v x m) es (LR.take k) := QA.out.imp fun u x _ h => h.later hbi
                      have hbw : Below w.heap.size w wi := QB.out.trans (hbi.mono hsz)
                      have hszw := hbw.size
                      obtain ⟨r, hrv, hrb, hrne⟩ := hown.hits hszw
                      have n0 := hrne _ _ _ r0 (by decide)
                      have n1 := hrne _ _ _ r1 (by decide)
                      have ng := hrne _ _ _ rg (by decide)
                      have cg1 := rg.cell 1
                      have c00 := r0.cell 0
                      have c01 := r0.cell 1
                      have mkE : ∀ X, Kept r wi X → X.cell? ⟨g, 1, none⟩ = some v ∧ X.cell? ⟨w.heap.size, 0, none⟩ = some (.slice a N ca) ∧ X.cell? ⟨w.heap.size, 1, none⟩ = some (.slice b K cb) ∧ Kept r wi X := fun X h => ⟨h.cell cg1 ng, h.cell c00 n0, h.cell c01 n0, h⟩
                      have hS0e := mkE wi.drew ((Kept.refl r wi).drew)
                      obtain ⟨val, hval⟩ : ∃ x, elV s L (zs) = x := ⟨_, rfl⟩
                      have hat := fun X (h : Below wi.heap.size wi X) => at9_any (w := X) HT.out (hbw.trans (h.mono hszw)) HOK.out.ok HOK.out.len (XA.later h) HLX.out hm
                      rw [hval] at hat
                      have hnv : LR.take (k + 1) = LR.take k ++ [val] := take_nextL (by rw [← hval]; exact HVN.out)
                      have HNV := Lib.hid hnv
                      clear hval hnv
                      go_wp2_with fail
                      refine wp_region_L (S := fun X => X.cell? ⟨g, 1, none⟩ = some v ∧ X.cell? ⟨w.heap.size, 0, none⟩ = some (.slice a N ca) ∧ X.cell? ⟨w.heap.size, 1, none⟩ = some (.slice b K cb) ∧ Kept r wi X) (z := 8) (by kernel_rfl) hS0e (fun hHeld => ?_)
                      refine wpAnyL_take (i := 0) (v := ?vea0) rfl (by kernel_rfl) (by kernel_rfl) (by kernel_rfl) (by kernel_rfl) (fun _ _ _ h => h) (Or.inl ⟨by rfl, ?hea0⟩) (by assumption) ?rea0
                      case hea0 =>
                        intro w hSw
                        try dsimp only at hSw
                        go_simp
                        try with_reducible rfl
                      try simp only [Act.put, List.getElem_toArray, List.getElem_cons_succ, List.getElem_cons_zero, List.setIfInBounds_toArray, List.set_cons_zero, List.set_cons_succ]
                      refine wpAnyL_take (i := 1) (v := ?vea1) rfl (by kernel_rfl) (by kernel_rfl) (by kernel_rfl) (by kernel_rfl) (fun _ _ _ h => h) (Or.inl ⟨by rfl, ?hea1⟩) (by assumption) ?rea1
                      case hea1 =>
                        intro w hSw
                        try dsimp only at hSw
                        go_simp
                        try with_reducible rfl
                      try simp only [Act.put, List.getElem_toArray, List.getElem_cons_succ, List.getElem_cons_zero, List.setIfInBounds_toArray, List.set_cons_zero, List.set_cons_succ]
                      refine wpAnyL_take (i := 2) (v := ?vea2) rfl (by kernel_rfl) (by kernel_rfl) (by kernel_rfl) (by kernel_rfl) (fun _ _ _ h => h) (Or.inl ⟨by rfl, ?hea2⟩) (by assumption) ?rea2
                      case hea2 =>
                        intro w hSw
                        try dsimp only at hSw
                        go_simp
                        try with_reducible rfl
                      try simp only [Act.put, List.getElem_toArray, List.getElem_cons_succ, List.getElem_cons_zero, List.setIfInBounds_toArray, List.set_cons_zero, List.set_cons_succ]
                      refine wpAnyL_take (i := 3) (v := ?vea3) rfl (by kernel_rfl) (by kernel_rfl) (by kernel_rfl) (by kernel_rfl) (fun _ _ _ h => h) (Or.inl ⟨by rfl, ?hea3⟩) (by assumption) ?rea3
                      case hea3 =>
                        intro w hSw
                        try dsimp only at hSw
                        go_simp
                        try with_reducible rfl
                      try simp only [Act.put, List.getElem_toArray, List.getElem_cons_succ, List.getElem_cons_zero, List.setIfInBounds_toArray, List.set_cons_zero, List.set_cons_succ]
                      refine wpAnyL_one (i := 4) (by kernel_rfl) rfl (fun K hK => ?seb4)
                      go_simp
                      have hbd4 : Below wi.heap.size wi wi.drew := (Below.refl _ _).drew
                      refine (hat _ hbd4).mono ?_
                      rintro e w5 ⟨rv, rfl, qv, hb5⟩
                      have hb5w : Below wi.heap.size wi w5 := hbd4.trans hb5
                      have hB5 : Below w.heap.size w w5 := hbw.trans (hb5w.mono hszw)
                      have Q5 : Hid (ResA w.heap.size w w5 rv val m) := Lib.hid (qv.imp (fun h => h.mono (show w.heap.size ≤ wi.heap.size from hszw)) id)
                      obtain ⟨m5, f1, l1, j1, f2, l2, j2, rfl⟩ := (qv.imp (fun h => h) id : ResA _ _ _ _ _ _).elim (fun h => h.shape) (fun h => h.shape)
                      clear qv
                      go_simp
                      have hk5 : Kept r wi w5 := ((Kept.refl r wi).drew).below hb5
                      refine hK.out _ _ (fun _ => mkE _ hk5) (fun hHeld2 => ?meb4)
                      clear hK K hHeld
                      have hHeld := hHeld2 (by decide)
                      clear hHeld2
                      try simp only [Act.put, List.getElem_toArray, List.getElem_cons_succ, List.getElem_cons_zero, List.setIfInBounds_toArray, List.set_cons_zero, List.set_cons_succ]
                      refine wpAnyL_one (i := 5) (by kernel_rfl) rfl (fun K hK => ?seb5)
                      go_simp
                      refine hK.out _ _ (fun _ => mkE _ (hk5.alloc _)) (fun hHeld2 => ?meb5)
                      clear hK K hHeld
                      have hHeld := hHeld2 (by decide)
                      clear hHeld2
                      try simp only [Act.put, List.getElem_toArray, List.getElem_cons_succ, List.getElem_cons_zero, List.setIfInBounds_toArray, List.set_cons_zero, List.set_cons_succ]
                      refine wpAnyL_one (i := 6) (by kernel_rfl) rfl (fun K hK => ?seb6)
                      have hown5 : OwnE w.heap.size 75 w5 v es := hown.later hb5w
                      have hall5 : AllE (fun v x => ResA w.heap.size w w5 v x m) es (LR.take k) := hall.imp fun u x _ h => h.later hb5w
                      have hsz5 := hB5.size
                      have hle9 := HLE.out
                      refine step_append_ownT rfl _ _ 32 rfl w.heap.size 75 j0 _ 3 56 Tryz.underlying32 hjR hyA hyB hyC rfl (by decide) _ es.length (flat3 es) rfl (hown5.later ((Below.refl _ _).alloc (Nat.le_refl _) _)) ⟨w5.heap.size, 0, none⟩ 1 1 [.bool m5, .slice f1 l1 j1, .slice f2 l2 j2] rfl rfl (cell_three_new _ _ _ _ _) (by simp [Value.oneCell']) (by unfold maxLen; omega) (by omega) (by simp; omega) ?_
                      intro v' w6 hown' hgrow _
                      obtain ⟨av, cv, rfl⟩ := ownT_slice hown'
                      have hk6 : Kept r wi w6 := (hk5.alloc _).grown hgrow hrv
                      refine hK.out _ _ (fun _ => mkE _ hk6) (fun hHeld2 => ?meb6)
                      clear hK K hHeld
                      have hHeld := hHeld2 (by decide)
                      clear hHeld2
                      try simp only [Act.put, List.getElem_toArray, List.getElem_cons_succ, List.getElem_cons_zero, List.setIfInBounds_toArray, List.set_cons_zero, List.set_cons_succ]
                      refine wpAnyL_take (i := 7) (v := ?vea7) rfl (by kernel_rfl) (by kernel_rfl) (by kernel_rfl) (by kernel_rfl) (fun _ _ _ h => h) (Or.inl ⟨by rfl, ?hea7⟩) (by assumption) ?rea7
                      case hea7 =>
                        intro w hSw
                        try dsimp only at hSw
                        go_simp
                        try with_reducible rfl
                      try simp only [Act.put, List.getElem_toArray, List.getElem_cons_succ, List.getElem_cons_zero, List.setIfInBounds_toArray, List.set_cons_zero, List.set_cons_succ]
                      have RG6 := rg.kept hk6 ng
                      have f21 := RG6.free 1
                      have d21 := RG6.cell 1
                      refine wpAnyL_one (i := 8) (by kernel_rfl) rfl (fun K hK => ?seb8)
                      go_simp
                      refine hK.out _ _ (fun h => absurd rfl h) (fun _ => ?meb8)
                      clear hK K
                      try simp only [Act.put, List.getElem_toArray, List.getElem_cons_succ, List.getElem_cons_zero, List.setIfInBounds_toArray, List.set_cons_zero, List.set_cons_succ]
                      refine wpAnyL_done (by kernel_rfl) ?_ _
                      clear hle9
                      go_wp2_with fail
                      go_roundw
                      case rel =>
                        have hx5 : ResA w.heap.size w w5 (E3.agg ⟨.bool m5, .slice f1 l1 j1, .slice f2 l2 j2⟩) val m := Q5.out
                        obtain ⟨hrow6, hb6⟩ := pushE2 (P := (fun W v x => ResA w.heap.size w W v x m)) (e := ⟨.bool m5, .slice f1 l1 j1, .slice f2 l2 j2⟩) hB5 (Nat.le_refl _) hsz5 hown5 hall5 hx5 (fun u y h => ResA.apart hown5 hgrow (by decide) h) hown' hgrow
                        rw [HLE.out] at hrow6
                        have rs6 : ResS w.heap.size w6 (.slice a3 N c3) S := ResS.apart hown5 hgrow (by decide) (rs.later hb5w)
                        refine ⟨k + 1, _, by go_num, by omega, (r0.kept hk6 n0).far (by show w.heap.size ≠ g; omega) _, (r1.kept hk6 n1).far (by show w.heap.size + 1 ≠ g; omega) _, RG6.set21 _, rs6.far RG6 (by decide) (kept1 _), ?_, hb6.setCell (by show w.heap.size ≤ g; omega) _⟩
                        rw [HNV.out]
                        exact hrow6.far RG6 (by decide) (kept1 _) (fun u y h => h.far RG6 (by decide) (kept1 _))
                      case measure => simp [intOf]; omega
                · obtain rfl : k = CN := by omega
                  have hkC : ¬ (k : Int) < (k : Int) := by omega
                  have hcnt := fun X (h : Below wr.heap.size wr X) => count9_any (A3.later h) HOKS.out.pos (by have := HOKS.out.rank; omega)
                  rw [cntR_ok HOKS.out, HPC.out] at hcnt
                  go_wp2_with fail
                  refine (hcnt _ (Below.refl _ _)).mono ?_
                  rintro e wq ⟨rfl, rfl⟩
                  clear hcnt
                  have hall := QA.out
                  have hown := QO.out
                  rw [List.take_of_length_le (by have h := HRES.out; omega)] at hall
                  obtain ⟨av, cv, rfl⟩ := ownT_slice hown
                  have hel : es.length = k := HLE.out
                  have HRG := QG.out
                  rw [hel] at HRG hown
                  have c20 := HRG.cell 0
                  have d21 := HRG.cell 1
                  obtain ⟨g10, g11, f10, f11⟩ := Q1.out.two
                  have RRs := Q1.out.set2 (.slice a3 N c3) (.slice av k cv)
                  obtain ⟨z0, z1, _, _⟩ := RRs.two
                  have HOWN := Lib.hid hown
                  have HALL := Lib.hid hall
                  clear hown hall RRs hel cg0 cg1 c01 rg r0
                  go_wp2_with fail
                  have hbE := below_set2 QB.out (show w.heap.size ≤ w.heap.size + 1 by omega) (.slice a3 N c3) (.slice av k cv)
                  have hsE : ResS w.heap.size _ (.slice a3 N c3) S := QS.out.far Q1.out (by decide) (kept2 (.slice a3 N c3) (.slice av k cv))
                  have hrE := RowO.far (P := (fun W v x => ResA w.heap.size w W v x m)) ⟨es, HOWN.out, HALL.out⟩ Q1.out (by decide) (kept2 (.slice a3 N c3) (.slice av k cv)) (fun u y h => h.far Q1.out (by decide) (kept2 _ _))
                  have hfin := tenR_of (n := m) (s := S) (L := LR) (a := a3) (ca := c3) (b := av) (cb := cv) (m := k) HRES.out.symm hbE (by rw [HML.out]; exact hsE) (hrE.mono (by omega) (fun v x h => h))
                  rw [HML.out] at hfin
                  exact bodyPost_ret (v := .tuple #[.agg #[.slice a3 N c3, .slice av k cv], .int .i64 0]) (by simp [results, Tryz.results27, go_sem, z0, z1]) rfl ⟨⟨_, rfl, ⟨_, _, _, _, _, _, rfl⟩, fun _ => hfin⟩, hbE⟩
  · have hlI : ((Q : Int) != 2 * (N : Int)) = true := by simp; omega
    obtain rfl : c = 11 := by rw [← HC.out]; unfold pdCW; rw [if_pos (by rw [HQ.out, HN.out]; exact hlen)]
    clear hlen
    go_enter Tryz.func27, Tryz.ntmps27
    have hb : Below W.heap.size W W := Below.refl _ _
    have P1 := H1.out.later hb
    obtain ⟨u0, u1, g0', g1'⟩ := P1.two
    have P3 := P1.set2 (.slice none 0 0) (.slice none 0 0)
    obtain ⟨z0, z1, _, _⟩ := P3.two
    have hBE := below_set2 (HB.out.trans ((hb : Below W.heap.size W _).mono (by omega))) (show w.heap.size ≤ w.heap.size + 1 by omega) (.slice none 0 0) (.slice none 0 0)
    go_wp2_with fail
    (try rw [hW])
    refine bodyPost_ret (v := .tuple #[noTensor, .int .i64 11]) (by simp [results, Tryz.results27, go_sem, z0, z1, noTensor]) rfl ⟨⟨_, rfl, ⟨none, 0, 0, none, 0, 0, rfl⟩, fun h => by cases h⟩, hBE⟩
end Go.Proofs.YtooglnhlhgmhdaaGreat
