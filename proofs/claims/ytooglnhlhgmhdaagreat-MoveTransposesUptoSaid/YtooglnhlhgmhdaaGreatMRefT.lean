/-
  The reference of layer 9: Transpose. (Made by wip/gen/gen_mreft.py.)
-/
import Derived.Test.YtooglnhlhgmhdaaGreatMRef0
namespace Go.Proofs.YtooglnhlhgmhdaaGreat
open Go.RowKit
set_option linter.unusedVariables false
set_option linter.unusedSimpArgs false

theorem permC_is9 {p : List Int} {r : Nat} (h : permC p r = 0) : IsPerm p ∧ p.length = r := by
  unfold permC at h
  split at h
  · rename_i h1
    obtain ⟨h2, h3⟩ := permB_is h1
    exact ⟨h2, by omega⟩
  · cases h
theorem permB_len9 {p : List Int} {n : Nat} (h : p.length ≠ n) : permB p n = false := by
  cases hb : permB p n
  · rfl
  · have := (permB_is hb).2
    omega
theorem permB_cnt {p : List Int} {n d : Nat} (h : d < n) (hc : p.count (d : Int) ≠ 1) : permB p n = false := by
  cases hb : permB p n
  · rfl
  · obtain ⟨h2, h3⟩ := permB_is hb
    refine absurd ?_ hc
    rw [h2.nodup.count, if_pos ((h2.mem _).2 (by omega))]
theorem permB_all {p : List Int} {n : Nat} (hl : p.length = n) (h : ∀ j : Nat, j < n → (j : Int) ∈ p) : permB p n = true := by
  unfold permB
  rw [Bool.and_eq_true, decide_eq_true_iff, decide_eq_true_iff]
  exact ⟨fun j hj => h j (by omega), by omega⟩
theorem cnt_next {p : List Int} {d : Int} {j : Nat} (h : j < p.length) : (p.take (j + 1)).count d = (p.take j).count d + if p.getD j 0 = d then 1 else 0 := by
  rw [take_next h, List.count_append, List.count_singleton]
  by_cases e : p.getD j 0 = d <;> simp [e]
theorem cnt_le {p : List Int} {d : Int} {j : Nat} : (p.take j).count d ≤ j := Nat.le_trans List.count_le_length (by rw [List.length_take]; omega)
set_option maxRecDepth 100000 in
set_option maxHeartbeats 40000000 in
theorem permutation_any {w : World} {u : Value} {p : List Int} {a : Option Addr} {ca n : Nat} (A : ArgS w u p a ca) (hp : p.length ≤ 8000000) (hn : n ≤ 8000000) :
    Calls Tryz.prog 46 #[u, .int .i64 (n : Int)] w fun e w' => e = .returned (.bool (permB p (n : Int))) ∧ w = w' := by
  have HA := Lib.hid A
  obtain rfl := A.is
  obtain ⟨r, hr⟩ : ∃ r, permB p (n : Int) = r := ⟨_, rfl⟩
  have HR := Lib.hid hr
  rw [hr]
  obtain ⟨L, hL⟩ : ∃ L, p.length = L := ⟨_, rfl⟩
  have HL := Lib.hid hL
  rw [hL] at hp ⊢
  clear A hr hL
  by_cases he : L = n
  · obtain rfl := he
    have hlI : ((L : Int) != (L : Int)) = false := by simp
    go_enter Tryz.func46, Tryz.ntmps46
    go_wp2_with fail
    go_loopw [5, 6, 7] (fun d _ _ wr => ∃ (k : Nat), d = .int .i64 (k : Int) ∧ k ≤ L ∧ (∀ j : Nat, j < k → (j : Int) ∈ p) ∧ w = wr) (fun d _ _ _ => L - (intOf d).toNat)
    case atStart => exact ⟨0, rfl, Nat.zero_le _, fun j hj => by omega, by trivial⟩
    case round =>
      obtain ⟨k, rfl, hk, hm, rfl⟩ := hrel
      have HM := Lib.hid hm
      clear hm
      by_cases hlt : k < L
      · have hltI : (k : Int) < (L : Int) := by omega
        go_wp2_with fail
        go_loopw [6, 7] (fun c i wi => ∃ (j cc : Nat), i = .int .i64 (j : Int) ∧ c = .int .i64 (cc : Int) ∧ j ≤ L ∧ cc = (p.take j).count (k : Int) ∧ w = wi) (fun _ i _ => L - (intOf i).toNat)
        case atStart => exact ⟨0, 0, rfl, rfl, Nat.zero_le _, by simp, by trivial⟩
        case round =>
          obtain ⟨j, cc, rfl, rfl, hj, hc, rfl⟩ := hrel
          have hcl : cc ≤ j := by rw [hc]; exact cnt_le
          have HCC := Lib.hid hc
          clear hc
          by_cases hlt2 : j < L
          · have hltJ : (j : Int) < (L : Int) := by omega
            have hjs : j < p.length := by rw [HL.out]; exact hlt2
            obtain ⟨b1, o1, rfl, c1⟩ := HA.out.at hjs
            have hnx := cnt_next (d := (k : Int)) hjs
            rw [← HCC.out] at hnx
            obtain ⟨x, hx⟩ : ∃ x, p.getD j 0 = x := ⟨_, rfl⟩
            rw [hx] at c1 hnx
            have HNX := Lib.hid hnx
            have wc : IntKind.i64.wrap ((cc : Int) + 1) = (cc : Int) + 1 := wrap_i64 (by omega) (by omega)
            clear hnx hx hjs
            by_cases e : x = (k : Int)
            · have hee : (x == (k : Int)) = true := by simp [e]
              go_wp2_with fail
              go_roundw
              case rel => exact ⟨j + 1, cc + 1, by go_num, by go_num, by omega, by rw [HNX.out, if_pos e], by trivial⟩
              case measure => simp [intOf]; omega
            · have hee : (x == (k : Int)) = false := by simp [e]
              go_wp2_with fail
              go_roundw
              case rel => exact ⟨j + 1, cc, by go_num, rfl, by omega, by rw [HNX.out, if_neg e]; omega, by trivial⟩
              case measure => simp [intOf]; omega
          · obtain rfl : L = j := by omega
            have hltJ : ¬ (L : Int) < (L : Int) := by omega
            have hcnt : p.count (k : Int) = cc := by rw [HCC.out, ← HL.out, List.take_length]
            by_cases h1 : cc = 1
            · have hce : ((cc : Int) != 1) = false := by simp; omega
              have hmem : (k : Int) ∈ p := List.count_pos_iff.1 (by omega)
              have HME := Lib.hid hmem
              clear hmem hcnt h1
              go_wp2_with fail
              go_roundw
              case rel =>
                refine ⟨k + 1, by go_num, by omega, fun i hi => ?_, by trivial⟩
                by_cases e : i = k
                · subst e
                  exact HME.out
                · exact HM.out i (by omega)
              case measure => simp [intOf]; omega
            · have hce : ((cc : Int) != 1) = true := by simp; omega
              obtain rfl : r = false := by rw [← HR.out]; exact permB_cnt hlt (by rw [hcnt]; exact h1)
              clear hcnt h1
              go_wp2_with fail
              go_ret
              exact ⟨rfl, rfl⟩
      · obtain rfl : L = k := by omega
        have hltI : ¬ (L : Int) < (L : Int) := by omega
        obtain rfl : r = true := by rw [← HR.out]; exact permB_all HL.out HM.out
        go_wp2_with fail
        go_ret
        exact ⟨rfl, rfl⟩
  · have hlI : ((L : Int) != (n : Int)) = true := by simp; omega
    obtain rfl : r = false := by rw [← HR.out]; exact permB_len9 (by rw [HL.out]; exact he)
    go_enter Tryz.func46, Tryz.ntmps46
    go_wp2_with fail
    go_ret
    exact ⟨rfl, rfl⟩
def trC (s t : List Int) : Int := permC t s.length
set_option maxRecDepth 100000 in
set_option maxHeartbeats 40000000 in
theorem transR_any {m : Nat} {w : World} {v : Value} {s t : List Int} {L : List Rat} {ad : Option Addr} {cd : Nat} (T : TenR w v s L m) (ok : Ok9 s L.length) (D : ArgS w (.slice ad t.length cd) t ad cd) (nd : ad = none → cd = 0) (ht : t.length ≤ 8000000) (hm : 6 ≤ m) :
    Calls Tryz.prog 16 #[v, .slice ad t.length cd] w fun e w' => RefA w' e (trC s t) (trS s t) (trV s t L) m ∧ Below w.heap.size w w' := by
  obtain ⟨i0, hiS, hz0, hz1, hz2⟩ := info_parts infoS
  obtain ⟨j0, hjR, hyA, hyB, hyC⟩ := info_parts infoR
  obtain ⟨a, ca, b, cb, T⟩ := T
  obtain rfl := T.is
  have HOK := Lib.hid ok
  have HND := Lib.hid nd
  have hle := ok.le
  obtain ⟨N, hN⟩ : ∃ N, s.length = N := ⟨_, rfl⟩
  obtain ⟨K, hK⟩ : ∃ K, L.length = K := ⟨_, rfl⟩
  obtain ⟨Q, hQ⟩ : ∃ Q, t.length = Q := ⟨_, rfl⟩
  have HN := Lib.hid hN
  have HK := Lib.hid hK
  have HQ := Lib.hid hQ
  rw [hN, hK] at T
  rw [hN, hK] at hle
  rw [hQ] at D ht
  rw [hN, hK, hQ]
  have HT : Hid (TensR w (.agg #[.slice a N ca, .slice b K cb]) s L m a ca b cb) := Lib.hid T
  have HD : Hid (ArgS w (.slice ad Q cd) t ad cd) := Lib.hid D
  obtain ⟨c, hc⟩ : ∃ c, trC s t = c := ⟨_, rfl⟩
  obtain ⟨S, hS⟩ : ∃ S, trS s t = S := ⟨_, rfl⟩
  obtain ⟨LR, hLR⟩ : ∃ LR, trV s t L = LR := ⟨_, rfl⟩
  have HC := Lib.hid hc
  have HS := Lib.hid hS
  have HLR := Lib.hid hLR
  rw [hc, hS, hLR]
  obtain ⟨W, hW⟩ : ∃ W, ((w.alloc (.cells #[.slice a N ca, .slice b K cb] 34)).alloc (.cells #[.slice none 0 0, .slice none 0 0] 34)) = W := ⟨_, rfl⟩
  have R0 : Row W w.heap.size 34 #[.slice a N ca, .slice b K cb] := by rw [← hW]; exact (Row.new _ _ _).alloc _
  have R1 : Row W (w.heap.size + 1) 34 #[.slice none 0 0, .slice none 0 0] := by rw [← hW]; have h := Row.new (w.alloc (.cells #[.slice a N ca, .slice b K cb] 34)) 34 #[.slice none 0 0, .slice none 0 0]; simp only [World.size_alloc] at h; exact h
  have hBW : Below w.heap.size w W := by rw [← hW]; exact ((Below.refl _ _).alloc (Nat.le_refl _) _).alloc (by simp) _
  have hsW : W.heap.size = w.heap.size + 1 + 1 := by rw [← hW]; simp
  have H0 := Lib.hid R0
  have H1 := Lib.hid R1
  have HB := Lib.hid hBW
  have tsh : ∀ X, Below w.heap.size w X → ArgS X (.slice a N ca) s a ca := fun X h => by
    have h1 := HT.out.sh.later h
    rw [HN.out] at h1
    exact h1
  have TSH := Lib.hid tsh
  have dX : ∀ X, Below w.heap.size w X → ArgS X (.slice ad Q cd) t ad cd := fun X h => HD.out.later h
  have DX := Lib.hid dX
  have zW : w.heap.size < W.heap.size := by omega
  obtain ⟨p0, p1, _, _⟩ := R0.two
  have hpm := permutation_any (n := N) (dX W hBW) (by rw [hQ]; exact ht) (by have := ok.ok.rank; omega)
  obtain ⟨r, hr⟩ : ∃ r, permB t (N : Int) = r := ⟨_, rfl⟩
  rw [hr] at hpm
  have HRR := Lib.hid hr
  clear hr
  clear T ok D nd hN hK hQ hc hS hLR R0 R1 hBW tsh dX
  cases r
  · obtain rfl : c = 11 := by rw [← HC.out]; unfold trC permC; rw [HN.out, if_neg (by rw [HRR.out]; simp)]
    go_enter Tryz.func16, Tryz.ntmps16
    go_wp2_with fail
    (try rw [hW])
    refine hpm.mono ?_
    rintro e W1 ⟨rfl, hEq⟩
    have hb : Below W.heap.size W W1 := by rw [← hEq]; exact Below.refl _ _
    clear hEq hW p0 p1 hpm
    have P1 := H1.out.later hb
    obtain ⟨u0, u1, g0', g1'⟩ := P1.two
    have P3 := P1.set2 (.slice none 0 0) (.slice none 0 0)
    obtain ⟨z0, z1, _, _⟩ := P3.two
    have hBE := below_set2 (HB.out.trans ((hb : Below W.heap.size W _).mono (by omega))) (show w.heap.size ≤ w.heap.size + 1 by omega) (.slice none 0 0) (.slice none 0 0)
    go_wp2_with fail
    refine bodyPost_ret (v := .tuple #[noTensor, .int .i64 11]) (by simp [results, Tryz.results16, go_sem, z0, z1, noTensor]) rfl ⟨⟨_, rfl, ⟨none, 0, 0, none, 0, 0, rfl⟩, fun h => by cases h⟩, hBE⟩
  · have hper : permC t s.length = 0 := by unfold permC; rw [HN.out, HRR.out]; rfl
    have hpp := permC_is9 hper
    obtain rfl : c = 0 := by rw [← HC.out]; exact hper
    obtain rfl : N = Q := by rw [← HN.out, ← HQ.out]; exact hpp.2.symm
    have HPP := Lib.hid hpp.1
    have htr := trS_ok hpp.1 hpp.2 HOK.out.ok
    rw [HS.out] at htr
    have HTR := Lib.hid htr
    clear hpp hper htr
    go_enter Tryz.func16, Tryz.ntmps16
    go_wp2_with fail
    (try rw [hW])
    refine hpm.mono ?_
    rintro e W1 ⟨rfl, hEq⟩
    have hb : Below W.heap.size W W1 := by rw [← hEq]; exact Below.refl _ _
    have hbw : Below w.heap.size w W1 := HB.out.trans (hb.mono (by omega))
    have hsz := hb.size
    obtain ⟨k0, k1, _, _⟩ := (H0.out.later hb).two
    clear hEq hW p0 p1 hpm
    have HBW1 := Lib.hid hb
    have HB1 := Lib.hid hbw
    obtain ⟨g, hg⟩ : ∃ g, W1.heap.size = g := ⟨_, rfl⟩
    have hgw : w.heap.size + 1 + 1 ≤ g := by omega
    have hWg : W.heap.size ≤ g := by omega
    have HBW1 := Lib.hid hb
    have HG1 := Lib.hid hg
    clear hb hbw hg
    go_wp2_with fail
    obtain ⟨W2, hW2⟩ : ∃ Y, W1.alloc (.cells #[.slice none 0 0, .slice none 0 0] 34) = Y := ⟨_, rfl⟩
    have RG : Row W2 g 34 #[.slice none 0 0, .slice none 0 0] := by rw [← hW2, ← HG1.out]; exact Row.new _ _ _
    have b2 : Below g W1 W2 := by rw [← hW2, ← HG1.out]; exact (Below.refl _ _).alloc (Nat.le_refl _) _
    have HRG := Lib.hid RG
    have HB2 := Lib.hid b2
    (try rw [hW2])
    (try rw [HG1.out])
    clear RG b2 hW2 k0 k1
    go_loopw [7] (fun i wr => ∃ (j : Nat) (v : Value), i = .int .i64 (j : Int) ∧ j ≤ N ∧ Row wr g 34 #[v, .slice none 0 0] ∧ ResS g wr v (S.take j) ∧ Below g W1 wr) (fun i _ => N - (intOf i).toNat)
    case atStart => exact ⟨0, _, rfl, Nat.zero_le _, HRG.out, ResS.nil _ _, HB2.out⟩
    case round =>
      obtain ⟨j, v, rfl, hj, rg, rs, hb⟩ := hrel
      have hbW : Below W.heap.size W wr := HBW1.out.trans (hb.mono hWg)
      have hbw : Below w.heap.size w wr := HB.out.trans (hbW.mono (by omega))
      have hgs : g ≤ wr.heap.size := by have h := hb.size; rw [HG1.out] at h; exact h
      have hg0 : g < wr.heap.size := rg.lt
      skip
      obtain ⟨k0, k1, _, _⟩ := (H0.out.later hbW).two
      have cg0 := rg.cell 0
      skip
      by_cases hlt : j < N
      · have hltI : (j : Int) < (N : Int) := by omega
        have hks : j < s.length := by rw [HN.out]; exact hlt
        obtain ⟨zs, hzs⟩ : ∃ z, S.take j = z := ⟨_, rfl⟩
        have hSj : j < S.length := by rw [← HS.out]; rw [trS_len, HQ.out]; exact hlt
        have hnx : S.take (j + 1) = S.take j ++ [S.getD j 0] := take_next hSj
        have hz16 : zs.length ≤ 16 := by rw [← hzs, List.length_take]; omega
        rw [hzs] at rs hnx
        have HNX := Lib.hid hnx
        clear hzs hnx hSj
        obtain ⟨bt, ot, rfl, cs1⟩ := (DX.out _ hbw).at (i := j) (by rw [HQ.out]; exact hlt)
        have hlow := HPP.out.low (i := j) (by rw [HQ.out]; exact hlt)
        rw [HQ.out] at hlow
        obtain ⟨x, hx⟩ : ∃ x : Nat, t.getD j 0 = (x : Int) := ⟨(t.getD j 0).toNat, by omega⟩
        rw [hx] at cs1 hlow
        have hxl : x < N := by omega
        have hxI : (x : Int) < (N : Int) := by omega
        have hxs : x < s.length := by rw [HN.out]; exact hxl
        obtain ⟨bs, os, rfl, cs3⟩ := (TSH.out _ hbw).at (i := x) hxs
        have hd4 := getD_le_prod HOK.out.ok.pos hxs
        have hd3 := HOK.out.ok.pos.getD hxs
        have hd5 := HOK.out.ok.few
        obtain ⟨d, hd⟩ : ∃ d, s.getD x 0 = d := ⟨_, rfl⟩
        rw [hd] at cs3 hd4 hd3
        have HSV : Hid (S.getD j 0 = d) := Lib.hid (by rw [← HS.out, trS_at s t (by rw [HQ.out]; exact hlt), hx, show ((x : Int)).toNat = x by omega, hd])
        have hbt : bt < w.heap.size := by
          obtain ⟨b', o', e1, e2⟩ := HD.out.at (i := j) (by rw [HQ.out]; exact hlt)
          cases e1
          exact World.block_lt_of_cell? _ _ e2
        have hbs : bs < w.heap.size := by
          obtain ⟨b', o', e1, e2⟩ := HT.out.sh.at (i := x) hxs
          cases e1
          exact World.block_lt_of_cell? _ _ e2
        clear hx hd hlow hxs
        go_wp2_with fail
        obtain ⟨r, hrv, hrb, hrne, _, _⟩ := ownV_hits rs.num hgs
        have ng := hrne _ _ _ rg (by decide)
        have mkSsa : ∀ X, Kept r wr X → X.cell? ⟨g, 0, none⟩ = some v ∧ X.cell? ⟨w.heap.size, 0, none⟩ = some (.slice (some ⟨bs, os, none⟩) N ca) ∧ X.cell? ⟨bt, ot + j, none⟩ = some (.int .i64 (x : Int)) ∧ X.cell? ⟨bs, os + x, none⟩ = some (.int .i64 d) ∧ Kept r wr X := fun X h => ⟨h.cell cg0 ng, h.cell k0 (by show w.heap.size ≠ r; omega), h.cell cs1 (by show bt ≠ r; omega), h.cell cs3 (by show bs ≠ r; omega), h⟩
        have hS0sa := mkSsa wr.drew ((Kept.refl r wr).drew)
        refine wp_region_L (S := fun X => X.cell? ⟨g, 0, none⟩ = some v ∧ X.cell? ⟨w.heap.size, 0, none⟩ = some (.slice (some ⟨bs, os, none⟩) N ca) ∧ X.cell? ⟨bt, ot + j, none⟩ = some (.int .i64 (x : Int)) ∧ X.cell? ⟨bs, os + x, none⟩ = some (.int .i64 d) ∧ Kept r wr X) (z := 13) (by kernel_rfl) hS0sa (fun hHeld => ?_)
        refine wpAnyL_take (i := 0) (v := ?vsaa0) rfl (by kernel_rfl) (by kernel_rfl) (by kernel_rfl) (by kernel_rfl) (fun _ _ _ h => h) (Or.inl ⟨by rfl, ?hsaa0⟩) (by assumption) ?rsaa0
        case hsaa0 =>
          intro w hSw
          try dsimp only at hSw
          go_simp
          try with_reducible rfl
        try simp only [Act.put, List.getElem_toArray, List.getElem_cons_succ, List.getElem_cons_zero, List.setIfInBounds_toArray, List.set_cons_zero, List.set_cons_succ]
        refine wpAnyL_take (i := 1) (v := ?vsaa1) rfl (by kernel_rfl) (by kernel_rfl) (by kernel_rfl) (by kernel_rfl) (fun _ _ _ h => h) (Or.inl ⟨by rfl, ?hsaa1⟩) (by assumption) ?rsaa1
        case hsaa1 =>
          intro w hSw
          try dsimp only at hSw
          go_simp
          try with_reducible rfl
        try simp only [Act.put, List.getElem_toArray, List.getElem_cons_succ, List.getElem_cons_zero, List.setIfInBounds_toArray, List.set_cons_zero, List.set_cons_succ]
        refine wpAnyL_take (i := 2) (v := ?vsaa2) rfl (by kernel_rfl) (by kernel_rfl) (by kernel_rfl) (by kernel_rfl) (fun _ _ _ h => h) (Or.inl ⟨by rfl, ?hsaa2⟩) (by assumption) ?rsaa2
        case hsaa2 =>
          intro w hSw
          try dsimp only at hSw
          go_simp
          try with_reducible rfl
        try simp only [Act.put, List.getElem_toArray, List.getElem_cons_succ, List.getElem_cons_zero, List.setIfInBounds_toArray, List.set_cons_zero, List.set_cons_succ]
        refine wpAnyL_take (i := 3) (v := ?vsaa3) rfl (by kernel_rfl) (by kernel_rfl) (by kernel_rfl) (by kernel_rfl) (fun _ _ _ h => h) (Or.inl ⟨by rfl, ?hsaa3⟩) (by assumption) ?rsaa3
        case hsaa3 =>
          intro w hSw
          try dsimp only at hSw
          go_simp
          try with_reducible rfl
        try simp only [Act.put, List.getElem_toArray, List.getElem_cons_succ, List.getElem_cons_zero, List.setIfInBounds_toArray, List.set_cons_zero, List.set_cons_succ]
        refine wpAnyL_take (i := 4) (v := ?vsaa4) rfl (by kernel_rfl) (by kernel_rfl) (by kernel_rfl) (by kernel_rfl) (fun _ _ _ h => h) (Or.inl ⟨by rfl, ?hsaa4⟩) (by assumption) ?rsaa4
        case hsaa4 =>
          intro w hSw
          try dsimp only at hSw
          go_simp
          try with_reducible rfl
        try simp only [Act.put, List.getElem_toArray, List.getElem_cons_succ, List.getElem_cons_zero, List.setIfInBounds_toArray, List.set_cons_zero, List.set_cons_succ]
        refine wpAnyL_take (i := 5) (v := ?vsaa5) rfl (by kernel_rfl) (by kernel_rfl) (by kernel_rfl) (by kernel_rfl) (fun _ _ _ h => h) (Or.inl ⟨by rfl, ?hsaa5⟩) (by assumption) ?rsaa5
        case hsaa5 =>
          intro w hSw
          try dsimp only at hSw
          go_simp
          try with_reducible rfl
        try simp only [Act.put, List.getElem_toArray, List.getElem_cons_succ, List.getElem_cons_zero, List.setIfInBounds_toArray, List.set_cons_zero, List.set_cons_succ]
        refine wpAnyL_take (i := 6) (v := ?vsaa6) rfl (by kernel_rfl) (by kernel_rfl) (by kernel_rfl) (by kernel_rfl) (fun _ _ _ h => h) (Or.inl ⟨by rfl, ?hsaa6⟩) (by assumption) ?rsaa6
        case hsaa6 =>
          intro w hSw
          try dsimp only at hSw
          go_simp
          try with_reducible rfl
        try simp only [Act.put, List.getElem_toArray, List.getElem_cons_succ, List.getElem_cons_zero, List.setIfInBounds_toArray, List.set_cons_zero, List.set_cons_succ]
        refine wpAnyL_take (i := 7) (v := ?vsaa7) rfl (by kernel_rfl) (by kernel_rfl) (by kernel_rfl) (by kernel_rfl) (fun _ _ _ h => h) (Or.inl ⟨by rfl, ?hsaa7⟩) (by assumption) ?rsaa7
        case hsaa7 =>
          intro w hSw
          try dsimp only at hSw
          go_simp
          try with_reducible rfl
        try simp only [Act.put, List.getElem_toArray, List.getElem_cons_succ, List.getElem_cons_zero, List.setIfInBounds_toArray, List.set_cons_zero, List.set_cons_succ]
        refine wpAnyL_take (i := 8) (v := ?vsaa8) rfl (by kernel_rfl) (by kernel_rfl) (by kernel_rfl) (by kernel_rfl) (fun _ _ _ h => h) (Or.inl ⟨by rfl, ?hsaa8⟩) (by assumption) ?rsaa8
        case hsaa8 =>
          intro w hSw
          try dsimp only at hSw
          go_simp
          try with_reducible rfl
        try simp only [Act.put, List.getElem_toArray, List.getElem_cons_succ, List.getElem_cons_zero, List.setIfInBounds_toArray, List.set_cons_zero, List.set_cons_succ]
        refine wpAnyL_take (i := 9) (v := ?vsaa9) rfl (by kernel_rfl) (by kernel_rfl) (by kernel_rfl) (by kernel_rfl) (fun _ _ _ h => h) (Or.inl ⟨by rfl, ?hsaa9⟩) (by assumption) ?rsaa9
        case hsaa9 =>
          intro w hSw
          try dsimp only at hSw
          go_simp
          try with_reducible rfl
        try simp only [Act.put, List.getElem_toArray, List.getElem_cons_succ, List.getElem_cons_zero, List.setIfInBounds_toArray, List.set_cons_zero, List.set_cons_succ]
        obtain ⟨w5, hw5⟩ : ∃ Y, wr.drew = Y := ⟨_, rfl⟩
        have hb5 : Below wr.heap.size wr w5 := by rw [← hw5]; exact (Below.refl _ wr).drew
        have hk5 : Kept r wr w5 := (Kept.refl r wr).below hb5
        rw [hw5] at hHeld ⊢
        clear hw5
        refine wpAnyL_one (i := 10) (by kernel_rfl) rfl (fun K hK => ?ssab10)
        go_simp
        refine hK.out _ _ (fun _ => mkSsa _ (hk5.alloc _)) (fun hHeld2 => ?msab10)
        clear hK K hHeld
        have hHeld := hHeld2 (by decide)
        clear hHeld2
        try simp only [Act.put, List.getElem_toArray, List.getElem_cons_succ, List.getElem_cons_zero, List.setIfInBounds_toArray, List.set_cons_zero, List.set_cons_succ]
        refine wpAnyL_one (i := 11) (by kernel_rfl) rfl (fun K hK => ?ssab11)
        have hn5 : NumS g w5 v zs := rs.num.later hb5
        have hsz5 := hb5.size
        refine step_append_ownT rfl _ _ 22 rfl g 3 i0 (.int .i64 0) 1 8 Tryz.underlying22 hiS hz0 hz1 hz2 rfl (by decide) _ zs.length (zs.map (Value.int .i64)) rfl (hn5.later ((Below.refl _ _).alloc (Nat.le_refl _) _)) ⟨w5.heap.size, 0, none⟩ 1 1 [.int .i64 d] rfl rfl (fun j u hj => ?celsa) (by simp [Value.oneCell']) (by unfold maxLen; omega) (by omega) (by simp; omega) ?_
        case celsa =>
          have R := Row.new w5 3 #[.int .i64 d]
          match j, hj with
          | 0, hj => simp at hj; subst hj; exact R.cell 0
          | j + 1, hj => simp at hj
        intro v' w6 hown' hgrow _
        obtain ⟨av, cv, rfl⟩ := ownT_slice hown'
        have hk6 : Kept r wr w6 := (hk5.alloc _).grown hgrow hrv
        refine hK.out _ _ (fun _ => mkSsa _ hk6) (fun hHeld2 => ?msab11)
        clear hK K hHeld
        have hHeld := hHeld2 (by decide)
        clear hHeld2
        try simp only [Act.put, List.getElem_toArray, List.getElem_cons_succ, List.getElem_cons_zero, List.setIfInBounds_toArray, List.set_cons_zero, List.set_cons_succ]
        refine wpAnyL_take (i := 12) (v := ?vsaa12) rfl (by kernel_rfl) (by kernel_rfl) (by kernel_rfl) (by kernel_rfl) (fun _ _ _ h => h) (Or.inl ⟨by rfl, ?hsaa12⟩) (by assumption) ?rsaa12
        case hsaa12 =>
          intro w hSw
          try dsimp only at hSw
          go_simp
          try with_reducible rfl
        try simp only [Act.put, List.getElem_toArray, List.getElem_cons_succ, List.getElem_cons_zero, List.setIfInBounds_toArray, List.set_cons_zero, List.set_cons_succ]
        have RG6 := rg.kept hk6 ng
        have f21 := RG6.free 0
        have d21 := RG6.cell 0
        refine wpAnyL_one (i := 13) (by kernel_rfl) rfl (fun K hK => ?ssab13)
        go_simp
        refine hK.out _ _ (fun h => absurd rfl h) (fun _ => ?msab13)
        clear hK K
        try simp only [Act.put, List.getElem_toArray, List.getElem_cons_succ, List.getElem_cons_zero, List.setIfInBounds_toArray, List.set_cons_zero, List.set_cons_succ]
        refine wpAnyL_done (by kernel_rfl) ?_ _
        have hN6 : NumS g w6 (.slice av (zs.length + 1) cv) (zs ++ [d]) := by
          unfold NumS
          rw [List.length_append, List.map_append]
          exact hown'
        have hwz : Wid (zs ++ [d]) := fun x hx => by
          rcases List.mem_append.1 hx with h | h
          · exact rs.wf x h
          · simp only [List.mem_singleton] at h
            subst h
            omega
        have rs6 : ResS g w6 _ (zs ++ [d]) := ⟨hN6, hwz⟩
        have hb6 : Below g W1 w6 := (hk6.under (B := g) hb (by omega) hrb)
        go_wp2_with fail
        go_roundw
        case rel =>
          refine ⟨j + 1, _, by go_num, by omega, RG6.set20 _, ?rs, hb6.setCell (by show g ≤ g; omega) _⟩
          case rs =>
            rw [HNX.out, HSV.out]
            exact rs6.far RG6 (by decide) (kept1 _)
        case measure => simp [intOf]; omega
      · obtain rfl : N = j := by omega
        have hltI : ¬ (N : Int) < (N : Int) := by omega
        have hSN : S.length = N := by rw [← HS.out]; rw [trS_len, HQ.out]
        rw [List.take_of_length_le (by omega)] at rs
        obtain ⟨a3, c3, rfl⟩ := ownT_slice rs.num
        have hrs := rs.mono (show w.heap.size ≤ g by omega)
        rw [hSN] at hrs rg cg0
        have HML := Lib.hid hSN
        have H05 := Lib.hid (H0.out.later hbW)
        have H15 := Lib.hid (H1.out.later hbW)
        have HG := Lib.hid rg
        have HSS := Lib.hid hrs
        have HB5 := Lib.hid hbw
        have hg2 : w.heap.size + 1 + 1 ≤ g := hgw
        have HOKS := Lib.hid HTR.out.1
        have HPC : Hid (prodS S = (K : Int)) := Lib.hid (by have h := HOK.out.len; rw [HK.out] at h; rw [HTR.out.2]; omega)
        have HRES : Hid (LR.length = K) := Lib.hid (by rw [← HLR.out]; unfold trV; rw [fillV_len, HS.out, HPC.out]; rfl)
        have hCN1 : K ≤ 1024 := by have := HOK.out.le; rw [HK.out] at this; omega
        clear hrs rs hSN hb
        go_wp2_with fail
        clear k0 k1 cg0 rg hbw hbW
        go_loopw [8, 9, 10, 11] (fun i _ _ _ wr => ∃ (k : Nat) (v : Value), i = .int .i64 (k : Int) ∧ k ≤ K ∧ Row wr w.heap.size 34 #[.slice a N ca, .slice b K cb] ∧ Row wr (w.heap.size + 1) 34 #[.slice none 0 0, .slice none 0 0] ∧
          Row wr g 34 #[.slice a3 N c3, v] ∧ ResS w.heap.size wr (.slice a3 N c3) S ∧ RowO w.heap.size 75 (fun W v x => ResA w.heap.size w W v x m) wr v (LR.take k) ∧ Below w.heap.size w wr) (fun i _ _ _ _ => K - (intOf i).toNat)
        case atStart => exact ⟨0, _, rfl, Nat.zero_le _, H05.out, H15.out, HG.out, HSS.out, RowO.nil _ _ _ _, HB5.out⟩
        case round =>
          obtain ⟨k, v, rfl, hk, r0, r1, rg, rs, ⟨es, hown, hall⟩, hb⟩ := hrel
          have hsz := hb.size
          have hle9 : es.length = k := by have h := HRES.out; rw [hall.1, List.length_take, h]; omega
          have HLE := Lib.hid hle9
          have Q0 := Lib.hid r0
          have Q1 := Lib.hid r1
          have QG := Lib.hid rg
          have QS := Lib.hid rs
          have QO := Lib.hid hown
          have QA := Lib.hid hall
          have QB := Lib.hid hb
          clear r1 hall hown hle9
          have A3 := (rs.at_).2.1
          have cg0 := rg.cell 0
          have cg1 := rg.cell 1
          have c01 := r0.cell 1
          by_cases hlt : k < K
          · have hkC : (k : Int) < (K : Int) := by omega
            have hkP : (k : Int) < prodS S := by rw [HPC.out]; omega
            obtain ⟨l0, hl0⟩ : ∃ l, idxS S (k : Int) = l := ⟨_, rfl⟩
            have hin0 := (place_idx HOKS.out.pos (show 0 ≤ (k : Int) by omega) hkP).1
            have hidx := fun X (h : Below wr.heap.size wr X) => index9_any (A3.later h) HOKS.out (show 0 ≤ (k : Int) by omega) hkP
            rw [hl0] at hidx hin0
            have HIN := Lib.hid hin0
            have hl0n : l0.length = N := by rw [inS_length hin0, HML.out]
            have HLN := Lib.hid hl0n
            have HL0 := Lib.hid hl0
            clear hin0 hl0 hl0n hkP rs
            go_wp2_with fail
            refine (hidx _ (Below.refl _ _)).mono ?_
            rintro e y1 ⟨rl, rfl, RL, hy1⟩
            obtain ⟨al, cl, rfl, IL, hcl, nl, wl⟩ := RL.idx
            rw [HLN.out] at hcl ⊢
            have HIL := Lib.hid IL
            have HWL := Lib.hid wl
            have HNL := Lib.hid nl
            have B1 : Below w.heap.size w y1 := hb.trans (hy1.mono hsz)
            clear RL IL wl nl hidx cg0 cg1 c01 rg r0
            have AX := HIL.out.arg (by rw [HLN.out]; exact hcl) HWL.out
            rw [HLN.out] at AX
            have HAX := Lib.hid AX
            have hmk := make_runS N (by omega)
            clear AX
            go_wp2_with fail
            obtain ⟨V, hV⟩ : ∃ V, y1.alloc (.cells (madeCells #[.int .i64 0] N) 3) = V := ⟨_, rfl⟩
            have rP : PartS V y1.heap.size N (List.replicate N 0) := by rw [← hV]; exact ⟨_, BlkS.made y1 N, by simp, by simp, by simp⟩
            have hyV : Below y1.heap.size y1 V := by rw [← hV]; exact (Below.refl _ _).alloc (Nat.le_refl _) _
            (try rw [hV])
            have hF0 := FillP.nil t l0
            rw [HQ.out] at hF0
            have HF0 := Lib.hid hF0
            have HPA := Lib.hid rP
            clear rP hmk hV hF0
            go_wp2_with fail
            go_loopw [11] (fun i wi => ∃ (j : Nat) (zs : List Int), i = .int .i64 (j : Int) ∧ j ≤ N ∧ PartS wi y1.heap.size N zs ∧ FillP t l0 zs j ∧ Below y1.heap.size y1 wi) (fun i _ => N - (intOf i).toNat)
            case atStart => exact ⟨0, _, rfl, Nat.zero_le _, HPA.out, HF0.out, hyV⟩
            case round =>
              rename World => wi
              obtain ⟨j, zs, rfl, hj, hP, hF, hbi⟩ := hrel
              have HP1 := Lib.hid hP
              have HF := Lib.hid hF
              have hbr : Below wr.heap.size wr wi := hy1.trans (hbi.mono hy1.size)
              have hbwi : Below w.heap.size w wi := QB.out.trans (hbr.mono hsz)
              by_cases hlt2 : j < N
              · have hltJ : (j : Int) < (N : Int) := by omega
                obtain ⟨bt, ot, rfl, cs1⟩ := (DX.out _ hbwi).at (i := j) (by rw [HQ.out]; exact hlt2)
                obtain ⟨bl, ol, rfl, cs2⟩ := (HAX.out.later hbi).at (i := j) (by rw [HLN.out]; exact hlt2)
                have hlow := HPP.out.low (i := j) (by rw [HQ.out]; exact hlt2)
                rw [HQ.out] at hlow
                obtain ⟨x, hx⟩ : ∃ x : Nat, t.getD j 0 = (x : Int) := ⟨(t.getD j 0).toNat, by omega⟩
                rw [hx] at cs1 hlow
                have HX := Lib.hid hx
                obtain ⟨z, hz⟩ : ∃ z, l0.getD j 0 = z := ⟨_, rfl⟩
                rw [hz] at cs2
                have HZ := Lib.hid hz
                have hxl : x < N := by omega
                have hxI : (x : Int) < (N : Int) := by omega
                have hfd : wi.drew.frozen? ⟨y1.heap.size, x, none⟩ = false := hP.free x
                have hcj := hP.cell x (by rw [hF.1, HQ.out]; exact hxl)
                have hS0i : wi.drew.cell? ⟨bt, ot + j, none⟩ = some (.int .i64 (x : Int)) ∧ wi.drew.cell? ⟨bl, ol + j, none⟩ = some (.int .i64 z) := ⟨cs1, cs2⟩
                clear hx hz hP hF hlow cs1 cs2
                go_wp2_with fail
                refine wp_region_L (S := fun Y => Y.cell? ⟨bt, ot + j, none⟩ = some (.int .i64 (x : Int)) ∧ Y.cell? ⟨bl, ol + j, none⟩ = some (.int .i64 z)) (z := 10) (by kernel_rfl) hS0i (fun hHeld => ?_)
                refine wpAnyL_take (i := 0) (v := ?via0) rfl (by kernel_rfl) (by kernel_rfl) (by kernel_rfl) (by kernel_rfl) (fun _ _ _ h => h) (Or.inl ⟨by rfl, ?hia0⟩) (by assumption) ?ria0
                case hia0 =>
                  intro w hSw
                  try dsimp only at hSw
                  go_simp
                  try with_reducible rfl
                try simp only [Act.put, List.getElem_toArray, List.getElem_cons_succ, List.getElem_cons_zero, List.setIfInBounds_toArray, List.set_cons_zero, List.set_cons_succ]
                refine wpAnyL_take (i := 1) (v := ?via1) rfl (by kernel_rfl) (by kernel_rfl) (by kernel_rfl) (by kernel_rfl) (fun _ _ _ h => h) (Or.inl ⟨by rfl, ?hia1⟩) (by assumption) ?ria1
                case hia1 =>
                  intro w hSw
                  try dsimp only at hSw
                  go_simp
                  try with_reducible rfl
                try simp only [Act.put, List.getElem_toArray, List.getElem_cons_succ, List.getElem_cons_zero, List.setIfInBounds_toArray, List.set_cons_zero, List.set_cons_succ]
                refine wpAnyL_take (i := 2) (v := ?via2) rfl (by kernel_rfl) (by kernel_rfl) (by kernel_rfl) (by kernel_rfl) (fun _ _ _ h => h) (Or.inl ⟨by rfl, ?hia2⟩) (by assumption) ?ria2
                case hia2 =>
                  intro w hSw
                  try dsimp only at hSw
                  go_simp
                  try with_reducible rfl
                try simp only [Act.put, List.getElem_toArray, List.getElem_cons_succ, List.getElem_cons_zero, List.setIfInBounds_toArray, List.set_cons_zero, List.set_cons_succ]
                refine wpAnyL_take (i := 3) (v := ?via3) rfl (by kernel_rfl) (by kernel_rfl) (by kernel_rfl) (by kernel_rfl) (fun _ _ _ h => h) (Or.inl ⟨by rfl, ?hia3⟩) (by assumption) ?ria3
                case hia3 =>
                  intro w hSw
                  try dsimp only at hSw
                  go_simp
                  try with_reducible rfl
                try simp only [Act.put, List.getElem_toArray, List.getElem_cons_succ, List.getElem_cons_zero, List.setIfInBounds_toArray, List.set_cons_zero, List.set_cons_succ]
                refine wpAnyL_take (i := 4) (v := ?via4) rfl (by kernel_rfl) (by kernel_rfl) (by kernel_rfl) (by kernel_rfl) (fun _ _ _ h => h) (Or.inl ⟨by rfl, ?hia4⟩) (by assumption) ?ria4
                case hia4 =>
                  intro w hSw
                  try dsimp only at hSw
                  go_simp
                  try with_reducible rfl
                try simp only [Act.put, List.getElem_toArray, List.getElem_cons_succ, List.getElem_cons_zero, List.setIfInBounds_toArray, List.set_cons_zero, List.set_cons_succ]
                refine wpAnyL_take (i := 5) (v := ?via5) rfl (by kernel_rfl) (by kernel_rfl) (by kernel_rfl) (by kernel_rfl) (fun _ _ _ h => h) (Or.inl ⟨by rfl, ?hia5⟩) (by assumption) ?ria5
                case hia5 =>
                  intro w hSw
                  try dsimp only at hSw
                  go_simp
                  try with_reducible rfl
                try simp only [Act.put, List.getElem_toArray, List.getElem_cons_succ, List.getElem_cons_zero, List.setIfInBounds_toArray, List.set_cons_zero, List.set_cons_succ]
                refine wpAnyL_take (i := 6) (v := ?via6) rfl (by kernel_rfl) (by kernel_rfl) (by kernel_rfl) (by kernel_rfl) (fun _ _ _ h => h) (Or.inl ⟨by rfl, ?hia6⟩) (by assumption) ?ria6
                case hia6 =>
                  intro w hSw
                  try dsimp only at hSw
                  go_simp
                  try with_reducible rfl
                try simp only [Act.put, List.getElem_toArray, List.getElem_cons_succ, List.getElem_cons_zero, List.setIfInBounds_toArray, List.set_cons_zero, List.set_cons_succ]
                refine wpAnyL_take (i := 7) (v := ?via7) rfl (by kernel_rfl) (by kernel_rfl) (by kernel_rfl) (by kernel_rfl) (fun _ _ _ h => h) (Or.inl ⟨by rfl, ?hia7⟩) (by assumption) ?ria7
                case hia7 =>
                  intro w hSw
                  try dsimp only at hSw
                  go_simp
                  try with_reducible rfl
                try simp only [Act.put, List.getElem_toArray, List.getElem_cons_succ, List.getElem_cons_zero, List.setIfInBounds_toArray, List.set_cons_zero, List.set_cons_succ]
                refine wpAnyL_take (i := 8) (v := ?via8) rfl (by kernel_rfl) (by kernel_rfl) (by kernel_rfl) (by kernel_rfl) (fun _ _ _ h => h) (Or.inl ⟨by rfl, ?hia8⟩) (by assumption) ?ria8
                case hia8 =>
                  intro w hSw
                  try dsimp only at hSw
                  go_simp
                  try with_reducible rfl
                try simp only [Act.put, List.getElem_toArray, List.getElem_cons_succ, List.getElem_cons_zero, List.setIfInBounds_toArray, List.set_cons_zero, List.set_cons_succ]
                refine wpAnyL_take (i := 9) (v := ?via9) rfl (by kernel_rfl) (by kernel_rfl) (by kernel_rfl) (by kernel_rfl) (fun _ _ _ h => h) (Or.inl ⟨by rfl, ?hia9⟩) (by assumption) ?ria9
                case hia9 =>
                  intro w hSw
                  try dsimp only at hSw
                  go_simp
                  try with_reducible rfl
                try simp only [Act.put, List.getElem_toArray, List.getElem_cons_succ, List.getElem_cons_zero, List.setIfInBounds_toArray, List.set_cons_zero, List.set_cons_succ]
                refine wpAnyL_one (i := 10) (by kernel_rfl) rfl (fun K hK => ?sib10)
                go_simp
                refine hK.out _ _ (fun h => absurd rfl h) (fun _ => ?mib10)
                clear hK K
                try simp only [Act.put, List.getElem_toArray, List.getElem_cons_succ, List.getElem_cons_zero, List.setIfInBounds_toArray, List.set_cons_zero, List.set_cons_succ]
                refine wpAnyL_done (by kernel_rfl) ?_ _
                go_wp2_with fail
                go_roundw
                case rel =>
                  have hn := HF.out.next HPP.out (by rw [HQ.out]; exact hlt2)
                  rw [HX.out, HZ.out, show ((x : Int)).toNat = x by omega] at hn
                  exact ⟨j + 1, _, by go_num, by omega, PartS.set (show PartS wi.drew y1.heap.size N zs from HP1.out) x (by rw [HF.out.1, HQ.out]; exact hxl) z, hn, setBelow hbi.drew (Nat.le_refl _) _ _⟩
                case measure => simp [intOf]; omega
              · obtain rfl : N = j := by omega
                have hltJ : ¬ (N : Int) < (N : Int) := by omega
                have hzs : zs = trI t l0 := by
                  have h := HF.out
                  rw [← HQ.out] at h
                  exact h.full HPP.out
                have hwz : Wid zs := by rw [hzs]; exact trI_wid HWL.out
                have hlz : zs.length = N := by rw [HF.out.1, HQ.out]
                have XA := (show ResS y1.heap.size wi (.slice (some ⟨y1.heap.size, 0, none⟩) zs.length N) zs from ⟨HP1.out.num (Nat.le_refl _) (by unfold maxLen; omega), hwz⟩).at_.2.1
                rw [hlz] at XA
                have HLX : Hid (zs.length = s.length) := Lib.hid (by rw [hlz, HN.out])
                have HVN : Hid (LR[k]? = some (elV s L zs)) := Lib.hid (by
                  rw [← HLR.out]
                  unfold trV
                  unfold fillV
                  rw [List.getElem?_map, List.getElem?_range (by have h := HPC.out; rw [HS.out]; omega)]
                  simp only [Option.map_some, Option.some.injEq]
                  rw [HS.out, HL0.out, hzs])
                replace hbi := hbr
                clear hzs hwz hlz hP hF
                have r0 := Q0.out.later hbi
                have r1 := Q1.out.later hbi
                have rg := QG.out.later hbi
                have rs := QS.out.later hbi
                have hown : OwnE w.heap.size 75 wi v es := QO.out.later hbi
                have hall : AllE (fun v x => ResA w.heap.size w wi v x m) es (LR.take k) := QA.out.imp fun u x _ h => h.later hbi
                have hbw : Below w.heap.size w wi := QB.out.trans (hbi.mono hsz)
                have hszw := hbw.size
                obtain ⟨r, hrv, hrb, hrne⟩ := hown.hits hszw
                have n0 := hrne _ _ _ r0 (by decide)
                have n1 := hrne _ _ _ r1 (by decide)
                have ng := hrne _ _ _ rg (by decide)
                have cg1 := rg.cell 1
                have c00 := r0.cell 0
                have c01 := r0.cell 1
                have mkE : ∀ X, Kept r wi X → X.cell? ⟨g, 1, none⟩ = some v ∧ X.cell? ⟨w.heap.size, 0, none⟩ = some (.slice a N ca) ∧ X.cell? ⟨w.heap.size, 1, none⟩ = some (.slice b K cb) ∧ Kept r wi X := fun X h => ⟨h.cell cg1 ng, h.cell c00 n0, h.cell c01 n0, h⟩
                have hS0e := mkE wi.drew ((Kept.refl r wi).drew)
                obtain ⟨val, hval⟩ : ∃ x, elV s L (zs) = x := ⟨_, rfl⟩
                have hat := fun X (h : Below wi.heap.size wi X) => at9_any (w := X) HT.out (hbw.trans (h.mono hszw)) HOK.out.ok HOK.out.len (XA.later h) HLX.out hm
                rw [hval] at hat
                have hnv : LR.take (k + 1) = LR.take k ++ [val] := take_nextL (by rw [← hval]; exact HVN.out)
                have HNV := Lib.hid hnv
                clear hval hnv
                go_wp2_with fail
                refine wp_region_L (S := fun X => X.cell? ⟨g, 1, none⟩ = some v ∧ X.cell? ⟨w.heap.size, 0, none⟩ = some (.slice a N ca) ∧ X.cell? ⟨w.heap.size, 1, none⟩ = some (.slice b K cb) ∧ Kept r wi X) (z := 8) (by kernel_rfl) hS0e (fun hHeld => ?_)
                refine wpAnyL_take (i := 0) (v := ?vea0) rfl (by kernel_rfl) (by kernel_rfl) (by kernel_rfl) (by kernel_rfl) (fun _ _ _ h => h) (Or.inl ⟨by rfl, ?hea0⟩) (by assumption) ?rea0
                case hea0 =>
                  intro w hSw
                  try dsimp only at hSw
                  go_simp
                  try with_reducible rfl
                try simp only [Act.put, List.getElem_toArray, List.getElem_cons_succ, List.getElem_cons_zero, List.setIfInBounds_toArray, List.set_cons_zero, List.set_cons_succ]
                refine wpAnyL_take (i := 1) (v := ?vea1) rfl (by kernel_rfl) (by kernel_rfl) (by kernel_rfl) (by kernel_rfl) (fun _ _ _ h => h) (Or.inl ⟨by rfl, ?hea1⟩) (by assumption) ?rea1
                case hea1 =>
                  intro w hSw
                  try dsimp only at hSw
                  go_simp
                  try with_reducible rfl
                try simp only [Act.put, List.getElem_toArray, List.getElem_cons_succ, List.getElem_cons_zero, List.setIfInBounds_toArray, List.set_cons_zero, List.set_cons_succ]
                refine wpAnyL_take (i := 2) (v := ?vea2) rfl (by kernel_rfl) (by kernel_rfl) (by kernel_rfl) (by kernel_rfl) (fun _ _ _ h => h) (Or.inl ⟨by rfl, ?hea2⟩) (by assumption) ?rea2
                case hea2 =>
                  intro w hSw
                  try dsimp only at hSw
                  go_simp
                  try with_reducible rfl
                try simp only [Act.put, List.getElem_toArray, List.getElem_cons_succ, List.getElem_cons_zero, List.setIfInBounds_toArray, List.set_cons_zero, List.set_cons_succ]
                refine wpAnyL_take (i := 3) (v := ?vea3) rfl (by kernel_rfl) (by kernel_rfl) (by kernel_rfl) (by kernel_rfl) (fun _ _ _ h => h) (Or.inl ⟨by rfl, ?hea3⟩) (by assumption) ?rea3
                case hea3 =>
                  intro w hSw
                  try dsimp only at hSw
                  go_simp
                  try with_reducible rfl
                try simp only [Act.put, List.getElem_toArray, List.getElem_cons_succ, List.getElem_cons_zero, List.setIfInBounds_toArray, List.set_cons_zero, List.set_cons_succ]
                refine wpAnyL_one (i := 4) (by kernel_rfl) rfl (fun K hK => ?seb4)
                go_simp
                have hbd4 : Below wi.heap.size wi wi.drew := (Below.refl _ _).drew
                refine (hat _ hbd4).mono ?_
                rintro e w5 ⟨rv, rfl, qv, hb5⟩
                have hb5w : Below wi.heap.size wi w5 := hbd4.trans hb5
                have hB5 : Below w.heap.size w w5 := hbw.trans (hb5w.mono hszw)
                have Q5 : Hid (ResA w.heap.size w w5 rv val m) := Lib.hid (qv.imp (fun h => h.mono (show w.heap.size ≤ wi.heap.size from hszw)) id)
                obtain ⟨m5, f1, l1, j1, f2, l2, j2, rfl⟩ := (qv.imp (fun h => h) id : ResA _ _ _ _ _ _).elim (fun h => h.shape) (fun h => h.shape)
                clear qv
                go_simp
                have hk5 : Kept r wi w5 := ((Kept.refl r wi).drew).below hb5
                refine hK.out _ _ (fun _ => mkE _ hk5) (fun hHeld2 => ?meb4)
                clear hK K hHeld
                have hHeld := hHeld2 (by decide)
                clear hHeld2
                try simp only [Act.put, List.getElem_toArray, List.getElem_cons_succ, List.getElem_cons_zero, List.setIfInBounds_toArray, List.set_cons_zero, List.set_cons_succ]
                refine wpAnyL_one (i := 5) (by kernel_rfl) rfl (fun K hK => ?seb5)
                go_simp
                refine hK.out _ _ (fun _ => mkE _ (hk5.alloc _)) (fun hHeld2 => ?meb5)
                clear hK K hHeld
                have hHeld := hHeld2 (by decide)
                clear hHeld2
                try simp only [Act.put, List.getElem_toArray, List.getElem_cons_succ, List.getElem_cons_zero, List.setIfInBounds_toArray, List.set_cons_zero, List.set_cons_succ]
                refine wpAnyL_one (i := 6) (by kernel_rfl) rfl (fun K hK => ?seb6)
                have hown5 : OwnE w.heap.size 75 w5 v es := hown.later hb5w
                have hall5 : AllE (fun v x => ResA w.heap.size w w5 v x m) es (LR.take k) := hall.imp fun u x _ h => h.later hb5w
                have hsz5 := hB5.size
                have hle9 := HLE.out
                refine step_append_ownT rfl _ _ 32 rfl w.heap.size 75 j0 _ 3 56 Tryz.underlying32 hjR hyA hyB hyC rfl (by decide) _ es.length (flat3 es) rfl (hown5.later ((Below.refl _ _).alloc (Nat.le_refl _) _)) ⟨w5.heap.size, 0, none⟩ 1 1 [.bool m5, .slice f1 l1 j1, .slice f2 l2 j2] rfl rfl (cell_three_new _ _ _ _ _) (by simp [Value.oneCell']) (by unfold maxLen; omega) (by omega) (by simp; omega) ?_
                intro v' w6 hown' hgrow _
                obtain ⟨av, cv, rfl⟩ := ownT_slice hown'
                have hk6 : Kept r wi w6 := (hk5.alloc _).grown hgrow hrv
                refine hK.out _ _ (fun _ => mkE _ hk6) (fun hHeld2 => ?meb6)
                clear hK K hHeld
                have hHeld := hHeld2 (by decide)
                clear hHeld2
                try simp only [Act.put, List.getElem_toArray, List.getElem_cons_succ, List.getElem_cons_zero, List.setIfInBounds_toArray, List.set_cons_zero, List.set_cons_succ]
                refine wpAnyL_take (i := 7) (v := ?vea7) rfl (by kernel_rfl) (by kernel_rfl) (by kernel_rfl) (by kernel_rfl) (fun _ _ _ h => h) (Or.inl ⟨by rfl, ?hea7⟩) (by assumption) ?rea7
                case hea7 =>
                  intro w hSw
                  try dsimp only at hSw
                  go_simp
                  try with_reducible rfl
                try simp only [Act.put, List.getElem_toArray, List.getElem_cons_succ, List.getElem_cons_zero, List.setIfInBounds_toArray, List.set_cons_zero, List.set_cons_succ]
                have RG6 := rg.kept hk6 ng
                have f21 := RG6.free 1
                have d21 := RG6.cell 1
                refine wpAnyL_one (i := 8) (by kernel_rfl) rfl (fun K hK => ?seb8)
                go_simp
                refine hK.out _ _ (fun h => absurd rfl h) (fun _ => ?meb8)
                clear hK K
                try simp only [Act.put, List.getElem_toArray, List.getElem_cons_succ, List.getElem_cons_zero, List.setIfInBounds_toArray, List.set_cons_zero, List.set_cons_succ]
                refine wpAnyL_done (by kernel_rfl) ?_ _
                clear hle9
                go_wp2_with fail
                go_roundw
                case rel =>
                  have hx5 : ResA w.heap.size w w5 (E3.agg ⟨.bool m5, .slice f1 l1 j1, .slice f2 l2 j2⟩) val m := Q5.out
                  obtain ⟨hrow6, hb6⟩ := pushE2 (P := (fun W v x => ResA w.heap.size w W v x m)) (e := ⟨.bool m5, .slice f1 l1 j1, .slice f2 l2 j2⟩) hB5 (Nat.le_refl _) hsz5 hown5 hall5 hx5 (fun u y h => ResA.apart hown5 hgrow (by decide) h) hown' hgrow
                  rw [HLE.out] at hrow6
                  have rs6 : ResS w.heap.size w6 (.slice a3 N c3) S := ResS.apart hown5 hgrow (by decide) (rs.later hb5w)
                  refine ⟨k + 1, _, by go_num, by omega, (r0.kept hk6 n0).far (by show w.heap.size ≠ g; omega) _, (r1.kept hk6 n1).far (by show w.heap.size + 1 ≠ g; omega) _, RG6.set21 _, rs6.far RG6 (by decide) (kept1 _), ?_, hb6.setCell (by show w.heap.size ≤ g; omega) _⟩
                  rw [HNV.out]
                  exact hrow6.far RG6 (by decide) (kept1 _) (fun u y h => h.far RG6 (by decide) (kept1 _))
                case measure => simp [intOf]; omega
          · obtain rfl : k = K := by omega
            have hkC : ¬ (k : Int) < (k : Int) := by omega
            skip
            have hall := QA.out
            have hown := QO.out
            rw [List.take_of_length_le (by have h := HRES.out; omega)] at hall
            obtain ⟨av, cv, rfl⟩ := ownT_slice hown
            have hel : es.length = k := HLE.out
            have HRG := QG.out
            rw [hel] at HRG hown
            have c20 := HRG.cell 0
            have d21 := HRG.cell 1
            obtain ⟨g10, g11, f10, f11⟩ := Q1.out.two
            have RRs := Q1.out.set2 (.slice a3 N c3) (.slice av k cv)
            obtain ⟨z0, z1, _, _⟩ := RRs.two
            have HOWN := Lib.hid hown
            have HALL := Lib.hid hall
            clear hown hall RRs hel cg0 cg1 rg r0
            go_wp2_with fail
            have hbE := below_set2 QB.out (show w.heap.size ≤ w.heap.size + 1 by omega) (.slice a3 N c3) (.slice av k cv)
            have hsE : ResS w.heap.size _ (.slice a3 N c3) S := QS.out.far Q1.out (by decide) (kept2 (.slice a3 N c3) (.slice av k cv))
            have hrE := RowO.far (P := (fun W v x => ResA w.heap.size w W v x m)) ⟨es, HOWN.out, HALL.out⟩ Q1.out (by decide) (kept2 (.slice a3 N c3) (.slice av k cv)) (fun u y h => h.far Q1.out (by decide) (kept2 _ _))
            have hfin := tenR_of (n := m) (s := S) (L := LR) (a := a3) (ca := c3) (b := av) (cb := cv) (m := k) HRES.out.symm hbE (by rw [HML.out]; exact hsE) (hrE.mono (by omega) (fun v x h => h))
            rw [HML.out] at hfin
            exact bodyPost_ret (v := .tuple #[.agg #[.slice a3 N c3, .slice av k cv], .int .i64 0]) (by simp [results, Tryz.results16, go_sem, z0, z1]) rfl ⟨⟨_, rfl, ⟨_, _, _, _, _, _, rfl⟩, fun _ => hfin⟩, hbE⟩
end Go.Proofs.YtooglnhlhgmhdaaGreat
