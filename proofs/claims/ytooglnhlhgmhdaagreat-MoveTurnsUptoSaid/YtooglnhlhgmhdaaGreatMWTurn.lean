/-
  Layer 9's law MoveTurns: for all tensors and every numbers the law holds (arguments that hold at most 1048576 values each). (Made by wip/gen/gen_mturn.py.)
-/
import Derived.Test.YtooglnhlhgmhdaaGreatMTurnC
import Derived.Test.YtooglnhlhgmhdaaGreatV34
namespace Go.Proofs.YtooglnhlhgmhdaaGreat
open Go.RowKit
set_option linter.unusedVariables false
set_option linter.unusedSimpArgs false

set_option maxRecDepth 100000 in
set_option maxHeartbeats 40000000 in
theorem moveTurns_walk {v u1 u2 v3 v4 : Value} {s p d s3 s4 : List Int} {qs qy qz : List Q3} {a b ap ad a3 b3 a4 b4 : Option Addr} {ca cb cp cd ca3 cb3 ca4 cb4 : Nat} (W : World) (T : TensQ W v s qs a ca b cb) (P : ArgS W u1 p ap cp) (np : ap = none → cp = 0) (D : ArgS W u2 d ad cd) (nd : ad = none → cd = 0) (T3 : TensQ W v3 s3 qy a3 ca3 b3 cb3) (T4 : TensQ W v4 s4 qz a4 ca4 b4 cb4)
    (ls : s.length ≤ 1048576) (lq : sizeQs qs ≤ 1048576) (lp : p.length ≤ 1048576) (ld : d.length ≤ 1048576) (ls3 : s3.length ≤ 1048576) (lq3 : sizeQs qy ≤ 1048576) (ls4 : s4.length ≤ 1048576) (lq4 : sizeQs qz ≤ 1048576) :
    Calls Tryz.prog 11 #[v, u1, u2, v3, v4] W fun e W' => e = .returned (.bool true) ∧ Below W.heap.size W W' := by
  obtain rfl := P.is
  obtain rfl := D.is
  have HT := Lib.hid T
  have HT3 := Lib.hid T3
  have HT4 := Lib.hid T4
  have HP := Lib.hid P
  have HD := Lib.hid D
  have NP := Lib.hid np
  have ND := Lib.hid nd
  have hlen := sizeQs_len qs
  have hlen3 := sizeQs_len qy
  have hlen4 := sizeQs_len qz
  have HL := Lib.hid (lensQ.of lq)
  have HL3 := Lib.hid (lensQ.of lq3)
  have HL4 := Lib.hid (lensQ.of lq4)
  have HSZ := Lib.hid (And.intro lq (And.intro lq3 lq4))
  have WF := Lib.hid T.wfs
  have WF3 := Lib.hid T3.wfs
  have WF4 := Lib.hid T4.wfs
  have hq1 : qs.length ≤ 1048576 := by omega
  have hq3 : qy.length ≤ 1048576 := by omega
  have hq4 : qz.length ≤ 1048576 := by omega
  obtain rfl := T.is
  obtain rfl := T3.is
  obtain rfl := T4.is
  obtain ⟨V, hV⟩ : ∃ V, ((W.alloc (.cells #[.slice a s.length ca, .slice b qs.length cb] 26)).alloc (.cells #[.slice a3 s3.length ca3, .slice b3 qy.length cb3] 26)).alloc (.cells #[.slice a4 s4.length ca4, .slice b4 qz.length cb4] 26) = V := ⟨_, rfl⟩
  have R0 : Row V W.heap.size 26 #[.slice a s.length ca, .slice b qs.length cb] := by rw [← hV]; exact ((Row.new _ _ _).alloc _).alloc _
  have R8 : Row V (W.heap.size + 1) 26 #[.slice a3 s3.length ca3, .slice b3 qy.length cb3] := by rw [← hV]; have h := Row.new (W.alloc (.cells #[.slice a s.length ca, .slice b qs.length cb] 26)) 26 #[.slice a3 s3.length ca3, .slice b3 qy.length cb3]; simp only [World.size_alloc] at h; exact h.alloc _
  have R9 : Row V (W.heap.size + 1 + 1) 26 #[.slice a4 s4.length ca4, .slice b4 qz.length cb4] := by rw [← hV]; have h := Row.new ((W.alloc (.cells #[.slice a s.length ca, .slice b qs.length cb] 26)).alloc (.cells #[.slice a3 s3.length ca3, .slice b3 qy.length cb3] 26)) 26 #[.slice a4 s4.length ca4, .slice b4 qz.length cb4]; simp only [World.size_alloc] at h; exact h
  have hBV : Below W.heap.size W V := by rw [← hV]; exact (((Below.refl _ _).alloc (by simp) _).alloc (by simp) _).alloc (by simp <;> omega) _
  have tX : ∀ X, Below V.heap.size V X → TensQ X (.agg #[.slice a s.length ca, .slice b qs.length cb]) s qs a ca b cb := fun X h => HT.out.later (hBV.trans (h.mono hBV.size))
  have t3X : ∀ X, Below V.heap.size V X → TensQ X (.agg #[.slice a3 s3.length ca3, .slice b3 qy.length cb3]) s3 qy a3 ca3 b3 cb3 := fun X h => HT3.out.later (hBV.trans (h.mono hBV.size))
  have t4X : ∀ X, Below V.heap.size V X → TensQ X (.agg #[.slice a4 s4.length ca4, .slice b4 qz.length cb4]) s4 qz a4 ca4 b4 cb4 := fun X h => HT4.out.later (hBV.trans (h.mono hBV.size))
  have pX : ∀ X, Below V.heap.size V X → ArgS X (.slice ap p.length cp) p ap cp := fun X h => HP.out.later (hBV.trans (h.mono hBV.size))
  have dX : ∀ X, Below V.heap.size V X → ArgS X (.slice ad d.length cd) d ad cd := fun X h => HD.out.later (hBV.trans (h.mono hBV.size))
  have TX := Lib.hid tX
  have T3X := Lib.hid t3X
  have T4X := Lib.hid t4X
  have PX := Lib.hid pX
  have DX := Lib.hid dX
  have mayc := fun X (h : Below V.heap.size V X) => mayT_any (tX X h) (by omega) (fun q hq => ⟨Nat.le_trans (HL.out q hq).1 (by omega), Nat.le_trans (HL.out q hq).2 (by omega)⟩)
  have may3 := fun X (h : Below V.heap.size V X) => mayT_any (t3X X h) (by omega) (fun q hq => ⟨Nat.le_trans (HL3.out q hq).1 (by omega), Nat.le_trans (HL3.out q hq).2 (by omega)⟩)
  have may4 := fun X (h : Below V.heap.size V X) => mayT_any (t4X X h) (by omega) (fun q hq => ⟨Nat.le_trans (HL4.out q hq).1 (by omega), Nat.le_trans (HL4.out q hq).2 (by omega)⟩)
  obtain ⟨m, hm⟩ : ∃ m, mayT s qs = m := ⟨_, rfl⟩
  obtain ⟨m3, hm3⟩ : ∃ m, mayT s3 qy = m := ⟨_, rfl⟩
  obtain ⟨m4, hm4⟩ : ∃ m, mayT s4 qz = m := ⟨_, rfl⟩
  rw [hm] at mayc
  rw [hm3] at may3
  rw [hm4] at may4
  have HM := Lib.hid hm
  have HM3 := Lib.hid hm3
  have HM4 := Lib.hid hm4
  have bX : ∀ X, Below V.heap.size V X → (X.cell? ⟨W.heap.size, 0, none⟩ = some (.slice a s.length ca) ∧ X.cell? ⟨W.heap.size, 1, none⟩ = some (.slice b qs.length cb)) ∧ (X.cell? ⟨W.heap.size + 1, 0, none⟩ = some (.slice a3 s3.length ca3) ∧ X.cell? ⟨W.heap.size + 1, 1, none⟩ = some (.slice b3 qy.length cb3)) ∧ X.cell? ⟨W.heap.size + 1 + 1, 0, none⟩ = some (.slice a4 s4.length ca4) ∧ X.cell? ⟨W.heap.size + 1 + 1, 1, none⟩ = some (.slice b4 qz.length cb4) := fun X h =>
    ⟨⟨(R0.later h).two.1, (R0.later h).two.2.1⟩, ⟨(R8.later h).two.1, (R8.later h).two.2.1⟩, (R9.later h).two.1, (R9.later h).two.2.1⟩
  have HBX := Lib.hid bX
  obtain ⟨⟨k0, k1⟩, ⟨k2, k3⟩, k4, k5⟩ := bX V (Below.refl _ _)
  clear T T3 T4 P D np nd tX t3X t4X pX dX lq lq3 lq4 hlen hlen3 hlen4 hm hm3 hm4 bX R0 R8 R9
  by_cases h0 : m = 0
  · subst h0
    have hz1 : ((0 : Int) != 0) = false := by decide
    by_cases h3 : m3 = 0
    · subst h3
      by_cases h4 : m4 = 0
      · subst h4
        obtain ⟨Lx, hL⟩ : ∃ L, qs.map Q3.rat = L := ⟨_, rfl⟩
        obtain ⟨Ly, hL3⟩ : ∃ L, qy.map Q3.rat = L := ⟨_, rfl⟩
        obtain ⟨Lz, hL4⟩ : ∃ L, qz.map Q3.rat = L := ⟨_, rfl⟩
        have HOK := Lib.hid (ok9_ofT HM.out)
        have HOK3 := Lib.hid (ok9_ofT HM3.out)
        have HOK4 := Lib.hid (ok9_ofT HM4.out)
        have hle := HOK.out.le
        have hle3 := HOK3.out.le
        have hle4 := HOK4.out.le
        have HLQ := Lib.hid hL
        have HLQ3 := Lib.hid hL3
        have HLQ4 := Lib.hid hL4
        have cT := fun X (h : Below V.heap.size V X) => transpose_any (n := 1048576) (TX.out X h) (PX.out X h) NP.out (by omega) (by omega) (by omega) HL.out (by omega)
        have cP := fun X (h : Below V.heap.size V X) => pad_any (n := 1048576) (TX.out X h) (DX.out X h) ND.out (by omega) (by omega) (by omega) HL.out (by omega)
        obtain ⟨cc1, hc1⟩ : ∃ c, permC p s.length = c := ⟨_, rfl⟩
        obtain ⟨cc2, hc2⟩ : ∃ c, pdCW s d = c := ⟨_, rfl⟩
        simp only [(orL2 HM.out).trans hc1] at cT
        simp only [(orL2 HM.out).trans hc2] at cP
        have HC1 := Lib.hid hc1
        have HC2 := Lib.hid hc2
        have CT := Lib.hid cT
        have CP := Lib.hid cP
        clear hc1 hc2 hL hL3 hL4 cT cP
        go_enter Tryz.func11, Tryz.ntmps11
        go_wp2_with fail
        (try rw [hV])
        clear hV
        refine (mayc _ (Below.refl _ _)).mono ?_
        rintro e y1 ⟨rfl, B1⟩
        obtain ⟨⟨k0, k1⟩, ⟨k2, k3⟩, k4, k5⟩ := HBX.out _ B1
        go_wp2_with fail
        refine (may3 _ B1).mono ?_
        rintro e y2 ⟨rfl, hb2⟩
        have B2 : Below V.heap.size V y2 := B1.trans (hb2.mono B1.size)
        obtain ⟨⟨k0, k1⟩, ⟨k2, k3⟩, k4, k5⟩ := HBX.out _ B2
        go_wp2_with fail
        refine (may4 _ B2).mono ?_
        rintro e y3 ⟨rfl, hb3⟩
        have B3 : Below V.heap.size V y3 := B2.trans (hb3.mono B2.size)
        clear k0 k1 k2 k3 k4 k5
        obtain ⟨⟨k0, k1⟩, ⟨k2, k3⟩, k4, k5⟩ := HBX.out _ B3
        clear mayc may3 may4
        go_wp2_with fail
        refine (CT.out _ B3).mono ?_
        rintro e z1 ⟨hO, hz1⟩
        obtain ⟨x10, x11, x12, x13, x14, x15, rfl, hA⟩ := hO.ans9
        have A1 := Lib.hid hA
        have C1 : Below V.heap.size V z1 := B3.trans (hz1.mono B3.size)
        obtain ⟨q1, hq1⟩ : ∃ Y, z1.alloc (.cells #[.slice x10 x11 x12, .slice x13 x14 x15] 26) = Y := ⟨_, rfl⟩
        have R1 : Row q1 z1.heap.size 26 #[.slice x10 x11 x12, .slice x13 x14 x15] := by rw [← hq1]; exact Row.new _ _ _
        have b1 : Below z1.heap.size z1 q1 := by rw [← hq1]; exact (Below.refl _ _).alloc (Nat.le_refl _) _
        have Bq1 : Below V.heap.size V q1 := C1.trans (b1.mono C1.size)
        obtain ⟨g1, hg1⟩ : ∃ g, decide (cc1 = 0 ∧ trS s p = s3) = g := ⟨_, rfl⟩
        have G1 := Lib.hid hg1
        have HRk1 := Lib.hid R1
        clear hO hA k0 k1 k2 k3 k4 k5 hz1 hg1 R1
        go_upto_region 4 with fail
        (try rw [hq1])
        clear hq1
        go_cut [55] (fun st wx => st = .bool g1 ∧ Below q1.heap.size q1 wx)
        case first =>
          obtain ⟨⟨k0, k1⟩, ⟨k2, k3⟩, k4, k5⟩ := HBX.out _ Bq1
          obtain ⟨e0, e1, _, _⟩ := HRk1.out.two
          by_cases hc : cc1 = 0
          · have hci : (cc1 == 0) = true := by simp [hc]
            have hT := (A1.out.resolve_right (fun h => h.1 hc)).2.later b1
            obtain ⟨rfl, rfl, AS⟩ := hT.shape9
            have hsh := sameSh_any AS (T3X.out _ Bq1).sh (by have h := hT.shape9.1; rw [trS_len]; omega)
            have hgg : decide (trS s p = s3) = g1 := by rw [← G1.out]; simp [hc]
            rw [hgg] at hsh
            clear hgg hT AS hc
            go_wp2_with fail
            refine hsh.mono ?_
            rintro e y5 ⟨rfl, hy5⟩
            clear hsh k0 k1 k2 k3 k4 k5 e0 e1
            go_wp2_with fail
            go_meet
            exact ⟨rfl, hy5⟩
          · have hci : (cc1 == 0) = false := by simp [hc]
            obtain rfl : g1 = false := by rw [← G1.out]; simp [hc]
            go_wp2_with fail
            go_meet
            exact ⟨rfl, Below.refl _ _⟩
        case rest =>
          rename World => w1
          obtain ⟨rfl, hw1⟩ := hcut
          have Bw1 : Below V.heap.size V w1 := Bq1.trans (hw1.mono Bq1.size)
          have HR1' := Lib.hid (HRk1.out.later hw1)
          go_upto_if 55 with fail
          go_cut [55] (fun _ wx => Below w1.heap.size w1 wx)
          case first =>
            cases g1 with
            | false =>
              go_wp2_with fail
              go_meet
              exact Below.refl _ _
            | true =>
              obtain ⟨hc, hse⟩ := of_decide_eq_true G1.out
              have hT := ((A1.out.resolve_right (fun h => h.1 hc)).2.later b1).later hw1
              have HTT : Hid (ResT y3.heap.size w1 (.agg #[.slice x10 x11 x12, .slice x13 x14 x15]) (trS s p) (trV s p (qs.map Q3.rat)) (1048576 + 2)) := Lib.hid hT
              have HCC := Lib.hid hc
              have bw : ∀ X, Below w1.heap.size w1 X → Below V.heap.size V X := fun X h => Bw1.trans (h.mono Bw1.size)
              have HBW := Lib.hid bw
              have HSE := Lib.hid hse
              clear hT bw hse hc
              have hper := permC_isT (HC1.out.trans HCC.out)
              have HPER := Lib.hid hper
              have hse := HSE.out
              subst hse
              have HPI : Hid (permC (invL p) (trS s p).length = 0) := Lib.hid (by rw [trS_len, ← invL_length p]; exact permC_yes hper.1.inv)
              have HS1 := Lib.hid (trS_back hper.1 hper.2)
              have HOA : Hid (Ok9 (trS s p) (trV s p (qs.map Q3.rat)).length) := Lib.hid (Ok9.trT hper.1 hper.2 HOK.out.ok)
              have hp4 : p.length ≤ 1000 := by have := hper.2; omega
              obtain ⟨M, hM⟩ : ∃ M, trV (trS s p) (invL p) (qy.map Q3.rat) = M := ⟨_, rfl⟩
              have HMM := Lib.hid hM
              have HOB : Hid (Ok9 s M.length) := Lib.hid (by rw [← hM]; have h := Ok9.trT (Lx := qy.map Q3.rat) hper.1.inv (s := trS s p) (by rw [invL_length, trS_len]) HOA.out.ok; rw [HS1.out] at h; exact h)
              have hfit := turn_fit (B := 67200000) hper.1 hper.2 HOK.out.ok WF.out WF3.out (cnt_of HOK.out) (cnt_of HOK3.out) (by have := HSZ.out; omega)
              have hdot := turn_dot (L := qs.map Q3.rat) (M := qy.map Q3.rat) hper.1 hper.2 HOK.out.ok (by rw [List.length_map]; exact cnt_of HOK.out) (by rw [List.length_map]; exact cnt_of HOK3.out)
              rw [hM] at hfit hdot
              have HFIT := Lib.hid hfit
              have HDOT := Lib.hid hdot
              clear hper hM hfit hdot
              go_upto_region 5 with fail
              go_cut [13, 14] (fun s13 s14 wx => ∃ (h : Nat) (ra rb : Option Addr) (rca rcb : Nat), s13 = .pointer (some ⟨h, 0, none⟩) ∧ s14 = .int .i64 0 ∧ Row wx h 26 #[.slice ra s.length rca, .slice rb M.length rcb] ∧ ResT w1.heap.size wx (.agg #[.slice ra s.length rca, .slice rb M.length rcb]) s M 1048578 ∧ Below w1.heap.size w1 wx)
              case first =>
                refine wp_region_held_drew (S := fun X => X.cell? ⟨W.heap.size + 1, 0, none⟩ = some (.slice a3 (trS s p).length ca3) ∧ X.cell? ⟨W.heap.size + 1, 1, none⟩ = some (.slice b3 qy.length cb3)) (by kernel_rfl) ((HBX.out _ (HBW.out _ ((Below.refl w1.heap.size w1).drew))).2.1) (fun hHeld => ?_)
                refine todo [0, 1] ?_
                iterate 2
                 refine todoH (v := ?_) rfl (by kernel_rfl) (fun _ _ _ h => h) (by assumption) (Or.inl ⟨by rfl, ?_⟩) ?_
                 rotate_left
                 · intro w hSw; (try dsimp only at hSw); go_simp; (try with_reducible rfl)
                 try simp only [Act.put, List.getElem_toArray, List.getElem_cons_succ, List.getElem_cons_zero, List.setIfInBounds_toArray, List.set_cons_zero, List.set_cons_succ]
                refine todone ?_
                obtain ⟨K0, hV0⟩ : ∃ Y, w1.drew = Y := ⟨_, rfl⟩
                rw [hV0] at hHeld
                rw [hV0]
                have hb0 : Below w1.heap.size w1 K0 := by rw [← hV0]; exact (Below.refl _ _).drew
                have hs0 : w1.heap.size ≤ K0.heap.size := hb0.size
                clear hV0
                refine wpAnyH_ready (rs := [2, 7]) (by kernel_rfl) (by simp) ?_
                refine AllReadyH.cons rfl (fun K hK => ?o3_2) (AllReadyH.cons rfl (fun K hK => ?o3_7) AllReadyH.nil)
                case o3_2 =>
                  go_simp
                  refine (turned9_any (PX.out _ (HBW.out _ hb0)) HPER.out.1 hp4).mono ?_
                  rintro e K4 ⟨r4, rfl, RS4, hc4⟩
                  obtain ⟨ai4, ci4, AI4, ni4⟩ := RS4.arg2
                  obtain rfl := AI4.is
                  clear RS4
                  go_simp
                  have hbK4 : Below w1.heap.size w1 K4 := hb0.trans (hc4.mono hs0)
                  have hsK4 : w1.heap.size ≤ K4.heap.size := hbK4.size
                  refine hK.out _ _ ((HBX.out _ (HBW.out _ hbK4)).2.1) (fun hHeld2 => ?_)
                  clear hK K hHeld
                  have hHeld := hHeld2
                  clear hHeld2
                  try simp only [Act.put, List.getElem_toArray, List.getElem_cons_succ, List.getElem_cons_zero, List.setIfInBounds_toArray, List.set_cons_zero, List.set_cons_succ]
                  refine wpAnyH_ready (rs := [3, 7]) (by kernel_rfl) (by simp) ?_
                  refine AllReadyH.cons rfl (fun K hK => ?o5_3) (AllReadyH.cons rfl (fun K hK => ?o5_7) AllReadyH.nil)
                  case o5_3 =>
                    go_simp
                    refine (transZ (n := 1048576) (T3X.out _ (HBW.out _ hbK4)) HM3.out HL3.out (by omega) AI4 (by assumption) (by rw [invL_length]; omega) HPI.out).mono ?_
                    rintro e K6 ⟨hg6, hc6⟩
                    rw [HS1.out, HMM.out] at hg6
                    obtain ⟨ra6, rb6, rca6, rcb6, rfl, TT6⟩ := hg6
                    have TT6' := TT6.mono hsK4
                    clear TT6
                    go_simp
                    have hbK6 : Below w1.heap.size w1 K6 := hbK4.trans (hc6.mono hsK4)
                    have hsK6 : w1.heap.size ≤ K6.heap.size := hbK6.size
                    have tuK6 := AI4.later hc6
                    refine hK.out _ _ ((HBX.out _ (HBW.out _ hbK6)).2.1) (fun hHeld2 => ?_)
                    clear hK K hHeld
                    have hHeld := hHeld2
                    clear hHeld2
                    try simp only [Act.put, List.getElem_toArray, List.getElem_cons_succ, List.getElem_cons_zero, List.setIfInBounds_toArray, List.set_cons_zero, List.set_cons_succ]
                    refine todo [4, 5, 6] ?_
                    iterate 3
                     refine todoH (v := ?_) rfl (by kernel_rfl) (fun _ _ _ h => h) (by assumption) (Or.inl ⟨by rfl, ?_⟩) ?_
                     rotate_left
                     · intro w hSw; (try dsimp only at hSw); go_simp; (try with_reducible rfl)
                     try simp only [Act.put, List.getElem_toArray, List.getElem_cons_succ, List.getElem_cons_zero, List.setIfInBounds_toArray, List.set_cons_zero, List.set_cons_succ]
                    refine todone ?_
                    refine wpAnyH_ready (rs := [7]) (by kernel_rfl) (by simp) ?_
                    refine AllReadyH.cons rfl (fun K hK => ?o10_7) AllReadyH.nil
                    go_simp
                    refine afterAlloc (fun K11 hc11 hl11 zn11 => ?_)
                    have hbK11 : Below w1.heap.size w1 K11 := hbK6.trans (hc11.mono hsK6)
                    have hsK11 : w1.heap.size ≤ K11.heap.size := hbK11.size
                    have tuK11 := tuK6.later hc11
                    have ttK11 := TT6'.later hc11
                    refine hK.out _ _ ((HBX.out _ (HBW.out _ hbK11)).2.1) (fun hHeld2 => ?_)
                    clear hK K hHeld
                    have hHeld := hHeld2
                    clear hHeld2
                    try simp only [Act.put, List.getElem_toArray, List.getElem_cons_succ, List.getElem_cons_zero, List.setIfInBounds_toArray, List.set_cons_zero, List.set_cons_succ]
                    obtain ⟨d12_0, d12_1, d12_2, d12_3⟩ := zn11.two
                    refine wpAnyH_ready (rs := [8]) (by kernel_rfl) (by simp) ?_
                    refine AllReadyH.cons rfl (fun K hK => ?s12) AllReadyH.nil
                    go_simp
                    refine afterSet2 zn11 (fun K12 o12 zs12 => ?_)
                    clear d12_0 d12_1 d12_2 d12_3
                    have hbK12 : Below w1.heap.size w1 K12 := hbK11.trans (o12.below hsK6)
                    have hsK12 : w1.heap.size ≤ K12.heap.size := hbK12.size
                    have ttK12 := ttK11.far zn11 (by decide) (by decide) (by decide) o12.block
                    refine hK.out _ _ ((HBX.out _ (HBW.out _ hbK12)).2.1) (fun hHeld2 => ?_)
                    clear hK K hHeld
                    have hHeld := hHeld2
                    clear hHeld2
                    try simp only [Act.put, List.getElem_toArray, List.getElem_cons_succ, List.getElem_cons_zero, List.setIfInBounds_toArray, List.set_cons_zero, List.set_cons_succ]
                    refine wpAnyH_ready (rs := [9]) (by kernel_rfl) (by simp) ?_
                    refine AllReadyH.cons rfl (fun K hK => ?sD13_9) AllReadyH.nil
                    go_simp
                    refine hK.out _ _ ?kD13_9 (fun hHeld => ?mD13_9)
                    case kD13_9 =>
                      try dsimp only
                      exact (HBX.out _ (HBW.out _ hbK12)).2.1
                    clear hK K
                    try simp only [Act.put, List.getElem_toArray, List.getElem_cons_succ, List.getElem_cons_zero, List.setIfInBounds_toArray, List.set_cons_zero, List.set_cons_succ]
                    refine wpAnyH_done (by kernel_rfl) ?_ _
                    (try dsimp only [Straight])
                    (try go_wp2_with fail)
                    go_meet
                    exact ⟨_, ra6, rb6, rca6, rcb6, rfl, rfl, zs12, ttK12, hbK12⟩
                  case o5_7 =>
                    go_simp
                    refine afterAlloc (fun K14 hc14 hl14 zn14 => ?_)
                    have hbK14 : Below w1.heap.size w1 K14 := hbK4.trans (hc14.mono hsK4)
                    have hsK14 : w1.heap.size ≤ K14.heap.size := hbK14.size
                    have tuK14 := AI4.later hc14
                    refine hK.out _ _ ((HBX.out _ (HBW.out _ hbK14)).2.1) (fun hHeld2 => ?_)
                    clear hK K hHeld
                    have hHeld := hHeld2
                    clear hHeld2
                    try simp only [Act.put, List.getElem_toArray, List.getElem_cons_succ, List.getElem_cons_zero, List.setIfInBounds_toArray, List.set_cons_zero, List.set_cons_succ]
                    refine wpAnyH_ready (rs := [3]) (by kernel_rfl) (by simp) ?_
                    refine AllReadyH.cons rfl (fun K hK => ?o15_3) AllReadyH.nil
                    go_simp
                    refine (transZ (n := 1048576) (T3X.out _ (HBW.out _ hbK14)) HM3.out HL3.out (by omega) tuK14 (by assumption) (by rw [invL_length]; omega) HPI.out).mono ?_
                    rintro e K16 ⟨hg16, hc16⟩
                    rw [HS1.out, HMM.out] at hg16
                    obtain ⟨ra16, rb16, rca16, rcb16, rfl, TT16⟩ := hg16
                    have TT16' := TT16.mono hsK14
                    clear TT16
                    go_simp
                    have hbK16 : Below w1.heap.size w1 K16 := hbK14.trans (hc16.mono hsK14)
                    have hsK16 : w1.heap.size ≤ K16.heap.size := hbK16.size
                    have tuK16 := tuK14.later hc16
                    have zalK16 := zn14.later hc16
                    have ltalK16 := zalK16.lt
                    refine hK.out _ _ ((HBX.out _ (HBW.out _ hbK16)).2.1) (fun hHeld2 => ?_)
                    clear hK K hHeld
                    have hHeld := hHeld2
                    clear hHeld2
                    try simp only [Act.put, List.getElem_toArray, List.getElem_cons_succ, List.getElem_cons_zero, List.setIfInBounds_toArray, List.set_cons_zero, List.set_cons_succ]
                    refine todo [4, 5, 6] ?_
                    iterate 3
                     refine todoH (v := ?_) rfl (by kernel_rfl) (fun _ _ _ h => h) (by assumption) (Or.inl ⟨by rfl, ?_⟩) ?_
                     rotate_left
                     · intro w hSw; (try dsimp only at hSw); go_simp; (try with_reducible rfl)
                     try simp only [Act.put, List.getElem_toArray, List.getElem_cons_succ, List.getElem_cons_zero, List.setIfInBounds_toArray, List.set_cons_zero, List.set_cons_succ]
                    refine todone ?_
                    obtain ⟨d20_0, d20_1, d20_2, d20_3⟩ := zalK16.two
                    refine wpAnyH_ready (rs := [8]) (by kernel_rfl) (by simp) ?_
                    refine AllReadyH.cons rfl (fun K hK => ?s20) AllReadyH.nil
                    go_simp
                    refine afterSet2 zalK16 (fun K20 o20 zs20 => ?_)
                    clear d20_0 d20_1 d20_2 d20_3
                    have hbK20 : Below w1.heap.size w1 K20 := hbK16.trans (o20.below hsK4)
                    have hsK20 : w1.heap.size ≤ K20.heap.size := hbK20.size
                    have ttK20 := TT16'.far zalK16 (by decide) (by decide) (by decide) o20.block
                    refine hK.out _ _ ((HBX.out _ (HBW.out _ hbK20)).2.1) (fun hHeld2 => ?_)
                    clear hK K hHeld
                    have hHeld := hHeld2
                    clear hHeld2
                    try simp only [Act.put, List.getElem_toArray, List.getElem_cons_succ, List.getElem_cons_zero, List.setIfInBounds_toArray, List.set_cons_zero, List.set_cons_succ]
                    refine wpAnyH_ready (rs := [9]) (by kernel_rfl) (by simp) ?_
                    refine AllReadyH.cons rfl (fun K hK => ?sD21_9) AllReadyH.nil
                    go_simp
                    refine hK.out _ _ ?kD21_9 (fun hHeld => ?mD21_9)
                    case kD21_9 =>
                      try dsimp only
                      exact (HBX.out _ (HBW.out _ hbK20)).2.1
                    clear hK K
                    try simp only [Act.put, List.getElem_toArray, List.getElem_cons_succ, List.getElem_cons_zero, List.setIfInBounds_toArray, List.set_cons_zero, List.set_cons_succ]
                    refine wpAnyH_done (by kernel_rfl) ?_ _
                    (try dsimp only [Straight])
                    (try go_wp2_with fail)
                    go_meet
                    exact ⟨_, ra16, rb16, rca16, rcb16, rfl, rfl, zs20, ttK20, hbK20⟩
                case o3_7 =>
                  go_simp
                  refine afterAlloc (fun K22 hc22 hl22 zn22 => ?_)
                  have hbK22 : Below w1.heap.size w1 K22 := hb0.trans (hc22.mono hs0)
                  have hsK22 : w1.heap.size ≤ K22.heap.size := hbK22.size
                  refine hK.out _ _ ((HBX.out _ (HBW.out _ hbK22)).2.1) (fun hHeld2 => ?_)
                  clear hK K hHeld
                  have hHeld := hHeld2
                  clear hHeld2
                  try simp only [Act.put, List.getElem_toArray, List.getElem_cons_succ, List.getElem_cons_zero, List.setIfInBounds_toArray, List.set_cons_zero, List.set_cons_succ]
                  refine wpAnyH_ready (rs := [2]) (by kernel_rfl) (by simp) ?_
                  refine AllReadyH.cons rfl (fun K hK => ?o23_2) AllReadyH.nil
                  go_simp
                  refine (turned9_any (PX.out _ (HBW.out _ hbK22)) HPER.out.1 hp4).mono ?_
                  rintro e K24 ⟨r24, rfl, RS24, hc24⟩
                  obtain ⟨ai24, ci24, AI24, ni24⟩ := RS24.arg2
                  obtain rfl := AI24.is
                  clear RS24
                  go_simp
                  have hbK24 : Below w1.heap.size w1 K24 := hbK22.trans (hc24.mono hsK22)
                  have hsK24 : w1.heap.size ≤ K24.heap.size := hbK24.size
                  have zalK24 := zn22.later hc24
                  have ltalK24 := zalK24.lt
                  refine hK.out _ _ ((HBX.out _ (HBW.out _ hbK24)).2.1) (fun hHeld2 => ?_)
                  clear hK K hHeld
                  have hHeld := hHeld2
                  clear hHeld2
                  try simp only [Act.put, List.getElem_toArray, List.getElem_cons_succ, List.getElem_cons_zero, List.setIfInBounds_toArray, List.set_cons_zero, List.set_cons_succ]
                  refine wpAnyH_ready (rs := [3]) (by kernel_rfl) (by simp) ?_
                  refine AllReadyH.cons rfl (fun K hK => ?o25_3) AllReadyH.nil
                  go_simp
                  refine (transZ (n := 1048576) (T3X.out _ (HBW.out _ hbK24)) HM3.out HL3.out (by omega) AI24 (by assumption) (by rw [invL_length]; omega) HPI.out).mono ?_
                  rintro e K26 ⟨hg26, hc26⟩
                  rw [HS1.out, HMM.out] at hg26
                  obtain ⟨ra26, rb26, rca26, rcb26, rfl, TT26⟩ := hg26
                  have TT26' := TT26.mono hsK24
                  clear TT26
                  go_simp
                  have hbK26 : Below w1.heap.size w1 K26 := hbK24.trans (hc26.mono hsK24)
                  have hsK26 : w1.heap.size ≤ K26.heap.size := hbK26.size
                  have tuK26 := AI24.later hc26
                  have zalK26 := zalK24.later hc26
                  have ltalK26 := zalK26.lt
                  refine hK.out _ _ ((HBX.out _ (HBW.out _ hbK26)).2.1) (fun hHeld2 => ?_)
                  clear hK K hHeld
                  have hHeld := hHeld2
                  clear hHeld2
                  try simp only [Act.put, List.getElem_toArray, List.getElem_cons_succ, List.getElem_cons_zero, List.setIfInBounds_toArray, List.set_cons_zero, List.set_cons_succ]
                  refine todo [4, 5, 6] ?_
                  iterate 3
                   refine todoH (v := ?_) rfl (by kernel_rfl) (fun _ _ _ h => h) (by assumption) (Or.inl ⟨by rfl, ?_⟩) ?_
                   rotate_left
                   · intro w hSw; (try dsimp only at hSw); go_simp; (try with_reducible rfl)
                   try simp only [Act.put, List.getElem_toArray, List.getElem_cons_succ, List.getElem_cons_zero, List.setIfInBounds_toArray, List.set_cons_zero, List.set_cons_succ]
                  refine todone ?_
                  obtain ⟨d30_0, d30_1, d30_2, d30_3⟩ := zalK26.two
                  refine wpAnyH_ready (rs := [8]) (by kernel_rfl) (by simp) ?_
                  refine AllReadyH.cons rfl (fun K hK => ?s30) AllReadyH.nil
                  go_simp
                  refine afterSet2 zalK26 (fun K30 o30 zs30 => ?_)
                  clear d30_0 d30_1 d30_2 d30_3
                  have hbK30 : Below w1.heap.size w1 K30 := hbK26.trans (o30.below hs0)
                  have hsK30 : w1.heap.size ≤ K30.heap.size := hbK30.size
                  have ttK30 := TT26'.far zalK26 (by decide) (by decide) (by decide) o30.block
                  refine hK.out _ _ ((HBX.out _ (HBW.out _ hbK30)).2.1) (fun hHeld2 => ?_)
                  clear hK K hHeld
                  have hHeld := hHeld2
                  clear hHeld2
                  try simp only [Act.put, List.getElem_toArray, List.getElem_cons_succ, List.getElem_cons_zero, List.setIfInBounds_toArray, List.set_cons_zero, List.set_cons_succ]
                  refine wpAnyH_ready (rs := [9]) (by kernel_rfl) (by simp) ?_
                  refine AllReadyH.cons rfl (fun K hK => ?sD31_9) AllReadyH.nil
                  go_simp
                  refine hK.out _ _ ?kD31_9 (fun hHeld => ?mD31_9)
                  case kD31_9 =>
                    try dsimp only
                    exact (HBX.out _ (HBW.out _ hbK30)).2.1
                  clear hK K
                  try simp only [Act.put, List.getElem_toArray, List.getElem_cons_succ, List.getElem_cons_zero, List.setIfInBounds_toArray, List.set_cons_zero, List.set_cons_succ]
                  refine wpAnyH_done (by kernel_rfl) ?_ _
                  (try dsimp only [Straight])
                  (try go_wp2_with fail)
                  go_meet
                  exact ⟨_, ra26, rb26, rca26, rcb26, rfl, rfl, zs30, ttK30, hbK30⟩
              case rest =>
                rename World => w5
                obtain ⟨h5, ra5, rb5, rca5, rcb5, rfl, rfl, R5, TT5, D5⟩ := hcut
                obtain ⟨⟨k0, k1⟩, ⟨k2, k3⟩, k4, k5⟩ := HBX.out _ (HBW.out _ D5)
                obtain ⟨e0, e1, _, _⟩ := (HR1'.out.later D5).two
                have HT5 := Lib.hid TT5
                have HD5 := Lib.hid D5
                have s5 := D5.size
                clear TT5
                go_wp2_with fail
                skip
                skip
                refine (dotKQ (n := 1048578) (B := 67200000) (HTT.out.later HD5.out) (T3X.out _ (HBW.out _ HD5.out)) HOA.out HM3.out (lens_more9 HL3.out (by omega)) (by omega) (by unfold trV; rw [fillV_len]; exact HFIT.out.1) (by omega)).mono ?_
                rintro e y6 ⟨r6, rfl, RQ6, hy6⟩
                obtain ⟨m6, f61, l61, j61, f62, l62, j62, rfl⟩ := RQ6.shape
                obtain ⟨q6, hq6⟩ : ∃ Y, y6.alloc (.cells #[.bool m6, .slice f61 l61 j61, .slice f62 l62 j62] 58) = Y := ⟨_, rfl⟩
                have R6 : Row q6 y6.heap.size 58 #[.bool m6, .slice f61 l61 j61, .slice f62 l62 j62] := by rw [← hq6]; exact Row.new _ _ _
                have b6 : Below y6.heap.size y6 q6 := by rw [← hq6]; exact (Below.refl _ _).alloc (Nat.le_refl _) _
                have AQ6 := (RQ6.later b6)
                have D6 : Below w5.heap.size w5 q6 := hy6.trans (b6.mono hy6.size)
                clear RQ6 k0 k1 k2 k3 k4 k5
                have D56 : Below w1.heap.size w1 q6 := HD5.out.trans (D6.mono HD5.out.size)
                clear e0 e1
                obtain ⟨⟨k0, k1⟩, ⟨k2, k3⟩, k4, k5⟩ := HBX.out _ (HBW.out _ D56)
                obtain ⟨e0, e1, _, _⟩ := (R5.later D6).two
                have HD56 := Lib.hid D56
                go_wp2_with fail
                (try rw [hq6])
                clear hq6
                refine (dotQK (n := 1048578) (B := 67200000) (TX.out _ (HBW.out _ HD56.out)) (HT5.out.later D6) HOB.out HM.out (lens_more9 HL.out (by omega)) (by omega) (by rw [cnt_of HOK.out]; exact HFIT.out.2) (by omega)).mono ?_
                rintro e y7 ⟨r7, rfl, RQ7, hy7⟩
                obtain ⟨m7, f71, l71, j71, f72, l72, j72, rfl⟩ := RQ7.shape
                obtain ⟨q7, hq7⟩ : ∃ Y, y7.alloc (.cells #[.bool m7, .slice f71 l71 j71, .slice f72 l72 j72] 58) = Y := ⟨_, rfl⟩
                have R7 : Row q7 y7.heap.size 58 #[.bool m7, .slice f71 l71 j71, .slice f72 l72 j72] := by rw [← hq7]; exact Row.new _ _ _
                have b7 : Below y7.heap.size y7 q7 := by rw [← hq7]; exact (Below.refl _ _).alloc (Nat.le_refl _) _
                have AQ7 := (RQ7.later b7)
                have D7 : Below q6.heap.size q6 q7 := hy7.trans (b7.mono hy7.size)
                clear RQ7 k0 k1 k2 k3 k4 k5
                clear e0 e1
                have hsm := sameQR9 ((AQ6.later D7).arg) (n := 67200000 / 32 + 1) (X := dotN (trV s p (qs.map Q3.rat)) (qy.map Q3.rat) (trV s p (qs.map Q3.rat)).length) (v := .agg #[.bool m7, .slice f71 l71 j71, .slice f72 l72 j72]) (by
                  have e : dotN (trV s p (qs.map Q3.rat)) (qy.map Q3.rat) (trV s p (qs.map Q3.rat)).length = dotN (qs.map Q3.rat) M qs.length := by
                    rw [cnt_of HOK.out, ← HDOT.out]
                    unfold trV
                    rw [fillV_len]
                  rw [e]
                  exact AQ7.arg) (by omega)
                obtain ⟨e60, e61, e62, _, _, _⟩ := (R6.later D7).three
                obtain ⟨e70, e71, e72, _, _, _⟩ := R7.three
                have DD : Below w1.heap.size w1 q7 := HD56.out.trans (D7.mono HD56.out.size)
                clear AQ6 AQ7
                go_wp2_with fail
                (try rw [hq7])
                clear hq7
                refine hsm.mono ?_
                rintro e y9 ⟨rfl, hy9⟩
                clear hsm e60 e61 e62 e70 e71 e72
                go_wp2_with fail
                go_meet
                exact DD.trans (hy9.mono DD.size)
          case rest =>
            rename World => wc1
            have B6 : Below V.heap.size V wc1 := Bw1.trans (hcut.mono Bw1.size)
            obtain ⟨⟨k0, k1⟩, ⟨k2, k3⟩, k4, k5⟩ := HBX.out _ B6
            clear hcut
            go_wp2_with fail
            refine (CP.out _ B6).mono ?_
            rintro e z2 ⟨hO, hz2⟩
            obtain ⟨x20, x21, x22, x23, x24, x25, rfl, hA⟩ := hO.ans9
            have A2 := Lib.hid hA
            have C2 : Below V.heap.size V z2 := B6.trans (hz2.mono B6.size)
            obtain ⟨q2, hq2⟩ : ∃ Y, z2.alloc (.cells #[.slice x20 x21 x22, .slice x23 x24 x25] 26) = Y := ⟨_, rfl⟩
            have R2 : Row q2 z2.heap.size 26 #[.slice x20 x21 x22, .slice x23 x24 x25] := by rw [← hq2]; exact Row.new _ _ _
            have b2 : Below z2.heap.size z2 q2 := by rw [← hq2]; exact (Below.refl _ _).alloc (Nat.le_refl _) _
            have Bq2 : Below V.heap.size V q2 := C2.trans (b2.mono C2.size)
            obtain ⟨g2, hg2⟩ : ∃ g, decide (cc2 = 0 ∧ pdW s d = s4) = g := ⟨_, rfl⟩
            have G2 := Lib.hid hg2
            have HRk2 := Lib.hid R2
            clear hO hA k0 k1 k2 k3 k4 k5 hz2 hg2 R2
            go_upto_region 11 with fail
            (try rw [hq2])
            clear hq2
            go_cut [105] (fun st wx => st = .bool g2 ∧ Below q2.heap.size q2 wx)
            case first =>
              obtain ⟨⟨k0, k1⟩, ⟨k2, k3⟩, k4, k5⟩ := HBX.out _ Bq2
              obtain ⟨e0, e1, _, _⟩ := HRk2.out.two
              by_cases hc : cc2 = 0
              · have hci : (cc2 == 0) = true := by simp [hc]
                have hT := (A2.out.resolve_right (fun h => h.1 hc)).2.later b2
                obtain ⟨rfl, rfl, AS⟩ := hT.shape9
                have hsh := sameSh_any AS (T4X.out _ Bq2).sh (by have h := hT.shape9.1; rw [show (pdW s d).length = s.length by simp [pdW]]; omega)
                have hgg : decide (pdW s d = s4) = g2 := by rw [← G2.out]; simp [hc]
                rw [hgg] at hsh
                clear hgg hT AS hc
                go_wp2_with fail
                refine hsh.mono ?_
                rintro e y5 ⟨rfl, hy5⟩
                clear hsh k0 k1 k2 k3 k4 k5 e0 e1
                go_wp2_with fail
                go_meet
                exact ⟨rfl, hy5⟩
              · have hci : (cc2 == 0) = false := by simp [hc]
                obtain rfl : g2 = false := by rw [← G2.out]; simp [hc]
                go_wp2_with fail
                go_meet
                exact ⟨rfl, Below.refl _ _⟩
            case rest =>
              rename World => w2
              obtain ⟨rfl, hw2⟩ := hcut
              have Bw2 : Below V.heap.size V w2 := Bq2.trans (hw2.mono Bq2.size)
              have HR2' := Lib.hid (HRk2.out.later hw2)
              go_upto_if 105 with fail
              go_cut [105] (fun _ wx => Below w2.heap.size w2 wx)
              case first =>
                cases g2 with
                | false =>
                  go_wp2_with fail
                  go_meet
                  exact Below.refl _ _
                | true =>
                  obtain ⟨hc, hse⟩ := of_decide_eq_true G2.out
                  have hT := ((A2.out.resolve_right (fun h => h.1 hc)).2.later b2).later hw2
                  have HTT : Hid (ResT wc1.heap.size w2 (.agg #[.slice x20 x21 x22, .slice x23 x24 x25]) (pdW s d) (pdV s d (qs.map Q3.rat)) (1048576 + 2)) := Lib.hid hT
                  have HCC := Lib.hid hc
                  have bw : ∀ X, Below w2.heap.size w2 X → Below V.heap.size V X := fun X h => Bw2.trans (h.mono Bw2.size)
                  have HBW := Lib.hid bw
                  have HSE := Lib.hid hse
                  clear hT bw hse hc
                  have hpd : pdC s d = 0 := (pdCW_eq HOK.out.ok).symm.trans (HC2.out.trans HCC.out)
                  have HPD := Lib.hid (pdC_is hpd)
                  have hpw := pdW_eq (t := d) HOK.out.ok (.inl hpd)
                  have hse := HSE.out
                  rw [hpw] at hse
                  subst hse
                  have HIN : Hid (∀ i, i < s.length → 0 ≤ fstP d i ∧ fstP d i ≤ 1024 ∧ 1 ≤ s.getD i 0 ∧ s.getD i 0 ≤ 1024) := Lib.hid (fun i hi => by have h1 := HPD.out.2.2 i hi; have h2 := (pd_small hpd HOK.out.ok hi).2.1; have h3 := HOK.out.ok.pos.getD hi; have h4 := getD_le_prod HOK.out.ok.pos hi; have h5 := HOK.out.ok.few; omega)
                  have HSC := Lib.hid (in_slC HOK.out.ok hpd)
                  have HS1 := Lib.hid (in_slS (s := s) (t := d))
                  have HOA : Hid (Ok9 (pdS s d) (pdV s d (qs.map Q3.rat)).length) := Lib.hid (Ok9.pdT HOK.out.ok hpd)
                  obtain ⟨M, hM⟩ : ∃ M, slV (pdS s d) (inL s d) (qz.map Q3.rat) = M := ⟨_, rfl⟩
                  have HMM := Lib.hid hM
                  have HOB : Hid (Ok9 s M.length) := Lib.hid (by rw [← hM]; have h := Ok9.slT (Lx := qz.map Q3.rat) HOA.out.ok HSC.out; rw [HS1.out] at h; exact h)
                  have hfit := pad_fit (B := 67200000) HOK.out.ok hpd WF.out WF4.out (cnt_of HOK.out) (cnt_of HOK4.out) (by have := HSZ.out; omega)
                  have hdot := pad_dot (L := qs.map Q3.rat) (M := qz.map Q3.rat) HOK.out.ok hpd (by rw [List.length_map]; exact cnt_of HOK.out) (by rw [List.length_map]; exact cnt_of HOK4.out)
                  rw [hM] at hfit hdot
                  have HFIT := Lib.hid hfit
                  have HDOT := Lib.hid hdot
                  have HPW := Lib.hid hpw
                  clear hpd hM hfit hdot hpw
                  go_upto_region 12 with fail
                  go_cut [21, 22] (fun s13 s14 wx => ∃ (h : Nat) (ra rb : Option Addr) (rca rcb : Nat), s13 = .pointer (some ⟨h, 0, none⟩) ∧ s14 = .int .i64 0 ∧ Row wx h 26 #[.slice ra s.length rca, .slice rb M.length rcb] ∧ ResT w2.heap.size wx (.agg #[.slice ra s.length rca, .slice rb M.length rcb]) s M 1048578 ∧ Below w2.heap.size w2 wx)
                  case first =>
                    refine wp_region_held_drew (S := fun X => (X.cell? ⟨W.heap.size + 1 + 1, 0, none⟩ = some (.slice a4 (pdS s d).length ca4) ∧ X.cell? ⟨W.heap.size + 1 + 1, 1, none⟩ = some (.slice b4 qz.length cb4)) ∧ X.cell? ⟨W.heap.size, 0, none⟩ = some (.slice a s.length ca)) (by kernel_rfl) (⟨(HBX.out _ (HBW.out _ ((Below.refl w2.heap.size w2).drew))).2.2, (HBX.out _ (HBW.out _ ((Below.refl w2.heap.size w2).drew))).1.1⟩) (fun hHeld => ?_)
                    refine todo [0, 1, 2, 3] ?_
                    iterate 4
                     refine todoH (v := ?_) rfl (by kernel_rfl) (fun _ _ _ h => h) (by assumption) (Or.inl ⟨by rfl, ?_⟩) ?_
                     rotate_left
                     · intro w hSw; (try dsimp only at hSw); go_simp; (try with_reducible rfl)
                     try simp only [Act.put, List.getElem_toArray, List.getElem_cons_succ, List.getElem_cons_zero, List.setIfInBounds_toArray, List.set_cons_zero, List.set_cons_succ]
                    refine todone ?_
                    obtain ⟨K0, hV0⟩ : ∃ Y, w2.drew = Y := ⟨_, rfl⟩
                    rw [hV0] at hHeld
                    rw [hV0]
                    have hb0 : Below w2.heap.size w2 K0 := by rw [← hV0]; exact (Below.refl _ _).drew
                    have hs0 : w2.heap.size ≤ K0.heap.size := hb0.size
                    clear hV0
                    refine wpAnyH_ready (rs := [4, 9]) (by kernel_rfl) (by simp) ?_
                    refine AllReadyH.cons rfl (fun K hK => ?o505_4) (AllReadyH.cons rfl (fun K hK => ?o505_9) AllReadyH.nil)
                    case o505_4 =>
                      go_simp
                      refine (inside9_any (TX.out _ (HBW.out _ hb0)).sh (DX.out _ (HBW.out _ hb0)) HPD.out.1 (by omega) HIN.out).mono ?_
                      rintro e K506 ⟨r506, rfl, RS506, hc506⟩
                      obtain ⟨ai506, ci506, AI506, ni506⟩ := RS506.arg2
                      obtain rfl := AI506.is
                      clear RS506
                      go_simp
                      have hbK506 : Below w2.heap.size w2 K506 := hb0.trans (hc506.mono hs0)
                      have hsK506 : w2.heap.size ≤ K506.heap.size := hbK506.size
                      refine hK.out _ _ (⟨(HBX.out _ (HBW.out _ hbK506)).2.2, (HBX.out _ (HBW.out _ hbK506)).1.1⟩) (fun hHeld2 => ?_)
                      clear hK K hHeld
                      have hHeld := hHeld2
                      clear hHeld2
                      try simp only [Act.put, List.getElem_toArray, List.getElem_cons_succ, List.getElem_cons_zero, List.setIfInBounds_toArray, List.set_cons_zero, List.set_cons_succ]
                      refine wpAnyH_ready (rs := [5, 9]) (by kernel_rfl) (by simp) ?_
                      refine AllReadyH.cons rfl (fun K hK => ?o507_5) (AllReadyH.cons rfl (fun K hK => ?o507_9) AllReadyH.nil)
                      case o507_5 =>
                        go_simp
                        refine (sliceZ (n := 1048576) (T4X.out _ (HBW.out _ hbK506)) HM4.out HL4.out (by omega) AI506 (by assumption) (by rw [inL_len]; omega) HSC.out).mono ?_
                        rintro e K508 ⟨hg508, hc508⟩
                        rw [HS1.out, HMM.out] at hg508
                        obtain ⟨ra508, rb508, rca508, rcb508, rfl, TT508⟩ := hg508
                        have TT508' := TT508.mono hsK506
                        clear TT508
                        go_simp
                        have hbK508 : Below w2.heap.size w2 K508 := hbK506.trans (hc508.mono hsK506)
                        have hsK508 : w2.heap.size ≤ K508.heap.size := hbK508.size
                        have tuK508 := AI506.later hc508
                        refine hK.out _ _ (⟨(HBX.out _ (HBW.out _ hbK508)).2.2, (HBX.out _ (HBW.out _ hbK508)).1.1⟩) (fun hHeld2 => ?_)
                        clear hK K hHeld
                        have hHeld := hHeld2
                        clear hHeld2
                        try simp only [Act.put, List.getElem_toArray, List.getElem_cons_succ, List.getElem_cons_zero, List.setIfInBounds_toArray, List.set_cons_zero, List.set_cons_succ]
                        refine todo [6, 7, 8] ?_
                        iterate 3
                         refine todoH (v := ?_) rfl (by kernel_rfl) (fun _ _ _ h => h) (by assumption) (Or.inl ⟨by rfl, ?_⟩) ?_
                         rotate_left
                         · intro w hSw; (try dsimp only at hSw); go_simp; (try with_reducible rfl)
                         try simp only [Act.put, List.getElem_toArray, List.getElem_cons_succ, List.getElem_cons_zero, List.setIfInBounds_toArray, List.set_cons_zero, List.set_cons_succ]
                        refine todone ?_
                        refine wpAnyH_ready (rs := [9]) (by kernel_rfl) (by simp) ?_
                        refine AllReadyH.cons rfl (fun K hK => ?o512_9) AllReadyH.nil
                        go_simp
                        refine afterAlloc (fun K513 hc513 hl513 zn513 => ?_)
                        have hbK513 : Below w2.heap.size w2 K513 := hbK508.trans (hc513.mono hsK508)
                        have hsK513 : w2.heap.size ≤ K513.heap.size := hbK513.size
                        have tuK513 := tuK508.later hc513
                        have ttK513 := TT508'.later hc513
                        refine hK.out _ _ (⟨(HBX.out _ (HBW.out _ hbK513)).2.2, (HBX.out _ (HBW.out _ hbK513)).1.1⟩) (fun hHeld2 => ?_)
                        clear hK K hHeld
                        have hHeld := hHeld2
                        clear hHeld2
                        try simp only [Act.put, List.getElem_toArray, List.getElem_cons_succ, List.getElem_cons_zero, List.setIfInBounds_toArray, List.set_cons_zero, List.set_cons_succ]
                        obtain ⟨d514_0, d514_1, d514_2, d514_3⟩ := zn513.two
                        refine wpAnyH_ready (rs := [10]) (by kernel_rfl) (by simp) ?_
                        refine AllReadyH.cons rfl (fun K hK => ?s514) AllReadyH.nil
                        go_simp
                        refine afterSet2 zn513 (fun K514 o514 zs514 => ?_)
                        clear d514_0 d514_1 d514_2 d514_3
                        have hbK514 : Below w2.heap.size w2 K514 := hbK513.trans (o514.below hsK508)
                        have hsK514 : w2.heap.size ≤ K514.heap.size := hbK514.size
                        have ttK514 := ttK513.far zn513 (by decide) (by decide) (by decide) o514.block
                        refine hK.out _ _ (⟨(HBX.out _ (HBW.out _ hbK514)).2.2, (HBX.out _ (HBW.out _ hbK514)).1.1⟩) (fun hHeld2 => ?_)
                        clear hK K hHeld
                        have hHeld := hHeld2
                        clear hHeld2
                        try simp only [Act.put, List.getElem_toArray, List.getElem_cons_succ, List.getElem_cons_zero, List.setIfInBounds_toArray, List.set_cons_zero, List.set_cons_succ]
                        refine wpAnyH_ready (rs := [11]) (by kernel_rfl) (by simp) ?_
                        refine AllReadyH.cons rfl (fun K hK => ?sD515_11) AllReadyH.nil
                        go_simp
                        refine hK.out _ _ ?kD515_11 (fun hHeld => ?mD515_11)
                        case kD515_11 =>
                          try dsimp only
                          exact ⟨(HBX.out _ (HBW.out _ hbK514)).2.2, (HBX.out _ (HBW.out _ hbK514)).1.1⟩
                        clear hK K
                        try simp only [Act.put, List.getElem_toArray, List.getElem_cons_succ, List.getElem_cons_zero, List.setIfInBounds_toArray, List.set_cons_zero, List.set_cons_succ]
                        refine wpAnyH_done (by kernel_rfl) ?_ _
                        (try dsimp only [Straight])
                        (try go_wp2_with fail)
                        go_meet
                        exact ⟨_, ra508, rb508, rca508, rcb508, rfl, rfl, zs514, ttK514, hbK514⟩
                      case o507_9 =>
                        go_simp
                        refine afterAlloc (fun K516 hc516 hl516 zn516 => ?_)
                        have hbK516 : Below w2.heap.size w2 K516 := hbK506.trans (hc516.mono hsK506)
                        have hsK516 : w2.heap.size ≤ K516.heap.size := hbK516.size
                        have tuK516 := AI506.later hc516
                        refine hK.out _ _ (⟨(HBX.out _ (HBW.out _ hbK516)).2.2, (HBX.out _ (HBW.out _ hbK516)).1.1⟩) (fun hHeld2 => ?_)
                        clear hK K hHeld
                        have hHeld := hHeld2
                        clear hHeld2
                        try simp only [Act.put, List.getElem_toArray, List.getElem_cons_succ, List.getElem_cons_zero, List.setIfInBounds_toArray, List.set_cons_zero, List.set_cons_succ]
                        refine wpAnyH_ready (rs := [5]) (by kernel_rfl) (by simp) ?_
                        refine AllReadyH.cons rfl (fun K hK => ?o517_5) AllReadyH.nil
                        go_simp
                        refine (sliceZ (n := 1048576) (T4X.out _ (HBW.out _ hbK516)) HM4.out HL4.out (by omega) tuK516 (by assumption) (by rw [inL_len]; omega) HSC.out).mono ?_
                        rintro e K518 ⟨hg518, hc518⟩
                        rw [HS1.out, HMM.out] at hg518
                        obtain ⟨ra518, rb518, rca518, rcb518, rfl, TT518⟩ := hg518
                        have TT518' := TT518.mono hsK516
                        clear TT518
                        go_simp
                        have hbK518 : Below w2.heap.size w2 K518 := hbK516.trans (hc518.mono hsK516)
                        have hsK518 : w2.heap.size ≤ K518.heap.size := hbK518.size
                        have tuK518 := tuK516.later hc518
                        have zalK518 := zn516.later hc518
                        have ltalK518 := zalK518.lt
                        refine hK.out _ _ (⟨(HBX.out _ (HBW.out _ hbK518)).2.2, (HBX.out _ (HBW.out _ hbK518)).1.1⟩) (fun hHeld2 => ?_)
                        clear hK K hHeld
                        have hHeld := hHeld2
                        clear hHeld2
                        try simp only [Act.put, List.getElem_toArray, List.getElem_cons_succ, List.getElem_cons_zero, List.setIfInBounds_toArray, List.set_cons_zero, List.set_cons_succ]
                        refine todo [6, 7, 8] ?_
                        iterate 3
                         refine todoH (v := ?_) rfl (by kernel_rfl) (fun _ _ _ h => h) (by assumption) (Or.inl ⟨by rfl, ?_⟩) ?_
                         rotate_left
                         · intro w hSw; (try dsimp only at hSw); go_simp; (try with_reducible rfl)
                         try simp only [Act.put, List.getElem_toArray, List.getElem_cons_succ, List.getElem_cons_zero, List.setIfInBounds_toArray, List.set_cons_zero, List.set_cons_succ]
                        refine todone ?_
                        obtain ⟨d522_0, d522_1, d522_2, d522_3⟩ := zalK518.two
                        refine wpAnyH_ready (rs := [10]) (by kernel_rfl) (by simp) ?_
                        refine AllReadyH.cons rfl (fun K hK => ?s522) AllReadyH.nil
                        go_simp
                        refine afterSet2 zalK518 (fun K522 o522 zs522 => ?_)
                        clear d522_0 d522_1 d522_2 d522_3
                        have hbK522 : Below w2.heap.size w2 K522 := hbK518.trans (o522.below hsK506)
                        have hsK522 : w2.heap.size ≤ K522.heap.size := hbK522.size
                        have ttK522 := TT518'.far zalK518 (by decide) (by decide) (by decide) o522.block
                        refine hK.out _ _ (⟨(HBX.out _ (HBW.out _ hbK522)).2.2, (HBX.out _ (HBW.out _ hbK522)).1.1⟩) (fun hHeld2 => ?_)
                        clear hK K hHeld
                        have hHeld := hHeld2
                        clear hHeld2
                        try simp only [Act.put, List.getElem_toArray, List.getElem_cons_succ, List.getElem_cons_zero, List.setIfInBounds_toArray, List.set_cons_zero, List.set_cons_succ]
                        refine wpAnyH_ready (rs := [11]) (by kernel_rfl) (by simp) ?_
                        refine AllReadyH.cons rfl (fun K hK => ?sD523_11) AllReadyH.nil
                        go_simp
                        refine hK.out _ _ ?kD523_11 (fun hHeld => ?mD523_11)
                        case kD523_11 =>
                          try dsimp only
                          exact ⟨(HBX.out _ (HBW.out _ hbK522)).2.2, (HBX.out _ (HBW.out _ hbK522)).1.1⟩
                        clear hK K
                        try simp only [Act.put, List.getElem_toArray, List.getElem_cons_succ, List.getElem_cons_zero, List.setIfInBounds_toArray, List.set_cons_zero, List.set_cons_succ]
                        refine wpAnyH_done (by kernel_rfl) ?_ _
                        (try dsimp only [Straight])
                        (try go_wp2_with fail)
                        go_meet
                        exact ⟨_, ra518, rb518, rca518, rcb518, rfl, rfl, zs522, ttK522, hbK522⟩
                    case o505_9 =>
                      go_simp
                      refine afterAlloc (fun K524 hc524 hl524 zn524 => ?_)
                      have hbK524 : Below w2.heap.size w2 K524 := hb0.trans (hc524.mono hs0)
                      have hsK524 : w2.heap.size ≤ K524.heap.size := hbK524.size
                      refine hK.out _ _ (⟨(HBX.out _ (HBW.out _ hbK524)).2.2, (HBX.out _ (HBW.out _ hbK524)).1.1⟩) (fun hHeld2 => ?_)
                      clear hK K hHeld
                      have hHeld := hHeld2
                      clear hHeld2
                      try simp only [Act.put, List.getElem_toArray, List.getElem_cons_succ, List.getElem_cons_zero, List.setIfInBounds_toArray, List.set_cons_zero, List.set_cons_succ]
                      refine wpAnyH_ready (rs := [4]) (by kernel_rfl) (by simp) ?_
                      refine AllReadyH.cons rfl (fun K hK => ?o525_4) AllReadyH.nil
                      go_simp
                      refine (inside9_any (TX.out _ (HBW.out _ hbK524)).sh (DX.out _ (HBW.out _ hbK524)) HPD.out.1 (by omega) HIN.out).mono ?_
                      rintro e K526 ⟨r526, rfl, RS526, hc526⟩
                      obtain ⟨ai526, ci526, AI526, ni526⟩ := RS526.arg2
                      obtain rfl := AI526.is
                      clear RS526
                      go_simp
                      have hbK526 : Below w2.heap.size w2 K526 := hbK524.trans (hc526.mono hsK524)
                      have hsK526 : w2.heap.size ≤ K526.heap.size := hbK526.size
                      have zalK526 := zn524.later hc526
                      have ltalK526 := zalK526.lt
                      refine hK.out _ _ (⟨(HBX.out _ (HBW.out _ hbK526)).2.2, (HBX.out _ (HBW.out _ hbK526)).1.1⟩) (fun hHeld2 => ?_)
                      clear hK K hHeld
                      have hHeld := hHeld2
                      clear hHeld2
                      try simp only [Act.put, List.getElem_toArray, List.getElem_cons_succ, List.getElem_cons_zero, List.setIfInBounds_toArray, List.set_cons_zero, List.set_cons_succ]
                      refine wpAnyH_ready (rs := [5]) (by kernel_rfl) (by simp) ?_
                      refine AllReadyH.cons rfl (fun K hK => ?o527_5) AllReadyH.nil
                      go_simp
                      refine (sliceZ (n := 1048576) (T4X.out _ (HBW.out _ hbK526)) HM4.out HL4.out (by omega) AI526 (by assumption) (by rw [inL_len]; omega) HSC.out).mono ?_
                      rintro e K528 ⟨hg528, hc528⟩
                      rw [HS1.out, HMM.out] at hg528
                      obtain ⟨ra528, rb528, rca528, rcb528, rfl, TT528⟩ := hg528
                      have TT528' := TT528.mono hsK526
                      clear TT528
                      go_simp
                      have hbK528 : Below w2.heap.size w2 K528 := hbK526.trans (hc528.mono hsK526)
                      have hsK528 : w2.heap.size ≤ K528.heap.size := hbK528.size
                      have tuK528 := AI526.later hc528
                      have zalK528 := zalK526.later hc528
                      have ltalK528 := zalK528.lt
                      refine hK.out _ _ (⟨(HBX.out _ (HBW.out _ hbK528)).2.2, (HBX.out _ (HBW.out _ hbK528)).1.1⟩) (fun hHeld2 => ?_)
                      clear hK K hHeld
                      have hHeld := hHeld2
                      clear hHeld2
                      try simp only [Act.put, List.getElem_toArray, List.getElem_cons_succ, List.getElem_cons_zero, List.setIfInBounds_toArray, List.set_cons_zero, List.set_cons_succ]
                      refine todo [6, 7, 8] ?_
                      iterate 3
                       refine todoH (v := ?_) rfl (by kernel_rfl) (fun _ _ _ h => h) (by assumption) (Or.inl ⟨by rfl, ?_⟩) ?_
                       rotate_left
                       · intro w hSw; (try dsimp only at hSw); go_simp; (try with_reducible rfl)
                       try simp only [Act.put, List.getElem_toArray, List.getElem_cons_succ, List.getElem_cons_zero, List.setIfInBounds_toArray, List.set_cons_zero, List.set_cons_succ]
                      refine todone ?_
                      obtain ⟨d532_0, d532_1, d532_2, d532_3⟩ := zalK528.two
                      refine wpAnyH_ready (rs := [10]) (by kernel_rfl) (by simp) ?_
                      refine AllReadyH.cons rfl (fun K hK => ?s532) AllReadyH.nil
                      go_simp
                      refine afterSet2 zalK528 (fun K532 o532 zs532 => ?_)
                      clear d532_0 d532_1 d532_2 d532_3
                      have hbK532 : Below w2.heap.size w2 K532 := hbK528.trans (o532.below hs0)
                      have hsK532 : w2.heap.size ≤ K532.heap.size := hbK532.size
                      have ttK532 := TT528'.far zalK528 (by decide) (by decide) (by decide) o532.block
                      refine hK.out _ _ (⟨(HBX.out _ (HBW.out _ hbK532)).2.2, (HBX.out _ (HBW.out _ hbK532)).1.1⟩) (fun hHeld2 => ?_)
                      clear hK K hHeld
                      have hHeld := hHeld2
                      clear hHeld2
                      try simp only [Act.put, List.getElem_toArray, List.getElem_cons_succ, List.getElem_cons_zero, List.setIfInBounds_toArray, List.set_cons_zero, List.set_cons_succ]
                      refine wpAnyH_ready (rs := [11]) (by kernel_rfl) (by simp) ?_
                      refine AllReadyH.cons rfl (fun K hK => ?sD533_11) AllReadyH.nil
                      go_simp
                      refine hK.out _ _ ?kD533_11 (fun hHeld => ?mD533_11)
                      case kD533_11 =>
                        try dsimp only
                        exact ⟨(HBX.out _ (HBW.out _ hbK532)).2.2, (HBX.out _ (HBW.out _ hbK532)).1.1⟩
                      clear hK K
                      try simp only [Act.put, List.getElem_toArray, List.getElem_cons_succ, List.getElem_cons_zero, List.setIfInBounds_toArray, List.set_cons_zero, List.set_cons_succ]
                      refine wpAnyH_done (by kernel_rfl) ?_ _
                      (try dsimp only [Straight])
                      (try go_wp2_with fail)
                      go_meet
                      exact ⟨_, ra528, rb528, rca528, rcb528, rfl, rfl, zs532, ttK532, hbK532⟩
                  case rest =>
                    rename World => w5
                    obtain ⟨h5, ra5, rb5, rca5, rcb5, rfl, rfl, R5, TT5, D5⟩ := hcut
                    obtain ⟨⟨k0, k1⟩, ⟨k2, k3⟩, k4, k5⟩ := HBX.out _ (HBW.out _ D5)
                    obtain ⟨e0, e1, _, _⟩ := (HR2'.out.later D5).two
                    have HT5 := Lib.hid TT5
                    have HD5 := Lib.hid D5
                    have s5 := D5.size
                    clear TT5
                    go_wp2_with fail
                    skip
                    skip
                    refine (dotKQ (n := 1048578) (B := 67200000) ((HTT.out.later HD5.out).cast9 HPW.out) (T4X.out _ (HBW.out _ HD5.out)) HOA.out HM4.out (lens_more9 HL4.out (by omega)) (by omega) (fun k hk => HFIT.out.1 k (Nat.le_trans hk (Nat.le_of_eq (by unfold pdV; rw [fillV_len, HPW.out])))) (by omega)).mono ?_
                    rintro e y6 ⟨r6, rfl, RQ6, hy6⟩
                    obtain ⟨m6, f61, l61, j61, f62, l62, j62, rfl⟩ := RQ6.shape
                    obtain ⟨q6, hq6⟩ : ∃ Y, y6.alloc (.cells #[.bool m6, .slice f61 l61 j61, .slice f62 l62 j62] 58) = Y := ⟨_, rfl⟩
                    have R6 : Row q6 y6.heap.size 58 #[.bool m6, .slice f61 l61 j61, .slice f62 l62 j62] := by rw [← hq6]; exact Row.new _ _ _
                    have b6 : Below y6.heap.size y6 q6 := by rw [← hq6]; exact (Below.refl _ _).alloc (Nat.le_refl _) _
                    have AQ6 := (RQ6.later b6)
                    have D6 : Below w5.heap.size w5 q6 := hy6.trans (b6.mono hy6.size)
                    clear RQ6 k0 k1 k2 k3 k4 k5
                    have D56 : Below w2.heap.size w2 q6 := HD5.out.trans (D6.mono HD5.out.size)
                    clear e0 e1
                    obtain ⟨⟨k0, k1⟩, ⟨k2, k3⟩, k4, k5⟩ := HBX.out _ (HBW.out _ D56)
                    obtain ⟨e0, e1, _, _⟩ := (R5.later D6).two
                    have HD56 := Lib.hid D56
                    go_wp2_with fail
                    (try rw [hq6])
                    clear hq6
                    refine (dotQK (n := 1048578) (B := 67200000) (TX.out _ (HBW.out _ HD56.out)) (HT5.out.later D6) HOB.out HM.out (lens_more9 HL.out (by omega)) (by omega) (by rw [cnt_of HOK.out]; exact HFIT.out.2) (by omega)).mono ?_
                    rintro e y7 ⟨r7, rfl, RQ7, hy7⟩
                    obtain ⟨m7, f71, l71, j71, f72, l72, j72, rfl⟩ := RQ7.shape
                    obtain ⟨q7, hq7⟩ : ∃ Y, y7.alloc (.cells #[.bool m7, .slice f71 l71 j71, .slice f72 l72 j72] 58) = Y := ⟨_, rfl⟩
                    have R7 : Row q7 y7.heap.size 58 #[.bool m7, .slice f71 l71 j71, .slice f72 l72 j72] := by rw [← hq7]; exact Row.new _ _ _
                    have b7 : Below y7.heap.size y7 q7 := by rw [← hq7]; exact (Below.refl _ _).alloc (Nat.le_refl _) _
                    have AQ7 := (RQ7.later b7)
                    have D7 : Below q6.heap.size q6 q7 := hy7.trans (b7.mono hy7.size)
                    clear RQ7 k0 k1 k2 k3 k4 k5
                    clear e0 e1
                    have hsm := sameQR9 ((AQ6.later D7).arg) (n := 67200000 / 32 + 1) (X := dotN (pdV s d (qs.map Q3.rat)) (qz.map Q3.rat) (pdV s d (qs.map Q3.rat)).length) (v := .agg #[.bool m7, .slice f71 l71 j71, .slice f72 l72 j72]) (by
                      have e : dotN (pdV s d (qs.map Q3.rat)) (qz.map Q3.rat) (pdV s d (qs.map Q3.rat)).length = dotN (qs.map Q3.rat) M qs.length := by
                        rw [cnt_of HOK.out, ← HDOT.out]
                        congr 1
                        unfold pdV
                        rw [fillV_len, HPW.out]
                      rw [e]
                      exact AQ7.arg) (by omega)
                    obtain ⟨e60, e61, e62, _, _, _⟩ := (R6.later D7).three
                    obtain ⟨e70, e71, e72, _, _, _⟩ := R7.three
                    have DD : Below w2.heap.size w2 q7 := HD56.out.trans (D7.mono HD56.out.size)
                    clear AQ6 AQ7
                    go_wp2_with fail
                    (try rw [hq7])
                    clear hq7
                    refine hsm.mono ?_
                    rintro e y9 ⟨rfl, hy9⟩
                    clear hsm e60 e61 e62 e70 e71 e72
                    go_wp2_with fail
                    go_meet
                    exact DD.trans (hy9.mono DD.size)
              case rest =>
                rename World => wc2
                have B7 : Below V.heap.size V wc2 := Bw2.trans (hcut.mono Bw2.size)
                clear hcut
                go_wp2_with fail
                refine (known9_any wc2).mono ?_
                rintro e y9 ⟨rfl, hy9⟩
                go_wp2_with fail
                go_ret
                exact ⟨rfl, hBV.trans ((B7.trans (hy9.mono B7.size)).mono hBV.size)⟩
      · have hne : (m4 != 0) = true := by simp [h4]
        go_enter Tryz.func11, Tryz.ntmps11
        go_wp2_with fail
        (try rw [hV])
        clear hV
        refine (mayc _ (Below.refl _ _)).mono ?_
        rintro e y1 ⟨rfl, B1⟩
        obtain ⟨⟨k0, k1⟩, ⟨k2, k3⟩, k4, k5⟩ := HBX.out _ B1
        go_wp2_with fail
        refine (may3 _ B1).mono ?_
        rintro e y2 ⟨rfl, hb2⟩
        have B2 : Below V.heap.size V y2 := B1.trans (hb2.mono B1.size)
        obtain ⟨⟨k0, k1⟩, ⟨k2, k3⟩, k4, k5⟩ := HBX.out _ B2
        go_wp2_with fail
        refine (may4 _ B2).mono ?_
        rintro e y3 ⟨rfl, hb3⟩
        have B3 : Below V.heap.size V y3 := B2.trans (hb3.mono B2.size)
        clear k0 k1 k2 k3 k4 k5
        obtain ⟨⟨k0, k1⟩, ⟨k2, k3⟩, k4, k5⟩ := HBX.out _ B3
        clear mayc may3 may4
        go_wp2_with fail
        refine (known9_any y3).mono ?_
        rintro e y8 ⟨rfl, hb8⟩
        go_wp2_with fail
        go_ret
        exact ⟨rfl, hBV.trans ((B3.trans (hb8.mono B3.size)).mono hBV.size)⟩
    · have hne : (m3 != 0) = true := by simp [h3]
      go_enter Tryz.func11, Tryz.ntmps11
      go_wp2_with fail
      (try rw [hV])
      clear hV
      refine (mayc _ (Below.refl _ _)).mono ?_
      rintro e y1 ⟨rfl, B1⟩
      obtain ⟨⟨k0, k1⟩, ⟨k2, k3⟩, k4, k5⟩ := HBX.out _ B1
      go_wp2_with fail
      refine (may3 _ B1).mono ?_
      rintro e y2 ⟨rfl, hb2⟩
      have B2 : Below V.heap.size V y2 := B1.trans (hb2.mono B1.size)
      obtain ⟨⟨k0, k1⟩, ⟨k2, k3⟩, k4, k5⟩ := HBX.out _ B2
      clear mayc may3 may4
      go_wp2_with fail
      refine (known9_any y2).mono ?_
      rintro e y8 ⟨rfl, hb8⟩
      go_wp2_with fail
      go_ret
      exact ⟨rfl, hBV.trans ((B2.trans (hb8.mono B2.size)).mono hBV.size)⟩
  · have hne : (m != 0) = true := by simp [h0]
    go_enter Tryz.func11, Tryz.ntmps11
    go_wp2_with fail
    (try rw [hV])
    clear hV
    refine (mayc _ (Below.refl _ _)).mono ?_
    rintro e y1 ⟨rfl, B1⟩
    obtain ⟨⟨k0, k1⟩, ⟨k2, k3⟩, k4, k5⟩ := HBX.out _ B1
    clear mayc may3 may4
    go_wp2_with fail
    refine (known9_any y1).mono ?_
    rintro e y8 ⟨rfl, hb8⟩
    go_wp2_with fail
    go_ret
    exact ⟨rfl, hBV.trans ((B1.trans (hb8.mono B1.size)).mono hBV.size)⟩
end Go.Proofs.YtooglnhlhgmhdaaGreat
