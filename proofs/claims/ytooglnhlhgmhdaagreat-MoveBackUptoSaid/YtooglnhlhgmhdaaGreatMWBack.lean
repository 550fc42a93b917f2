/-
  Layer 9's law MoveBack: for every tensor and every numbers the law holds (arguments that hold together at most 1048576 values). (Made by wip/gen/gen_mback.py.)
-/
import Derived.Test.YtooglnhlhgmhdaaGreatK32
namespace Go.Proofs.YtooglnhlhgmhdaaGreat
open Go.RowKit
set_option linter.unusedVariables false
set_option linter.unusedSimpArgs false

theorem permC_is {p : List Int} {r : Nat} (h : permC p r = 0) : IsPerm p ∧ p.length = r := by
  unfold permC at h
  split at h
  · rename_i h1
    obtain ⟨h2, h3⟩ := permB_is h1
    exact ⟨h2, by omega⟩
  · cases h
theorem Ok9.tr {s p : List Int} {L : List Rat} (hp : IsPerm p) (hl : p.length = s.length) (ok : Ok9 s L.length) : Ok9 (trS s p) (trV s p L).length := by
  obtain ⟨h1, h2⟩ := trS_ok hp hl ok.ok
  refine ⟨h1, ?_⟩
  unfold trV
  rw [fillV_len]
  have := ok.len
  omega
theorem Ok9.pd {s t : List Int} {L : List Rat} (ok : Ok9 s L.length) (h : pdC s t = 0) : Ok9 (pdS s t) (pdV s t L).length := by
  obtain ⟨h1, h2, h3⟩ := pdC_is h
  refine ⟨h2, ?_⟩
  unfold pdV
  rw [fillV_len, pdW_eq ok.ok (.inl h)]
  have := prodS_pos h2.pos
  omega
set_option maxRecDepth 100000 in
set_option maxHeartbeats 40000000 in
theorem moveBack_walk {v u1 u2 u3 : Value} {s p t d : List Int} {qs : List Q3} {a b ap at1 ad : Option Addr} {ca cb cp ct cd : Nat} (W : World) (T : TensQ W v s qs a ca b cb) (P : ArgS W u1 p ap cp) (np : ap = none → cp = 0) (H : ArgS W u2 t at1 ct) (nt : at1 = none → ct = 0) (D : ArgS W u3 d ad cd) (nd : ad = none → cd = 0) (ls : s.length ≤ 1048576) (lq : sizeQs qs ≤ 1048576) (lp : p.length ≤ 1048576) (lt : t.length ≤ 1048576) (ld : d.length ≤ 1048576) :
    Calls Tryz.prog 9 #[v, u1, u2, u3] W fun e W' => e = .returned (.bool true) ∧ Below W.heap.size W W' := by
  obtain rfl := P.is
  obtain rfl := H.is
  obtain rfl := D.is
  have HT := Lib.hid T
  have HP := Lib.hid P
  have HH := Lib.hid H
  have HD := Lib.hid D
  have NP := Lib.hid np
  have NT := Lib.hid nt
  have ND := Lib.hid nd
  have hlen := sizeQs_len qs
  have HL := Lib.hid (lensQ.of lq)
  have hq1 : qs.length ≤ 1048576 := by omega
  obtain rfl := T.is
  obtain ⟨V, hV⟩ : ∃ V, W.alloc (.cells #[.slice a s.length ca, .slice b qs.length cb] 26) = V := ⟨_, rfl⟩
  have R0 : Row V W.heap.size 26 #[.slice a s.length ca, .slice b qs.length cb] := by rw [← hV]; exact Row.new _ _ _
  have hBV : Below W.heap.size W V := by rw [← hV]; exact (Below.refl _ _).alloc (by simp) _
  have tX : ∀ X, Below V.heap.size V X → TensQ X (.agg #[.slice a s.length ca, .slice b qs.length cb]) s qs a ca b cb := fun X h => HT.out.later (hBV.trans (h.mono hBV.size))
  have pX : ∀ X, Below V.heap.size V X → ArgS X (.slice ap p.length cp) p ap cp := fun X h => HP.out.later (hBV.trans (h.mono hBV.size))
  have hX : ∀ X, Below V.heap.size V X → ArgS X (.slice at1 t.length ct) t at1 ct := fun X h => HH.out.later (hBV.trans (h.mono hBV.size))
  have dX : ∀ X, Below V.heap.size V X → ArgS X (.slice ad d.length cd) d ad cd := fun X h => HD.out.later (hBV.trans (h.mono hBV.size))
  have TX := Lib.hid tX
  have PX := Lib.hid pX
  have HX := Lib.hid hX
  have DX := Lib.hid dX
  have mayc := mayT_any (tX V (Below.refl _ _)) (by omega) (fun q hq => ⟨Nat.le_trans (HL.out q hq).1 (by omega), Nat.le_trans (HL.out q hq).2 (by omega)⟩)
  obtain ⟨m, hm⟩ : ∃ m, mayT s qs = m := ⟨_, rfl⟩
  rw [hm] at mayc
  have HM := Lib.hid hm
  obtain ⟨c0, c1, _, _⟩ := R0.two
  clear T P H D np nt nd tX pX hX dX lq hlen hm
  by_cases h0 : m = 0
  · subst h0
    obtain ⟨L, hL⟩ : ∃ L, qs.map Q3.rat = L := ⟨_, rfl⟩
    have hll : L.length = qs.length := by rw [← hL]; simp
    have HOK : Hid (Ok9 s L.length) := Lib.hid (by rw [hll]; exact ok9_of HM.out)
    have HLQ := Lib.hid hL
    have HLL := Lib.hid hll
    have cT := fun X (h : Below V.heap.size V X) => transpose_any (n := 1048576) (TX.out X h) (PX.out X h) NP.out (by omega) (by omega) (by omega) HL.out (by omega)
    have cR := fun X (h : Below V.heap.size V X) => reshape_any (n := 1048576) (TX.out X h) (HX.out X h) NT.out (by omega) (by omega) (by omega) HL.out (by omega)
    have cP := fun X (h : Below V.heap.size V X) => pad_any (n := 1048576) (TX.out X h) (DX.out X h) ND.out (by omega) (by omega) (by omega) HL.out (by omega)
    obtain ⟨cc1, hc1⟩ : ∃ c, permC p s.length = c := ⟨_, rfl⟩
    obtain ⟨cc2, hc2⟩ : ∃ c, orL [mayC t, cntC t qs] = c := ⟨_, rfl⟩
    obtain ⟨cc3, hc3⟩ : ∃ c, pdCW s d = c := ⟨_, rfl⟩
    simp only [(orL2 HM.out).trans hc1, hL] at cT
    simp only [show orL [mayT s qs, mayC t, cntC t qs] = cc2 by rw [HM.out, orL_zero9]; exact hc2, hL] at cR
    simp only [(orL2 HM.out).trans hc3, hL] at cP
    have HC1 := Lib.hid hc1
    have HC2 := Lib.hid hc2
    have HC3 := Lib.hid hc3
    have CT := Lib.hid cT
    have CR := Lib.hid cR
    have CP := Lib.hid cP
    clear hc1 hc2 hc3 hL hll cT cR cP
    go_enter Tryz.func9, Tryz.ntmps9
    go_wp2_with fail
    (try rw [hV])
    clear hV
    refine mayc.mono ?_
    rintro e y1 ⟨rfl, hb1⟩
    obtain ⟨k0, k1, _, _⟩ := (R0.later hb1).two
    have B1 : Below V.heap.size V y1 := hb1
    clear mayc c0 c1 hb1
    go_wp2_with fail
    refine (CT.out _ B1).mono ?_
    rintro e z1 ⟨hO, hz1⟩
    obtain ⟨x10, x11, x12, x13, x14, x15, rfl, hA⟩ := hO.ans9
    have A1 := Lib.hid hA
    have C1 : Below V.heap.size V z1 := B1.trans (hz1.mono B1.size)
    obtain ⟨q1, hq1⟩ : ∃ Y, z1.alloc (.cells #[.slice x10 x11 x12, .slice x13 x14 x15] 26) = Y := ⟨_, rfl⟩
    have R1 : Row q1 z1.heap.size 26 #[.slice x10 x11 x12, .slice x13 x14 x15] := by rw [← hq1]; exact Row.new _ _ _
    have b1 : Below z1.heap.size z1 q1 := by rw [← hq1]; exact (Below.refl _ _).alloc (Nat.le_refl _) _
    have Bq1 : Below V.heap.size V q1 := C1.trans (b1.mono C1.size)
    obtain ⟨g1, hg1⟩ : ∃ g, (cc1 == 0) = g := ⟨_, rfl⟩
    have G1 := Lib.hid hg1
    clear hO hA k0 k1 hz1
    go_upto_if 32 with fail
    (try rw [hq1])
    clear hq1 hg1
    go_cut [32] (fun _ wx => Below q1.heap.size q1 wx)
    case first =>
      cases g1 with
      | false =>
        go_wp2_with fail
        go_meet
        exact Below.refl _ _
      | true =>
        have hc : cc1 = 0 := by simpa using G1.out
        have HCC := Lib.hid hc
        have hT := (A1.out.resolve_right (fun h => h.1 hc)).2.later b1
        have HTT : Hid (ResT y1.heap.size q1 (.agg #[.slice x10 x11 x12, .slice x13 x14 x15]) (trS s p) (trV s p L) (1048576 + 2)) := Lib.hid hT
        have mk1 : ∀ X, Below q1.heap.size q1 X → X.cell? ⟨z1.heap.size, 0, none⟩ = some (.slice x10 x11 x12) ∧ X.cell? ⟨z1.heap.size, 1, none⟩ = some (.slice x13 x14 x15) := fun X h => by
          obtain ⟨e0, e1, _⟩ := (R1.later h).two
          exact ⟨e0, e1⟩
        have bx1 : ∀ X, Below q1.heap.size q1 X → X.cell? ⟨W.heap.size, 0, none⟩ = some (.slice a s.length ca) ∧ X.cell? ⟨W.heap.size, 1, none⟩ = some (.slice b qs.length cb) := fun X h => by
          obtain ⟨e0, e1, _⟩ := (R0.later (Bq1.trans (h.mono Bq1.size))).two
          exact ⟨e0, e1⟩
        clear hc hT
        have HPR := Lib.hid (permC_is (HC1.out.trans HCC.out))
        have HO1 := Lib.hid (Ok9.tr HPR.out.1 HPR.out.2 HOK.out)
        have HP1 : Hid (permC (invL p) (trS s p).length = 0) := Lib.hid (by rw [trS_len, ← invL_length p]; exact permC_yes HPR.out.1.inv)
        have HS1 := Lib.hid (trS_back HPR.out.1 HPR.out.2)
        have HV1 := Lib.hid (tr_back HPR.out.1 HPR.out.2 HOK.out)
        go_wp2_with fail
        refine wp_region_held_drew (S := fun X => X.cell? ⟨z1.heap.size, 0, none⟩ = some (.slice x10 x11 x12) ∧ X.cell? ⟨z1.heap.size, 1, none⟩ = some (.slice x13 x14 x15)) (by kernel_rfl) (mk1 _ ((Below.refl q1.heap.size q1).drew)) (fun hHeld => ?_)
        refine wpAnyH_take (i := 0) (v := ?vT1_0) rfl (by kernel_rfl) (by kernel_rfl) (by kernel_rfl) (fun _ _ _ h => h) (Or.inl ⟨by rfl, ?hT1_0⟩) (by assumption) ?rT1_0
        case hT1_0 =>
          intro w hSw
          try dsimp only at hSw
          go_simp
          try with_reducible rfl
        try simp only [Act.put, List.getElem_toArray, List.getElem_cons_succ, List.getElem_cons_zero, List.setIfInBounds_toArray, List.set_cons_zero, List.set_cons_succ]
        refine wpAnyH_take (i := 1) (v := ?vT2_1) rfl (by kernel_rfl) (by kernel_rfl) (by kernel_rfl) (fun _ _ _ h => h) (Or.inl ⟨by rfl, ?hT2_1⟩) (by assumption) ?rT2_1
        case hT2_1 =>
          intro w hSw
          try dsimp only at hSw
          go_simp
          try with_reducible rfl
        try simp only [Act.put, List.getElem_toArray, List.getElem_cons_succ, List.getElem_cons_zero, List.setIfInBounds_toArray, List.set_cons_zero, List.set_cons_succ]
        obtain ⟨K0, hV0⟩ : ∃ Y, q1.drew = Y := ⟨_, rfl⟩
        rw [hV0] at hHeld
        rw [hV0]
        have hb0 : Below q1.heap.size q1 K0 := by rw [← hV0]; exact (Below.refl _ _).drew
        have hs0 : q1.heap.size ≤ K0.heap.size := hb0.size
        clear hV0
        have anK0 := HTT.out.later hb0
        refine wpAnyH_ready (rs := [2, 7]) (by kernel_rfl) (by simp) ?_
        refine AllReadyH.cons rfl (fun K hK => ?o3_2) (AllReadyH.cons rfl (fun K hK => ?o3_7) AllReadyH.nil)
        case o3_2 =>
          go_simp
          refine (turned9_any (PX.out _ (Bq1.trans ((hb0 : Below q1.heap.size q1 _).mono Bq1.size))) HPR.out.1 (by have := HPR.out.2; have := HOK.out.le; omega)).mono ?_
          rintro e K4 ⟨r4, rfl, RS4, hc4⟩
          obtain ⟨ai4, ci4, AI4, ni4⟩ := RS4.arg2
          obtain rfl := AI4.is
          clear RS4
          go_simp
          have hbK4 : Below q1.heap.size q1 K4 := hb0.trans (hc4.mono hs0)
          have hsK4 : q1.heap.size ≤ K4.heap.size := hbK4.size
          have anK4 := anK0.later hc4
          refine hK.out _ _ (mk1 _ hbK4) (fun hHeld2 => ?_)
          clear hK K hHeld
          have hHeld := hHeld2
          clear hHeld2
          try simp only [Act.put, List.getElem_toArray, List.getElem_cons_succ, List.getElem_cons_zero, List.setIfInBounds_toArray, List.set_cons_zero, List.set_cons_succ]
          refine wpAnyH_ready (rs := [3, 7]) (by kernel_rfl) (by simp) ?_
          refine AllReadyH.cons rfl (fun K hK => ?o5_3) (AllReadyH.cons rfl (fun K hK => ?o5_7) AllReadyH.nil)
          case o5_3 =>
            go_simp
            refine (transK (n := 1048578) anK4 AI4 (by assumption) (by rw [invL_length]; omega) HO1.out (by omega) HP1.out).mono ?_
            rintro e K6 ⟨hg6, hc6⟩
            rw [HS1.out, HV1.out] at hg6
            obtain ⟨ra6, rb6, rca6, rcb6, rfl, TT6⟩ := hg6
            go_simp
            have hbK6 : Below q1.heap.size q1 K6 := hbK4.trans (hc6.mono hsK4)
            have hsK6 : q1.heap.size ≤ K6.heap.size := hbK6.size
            have anK6 := anK4.later hc6
            have tuK6 := AI4.later hc6
            refine hK.out _ _ (mk1 _ hbK6) (fun hHeld2 => ?_)
            clear hK K hHeld
            have hHeld := hHeld2
            clear hHeld2
            try simp only [Act.put, List.getElem_toArray, List.getElem_cons_succ, List.getElem_cons_zero, List.setIfInBounds_toArray, List.set_cons_zero, List.set_cons_succ]
            refine wpAnyH_take (i := 4) (v := ?vT7_4) rfl (by kernel_rfl) (by kernel_rfl) (by kernel_rfl) (fun _ _ _ h => h) (Or.inl ⟨by rfl, ?hT7_4⟩) (by assumption) ?rT7_4
            case hT7_4 =>
              intro w hSw
              try dsimp only at hSw
              go_simp
              try with_reducible rfl
            try simp only [Act.put, List.getElem_toArray, List.getElem_cons_succ, List.getElem_cons_zero, List.setIfInBounds_toArray, List.set_cons_zero, List.set_cons_succ]
            refine wpAnyH_take (i := 5) (v := ?vT8_5) rfl (by kernel_rfl) (by kernel_rfl) (by kernel_rfl) (fun _ _ _ h => h) (Or.inl ⟨by rfl, ?hT8_5⟩) (by assumption) ?rT8_5
            case hT8_5 =>
              intro w hSw
              try dsimp only at hSw
              go_simp
              try with_reducible rfl
            try simp only [Act.put, List.getElem_toArray, List.getElem_cons_succ, List.getElem_cons_zero, List.setIfInBounds_toArray, List.set_cons_zero, List.set_cons_succ]
            refine wpAnyH_take (i := 6) (v := ?vT9_6) rfl (by kernel_rfl) (by kernel_rfl) (by kernel_rfl) (fun _ _ _ h => h) (Or.inl ⟨by rfl, ?hT9_6⟩) (by assumption) ?rT9_6
            case hT9_6 =>
              intro w hSw
              try dsimp only at hSw
              go_simp
              try with_reducible rfl
            try simp only [Act.put, List.getElem_toArray, List.getElem_cons_succ, List.getElem_cons_zero, List.setIfInBounds_toArray, List.set_cons_zero, List.set_cons_succ]
            refine wpAnyH_ready (rs := [7]) (by kernel_rfl) (by simp) ?_
            refine AllReadyH.cons rfl (fun K hK => ?o10_7) AllReadyH.nil
            go_simp
            refine afterAlloc (fun K11 hc11 hl11 zn11 => ?_)
            have hbK11 : Below q1.heap.size q1 K11 := hbK6.trans (hc11.mono hsK6)
            have hsK11 : q1.heap.size ≤ K11.heap.size := hbK11.size
            have anK11 := anK6.later hc11
            have tuK11 := tuK6.later hc11
            have ttK11 := TT6.later hc11
            refine hK.out _ _ (mk1 _ hbK11) (fun hHeld2 => ?_)
            clear hK K hHeld
            have hHeld := hHeld2
            clear hHeld2
            try simp only [Act.put, List.getElem_toArray, List.getElem_cons_succ, List.getElem_cons_zero, List.setIfInBounds_toArray, List.set_cons_zero, List.set_cons_succ]
            obtain ⟨d12_0, d12_1, d12_2, d12_3⟩ := zn11.two
            refine wpAnyH_ready (rs := [8]) (by kernel_rfl) (by simp) ?_
            refine AllReadyH.cons rfl (fun K hK => ?s12) AllReadyH.nil
            go_simp
            refine afterSet2 zn11 (fun K12 o12 zs12 => ?_)
            clear d12_0 d12_1 d12_2 d12_3
            have hbK12 : Below q1.heap.size q1 K12 := hbK11.trans (o12.below hsK6)
            have hsK12 : q1.heap.size ≤ K12.heap.size := hbK12.size
            have ttK12 := ttK11.far zn11 (by decide) (by decide) (by decide) o12.block
            refine hK.out _ _ (mk1 _ hbK12) (fun hHeld2 => ?_)
            clear hK K hHeld
            have hHeld := hHeld2
            clear hHeld2
            try simp only [Act.put, List.getElem_toArray, List.getElem_cons_succ, List.getElem_cons_zero, List.setIfInBounds_toArray, List.set_cons_zero, List.set_cons_succ]
            refine wpAnyH_ready (rs := [9]) (by kernel_rfl) (by simp) ?_
            refine AllReadyH.cons rfl (fun K hK => ?sD13_9) AllReadyH.nil
            go_simp
            refine hK.out _ _ ?kD13_9 (fun hHeld => ?mD13_9)
            case kD13_9 =>
              try dsimp only
              exact mk1 _ hbK12
            clear hK K
            try simp only [Act.put, List.getElem_toArray, List.getElem_cons_succ, List.getElem_cons_zero, List.setIfInBounds_toArray, List.set_cons_zero, List.set_cons_succ]
            refine wpAnyH_done (by kernel_rfl) ?_ _
            (try dsimp only [Straight])
            obtain ⟨d0, d1, _, _⟩ := zs12.two
            obtain ⟨d2, d3⟩ := bx1 _ hbK12
            have hsame := sameX9 (m := 1048576) ttK12 (TX.out _ (Bq1.trans ((hbK12 : Below q1.heap.size q1 _).mono Bq1.size))) HLQ.out HL.out (by have := HOK.out.le; omega) (by have := HOK.out.le; omega) (by omega) (by omega)
            go_wp2_with fail
            refine hsame.mono ?_
            rintro e ye ⟨rfl, hye⟩
            clear hsame d0 d1 d2 d3
            go_wp2_with fail
            go_meet
            exact hbK12.trans (hye.mono hbK12.size)
          case o5_7 =>
            go_simp
            refine afterAlloc (fun K14 hc14 hl14 zn14 => ?_)
            have hbK14 : Below q1.heap.size q1 K14 := hbK4.trans (hc14.mono hsK4)
            have hsK14 : q1.heap.size ≤ K14.heap.size := hbK14.size
            have anK14 := anK4.later hc14
            have tuK14 := AI4.later hc14
            refine hK.out _ _ (mk1 _ hbK14) (fun hHeld2 => ?_)
            clear hK K hHeld
            have hHeld := hHeld2
            clear hHeld2
            try simp only [Act.put, List.getElem_toArray, List.getElem_cons_succ, List.getElem_cons_zero, List.setIfInBounds_toArray, List.set_cons_zero, List.set_cons_succ]
            refine wpAnyH_ready (rs := [3]) (by kernel_rfl) (by simp) ?_
            refine AllReadyH.cons rfl (fun K hK => ?o15_3) AllReadyH.nil
            go_simp
            refine (transK (n := 1048578) anK14 tuK14 (by assumption) (by rw [invL_length]; omega) HO1.out (by omega) HP1.out).mono ?_
            rintro e K16 ⟨hg16, hc16⟩
            rw [HS1.out, HV1.out] at hg16
            obtain ⟨ra16, rb16, rca16, rcb16, rfl, TT16⟩ := hg16
            go_simp
            have hbK16 : Below q1.heap.size q1 K16 := hbK14.trans (hc16.mono hsK14)
            have hsK16 : q1.heap.size ≤ K16.heap.size := hbK16.size
            have anK16 := anK14.later hc16
            have tuK16 := tuK14.later hc16
            have zalK16 := zn14.later hc16
            have ltalK16 := zalK16.lt
            refine hK.out _ _ (mk1 _ hbK16) (fun hHeld2 => ?_)
            clear hK K hHeld
            have hHeld := hHeld2
            clear hHeld2
            try simp only [Act.put, List.getElem_toArray, List.getElem_cons_succ, List.getElem_cons_zero, List.setIfInBounds_toArray, List.set_cons_zero, List.set_cons_succ]
            refine wpAnyH_take (i := 4) (v := ?vT17_4) rfl (by kernel_rfl) (by kernel_rfl) (by kernel_rfl) (fun _ _ _ h => h) (Or.inl ⟨by rfl, ?hT17_4⟩) (by assumption) ?rT17_4
            case hT17_4 =>
              intro w hSw
              try dsimp only at hSw
              go_simp
              try with_reducible rfl
            try simp only [Act.put, List.getElem_toArray, List.getElem_cons_succ, List.getElem_cons_zero, List.setIfInBounds_toArray, List.set_cons_zero, List.set_cons_succ]
            refine wpAnyH_take (i := 5) (v := ?vT18_5) rfl (by kernel_rfl) (by kernel_rfl) (by kernel_rfl) (fun _ _ _ h => h) (Or.inl ⟨by rfl, ?hT18_5⟩) (by assumption) ?rT18_5
            case hT18_5 =>
              intro w hSw
              try dsimp only at hSw
              go_simp
              try with_reducible rfl
            try simp only [Act.put, List.getElem_toArray, List.getElem_cons_succ, List.getElem_cons_zero, List.setIfInBounds_toArray, List.set_cons_zero, List.set_cons_succ]
            refine wpAnyH_take (i := 6) (v := ?vT19_6) rfl (by kernel_rfl) (by kernel_rfl) (by kernel_rfl) (fun _ _ _ h => h) (Or.inl ⟨by rfl, ?hT19_6⟩) (by assumption) ?rT19_6
            case hT19_6 =>
              intro w hSw
              try dsimp only at hSw
              go_simp
              try with_reducible rfl
            try simp only [Act.put, List.getElem_toArray, List.getElem_cons_succ, List.getElem_cons_zero, List.setIfInBounds_toArray, List.set_cons_zero, List.set_cons_succ]
            obtain ⟨d20_0, d20_1, d20_2, d20_3⟩ := zalK16.two
            refine wpAnyH_ready (rs := [8]) (by kernel_rfl) (by simp) ?_
            refine AllReadyH.cons rfl (fun K hK => ?s20) AllReadyH.nil
            go_simp
            refine afterSet2 zalK16 (fun K20 o20 zs20 => ?_)
            clear d20_0 d20_1 d20_2 d20_3
            have hbK20 : Below q1.heap.size q1 K20 := hbK16.trans (o20.below hsK4)
            have hsK20 : q1.heap.size ≤ K20.heap.size := hbK20.size
            have ttK20 := TT16.far zalK16 (by decide) (by decide) (by decide) o20.block
            refine hK.out _ _ (mk1 _ hbK20) (fun hHeld2 => ?_)
            clear hK K hHeld
            have hHeld := hHeld2
            clear hHeld2
            try simp only [Act.put, List.getElem_toArray, List.getElem_cons_succ, List.getElem_cons_zero, List.setIfInBounds_toArray, List.set_cons_zero, List.set_cons_succ]
            refine wpAnyH_ready (rs := [9]) (by kernel_rfl) (by simp) ?_
            refine AllReadyH.cons rfl (fun K hK => ?sD21_9) AllReadyH.nil
            go_simp
            refine hK.out _ _ ?kD21_9 (fun hHeld => ?mD21_9)
            case kD21_9 =>
              try dsimp only
              exact mk1 _ hbK20
            clear hK K
            try simp only [Act.put, List.getElem_toArray, List.getElem_cons_succ, List.getElem_cons_zero, List.setIfInBounds_toArray, List.set_cons_zero, List.set_cons_succ]
            refine wpAnyH_done (by kernel_rfl) ?_ _
            (try dsimp only [Straight])
            obtain ⟨d0, d1, _, _⟩ := zs20.two
            obtain ⟨d2, d3⟩ := bx1 _ hbK20
            have hsame := sameX9 (m := 1048576) ttK20 (TX.out _ (Bq1.trans ((hbK20 : Below q1.heap.size q1 _).mono Bq1.size))) HLQ.out HL.out (by have := HOK.out.le; omega) (by have := HOK.out.le; omega) (by omega) (by omega)
            go_wp2_with fail
            refine hsame.mono ?_
            rintro e ye ⟨rfl, hye⟩
            clear hsame d0 d1 d2 d3
            go_wp2_with fail
            go_meet
            exact hbK20.trans (hye.mono hbK20.size)
        case o3_7 =>
          go_simp
          refine afterAlloc (fun K22 hc22 hl22 zn22 => ?_)
          have hbK22 : Below q1.heap.size q1 K22 := hb0.trans (hc22.mono hs0)
          have hsK22 : q1.heap.size ≤ K22.heap.size := hbK22.size
          have anK22 := anK0.later hc22
          refine hK.out _ _ (mk1 _ hbK22) (fun hHeld2 => ?_)
          clear hK K hHeld
          have hHeld := hHeld2
          clear hHeld2
          try simp only [Act.put, List.getElem_toArray, List.getElem_cons_succ, List.getElem_cons_zero, List.setIfInBounds_toArray, List.set_cons_zero, List.set_cons_succ]
          refine wpAnyH_ready (rs := [2]) (by kernel_rfl) (by simp) ?_
          refine AllReadyH.cons rfl (fun K hK => ?o23_2) AllReadyH.nil
          go_simp
          refine (turned9_any (PX.out _ (Bq1.trans ((hbK22 : Below q1.heap.size q1 _).mono Bq1.size))) HPR.out.1 (by have := HPR.out.2; have := HOK.out.le; omega)).mono ?_
          rintro e K24 ⟨r24, rfl, RS24, hc24⟩
          obtain ⟨ai24, ci24, AI24, ni24⟩ := RS24.arg2
          obtain rfl := AI24.is
          clear RS24
          go_simp
          have hbK24 : Below q1.heap.size q1 K24 := hbK22.trans (hc24.mono hsK22)
          have hsK24 : q1.heap.size ≤ K24.heap.size := hbK24.size
          have anK24 := anK22.later hc24
          have zalK24 := zn22.later hc24
          have ltalK24 := zalK24.lt
          refine hK.out _ _ (mk1 _ hbK24) (fun hHeld2 => ?_)
          clear hK K hHeld
          have hHeld := hHeld2
          clear hHeld2
          try simp only [Act.put, List.getElem_toArray, List.getElem_cons_succ, List.getElem_cons_zero, List.setIfInBounds_toArray, List.set_cons_zero, List.set_cons_succ]
          refine wpAnyH_ready (rs := [3]) (by kernel_rfl) (by simp) ?_
          refine AllReadyH.cons rfl (fun K hK => ?o25_3) AllReadyH.nil
          go_simp
          refine (transK (n := 1048578) anK24 AI24 (by assumption) (by rw [invL_length]; omega) HO1.out (by omega) HP1.out).mono ?_
          rintro e K26 ⟨hg26, hc26⟩
          rw [HS1.out, HV1.out] at hg26
          obtain ⟨ra26, rb26, rca26, rcb26, rfl, TT26⟩ := hg26
          go_simp
          have hbK26 : Below q1.heap.size q1 K26 := hbK24.trans (hc26.mono hsK24)
          have hsK26 : q1.heap.size ≤ K26.heap.size := hbK26.size
          have anK26 := anK24.later hc26
          have tuK26 := AI24.later hc26
          have zalK26 := zalK24.later hc26
          have ltalK26 := zalK26.lt
          refine hK.out _ _ (mk1 _ hbK26) (fun hHeld2 => ?_)
          clear hK K hHeld
          have hHeld := hHeld2
          clear hHeld2
          try simp only [Act.put, List.getElem_toArray, List.getElem_cons_succ, List.getElem_cons_zero, List.setIfInBounds_toArray, List.set_cons_zero, List.set_cons_succ]
          refine wpAnyH_take (i := 4) (v := ?vT27_4) rfl (by kernel_rfl) (by kernel_rfl) (by kernel_rfl) (fun _ _ _ h => h) (Or.inl ⟨by rfl, ?hT27_4⟩) (by assumption) ?rT27_4
          case hT27_4 =>
            intro w hSw
            try dsimp only at hSw
            go_simp
            try with_reducible rfl
          try simp only [Act.put, List.getElem_toArray, List.getElem_cons_succ, List.getElem_cons_zero, List.setIfInBounds_toArray, List.set_cons_zero, List.set_cons_succ]
          refine wpAnyH_take (i := 5) (v := ?vT28_5) rfl (by kernel_rfl) (by kernel_rfl) (by kernel_rfl) (fun _ _ _ h => h) (Or.inl ⟨by rfl, ?hT28_5⟩) (by assumption) ?rT28_5
          case hT28_5 =>
            intro w hSw
            try dsimp only at hSw
            go_simp
            try with_reducible rfl
          try simp only [Act.put, List.getElem_toArray, List.getElem_cons_succ, List.getElem_cons_zero, List.setIfInBounds_toArray, List.set_cons_zero, List.set_cons_succ]
          refine wpAnyH_take (i := 6) (v := ?vT29_6) rfl (by kernel_rfl) (by kernel_rfl) (by kernel_rfl) (fun _ _ _ h => h) (Or.inl ⟨by rfl, ?hT29_6⟩) (by assumption) ?rT29_6
          case hT29_6 =>
            intro w hSw
            try dsimp only at hSw
            go_simp
            try with_reducible rfl
          try simp only [Act.put, List.getElem_toArray, List.getElem_cons_succ, List.getElem_cons_zero, List.setIfInBounds_toArray, List.set_cons_zero, List.set_cons_succ]
          obtain ⟨d30_0, d30_1, d30_2, d30_3⟩ := zalK26.two
          refine wpAnyH_ready (rs := [8]) (by kernel_rfl) (by simp) ?_
          refine AllReadyH.cons rfl (fun K hK => ?s30) AllReadyH.nil
          go_simp
          refine afterSet2 zalK26 (fun K30 o30 zs30 => ?_)
          clear d30_0 d30_1 d30_2 d30_3
          have hbK30 : Below q1.heap.size q1 K30 := hbK26.trans (o30.below hs0)
          have hsK30 : q1.heap.size ≤ K30.heap.size := hbK30.size
          have ttK30 := TT26.far zalK26 (by decide) (by decide) (by decide) o30.block
          refine hK.out _ _ (mk1 _ hbK30) (fun hHeld2 => ?_)
          clear hK K hHeld
          have hHeld := hHeld2
          clear hHeld2
          try simp only [Act.put, List.getElem_toArray, List.getElem_cons_succ, List.getElem_cons_zero, List.setIfInBounds_toArray, List.set_cons_zero, List.set_cons_succ]
          refine wpAnyH_ready (rs := [9]) (by kernel_rfl) (by simp) ?_
          refine AllReadyH.cons rfl (fun K hK => ?sD31_9) AllReadyH.nil
          go_simp
          refine hK.out _ _ ?kD31_9 (fun hHeld => ?mD31_9)
          case kD31_9 =>
            try dsimp only
            exact mk1 _ hbK30
          clear hK K
          try simp only [Act.put, List.getElem_toArray, List.getElem_cons_succ, List.getElem_cons_zero, List.setIfInBounds_toArray, List.set_cons_zero, List.set_cons_succ]
          refine wpAnyH_done (by kernel_rfl) ?_ _
          (try dsimp only [Straight])
          obtain ⟨d0, d1, _, _⟩ := zs30.two
          obtain ⟨d2, d3⟩ := bx1 _ hbK30
          have hsame := sameX9 (m := 1048576) ttK30 (TX.out _ (Bq1.trans ((hbK30 : Below q1.heap.size q1 _).mono Bq1.size))) HLQ.out HL.out (by have := HOK.out.le; omega) (by have := HOK.out.le; omega) (by omega) (by omega)
          go_wp2_with fail
          refine hsame.mono ?_
          rintro e ye ⟨rfl, hye⟩
          clear hsame d0 d1 d2 d3
          go_wp2_with fail
          go_meet
          exact hbK30.trans (hye.mono hbK30.size)
    case rest =>
      have B2 : Below V.heap.size V wc := Bq1.trans (hcut.mono Bq1.size)
      obtain ⟨k0, k1, _, _⟩ := (R0.later B2).two
      obtain ⟨y2, hy2⟩ : ∃ y, wc = y := ⟨_, rfl⟩
      subst hy2
      clear hcut b1 R1 A1
      go_wp2_with fail
      refine (CR.out _ B2).mono ?_
      rintro e z2 ⟨hO, hz2⟩
      obtain ⟨x20, x21, x22, x23, x24, x25, rfl, hA⟩ := hO.ans9
      have A2 := Lib.hid hA
      have C2 : Below V.heap.size V z2 := B2.trans (hz2.mono B2.size)
      obtain ⟨q2, hq2⟩ : ∃ Y, z2.alloc (.cells #[.slice x20 x21 x22, .slice x23 x24 x25] 26) = Y := ⟨_, rfl⟩
      have R2 : Row q2 z2.heap.size 26 #[.slice x20 x21 x22, .slice x23 x24 x25] := by rw [← hq2]; exact Row.new _ _ _
      have b2 : Below z2.heap.size z2 q2 := by rw [← hq2]; exact (Below.refl _ _).alloc (Nat.le_refl _) _
      have Bq2 : Below V.heap.size V q2 := C2.trans (b2.mono C2.size)
      obtain ⟨g2, hg2⟩ : ∃ g, (cc2 == 0) = g := ⟨_, rfl⟩
      have G2 := Lib.hid hg2
      clear hO hA k0 k1 hz2
      go_upto_if 55 with fail
      (try rw [hq2])
      clear hq2 hg2
      go_cut [55] (fun _ wx => Below q2.heap.size q2 wx)
      case first =>
        cases g2 with
        | false =>
          go_wp2_with fail
          go_meet
          exact Below.refl _ _
        | true =>
          have hc : cc2 = 0 := by simpa using G2.out
          have HCC := Lib.hid hc
          have hT := (A2.out.resolve_right (fun h => h.1 hc)).2.later b2
          have HTT : Hid (ResT wc.heap.size q2 (.agg #[.slice x20 x21 x22, .slice x23 x24 x25]) (t) (L) (1048576 + 2)) := Lib.hid hT
          have mk2 : ∀ X, Below q2.heap.size q2 X → X.cell? ⟨z2.heap.size, 0, none⟩ = some (.slice x20 x21 x22) ∧ X.cell? ⟨z2.heap.size, 1, none⟩ = some (.slice x23 x24 x25) := fun X h => by
            obtain ⟨e0, e1, _⟩ := (R2.later h).two
            exact ⟨e0, e1⟩
          have bx2 : ∀ X, Below q2.heap.size q2 X → X.cell? ⟨W.heap.size, 0, none⟩ = some (.slice a s.length ca) ∧ X.cell? ⟨W.heap.size, 1, none⟩ = some (.slice b qs.length cb) := fun X h => by
            obtain ⟨e0, e1, _⟩ := (R0.later (Bq2.trans (h.mono Bq2.size))).two
            exact ⟨e0, e1⟩
          clear hc hT
          obtain ⟨h21, h22⟩ := or0 (HC2.out.trans HCC.out)
          have hcn : countS t = (qs.length : Int) := by
            have h := or1 h22
            unfold cntC at h
            split at h
            · cases h
            · rename_i h3; exact Classical.not_not.1 h3
          have HTL : Hid (Ok9 t L.length) := Lib.hid ⟨mayC_zero.1 h21, by rw [HLL.out, ← (mayC_zero.1 h21).count]; exact hcn.symm⟩
          have okS := HOK.out
          have hle := HTL.out.le
          have hle2 := HOK.out.le
          have hback := reshK (n := 1048578) HTT.out ((TX.out _ Bq2).sh) (TX.out _ Bq2).nila (by omega) HTL.out (by omega) (mayC_ok okS.ok) (by rw [okS.ok.count]; exact okS.len.symm)
          obtain ⟨e0, e1⟩ := mk2 _ (Below.refl _ _)
          obtain ⟨e2, e3⟩ := bx2 _ (Below.refl _ _)
          clear h21 h22 hcn okS
          go_wp2_with fail
          refine hback.mono ?_
          rintro e z3 ⟨hg3, hz3⟩
          obtain ⟨ra, rb, rca, rcb, rfl, TT⟩ := hg3
          obtain ⟨q3, hq3⟩ : ∃ Y, z3.alloc (.cells #[.slice ra s.length rca, .slice rb L.length rcb] 26) = Y := ⟨_, rfl⟩
          have R3 : Row q3 z3.heap.size 26 #[.slice ra s.length rca, .slice rb L.length rcb] := by rw [← hq3]; exact Row.new _ _ _
          have b3 : Below z3.heap.size z3 q3 := by rw [← hq3]; exact (Below.refl _ _).alloc (Nat.le_refl _) _
          have b23 : Below q2.heap.size q2 q3 := hz3.trans (b3.mono hz3.size)
          have hsame := sameX9 (m := 1048576) (TT.later b3) (TX.out _ (Bq2.trans ((b23 : Below q2.heap.size q2 _).mono Bq2.size))) HLQ.out HL.out (by have := HOK.out.le; omega) (by have := HOK.out.le; omega) (by omega) (by omega)
          obtain ⟨f0, f1, _, _⟩ := R3.two
          obtain ⟨f2, f3⟩ := bx2 _ b23
          obtain ⟨f4, f5⟩ := mk2 _ b23
          clear hback TT e0 e1 e2 e3
          go_wp2_with fail
          (try rw [hq3])
          (try clear hq3)
          refine hsame.mono ?_
          rintro e q4 ⟨rfl, hb4⟩
          have b24 : Below q2.heap.size q2 q4 := b23.trans (hb4.mono b23.size)
          have hT4 := HTT.out.later b24
          obtain ⟨n0, n1, m0, m1, hvv, RS4, _⟩ := hT4
          simp only [Value.agg.injEq, Array.mk.injEq, List.cons.injEq, and_true, Value.slice.injEq] at hvv
          obtain ⟨⟨rfl, rfl, rfl⟩, rfl, rfl, rfl⟩ := hvv
          obtain ⟨_, A4, _⟩ := RS4.at_
          have hsh := sameSh_any A4 (HX.out _ (Bq2.trans ((b24 : Below q2.heap.size q2 _).mono Bq2.size))) (by omega)
          rw [decide_eq_true rfl] at hsh
          obtain ⟨g0, g1⟩ := mk2 _ b24
          clear f0 f1 f2 f3 f4 f5 hsame A4
          go_wp2_with fail
          refine hsh.mono ?_
          rintro e q5 ⟨rfl, hb5⟩
          clear hsh g0 g1
          go_wp2_with fail
          go_meet
          exact b24.trans (hb5.mono b24.size)
      case rest =>
        have B3 : Below V.heap.size V wc := Bq2.trans (hcut.mono Bq2.size)
        obtain ⟨k0, k1, _, _⟩ := (R0.later B3).two
        clear hcut b2 R2 A2
        go_wp2_with fail
        refine (CP.out _ B3).mono ?_
        rintro e z3 ⟨hO, hz3⟩
        obtain ⟨x30, x31, x32, x33, x34, x35, rfl, hA⟩ := hO.ans9
        have A3 := Lib.hid hA
        have C3 : Below V.heap.size V z3 := B3.trans (hz3.mono B3.size)
        obtain ⟨q3, hq3⟩ : ∃ Y, z3.alloc (.cells #[.slice x30 x31 x32, .slice x33 x34 x35] 26) = Y := ⟨_, rfl⟩
        have R3 : Row q3 z3.heap.size 26 #[.slice x30 x31 x32, .slice x33 x34 x35] := by rw [← hq3]; exact Row.new _ _ _
        have b3 : Below z3.heap.size z3 q3 := by rw [← hq3]; exact (Below.refl _ _).alloc (Nat.le_refl _) _
        have Bq3 : Below V.heap.size V q3 := C3.trans (b3.mono C3.size)
        obtain ⟨g3, hg3⟩ : ∃ g, (cc3 == 0) = g := ⟨_, rfl⟩
        have G3 := Lib.hid hg3
        clear hO hA k0 k1 hz3
        go_upto_if 85 with fail
        (try rw [hq3])
        clear hq3 hg3
        go_cut [85] (fun _ wx => Below q3.heap.size q3 wx)
        case first =>
          cases g3 with
          | false =>
            go_wp2_with fail
            go_meet
            exact Below.refl _ _
          | true =>
            have hc : cc3 = 0 := by simpa using G3.out
            have HCC := Lib.hid hc
            have hT := (A3.out.resolve_right (fun h => h.1 hc)).2.later b3
            have HTT : Hid (ResT wc.heap.size q3 (.agg #[.slice x30 x31 x32, .slice x33 x34 x35]) (pdW s d) (pdV s d L) (1048576 + 2)) := Lib.hid hT
            have mk3 : ∀ X, Below q3.heap.size q3 X → X.cell? ⟨z3.heap.size, 0, none⟩ = some (.slice x30 x31 x32) ∧ X.cell? ⟨z3.heap.size, 1, none⟩ = some (.slice x33 x34 x35) := fun X h => by
              obtain ⟨e0, e1, _⟩ := (R3.later h).two
              exact ⟨e0, e1⟩
            have bx3 : ∀ X, Below q3.heap.size q3 X → X.cell? ⟨W.heap.size, 0, none⟩ = some (.slice a s.length ca) ∧ X.cell? ⟨W.heap.size, 1, none⟩ = some (.slice b qs.length cb) := fun X h => by
              obtain ⟨e0, e1, _⟩ := (R0.later (Bq3.trans (h.mono Bq3.size))).two
              exact ⟨e0, e1⟩
            clear hc hT
            have HPC : Hid (pdC s d = 0) := Lib.hid ((pdCW_eq HOK.out.ok).symm.trans (HC3.out.trans HCC.out))
            have HPD := Lib.hid (pdC_is HPC.out)
            have HIN : Hid (∀ i, i < s.length → 0 ≤ fstP d i ∧ fstP d i ≤ 1024 ∧ 1 ≤ s.getD i 0 ∧ s.getD i 0 ≤ 1024) := Lib.hid (fun i hi => by have h1 := HPD.out.2.2 i hi; have h2 := (pd_small HPC.out HOK.out.ok hi).2.1; have h3 := HOK.out.ok.pos.getD hi; have h4 := getD_le_prod HOK.out.ok.pos hi; have h5 := HOK.out.ok.few; omega)
            have hT3 := HTT.out
            rw [pdW_eq HOK.out.ok (.inl HPC.out)] at hT3
            have HT3 := Lib.hid hT3
            clear hT3
            have HO3 := Lib.hid (Ok9.pd HOK.out HPC.out)
            have HP3 := Lib.hid (in_slC HOK.out.ok HPC.out)
            have HS3 := Lib.hid (in_slS (s := s) (t := d))
            have HV3 := Lib.hid (pd_back HOK.out HPC.out)
            go_wp2_with fail
            refine wp_region_held_drew (S := fun X => X.cell? ⟨z3.heap.size, 0, none⟩ = some (.slice x30 x31 x32) ∧ X.cell? ⟨z3.heap.size, 1, none⟩ = some (.slice x33 x34 x35) ∧ X.cell? ⟨W.heap.size, 0, none⟩ = some (.slice a s.length ca)) (by kernel_rfl) (⟨(mk3 _ ((Below.refl q3.heap.size q3).drew)).1, (mk3 _ ((Below.refl q3.heap.size q3).drew)).2, (bx3 _ ((Below.refl q3.heap.size q3).drew)).1⟩) (fun hHeld => ?_)
            refine wpAnyH_take (i := 0) (v := ?vT501_0) rfl (by kernel_rfl) (by kernel_rfl) (by kernel_rfl) (fun _ _ _ h => h) (Or.inl ⟨by rfl, ?hT501_0⟩) (by assumption) ?rT501_0
            case hT501_0 =>
              intro w hSw
              try dsimp only at hSw
              go_simp
              try with_reducible rfl
            try simp only [Act.put, List.getElem_toArray, List.getElem_cons_succ, List.getElem_cons_zero, List.setIfInBounds_toArray, List.set_cons_zero, List.set_cons_succ]
            refine wpAnyH_take (i := 1) (v := ?vT502_1) rfl (by kernel_rfl) (by kernel_rfl) (by kernel_rfl) (fun _ _ _ h => h) (Or.inl ⟨by rfl, ?hT502_1⟩) (by assumption) ?rT502_1
            case hT502_1 =>
              intro w hSw
              try dsimp only at hSw
              go_simp
              try with_reducible rfl
            try simp only [Act.put, List.getElem_toArray, List.getElem_cons_succ, List.getElem_cons_zero, List.setIfInBounds_toArray, List.set_cons_zero, List.set_cons_succ]
            refine wpAnyH_take (i := 2) (v := ?vT503_2) rfl (by kernel_rfl) (by kernel_rfl) (by kernel_rfl) (fun _ _ _ h => h) (Or.inl ⟨by rfl, ?hT503_2⟩) (by assumption) ?rT503_2
            case hT503_2 =>
              intro w hSw
              try dsimp only at hSw
              go_simp
              try with_reducible rfl
            try simp only [Act.put, List.getElem_toArray, List.getElem_cons_succ, List.getElem_cons_zero, List.setIfInBounds_toArray, List.set_cons_zero, List.set_cons_succ]
            refine wpAnyH_take (i := 3) (v := ?vT504_3) rfl (by kernel_rfl) (by kernel_rfl) (by kernel_rfl) (fun _ _ _ h => h) (Or.inl ⟨by rfl, ?hT504_3⟩) (by assumption) ?rT504_3
            case hT504_3 =>
              intro w hSw
              try dsimp only at hSw
              go_simp
              try with_reducible rfl
            try simp only [Act.put, List.getElem_toArray, List.getElem_cons_succ, List.getElem_cons_zero, List.setIfInBounds_toArray, List.set_cons_zero, List.set_cons_succ]
            obtain ⟨K0, hV0⟩ : ∃ Y, q3.drew = Y := ⟨_, rfl⟩
            rw [hV0] at hHeld
            rw [hV0]
            have hb0 : Below q3.heap.size q3 K0 := by rw [← hV0]; exact (Below.refl _ _).drew
            have hs0 : q3.heap.size ≤ K0.heap.size := hb0.size
            clear hV0
            have anK0 := HT3.out.later hb0
            refine wpAnyH_ready (rs := [4, 9]) (by kernel_rfl) (by simp) ?_
            refine AllReadyH.cons rfl (fun K hK => ?o505_4) (AllReadyH.cons rfl (fun K hK => ?o505_9) AllReadyH.nil)
            case o505_4 =>
              go_simp
              refine (inside9_any (TX.out _ (Bq3.trans ((hb0 : Below q3.heap.size q3 _).mono Bq3.size))).sh (DX.out _ (Bq3.trans ((hb0 : Below q3.heap.size q3 _).mono Bq3.size))) HPD.out.1 (by have := HOK.out.le; omega) HIN.out).mono ?_
              rintro e K506 ⟨r506, rfl, RS506, hc506⟩
              obtain ⟨ai506, ci506, AI506, ni506⟩ := RS506.arg2
              obtain rfl := AI506.is
              clear RS506
              go_simp
              have hbK506 : Below q3.heap.size q3 K506 := hb0.trans (hc506.mono hs0)
              have hsK506 : q3.heap.size ≤ K506.heap.size := hbK506.size
              have anK506 := anK0.later hc506
              refine hK.out _ _ (⟨(mk3 _ hbK506).1, (mk3 _ hbK506).2, (bx3 _ hbK506).1⟩) (fun hHeld2 => ?_)
              clear hK K hHeld
              have hHeld := hHeld2
              clear hHeld2
              try simp only [Act.put, List.getElem_toArray, List.getElem_cons_succ, List.getElem_cons_zero, List.setIfInBounds_toArray, List.set_cons_zero, List.set_cons_succ]
              refine wpAnyH_ready (rs := [5, 9]) (by kernel_rfl) (by simp) ?_
              refine AllReadyH.cons rfl (fun K hK => ?o507_5) (AllReadyH.cons rfl (fun K hK => ?o507_9) AllReadyH.nil)
              case o507_5 =>
                go_simp
                refine (sliceK (n := 1048578) anK506 AI506 (by assumption) (by rw [inL_len]; have := HOK.out.le; omega) HO3.out (by omega) HP3.out).mono ?_
                rintro e K508 ⟨hg508, hc508⟩
                rw [HS3.out, HV3.out] at hg508
                obtain ⟨ra508, rb508, rca508, rcb508, rfl, TT508⟩ := hg508
                go_simp
                have hbK508 : Below q3.heap.size q3 K508 := hbK506.trans (hc508.mono hsK506)
                have hsK508 : q3.heap.size ≤ K508.heap.size := hbK508.size
                have anK508 := anK506.later hc508
                have tuK508 := AI506.later hc508
                refine hK.out _ _ (⟨(mk3 _ hbK508).1, (mk3 _ hbK508).2, (bx3 _ hbK508).1⟩) (fun hHeld2 => ?_)
                clear hK K hHeld
                have hHeld := hHeld2
                clear hHeld2
                try simp only [Act.put, List.getElem_toArray, List.getElem_cons_succ, List.getElem_cons_zero, List.setIfInBounds_toArray, List.set_cons_zero, List.set_cons_succ]
                refine wpAnyH_take (i := 6) (v := ?vT509_6) rfl (by kernel_rfl) (by kernel_rfl) (by kernel_rfl) (fun _ _ _ h => h) (Or.inl ⟨by rfl, ?hT509_6⟩) (by assumption) ?rT509_6
                case hT509_6 =>
                  intro w hSw
                  try dsimp only at hSw
                  go_simp
                  try with_reducible rfl
                try simp only [Act.put, List.getElem_toArray, List.getElem_cons_succ, List.getElem_cons_zero, List.setIfInBounds_toArray, List.set_cons_zero, List.set_cons_succ]
                refine wpAnyH_take (i := 7) (v := ?vT510_7) rfl (by kernel_rfl) (by kernel_rfl) (by kernel_rfl) (fun _ _ _ h => h) (Or.inl ⟨by rfl, ?hT510_7⟩) (by assumption) ?rT510_7
                case hT510_7 =>
                  intro w hSw
                  try dsimp only at hSw
                  go_simp
                  try with_reducible rfl
                try simp only [Act.put, List.getElem_toArray, List.getElem_cons_succ, List.getElem_cons_zero, List.setIfInBounds_toArray, List.set_cons_zero, List.set_cons_succ]
                refine wpAnyH_take (i := 8) (v := ?vT511_8) rfl (by kernel_rfl) (by kernel_rfl) (by kernel_rfl) (fun _ _ _ h => h) (Or.inl ⟨by rfl, ?hT511_8⟩) (by assumption) ?rT511_8
                case hT511_8 =>
                  intro w hSw
                  try dsimp only at hSw
                  go_simp
                  try with_reducible rfl
                try simp only [Act.put, List.getElem_toArray, List.getElem_cons_succ, List.getElem_cons_zero, List.setIfInBounds_toArray, List.set_cons_zero, List.set_cons_succ]
                refine wpAnyH_ready (rs := [9]) (by kernel_rfl) (by simp) ?_
                refine AllReadyH.cons rfl (fun K hK => ?o512_9) AllReadyH.nil
                go_simp
                refine afterAlloc (fun K513 hc513 hl513 zn513 => ?_)
                have hbK513 : Below q3.heap.size q3 K513 := hbK508.trans (hc513.mono hsK508)
                have hsK513 : q3.heap.size ≤ K513.heap.size := hbK513.size
                have anK513 := anK508.later hc513
                have tuK513 := tuK508.later hc513
                have ttK513 := TT508.later hc513
                refine hK.out _ _ (⟨(mk3 _ hbK513).1, (mk3 _ hbK513).2, (bx3 _ hbK513).1⟩) (fun hHeld2 => ?_)
                clear hK K hHeld
                have hHeld := hHeld2
                clear hHeld2
                try simp only [Act.put, List.getElem_toArray, List.getElem_cons_succ, List.getElem_cons_zero, List.setIfInBounds_toArray, List.set_cons_zero, List.set_cons_succ]
                obtain ⟨d514_0, d514_1, d514_2, d514_3⟩ := zn513.two
                refine wpAnyH_ready (rs := [10]) (by kernel_rfl) (by simp) ?_
                refine AllReadyH.cons rfl (fun K hK => ?s514) AllReadyH.nil
                go_simp
                refine afterSet2 zn513 (fun K514 o514 zs514 => ?_)
                clear d514_0 d514_1 d514_2 d514_3
                have hbK514 : Below q3.heap.size q3 K514 := hbK513.trans (o514.below hsK508)
                have hsK514 : q3.heap.size ≤ K514.heap.size := hbK514.size
                have ttK514 := ttK513.far zn513 (by decide) (by decide) (by decide) o514.block
                refine hK.out _ _ (⟨(mk3 _ hbK514).1, (mk3 _ hbK514).2, (bx3 _ hbK514).1⟩) (fun hHeld2 => ?_)
                clear hK K hHeld
                have hHeld := hHeld2
                clear hHeld2
                try simp only [Act.put, List.getElem_toArray, List.getElem_cons_succ, List.getElem_cons_zero, List.setIfInBounds_toArray, List.set_cons_zero, List.set_cons_succ]
                refine wpAnyH_ready (rs := [11]) (by kernel_rfl) (by simp) ?_
                refine AllReadyH.cons rfl (fun K hK => ?sD515_11) AllReadyH.nil
                go_simp
                refine hK.out _ _ ?kD515_11 (fun hHeld => ?mD515_11)
                case kD515_11 =>
                  try dsimp only
                  exact ⟨(mk3 _ hbK514).1, (mk3 _ hbK514).2, (bx3 _ hbK514).1⟩
                clear hK K
                try simp only [Act.put, List.getElem_toArray, List.getElem_cons_succ, List.getElem_cons_zero, List.setIfInBounds_toArray, List.set_cons_zero, List.set_cons_succ]
                refine wpAnyH_done (by kernel_rfl) ?_ _
                (try dsimp only [Straight])
                obtain ⟨d0, d1, _, _⟩ := zs514.two
                obtain ⟨d2, d3⟩ := bx3 _ hbK514
                have hsame := sameX9 (m := 1048576) ttK514 (TX.out _ (Bq3.trans ((hbK514 : Below q3.heap.size q3 _).mono Bq3.size))) HLQ.out HL.out (by have := HOK.out.le; omega) (by have := HOK.out.le; omega) (by omega) (by omega)
                go_wp2_with fail
                refine hsame.mono ?_
                rintro e ye ⟨rfl, hye⟩
                clear hsame d0 d1 d2 d3
                go_wp2_with fail
                go_meet
                exact hbK514.trans (hye.mono hbK514.size)
              case o507_9 =>
                go_simp
                refine afterAlloc (fun K516 hc516 hl516 zn516 => ?_)
                have hbK516 : Below q3.heap.size q3 K516 := hbK506.trans (hc516.mono hsK506)
                have hsK516 : q3.heap.size ≤ K516.heap.size := hbK516.size
                have anK516 := anK506.later hc516
                have tuK516 := AI506.later hc516
                refine hK.out _ _ (⟨(mk3 _ hbK516).1, (mk3 _ hbK516).2, (bx3 _ hbK516).1⟩) (fun hHeld2 => ?_)
                clear hK K hHeld
                have hHeld := hHeld2
                clear hHeld2
                try simp only [Act.put, List.getElem_toArray, List.getElem_cons_succ, List.getElem_cons_zero, List.setIfInBounds_toArray, List.set_cons_zero, List.set_cons_succ]
                refine wpAnyH_ready (rs := [5]) (by kernel_rfl) (by simp) ?_
                refine AllReadyH.cons rfl (fun K hK => ?o517_5) AllReadyH.nil
                go_simp
                refine (sliceK (n := 1048578) anK516 tuK516 (by assumption) (by rw [inL_len]; have := HOK.out.le; omega) HO3.out (by omega) HP3.out).mono ?_
                rintro e K518 ⟨hg518, hc518⟩
                rw [HS3.out, HV3.out] at hg518
                obtain ⟨ra518, rb518, rca518, rcb518, rfl, TT518⟩ := hg518
                go_simp
                have hbK518 : Below q3.heap.size q3 K518 := hbK516.trans (hc518.mono hsK516)
                have hsK518 : q3.heap.size ≤ K518.heap.size := hbK518.size
                have anK518 := anK516.later hc518
                have tuK518 := tuK516.later hc518
                have zalK518 := zn516.later hc518
                have ltalK518 := zalK518.lt
                refine hK.out _ _ (⟨(mk3 _ hbK518).1, (mk3 _ hbK518).2, (bx3 _ hbK518).1⟩) (fun hHeld2 => ?_)
                clear hK K hHeld
                have hHeld := hHeld2
                clear hHeld2
                try simp only [Act.put, List.getElem_toArray, List.getElem_cons_succ, List.getElem_cons_zero, List.setIfInBounds_toArray, List.set_cons_zero, List.set_cons_succ]
                refine wpAnyH_take (i := 6) (v := ?vT519_6) rfl (by kernel_rfl) (by kernel_rfl) (by kernel_rfl) (fun _ _ _ h => h) (Or.inl ⟨by rfl, ?hT519_6⟩) (by assumption) ?rT519_6
                case hT519_6 =>
                  intro w hSw
                  try dsimp only at hSw
                  go_simp
                  try with_reducible rfl
                try simp only [Act.put, List.getElem_toArray, List.getElem_cons_succ, List.getElem_cons_zero, List.setIfInBounds_toArray, List.set_cons_zero, List.set_cons_succ]
                refine wpAnyH_take (i := 7) (v := ?vT520_7) rfl (by kernel_rfl) (by kernel_rfl) (by kernel_rfl) (fun _ _ _ h => h) (Or.inl ⟨by rfl, ?hT520_7⟩) (by assumption) ?rT520_7
                case hT520_7 =>
                  intro w hSw
                  try dsimp only at hSw
                  go_simp
                  try with_reducible rfl
                try simp only [Act.put, List.getElem_toArray, List.getElem_cons_succ, List.getElem_cons_zero, List.setIfInBounds_toArray, List.set_cons_zero, List.set_cons_succ]
                refine wpAnyH_take (i := 8) (v := ?vT521_8) rfl (by kernel_rfl) (by kernel_rfl) (by kernel_rfl) (fun _ _ _ h => h) (Or.inl ⟨by rfl, ?hT521_8⟩) (by assumption) ?rT521_8
                case hT521_8 =>
                  intro w hSw
                  try dsimp only at hSw
                  go_simp
                  try with_reducible rfl
                try simp only [Act.put, List.getElem_toArray, List.getElem_cons_succ, List.getElem_cons_zero, List.setIfInBounds_toArray, List.set_cons_zero, List.set_cons_succ]
                obtain ⟨d522_0, d522_1, d522_2, d522_3⟩ := zalK518.two
                refine wpAnyH_ready (rs := [10]) (by kernel_rfl) (by simp) ?_
                refine AllReadyH.cons rfl (fun K hK => ?s522) AllReadyH.nil
                go_simp
                refine afterSet2 zalK518 (fun K522 o522 zs522 => ?_)
                clear d522_0 d522_1 d522_2 d522_3
                have hbK522 : Below q3.heap.size q3 K522 := hbK518.trans (o522.below hsK506)
                have hsK522 : q3.heap.size ≤ K522.heap.size := hbK522.size
                have ttK522 := TT518.far zalK518 (by decide) (by decide) (by decide) o522.block
                refine hK.out _ _ (⟨(mk3 _ hbK522).1, (mk3 _ hbK522).2, (bx3 _ hbK522).1⟩) (fun hHeld2 => ?_)
                clear hK K hHeld
                have hHeld := hHeld2
                clear hHeld2
                try simp only [Act.put, List.getElem_toArray, List.getElem_cons_succ, List.getElem_cons_zero, List.setIfInBounds_toArray, List.set_cons_zero, List.set_cons_succ]
                refine wpAnyH_ready (rs := [11]) (by kernel_rfl) (by simp) ?_
                refine AllReadyH.cons rfl (fun K hK => ?sD523_11) AllReadyH.nil
                go_simp
                refine hK.out _ _ ?kD523_11 (fun hHeld => ?mD523_11)
                case kD523_11 =>
                  try dsimp only
                  exact ⟨(mk3 _ hbK522).1, (mk3 _ hbK522).2, (bx3 _ hbK522).1⟩
                clear hK K
                try simp only [Act.put, List.getElem_toArray, List.getElem_cons_succ, List.getElem_cons_zero, List.setIfInBounds_toArray, List.set_cons_zero, List.set_cons_succ]
                refine wpAnyH_done (by kernel_rfl) ?_ _
                (try dsimp only [Straight])
                obtain ⟨d0, d1, _, _⟩ := zs522.two
                obtain ⟨d2, d3⟩ := bx3 _ hbK522
                have hsame := sameX9 (m := 1048576) ttK522 (TX.out _ (Bq3.trans ((hbK522 : Below q3.heap.size q3 _).mono Bq3.size))) HLQ.out HL.out (by have := HOK.out.le; omega) (by have := HOK.out.le; omega) (by omega) (by omega)
                go_wp2_with fail
                refine hsame.mono ?_
                rintro e ye ⟨rfl, hye⟩
                clear hsame d0 d1 d2 d3
                go_wp2_with fail
                go_meet
                exact hbK522.trans (hye.mono hbK522.size)
            case o505_9 =>
              go_simp
              refine afterAlloc (fun K524 hc524 hl524 zn524 => ?_)
              have hbK524 : Below q3.heap.size q3 K524 := hb0.trans (hc524.mono hs0)
              have hsK524 : q3.heap.size ≤ K524.heap.size := hbK524.size
              have anK524 := anK0.later hc524
              refine hK.out _ _ (⟨(mk3 _ hbK524).1, (mk3 _ hbK524).2, (bx3 _ hbK524).1⟩) (fun hHeld2 => ?_)
              clear hK K hHeld
              have hHeld := hHeld2
              clear hHeld2
              try simp only [Act.put, List.getElem_toArray, List.getElem_cons_succ, List.getElem_cons_zero, List.setIfInBounds_toArray, List.set_cons_zero, List.set_cons_succ]
              refine wpAnyH_ready (rs := [4]) (by kernel_rfl) (by simp) ?_
              refine AllReadyH.cons rfl (fun K hK => ?o525_4) AllReadyH.nil
              go_simp
              refine (inside9_any (TX.out _ (Bq3.trans ((hbK524 : Below q3.heap.size q3 _).mono Bq3.size))).sh (DX.out _ (Bq3.trans ((hbK524 : Below q3.heap.size q3 _).mono Bq3.size))) HPD.out.1 (by have := HOK.out.le; omega) HIN.out).mono ?_
              rintro e K526 ⟨r526, rfl, RS526, hc526⟩
              obtain ⟨ai526, ci526, AI526, ni526⟩ := RS526.arg2
              obtain rfl := AI526.is
              clear RS526
              go_simp
              have hbK526 : Below q3.heap.size q3 K526 := hbK524.trans (hc526.mono hsK524)
              have hsK526 : q3.heap.size ≤ K526.heap.size := hbK526.size
              have anK526 := anK524.later hc526
              have zalK526 := zn524.later hc526
              have ltalK526 := zalK526.lt
              refine hK.out _ _ (⟨(mk3 _ hbK526).1, (mk3 _ hbK526).2, (bx3 _ hbK526).1⟩) (fun hHeld2 => ?_)
              clear hK K hHeld
              have hHeld := hHeld2
              clear hHeld2
              try simp only [Act.put, List.getElem_toArray, List.getElem_cons_succ, List.getElem_cons_zero, List.setIfInBounds_toArray, List.set_cons_zero, List.set_cons_succ]
              refine wpAnyH_ready (rs := [5]) (by kernel_rfl) (by simp) ?_
              refine AllReadyH.cons rfl (fun K hK => ?o527_5) AllReadyH.nil
              go_simp
              refine (sliceK (n := 1048578) anK526 AI526 (by assumption) (by rw [inL_len]; have := HOK.out.le; omega) HO3.out (by omega) HP3.out).mono ?_
              rintro e K528 ⟨hg528, hc528⟩
              rw [HS3.out, HV3.out] at hg528
              obtain ⟨ra528, rb528, rca528, rcb528, rfl, TT528⟩ := hg528
              go_simp
              have hbK528 : Below q3.heap.size q3 K528 := hbK526.trans (hc528.mono hsK526)
              have hsK528 : q3.heap.size ≤ K528.heap.size := hbK528.size
              have anK528 := anK526.later hc528
              have tuK528 := AI526.later hc528
              have zalK528 := zalK526.later hc528
              have ltalK528 := zalK528.lt
              refine hK.out _ _ (⟨(mk3 _ hbK528).1, (mk3 _ hbK528).2, (bx3 _ hbK528).1⟩) (fun hHeld2 => ?_)
              clear hK K hHeld
              have hHeld := hHeld2
              clear hHeld2
              try simp only [Act.put, List.getElem_toArray, List.getElem_cons_succ, List.getElem_cons_zero, List.setIfInBounds_toArray, List.set_cons_zero, List.set_cons_succ]
              refine wpAnyH_take (i := 6) (v := ?vT529_6) rfl (by kernel_rfl) (by kernel_rfl) (by kernel_rfl) (fun _ _ _ h => h) (Or.inl ⟨by rfl, ?hT529_6⟩) (by assumption) ?rT529_6
              case hT529_6 =>
                intro w hSw
                try dsimp only at hSw
                go_simp
                try with_reducible rfl
              try simp only [Act.put, List.getElem_toArray, List.getElem_cons_succ, List.getElem_cons_zero, List.setIfInBounds_toArray, List.set_cons_zero, List.set_cons_succ]
              refine wpAnyH_take (i := 7) (v := ?vT530_7) rfl (by kernel_rfl) (by kernel_rfl) (by kernel_rfl) (fun _ _ _ h => h) (Or.inl ⟨by rfl, ?hT530_7⟩) (by assumption) ?rT530_7
              case hT530_7 =>
                intro w hSw
                try dsimp only at hSw
                go_simp
                try with_reducible rfl
              try simp only [Act.put, List.getElem_toArray, List.getElem_cons_succ, List.getElem_cons_zero, List.setIfInBounds_toArray, List.set_cons_zero, List.set_cons_succ]
              refine wpAnyH_take (i := 8) (v := ?vT531_8) rfl (by kernel_rfl) (by kernel_rfl) (by kernel_rfl) (fun _ _ _ h => h) (Or.inl ⟨by rfl, ?hT531_8⟩) (by assumption) ?rT531_8
              case hT531_8 =>
                intro w hSw
                try dsimp only at hSw
                go_simp
                try with_reducible rfl
              try simp only [Act.put, List.getElem_toArray, List.getElem_cons_succ, List.getElem_cons_zero, List.setIfInBounds_toArray, List.set_cons_zero, List.set_cons_succ]
              obtain ⟨d532_0, d532_1, d532_2, d532_3⟩ := zalK528.two
              refine wpAnyH_ready (rs := [10]) (by kernel_rfl) (by simp) ?_
              refine AllReadyH.cons rfl (fun K hK => ?s532) AllReadyH.nil
              go_simp
              refine afterSet2 zalK528 (fun K532 o532 zs532 => ?_)
              clear d532_0 d532_1 d532_2 d532_3
              have hbK532 : Below q3.heap.size q3 K532 := hbK528.trans (o532.below hs0)
              have hsK532 : q3.heap.size ≤ K532.heap.size := hbK532.size
              have ttK532 := TT528.far zalK528 (by decide) (by decide) (by decide) o532.block
              refine hK.out _ _ (⟨(mk3 _ hbK532).1, (mk3 _ hbK532).2, (bx3 _ hbK532).1⟩) (fun hHeld2 => ?_)
              clear hK K hHeld
              have hHeld := hHeld2
              clear hHeld2
              try simp only [Act.put, List.getElem_toArray, List.getElem_cons_succ, List.getElem_cons_zero, List.setIfInBounds_toArray, List.set_cons_zero, List.set_cons_succ]
              refine wpAnyH_ready (rs := [11]) (by kernel_rfl) (by simp) ?_
              refine AllReadyH.cons rfl (fun K hK => ?sD533_11) AllReadyH.nil
              go_simp
              refine hK.out _ _ ?kD533_11 (fun hHeld => ?mD533_11)
              case kD533_11 =>
                try dsimp only
                exact ⟨(mk3 _ hbK532).1, (mk3 _ hbK532).2, (bx3 _ hbK532).1⟩
              clear hK K
              try simp only [Act.put, List.getElem_toArray, List.getElem_cons_succ, List.getElem_cons_zero, List.setIfInBounds_toArray, List.set_cons_zero, List.set_cons_succ]
              refine wpAnyH_done (by kernel_rfl) ?_ _
              (try dsimp only [Straight])
              obtain ⟨d0, d1, _, _⟩ := zs532.two
              obtain ⟨d2, d3⟩ := bx3 _ hbK532
              have hsame := sameX9 (m := 1048576) ttK532 (TX.out _ (Bq3.trans ((hbK532 : Below q3.heap.size q3 _).mono Bq3.size))) HLQ.out HL.out (by have := HOK.out.le; omega) (by have := HOK.out.le; omega) (by omega) (by omega)
              go_wp2_with fail
              refine hsame.mono ?_
              rintro e ye ⟨rfl, hye⟩
              clear hsame d0 d1 d2 d3
              go_wp2_with fail
              go_meet
              exact hbK532.trans (hye.mono hbK532.size)
        case rest =>
          have B4 : Below V.heap.size V wc := Bq3.trans (hcut.mono Bq3.size)
          clear hcut b3 R3 A3
          go_wp2_with fail
          refine (known9_any wc).mono ?_
          rintro e y9 ⟨rfl, hy9⟩
          go_wp2_with fail
          go_ret
          exact ⟨rfl, hBV.trans ((B4.trans (hy9.mono B4.size)).mono hBV.size)⟩
  · have hne : (m != 0) = true := by simp [h0]
    clear h0
    go_enter Tryz.func9, Tryz.ntmps9
    go_wp2_with fail
    (try rw [hV])
    clear hV
    refine mayc.mono ?_
    rintro e y1 ⟨rfl, hb1⟩
    clear mayc c0 c1
    go_wp2_with fail
    refine (known9_any y1).mono ?_
    rintro e y2 ⟨rfl, hb2⟩
    go_wp2_with fail
    go_ret
    exact ⟨rfl, hBV.trans ((hb1.trans (hb2.mono hb1.size)).mono hBV.size)⟩
end Go.Proofs.YtooglnhlhgmhdaaGreat
