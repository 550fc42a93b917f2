/-
  The reference of layer 8: Div. (Made by wip/gen/gen_prefg.py.)
-/
import Derived.Test.YtjcacmnmbbnffaaGreatPRefE
namespace Go.Proofs.YtjcacmnmbbnffaaGreat
open Go.RowKit
set_option linter.unusedVariables false
set_option linter.unusedSimpArgs false

theorem OwnE.hits2 {base : Nat} {T : TypeId} {w : World} {v : Value} {es : List E3} (h : OwnE base T w v es) (hb : base ≤ w.heap.size) : ∃ r, (v.ownBlock = none ∨ v.ownBlock = some r) ∧ base ≤ r ∧ (∀ g t cs, Row w g t cs → t ≠ T → g ≠ r) ∧ ∀ A, A < w.heap.size → v.ownBlock ≠ some A → A ≠ r := by
  have hlt := h.lt
  cases e : v.ownBlock with
  | none => exact ⟨w.heap.size, .inl rfl, hb, (fun g t cs R _ => by have := R.lt; omega), fun A hA _ => by omega⟩
  | some r =>
    refine ⟨r, .inr rfl, (hlt r e).1, (fun g t cs R ht he => ?_), fun A _ h2 he => h2 (by rw [he])⟩
    subst he
    obtain ⟨cur, hc⟩ := h.typed e
    have := hc.symm.trans R
    simp only [Option.some.injEq, Obj.cells.injEq] at this
    exact ht this.2.1.symm
set_option maxRecDepth 100000 in
set_option maxHeartbeats 8000000 in
theorem divT_any {n : Nat} {w : World} {v u : Value} {s s2 : List Int} {L1 L2 : List Rat} {a b a2 b2 : Option Addr} {ca cb ca2 cb2 : Nat} (T : TensR w v s L1 n a ca b cb) (T2 : TensR w u s2 L2 n a2 ca2 b2 cb2) (hs : s.length ≤ 17592186044416) (hq : L1.length ≤ 1000000) (hn : n ≤ 1000000) (hsh : s2 = s) (hlen : L2.length = L1.length) :
    Calls Tryz.prog 23 #[v, u] w fun e w' => TwoR w' e (if (0 : Rat) ∈ L2 then 17 else 0) s (List.zipWith (fun x y => x / y) L1 L2) (3 * n + 5) ∧ Below w.heap.size w w' := by
  obtain ⟨i0, hi, hz0, hz1, hz2⟩ := info_parts infoR
  have HT := Lib.hid T
  have HT2 := Lib.hid T2
  have HLEN := Lib.hid hlen
  obtain rfl := T.is
  obtain rfl := T2.is
  have hres : (List.zipWith (fun x y => x / y) L1 L2).length = L1.length := by rw [List.length_zipWith]; omega
  obtain ⟨LR, hLR⟩ : ∃ LR, (List.zipWith (fun x y => x / y) L1 L2) = LR := ⟨_, rfl⟩
  rw [hLR] at hres ⊢
  obtain ⟨cc, hcc⟩ : ∃ c : Int, (if (0 : Rat) ∈ L2 then 17 else 0) = c := ⟨_, rfl⟩
  rw [hcc]
  have HCC := Lib.hid hcc
  have HLR := Lib.hid hLR
  have HRES := Lib.hid hres
  clear hLR hres hcc
  obtain ⟨W, hW⟩ : ∃ W, (((w.alloc (.cells #[.slice a s.length ca, .slice b L1.length cb] 36)).alloc (.cells #[.slice a2 s2.length ca2, .slice b2 L2.length cb2] 36)).alloc (.cells #[.slice none 0 0, .slice none 0 0] 36)) = W := ⟨_, rfl⟩
  have R0 : Row W (w.heap.size) 36 #[.slice a s.length ca, .slice b L1.length cb] := by rw [← hW]; have h := Row.new w 36 #[.slice a s.length ca, .slice b L1.length cb]; (try simp only [World.size_alloc] at h); exact ((h.alloc _).alloc _)
  have R1 : Row W (w.heap.size + 1) 36 #[.slice a2 s2.length ca2, .slice b2 L2.length cb2] := by rw [← hW]; have h := Row.new (w.alloc (.cells #[.slice a s.length ca, .slice b L1.length cb] 36)) 36 #[.slice a2 s2.length ca2, .slice b2 L2.length cb2]; (try simp only [World.size_alloc] at h); exact (h.alloc _)
  have R2 : Row W (w.heap.size + 1 + 1) 36 #[.slice none 0 0, .slice none 0 0] := by rw [← hW]; have h := Row.new ((w.alloc (.cells #[.slice a s.length ca, .slice b L1.length cb] 36)).alloc (.cells #[.slice a2 s2.length ca2, .slice b2 L2.length cb2] 36)) 36 #[.slice none 0 0, .slice none 0 0]; (try simp only [World.size_alloc] at h); exact h
  have hBW : Below w.heap.size w W := by rw [← hW]; exact ((((Below.refl _ _).alloc (by (try simp) <;> omega) _).alloc (by (try simp) <;> omega) _).alloc (by (try simp) <;> omega) _)
  have hsW : W.heap.size = w.heap.size + 1 + 1 + 1 := by rw [← hW]; simp
  have hsame := sameSh_any (HT.out.later hBW).sh (HT2.out.later hBW).sh (by omega)
  rw [decide_eq_true hsh.symm] at hsame
  obtain ⟨p0, p1, _, _⟩ := R0.two
  obtain ⟨p2, p3, _, _⟩ := R1.two
  clear T T2 hlen hsh
  go_enter Tryz.func23, Tryz.ntmps23
  (try rw [hW])
  go_wp2_with fail
  refine hsame.mono ?_
  rintro e w2 ⟨rfl, hb2⟩
  replace R0 := R0.later hb2
  replace R1 := R1.later hb2
  replace R2 := R2.later hb2
  have hs2 := hb2.size
  have hBW2 : Below w.heap.size w w2 := hBW.trans (hb2.mono (by omega))
  have hshp := shapedR_any (HT.out.later hBW2) hs
  clear p0 p1 p2 p3 hsame
  obtain ⟨p0, p1, _, _⟩ := R0.two
  go_wp2_with fail
  refine hshp.mono ?_
  rintro e w3 ⟨a3, c3, rfl, R3', hb3⟩
  go_wp2_with fail
  have hs3 := hb3.size
  have hB3 : Below w.heap.size w w3 := hBW2.trans (hb3.mono (by omega))
  have hB4 : Below w.heap.size w (w3.alloc (.cells #[.slice a3 s.length c3, .slice none 0 0] 36)) := hB3.alloc (by omega) _
  have r0 := (R0.later hb3).alloc (.cells #[.slice a3 s.length c3, .slice none 0 0] 36)
  have r1 := (R1.later hb3).alloc (.cells #[.slice a3 s.length c3, .slice none 0 0] 36)
  have r2 := (R2.later hb3).alloc (.cells #[.slice a3 s.length c3, .slice none 0 0] 36)
  have rg := Row.new w3 36 #[.slice a3 s.length c3, .slice none 0 0]
  have rs : ResS w.heap.size (w3.alloc (.cells #[.slice a3 s.length c3, .slice none 0 0] 36)) (.slice a3 s.length c3) s := (R3'.mono (by omega)).later ((Below.refl _ _).alloc (Nat.le_refl _) _)
  obtain ⟨g, hg⟩ : ∃ g, w3.heap.size = g := ⟨_, rfl⟩
  have hg2 : w.heap.size + 1 + 1 + 1 ≤ g := by omega
  rw [hg] at rg ⊢
  generalize w3.alloc (.cells #[.slice a3 s.length c3, .slice none 0 0] 36) = W4 at *
  have H0 := Lib.hid r0
  have H1 := Lib.hid r1
  have H2 := Lib.hid r2
  have HG := Lib.hid rg
  have HS := Lib.hid rs
  have HB4 := Lib.hid hB4
  clear rg rs hB4 hB3 hb3 hs3 R3' hshp p0 p1 hsW hg hW hBW hBW2 hs2 hb2 r0 R0 r1 R1 r2 R2
  go_loopw [7, 8, 9] (fun i _ _ wr => ∃ (k : Nat) (v : Value), i = .int .i64 (k : Int) ∧ k ≤ L1.length ∧ (∀ (j : Nat) (p : Rat), j < k → L2[j]? = some p → p ≠ 0) ∧ Row wr w.heap.size 36 #[.slice a s.length ca, .slice b L1.length cb] ∧ Row wr (w.heap.size + 1) 36 #[.slice a2 s2.length ca2, .slice b2 L2.length cb2] ∧ Row wr (w.heap.size + 1 + 1) 36 #[.slice none 0 0, .slice none 0 0] ∧
    Row wr g 36 #[.slice a3 s.length c3, v] ∧ ResS w.heap.size wr (.slice a3 s.length c3) s ∧ RowO w.heap.size 56 (fun W v x => ResA w.heap.size w W v x (3 * n + 5)) wr v (LR.take k) ∧ Below w.heap.size w wr) (fun i _ _ _ => L1.length - (intOf i).toNat)
  case atStart => exact ⟨0, _, rfl, Nat.zero_le _, (fun j p hj => by omega), H0.out, H1.out, H2.out, HG.out, HS.out, RowO.nil _ _ _ _, HB4.out⟩
  case round =>
    obtain ⟨k, v, rfl, hk, hnz, r0, r1, r2, rg, rs, ⟨es, hown, hall⟩, hb⟩ := hrel
    have HNZ := Lib.hid hnz
    clear hnz
    have hsz := hb.size
    have c01 := r0.cell 1
    have hle : es.length = k := by have h := HRES.out; rw [hall.1, List.length_take, h]; omega
    by_cases hlt : k < L1.length
    · obtain ⟨bb, o, x0, x1, x2, q, hbo, hqk, e0', e1', e2', hraw0⟩ := HT.out.el.at hlt
      obtain ⟨bd, od, z0, z1, z2, p, hbd, hpk, d0', d1', d2', hraw1⟩ := HT2.out.el.at (i := k) (by have := HLEN.out; omega)
      subst hbo
      subst hbd
      have hltI : (k : Int) < (L1.length : Int) := by omega
      have hltJ : (k : Int) < (L2.length : Int) := by have := HLEN.out; omega
      have hcall : ArgR wr (.agg #[x0, x1, x2]) q n := hraw0.later hb
      have hcall2 : ArgR wr (.agg #[z0, z1, z2]) p n := hraw1.later hb
      have e0 := (hb.cell (World.block_lt_of_cell? _ _ e0')).trans e0'
      have e1 := (hb.cell (World.block_lt_of_cell? _ _ e1')).trans e1'
      have e2 := (hb.cell (World.block_lt_of_cell? _ _ e2')).trans e2'
      have d0 := (hb.cell (World.block_lt_of_cell? _ _ d0')).trans d0'
      have d1 := (hb.cell (World.block_lt_of_cell? _ _ d1')).trans d1'
      have d2 := (hb.cell (World.block_lt_of_cell? _ _ d2')).trans d2'
      have c11 := r1.cell 1
      have HQK := Lib.hid hqk
      have HPK := Lib.hid hpk
      have HC1 := Lib.hid hcall
      have HC2 := Lib.hid hcall2
      clear e0' e1' e2' d0' d1' d2' hraw0 hraw1 hqk hpk hcall hcall2
      have mkS : ∀ X, Below wr.heap.size wr X → X.cell? ⟨w.heap.size, 1, none⟩ = some (.slice (some ⟨bb, o, none⟩) L1.length cb) ∧ X.cell? ⟨w.heap.size + 1, 1, none⟩ = some (.slice (some ⟨bd, od, none⟩) L2.length cb2) ∧ X.cell? ⟨bb, o + k * 3, none⟩ = some x0 ∧ X.cell? ⟨bb, o + k * 3 + 1, none⟩ = some x1 ∧ X.cell? ⟨bb, o + k * 3 + 2, none⟩ = some x2 ∧ X.cell? ⟨bd, od + k * 3, none⟩ = some z0 ∧ X.cell? ⟨bd, od + k * 3 + 1, none⟩ = some z1 ∧ X.cell? ⟨bd, od + k * 3 + 2, none⟩ = some z2 := fun X h =>
        ⟨(h.cell (World.block_lt_of_cell? _ _ c01)).trans c01, (h.cell (World.block_lt_of_cell? _ _ c11)).trans c11, (h.cell (World.block_lt_of_cell? _ _ e0)).trans e0, (h.cell (World.block_lt_of_cell? _ _ e1)).trans e1, (h.cell (World.block_lt_of_cell? _ _ e2)).trans e2, (h.cell (World.block_lt_of_cell? _ _ d0)).trans d0, (h.cell (World.block_lt_of_cell? _ _ d1)).trans d1, (h.cell (World.block_lt_of_cell? _ _ d2)).trans d2⟩
      by_cases hp0 : p = 0
      case pos =>
        go_wp2_with fail
        refine wp_region_held_drew (S := fun X => X.cell? ⟨w.heap.size, 1, none⟩ = some (.slice (some ⟨bb, o, none⟩) L1.length cb) ∧ X.cell? ⟨w.heap.size + 1, 1, none⟩ = some (.slice (some ⟨bd, od, none⟩) L2.length cb2) ∧ X.cell? ⟨bb, o + k * 3, none⟩ = some x0 ∧ X.cell? ⟨bb, o + k * 3 + 1, none⟩ = some x1 ∧ X.cell? ⟨bb, o + k * 3 + 2, none⟩ = some x2 ∧ X.cell? ⟨bd, od + k * 3, none⟩ = some z0 ∧ X.cell? ⟨bd, od + k * 3 + 1, none⟩ = some z1 ∧ X.cell? ⟨bd, od + k * 3 + 2, none⟩ = some z2) (by kernel_rfl) (mkS _ ((Below.refl wr.heap.size wr).drew)) (fun hHeld => ?_)
        refine todo [0, 1, 2, 3, 4, 5, 6, 7, 8, 9] ?_
        iterate 10
         refine todoH (v := ?_) rfl (by kernel_rfl) (fun _ _ _ h => h) (by assumption) (Or.inl ⟨by rfl, ?_⟩) ?_
         rotate_left
         · intro w hSw; (try dsimp only at hSw); go_simp; (try with_reducible rfl)
         try simp only [Act.put, List.getElem_toArray, List.getElem_cons_succ, List.getElem_cons_zero, List.setIfInBounds_toArray, List.set_cons_zero, List.set_cons_succ]
        refine todone ?_
        obtain ⟨X1_0, hV0⟩ : ∃ Y, wr.drew = Y := ⟨_, rfl⟩
        rw [hV0] at hHeld
        rw [hV0]
        have hb0 : Below wr.heap.size wr X1_0 := by rw [← hV0]; exact (Below.refl _ _).drew
        have hs0 : wr.heap.size ≤ X1_0.heap.size := hb0.size
        clear hV0
        refine wpAnyH_ready (rs := [10, 14]) (by kernel_rfl) (by simp) ?_
        refine AllReadyH.cons rfl (fun K hK => ?o1011_10) (AllReadyH.cons rfl (fun K hK => ?o1011_14) AllReadyH.nil)
        case o1011_10 =>
          go_simp
          refine (divR_zero (HC1.out.later hb0) (HC2.out.later hb0) hp0).mono ?_
          rintro e X1_1012 ⟨rfl, hc1012⟩
          go_simp
          have hbX1_1012 : Below wr.heap.size wr X1_1012 := hb0.trans (hc1012.mono hs0)
          have hsX1_1012 : wr.heap.size ≤ X1_1012.heap.size := hbX1_1012.size
          refine hK.out _ _ (mkS _ hbX1_1012) (fun hHeld2 => ?_)
          clear hK K hHeld
          have hHeld := hHeld2
          clear hHeld2
          try simp only [Act.put, List.setIfInBounds_toArray, List.set_cons_zero, List.set_cons_succ]
          refine todo [11, 12, 13] ?_
          iterate 3
           refine todoH (v := ?_) rfl (by kernel_rfl) (fun _ _ _ h => h) (by assumption) (Or.inl ⟨by rfl, ?_⟩) ?_
           rotate_left
           · intro w hSw; (try dsimp only at hSw); go_simp; (try with_reducible rfl)
           try simp only [Act.put, List.getElem_toArray, List.getElem_cons_succ, List.getElem_cons_zero, List.setIfInBounds_toArray, List.set_cons_zero, List.set_cons_succ]
          refine todone ?_
          refine wpAnyH_ready (rs := [14]) (by kernel_rfl) (by simp) ?_
          refine AllReadyH.cons rfl (fun K hK => ?o1016_14) AllReadyH.nil
          go_simp
          refine afterAlloc (fun X1_1017 hc1017 hl1017 zn1017 => ?_)
          have hbX1_1017 : Below wr.heap.size wr X1_1017 := hbX1_1012.trans (hc1017.mono hsX1_1012)
          have hsX1_1017 : wr.heap.size ≤ X1_1017.heap.size := hbX1_1017.size
          refine hK.out _ _ (mkS _ hbX1_1017) (fun hHeld2 => ?_)
          clear hK K hHeld
          have hHeld := hHeld2
          clear hHeld2
          try simp only [Act.put, List.setIfInBounds_toArray, List.set_cons_zero, List.set_cons_succ]
          obtain ⟨d1018_0, d1018_1, d1018_2, d1018_3, d1018_4, d1018_5⟩ := zn1017.three
          refine wpAnyH_ready (rs := [15]) (by kernel_rfl) (by simp) ?_
          refine AllReadyH.cons rfl (fun K hK => ?s1018) AllReadyH.nil
          go_simp
          refine afterSet3 zn1017 (fun X1_1018 o1018 zs1018 => ?_)
          clear d1018_0 d1018_1 d1018_2 d1018_3 d1018_4 d1018_5
          have hbX1_1018 : Below wr.heap.size wr X1_1018 := hbX1_1017.trans (o1018.below hsX1_1012)
          have hsX1_1018 : wr.heap.size ≤ X1_1018.heap.size := hbX1_1018.size
          refine hK.out _ _ (mkS _ hbX1_1018) (fun hHeld2 => ?_)
          clear hK K hHeld
          have hHeld := hHeld2
          clear hHeld2
          try simp only [Act.put, List.setIfInBounds_toArray, List.set_cons_zero, List.set_cons_succ]
          refine wpAnyH_ready (rs := [16]) (by kernel_rfl) (by simp) ?_
          refine AllReadyH.cons rfl (fun K hK => ?sD1019_16) AllReadyH.nil
          go_simp
          refine hK.out _ _ ?kD1019_16 (fun hHeld => ?mD1019_16)
          case kD1019_16 =>
            try dsimp only
            exact mkS _ hbX1_1018
          clear hK K
          try simp only [Act.put, List.setIfInBounds_toArray, List.set_cons_zero, List.set_cons_succ]
          refine wpAnyH_done (by kernel_rfl) ?_ _
          (try dsimp only [Straight])
          have r2X := r2.later hbX1_1018
          obtain ⟨k0, k1, k2, k3⟩ := r2X.two
          have r2S := r2X.set2 (.slice none 0 0) (.slice none 0 0)
          obtain ⟨y0, y1, _, _⟩ := r2S.two
          have hcc : cc = 17 := by
            rw [← HCC.out, if_pos]
            have h := HPK.out
            rw [hp0] at h
            exact List.mem_of_getElem? h
          have hbE := below_set2 (hb.trans (hbX1_1018.mono hsz)) (show w.heap.size ≤ w.heap.size + 1 + 1 by omega) (.slice none 0 0) (.slice none 0 0)
          clear hHeld mkS
          go_wp2
          (try rw [Exit.noGoto_ret])
          refine bodyPost_ret (v := .tuple #[.agg #[.slice none 0 0, .slice none 0 0], .int .i64 17]) (by simp [results, Tryz.results23, go_sem, y0, y1]) rfl ⟨⟨_, _, _, _, _, _, by first | rfl | rw [hcc] | simp [hcc], fun h => by rw [hcc] at h; cases h⟩, hbE⟩
        case o1011_14 =>
          go_simp
          refine afterAlloc (fun X1_1020 hc1020 hl1020 zn1020 => ?_)
          have hbX1_1020 : Below wr.heap.size wr X1_1020 := hb0.trans (hc1020.mono hs0)
          have hsX1_1020 : wr.heap.size ≤ X1_1020.heap.size := hbX1_1020.size
          refine hK.out _ _ (mkS _ hbX1_1020) (fun hHeld2 => ?_)
          clear hK K hHeld
          have hHeld := hHeld2
          clear hHeld2
          try simp only [Act.put, List.setIfInBounds_toArray, List.set_cons_zero, List.set_cons_succ]
          refine wpAnyH_ready (rs := [10]) (by kernel_rfl) (by simp) ?_
          refine AllReadyH.cons rfl (fun K hK => ?o1021_10) AllReadyH.nil
          go_simp
          refine (divR_zero (HC1.out.later hbX1_1020) (HC2.out.later hbX1_1020) hp0).mono ?_
          rintro e X1_1022 ⟨rfl, hc1022⟩
          go_simp
          have hbX1_1022 : Below wr.heap.size wr X1_1022 := hbX1_1020.trans (hc1022.mono hsX1_1020)
          have hsX1_1022 : wr.heap.size ≤ X1_1022.heap.size := hbX1_1022.size
          have zAX1_1022 := zn1020.later hc1022
          have ltAX1_1022 := zAX1_1022.lt
          refine hK.out _ _ (mkS _ hbX1_1022) (fun hHeld2 => ?_)
          clear hK K hHeld
          have hHeld := hHeld2
          clear hHeld2
          try simp only [Act.put, List.setIfInBounds_toArray, List.set_cons_zero, List.set_cons_succ]
          refine todo [11, 12, 13] ?_
          iterate 3
           refine todoH (v := ?_) rfl (by kernel_rfl) (fun _ _ _ h => h) (by assumption) (Or.inl ⟨by rfl, ?_⟩) ?_
           rotate_left
           · intro w hSw; (try dsimp only at hSw); go_simp; (try with_reducible rfl)
           try simp only [Act.put, List.getElem_toArray, List.getElem_cons_succ, List.getElem_cons_zero, List.setIfInBounds_toArray, List.set_cons_zero, List.set_cons_succ]
          refine todone ?_
          obtain ⟨d1026_0, d1026_1, d1026_2, d1026_3, d1026_4, d1026_5⟩ := zAX1_1022.three
          refine wpAnyH_ready (rs := [15]) (by kernel_rfl) (by simp) ?_
          refine AllReadyH.cons rfl (fun K hK => ?s1026) AllReadyH.nil
          go_simp
          refine afterSet3 zAX1_1022 (fun X1_1026 o1026 zs1026 => ?_)
          clear d1026_0 d1026_1 d1026_2 d1026_3 d1026_4 d1026_5
          have hbX1_1026 : Below wr.heap.size wr X1_1026 := hbX1_1022.trans (o1026.below hs0)
          have hsX1_1026 : wr.heap.size ≤ X1_1026.heap.size := hbX1_1026.size
          refine hK.out _ _ (mkS _ hbX1_1026) (fun hHeld2 => ?_)
          clear hK K hHeld
          have hHeld := hHeld2
          clear hHeld2
          try simp only [Act.put, List.setIfInBounds_toArray, List.set_cons_zero, List.set_cons_succ]
          refine wpAnyH_ready (rs := [16]) (by kernel_rfl) (by simp) ?_
          refine AllReadyH.cons rfl (fun K hK => ?sD1027_16) AllReadyH.nil
          go_simp
          refine hK.out _ _ ?kD1027_16 (fun hHeld => ?mD1027_16)
          case kD1027_16 =>
            try dsimp only
            exact mkS _ hbX1_1026
          clear hK K
          try simp only [Act.put, List.setIfInBounds_toArray, List.set_cons_zero, List.set_cons_succ]
          refine wpAnyH_done (by kernel_rfl) ?_ _
          (try dsimp only [Straight])
          have r2X := r2.later hbX1_1026
          obtain ⟨k0, k1, k2, k3⟩ := r2X.two
          have r2S := r2X.set2 (.slice none 0 0) (.slice none 0 0)
          obtain ⟨y0, y1, _, _⟩ := r2S.two
          have hcc : cc = 17 := by
            rw [← HCC.out, if_pos]
            have h := HPK.out
            rw [hp0] at h
            exact List.mem_of_getElem? h
          have hbE := below_set2 (hb.trans (hbX1_1026.mono hsz)) (show w.heap.size ≤ w.heap.size + 1 + 1 by omega) (.slice none 0 0) (.slice none 0 0)
          clear hHeld mkS
          go_wp2
          (try rw [Exit.noGoto_ret])
          refine bodyPost_ret (v := .tuple #[.agg #[.slice none 0 0, .slice none 0 0], .int .i64 17]) (by simp [results, Tryz.results23, go_sem, y0, y1]) rfl ⟨⟨_, _, _, _, _, _, by first | rfl | rw [hcc] | simp [hcc], fun h => by rw [hcc] at h; cases h⟩, hbE⟩
      case neg =>
        have HOWN0 := Lib.hid hown
        go_wp2_with fail
        refine wp_region_held_drew (S := fun X => X.cell? ⟨w.heap.size, 1, none⟩ = some (.slice (some ⟨bb, o, none⟩) L1.length cb) ∧ X.cell? ⟨w.heap.size + 1, 1, none⟩ = some (.slice (some ⟨bd, od, none⟩) L2.length cb2) ∧ X.cell? ⟨bb, o + k * 3, none⟩ = some x0 ∧ X.cell? ⟨bb, o + k * 3 + 1, none⟩ = some x1 ∧ X.cell? ⟨bb, o + k * 3 + 2, none⟩ = some x2 ∧ X.cell? ⟨bd, od + k * 3, none⟩ = some z0 ∧ X.cell? ⟨bd, od + k * 3 + 1, none⟩ = some z1 ∧ X.cell? ⟨bd, od + k * 3 + 2, none⟩ = some z2) (by kernel_rfl) (mkS _ ((Below.refl wr.heap.size wr).drew)) (fun hHeld => ?_)
        refine todo [0, 1, 2, 3, 4, 5, 6, 7, 8, 9] ?_
        iterate 10
         refine todoH (v := ?_) rfl (by kernel_rfl) (fun _ _ _ h => h) (by assumption) (Or.inl ⟨by rfl, ?_⟩) ?_
         rotate_left
         · intro w hSw; (try dsimp only at hSw); go_simp; (try with_reducible rfl)
         try simp only [Act.put, List.getElem_toArray, List.getElem_cons_succ, List.getElem_cons_zero, List.setIfInBounds_toArray, List.set_cons_zero, List.set_cons_succ]
        refine todone ?_
        obtain ⟨X2_0, hV0⟩ : ∃ Y, wr.drew = Y := ⟨_, rfl⟩
        rw [hV0] at hHeld
        rw [hV0]
        have hb0 : Below wr.heap.size wr X2_0 := by rw [← hV0]; exact (Below.refl _ _).drew
        have hs0 : wr.heap.size ≤ X2_0.heap.size := hb0.size
        clear hV0
        refine wpAnyH_ready (rs := [10, 14]) (by kernel_rfl) (by simp) ?_
        refine AllReadyH.cons rfl (fun K hK => ?o2011_10) (AllReadyH.cons rfl (fun K hK => ?o2011_14) AllReadyH.nil)
        case o2011_10 =>
          go_simp
          refine (divRR_any (HC1.out.later hb0) (HC2.out.later hb0) hp0 (by omega)).mono ?_
          rintro e X2_2012 ⟨rv2012, rfl, qv2012, hc2012⟩
          obtain ⟨m2012, f2012, l2012, j2012, g2012, n2012, i2012, rfl⟩ := qv2012.shape
          have qm2012 := qv2012.mono (base' := w.heap.size) (by have := hs0; omega)
          clear qv2012
          go_simp
          have hbX2_2012 : Below wr.heap.size wr X2_2012 := hb0.trans (hc2012.mono hs0)
          have hsX2_2012 : wr.heap.size ≤ X2_2012.heap.size := hbX2_2012.size
          refine hK.out _ _ (mkS _ hbX2_2012) (fun hHeld2 => ?_)
          clear hK K hHeld
          have hHeld := hHeld2
          clear hHeld2
          try simp only [Act.put, List.setIfInBounds_toArray, List.set_cons_zero, List.set_cons_succ]
          refine todo [11, 12, 13] ?_
          iterate 3
           refine todoH (v := ?_) rfl (by kernel_rfl) (fun _ _ _ h => h) (by assumption) (Or.inl ⟨by rfl, ?_⟩) ?_
           rotate_left
           · intro w hSw; (try dsimp only at hSw); go_simp; (try with_reducible rfl)
           try simp only [Act.put, List.getElem_toArray, List.getElem_cons_succ, List.getElem_cons_zero, List.setIfInBounds_toArray, List.set_cons_zero, List.set_cons_succ]
          refine todone ?_
          refine wpAnyH_ready (rs := [14]) (by kernel_rfl) (by simp) ?_
          refine AllReadyH.cons rfl (fun K hK => ?o2016_14) AllReadyH.nil
          go_simp
          refine afterAlloc (fun X2_2017 hc2017 hl2017 zn2017 => ?_)
          have hbX2_2017 : Below wr.heap.size wr X2_2017 := hbX2_2012.trans (hc2017.mono hsX2_2012)
          have hsX2_2017 : wr.heap.size ≤ X2_2017.heap.size := hbX2_2017.size
          have qX2_2017 := qm2012.later hc2017
          refine hK.out _ _ (mkS _ hbX2_2017) (fun hHeld2 => ?_)
          clear hK K hHeld
          have hHeld := hHeld2
          clear hHeld2
          try simp only [Act.put, List.setIfInBounds_toArray, List.set_cons_zero, List.set_cons_succ]
          obtain ⟨d2018_0, d2018_1, d2018_2, d2018_3, d2018_4, d2018_5⟩ := zn2017.three
          refine wpAnyH_ready (rs := [15]) (by kernel_rfl) (by simp) ?_
          refine AllReadyH.cons rfl (fun K hK => ?s2018) AllReadyH.nil
          go_simp
          refine afterSet3 zn2017 (fun X2_2018 o2018 zs2018 => ?_)
          clear d2018_0 d2018_1 d2018_2 d2018_3 d2018_4 d2018_5
          have hbX2_2018 : Below wr.heap.size wr X2_2018 := hbX2_2017.trans (o2018.below hsX2_2012)
          have hsX2_2018 : wr.heap.size ≤ X2_2018.heap.size := hbX2_2018.size
          have qX2_2018 := qX2_2017.far zn2017 (by decide) (fun k hk => o2018.block k hk)
          refine hK.out _ _ (mkS _ hbX2_2018) (fun hHeld2 => ?_)
          clear hK K hHeld
          have hHeld := hHeld2
          clear hHeld2
          try simp only [Act.put, List.setIfInBounds_toArray, List.set_cons_zero, List.set_cons_succ]
          refine wpAnyH_ready (rs := [16]) (by kernel_rfl) (by simp) ?_
          refine AllReadyH.cons rfl (fun K hK => ?sD2019_16) AllReadyH.nil
          go_simp
          refine hK.out _ _ ?kD2019_16 (fun hHeld => ?mD2019_16)
          case kD2019_16 =>
            try dsimp only
            exact mkS _ hbX2_2018
          clear hK K
          try simp only [Act.put, List.setIfInBounds_toArray, List.set_cons_zero, List.set_cons_succ]
          refine wpAnyH_done (by kernel_rfl) ?_ _
          (try dsimp only [Straight])
          have hbX := hbX2_2018
          replace r0 := r0.later hbX
          replace r1 := r1.later hbX
          replace r2 := r2.later hbX
          replace rg := rg.later hbX
          replace rs := rs.later hbX
          replace hown := hown.later hbX
          replace hall := hall.imp (Q := fun v x => ResA w.heap.size w X2_2018 v x (3 * n + 5)) fun u x _ h => h.later hbX
          replace hb := hb.trans (hbX.mono hsz)
          have hszX := hb.size
          obtain ⟨av0, cv0, rfl⟩ := ownT_slice hown
          have cg1 := rg.cell 1
          obtain ⟨r, hrv, hrb, hrne, hrA'⟩ := hown.hits2 hszX
          have m0 := hrne _ _ _ r0 (by decide)
          have m1 := hrne _ _ _ r1 (by decide)
          have m2 := hrne _ _ _ r2 (by decide)
          have mg := hrne _ _ _ rg (by decide)
          have hrA : X2_2012.heap.size ≠ r := hrA' _ zs2018.lt (fun e => by have h1 := (HOWN0.out.lt _ e).2; have h2 := hsX2_2012; omega)
          obtain ⟨a0, a1, a2', _, _, _⟩ := zs2018.three
          have HLE2 := Lib.hid hle
          have hles : es.length ≤ 1000000 := by omega
          have HALL := Lib.hid hall
          have HQ5 := Lib.hid (qX2_2018)
          clear hHeld mkS hall hle qX2_2018
          go_wp2_with (at_builtin; refine wpList_append_own _ rfl _ _ 34 rfl w.heap.size 56 i0 _ 3 56 Tryz.underlying34 hi hz0 hz1 hz2 rfl (by decide) _ es.length (flat3 es) rfl (hown.later ((Below.refl _ _).alloc (Nat.le_refl _) _)) ⟨X2_2018.heap.size, 0, none⟩ 1 1 [.bool m2012, .slice f2012 l2012 j2012, .slice g2012 n2012 i2012] rfl rfl (cell_three_new _ _ _ _ _) (by simp [Value.oneCell']) (by unfold maxLen; omega) (by omega) (by simp; omega) ?_)
          intro v' w6 hown' hgrow _
          obtain ⟨av, cv, rfl⟩ := ownT_slice hown'
          have hk6 : Kept r X2_2018 w6 := ((Kept.refl r X2_2018).alloc _).grown hgrow hrv
          have RG6 := rg.kept hk6 mg
          have f21 := RG6.free 1
          have d21 := RG6.cell 1
          go_wp2
          go_roundw
          case rel =>
            have hx5 : ResA w.heap.size w X2_2018 (E3.agg ⟨.bool m2012, .slice f2012 l2012 j2012, .slice g2012 n2012 i2012⟩) (q / p) (3 * n + 5) := .inl HQ5.out
            obtain ⟨hrow6, hb6⟩ := pushE2 (P := (fun W v x => ResA w.heap.size w W v x (3 * n + 5))) (e := ⟨.bool m2012, .slice f2012 l2012 j2012, .slice g2012 n2012 i2012⟩) hb (Nat.le_refl _) hszX hown HALL.out hx5 (fun u y h => ResA.apart hown hgrow (by decide) h) hown' hgrow
            have rs6 : ResS w.heap.size w6 (.slice a3 s.length c3) s := ResS.apart hown hgrow (by decide) rs
            have hnext : LR.take (k + 1) = LR.take k ++ [q / p] := take_nextL (by rw [← HLR.out, List.getElem?_zipWith, HQK.out, HPK.out])
            refine ⟨k + 1, _, by go_num, by omega, fun j y hj hy => ?_, (r0.kept hk6 m0).far (by show w.heap.size ≠ g; omega) _, (r1.kept hk6 m1).far (by show w.heap.size + 1 ≠ g; omega) _, (r2.kept hk6 m2).far (by show w.heap.size + 1 + 1 ≠ g; omega) _, RG6.set21 _, rs6.far RG6 (by decide) (kept1 _), ?_, hb6.setCell (by show w.heap.size ≤ g; omega) _⟩
            · by_cases h : j = k
              · rw [h, HPK.out] at hy
                cases hy
                exact hp0
              · exact HNZ.out j y (by omega) hy
            · rw [hnext]
              exact hrow6.far RG6 (by decide) (kept1 _) (fun u y h => h.far RG6 (by decide) (kept1 _))
          case measure => simp [intOf]; omega
        case o2011_14 =>
          go_simp
          refine afterAlloc (fun X2_2020 hc2020 hl2020 zn2020 => ?_)
          have hbX2_2020 : Below wr.heap.size wr X2_2020 := hb0.trans (hc2020.mono hs0)
          have hsX2_2020 : wr.heap.size ≤ X2_2020.heap.size := hbX2_2020.size
          refine hK.out _ _ (mkS _ hbX2_2020) (fun hHeld2 => ?_)
          clear hK K hHeld
          have hHeld := hHeld2
          clear hHeld2
          try simp only [Act.put, List.setIfInBounds_toArray, List.set_cons_zero, List.set_cons_succ]
          refine wpAnyH_ready (rs := [10]) (by kernel_rfl) (by simp) ?_
          refine AllReadyH.cons rfl (fun K hK => ?o2021_10) AllReadyH.nil
          go_simp
          refine (divRR_any (HC1.out.later hbX2_2020) (HC2.out.later hbX2_2020) hp0 (by omega)).mono ?_
          rintro e X2_2022 ⟨rv2022, rfl, qv2022, hc2022⟩
          obtain ⟨m2022, f2022, l2022, j2022, g2022, n2022, i2022, rfl⟩ := qv2022.shape
          have qm2022 := qv2022.mono (base' := w.heap.size) (by have := hsX2_2020; omega)
          clear qv2022
          go_simp
          have hbX2_2022 : Below wr.heap.size wr X2_2022 := hbX2_2020.trans (hc2022.mono hsX2_2020)
          have hsX2_2022 : wr.heap.size ≤ X2_2022.heap.size := hbX2_2022.size
          have zAX2_2022 := zn2020.later hc2022
          have ltAX2_2022 := zAX2_2022.lt
          refine hK.out _ _ (mkS _ hbX2_2022) (fun hHeld2 => ?_)
          clear hK K hHeld
          have hHeld := hHeld2
          clear hHeld2
          try simp only [Act.put, List.setIfInBounds_toArray, List.set_cons_zero, List.set_cons_succ]
          refine todo [11, 12, 13] ?_
          iterate 3
           refine todoH (v := ?_) rfl (by kernel_rfl) (fun _ _ _ h => h) (by assumption) (Or.inl ⟨by rfl, ?_⟩) ?_
           rotate_left
           · intro w hSw; (try dsimp only at hSw); go_simp; (try with_reducible rfl)
           try simp only [Act.put, List.getElem_toArray, List.getElem_cons_succ, List.getElem_cons_zero, List.setIfInBounds_toArray, List.set_cons_zero, List.set_cons_succ]
          refine todone ?_
          obtain ⟨d2026_0, d2026_1, d2026_2, d2026_3, d2026_4, d2026_5⟩ := zAX2_2022.three
          refine wpAnyH_ready (rs := [15]) (by kernel_rfl) (by simp) ?_
          refine AllReadyH.cons rfl (fun K hK => ?s2026) AllReadyH.nil
          go_simp
          refine afterSet3 zAX2_2022 (fun X2_2026 o2026 zs2026 => ?_)
          clear d2026_0 d2026_1 d2026_2 d2026_3 d2026_4 d2026_5
          have hbX2_2026 : Below wr.heap.size wr X2_2026 := hbX2_2022.trans (o2026.below hs0)
          have hsX2_2026 : wr.heap.size ≤ X2_2026.heap.size := hbX2_2026.size
          have qX2_2026 := qm2022.far zAX2_2022 (by decide) (fun k hk => o2026.block k hk)
          refine hK.out _ _ (mkS _ hbX2_2026) (fun hHeld2 => ?_)
          clear hK K hHeld
          have hHeld := hHeld2
          clear hHeld2
          try simp only [Act.put, List.setIfInBounds_toArray, List.set_cons_zero, List.set_cons_succ]
          refine wpAnyH_ready (rs := [16]) (by kernel_rfl) (by simp) ?_
          refine AllReadyH.cons rfl (fun K hK => ?sD2027_16) AllReadyH.nil
          go_simp
          refine hK.out _ _ ?kD2027_16 (fun hHeld => ?mD2027_16)
          case kD2027_16 =>
            try dsimp only
            exact mkS _ hbX2_2026
          clear hK K
          try simp only [Act.put, List.setIfInBounds_toArray, List.set_cons_zero, List.set_cons_succ]
          refine wpAnyH_done (by kernel_rfl) ?_ _
          (try dsimp only [Straight])
          have hbX := hbX2_2026
          replace r0 := r0.later hbX
          replace r1 := r1.later hbX
          replace r2 := r2.later hbX
          replace rg := rg.later hbX
          replace rs := rs.later hbX
          replace hown := hown.later hbX
          replace hall := hall.imp (Q := fun v x => ResA w.heap.size w X2_2026 v x (3 * n + 5)) fun u x _ h => h.later hbX
          replace hb := hb.trans (hbX.mono hsz)
          have hszX := hb.size
          obtain ⟨av0, cv0, rfl⟩ := ownT_slice hown
          have cg1 := rg.cell 1
          obtain ⟨r, hrv, hrb, hrne, hrA'⟩ := hown.hits2 hszX
          have m0 := hrne _ _ _ r0 (by decide)
          have m1 := hrne _ _ _ r1 (by decide)
          have m2 := hrne _ _ _ r2 (by decide)
          have mg := hrne _ _ _ rg (by decide)
          have hrA : X2_0.heap.size ≠ r := hrA' _ zs2026.lt (fun e => by have h1 := (HOWN0.out.lt _ e).2; have h2 := hs0; omega)
          obtain ⟨a0, a1, a2', _, _, _⟩ := zs2026.three
          have HLE2 := Lib.hid hle
          have hles : es.length ≤ 1000000 := by omega
          have HALL := Lib.hid hall
          have HQ5 := Lib.hid (qX2_2026)
          clear hHeld mkS hall hle qX2_2026
          go_wp2_with (at_builtin; refine wpList_append_own _ rfl _ _ 34 rfl w.heap.size 56 i0 _ 3 56 Tryz.underlying34 hi hz0 hz1 hz2 rfl (by decide) _ es.length (flat3 es) rfl (hown.later ((Below.refl _ _).alloc (Nat.le_refl _) _)) ⟨X2_2026.heap.size, 0, none⟩ 1 1 [.bool m2022, .slice f2022 l2022 j2022, .slice g2022 n2022 i2022] rfl rfl (cell_three_new _ _ _ _ _) (by simp [Value.oneCell']) (by unfold maxLen; omega) (by omega) (by simp; omega) ?_)
          intro v' w6 hown' hgrow _
          obtain ⟨av, cv, rfl⟩ := ownT_slice hown'
          have hk6 : Kept r X2_2026 w6 := ((Kept.refl r X2_2026).alloc _).grown hgrow hrv
          have RG6 := rg.kept hk6 mg
          have f21 := RG6.free 1
          have d21 := RG6.cell 1
          go_wp2
          go_roundw
          case rel =>
            have hx5 : ResA w.heap.size w X2_2026 (E3.agg ⟨.bool m2022, .slice f2022 l2022 j2022, .slice g2022 n2022 i2022⟩) (q / p) (3 * n + 5) := .inl HQ5.out
            obtain ⟨hrow6, hb6⟩ := pushE2 (P := (fun W v x => ResA w.heap.size w W v x (3 * n + 5))) (e := ⟨.bool m2022, .slice f2022 l2022 j2022, .slice g2022 n2022 i2022⟩) hb (Nat.le_refl _) hszX hown HALL.out hx5 (fun u y h => ResA.apart hown hgrow (by decide) h) hown' hgrow
            have rs6 : ResS w.heap.size w6 (.slice a3 s.length c3) s := ResS.apart hown hgrow (by decide) rs
            have hnext : LR.take (k + 1) = LR.take k ++ [q / p] := take_nextL (by rw [← HLR.out, List.getElem?_zipWith, HQK.out, HPK.out])
            refine ⟨k + 1, _, by go_num, by omega, fun j y hj hy => ?_, (r0.kept hk6 m0).far (by show w.heap.size ≠ g; omega) _, (r1.kept hk6 m1).far (by show w.heap.size + 1 ≠ g; omega) _, (r2.kept hk6 m2).far (by show w.heap.size + 1 + 1 ≠ g; omega) _, RG6.set21 _, rs6.far RG6 (by decide) (kept1 _), ?_, hb6.setCell (by show w.heap.size ≤ g; omega) _⟩
            · by_cases h : j = k
              · rw [h, HPK.out] at hy
                cases hy
                exact hp0
              · exact HNZ.out j y (by omega) hy
            · rw [hnext]
              exact hrow6.far RG6 (by decide) (kept1 _) (fun u y h => h.far RG6 (by decide) (kept1 _))
          case measure => simp [intOf]; omega
    · obtain rfl : k = L1.length := by omega
      have hltI : ¬ (L1.length : Int) < (L1.length : Int) := by omega
      rw [List.take_of_length_le (by have h := HRES.out; omega)] at hall
      obtain ⟨av, cv, rfl⟩ := ownT_slice hown
      have hel : es.length = L1.length := hle
      rw [hel] at rg hown
      have c20 := rg.cell 0
      have d21 := rg.cell 1
      obtain ⟨g10, g11, f10, f11⟩ := r2.two
      have RRs := r2.set2 (.slice a3 s.length c3) (.slice av L1.length cv)
      obtain ⟨z0, z1, _, _⟩ := RRs.two
      have HOWN := Lib.hid hown
      have HALL := Lib.hid hall
      have HRR := Lib.hid r2
      have hcc : cc = 0 := by
        rw [← HCC.out, if_neg]
        intro h
        obtain ⟨j, hj, e⟩ := List.mem_iff_getElem.1 h
        exact HNZ.out j _ (by have := HLEN.out; omega) (List.getElem?_eq_getElem hj) e
      clear hown hall hle RRs r2
      go_wp2
      have hbE := below_set2 hb (show w.heap.size ≤ w.heap.size + 1 + 1 by omega) (.slice a3 s.length c3) (.slice av L1.length cv)
      have hsE : ResS w.heap.size _ (.slice a3 s.length c3) s := rs.far HRR.out (by decide) (kept2 (.slice a3 s.length c3) (.slice av L1.length cv))
      have hrE := RowO.far (P := (fun W v x => ResA w.heap.size w W v x (3 * n + 5))) ⟨es, HOWN.out, HALL.out⟩ HRR.out (by decide) (kept2 (.slice a3 s.length c3) (.slice av L1.length cv)) (fun u y h => h.far HRR.out (by decide) (kept2 _ _))
      exact bodyPost_ret (v := .tuple #[.agg #[.slice a3 s.length c3, .slice av L1.length cv], .int .i64 0]) (by simp [results, Tryz.results23, go_sem, z0, z1]) rfl ⟨⟨_, _, _, _, _, _, by first | rfl | rw [hcc] | simp [hcc], fun _ => tenR_of HRES.out.symm hbE hsE hrE⟩, hbE⟩
set_option maxRecDepth 100000 in
set_option maxHeartbeats 8000000 in
theorem divT_bad {n : Nat} {w : World} {v u : Value} {s s2 : List Int} {L1 L2 : List Rat} {a b a2 b2 : Option Addr} {ca cb ca2 cb2 : Nat} (T : TensR w v s L1 n a ca b cb) (T2 : TensR w u s2 L2 n a2 ca2 b2 cb2) (hs : s.length ≤ 17592186044416) (hq : L1.length ≤ 1000000) (hn : n ≤ 1000000) (hsh : s2 ≠ s) :
    Calls Tryz.prog 23 #[v, u] w fun e w' => e = .returned (.tuple #[.agg #[.slice none 0 0, .slice none 0 0], .int .i64 13]) ∧ Below w.heap.size w w' := by
  obtain rfl := T.is
  obtain rfl := T2.is
  obtain ⟨W, hW⟩ : ∃ W, (((w.alloc (.cells #[.slice a s.length ca, .slice b L1.length cb] 36)).alloc (.cells #[.slice a2 s2.length ca2, .slice b2 L2.length cb2] 36)).alloc (.cells #[.slice none 0 0, .slice none 0 0] 36)) = W := ⟨_, rfl⟩
  have R0 : Row W (w.heap.size) 36 #[.slice a s.length ca, .slice b L1.length cb] := by rw [← hW]; have h := Row.new w 36 #[.slice a s.length ca, .slice b L1.length cb]; (try simp only [World.size_alloc] at h); exact ((h.alloc _).alloc _)
  have R1 : Row W (w.heap.size + 1) 36 #[.slice a2 s2.length ca2, .slice b2 L2.length cb2] := by rw [← hW]; have h := Row.new (w.alloc (.cells #[.slice a s.length ca, .slice b L1.length cb] 36)) 36 #[.slice a2 s2.length ca2, .slice b2 L2.length cb2]; (try simp only [World.size_alloc] at h); exact (h.alloc _)
  have R2 : Row W (w.heap.size + 1 + 1) 36 #[.slice none 0 0, .slice none 0 0] := by rw [← hW]; have h := Row.new ((w.alloc (.cells #[.slice a s.length ca, .slice b L1.length cb] 36)).alloc (.cells #[.slice a2 s2.length ca2, .slice b2 L2.length cb2] 36)) 36 #[.slice none 0 0, .slice none 0 0]; (try simp only [World.size_alloc] at h); exact h
  have hBW : Below w.heap.size w W := by rw [← hW]; exact ((((Below.refl _ _).alloc (by (try simp) <;> omega) _).alloc (by (try simp) <;> omega) _).alloc (by (try simp) <;> omega) _)
  have hsW : W.heap.size = w.heap.size + 1 + 1 + 1 := by rw [← hW]; simp
  have hsame := sameSh_any (T.later hBW).sh (T2.later hBW).sh (by omega)
  rw [decide_eq_false (fun h => hsh h.symm)] at hsame
  obtain ⟨p0, p1, _, _⟩ := R0.two
  obtain ⟨p2, p3, _, _⟩ := R1.two
  clear T T2 hsh
  go_enter Tryz.func23, Tryz.ntmps23
  (try rw [hW])
  go_wp2_with fail
  refine hsame.mono ?_
  rintro e w2 ⟨rfl, hb2⟩
  have P2 := R2.later hb2
  obtain ⟨u0, u1, g0, g1⟩ := P2.two
  have hs2 := hb2.size
  have P3 := P2.set2 (.slice none 0 0) (.slice none 0 0)
  obtain ⟨z0, z1, _, _⟩ := P3.two
  go_wp2_with fail
  exact bodyPost_ret (v := .tuple #[.agg #[.slice none 0 0, .slice none 0 0], .int .i64 13]) (by simp [results, Tryz.results23, go_sem, z0, z1]) rfl ⟨rfl, below_set2 (hBW.trans (hb2.mono (by omega))) (by omega) _ _⟩
def divC (s1 s2 : List Int) (L2 : List Rat) : Int := if s2 = s1 then (if (0 : Rat) ∈ L2 then 17 else 0) else 13
theorem divT2_any {n : Nat} {w : World} {v u : Value} {s s2 : List Int} {L1 L2 : List Rat} {a b a2 b2 : Option Addr} {ca cb ca2 cb2 : Nat} (T : TensR w v s L1 n a ca b cb) (T2 : TensR w u s2 L2 n a2 ca2 b2 cb2) (hs : s.length ≤ 17592186044416) (hq : L1.length ≤ 1000000) (hn : n ≤ 1000000) (hlen : s2 = s → L2.length = L1.length) :
    Calls Tryz.prog 23 #[v, u] w fun e w' => TwoR w' e (divC s s2 L2) s (List.zipWith (fun x y => x / y) L1 L2) (3 * n + 5) ∧ Below w.heap.size w w' := by
  unfold divC
  by_cases h : s2 = s
  · rw [if_pos h]
    exact divT_any T T2 hs hq hn h (hlen h)
  · rw [if_neg h]
    exact (divT_bad T T2 hs hq hn h).mono fun e w' ⟨h1, h3⟩ => ⟨⟨_, _, _, _, _, _, h1, fun h => by cases h⟩, h3⟩
end Go.Proofs.YtjcacmnmbbnffaaGreat
