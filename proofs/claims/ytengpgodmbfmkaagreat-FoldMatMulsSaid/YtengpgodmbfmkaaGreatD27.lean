/-
  Part 27 of 30: contracts and what they rest on (MConB, FSumm, FSums).
-/
import Derived.Test.YtengpgodmbfmkaaGreatD25
namespace Go.Proofs.YtengpgodmbfmkaaGreat
set_option linter.unusedVariables false
set_option linter.unusedSimpArgs false
set_option maxRecDepth 100000
set_option maxHeartbeats 40000000
section
open Go.RowKit
theorem joS_len {a : Nat} {xs : List X2} : (joS a xs).length = (firstS xs).length := by unfold joS firstS; rw [List.length_set]
structure Jo (a : Nat) (xs : List X2) : Prop where
 ne : 0 < xs.length
 may : ∀ x ∈ xs, mayT x.s x.q = 0
 ax : a < (firstS xs).length
 same : ∀ x ∈ xs, onesS x.s [(a : Int)] = onesS (firstS xs) [(a : Int)]
 ok : OkS (joS a xs)
theorem Jo.okx {a : Nat} {xs : List X2} (h : Jo a xs) : ∀ x ∈ xs, OkS x.s ∧ a < x.s.length := fun x hx => ⟨mayC_zero.1 (mayT_rank (h.may x hx)), by
 have e := congrArg List.length (h.same x hx)
 rw [ones_len, ones_len] at e
 have := h.ax
 omega⟩
theorem Jo.lays {a : Nat} {xs : List X2} (h : Jo a xs) : ((layL a xs).length : Int) = sumD a xs := layL_len fun x hx => by
 have := (h.okx x hx).1.pos.getD (h.okx x hx).2
 omega
theorem Jo.at {a : Nat} {xs : List X2} (h : Jo a xs) {ys : List Int} (hy : inS (joS a xs) ys) : 0 ≤ ys.getD a 0 ∧ ∃ x k, (layL a xs)[(ys.getD a 0).toNat]? = some (x, k) ∧ x ∈ xs ∧ 0 ≤ k ∧ k < x.s.getD a 0 := by
 have h1 := inS_at hy (i := a) (by rw [joS_len]; exact h.ax)
 have h2 : (joS a xs).getD a 0 = sumD a xs := by
  unfold joS
  exact getD_set_self _ _ _ h.ax
 rw [h2, ← h.lays] at h1
 have hlt : (ys.getD a 0).toNat < (layL a xs).length := by omega
 obtain ⟨⟨x, k⟩, hx⟩ : ∃ y, (layL a xs)[(ys.getD a 0).toNat]? = some y := ⟨_, List.getElem?_eq_getElem hlt⟩
 have hm := layL_mem (List.mem_of_getElem? hx)
 exact ⟨h1.1, x, k, hx, hm.1, hm.2.1, hm.2.2⟩
end
section
open Go.RowKit
theorem RawO.resQ {base n : Nat} {w : World} {v : Value} {q : Q3} (h : RawO base w v q) (hok : okQ q = true) (h1 : q.num.length ≤ n) (h2 : q.den.length ≤ n) : ResQ base w v q.rat n := by
 obtain ⟨ad, bd, ca, cb, rfl, A, B, wa, wb⟩ := h
 unfold okQ validB isB at hok
 simp only [Bool.and_eq_true, decide_eq_true_eq, beq_iff_eq] at hok
 obtain ⟨e1, ⟨f1, v1⟩, f2, v2⟩ := hok
 exact ⟨q.num, q.den, ad, bd, ca, cb, by rw [e1], ⟨A, wa, f1, v1⟩, ⟨B, wb, f2, v2⟩, h1, h2⟩
theorem RowO.resQ {base n : Nat} {w : World} {u : Value} {qs : List Q3} (h : RowO base 54 (RawO base) w u qs) (hok : ∀ q ∈ qs, okQ q = true) (hl : lensQ qs n) : RowO base 54 (fun W v x => ResQ base W v x n) w u (qs.map Q3.rat) := by
 obtain ⟨es, h1, h2⟩ := h
 refine ⟨es, h1, by rw [List.length_map]; exact h2.1, fun i e x he hx => ?_⟩
 rw [List.getElem?_map] at hx
 cases hq : qs[i]? with
 | none => rw [hq] at hx; cases hx
 | some q =>
  rw [hq] at hx
  simp only [Option.map_some, Option.some.injEq] at hx
  subst hx
  have hm := List.mem_of_getElem? hq
  exact (h2.2 i e q he hq).resQ (hok q hm) (hl q hm).1 (hl q hm).2
theorem summed_any (kb : Nat) {n : Nat} {w : World} {v : Value} {s ys : List Int} {qs : List Q3} {a b d : Option Addr} {ca cb cd : Nat} (T : TensQ w v s qs a ca b cb) (h0 : mayT s qs = 0) (hl : lensQ qs n) (D : ArgS w (.slice d ys.length cd) ys d cd) (nd : d = none → cd = 0) (hy : ys.length ≤ 1000000) (hn : (n + 10) * 2 ^ kb ≤ 16000000) (hkb : qs.length ≤ 2 ^ kb) (hn4 : n ≤ 4000000) :
 Calls Tryz.prog 43 #[v, .slice d ys.length cd] w fun e w' => ∃ r, e = .returned r ∧ ResT w.heap.size w' r (dropS s ys) (sumF s ys (qs.map Q3.rat)) ((n + 10) * 2 ^ kb) ∧ Below w.heap.size w w' := by
 obtain ⟨i0, hi, hz0, hz1, hz2⟩ := info_parts infoQ
 have HT := Lib.hid T
 have HD := Lib.hid D
 obtain rfl := T.is
 have okS : OkS s := mayC_zero.1 (mayT_rank h0)
 have okd := drop_ok ys okS
 have hrk := okS.rank
 have hrd := okd.rank
 have hcnt := okS.cnt
 have hcd := okd.cnt
 have hlen : qs.length = cntF s := by have h1 := (mayT_valid h0).1; rw [okS.count] at h1; omega
 have hq4 : qs.length ≤ 1024 := by omega
 have htot : TotQ kb w.heap.size n := totalF_any kb hn
 have HTOT : Hid (TotQ kb w.heap.size n) := @htot
 obtain ⟨W, hW⟩ : ∃ W, ((w.alloc (.cells #[.slice a s.length ca, .slice b qs.length cb] 26)).alloc (.cells #[.slice none 0 0, .slice none 0 0] 26)) = W := ⟨_, rfl⟩
 have R0 : Row W w.heap.size 26 #[.slice a s.length ca, .slice b qs.length cb] := by rw [← hW]; exact (Row.new _ _ _).alloc _
 have R1 : Row W (w.heap.size + 1) 26 #[.slice none 0 0, .slice none 0 0] := by rw [← hW]; have h := (Row.new (w.alloc (.cells #[.slice a s.length ca, .slice b qs.length cb] 26)) 26 #[.slice none 0 0, .slice none 0 0]); simp only [World.size_alloc] at h; exact h
 have hBW : Below w.heap.size w W := by rw [← hW]; exact ((Below.refl _ _).alloc (by simp) _).alloc (by simp) _
 have hsW : w.heap.size + 1 + 1 = W.heap.size := by rw [← hW]; simp
 have hdr := dropC_any (HT.out.sh.later hBW) (D.later hBW) T.nila nd (by omega) (by omega)
 obtain ⟨L, hL⟩ : ∃ L, dropS s ys = L := ⟨_, rfl⟩
 obtain ⟨m, hm⟩ : ∃ m, cntF (dropS s ys) = m := ⟨_, rfl⟩
 rw [hL] at hdr
 rw [hm] at hcd
 have hcn := fun (u : Value) (ad : Option Addr) (cap : Nat) (X : World) (A : ArgS X u L ad cap) => countS_any A (by rw [← hL]; omega)
 rw [show countS L = (m : Int) by rw [← hL, okd.count, ← hm]; exact okd.cnt.1.symm] at hcn
 have HL := Lib.hid hL
 have HM := Lib.hid hm
 have hmk := make_parts m (by omega)
 have hps := fun (X : World) (hX : Below w.heap.size w X) => position_any (HT.out.sh.later hX) HT.out.nila (HD.out.later hX) nd (by omega) hy
 have hcp := fun (X : World) (hX : Below w.heap.size w X) => copyT7_any (HT.out.later hX) (by omega) (by omega) hl hn4
 have HPS := Lib.hid hps
 have HCP := Lib.hid hcp
 have HCN := Lib.hid hcn
 have HOK := Lib.hid (mayT_valid h0).2
 have HLQ := Lib.hid hl
 have HS := Lib.hid okS
 have HLEN := Lib.hid hlen
 have HND := Lib.hid nd
 have HKB := Lib.hid hkb
 have hL4 : L.length ≤ 4 := by rw [← hL]; exact hrd
 have HCNT := Lib.hid hcnt
 have HCD := Lib.hid hcd
 have hm4 : m ≤ 1024 := hcd.2.2
 have hm1 : 1 ≤ m := hcd.2.1
 obtain ⟨p0, p1, _, _⟩ := R0.two
 obtain ⟨BB, hBB⟩ : ∃ BB, (n + 10) * 2 ^ kb = BB := ⟨_, rfl⟩
 rw [hBB]
 have HBB := Lib.hid hBB
 clear T D h0 hL hm hl hps hcp hcn okd hcnt hcd hlen htot hkb hBB hn hrd hrk
 go_enter Tryz.func43, Tryz.ntmps43
 (try rw [hW])
 go_wp2_with fail
 (try rw [hW])
 clear hW
 refine hdr.mono ?_
 rintro e w1 ⟨r1, rfl, RS, hb1⟩
 obtain ⟨e1, k1, rfl, RS', A1, n1⟩ := RS.slice
 have B1 : Below w.heap.size w w1 := hBW.trans (hb1.mono (by omega))
 have HRS := Lib.hid RS'
 have HA1 := Lib.hid A1
 have s1 := B1.size
 have hcn1 := HCN.out _ _ _ _ A1
 obtain ⟨ll, hll⟩ : ∃ n, L.length = n := ⟨_, rfl⟩
 rw [hll] at hcn1 ⊢
 have HLL := Lib.hid hll
 have P1 := R0.later hb1
 obtain ⟨p0', p1', _, _⟩ := P1.two
 have P1r := R1.later hb1
 clear p0 p1 RS RS' A1 hll hdr
 go_wp2_with fail
 refine hcn1.mono ?_
 rintro e w2 ⟨rfl, hb2⟩
 have B2 : Below w.heap.size w w2 := B1.trans (hb2.mono s1)
 have s2 := hb2.size
 obtain ⟨V2, hV2⟩ : ∃ V2, w2.alloc (.cells (madeCells #[.slice none 0 0] m) 24) = V2 := ⟨_, rfl⟩
 have bV2 : Below w2.heap.size w2 V2 := by rw [← hV2]; exact (Below.refl _ _).alloc (Nat.le_refl _) _
 have sV2 : V2.heap.size = w2.heap.size + 1 := by rw [← hV2]; simp
 have PQ0 := fun lo => hV2 ▸ PartsQ.made lo w.heap.size n w2 m
 have BV2 : Below w.heap.size w V2 := B2.trans (bV2.mono B2.size)
 have P2 := (P1.later hb2).later bV2
 obtain ⟨q0, q1, _, _⟩ := P2.two
 have P2r := (P1r.later hb2).later bV2
 clear p0' p1' hcn1
 go_wp2_with fail
 (try rw [hV2])
 refine (HPS.out V2 BV2).mono ?_
 rintro e w3 ⟨g1, g2, g3, d', cd', rfl, PC, hb3⟩
 have B3 : Below w.heap.size w w3 := BV2.trans (hb3.mono BV2.size)
 have s3 := hb3.size
 have P3 := P2.later hb3
 obtain ⟨x0, x1, _, _⟩ := P3.two
 have P3r := P2r.later hb3
 clear q0 q1 hV2
 go_wp2_with fail
 refine (HCP.out w3 B3).mono ?_
 rintro e w4 ⟨r4, rfl, RC, hb4⟩
 obtain ⟨a4, b4, ca4, cb4, rfl, RSc, RWc⟩ := RC
 have RWq := RowO.mono (Q := fun W v x => ResQ w.heap.size W v x n) (RWc.resQ HOK.out HLQ.out) B3.size (fun v x h => h.mono B3.size)
 have B4 : Below w.heap.size w w4 := B3.trans (hb4.mono B3.size)
 have s4 := hb4.size
 have hb14 : Below w1.heap.size w1 w4 := hb2.trans ((bV2.trans ((hb3.mono (by omega)).trans (hb4.mono (by omega)))).mono s2)
 have PQ4 := ((PQ0 w4.heap.size).later hb3).later hb4
 have PC4 := PC.later hb4
 have HPC := Lib.hid PC4
 have HRW := Lib.hid RWq
 have HPQ := Lib.hid PQ4
 have P4r := P3r.later hb4
 have HP4 := Lib.hid P4r
 obtain ⟨G, hG⟩ : ∃ G, w2.heap.size = G := ⟨_, rfl⟩
 rw [hG] at sV2 s2
 have hGb : w.heap.size + 1 + 1 ≤ G := by have := hb1.size; omega
 have HG := Lib.hid hG
 have RG : Row w4 G 24 (List.replicate m (Value.slice none 0 0)).toArray := by rw [← hG]; exact PQ4.row
 have HRG := Lib.hid RG
 (try rw [hG])
 obtain ⟨n4, hn4'⟩ : ∃ n4, qs.length = n4 := ⟨_, rfl⟩
 have HN4 := Lib.hid hn4'
 (try rw [hn4'])
 rw [hn4'] at hq4
 have hfd := fun (w : World) => field_elems a4 s.length ca4 b4 n4 cb4 w
 clear x0 x1 RSc RWc RWq PQ4 PQ0 PC PC4 P1 P1r P2 P2r P3 P3r P4r R0 R1 RG hG hmk hn4'
 go_wp2_with fail
 go_loopw [29] (fun i wr => ∃ (k : Nat) (vs : List Value), i = .int .i64 (k : Int) ∧ k ≤ n4 ∧ PartsQ w4.heap.size w.heap.size n G wr vs (partsL (toF s ys) (qs.map Q3.rat) m k) ∧ Kept G w4 wr) (fun i _ => n4 - (intOf i).toNat)
 case atStart => exact ⟨0, _, rfl, Nat.zero_le _, by rw [partsL_zero, ← HG.out]; exact HPQ.out, Kept.refl _ _⟩
 case round =>
  obtain ⟨k, vs, rfl, hk, pq, kp⟩ := hrel
  have bw : Below w.heap.size w wr := Kept.under kp B4 B4.size (by omega)
  have sw := kp.size
  have RGr : Row wr G 24 vs.toArray := pq.row
  have HPq := Lib.hid pq
  have HKp := Lib.hid kp
  by_cases hlt : k < n4
  · have rwq := HRW.out.keptT HRG.out (by decide) kp (fun v x h => ResQ.keptT h HRG.out (by decide) kp)
    have pcr := HPC.out.kept HRG.out (by decide) kp (by omega)
    have hkm : k < (qs.map Q3.rat).length := by rw [List.length_map, HN4.out]; exact hlt
    obtain ⟨bb, o, y0, y1, y2, q, hbo, hqk, f0, f1, f2, hq⟩ := rwq.at_.2.1.at hkm
    subst hbo
    have HQ := Lib.hid hq
    have HQK := Lib.hid hqk
    obtain ⟨m5, u1, l1, j1, u2, l2, j2, e0⟩ := hq.shape
    simp only [Value.agg.injEq, Array.mk.injEq, List.cons.injEq, and_true] at e0
    obtain ⟨rfl, rfl, rfl⟩ := e0
    obtain ⟨X, hX⟩ : ∃ X, wr.alloc (.cells #[.bool m5, .slice u1 l1 j1, .slice u2 l2 j2] 54) = X := ⟨_, rfl⟩
    have RX : Row X wr.heap.size 54 #[.bool m5, .slice u1 l1 j1, .slice u2 l2 j2] := by rw [← hX]; exact Row.new _ _ _
    have bX : Below wr.heap.size wr X := by rw [← hX]; exact (Below.refl _ _).alloc (Nat.le_refl _) _
    have bwX : Below w.heap.size w X := bw.trans (bX.mono bw.size)
    have pcX := pcr.later bX
    have AX := HT.out.sh.later bwX
    have DX := HD.out.later bwX
    obtain ⟨_, _, hto⟩ := toF_in ys HS.out (p := k) (by rw [← HLEN.out, HN4.out]; exact hlt)
    rw [HM.out] at hto
    obtain ⟨hdl, hda, hdn⟩ := pcX.res.at_
    have hcl := position1_any (n := k) (pcX.r1.cell 0) (pcX.r2.cell 0) (pcX.r3.cell 0) AX HT.out.nila hda hdn DX HND.out HS.out (by rw [← HLEN.out, HN4.out]; exact hlt) hy
    obtain ⟨j, hj⟩ : ∃ j, toF s ys k = j := ⟨_, rfl⟩
    rw [hj] at hcl hto
    have HJ := Lib.hid hj
    have hltI : (k : Int) < (n4 : Int) := by omega
    obtain ⟨d0, d1, d2, _, _, _⟩ := RX.three
    clear rwq pcr hkm hqk hq pcX AX DX hda hdn hj pq kp
    go_wp2_with fail
    (try rw [hX])
    refine hcl.mono ?_
    rintro e w5 ⟨rfl, hb5⟩
    have PX := (HPq.out.later bX).later hb5
    have RX5 := RX.later hb5
    have kp5 : Kept G w4 w5 := (HKp.out.below bX).below hb5
    have b5w : Below wr.heap.size wr w5 := bX.trans (hb5.mono bX.size)
    have bw5 : Below w.heap.size w w5 := bw.trans (b5w.mono bw.size)
    have Q5 := HQ.out.later b5w
    have HQ5 := Lib.hid Q5
    obtain ⟨v0, l0, hv0, hl0, c0, ⟨es, hown, hall⟩⟩ := PX.at (i := j) (by rw [partsL_len]; exact hto)
    obtain ⟨vb, vc, rfl⟩ := ownT_slice hown
    have s5 : w4.heap.size ≤ w5.heap.size := kp5.size
    obtain ⟨r, hrv, hrb, hrne, hrA⟩ := hown.hits10 s5
    have nG := hrne _ _ _ PX.row (by decide)
    have np := hrA wr.heap.size RX5.lt (fun e => by
     have := (hown.lt _ e).2
     obtain ⟨v0', l0', hv0', hl0', c0', ⟨es', hown', _⟩⟩ := HPq.out.at (i := j) (by rw [partsL_len]; exact hto)
     rw [hv0] at hv0'
     cases hv0'
     have := (hown'.lt _ e).2
     omega)
    obtain ⟨d3, d4, d5, _, _, _⟩ := RX5.three
    have HPX := Lib.hid PX
    have HV0 := Lib.hid hv0
    have HL0 := Lib.hid hl0
    have hjI : (j : Int) < (m : Int) := by omega
    have hj0 : (0 : Int) ≤ (j : Int) := by omega
    have fG := PX.row.free j
    have hle : es.length ≤ 1024 := by
     have h := hall.1
     rw [partsL_at _ _ _ _ hto] at hl0
     cases hl0
     have := partL_len (toF s ys) (qs.map Q3.rat) j k
     omega
    have HALL := Lib.hid hall
    have HOWN := Lib.hid hown
    have mkA : ∀ Y, Kept r w5 Y → Y.cell? ⟨G, j, none⟩ = some (.slice vb es.length vc) ∧ Y.cell? ⟨wr.heap.size, 0, none⟩ = some (.bool m5) ∧ Y.cell? ⟨wr.heap.size, 1, none⟩ = some (.slice u1 l1 j1) ∧ Y.cell? ⟨wr.heap.size, 2, none⟩ = some (.slice u2 l2 j2) ∧ Kept r w5 Y := fun Y h => ⟨h.cell c0 (Ne.symm (Ne.symm nG)), h.cell d3 np, h.cell d4 np, h.cell d5 np, h⟩
    have k0 : Kept r w5 w5.drew := (Kept.refl r w5).drew
    clear d0 d1 d2 hcl hv0 hl0 PX hall hown Q5 hX
    go_wp2_with fail
    refine wp_region_L (S := fun Y => Y.cell? ⟨G, j, none⟩ = some (.slice vb es.length vc) ∧ Y.cell? ⟨wr.heap.size, 0, none⟩ = some (.bool m5) ∧ Y.cell? ⟨wr.heap.size, 1, none⟩ = some (.slice u1 l1 j1) ∧ Y.cell? ⟨wr.heap.size, 2, none⟩ = some (.slice u2 l2 j2) ∧ Kept r w5 Y) (z := 10) (by kernel_rfl) (mkA _ k0) (fun hHeld => ?_)
    refine todo [0, 1, 2, 3, 4, 5, 6] ?_
    iterate 7
     refine todoL (v := ?_) rfl (by kernel_rfl) (fun _ _ _ h => h) (by assumption) (Or.inl ⟨by rfl, ?_⟩) ?_
     rotate_left
     · intro w hSw; (try dsimp only at hSw); go_simp; (try with_reducible rfl)
     try simp only [Act.put, nA, nB, nC, nD, nE, nF]
    refine todone ?_
    have b5d : Below w5.heap.size w5 w5.drew := (Below.refl _ w5).drew
    refine wpAnyL_one (i := 7) (by kernel_rfl) rfl (fun K hK => ?sbs_7)
    go_simp
    refine hK.out _ _ (fun _ => mkA _ (k0.alloc _)) (fun hHeld2 => ?mbs_7)
    clear hK K hHeld
    have hHeld := hHeld2 (by decide)
    clear hHeld2
    try simp only [Act.put, nA, nB, nC, nD, nE, nF]
    refine wpAnyL_one (i := 8) (by kernel_rfl) rfl (fun K hK => ?sbs_8)
    refine step_append_lies _ rfl _ _ 24 rfl w4.heap.size 54 i0 _ 3 56 Tryz.underlying24 hi hz0 hz1 hz2 rfl (by decide) _ es.length (flat3 es) rfl ((HOWN.out.later b5d).later ((Below.refl _ _).alloc (Nat.le_refl _) _)) ⟨w5.drew.heap.size, 0, none⟩ 1 1 [.bool m5, .slice u1 l1 j1, .slice u2 l2 j2] rfl rfl (cell_three_new _ _ _ _ _) (by simp [Value.oneCell']) (by omega) (by unfold maxLen; omega) (by omega) (by simp; omega) _ rfl ?_
    intro g cp w7 hown' hgrow hg' hlt'
    have hk7 : Kept r w5 w7 := (k0.alloc _).grown hgrow hrv
    refine hK.out _ _ (fun _ => mkA _ hk7) (fun hHeld2 => ?mbs_8)
    clear hK K hHeld
    have hHeld := hHeld2 (by decide)
    clear hHeld2
    try simp only [Act.put, nA, nB, nC, nD, nE, nF]
    refine todo [9] ?_
    iterate 1
     refine todoL (v := ?_) rfl (by kernel_rfl) (fun _ _ _ h => h) (by assumption) (Or.inl ⟨by rfl, ?_⟩) ?_
     rotate_left
     · intro w hSw; (try dsimp only at hSw); go_simp; (try with_reducible rfl)
     try simp only [Act.put, nA, nB, nC, nD, nE, nF]
    refine todone ?_
    have fG7 : w7.frozen? ⟨G, j, none⟩ = false := (Row.kept HPX.out.row hk7 nG).free j
    have cG7 := (mkA _ hk7).1
    refine wpAnyL_one (i := 10) (by kernel_rfl) rfl (fun K hK => ?sbs_10)
    go_simp
    refine hK.out _ _ (fun h => absurd rfl h) (fun _ => ?mbs_10)
    clear hK K
    try simp only [Act.put, nA, nB, nC, nD, nE, nF]
    refine wpAnyL_done (by kernel_rfl) ?_ _
    go_wp2
    go_roundw
    case rel =>
     have hRG7 : Row w7 G 24 vs.toArray := Row.kept HPX.out.row hk7 nG
     have pq7 := PartsQ.push (e := ⟨.bool m5, .slice u1 l1 j1, .slice u2 l2 j2⟩) (o := .cells #[.bool m5, .slice u1 l1 j1, .slice u2 l2 j2] 54) (X := w5.drew) (HPX.out.later b5d) HV0.out HL0.out (HOWN.out.later b5d) (HALL.out.imp fun u x _ h => h.later b5d) (HQ5.out.later b5d) (by show w4.heap.size ≤ w5.heap.size; exact s5) (by omega) hown' hgrow hg'
     have kp7 : Kept G w4 w7 := Kept.grew (o := .cells #[.bool m5, .slice u1 l1 j1, .slice u2 l2 j2] 54) (kp5.below b5d) hgrow (fun k' e => (HOWN.out.lt k' e).1)
     refine ⟨k + 1, vs.set j (.slice (some ⟨g, 0, none⟩) (es.length + 1) cp), by go_num, by omega, ?_, kp7.set _ _⟩
     have e1 : l0 = partL (toF s ys) (qs.map Q3.rat) j k := by
      have h := HL0.out
      rw [partsL_at _ _ _ _ hto] at h
      exact (Option.some.inj h).symm
     rw [partsL_next _ _ _ _ HQK.out (by rw [HJ.out]; exact hto), HJ.out, ← e1]
     exact pq7
    case measure => simp [intOf]; omega
  · obtain rfl : k = n4 := by omega
    have hltI : ¬ (k : Int) < (k : Int) := by omega
    rename World => w6
    obtain ⟨LP, hLP⟩ : ∃ LP, partsL (toF s ys) (qs.map Q3.rat) m k = LP := ⟨_, rfl⟩
    have HLP := Lib.hid hLP
    have HPL : Hid (LP.length = m) := Lib.hid (by rw [← hLP]; exact partsL_len _ _ _ _)
    have HP6 : Hid (PartsQ w4.heap.size w.heap.size n G w6 vs LP) := Lib.hid (by rw [← hLP]; exact HPq.out)
    have hbw1 : Below w1.heap.size w1 w6 := Kept.under kp hb14 (by omega) (by omega)
    have HR6 := Lib.hid (HP4.out.kept kp (show w.heap.size + 1 ≠ G by omega))
    have hmk2 := make_rowP m (by omega)
    obtain ⟨V, hV⟩ : ∃ V, w6.alloc (.cells (madeCells #[.bool false, .slice none 0 0, .slice none 0 0] (m * 3)) 54) = V := ⟨_, rfl⟩
    have hown0 : OwnE w6.heap.size 54 V (.slice (some ⟨w6.heap.size, 0, none⟩) 0 m) [] := by
     rw [← hV]
     exact World.ownsRow_made w6 _ m (Nat.le_refl _) (by unfold maxLen; omega) (madeP_len _ _)
    have bV : Below w6.heap.size w6 V := by rw [← hV]; exact (Below.refl _ _).alloc (Nat.le_refl _) _
    have HO0 := Lib.hid hown0
    have HBV := Lib.hid bV
    clear hLP pq kp HPq RGr hown0 bV hlt
    go_wp2_with fail
    (try rw [hV])
    clear hV hmk2
    go_loopw [11, 53] (fun v i wr => ∃ (q : Nat), i = .int .i64 (q : Int) ∧ q ≤ m ∧ RowO w6.heap.size 54 (fun W v x => ResQ w.heap.size W v x BB) wr v ((List.range q).map fun i => totL (LP.getD i [])) ∧ Below w6.heap.size w6 wr) (fun _ i _ => m - (intOf i).toNat)
    case atStart => exact ⟨0, rfl, Nat.zero_le _, ⟨[], HO0.out, AllE.nil _⟩, HBV.out⟩
    case round =>
     obtain ⟨q, rfl, hq, ⟨es, hown, hall⟩, hb⟩ := hrel
     obtain ⟨av, cv, rfl⟩ := ownT_slice hown
     have hsz := hb.size
     have bwr : Below w.heap.size w wr := bw.trans (hb.mono bw.size)
     have hle : es.length = q := by rw [hall.1]; simp
     subst hle
     by_cases hlt : es.length < m
     · have pr := HP6.out.later hb
       obtain ⟨v0, l0, hv0, hl0, c0, RO⟩ := pr.at (i := es.length) (by rw [HPL.out]; exact hlt)
       obtain ⟨ez, hz⟩ := RO.arg
       obtain ⟨ec, hE, hnil, hcm⟩ := hz
       obtain rfl := hE.is
       have hl1 : l0 = partL (toF s ys) (qs.map Q3.rat) es.length k := by
        have h := hl0
        rw [← HLP.out, partsL_at _ _ _ _ hlt] at h
        exact (Option.some.inj h).symm
       have hg1 : 1 ≤ l0.length := by
        obtain ⟨p, hp, hpe⟩ := toF_onto ys HS.out (i := es.length) (by rw [HM.out]; exact hlt)
        rw [hl1]
        exact partL_ne _ (p := p) (by rw [← HN4.out, HLEN.out]; exact hp) hpe
       have hg2 : l0.length ≤ 2 ^ kb := Nat.le_trans (by rw [hl1]; exact partL_len _ _ _ _) (by rw [← HN4.out]; exact HKB.out)
       have hcall := HTOT.out hE hg1 hg2 bwr.size
       rw [HBB.out] at hcall
       have HL0 := Lib.hid hl0
       have hltI : (es.length : Int) < (m : Int) := by omega
       clear hg1 hg2 hl1 hl0 hE RO pr hv0
       go_wp2_with fail
       refine hcall.mono ?_
       rintro e w7 ⟨rv, rfl, qv, hb7⟩
       have Q7 := Lib.hid (qv.more (show BB - 10 ≤ BB by omega))
       obtain ⟨m5, f1, l1, i1, f2, l2, i2, rfl⟩ := qv.shape
       clear qv
       have hown7 : OwnE w6.heap.size 54 w7 (.slice av es.length cv) es := hown.later hb7
       have hall7 : AllE (fun v x => ResQ w.heap.size w7 v x BB) es ((List.range es.length).map fun i => totL (LP.getD i [])) := hall.imp fun u x _ h => h.later hb7
       have hB7 : Below w6.heap.size w6 w7 := hb.trans (hb7.mono hsz)
       have hsz7 := hB7.size
       have HALL := Lib.hid hall7
       clear hall hall7 hown hcall
       go_wp2_with (at_builtin; refine wpList_append_own _ rfl _ _ 24 rfl w6.heap.size 54 i0 _ 3 56 Tryz.underlying24 hi hz0 hz1 hz2 rfl (by decide) _ es.length (flat3 es) rfl (hown7.later ((Below.refl _ _).alloc (Nat.le_refl _) _)) ⟨w7.heap.size, 0, none⟩ 1 1 [.bool m5, .slice f1 l1 i1, .slice f2 l2 i2] rfl rfl (cell_three_new _ _ _ _ _) (by simp [Value.oneCell']) (by unfold maxLen; omega) (by omega) (by simp; omega) ?_)
       intro v' w8 hown' hgrow _
       obtain ⟨av', cv', rfl⟩ := ownT_slice hown'
       go_wp2
       go_roundw
       case rel =>
        obtain ⟨hrow8, hb8⟩ := pushE (P := fun W v x => ResQ w.heap.size W v x BB) (e := ⟨.bool m5, .slice f1 l1 i1, .slice f2 l2 i2⟩) hB7 hsz7 hown7 HALL.out Q7.out (fun u y h => ResQ.apart hown7 hgrow (by decide) h) hown' hgrow
        refine ⟨es.length + 1, by go_num, by omega, ?_, hb8⟩
        rw [List.range_succ, List.map_append, List.map_cons, List.map_nil, show LP.getD es.length [] = l0 from by rw [List.getD_eq_getElem?_getD, HL0.out]; rfl]
        exact hrow8
       case measure => simp [intOf]; omega
     · have hkl : es.length = m := by omega
       have hltI : ¬ (es.length : Int) < (m : Int) := by omega
       have hsum : ((List.range es.length).map fun i => totL (LP.getD i [])) = sumF s ys (qs.map Q3.rat) := by
        unfold sumF gathL
        rw [hkl, HM.out, ← HLEN.out, HN4.out]
        refine List.map_congr_left fun i hi => ?_
        have h := partsL_at (toF s ys) (qs.map Q3.rat) m k (i := i) (List.mem_range.1 hi)
        rw [HLP.out] at h
        rw [List.getD_eq_getElem?_getD, h]
        rfl
       have hrow : RowO w.heap.size 54 (fun W v x => ResQ w.heap.size W v x BB) wr (.slice av es.length cv) (sumF s ys (qs.map Q3.rat)) := ⟨es, hown.mono bw.size, by rw [← hsum]; exact hall⟩
       have hw1r : Below w1.heap.size w1 wr := hbw1.trans (hb.mono hbw1.size)
       have hR : ResT w.heap.size wr (.agg #[.slice e1 ll k1, .slice av es.length cv]) (dropS s ys) (sumF s ys (qs.map Q3.rat)) BB := ⟨e1, av, k1, cv, by rw [HL.out, HLL.out, sumF_len, HM.out, hkl], by rw [HL.out]; exact (HRS.out.later hw1r).mono (show w.heap.size ≤ W.heap.size by omega), by rw [sumF_len, HM.out, ← hkl]; exact hrow⟩
       have HR := Lib.hid hR
       have PR := HR6.out.later hb
       obtain ⟨u0, u1, g0, g1'⟩ := PR.two
       have HPR := Lib.hid PR
       clear hown hall hrow hR hsum hkl PR
       go_wp2_with fail
       have P8 := HPR.out.set2 (.slice e1 ll k1) (.slice av es.length cv)
       obtain ⟨z0, z1, _, _⟩ := P8.two
       refine bodyPost_ret (v := .agg #[.slice e1 ll k1, .slice av es.length cv]) (by simp [results, Tryz.results43, go_sem, z0, z1]) rfl ⟨_, rfl, HR.out.far HPR.out (by decide) (by decide) (by decide) (kept2 _ _), below_set2 bwr (by omega) _ _⟩
end
section
open Go.RowKit
theorem sumF_any (kb : Nat) {n : Nat} {w : World} {v : Value} {s ys : List Int} {qs : List Q3} {a b d : Option Addr} {ca cb cd : Nat} (T : TensQ w v s qs a ca b cb) (hs : s.length ≤ 17592186044416) (hl : lensQ qs n) (D : ArgS w (.slice d ys.length cd) ys d cd) (nd : d = none → cd = 0) (hy : ys.length ≤ 1000000) (hn : (n + 10) * 2 ^ kb ≤ 16000000) (hkb : qs.length ≤ 2 ^ kb) (hq : qs.length ≤ 1000000) (hn4 : n ≤ 4000000) :
 Calls Tryz.prog 13 #[v, .slice d ys.length cd] w fun e w' => One w.heap.size w' e (orL [mayT s qs, axC ys (s.length : Int)]) (dropS s ys) (sumF s ys (qs.map Q3.rat)) ((n + 10) * 2 ^ kb) ∧ Below w.heap.size w w' := by
 have HT := Lib.hid T
 have HD := Lib.hid D
 have HL := Lib.hid hl
 obtain rfl := T.is
 obtain ⟨W, hW⟩ : ∃ W, ((w.alloc (.cells #[.slice a s.length ca, .slice b qs.length cb] 26)).alloc (.cells #[.slice none 0 0, .slice none 0 0] 26)) = W := ⟨_, rfl⟩
 have R0 : Row W (w.heap.size) 26 #[.slice a s.length ca, .slice b qs.length cb] := by rw [← hW]; have h := Row.new w 26 #[.slice a s.length ca, .slice b qs.length cb]; (try simp only [World.size_alloc] at h); exact (h.alloc _)
 have R1 : Row W (w.heap.size + 1) 26 #[.slice none 0 0, .slice none 0 0] := by rw [← hW]; have h := Row.new (w.alloc (.cells #[.slice a s.length ca, .slice b qs.length cb] 26)) 26 #[.slice none 0 0, .slice none 0 0]; (try simp only [World.size_alloc] at h); exact h
 have hBW : Below w.heap.size w W := by rw [← hW]; exact (((Below.refl _ _).alloc (by (try simp) <;> omega) _).alloc (by (try simp) <;> omega) _)
 have hsW : W.heap.size = w.heap.size + 1 + 1 := by rw [← hW]; simp
 have hm := fun (X : World) (hX : Below W.heap.size W X) => mayT7_big (HT.out.later (hBW.trans (hX.mono (by omega)))) (by omega) HL.out (by omega)
 have hp := fun (X : World) (hX : Below W.heap.size W X) => mayAxes_any (s.length : Int) (HD.out.later (hBW.trans (hX.mono (by omega)))) (by omega) (by omega) (by omega)
 obtain ⟨m, hmm⟩ : ∃ m, mayT s qs = m := ⟨_, rfl⟩
 obtain ⟨p, hpp⟩ : ∃ p, axC ys (s.length : Int) = p := ⟨_, rfl⟩
 rw [hmm] at hm
 rw [hpp] at hp
 have hsum := fun (X : World) (hX : Below w.heap.size w X) (h0 : m = 0) => summed_any kb (HT.out.later hX) (hmm.trans h0) HL.out (HD.out.later hX) nd hy hn hkb hn4
 obtain ⟨BB, hBB⟩ : ∃ BB, (n + 10) * 2 ^ kb = BB := ⟨_, rfl⟩
 rw [hBB] at hsum
 obtain ⟨L, hL⟩ : ∃ L, sumF s ys (qs.map Q3.rat) = L := ⟨_, rfl⟩
 obtain ⟨t, ht⟩ : ∃ t, dropS s ys = t := ⟨_, rfl⟩
 rw [hL, ht] at hsum
 rw [hmm, hpp, hL, hBB, ht]
 obtain ⟨c, hc⟩ : ∃ c, orL [m, p] = c := ⟨_, rfl⟩
 have HC := Lib.hid hc
 have HSUM := Lib.hid hsum
 rw [hc]
 obtain ⟨yl, hyl⟩ : ∃ n, ys.length = n := ⟨_, rfl⟩
 have HYL := Lib.hid hyl
 have mkS : ∀ X, Below W.heap.size W X → X.cell? ⟨w.heap.size, 0, none⟩ = some (.slice a s.length ca) ∧ X.cell? ⟨w.heap.size, 1, none⟩ = some (.slice b qs.length cb) ∧ Below W.heap.size W X := fun X h => by
  obtain ⟨x0, x1, _⟩ := (R0.later h).two
  exact ⟨x0, x1, h⟩
 have B0 : Below W.heap.size W W.drew := (Below.refl _ W).drew
 rw [hyl] at hp ⊢
 rw [hyl] at hsum
 have HSUM2 := Lib.hid hsum
 clear T D hmm hpp hL hc hl ht hBB hn hkb hyl hsum
 go_enter Tryz.func13, Tryz.ntmps13
 go_wp2_with fail
 (try rw [hW])
 clear hW
 refine wp_region_held (S := fun X => X.cell? ⟨w.heap.size, 0, none⟩ = some (.slice a s.length ca) ∧ X.cell? ⟨w.heap.size, 1, none⟩ = some (.slice b qs.length cb) ∧ Below W.heap.size W X) (by kernel_rfl) ?_
 have hHeld := mkS _ B0
 refine todo [0, 2, 3, 4, 5] ?_
 iterate 5
  refine todoH (v := ?_) rfl (by kernel_rfl) (fun _ _ _ h => h) (by assumption) (Or.inl ⟨by rfl, ?_⟩) ?_
  rotate_left
  · intro w hSw; (try dsimp only at hSw); go_simp; (try with_reducible rfl)
  try simp only [Act.put, nA, nB, nC, nD, nE, nF]
 refine todone ?_
 refine wpAnyH_ready (rs := [1]) (by kernel_rfl) (by simp) ?_
 refine AllReadyH.cons rfl (fun K hK => ?sh_1) AllReadyH.nil
 go_simp
 refine (hm _ B0).mono ?_
 rintro e y1 ⟨rfl, hy⟩
 have B1 : Below W.heap.size W y1 := B0.trans (hy.mono B0.size)
 have Dh1 := hy
 clear hy
 go_simp
 refine hK.out _ _ (mkS _ B1) (fun hHeld2 => ?mh_1)
 clear hK K hHeld
 have hHeld := hHeld2
 clear hHeld2
 try simp only [Act.put, nA, nB, nC, nD, nE, nF]
 refine wpAnyH_ready (rs := [6]) (by kernel_rfl) (by simp) ?_
 refine AllReadyH.cons rfl (fun K hK => ?sh_6) AllReadyH.nil
 go_simp
 refine (hp _ B1).mono ?_
 rintro e yy ⟨rfl, rfl⟩
 go_simp
 refine hK.out _ _ (mkS _ B1) (fun hHeld2 => ?mh_6)
 clear hK K hHeld
 have hHeld := hHeld2
 clear hHeld2
 try simp only [Act.put, nA, nB, nC, nD, nE, nF]
 obtain ⟨y2, hh2⟩ : ∃ Y, y1.alloc (.cells #[.int .i64 m, .int .i64 p] 29) = Y := ⟨_, rfl⟩
 have B2 : Below W.heap.size W y2 := by rw [← hh2]; exact B1.alloc B1.size _
 have Rh2 : Row y2 y1.heap.size 29 #[.int .i64 m, .int .i64 p] := by rw [← hh2]; exact Row.new _ _ _
 refine wpAnyH_ready (rs := [7]) (by kernel_rfl) (by simp) ?_
 refine AllReadyH.cons rfl (fun K hK => ?sh_7) AllReadyH.nil
 go_simp
 (try rw [hh2])
 clear hh2
 refine hK.out _ _ (mkS _ B2) (fun hHeld2 => ?mh_7)
 clear hK K hHeld
 have hHeld := hHeld2
 clear hHeld2
 try simp only [Act.put, nA, nB, nC, nD, nE, nF]
 refine wpAnyH_ready (rs := [8]) (by kernel_rfl) (by simp) ?_
 refine AllReadyH.cons rfl (fun K hK => ?sh_8) AllReadyH.nil
 go_simp
 refine (or_any (xs := [m, p]) (b := y1.heap.size) (fun k hk => by
  simp only [List.length_cons, List.length_nil] at hk
  by_cases h0 : k = 0
  · subst h0; exact Rh2.cell 0
  by_cases h1 : k = 1
  · subst h1; exact Rh2.cell 1
  omega) (by simp)).mono ?_
 rintro e yy ⟨rfl, rfl⟩
 go_simp
 rw [HC.out]
 refine hK.out _ _ (mkS _ B2) (fun hHeld2 => ?mh_8)
 clear hK K hHeld
 have hHeld := hHeld2
 clear hHeld2
 try simp only [Act.put, nA, nB, nC, nD, nE, nF]
 refine todo [9] ?_
 iterate 1
  refine todoH (v := ?_) rfl (by kernel_rfl) (fun _ _ _ h => h) (by assumption) (Or.inl ⟨by rfl, ?_⟩) ?_
  rotate_left
  · intro w hSw; (try dsimp only at hSw); go_simp; (try with_reducible rfl)
  try simp only [Act.put, nA, nB, nC, nD, nE, nF]
 refine todone ?_
 refine wpAnyH_done (by kernel_rfl) ?_ _
 (try dsimp only [Straight])
 have P1 := R1.later B2
 obtain ⟨x0, x1, _⟩ := mkS _ B2
 have s2 := B2.size
 have hB2 : Below w.heap.size w y2 := hBW.trans (B2.mono (by omega))
 by_cases h0 : c = 0
 · subst h0
   obtain ⟨hm0, hp0⟩ := orL_zero HC.out
   have hea := HSUM2.out y2 hB2 hm0
   have HEA := Lib.hid hea
   clear hea hm0 hp0 mkS
   go_wp2_with fail
   refine HEA.out.mono ?_
   rintro e w2 ⟨r, rfl, hT, hb2⟩
   obtain ⟨a', b', ca', cb', rfl, RS, RO⟩ := hT
   have P2 := P1.later hb2
   have s3 := hb2.size
   obtain ⟨u0, u1, g0, g1⟩ := P2.two
   have HR := Lib.hid RS
   have HO := Lib.hid RO
   clear RS RO
   obtain ⟨l, hl⟩ : ∃ l, L.length = l := ⟨_, rfl⟩
   obtain ⟨l2, hl2⟩ : ∃ l, t.length = l := ⟨_, rfl⟩
   have HL2 := Lib.hid hl
   have HL3 := Lib.hid hl2
   rw [hl, hl2]
   clear hl hl2
   go_wp2_with fail
   have P3 := P2.set2 (.slice a' l2 ca') (.slice b' l cb')
   obtain ⟨z0, z1, _, _⟩ := P3.two
   refine bodyPost_ret (v := .tuple #[.agg #[.slice a' l2 ca', .slice b' l cb'], .int .i64 0]) (by simp [results, Tryz.results13, go_sem, z0, z1]) rfl ⟨.inl ⟨rfl, _, rfl, ?_⟩, below_set2 (hB2.trans (hb2.mono (by omega))) (by omega) _ _⟩
   have hR : ResT w.heap.size w2 (.agg #[.slice a' l2 ca', .slice b' l cb']) t L BB := ResT.mono ⟨a', b', ca', cb', by rw [HL2.out, HL3.out], HR.out, HO.out⟩ hB2.size
   exact hR.far P2 (by decide) (by decide) (by decide) (kept2 _ _)
 · have hne : (c != 0) = true := by simp [h0]
   have H0 := Lib.hid h0
   obtain ⟨u0, u1, g0, g1⟩ := P1.two
   clear h0 mkS
   go_wp2_with fail
   have P3 := P1.set2 (.slice none 0 0) (.slice none 0 0)
   obtain ⟨z0, z1, _, _⟩ := P3.two
   refine bodyPost_ret (v := .tuple #[noTensor, .int .i64 c]) (by simp [results, Tryz.results13, go_sem, z0, z1, noTensor]) rfl ⟨.inr ⟨H0.out, rfl⟩, below_set2 hB2 (by omega) _ _⟩
def frX (k : Int) : Rat := ratOf (decide ((1 : Int) < 0) != decide (k < 0)) (((1 : Int).natAbs : Nat) : Int) ((k.natAbs : Nat) : Int)
def perF (s ys : List Int) : Nat := cntF s / cntF (dropS s ys)
def meanF (s ys : List Int) (L : List Rat) : List Rat := (sumF s ys L).map fun x => x * frX (perF s ys : Int)
theorem One.zero {base N : Nat} {w : World} {e : Ending} {s : List Int} {L : List Rat} (h : One base w e 0 s L N) : ∃ r, e = .returned (.tuple #[r, .int .i64 0]) ∧ ResT base w r s L N := by
 rcases h with ⟨_, r, h1, h2⟩ | ⟨h, _⟩
 · exact ⟨r, h1, h2⟩
 · exact absurd rfl h
theorem meanF_any (kb : Nat) {n : Nat} {w : World} {v : Value} {s ys : List Int} {qs : List Q3} {a b d : Option Addr} {ca cb cd : Nat} (T : TensQ w v s qs a ca b cb) (hs : s.length ≤ 17592186044416) (hl : lensQ qs n) (D : ArgS w (.slice d ys.length cd) ys d cd) (nd : d = none → cd = 0) (hy : ys.length ≤ 1000000) (hn : (n + 10) * 2 ^ kb ≤ 900000) (hkb : qs.length ≤ 2 ^ kb) (hq : qs.length ≤ 1000000) (hn4 : n ≤ 4000000) :
 Calls Tryz.prog 14 #[v, .slice d ys.length cd] w fun e w' => One w.heap.size w' e (orL [mayT s qs, axC ys (s.length : Int)]) (dropS s ys) (meanF s ys (qs.map Q3.rat)) (2 * ((n + 10) * 2 ^ kb + 4 + 2) + 4) ∧ Below w.heap.size w w' := by
 have HT := Lib.hid T
 have HD := Lib.hid D
 obtain rfl := T.is
 obtain ⟨W, hW⟩ : ∃ W, ((w.alloc (.cells #[.slice a s.length ca, .slice b qs.length cb] 26)).alloc (.cells #[.slice none 0 0, .slice none 0 0] 26)) = W := ⟨_, rfl⟩
 have R0 : Row W (w.heap.size) 26 #[.slice a s.length ca, .slice b qs.length cb] := by rw [← hW]; have h := Row.new w 26 #[.slice a s.length ca, .slice b qs.length cb]; (try simp only [World.size_alloc] at h); exact (h.alloc _)
 have R1 : Row W (w.heap.size + 1) 26 #[.slice none 0 0, .slice none 0 0] := by rw [← hW]; have h := Row.new (w.alloc (.cells #[.slice a s.length ca, .slice b qs.length cb] 26)) 26 #[.slice none 0 0, .slice none 0 0]; (try simp only [World.size_alloc] at h); exact h
 have hBW : Below w.heap.size w W := by rw [← hW]; exact (((Below.refl _ _).alloc (by (try simp) <;> omega) _).alloc (by (try simp) <;> omega) _)
 have hsW : W.heap.size = w.heap.size + 1 + 1 := by rw [← hW]; simp
 have hsum := sumF_any kb (HT.out.later hBW) hs hl (HD.out.later hBW) nd hy (Nat.le_trans hn (by omega)) hkb hq hn4
 have hgood : orL [mayT s qs, axC ys (s.length : Int)] = 0 → OkS s ∧ qs.length = cntF s := fun h => by
  obtain ⟨h1, _⟩ := orL_zero h
  have ok := mayC_zero.1 (mayT_rank h1)
  have h3 := (mayT_valid h1).1
  rw [ok.count] at h3
  have := ok.cnt
  exact ⟨ok, by omega⟩
 obtain ⟨c, hc⟩ : ∃ c, orL [mayT s qs, axC ys (s.length : Int)] = c := ⟨_, rfl⟩
 rw [hc] at hsum hgood ⊢
 obtain ⟨BB, hBB⟩ : ∃ BB, (n + 10) * 2 ^ kb = BB := ⟨_, rfl⟩
 rw [hBB] at hsum hn ⊢
 obtain ⟨yl, hyl⟩ : ∃ n, ys.length = n := ⟨_, rfl⟩
 rw [hyl] at hsum ⊢
 have HG := Lib.hid hgood
 have HR1 := Lib.hid R1
 have HR0 := Lib.hid R0
 obtain ⟨p0, p1, _, _⟩ := R0.two
 have HNL := Lib.hid hl
 obtain ⟨L, hL⟩ : ∃ L, sumF s ys (qs.map Q3.rat) = L := ⟨_, rfl⟩
 obtain ⟨ML, hML⟩ : ∃ L, meanF s ys (qs.map Q3.rat) = L := ⟨_, rfl⟩
 obtain ⟨t, ht⟩ : ∃ t, dropS s ys = t := ⟨_, rfl⟩
 rw [hL, ht] at hsum
 rw [hML, ht]
 have HLL := Lib.hid hL
 have HML := Lib.hid hML
 have HTT := Lib.hid ht
 obtain ⟨n4, hn4'⟩ : ∃ m, qs.length = m := ⟨_, rfl⟩
 have HN4 := Lib.hid hn4'
 rw [hn4'] at hW p1 hsum hq ⊢
 clear T D hc hBB hyl hgood hkb hl hL hML ht hn4'
 go_enter Tryz.func14, Tryz.ntmps14
 (try rw [hW])
 go_wp2_with fail
 (try rw [hW])
 clear hW
 refine hsum.mono ?_
 rintro e w2 ⟨hone, hb2⟩
 have P1 := HR1.out.later hb2
 have P0 := HR0.out.later hb2
 have hB2 : Below w.heap.size w w2 := hBW.trans (hb2.mono (by omega))
 have s2 := hb2.size
 by_cases h0 : c = 0
 · subst h0
   obtain ⟨ok, hql⟩ := HG.out rfl
   have okd := drop_ok ys ok
   have hcd := okd.cnt
   have hLl : L.length = cntF (dropS s ys) := by rw [← HLL.out, sumF_len]
   obtain ⟨k, hk⟩ : ∃ k, perF s ys = k := ⟨_, rfl⟩
   have hmean : ML = L.map fun x => x * frX (k : Int) := by rw [← HML.out, ← hk, ← HLL.out]; rfl
   have hk2 : n4 / L.length = k := by rw [← HN4.out, hql, hLl, ← hk]; rfl
   have hk1 : 1 ≤ k := by
    rw [← hk2, Nat.le_div_iff_mul_le (by omega), Nat.one_mul, hLl, ← HN4.out, hql]
    have h2 := ok.cnt
    have h4 := (prod_two s ys ok.pos s.length (Nat.le_refl _))
    rw [take_all rfl] at h4
    have h5 : prodS (dropS s ys) ≤ prodS s := by unfold dropS; omega
    omega
   rw [HTT.out] at hcd okd hLl
   obtain ⟨r, rfl, hT⟩ := hone.zero
   have HRT := Lib.hid hT
   obtain ⟨a', b', ca', cb', rfl, _, _⟩ := hT
   obtain ⟨ll, hll⟩ : ∃ m, L.length = m := ⟨_, rfl⟩
   obtain ⟨tl, htl⟩ : ∃ m, t.length = m := ⟨_, rfl⟩
   obtain ⟨V, hV⟩ : ∃ V, w2.alloc (.cells #[.slice a' tl ca', .slice b' ll cb'] 26) = V := ⟨_, rfl⟩
   have bV : Below w2.heap.size w2 V := by rw [← hV]; exact (Below.refl _ _).alloc (Nat.le_refl _) _
   have RV : Row V w2.heap.size 26 #[.slice a' tl ca', .slice b' ll cb'] := by rw [← hV]; exact Row.new _ _ _
   have BV : Below w.heap.size w V := hB2.trans (bV.mono hB2.size)
   obtain ⟨q2, a2, c2, ca2, cc2, T2, e2, l2, k2⟩ := (HRT.out.later bV).tens
   have g2 : q2.length = ll := by rw [← hll, ← e2]; simp
   have hm2 : mayT t q2 = 0 := mayT_ok (mayC_ok okd) (by rw [okd.count, g2, ← hll, hLl]; exact okd.cnt.1) k2
   have hk6 : k ≤ n4 := by rw [← hk2]; exact Nat.div_le_self _ _
   have hfr := fun (X : World) => frac_any 1 (k : Int) X (by omega) (by omega) (by omega) (by omega) (by omega)
   have P0V := P0.later bV
   have P1V := P1.later bV
   obtain ⟨x0, x1, _, _⟩ := P0V.two
   obtain ⟨x2, x3, _, _⟩ := RV.two
   rw [hll] at hk2 hLl ⊢
   rw [htl]
   rw [HN4.out] at x1
   have et : Int.tdiv (n4 : Int) (ll : Int) = (k : Int) := by rw [Int.tdiv_eq_ediv_of_nonneg (by omega), ← hk2, Int.natCast_ediv]
   have hl0 : ¬ (ll : Int) = 0 := by omega
   have hl0b : ((ll : Int) == 0) = false := by rw [beq_eq_false_iff_ne]; exact hl0
   have HT2 := Lib.hid T2
   have HM2 := Lib.hid hm2
   have HE2 := Lib.hid e2
   have HL2 := Lib.hid l2
   have HLLL := Lib.hid hll
   have HTL := Lib.hid htl
   have HG2 := Lib.hid g2
   have HMEAN := Lib.hid hmean
   have hFX : ratOf (decide ((1 : Int) < 0) != decide ((k : Int) < 0)) (((1 : Int).natAbs : Nat) : Int) (((k : Int).natAbs : Nat) : Int) = frX (k : Int) := rfl
   rw [hFX] at hfr
   have okd4 := okd.rank
   have hll6 : ll ≤ 1024 := by omega
   clear T2 hm2 e2 l2 hll htl hLl hk hk2 hql hone hcd okd ok HRT hmean hFX g2
   go_wp2_with fail
   (try rw [hV])
   clear hV
   refine (hfr V).mono ?_
   rintro e w3 ⟨r3, rfl, Q3', hb3⟩
   obtain ⟨m5, f1, l1, j1, f2, l2, j2, e5⟩ := id Q3'.shape
   subst e5
   obtain ⟨V3, hV3⟩ : ∃ V3, w3.alloc (.cells #[.bool m5, .slice f1 l1 j1, .slice f2 l2 j2] 54) = V3 := ⟨_, rfl⟩
   have bV3 : Below w3.heap.size w3 V3 := by rw [← hV3]; exact (Below.refl _ _).alloc (Nat.le_refl _) _
   have RV3 : Row V3 w3.heap.size 54 #[.bool m5, .slice f1 l1 j1, .slice f2 l2 j2] := by rw [← hV3]; exact Row.new _ _ _
   have hb3V : Below V.heap.size V V3 := hb3.trans (bV3.mono hb3.size)
   have BV3 : Below w.heap.size w V3 := BV.trans (hb3V.mono BV.size)
   obtain ⟨y0, y1, _, _⟩ := (RV.later hb3V).two
   obtain ⟨y2, y3, y4, _, _, _⟩ := RV3.three
   have Q3V := (Q3'.later bV3).arg
   have T3 := HT2.out.later hb3V
   have hsc := scaleP_any T3 (by omega) (by have := HG2.out; omega) HL2.out (show BB ≤ 1000000 by omega) Q3V (by omega)
   rw [HM2.out, show (q2.map fun q => q.rat * frX (k : Int)) = ML from by rw [HMEAN.out, ← HE2.out, List.map_map]; rfl] at hsc
   have hT2 := HT2.out.is
   rw [HG2.out] at hT2
   simp only [Value.agg.injEq, Array.mk.injEq, List.cons.injEq, and_true, Value.slice.injEq] at hT2
   obtain ⟨⟨rfl, e6, rfl⟩, rfl, e7, rfl⟩ := hT2
   clear e6 e7
   rw [HTL.out, HLLL.out] at hsc
   have P1W := P1V.later hb3V
   have HP1W := Lib.hid P1W
   clear x0 x1 x2 x3 Q3' hfr T3 Q3V
   go_wp2_with fail
   (try rw [hV3])
   clear hV3
   refine hsc.mono ?_
   rintro e w4 ⟨hone4, hb4⟩
   obtain ⟨r4, rfl, hT4⟩ := hone4.zero
   have HR4 := Lib.hid hT4
   obtain ⟨a5, b5, ca5, cb5, rfl, _, _⟩ := hT4
   rw [HTL.out]
   obtain ⟨ml, hml⟩ : ∃ m, ML.length = m := ⟨_, rfl⟩
   have HMLL := Lib.hid hml
   rw [hml]
   have P4 := HP1W.out.later hb4
   obtain ⟨u0, u1, g0, g1⟩ := P4.two
   have HP4 := Lib.hid P4
   have B4 : Below w.heap.size w w4 := BV3.trans (hb4.mono BV3.size)
   clear hml hone4 P4 hsc
   go_wp2_with fail
   have P5 := HP4.out.set2 (.slice a5 tl ca5) (.slice b5 ml cb5)
   obtain ⟨z0, z1, _, _⟩ := P5.two
   refine bodyPost_ret (v := .tuple #[.agg #[.slice a5 tl ca5, .slice b5 ml cb5], .int .i64 0]) (by simp [results, Tryz.results14, go_sem, z0, z1]) rfl ⟨.inl ⟨rfl, _, rfl, ?_⟩, below_set2 B4 (by omega) _ _⟩
   have hR : ResT w.heap.size w4 (.agg #[.slice a5 tl ca5, .slice b5 ml cb5]) t ML (2 * (BB + 4 + 2) + 4) := by
    have h := HR4.out.mono BV3.size
    rwa [HTL.out, HMLL.out] at h
   exact hR.far HP4.out (by decide) (by decide) (by decide) (kept2 _ _)
 · have hne : (c != 0) = true := by simp [h0]
   have hbad : e = .returned (.tuple #[noTensor, .int .i64 c]) := by
    rcases hone with ⟨h, _⟩ | ⟨_, h⟩
    · exact absurd h h0
    · exact h
   subst hbad
   have H0 := Lib.hid h0
   have bV : Below w2.heap.size w2 (w2.alloc (.cells #[.slice none 0 0, .slice none 0 0] 26)) := (Below.refl _ _).alloc (Nat.le_refl _) _
   have BV := hB2.trans (bV.mono hB2.size)
   have PV := P1.later bV
   obtain ⟨u0, u1, g0, g1⟩ := PV.two
   unfold noTensor
   clear h0 hone
   go_wp2_with fail
   have P3 := PV.set2 (.slice none 0 0) (.slice none 0 0)
   obtain ⟨z0, z1, _, _⟩ := P3.two
   refine bodyPost_ret (v := .tuple #[noTensor, .int .i64 c]) (by simp [results, Tryz.results14, go_sem, z0, z1, noTensor]) rfl ⟨.inr ⟨H0.out, rfl⟩, below_set2 BV (by omega) _ _⟩
end
end Go.Proofs.YtengpgodmbfmkaaGreat
