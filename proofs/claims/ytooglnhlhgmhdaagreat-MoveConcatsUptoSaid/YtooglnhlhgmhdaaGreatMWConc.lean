/-
  Layer 9's law MoveConcats: for every tensors and every dimension the law holds (tensors that hold together at most 1048576 values). (Made by wip/gen/gen_mconcl.py.)
-/
import Derived.Test.YtooglnhlhgmhdaaGreatMConcM
import Derived.Test.YtooglnhlhgmhdaaGreatMRefV
import Derived.Test.YtooglnhlhgmhdaaGreatQ2
namespace Go.Proofs.YtooglnhlhgmhdaaGreat
open Go.RowKit
set_option linter.unusedVariables false
set_option linter.unusedSimpArgs false

theorem ownsRow_laterC {base n size : Nat} {T : TypeId} {w w' : World} {v : Value} {ys : List Value} (h : Below w.heap.size w w') (h2 : w.ownsRow base T size v n ys) : w'.ownsRow base T size v n ys := by
  obtain ⟨k1, k2⟩ := h2
  refine ⟨k1, k2.imp id ?_⟩
  rintro ⟨g, cap, cur, e, hb', hg, hr⟩
  exact ⟨g, cap, cur, e, hb', (h.block g (lt_of_block hg)).trans hg, hr⟩
theorem RowTR.later9 {m : Nat} {w w' : World} {v : Value} {ys : List Y2} {ad : Option Addr} {cap : Nat} (h : RowTR m w v ys ad cap) (hb : Below w.heap.size w w') : RowTR m w' v ys ad cap := by
  obtain ⟨h1, h2, h3⟩ := h
  refine ⟨h1, h2, h3.imp id ?_⟩
  rintro ⟨b, o, e, hx⟩
  refine ⟨b, o, e, fun i x hi => ?_⟩
  obtain ⟨a, e', ca, ce, c0, c1, T⟩ := hx i x hi
  exact ⟨a, e', ca, ce, (hb.cell (World.block_lt_of_cell? _ _ c0)).trans c0, (hb.cell (World.block_lt_of_cell? _ _ c1)).trans c1, T.later hb⟩
theorem is_trueC {base m n N : Nat} {w : World} {u t : Value} {s : List Int} {Lx : List Rat} (h1 : TenR w t s Lx m) (h2 : ResT base w u s Lx N) (ok : Ok9 s Lx.length) (hm : m ≤ 1000000000) (hN : N ≤ 134217728) :
    Calls Tryz.prog 32 #[t, u] w fun e w' => e = .returned (.bool true) ∧ Below w.heap.size w w' := by
  obtain ⟨a1, c1, b1, d1, T1⟩ := h1
  obtain ⟨q2, a2, e2, ca2, ce2, T2, e, l2, k2⟩ := h2.tens
  have hle := ok.le
  have g2 : q2.length = Lx.length := by rw [← e]; simp
  have h := isT_any T1 T2 (by omega) (by omega) (by omega) hm (fun q hq => ⟨Nat.le_trans (l2 q hq).1 (by omega), Nat.le_trans (l2 q hq).2 (by omega)⟩)
  rw [allBC_eq9 e k2] at h
  exact h
theorem AnsM.emptyC {base N : Nat} {w : World} {c : Int} {s : List Int} {Lx : List Rat} {x0 x3 : Option Addr} {x1 x2 x4 x5 : Nat} (h : AnsM base w (.agg #[.slice x0 x1 x2, .slice x3 x4 x5]) c s Lx N) (hc : c ≠ 0) (X : World) :
    Calls Tryz.prog 30 #[.agg #[.slice x0 x1 x2, .slice x3 x4 x5]] X fun e w' => e = .returned (.bool true) ∧ Below X.heap.size X w' := by
  have e := (h.resolve_left (fun h => hc h.1)).2
  simp only [noTensor, Value.agg.injEq, Array.mk.injEq, List.cons.injEq, and_true, Value.slice.injEq] at e
  obtain ⟨⟨rfl, rfl, rfl⟩, rfl, rfl, rfl⟩ := e
  have h := emptyT_any (w := X) _ none none 0 0 0 0 rfl
  exact h
set_option maxRecDepth 100000 in
set_option maxHeartbeats 40000000 in
theorem moveConcats_walk {v : Value} {xs : List X2} {ad : Option Addr} {cap : Nat} (axis : Int) (W : World) (R : RowT W v xs ad cap) (lx : sizeXs xs ≤ 1048576) (hax : -9223372036854775808 ≤ axis ∧ axis ≤ 9223372036854775807) :
    Calls Tryz.prog 8 #[.int .i64 axis, v] W fun e W' => e = .returned (.bool true) ∧ Below W.heap.size W W' := by
  have hn : xs.length ≤ 1048576 := Nat.le_trans (sizeXs_len xs) lx
  have hl := sizeXs_lens lx
  obtain rfl := R.is
  have HR := Lib.hid R
  have HL := Lib.hid hl
  obtain ⟨i0, hi0, hzA, hzB, hzC⟩ := info_parts infoT26
  obtain ⟨j0, hj0, hyA, hyB, hyC⟩ := info_parts infoT34
  obtain ⟨c, hc⟩ : ∃ c, mjC axis xs = c := ⟨_, rfl⟩
  have HC := Lib.hid hc
  obtain ⟨N, hN⟩ : ∃ N, xs.length = N := ⟨_, rfl⟩
  have HN := Lib.hid hN
  rw [hN] at hn ⊢
  obtain ⟨hax0, hax1⟩ := hax
  clear R hl hc hN lx
  go_enter Tryz.func8, Tryz.ntmps8
  go_wp2_with fail
  go_loopw [5, 6, 7, 8] (fun l u f i wi => ∃ (k : Nat), i = .int .i64 (k : Int) ∧ f = .int .i64 (mayX (xs.take k)) ∧ k ≤ N ∧ RowP W.heap.size 26 OwnX wi l (xs.take k) ∧ RowP W.heap.size 34 (OwnY (5 * 1048576 + 6)) wi u ((xs.take k).map toY) ∧ Below W.heap.size W wi) (fun _ _ _ i _ => N - (intOf i).toNat)
  case atStart => exact ⟨0, rfl, rfl, Nat.zero_le _, RowP.nil _ _ _ _, RowP.nil _ _ _ _, Below.refl _ _⟩
  case round =>
    rename World => wi
    obtain ⟨k, rfl, rfl, hk, ⟨el, hol, hll, hal⟩, ⟨eu, hou, hlu, hau⟩, hb⟩ := hrel
    have hsz := hb.size
    have HAL := Lib.hid hal
    have HAU := Lib.hid hau
    obtain ⟨f, hf⟩ : ∃ f, mayX (xs.take k) = f := ⟨_, rfl⟩
    rw [hf]
    have HFF := Lib.hid hf
    have hke : el.length = k := by
      rw [hll, List.length_take, HN.out]
      omega
    have hku : eu.length = k := by
      rw [hlu, List.length_map, List.length_take, HN.out]
      omega
    have HKE := Lib.hid hll
    have HKU := Lib.hid hlu
    have hel : el.length ≤ 1048576 := by omega
    have heu : eu.length ≤ 1048576 := by omega
    obtain ⟨la, lc, rfl⟩ := ownT_slice hol
    obtain ⟨ua, uc, rfl⟩ := ownT_slice hou
    clear hal hau hf hke hku hll hlu
    by_cases hlt : k < N
    · have hltI : (k : Int) < (N : Int) := by omega
      obtain ⟨x, hx⟩ : ∃ x, xs[k]? = some x := ⟨_, List.getElem?_eq_getElem (by rw [HN.out]; omega)⟩
      have hlx := HL.out x (List.mem_of_getElem? hx)
      obtain ⟨b, o, rfl, _, ax, ex, cx, dx, g0, g1, TX⟩ := HR.out.at hx
      have HX := Lib.hid hx
      have HTX := Lib.hid TX
      have cX : ∀ X, Below W.heap.size W X → X.cell? ⟨b, o + k * 2, none⟩ = some (.slice ax x.s.length cx) ∧ X.cell? ⟨b, o + k * 2 + 1, none⟩ = some (.slice ex x.q.length dx) := fun X h => ⟨(h.cell (World.block_lt_of_cell? _ _ g0)).trans g0, (h.cell (World.block_lt_of_cell? _ _ g1)).trans g1⟩
      have HCX := Lib.hid cX
      have hown1 := ownT_any (HTX.out.later hb) (by omega) (by omega) (fun q hq => ⟨Nat.le_trans (hlx.2.2 q hq).1 (by omega), Nat.le_trans (hlx.2.2 q hq).2 (by omega)⟩)
      obtain ⟨c0, c1⟩ := cX _ hb
      clear hx TX cX g0 g1
      go_wp2_with fail
      refine hown1.mono ?_
      rintro e w2 ⟨p2, r2, cx2, cy2, rfl, S2, E2, hb2⟩
      have hbw2 : Below W.heap.size W w2 := hb.trans (hb2.mono hsz)
      have hsz2 := hbw2.size
      have OX : OwnX w2 (.slice p2 x.s.length cx2) (.slice r2 x.q.length cy2) x := ⟨p2, r2, cx2, cy2, wi.heap.size, rfl, rfl, S2, E2⟩
      have HOX := Lib.hid OX
      have hol2 := ownsRow_laterC hb2 hol
      have hou2 := ownsRow_laterC hb2 hou
      clear hown1 c0 c1 S2 E2 OX hol hou
      go_upto_region 8 with (at_builtin; (refine wpList_append_own _ rfl _ _ 43 rfl W.heap.size 26 i0 (.agg #[.slice none 0 0, .slice none 0 0]) 2 48 Tryz.underlying43 hi0 hzA hzB hzC rfl (by decide) _ el.length (flat2 el) rfl (ownsRow_laterC ((Below.refl _ _).alloc (Nat.le_refl _) _) hol2) ⟨w2.heap.size, 0, none⟩ 1 1 [.slice p2 x.s.length cx2, .slice r2 x.q.length cy2] rfl rfl (cell_two9C _ _ _ _) (by simp [Value.oneCell']) (by unfold maxLen; omega) (by omega) (by simp; omega) ?_; intro v' w3 hown' hgrow _))
      have hb3 : Below W.heap.size W w3 := (hbw2.alloc hsz2 _).grown hgrow (by simp; omega) (fun q hq => (World.ownsRow.lt hol2 q hq).1)
      have hsz3 := hb3.size
      have RL3 : RowP W.heap.size 26 OwnX w3 v' (xs.take k ++ [x]) := RowP.push (v := .bool true) (Q := OwnX) (e := ⟨.slice p2 x.s.length cx2, .slice r2 x.q.length cy2⟩) HKE.out (fun i e y h1 h2 => (HAL.out i e y h1 h2).later hb2) HOX.out (fun a b y h => h.apart2 hol2 hgrow (by decide) (by decide) (by decide)) hown'
      have hou3 := ownsRow_apart2 hol2 hgrow (show 26 ≠ 34 by decide) hou2
      have HAU3 : Hid (∀ (i : Nat) (e : E2) (y : Y2), eu[i]? = some e → ((xs.take k).map toY)[i]? = some y → OwnY (5 * 1048576 + 6) w3 e.a e.b y) := Lib.hid (fun i e y h1 h2 => ((HAU.out i e y h1 h2).later hb2).apart2 hol2 hgrow (by decide) (by decide))
      have HRL3 := Lib.hid RL3
      have hof := of9o_any (n := 1048576) (HTX.out.later hb3) (by omega) (by omega) hlx.2.2 (by omega)
      obtain ⟨c0, c1⟩ := HCX.out _ hb3
      clear hown' hgrow RL3 hol2 hou2
      go_wp2_with fail
      refine hof.mono ?_
      rintro e w4 ⟨p4, r4, cx4, cy4, rfl, OY, hb4⟩
      have hbw4 : Below W.heap.size W w4 := hb3.trans (hb4.mono hsz3)
      have hsz4 := hbw4.size
      have hou4 := ownsRow_laterC hb4 hou3
      have HOY := Lib.hid OY
      obtain ⟨ls4, hls4⟩ : ∃ l, (shV x.s x.q).length = l := ⟨_, rfl⟩
      obtain ⟨le4, hle4⟩ : ∃ l, (elsV x.s x.q).length = l := ⟨_, rfl⟩
      rw [hls4, hle4] at HOY ⊢
      have HRL4 := Lib.hid (HRL3.out.later hb4 (fun a b y h => h.later hb4))
      clear hof c0 c1 OY hou3 hls4 hle4
      go_upto_region 9 with (at_builtin; (refine wpList_append_own _ rfl _ _ 44 rfl W.heap.size 34 j0 (.agg #[.slice none 0 0, .slice none 0 0]) 2 48 Tryz.underlying44 hj0 hyA hyB hyC rfl (by decide) _ eu.length (flat2 eu) rfl (ownsRow_laterC ((Below.refl _ _).alloc (Nat.le_refl _) _) hou4) ⟨w4.heap.size, 0, none⟩ 1 1 [.slice p4 ls4 cx4, .slice r4 le4 cy4] rfl rfl (cell_two9C _ _ _ _) (by simp [Value.oneCell']) (by unfold maxLen; omega) (by omega) (by simp; omega) ?_; intro u' w5 hown' hgrow _))
      have hb5 : Below W.heap.size W w5 := (hbw4.alloc hsz4 _).grown hgrow (by simp; omega) (fun q hq => (World.ownsRow.lt hou4 q hq).1)
      have hsz5 := hb5.size
      have RU5 : RowP W.heap.size 34 (OwnY (5 * 1048576 + 6)) w5 u' ((xs.take k).map toY ++ [toY x]) := RowP.push (v := .bool true) (Q := OwnY (5 * 1048576 + 6)) (e := ⟨.slice p4 ls4 cx4, .slice r4 le4 cy4⟩) HKU.out (fun i e y h1 h2 => (HAU3.out i e y h1 h2).later hb4) HOY.out (fun a b y h => h.apart2 hou4 hgrow (by decide) (by decide)) hown'
      have RL5 : RowP W.heap.size 26 OwnX w5 v' (xs.take k ++ [x]) := by
        obtain ⟨es, e1, e2, e3⟩ := HRL4.out
        exact ⟨es, ownsRow_apart2 hou4 hgrow (by decide) e1, e2, fun i e y h1 h2 => (e3 i e y h1 h2).apart2 hou4 hgrow (by decide) (by decide) (by decide)⟩
      have hT5 : (xs.take (k + 1)) = xs.take k ++ [x] := take_nextL HX.out
      rw [← hT5] at RL5
      have hM5 : (xs.take (k + 1)).map toY = (xs.take k).map toY ++ [toY x] := by rw [hT5, List.map_append]; rfl
      rw [← hM5] at RU5
      have hmx : mayX (xs.take (k + 1)) = if f = 0 then mayT x.s x.q else f := by rw [hT5, mayX_snoc, HFF.out]
      have HMX := Lib.hid hmx
      have HRL5 := Lib.hid RL5
      have HRU5 := Lib.hid RU5
      have hmay := mayT_any (HTX.out.later hb5) (by omega) (fun q hq => ⟨Nat.le_trans (hlx.2.2 q hq).1 (by omega), Nat.le_trans (hlx.2.2 q hq).2 (by omega)⟩)
      obtain ⟨c0, c1⟩ := HCX.out _ hb5
      clear hown' hgrow hT5 hM5 hmx RL5 RU5 hou4
      by_cases hf0 : f = 0
      · have hfe : (f == 0) = true := by simp [hf0]
        have HF0 := Lib.hid hf0
        clear hf0
        go_wp2_with fail
        refine hmay.mono ?_
        rintro e w6 ⟨rfl, hb6⟩
        clear hmay c0 c1
        go_wp2_with fail
        go_roundw
        case rel => exact ⟨k + 1, by go_num, by rw [HMX.out, if_pos HF0.out], by omega, HRL5.out.later hb6 (fun a b y h => h.later hb6), HRU5.out.later hb6 (fun a b y h => h.later hb6), hb5.trans (hb6.mono hsz5)⟩
        case measure => simp [intOf]; omega
      · have hfe : (f == 0) = false := by simp [hf0]
        have HF0 := Lib.hid hf0
        clear hf0 hmay
        go_wp2_with fail
        go_roundw
        case rel => exact ⟨k + 1, by go_num, by rw [HMX.out, if_neg HF0.out], by omega, HRL5.out, HRU5.out, hb5⟩
        case measure => simp [intOf]; omega
    · obtain rfl : N = k := by omega
      have hltI : ¬ (N : Int) < (N : Int) := by omega
      have htk : xs.take N = xs := List.take_of_length_le (by rw [HN.out]; exact Nat.le_refl _)
      obtain ⟨al, cl, RT, nl⟩ := (show RowP W.heap.size 26 OwnX wi _ (xs.take N) from ⟨el, hol, HKE.out, HAL.out⟩).tens
      obtain ⟨au, cu, RU, nu⟩ := (show RowP W.heap.size 34 (OwnY (5 * 1048576 + 6)) wi _ ((xs.take N).map toY) from ⟨eu, hou, HKU.out, HAU.out⟩).tenr
      have hF : mayX xs = f := by rw [← HFF.out, htk]
      have HFX := Lib.hid hF
      rw [htk] at RT RU
      have e1 := RT.is
      have e2 := RU.is
      rw [HN.out] at e1
      rw [List.length_map, HN.out] at e2
      rw [e1] at RT ⊢
      rw [e2] at RU ⊢
      have HRT := Lib.hid RT
      have HRU := Lib.hid RU
      have hco := concat_any (n := 1048576) axis HRT.out (by rw [HN.out]; exact hn) HL.out (by omega) hax0 hax1
      rw [HC.out] at hco
      have HB := Lib.hid hb
      clear htk RT RU hF e1 e2 hol hou nl nu hel heu
      go_wp2_with fail
      refine hco.mono ?_
      rintro e z1 ⟨hO, hz1⟩
      obtain ⟨x0, x1, x2, x3, x4, x5, rfl, hA⟩ := hO.ans9
      obtain ⟨q1, hq1⟩ : ∃ Y, z1.alloc (.cells #[.slice x0 x1 x2, .slice x3 x4 x5] 26) = Y := ⟨_, rfl⟩
      have R1 : Row q1 z1.heap.size 26 #[.slice x0 x1 x2, .slice x3 x4 x5] := by rw [← hq1]; exact Row.new _ _ _
      have b1 : Below z1.heap.size z1 q1 := by rw [← hq1]; exact (Below.refl _ _).alloc (Nat.le_refl _) _
      have D1 : Below wi.heap.size wi q1 := hz1.trans (b1.mono hz1.size)
      have B1 : Below W.heap.size W q1 := hb.trans (D1.mono hsz)
      have HA : Hid (AnsM wi.heap.size z1 (.agg #[.slice x0 x1 x2, .slice x3 x4 x5]) c (joS axis.toNat xs) (conV axis.toNat xs) (1048576 + 2)) := Lib.hid hA
      obtain ⟨t0, t1, _, _⟩ := R1.two
      clear hO hA hco
      by_cases hN0 : N = 0
      · have hne : ((N : Int) == 0) = true := by simp [hN0]
        obtain rfl : c = 2 := by rw [← HC.out]; unfold mjC; rw [if_pos (by rw [HN.out]; exact hN0)]
        have hemp := HA.out.emptyC (by decide) q1
        clear hN0
        go_wp2_with fail
        (try rw [hq1])
        clear hq1
        refine hemp.mono ?_
        rintro e y5 ⟨rfl, hy5⟩
        clear hemp t0 t1
        go_wp2_with fail
        refine (known9_any y5).mono ?_
        rintro e y6 ⟨rfl, hy6⟩
        go_wp2_with fail
        go_ret
        exact ⟨rfl, B1.trans ((hy5.trans (hy6.mono hy5.size)).mono B1.size)⟩
      · have hne : ((N : Int) == 0) = false := by simp; omega
        have hN1 : 0 < xs.length := by rw [HN.out]; omega
        have hokY : ∀ y ∈ xs.map toY, Ok9 y.s y.l.length := fun y hy => by
          obtain ⟨x, _, rfl⟩ := List.mem_map.1 hy
          exact of_ok
        have hRU1 : RowTR (5 * 1048576 + 6) q1 (.slice au N cu) (xs.map toY) au cu := HRU.out.later9 D1
        have hcr := concatR_any (m := (5 * 1048576 + 6)) axis (ys := xs.map toY) hRU1 (by rw [List.length_map]; exact hN1) (by rw [List.length_map, HN.out]; exact hn) hokY hax0 hax1 (by omega)
        obtain ⟨rc, hrc⟩ : ∃ c, rcC axis (xs.map toY) = c := ⟨_, rfl⟩
        rw [hrc] at hcr
        have HRC := Lib.hid hrc
        have HN1 := Lib.hid hN1
        clear hokY hRU1 hrc hN1
        go_wp2_with fail
        (try rw [hq1])
        clear hq1
        refine hcr.mono ?_
        rintro e z2 ⟨⟨r6, rfl, ⟨w0, w1, w2, w3, w4, w5, rfl⟩, ht6⟩, hz2⟩
        obtain ⟨q2, hq2⟩ : ∃ Y, z2.alloc (.cells #[.slice w0 w1 w2, .slice w3 w4 w5] 34) = Y := ⟨_, rfl⟩
        have R2 : Row q2 z2.heap.size 34 #[.slice w0 w1 w2, .slice w3 w4 w5] := by rw [← hq2]; exact Row.new _ _ _
        have b2 : Below z2.heap.size z2 q2 := by rw [← hq2]; exact (Below.refl _ _).alloc (Nat.le_refl _) _
        have D2 : Below q1.heap.size q1 q2 := hz2.trans (b2.mono hz2.size)
        have B2 : Below W.heap.size W q2 := B1.trans (D2.mono B1.size)
        have HT6 := Lib.hid ht6
        clear hcr t0 t1 ht6
        obtain ⟨t0, t1, _, _⟩ := (R1.later D2).two
        obtain ⟨s0, s1, _, _⟩ := R2.two
        by_cases hf0 : f = 0
        · subst hf0
          have hfe : ((0 : Int) != 0) = false := by decide
          have hval := mayX_zero HFX.out
          have hcl := code_link (axis := axis) HN1.out hval
          rw [HC.out, HRC.out] at hcl
          subst hcl
          have HVAL := Lib.hid hval
          clear hval
          by_cases hc0 : c = 0
          · subst hc0
            have hT1 := ((HA.out.resolve_right (fun h => h.1 rfl)).2.later b1).later D2
            have hT2 := (HT6.out rfl).later b2
            rw [jo_link HVAL.out, val_link HVAL.out] at hT2
            obtain ⟨_, J⟩ := mjC_zero HC.out
            have hok : Ok9 (joS axis.toNat xs) (conV axis.toNat xs).length := ⟨J.ok, by unfold conV; rw [fillV_len]; have := prodS_pos J.ok.pos; omega⟩
            have his := is_trueC (n := 0) hT2 hT1 hok (by omega) (by omega)
            clear hT1 hT2 J hok
            go_wp2_with fail
            (try rw [hq2])
            refine his.mono ?_
            rintro e y5 ⟨rfl, hy5⟩
            clear his t0 t1 s0 s1 hq2
            go_wp2_with fail
            refine (known9_any y5).mono ?_
            rintro e y6 ⟨rfl, hy6⟩
            go_wp2_with fail
            go_ret
            exact ⟨rfl, B2.trans ((hy5.trans (hy6.mono hy5.size)).mono B2.size)⟩
          · have hce : (c != 0) = true := by simp [hc0]
            have hcc : (c == c) = true := by simp
            have hemp := HA.out.emptyC hc0 q2
            clear hc0
            go_wp2_with fail
            (try rw [hq2])
            refine hemp.mono ?_
            rintro e y5 ⟨rfl, hy5⟩
            clear hemp t0 t1 s0 s1 hq2
            go_wp2_with fail
            refine (known9_any y5).mono ?_
            rintro e y6 ⟨rfl, hy6⟩
            go_wp2_with fail
            go_ret
            exact ⟨rfl, B2.trans ((hy5.trans (hy6.mono hy5.size)).mono B2.size)⟩
        · have hfe : (f != 0) = true := by simp [hf0]
          obtain rfl : c = f := by
            rw [← HC.out]
            unfold mjC
            rw [if_neg (by have := HN1.out; omega), if_pos (by rw [HFX.out]; exact hf0)]
            exact HFX.out
          have hcc : (c == c) = true := by simp
          have hemp := HA.out.emptyC hf0 q2
          clear hf0
          go_wp2_with fail
          (try rw [hq2])
          refine hemp.mono ?_
          rintro e y5 ⟨rfl, hy5⟩
          clear hemp t0 t1 s0 s1 hq2
          go_wp2_with fail
          refine (known9_any y5).mono ?_
          rintro e y6 ⟨rfl, hy6⟩
          go_wp2_with fail
          go_ret
          exact ⟨rfl, B2.trans ((hy5.trans (hy6.mono hy5.size)).mono B2.size)⟩
end Go.Proofs.YtooglnhlhgmhdaaGreat
