/-
  Package tensor as it landed: Same. (Made by wip/gen/gen_tcode8.py.)
-/
import Derived.Test.YtnhfjacifajdlaaGreatTCode7
namespace Go.Proofs.YtnhfjacifajdlaaGreat
open Go.RowKit Go.Shelf
attribute [local go_sem] Oper.semAt_some
set_option linter.unusedVariables false
set_option linter.unusedSimpArgs false

theorem sgR_same (x y : Rat) : (sgR (x - y) == 0) = decide (x = y) := by
  by_cases h : x = y
  · subst h
    rw [decide_eq_true rfl, show x - x = 0 by grind]
    rfl
  · rw [decide_eq_false h]
    have : sgR (x - y) ≠ 0 := fun e => h (by have := (sgR_zero _).1 e; grind)
    simpa using this
theorem sameX_any {n : Nat} {w : World} {u v : Value} {p q : Q3} (hu : RawQ w u p) (hv : RawQ w v q) (h1 : p.num.length ≤ n ∧ p.den.length ≤ n) (h2 : q.num.length ≤ n ∧ q.den.length ≤ n) (hn : n ≤ 16777000) :
    Calls Tryz.prog 69 #[u, v] w fun e w' => e = .returned (.bool (decide (p.rat = q.rat))) ∧ Below w.heap.size w w' := by
  have h := sameQ_any (hu.arg h1.1 h1.2) (hv.arg h2.1 h2.2) hn
  rw [sgR_same] at h
  exact h
set_option maxRecDepth 100000 in
set_option maxHeartbeats 8000000 in
theorem sameT7_any {n : Nat} {w : World} {u v : Value} {s1 s2 : List Int} {q1 q2 : List Q3} {a1 b1 a2 b2 : Option Addr} {ca1 cb1 ca2 cb2 : Nat} (T1 : TensQ w u s1 q1 a1 ca1 b1 cb1) (T2 : TensQ w v s2 q2 a2 ca2 b2 cb2) (hs1 : s1.length ≤ 1048576) (hs2 : s2.length ≤ 1048576) (hq1 : q1.length ≤ 1048576) (hq2 : q2.length ≤ 1048576) (hl1 : lensQ q1 n) (hl2 : lensQ q2 n) (hn : n ≤ 4000000) :
    Calls Tryz.prog 31 #[u, v] w fun e w' => e = .returned (.bool (allBC (fun (p q : Q3) => decide (p.rat = q.rat)) s1 s2 q1 q2)) ∧ Below w.heap.size w w' := by
  obtain rfl := T1.is
  obtain rfl := T2.is
  obtain ⟨B, hB⟩ : ∃ B, w.heap.size = B := ⟨_, rfl⟩
  obtain ⟨W1, hW1⟩ : ∃ W1, w.alloc (.cells #[.slice a1 s1.length ca1, .slice b1 q1.length cb1] 26) = W1 := ⟨_, rfl⟩
  obtain ⟨W2, hW2⟩ : ∃ W2, W1.alloc (.cells #[.slice a2 s2.length ca2, .slice b2 q2.length cb2] 26) = W2 := ⟨_, rfl⟩
  obtain ⟨W3, hW3⟩ : ∃ W3, W2.alloc (.cells #[.bool false] 4) = W3 := ⟨_, rfl⟩
  have s1' : W1.heap.size = B + 1 := by rw [← hW1, ← hB]; simp
  have s2' : W2.heap.size = B + 1 + 1 := by rw [← hW2, World.size_alloc, s1']
  have s3' : W3.heap.size = B + 1 + 1 + 1 := by rw [← hW3, World.size_alloc, s2']
  have R0 : Row W3 B 26 #[.slice a1 s1.length ca1, .slice b1 q1.length cb1] := by rw [← hW3, ← hW2, ← hW1, ← hB]; exact ((Row.new _ _ _).alloc _).alloc _
  have R1 : Row W3 (B + 1) 26 #[.slice a2 s2.length ca2, .slice b2 q2.length cb2] := by rw [← hW3, ← hW2, ← s1']; exact (Row.new _ _ _).alloc _
  have R2 : Row W3 (B + 1 + 1) 4 #[.bool false] := by rw [← hW3, ← s2']; exact Row.new _ _ _
  have hb2 : Below B w W3 := by rw [← hW3, ← hW2, ← hW1]; exact (((Below.refl _ w).alloc (by omega) _).alloc (by simp; omega) _).alloc (by simp; omega) _
  have U1 := T1.later (by rw [hB]; exact hb2)
  have U2 := T2.later (by rw [hB]; exact hb2)
  have hsame := sameS_any U1.sh U2.sh T1.nila T2.nila (by omega) (by omega)
  obtain ⟨t, ht⟩ : ∃ t, decide (s1 = s2) = t := ⟨_, rfl⟩
  rw [ht] at hsame
  obtain ⟨dd, hdd⟩ : ∃ d, allBC (fun (p q : Q3) => decide (p.rat = q.rat)) s1 s2 q1 q2 = d := ⟨_, rfl⟩
  rw [hdd]
  have HD := Lib.hid hdd
  have HT1 := Lib.hid T1
  have HT2 := Lib.hid T2
  have HL1 := Lib.hid hl1
  have HL2 := Lib.hid hl2
  obtain ⟨c0, c1, _, _⟩ := R0.two
  obtain ⟨c2, c3, _, _⟩ := R1.two
  clear T1 T2 U1 U2 hl1 hl2 hdd
  by_cases hgo : s1 = s2 ∧ q1.length = q2.length
  · obtain ⟨hs, hlen⟩ := hgo
    have htt : t = true := by rw [← ht]; exact decide_eq_true hs
    subst htt
    obtain ⟨es, hlim1, hall1⟩ := HT1.out.el.limE
    obtain ⟨fs, hlim2, hall2⟩ := HT2.out.el.limE
    have hsh1 : ShE es := shE_of hall1 (fun v x h => h.form)
    have hsh2 : ShE fs := shE_of hall2 (fun v x h => h.form)
    have hel1 : es.length = q1.length := hall1.1
    have hel2 : fs.length = es.length := by rw [hall2.1, ← hlen, hall1.1]
    have HA1 := Lib.hid hall1
    have HA2 := Lib.hid hall2
    have HS := Lib.hid hs
    have HLEN := Lib.hid hlen
    have HEL1 := Lib.hid hel1
    have HEL2 := Lib.hid hel2
    rw [hB] at hlim1 hlim2
    rw [← hlen, ← hel1] at R1 c3 hW2
    rw [← hel1] at R0 c1 hW1 hq1
    have hW2' := Lib.hid hW2
    rw [← hlen, ← hel1]
    clear hall1 hall2 hs hlen hel1 hel2 ht
    obtain ⟨n', hn'⟩ : ∃ n' : Nat, Hid (3 ≤ n') := ⟨3, Nat.le_refl 3⟩
    refine (callsIn_wide (n := n')).1 ?_
    refine callsIn_of_wp_marks Tryz.func31 rfl trivial ?_ rfl
    simp only [Tryz.ntmps31, List.size_toArray, List.length_cons, List.length_nil, Nat.reduceAdd, Nat.reduceSub, Array.replicate_succ, Array.replicate_zero, List.push_toArray, List.append_toArray, List.nil_append, List.cons_append]
    gi_wp2_with fail
    refine wideCall (hsame.mono ?_)
    rintro e w4 ⟨rfl, b4⟩
    have b0 : Below W3.heap.size W3 w4.drew := b4.drew
    have s4 := b4.size
    obtain ⟨k0, k1, _, _⟩ := (R0.later b4).two
    obtain ⟨k2, k3, _, _⟩ := (R1.later b4).two
    gi_wp2_with fail
    have mkS : ∀ Y, Below W3.heap.size W3 Y → Y.cell? ⟨B, 0, none⟩ = some (.slice a1 s1.length ca1) ∧ Y.cell? ⟨B, 1, none⟩ = some (.slice b1 es.length cb1) ∧ Y.cell? ⟨B + 1, 0, none⟩ = some (.slice a2 s2.length ca2) ∧ Y.cell? ⟨B + 1, 1, none⟩ = some (.slice b2 es.length cb2) := fun Y hb => by
      obtain ⟨x0, x1, _⟩ := (R0.later hb).two
      obtain ⟨x2, x3, _⟩ := (R1.later hb).two
      exact ⟨x0, x1, x2, x3⟩
    refine region_wide (fun Y => Y.cell? ⟨B, 0, none⟩ = some (.slice a1 s1.length ca1) ∧ Y.cell? ⟨B, 1, none⟩ = some (.slice b1 es.length cb1) ∧ Y.cell? ⟨B + 1, 0, none⟩ = some (.slice a2 s2.length ca2) ∧ Y.cell? ⟨B + 1, 1, none⟩ = some (.slice b2 es.length cb2)) (by kernel_rfl) (by kernel_rfl) (mkS _ b0) (fun hHeld => ?_)
    refine wpAnyH_take (i := 0) (v := ?va0) rfl (by kernel_rfl) (by kernel_rfl) (by kernel_rfl) (fun _ _ _ h => h) (Or.inl ⟨by rfl, ?ha0⟩) (by assumption) ?ra0
    case ha0 =>
      intro w hSw
      try dsimp only at hSw
      go_simp
      try with_reducible rfl
    try simp only [Act.put, List.setIfInBounds_toArray, List.set_cons_zero, List.set_cons_succ]
    refine wpAnyH_take (i := 2) (v := ?va2) rfl (by kernel_rfl) (by kernel_rfl) (by kernel_rfl) (fun _ _ _ h => h) (Or.inl ⟨by rfl, ?ha2⟩) (by assumption) ?ra2
    case ha2 =>
      intro w hSw
      try dsimp only at hSw
      go_simp
      try with_reducible rfl
    try simp only [Act.put, List.setIfInBounds_toArray, List.set_cons_zero, List.set_cons_succ]
    refine wpAnyH_ready (rs := [1]) (by kernel_rfl) (by simp) ?_
    refine AllReadyH.cons rfl (fun K hK => ?sc1) AllReadyH.nil
    go_simp
    refine (elements_any _ _ _ _ _ _ _).mono ?_
    rintro e w5 ⟨rfl, b5⟩
    go_simp
    have b05 : Below W3.heap.size W3 w5 := b0.trans (b5.mono (by show W3.heap.size ≤ w4.heap.size; omega))
    have s5 := b05.size
    refine hK.out _ _ ?kc1 (fun hHeld => ?mc1)
    case kc1 =>
      try dsimp only
      exact mkS _ b05
    clear hK K
    try simp only [Act.put, List.setIfInBounds_toArray, List.set_cons_zero, List.set_cons_succ]
    refine wpAnyH_ready (rs := [3]) (by kernel_rfl) (by simp) ?_
    refine AllReadyH.cons rfl (fun K hK => ?sc3) AllReadyH.nil
    go_simp
    refine (elements_any _ _ _ _ _ _ _).mono ?_
    rintro e w6 ⟨rfl, b6⟩
    go_simp
    have b06 : Below W3.heap.size W3 w6 := b05.trans (b6.mono (by omega))
    have s6 := b06.size
    refine hK.out _ _ ?kc3 (fun hHeld => ?mc3)
    case kc3 =>
      try dsimp only
      exact mkS _ b06
    clear hK K
    try simp only [Act.put, List.setIfInBounds_toArray, List.set_cons_zero, List.set_cons_succ]
    refine wpAnyH_ready (rs := [4]) (by kernel_rfl) (by simp) ?_
    refine AllReadyH.cons rfl (fun K hK => ?sc4) AllReadyH.nil
    go_simp
    refine (besideQ_any _ _ _ _ _ _ _).mono ?_
    rintro e w7 ⟨rfl, rfl⟩
    go_simp
    have b07 : Below W3.heap.size W3 ((w6.alloc (.cells #[.slice b1 es.length cb1] 76)).alloc (.cells #[.slice b2 es.length cb2] 76)) := (b06.alloc (by omega) _).alloc (by simp; omega) _
    refine hK.out _ _ ?kc4 (fun hHeld => ?mc4)
    case kc4 =>
      try dsimp only
      exact mkS _ b07
    clear hK K
    try simp only [Act.put, List.setIfInBounds_toArray, List.set_cons_zero, List.set_cons_succ]
    refine wpAnyH_done (by kernel_rfl) ?_ _
    dsimp only [Straight]
    gi_wp2_with fail
    obtain ⟨I, hI⟩ : ∃ I, w6.heap.size = I := ⟨_, rfl⟩
    obtain ⟨V1, hV1⟩ : ∃ V1, w6.alloc (.cells #[.slice b1 es.length cb1] 76) = V1 := ⟨_, rfl⟩
    obtain ⟨V, hV⟩ : ∃ V, V1.alloc (.cells #[.slice b2 es.length cb2] 76) = V := ⟨_, rfl⟩
    rw [hV1, hV] at b07
    have sV1 : V1.heap.size = I + 1 := by rw [← hV1, World.size_alloc, hI]
    have sV : V.heap.size = I + 1 + 1 := by rw [← hV, World.size_alloc, sV1]
    have d5 : Boxed V I 76 (.slice b1 es.length cb1) := by rw [← hV, ← hV1, ← hI]; exact (Boxed.new _ _ _).alloc _
    have d6 : Boxed V (I + 1) 76 (.slice b2 fs.length cb2) := by
      have h := Boxed.new V1 76 (.slice b2 es.length cb2)
      rw [sV1, hV] at h
      rw [HEL2.out]; exact h
    have e2 := R2.later b07
    have hbV : Below B w V := hb2.trans (b07.mono (by omega))
    simp only [hI, hV1, hV]
    have h3 : 3 ≤ n' := hn'
    have hI3 : B + 1 + 1 + 1 ≤ I := by have : W3.heap.size ≤ w6.heap.size := b06.size; omega
    clear hV hV1
    refine wpIn_rangeFunc_ownH (F := Fence.wide) (n := n') rfl (by omega) (gf := 105) (lb := #[.pointer (some ⟨I, 0, none⟩), .pointer (some ⟨I + 1, 0, none⟩)]) rfl trivial (enters_of Tryz.func105 (by kernel_rfl) rfl)
      (besideQ_stops (n' - 1) I B b1 b2 es fs cb1 cb2 (by omega) HEL2.out V (by omega) (by omega) d5.cell d6.cell (hlim1.below hbV) (hlim2.below hbV) hsh1 hsh2) KpS.trans (KpS.b (by omega) (by omega)) (Below.refl _ _) (fun _ => rfl)
      (fun (pre : List (Fin es.length)) X => Row X (B + 1 + 1) 4 #[.bool false] ∧ (∀ x ∈ pre, (q1[x.val]?.getD ⟨false, [], []⟩).rat = (q2[x.val]?.getD ⟨false, [], []⟩).rat) ∧ Below B w X ∧ I + 1 + 1 ≤ X.heap.size)
      (fun c pre X => c = .ret ∧ Row X (B + 1 + 1) 4 #[.bool false] ∧ (∃ x ∈ pre, (q1[x.val]?.getD ⟨false, [], []⟩).rat ≠ (q2[x.val]?.getD ⟨false, [], []⟩).rat) ∧ Below B w X)
      (fun pre X Y row ⟨h1, h2, h3, h4⟩ hg hr => ⟨h1.keepC (KeepC.grown hg (fun r e => (hr r e).2)), h2, h3.grown hg (by have := h3.size; omega) (fun k e => by have := (hr k e).1; omega), Nat.le_trans h4 hg.size⟩)
      (fun c pre X Y row ⟨h0, h1, h2, h3⟩ hg hr => ⟨h0, h1.keepC (KeepC.grown hg (fun r e => (hr r e).2)), h2, h3.grown hg (by have := h3.size; omega) (fun k e => by have := (hr k e).1; omega)⟩)
      ⟨e2, (fun x h => by cases h), hbV, by omega⟩
      (fun (x : Fin es.length) a' X => ∃ p1 p2, I + 1 + 1 ≤ p1 ∧ I + 1 + 1 ≤ p2 ∧ Row X p1 44 #[(es[x.val]?.getD dfE).a, (es[x.val]?.getD dfE).b, (es[x.val]?.getD dfE).c] ∧ Row X p2 44 #[(fs[x.val]?.getD dfE).a, (fs[x.val]?.getD dfE).b, (fs[x.val]?.getD dfE).c] ∧
        a' = { tmps := #[.agg #[.slice a1 s1.length ca1, .slice b1 es.length cb1], .agg #[.slice a2 s2.length ca2, .slice b2 es.length cb2], .pointer (some ⟨B, 0, none⟩), .pointer (some ⟨B + 1, 0, none⟩), .pointer (some ⟨B + 1 + 1, 0, none⟩), .pointer (some ⟨p1, 0, none⟩), .pointer (some ⟨p2, 0, none⟩),
          .pointer (some ⟨B, 0, none⟩), .slice a1 s1.length ca1, .pointer (some ⟨B + 1, 0, none⟩), .slice a2 s2.length ca2, .bool true, .bool false, .bool false, .pointer (some ⟨B, 1, none⟩), .slice b1 es.length cb1, .int .i64 es.length, .pointer (some ⟨B + 1, 1, none⟩), .slice b2 es.length cb2, .int .i64 es.length, .bool false, .bool false,
          .agg #[.slice a1 s1.length ca1, .slice b1 es.length cb1], .slice b1 es.length cb1, .agg #[.slice a2 s2.length ca2, .slice b2 es.length cb2], .slice b2 es.length cb2,
          .func (.func 105) #[] #[.pointer (some ⟨I, 0, none⟩), .pointer (some ⟨I + 1, 0, none⟩)], .agg #[(es[x.val]?.getD dfE).a, (es[x.val]?.getD dfE).b, (es[x.val]?.getD dfE).c], .agg #[(fs[x.val]?.getD dfE).a, (fs[x.val]?.getD dfE).b, (fs[x.val]?.getD dfE).c], undef, undef, undef, undef], defers := [] })
      (fun x a' _ X Y row ⟨p1, p2, g1, g2, h1, h2, h3⟩ hg hr => ⟨p1, p2, g1, g2, h1.keepC (KeepC.grown hg (fun r e => (hr r e).2)), h2.keepC (KeepC.grown hg (fun r e => (hr r e).2)), h3⟩)
      ?assign ?body ?done ?stop
    case assign =>
      rintro l pre ⟨k, hk⟩ X K ⟨h1, h2, h3, h4⟩ hK
      obtain ⟨z1, z2, z3, z4, z5, z6, z7, he⟩ := hsh1 k hk
      obtain ⟨y1, y2, y3, y4, y5, y6, y7, hf⟩ := hsh2 k (by rw [HEL2.out]; exact hk)
      have hs3 := h3.size
      have hbX1 : Below X.heap.size X (X.alloc (.cells #[.bool z1, .slice z2 z3 z4, .slice z5 z6 z7] 44)) := (Below.refl _ _).alloc (Nat.le_refl _) _
      have hbX : Below X.heap.size X ((X.alloc (.cells #[.bool z1, .slice z2 z3 z4, .slice z5 z6 z7] 44)).alloc (.cells #[.bool y1, .slice y2 y3 y4, .slice y5 y6 y7] 44)) := hbX1.alloc (by simp) _
      have kk := KeepC.below hbX
      have HK := Lib.hid hK
      simp only [ratsAt]
      rw [he, hf]
      simp only
      clear hK
      gi_wp2
      refine HK.out _ _ (keepsFrom_below hbX) ⟨hbX.mono (by omega), hbX.block (I + 1) (by omega)⟩ ⟨h1.keepC kk, h2, h3.trans (hbX.mono (by omega)), by simp; omega⟩ ⟨X.heap.size, X.heap.size + 1, h4, by omega, ?_, ?_, ?_⟩
      · simp only [he]; exact (Row.new _ _ _).alloc _
      · simp only [hf]
        have h := Row.new (X.alloc (.cells #[.bool z1, .slice z2 z3 z4, .slice z5 z6 z7] 44)) 44 #[.bool y1, .slice y2 y3 y4, .slice y5 y6 y7]
        simp only [World.size_alloc] at h
        exact h
      · simp only [he, hf]
    case body =>
      rintro l pre ⟨k, hk⟩ a' X hl hrec ⟨h1, h2, h3, h4⟩ ⟨p1, p2, hp1, hp2, hR, hR', rfl⟩ hlt
      have hkf : k < fs.length := by rw [HEL2.out]; exact hk
      obtain ⟨z1, z2, z3, z4, z5, z6, z7, he⟩ := hsh1 k hk
      obtain ⟨y1, y2, y3, y4, y5, y6, y7, hf⟩ := hsh2 k hkf
      simp only at hR hR' ⊢
      rw [he] at hR ⊢
      rw [hf] at hR' ⊢
      simp only at hR hR' ⊢
      have hkq : k < q1.length := by rw [← HEL1.out]; exact hk
      have hkq2 : k < q2.length := by rw [← HLEN.out]; exact hkq
      have hqk : q1[k]? = some q1[k] := List.getElem?_eq_getElem hkq
      have hqk2 : q2[k]? = some q2[k] := List.getElem?_eq_getElem hkq2
      obtain ⟨p, hpe⟩ : ∃ q, q1[k] = q := ⟨_, rfl⟩
      obtain ⟨q, hqe⟩ : ∃ q, q2[k] = q := ⟨_, rfl⟩
      rw [hpe] at hqk
      rw [hqe] at hqk2
      have hek : es[k]? = some es[k] := List.getElem?_eq_getElem hk
      have hfk : fs[k]? = some fs[k] := List.getElem?_eq_getElem hkf
      have hraw := HA1.out.2 k _ _ hek hqk
      have hraw2 := HA2.out.2 k _ _ hfk hqk2
      have e2 : es[k] = ⟨.bool z1, .slice z2 z3 z4, .slice z5 z6 z7⟩ := by rw [hek] at he; exact he
      have f2 : fs[k] = ⟨.bool y1, .slice y2 y3 y4, .slice y5 y6 y7⟩ := by rw [hfk] at hf; exact hf
      rw [e2] at hraw
      rw [f2] at hraw2
      have hlq := HL1.out p (List.mem_of_getElem? hqk)
      have hlq2 := HL2.out q (List.mem_of_getElem? hqk2)
      have hgd : q1[k]?.getD ⟨false, [], []⟩ = p := by rw [hqk]; rfl
      have hgd2 : q2[k]?.getD ⟨false, [], []⟩ = q := by rw [hqk2]; rfl
      obtain ⟨g0, g1, g2, _, _, _⟩ := hR.three
      obtain ⟨j0, j1, j2, _, _, _⟩ := hR'.three
      have hs3 := h3.size
      have hrX := hraw.later (hB.symm ▸ h3 : Below w.heap.size w X)
      have hrX2 := hraw2.later (hB.symm ▸ h3 : Below w.heap.size w X)
      gi_wp2_with fail
      refine roundCall ((sameX_any hrX hrX2 hlq hlq2 (by omega)).mono ?_)
      rintro e w8 ⟨rfl, b8⟩
      have s8 := b8.size
      have R8 := h1.later b8
      have f8 := R8.free 0
      have d8 := R8.cell 0
      by_cases hok : p.rat = q.rat
      · rw [decide_eq_true hok]
        gi_wp2
        refine ⟨keepsFrom_below b8, ⟨b8.mono (by omega), b8.block (I + 1) (by omega)⟩, R8, fun x hx => ?_, h3.trans (b8.mono (by omega)), by omega⟩
        rcases List.mem_append.1 hx with hx | hx
        · exact h2 x hx
        · simp at hx
          subst hx
          simp only
          rw [hgd, hgd2]
          exact hok
      · rw [decide_eq_false hok]
        have R9 : Row (w8.setCell ⟨B + 1 + 1, 0, none⟩ (.bool false)) (B + 1 + 1) 4 #[.bool false] := R8.set 0 _
        gi_wp2
        refine ⟨keepsFrom_set (keepsFrom_below b8) _ _, rfl, R9, ⟨_, List.mem_append_right _ (List.mem_singleton.2 rfl), ?_⟩, (h3.trans (b8.mono (by omega))).setCell (by show B ≤ B + 1 + 1; omega) _⟩
        show (q1[k]?.getD ⟨false, [], []⟩).rat ≠ (q2[k]?.getD ⟨false, [], []⟩).rat
        rw [hgd, hgd2]
        exact hok
    case done =>
      rintro D ys X hD hup ⟨h1, h2, h3, h4⟩ hK
      have hd : dd = true := by
        rw [← HD.out]
        refine allBC_yes HS.out HLEN.out fun k x y hx hy => ?_
        have hk1 : k < q1.length := by
          rcases Nat.lt_or_ge k q1.length with g | g
          · exact g
          · rw [List.getElem?_eq_none g] at hx; cases hx
        have hk2 : k < es.length := by rw [HEL1.out]; exact hk1
        have hm : (⟨k, hk2⟩ : Fin es.length) ∈ ys := by
          have h5 : k ∈ ys.map Fin.val := by rw [show ys.map Fin.val = List.range es.length from hup]; exact List.mem_range.2 hk2
          obtain ⟨z, hz, hv⟩ := List.mem_map.1 h5
          have : z = ⟨k, hk2⟩ := Fin.ext hv
          rw [← this]
          exact hz
        have h5 := h2 _ hm
        simp only at h5
        rw [hx, hy] at h5
        exact decide_eq_true h5
      subst hd
      have c5 := h1.cell 0
      have f5 := h1.free 0
      gi_wp2
      have hK' := (KeepsOthers.setCell X ⟨B + 1 + 1, 0, none⟩ (.bool true)).same D _ hK rfl
      refine ⟨by simp, .inl ⟨_, _, rfl, run_takeDeferred hK', ?_⟩⟩
      have hc5 := cell_kept ((h1.set 0 (.bool true)).cell 0) (grownBy_putObj' _ D (.deferred none)) (fun r e => by cases e; exact ⟨_, hK', rfl⟩)
      simp at hc5
      refine ⟨.bool true, by simp [results, Tryz.f31, go_sem, hc5], rfl, ?_⟩
      rw [hB]
      exact (h3.setCell (p := ⟨B + 1 + 1, 0, none⟩) (by show B ≤ B + 1 + 1; omega) _).trans (belowK_b (n₀ := B) (w := w) (by omega) _ D _ _ (by omega) hK' rfl rfl)
    case stop =>
      rintro D c pre X hD ⟨k, hk, hup⟩ ⟨rfl, h1, ⟨x, hx, hbad⟩, h3⟩ hK
      have hd : dd = false := by
        rw [← HD.out]
        refine allBC_no fun ⟨_, _, h⟩ => hbad ?_
        have hk1 : x.val < q1.length := by rw [← HEL1.out]; exact x.isLt
        have hk2 : x.val < q2.length := by rw [← HLEN.out]; exact hk1
        rw [List.getElem?_eq_getElem hk1, List.getElem?_eq_getElem hk2]
        exact of_decide_eq_true (h x.val _ _ (List.getElem?_eq_getElem hk1) (List.getElem?_eq_getElem hk2))
      subst hd
      gi_wp2
      refine ⟨by simp, .inl ⟨_, _, rfl, run_takeDeferred hK, ?_⟩⟩
      have hc5 := cell_kept (h1.cell 0) (grownBy_putObj' _ D (.deferred none)) (fun r e => by cases e; exact ⟨_, hK, rfl⟩)
      simp at hc5
      refine ⟨.bool false, by simp [results, Tryz.f31, go_sem, hc5], rfl, ?_⟩
      rw [hB]
      exact h3.trans (belowK_b (n₀ := B) (w := w) (by omega) _ D _ _ (by omega) hK rfl rfl)
  · have hd : dd = false := by
      rw [← HD.out]
      exact allBC_no fun ⟨h1, h2, _⟩ => hgo ⟨h1, h2⟩
    subst hd
    by_cases hs : s1 = s2
    · have htt : t = true := by rw [← ht]; exact decide_eq_true hs
      have hne : q1.length ≠ q2.length := fun e => hgo ⟨hs, e⟩
      have hn1 : ((q1.length : Int) != (q2.length : Int)) = true := by simp; omega
      subst htt
      clear hs ht hgo
      go_enter Tryz.func31, Tryz.ntmps31
      go_wp2_with fail
      refine hsame.mono ?_
      rintro e w4 ⟨rfl, b4⟩
      obtain ⟨k0, k1, _, _⟩ := (R0.later b4).two
      obtain ⟨k2, k3, _, _⟩ := (R1.later b4).two
      have R4 := R2.later b4
      have f4 := R4.free 0
      have x4 := R4.cell 0
      have R5 : Row (w4.setCell ⟨B + 1 + 1, 0, none⟩ (.bool false)) (B + 1 + 1) 4 #[.bool false] := R4.set 0 _
      have y4 := R5.cell 0
      simp at y4
      clear R5
      go_wp2_with fail
      refine bodyPost_ret (v := .bool false) (by simp [results, Tryz.results31, go_sem, y4]) rfl ⟨rfl, ?_⟩
      rw [hB]
      exact (hb2.trans (b4.mono (by omega))).setCell (p := ⟨B + 1 + 1, 0, none⟩) (by show B ≤ B + 1 + 1; omega) _
    · have htt : t = false := by rw [← ht]; exact decide_eq_false hs
      subst htt
      go_enter Tryz.func31, Tryz.ntmps31
      go_wp2_with fail
      refine hsame.mono ?_
      rintro e w4 ⟨rfl, b4⟩
      have R4 := R2.later b4
      have f4 := R4.free 0
      have x4 := R4.cell 0
      have R5 : Row (w4.setCell ⟨B + 1 + 1, 0, none⟩ (.bool false)) (B + 1 + 1) 4 #[.bool false] := R4.set 0 _
      have y4 := R5.cell 0
      simp at y4
      clear R5
      go_wp2_with fail
      refine bodyPost_ret (v := .bool false) (by simp [results, Tryz.results31, go_sem, y4]) rfl ⟨rfl, ?_⟩
      rw [hB]
      exact (hb2.trans (b4.mono (by omega))).setCell (p := ⟨B + 1 + 1, 0, none⟩) (by show B ≤ B + 1 + 1; omega) _
end Go.Proofs.YtnhfjacifajdlaaGreat
