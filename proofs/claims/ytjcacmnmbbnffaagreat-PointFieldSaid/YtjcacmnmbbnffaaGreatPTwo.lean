/-
  Package point as it landed: ofTwo, Add, Sub, Mul, Div. (Made by wip/gen/gen_ptwo.py.)
-/
import Derived.Test.YtjcacmnmbbnffaaGreatPJoin
import Derived.Test.YtjcacmnmbbnffaaGreatPOneB
namespace Go.Proofs.YtjcacmnmbbnffaaGreat
open Go.RowKit
set_option linter.unusedVariables false
set_option linter.unusedSimpArgs false

theorem orL_three (x y z : Int) : orL [x, y, z] = if x ≠ 0 then x else if y ≠ 0 then y else z := by
  unfold orL
  by_cases h : x = 0
  · rw [if_pos h, if_neg (by simp [h]), orL_two]
  · rw [if_neg h, if_pos h]
/-- what an operation on two tensors answers -/
def twoC (c : Int) (ok : Bool) : Int := if c ≠ 0 then c else if ok = true then 0 else 17
theorem dotC_parts {s1 s2 : List Int} {q1 q2 : List Q3} (h : dotC s1 s2 q1 q2 = 0) : mayT s1 q1 = 0 ∧ mayT s2 q2 = 0 ∧ s1 = s2 := by
  unfold dotC at h
  split at h
  · rename_i h1; exact absurd h h1
  · rename_i h1
    split at h
    · rename_i h2; exact absurd h h2
    · rename_i h2
      split at h
      · cases h
      · rename_i h3
        exact ⟨by simpa using h1, by simpa using h2, by simpa using h3⟩
set_option maxRecDepth 100000 in
set_option maxHeartbeats 8000000 in
theorem ofTwo_any {F : Nat} {cap : Array Value} {ok : Rat → Rat → Bool} {f : Rat → Rat → Rat} {n N : Nat} {w : World} {u v : Value} {s1 s2 : List Int} {q1 q2 : List Q3} {a1 b1 a2 b2 : Option Addr} {ca1 cb1 ca2 cb2 : Nat} (T1 : TensQ w u s1 q1 a1 ca1 b1 cb1) (T2 : TensQ w v s2 q2 a2 ca2 b2 cb2) (hs1 : s1.length ≤ 17592186044416) (hs2 : s2.length ≤ 17592186044416) (hq1 : q1.length ≤ 1000000) (hq2 : q2.length ≤ 1000000) (hl1 : lensQ q1 n) (hl2 : lensQ q2 n) (hn : n ≤ 1000000)
    (heF : ∀ args w, (callFunc F args).run Tryz.prog w = .ok (.enter F args) w)
    (hdo : ∀ (W : World) (x y : Value) (p q : Q3), p ∈ q1 → q ∈ q2 → Below w.heap.size w W → RawQ W x p → RawQ W y q → Calls Tryz.prog F (#[x, y] ++ cap) W fun e w' => Op2 W.heap.size w' e (ok p.rat q.rat) (f p.rat q.rat) N ∧ Below W.heap.size W w') :
    Calls Tryz.prog 46 #[u, v, .func (.func F) #[] cap] w fun e w' => One w.heap.size w' e (twoC (dotC s1 s2 q1 q2) (zipOk ok q1 q2)) s1 (zipQ f q1 q2) N ∧ Below w.heap.size w w' := by
  have HT1 := Lib.hid T1
  have HT2 := Lib.hid T2
  have HL1 := Lib.hid hl1
  have HL2 := Lib.hid hl2
  have HDO := Lib.hid hdo
  obtain rfl := T1.is
  obtain rfl := T2.is
  obtain ⟨W, hW⟩ : ∃ W, (((w.alloc (.cells #[.slice a1 s1.length ca1, .slice b1 q1.length cb1] 26)).alloc (.cells #[.slice a2 s2.length ca2, .slice b2 q2.length cb2] 26)).alloc (.cells #[.slice none 0 0, .slice none 0 0] 26)) = W := ⟨_, rfl⟩
  have R0 : Row W (w.heap.size) 26 #[.slice a1 s1.length ca1, .slice b1 q1.length cb1] := by rw [← hW]; have h := Row.new w 26 #[.slice a1 s1.length ca1, .slice b1 q1.length cb1]; (try simp only [World.size_alloc] at h); exact ((h.alloc _).alloc _)
  have R1 : Row W (w.heap.size + 1) 26 #[.slice a2 s2.length ca2, .slice b2 q2.length cb2] := by rw [← hW]; have h := Row.new (w.alloc (.cells #[.slice a1 s1.length ca1, .slice b1 q1.length cb1] 26)) 26 #[.slice a2 s2.length ca2, .slice b2 q2.length cb2]; (try simp only [World.size_alloc] at h); exact (h.alloc _)
  have R2 : Row W (w.heap.size + 1 + 1) 26 #[.slice none 0 0, .slice none 0 0] := by rw [← hW]; have h := Row.new ((w.alloc (.cells #[.slice a1 s1.length ca1, .slice b1 q1.length cb1] 26)).alloc (.cells #[.slice a2 s2.length ca2, .slice b2 q2.length cb2] 26)) 26 #[.slice none 0 0, .slice none 0 0]; (try simp only [World.size_alloc] at h); exact h
  have hBW : Below w.heap.size w W := by rw [← hW]; exact ((((Below.refl _ _).alloc (by (try simp) <;> omega) _).alloc (by (try simp) <;> omega) _).alloc (by (try simp) <;> omega) _)
  have hsW : W.heap.size = w.heap.size + 1 + 1 + 1 := by rw [← hW]; simp
  have hm1 := fun (X : World) (hX : Below W.heap.size W X) => mayT7_big (HT1.out.later (hBW.trans (hX.mono (by omega)))) (by omega) HL1.out (by omega)
  have hm2 := fun (X : World) (hX : Below W.heap.size W X) => mayT7_big (HT2.out.later (hBW.trans (hX.mono (by omega)))) (by omega) HL2.out (by omega)
  have hmp := fun (X : World) (hX : Below W.heap.size W X) => mayPair_any (HT1.out.later (hBW.trans (hX.mono (by omega)))) (HT2.out.later (hBW.trans (hX.mono (by omega)))) hs1 hs2
  obtain ⟨m1, hm1e⟩ : ∃ m, mayT s1 q1 = m := ⟨_, rfl⟩
  obtain ⟨m2, hm2e⟩ : ∃ m, mayT s2 q2 = m := ⟨_, rfl⟩
  obtain ⟨m3, hm3e⟩ : ∃ m : Int, (if s1 = s2 then 0 else 13) = m := ⟨_, rfl⟩
  rw [hm1e] at hm1
  rw [hm2e] at hm2
  rw [hm3e] at hmp
  have hcode : dotC s1 s2 q1 q2 = orL [m1, m2, m3] := by
    rw [orL_three]
    unfold dotC
    rw [hm1e, hm2e, ← hm3e]
    by_cases h : s1 = s2
    · simp [h]
    · simp [h]
  have mkS : ∀ X, Below W.heap.size W X → X.cell? ⟨w.heap.size, 0, none⟩ = some (.slice a1 s1.length ca1) ∧ X.cell? ⟨w.heap.size, 1, none⟩ = some (.slice b1 q1.length cb1) ∧ X.cell? ⟨w.heap.size + 1, 0, none⟩ = some (.slice a2 s2.length ca2) ∧ X.cell? ⟨w.heap.size + 1, 1, none⟩ = some (.slice b2 q2.length cb2) := fun X h => by
    obtain ⟨x0, x1, _⟩ := (R0.later h).two
    obtain ⟨x2, x3, _⟩ := (R1.later h).two
    exact ⟨x0, x1, x2, x3⟩
  have B0 : Below W.heap.size W W.drew := (Below.refl _ W).drew
  obtain ⟨c, hc⟩ : ∃ c, orL [m1, m2, m3] = c := ⟨_, rfl⟩
  have HC := Lib.hid (hcode.trans hc)
  have HC2 := Lib.hid hc
  rw [hcode, hc]
  obtain ⟨L, hL⟩ : ∃ L, zipQ f q1 q2 = L := ⟨_, rfl⟩
  obtain ⟨t, ht⟩ : ∃ t, zipOk ok q1 q2 = t := ⟨_, rfl⟩
  obtain ⟨d, hd⟩ : ∃ d, twoC c t = d := ⟨_, rfl⟩
  rw [hL, ht, hd]
  have HLE := Lib.hid hL
  have HTE := Lib.hid ht
  have HDE := Lib.hid hd
  clear hL ht hd
  clear T1 T2 hm1e hm2e hm3e hcode hc hl1 hl2 hdo
  go_enter Tryz.func46, Tryz.ntmps46
  go_wp2_with fail
  (try rw [hW])
  clear hW
  refine wp_region_held (S := fun X => X.cell? ⟨w.heap.size, 0, none⟩ = some (.slice a1 s1.length ca1) ∧ X.cell? ⟨w.heap.size, 1, none⟩ = some (.slice b1 q1.length cb1) ∧ X.cell? ⟨w.heap.size + 1, 0, none⟩ = some (.slice a2 s2.length ca2) ∧ X.cell? ⟨w.heap.size + 1, 1, none⟩ = some (.slice b2 q2.length cb2)) (by kernel_rfl) ?_
  have hHeld := mkS _ B0
  refine todo [0, 2, 4, 5] ?_
  iterate 4
   refine todoH (v := ?_) rfl (by kernel_rfl) (fun _ _ _ h => h) (by assumption) (Or.inl ⟨by rfl, ?_⟩) ?_
   rotate_left
   · intro w hSw; (try dsimp only at hSw); go_simp; (try with_reducible rfl)
   try simp only [Act.put, List.getElem_toArray, List.getElem_cons_succ, List.getElem_cons_zero, List.setIfInBounds_toArray, List.set_cons_zero, List.set_cons_succ]
  refine todone ?_
  refine wpAnyH_ready (rs := [1]) (by kernel_rfl) (by simp) ?_
  refine AllReadyH.cons rfl (fun K hK => ?sq1c1) AllReadyH.nil
  go_simp
  refine (hm1 _ B0).mono ?_
  rintro e y1 ⟨rfl, hy⟩
  have B1 : Below W.heap.size W y1 := B0.trans (hy.mono B0.size)
  have D1 := hy
  clear hy
  go_simp
  refine hK.out _ _ ?kq1c1 (fun hHeld => ?mq1c1)
  case kq1c1 =>
    try dsimp only
    exact mkS _ B1
  clear hK K
  try simp only [Act.put, List.setIfInBounds_toArray, List.set_cons_zero, List.set_cons_succ]
  refine wpAnyH_ready (rs := [3]) (by kernel_rfl) (by simp) ?_
  refine AllReadyH.cons rfl (fun K hK => ?sq2c3) AllReadyH.nil
  go_simp
  refine (hm2 _ B1).mono ?_
  rintro e y2 ⟨rfl, hy⟩
  have B2 : Below W.heap.size W y2 := B1.trans (hy.mono B1.size)
  have D2 := hy
  clear hy
  go_simp
  refine hK.out _ _ ?kq2c3 (fun hHeld => ?mq2c3)
  case kq2c3 =>
    try dsimp only
    exact mkS _ B2
  clear hK K
  try simp only [Act.put, List.setIfInBounds_toArray, List.set_cons_zero, List.set_cons_succ]
  refine wpAnyH_ready (rs := [6]) (by kernel_rfl) (by simp) ?_
  refine AllReadyH.cons rfl (fun K hK => ?sq3c6) AllReadyH.nil
  go_simp
  refine (hmp _ B2).mono ?_
  rintro e y3 ⟨rfl, hy⟩
  have B3 : Below W.heap.size W y3 := B2.trans (hy.mono B2.size)
  have D3 := hy
  clear hy
  go_simp
  refine hK.out _ _ ?kq3c6 (fun hHeld => ?mq3c6)
  case kq3c6 =>
    try dsimp only
    exact mkS _ B3
  clear hK K
  try simp only [Act.put, List.setIfInBounds_toArray, List.set_cons_zero, List.set_cons_succ]
  have z3 := B3.size
  have A3 : Below W.heap.size W (y3.alloc (.cells #[.int .i64 m1, .int .i64 m2, .int .i64 m3] 29)) := B3.alloc (by omega) _
  refine wpAnyH_ready (rs := [7]) (by kernel_rfl) (by simp) ?_
  refine AllReadyH.cons rfl (fun K hK => ?sal3) AllReadyH.nil
  go_simp
  refine hK.out _ _ ?kal3 (fun hHeld => ?mal3)
  case kal3 =>
    try dsimp only
    exact mkS _ A3
  clear hK K
  try simp only [Act.put, List.setIfInBounds_toArray, List.set_cons_zero, List.set_cons_succ]
  refine wpAnyH_ready (rs := [8]) (by kernel_rfl) (by simp) ?_
  refine AllReadyH.cons rfl (fun K hK => ?sor3) AllReadyH.nil
  go_simp
  refine (or_any (xs := [m1, m2, m3]) (b := y3.heap.size) (fun k hk => by
    have R := Row.new y3 29 #[.int .i64 m1, .int .i64 m2, .int .i64 m3]
    simp only [List.length_cons, List.length_nil] at hk
    by_cases h0 : k = 0
    · subst h0; exact R.cell 0
    by_cases h1 : k = 1
    · subst h1; exact R.cell 1
    by_cases h2 : k = 2
    · subst h2; exact R.cell 2
    · omega) (by simp)).mono ?_
  rintro e y4 ⟨rfl, rfl⟩
  have B4 := A3
  go_simp
  refine hK.out _ _ ?kor3 (fun hHeld => ?mor3)
  case kor3 =>
    try dsimp only
    exact mkS _ A3
  clear hK K
  try simp only [Act.put, List.setIfInBounds_toArray, List.set_cons_zero, List.set_cons_succ]
  rw [HC2.out]
  refine wpAnyH_ready (rs := [9]) (by kernel_rfl) (by simp) ?_
  refine AllReadyH.cons rfl (fun K hK => ?sas) AllReadyH.nil
  go_simp
  refine hK.out _ _ ?kas (fun hHeld => ?mas)
  case kas =>
    try dsimp only
    exact mkS _ A3
  clear hK K
  try simp only [Act.put, List.setIfInBounds_toArray, List.set_cons_zero, List.set_cons_succ]
  refine wpAnyH_done (by kernel_rfl) ?_ _
  (try dsimp only [Straight])
  obtain ⟨y4, hy4⟩ : ∃ y4, y3.alloc (.cells #[.int .i64 m1, .int .i64 m2, .int .i64 m3] 29) = y4 := ⟨_, rfl⟩
  rw [hy4] at A3 ⊢
  obtain ⟨x0, x1, x2, x3⟩ := mkS _ A3
  have P1 := R2.later A3
  have Q0 := R0.later A3
  have s4 := A3.size
  have hB4 : Below w.heap.size w y4 := hBW.trans (A3.mono (by omega))
  have H1 := Lib.hid hm1
  clear hy4 hm1 hm2 hmp D1 D2 D3 B1 B2 B3 z3
  by_cases h0 : c = 0
  · subst h0
    obtain ⟨hv1, hv2, hs⟩ := dotC_parts HC.out
    have hlen : q2.length = q1.length := by
      have g1 := (mayT_valid hv1).1
      have g2 := (mayT_valid hv2).1
      rw [← hs] at g2
      omega
    have hj := joined_any (ok := ok) (f := f) (N := N) (HT1.out.later hB4).el (HT2.out.later hB4).el hlen hq1 heF (fun X x y p q hp hq hX hx hy => HDO.out X x y p q hp hq (hB4.trans (hX.mono (by omega))) hx hy)
    rw [HLE.out, HTE.out] at hj
    have HJ := Lib.hid hj
    clear hj hv1 hv2 hs hlen mkS
    go_wp2_with fail
    refine HJ.out.mono ?_
    rintro e y5 ⟨⟨ht, r, rfl, RO⟩ | ⟨ht, rfl⟩, hb5⟩
    · have hd0 : d = 0 := by rw [← HDE.out, ht]; rfl
      obtain ⟨b', cb', rfl⟩ := rowO_slice RO
      have s5 := hb5.size
      obtain ⟨k0, k1, _, _⟩ := (Q0.later hb5).two
      have P5 := P1.later hb5
      have HO := Lib.hid RO
      have hsh := shaped_any (b := b') (n := L.length) (cb := cb') ((HT1.out.later hB4).later hb5).sh HT1.out.nila hs1
      have HSH := Lib.hid hsh
      obtain ⟨l, hl⟩ : ∃ l, L.length = l := ⟨_, rfl⟩
      rw [hl] at hsh ⊢
      have HLL := Lib.hid hl
      have hSH := Lib.hid hsh
      clear hsh hl RO HSH
      go_wp2_with fail
      refine hSH.out.mono ?_
      rintro e y6 ⟨a', ca', rfl, RS, hb6⟩
      have s6 := hb6.size
      have P6 := P5.later hb6
      obtain ⟨u0, u1, g0, g1⟩ := P6.two
      have HR := Lib.hid RS
      clear RS
      go_wp2_with fail
      have P7 := P6.set2 (.slice a' s1.length ca') (.slice b' l cb')
      obtain ⟨z0, z1, _, _⟩ := P7.two
      have hR : ResT w.heap.size y6 (.agg #[.slice a' s1.length ca', .slice b' l cb']) s1 L N := ⟨a', b', ca', cb', by rw [HLL.out], HR.out.mono (by omega), (HO.out.later hb6 (fun v x h => h.later hb6)).mono (by omega) (fun v x h => h.mono (by omega))⟩
      refine bodyPost_ret (v := .tuple #[.agg #[.slice a' s1.length ca', .slice b' l cb'], .int .i64 0]) (by simp [results, Tryz.results46, go_sem, z0, z1]) rfl ⟨.inl ⟨hd0, _, rfl, hR.far P6 (by decide) (by decide) (by decide) (kept2 _ _)⟩, below_set2 ((hB4.trans (hb5.mono (by omega))).trans (hb6.mono (by omega))) (by omega) _ _⟩
    · have hd0 : d = 17 := by rw [← HDE.out, ht]; rfl
      have s5 := hb5.size
      have P5 := P1.later hb5
      obtain ⟨u0, u1, g0, g1⟩ := P5.two
      go_wp2_with fail
      have P7 := P5.set2 (.slice none 0 0) (.slice none 0 0)
      obtain ⟨z0, z1, _, _⟩ := P7.two
      refine bodyPost_ret (v := .tuple #[noTensor, .int .i64 17]) (by simp [results, Tryz.results46, go_sem, z0, z1, noTensor]) rfl ⟨.inr ⟨by rw [hd0]; decide, by rw [hd0]⟩, below_set2 (hB4.trans (hb5.mono (by omega))) (by omega) _ _⟩
  · have hne : (c != 0) = true := by simp [h0]
    have H0 := Lib.hid h0
    have htw : d = c := by rw [← HDE.out]; unfold twoC; rw [if_pos h0]
    subst htw
    obtain ⟨u0, u1, g0, g1⟩ := P1.two
    clear h0 mkS
    go_wp2_with fail
    have P3 := P1.set2 (.slice none 0 0) (.slice none 0 0)
    obtain ⟨z0, z1, _, _⟩ := P3.two
    refine bodyPost_ret (v := .tuple #[noTensor, .int .i64 d]) (by simp [results, Tryz.results46, go_sem, z0, z1, noTensor]) rfl ⟨.inr ⟨H0.out, rfl⟩, below_set2 hB4 (by omega) _ _⟩
end Go.Proofs.YtjcacmnmbbnffaaGreat
