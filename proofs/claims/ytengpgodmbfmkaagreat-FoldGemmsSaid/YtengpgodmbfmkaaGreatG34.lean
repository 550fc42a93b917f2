/-
  Part 34 of 39: contracts and what they rest on (FSums, FKit).
-/
import Derived.Test.YtengpgodmbfmkaaGreatG19
import Derived.Test.YtengpgodmbfmkaaGreatG32
namespace Go.Proofs.YtengpgodmbfmkaaGreat
set_option linter.unusedVariables false
set_option linter.unusedSimpArgs false
set_option maxRecDepth 100000
set_option maxHeartbeats 40000000
section
open Go.RowKit
theorem sumF_any (kb : Nat) {n : Nat} {w : World} {v : Value} {s ys : List Int} {qs : List Q3} {a b d : Option Addr} {ca cb cd : Nat} (T : TensQ w v s qs a ca b cb) (hs : s.length ≤ 17592186044416) (hl : lensQ qs n) (D : ArgS w (.slice d ys.length cd) ys d cd) (nd : d = none → cd = 0) (hy : ys.length ≤ 1000000) (hn : (n + 10) * 2 ^ kb ≤ 16000000) (hkb : qs.length ≤ 2 ^ kb) (hq : qs.length ≤ 1000000) (hn4 : n ≤ 4000000) :
 Calls Tryz.prog 13 #[v, .slice d ys.length cd] w fun e w' => One w.heap.size w' e (orL [mayT s qs, axC ys (s.length : Int)]) (dropS s ys) (sumF s ys (qs.map Q3.rat)) ((n + 10) * 2 ^ kb) ∧ Below w.heap.size w w' := by
 have HT := Lib.hid T
 have HD := Lib.hid D
 have HL := Lib.hid hl
 obtain rfl := T.is
 obtain ⟨W, hW⟩ : ∃ W, ((w.alloc (.cells #[.slice a s.length ca, .slice b qs.length cb] 26)).alloc (.cells #[.slice none 0 0, .slice none 0 0] 26)) = W := ⟨_, rfl⟩
 have R0 : Row W (w.heap.size) 26 #[.slice a s.length ca, .slice b qs.length cb] := by rw [← hW]; have h := Row.new w 26 #[.slice a s.length ca, .slice b qs.length cb]; (try simp only [World.size_alloc] at h); exact (h.alloc _)
 have R1 : Row W (w.heap.size + 1) 26 #[.slice none 0 0, .slice none 0 0] := by rw [← hW]; have h := Row.new (w.alloc (.cells #[.slice a s.length ca, .slice b qs.length cb] 26)) 26 #[.slice none 0 0, .slice none 0 0]; (try simp only [World.size_alloc] at h); exact h
 have hBW : Below w.heap.size w W := by rw [← hW]; exact (((Below.refl _ _).alloc (by (try simp) <;> omega) _).alloc (by (try simp) <;> omega) _)
 have hsW : W.heap.size = w.heap.size + 1 + 1 := by rw [← hW]; simp
 have hm := fun (X : World) (hX : Below W.heap.size W X) => mayT7_big (HT.out.later (hBW.trans (hX.mono (by omega)))) (by omega) HL.out (by omega)
 have hp := fun (X : World) (hX : Below W.heap.size W X) => mayAxes_any (s.length : Int) (HD.out.later (hBW.trans (hX.mono (by omega)))) (by omega) (by omega) (by omega)
 obtain ⟨m, hmm⟩ : ∃ m, mayT s qs = m := ⟨_, rfl⟩
 obtain ⟨p, hpp⟩ : ∃ p, axC ys (s.length : Int) = p := ⟨_, rfl⟩
 rw [hmm] at hm
 rw [hpp] at hp
 have hsum := fun (X : World) (hX : Below w.heap.size w X) (h0 : m = 0) => summed_any kb (HT.out.later hX) (hmm.trans h0) HL.out (HD.out.later hX) nd hy hn hkb hn4
 obtain ⟨BB, hBB⟩ : ∃ BB, (n + 10) * 2 ^ kb = BB := ⟨_, rfl⟩
 rw [hBB] at hsum
 obtain ⟨L, hL⟩ : ∃ L, sumF s ys (qs.map Q3.rat) = L := ⟨_, rfl⟩
 obtain ⟨t, ht⟩ : ∃ t, dropS s ys = t := ⟨_, rfl⟩
 rw [hL, ht] at hsum
 rw [hmm, hpp, hL, hBB, ht]
 obtain ⟨c, hc⟩ : ∃ c, orL [m, p] = c := ⟨_, rfl⟩
 have HC := Lib.hid hc
 have HSUM := Lib.hid hsum
 rw [hc]
 obtain ⟨yl, hyl⟩ : ∃ n, ys.length = n := ⟨_, rfl⟩
 have HYL := Lib.hid hyl
 have mkS : ∀ X, Below W.heap.size W X → X.cell? ⟨w.heap.size, 0, none⟩ = some (.slice a s.length ca) ∧ X.cell? ⟨w.heap.size, 1, none⟩ = some (.slice b qs.length cb) ∧ Below W.heap.size W X := fun X h => by
  obtain ⟨x0, x1, _⟩ := (R0.later h).two
  exact ⟨x0, x1, h⟩
 have B0 : Below W.heap.size W W.drew := (Below.refl _ W).drew
 rw [hyl] at hp ⊢
 rw [hyl] at hsum
 have HSUM2 := Lib.hid hsum
 clear T D hmm hpp hL hc hl ht hBB hn hkb hyl hsum
 go_enter Tryz.func13, Tryz.ntmps13
 go_wp2_with fail
 (try rw [hW])
 clear hW
 refine wp_region_held (S := fun X => X.cell? ⟨w.heap.size, 0, none⟩ = some (.slice a s.length ca) ∧ X.cell? ⟨w.heap.size, 1, none⟩ = some (.slice b qs.length cb) ∧ Below W.heap.size W X) (by kernel_rfl) ?_
 have hHeld := mkS _ B0
 refine todo [0, 2, 3, 4, 5] ?_
 iterate 5
  refine todoH (v := ?_) rfl (by kernel_rfl) (fun _ _ _ h => h) (by assumption) (Or.inl ⟨by rfl, ?_⟩) ?_
  rotate_left
  · intro w hSw; (try dsimp only at hSw); go_simp; (try with_reducible rfl)
  try simp only [Act.put, nA, nB, nC, nD, nE, nF]
 refine todone ?_
 refine wpAnyH_ready (rs := [1]) (by kernel_rfl) (by simp) ?_
 refine AllReadyH.cons rfl (fun K hK => ?sh_1) AllReadyH.nil
 go_simp
 refine (hm _ B0).mono ?_
 rintro e y1 ⟨rfl, hy⟩
 have B1 : Below W.heap.size W y1 := B0.trans (hy.mono B0.size)
 have Dh1 := hy
 clear hy
 go_simp
 refine hK.out _ _ (mkS _ B1) (fun hHeld2 => ?mh_1)
 clear hK K hHeld
 have hHeld := hHeld2
 clear hHeld2
 try simp only [Act.put, nA, nB, nC, nD, nE, nF]
 refine wpAnyH_ready (rs := [6]) (by kernel_rfl) (by simp) ?_
 refine AllReadyH.cons rfl (fun K hK => ?sh_6) AllReadyH.nil
 go_simp
 refine (hp _ B1).mono ?_
 rintro e yy ⟨rfl, rfl⟩
 go_simp
 refine hK.out _ _ (mkS _ B1) (fun hHeld2 => ?mh_6)
 clear hK K hHeld
 have hHeld := hHeld2
 clear hHeld2
 try simp only [Act.put, nA, nB, nC, nD, nE, nF]
 obtain ⟨y2, hh2⟩ : ∃ Y, y1.alloc (.cells #[.int .i64 m, .int .i64 p] 29) = Y := ⟨_, rfl⟩
 have B2 : Below W.heap.size W y2 := by rw [← hh2]; exact B1.alloc B1.size _
 have Rh2 : Row y2 y1.heap.size 29 #[.int .i64 m, .int .i64 p] := by rw [← hh2]; exact Row.new _ _ _
 refine wpAnyH_ready (rs := [7]) (by kernel_rfl) (by simp) ?_
 refine AllReadyH.cons rfl (fun K hK => ?sh_7) AllReadyH.nil
 go_simp
 (try rw [hh2])
 clear hh2
 refine hK.out _ _ (mkS _ B2) (fun hHeld2 => ?mh_7)
 clear hK K hHeld
 have hHeld := hHeld2
 clear hHeld2
 try simp only [Act.put, nA, nB, nC, nD, nE, nF]
 refine wpAnyH_ready (rs := [8]) (by kernel_rfl) (by simp) ?_
 refine AllReadyH.cons rfl (fun K hK => ?sh_8) AllReadyH.nil
 go_simp
 refine (or_any (xs := [m, p]) (b := y1.heap.size) (fun k hk => by
  simp only [List.length_cons, List.length_nil] at hk
  by_cases h0 : k = 0
  · subst h0; exact Rh2.cell 0
  by_cases h1 : k = 1
  · subst h1; exact Rh2.cell 1
  omega) (by simp)).mono ?_
 rintro e yy ⟨rfl, rfl⟩
 go_simp
 rw [HC.out]
 refine hK.out _ _ (mkS _ B2) (fun hHeld2 => ?mh_8)
 clear hK K hHeld
 have hHeld := hHeld2
 clear hHeld2
 try simp only [Act.put, nA, nB, nC, nD, nE, nF]
 refine todo [9] ?_
 iterate 1
  refine todoH (v := ?_) rfl (by kernel_rfl) (fun _ _ _ h => h) (by assumption) (Or.inl ⟨by rfl, ?_⟩) ?_
  rotate_left
  · intro w hSw; (try dsimp only at hSw); go_simp; (try with_reducible rfl)
  try simp only [Act.put, nA, nB, nC, nD, nE, nF]
 refine todone ?_
 refine wpAnyH_done (by kernel_rfl) ?_ _
 (try dsimp only [Straight])
 have P1 := R1.later B2
 obtain ⟨x0, x1, _⟩ := mkS _ B2
 have s2 := B2.size
 have hB2 : Below w.heap.size w y2 := hBW.trans (B2.mono (by omega))
 by_cases h0 : c = 0
 · subst h0
   obtain ⟨hm0, hp0⟩ := orL_zero HC.out
   have hea := HSUM2.out y2 hB2 hm0
   have HEA := Lib.hid hea
   clear hea hm0 hp0 mkS
   go_wp2_with fail
   refine HEA.out.mono ?_
   rintro e w2 ⟨r, rfl, hT, hb2⟩
   obtain ⟨a', b', ca', cb', rfl, RS, RO⟩ := hT
   have P2 := P1.later hb2
   have s3 := hb2.size
   obtain ⟨u0, u1, g0, g1⟩ := P2.two
   have HR := Lib.hid RS
   have HO := Lib.hid RO
   clear RS RO
   obtain ⟨l, hl⟩ : ∃ l, L.length = l := ⟨_, rfl⟩
   obtain ⟨l2, hl2⟩ : ∃ l, t.length = l := ⟨_, rfl⟩
   have HL2 := Lib.hid hl
   have HL3 := Lib.hid hl2
   rw [hl, hl2]
   clear hl hl2
   go_wp2_with fail
   have P3 := P2.set2 (.slice a' l2 ca') (.slice b' l cb')
   obtain ⟨z0, z1, _, _⟩ := P3.two
   refine bodyPost_ret (v := .tuple #[.agg #[.slice a' l2 ca', .slice b' l cb'], .int .i64 0]) (by simp [results, Tryz.results13, go_sem, z0, z1]) rfl ⟨.inl ⟨rfl, _, rfl, ?_⟩, below_set2 (hB2.trans (hb2.mono (by omega))) (by omega) _ _⟩
   have hR : ResT w.heap.size w2 (.agg #[.slice a' l2 ca', .slice b' l cb']) t L BB := ResT.mono ⟨a', b', ca', cb', by rw [HL2.out, HL3.out], HR.out, HO.out⟩ hB2.size
   exact hR.far P2 (by decide) (by decide) (by decide) (kept2 _ _)
 · have hne : (c != 0) = true := by simp [h0]
   have H0 := Lib.hid h0
   obtain ⟨u0, u1, g0, g1⟩ := P1.two
   clear h0 mkS
   go_wp2_with fail
   have P3 := P1.set2 (.slice none 0 0) (.slice none 0 0)
   obtain ⟨z0, z1, _, _⟩ := P3.two
   refine bodyPost_ret (v := .tuple #[noTensor, .int .i64 c]) (by simp [results, Tryz.results13, go_sem, z0, z1, noTensor]) rfl ⟨.inr ⟨H0.out, rfl⟩, below_set2 hB2 (by omega) _ _⟩
def frX (k : Int) : Rat := ratOf (decide ((1 : Int) < 0) != decide (k < 0)) (((1 : Int).natAbs : Nat) : Int) ((k.natAbs : Nat) : Int)
def perF (s ys : List Int) : Nat := cntF s / cntF (dropS s ys)
def meanF (s ys : List Int) (L : List Rat) : List Rat := (sumF s ys L).map fun x => x * frX (perF s ys : Int)
theorem One.zero {base N : Nat} {w : World} {e : Ending} {s : List Int} {L : List Rat} (h : One base w e 0 s L N) : ∃ r, e = .returned (.tuple #[r, .int .i64 0]) ∧ ResT base w r s L N := by
 rcases h with ⟨_, r, h1, h2⟩ | ⟨h, _⟩
 · exact ⟨r, h1, h2⟩
 · exact absurd rfl h
theorem meanF_any (kb : Nat) {n : Nat} {w : World} {v : Value} {s ys : List Int} {qs : List Q3} {a b d : Option Addr} {ca cb cd : Nat} (T : TensQ w v s qs a ca b cb) (hs : s.length ≤ 17592186044416) (hl : lensQ qs n) (D : ArgS w (.slice d ys.length cd) ys d cd) (nd : d = none → cd = 0) (hy : ys.length ≤ 1000000) (hn : (n + 10) * 2 ^ kb ≤ 900000) (hkb : qs.length ≤ 2 ^ kb) (hq : qs.length ≤ 1000000) (hn4 : n ≤ 4000000) :
 Calls Tryz.prog 14 #[v, .slice d ys.length cd] w fun e w' => One w.heap.size w' e (orL [mayT s qs, axC ys (s.length : Int)]) (dropS s ys) (meanF s ys (qs.map Q3.rat)) (2 * ((n + 10) * 2 ^ kb + 4 + 2) + 4) ∧ Below w.heap.size w w' := by
 have HT := Lib.hid T
 have HD := Lib.hid D
 obtain rfl := T.is
 obtain ⟨W, hW⟩ : ∃ W, ((w.alloc (.cells #[.slice a s.length ca, .slice b qs.length cb] 26)).alloc (.cells #[.slice none 0 0, .slice none 0 0] 26)) = W := ⟨_, rfl⟩
 have R0 : Row W (w.heap.size) 26 #[.slice a s.length ca, .slice b qs.length cb] := by rw [← hW]; have h := Row.new w 26 #[.slice a s.length ca, .slice b qs.length cb]; (try simp only [World.size_alloc] at h); exact (h.alloc _)
 have R1 : Row W (w.heap.size + 1) 26 #[.slice none 0 0, .slice none 0 0] := by rw [← hW]; have h := Row.new (w.alloc (.cells #[.slice a s.length ca, .slice b qs.length cb] 26)) 26 #[.slice none 0 0, .slice none 0 0]; (try simp only [World.size_alloc] at h); exact h
 have hBW : Below w.heap.size w W := by rw [← hW]; exact (((Below.refl _ _).alloc (by (try simp) <;> omega) _).alloc (by (try simp) <;> omega) _)
 have hsW : W.heap.size = w.heap.size + 1 + 1 := by rw [← hW]; simp
 have hsum := sumF_any kb (HT.out.later hBW) hs hl (HD.out.later hBW) nd hy (Nat.le_trans hn (by omega)) hkb hq hn4
 have hgood : orL [mayT s qs, axC ys (s.length : Int)] = 0 → OkS s ∧ qs.length = cntF s := fun h => by
  obtain ⟨h1, _⟩ := orL_zero h
  have ok := mayC_zero.1 (mayT_rank h1)
  have h3 := (mayT_valid h1).1
  rw [ok.count] at h3
  have := ok.cnt
  exact ⟨ok, by omega⟩
 obtain ⟨c, hc⟩ : ∃ c, orL [mayT s qs, axC ys (s.length : Int)] = c := ⟨_, rfl⟩
 rw [hc] at hsum hgood ⊢
 obtain ⟨BB, hBB⟩ : ∃ BB, (n + 10) * 2 ^ kb = BB := ⟨_, rfl⟩
 rw [hBB] at hsum hn ⊢
 obtain ⟨yl, hyl⟩ : ∃ n, ys.length = n := ⟨_, rfl⟩
 rw [hyl] at hsum ⊢
 have HG := Lib.hid hgood
 have HR1 := Lib.hid R1
 have HR0 := Lib.hid R0
 obtain ⟨p0, p1, _, _⟩ := R0.two
 have HNL := Lib.hid hl
 obtain ⟨L, hL⟩ : ∃ L, sumF s ys (qs.map Q3.rat) = L := ⟨_, rfl⟩
 obtain ⟨ML, hML⟩ : ∃ L, meanF s ys (qs.map Q3.rat) = L := ⟨_, rfl⟩
 obtain ⟨t, ht⟩ : ∃ t, dropS s ys = t := ⟨_, rfl⟩
 rw [hL, ht] at hsum
 rw [hML, ht]
 have HLL := Lib.hid hL
 have HML := Lib.hid hML
 have HTT := Lib.hid ht
 obtain ⟨n4, hn4'⟩ : ∃ m, qs.length = m := ⟨_, rfl⟩
 have HN4 := Lib.hid hn4'
 rw [hn4'] at hW p1 hsum hq ⊢
 clear T D hc hBB hyl hgood hkb hl hL hML ht hn4'
 go_enter Tryz.func14, Tryz.ntmps14
 (try rw [hW])
 go_wp2_with fail
 (try rw [hW])
 clear hW
 refine hsum.mono ?_
 rintro e w2 ⟨hone, hb2⟩
 have P1 := HR1.out.later hb2
 have P0 := HR0.out.later hb2
 have hB2 : Below w.heap.size w w2 := hBW.trans (hb2.mono (by omega))
 have s2 := hb2.size
 by_cases h0 : c = 0
 · subst h0
   obtain ⟨ok, hql⟩ := HG.out rfl
   have okd := drop_ok ys ok
   have hcd := okd.cnt
   have hLl : L.length = cntF (dropS s ys) := by rw [← HLL.out, sumF_len]
   obtain ⟨k, hk⟩ : ∃ k, perF s ys = k := ⟨_, rfl⟩
   have hmean : ML = L.map fun x => x * frX (k : Int) := by rw [← HML.out, ← hk, ← HLL.out]; rfl
   have hk2 : n4 / L.length = k := by rw [← HN4.out, hql, hLl, ← hk]; rfl
   have hk1 : 1 ≤ k := by
    rw [← hk2, Nat.le_div_iff_mul_le (by omega), Nat.one_mul, hLl, ← HN4.out, hql]
    have h2 := ok.cnt
    have h4 := (prod_two s ys ok.pos s.length (Nat.le_refl _))
    rw [take_all rfl] at h4
    have h5 : prodS (dropS s ys) ≤ prodS s := by unfold dropS; omega
    omega
   rw [HTT.out] at hcd okd hLl
   obtain ⟨r, rfl, hT⟩ := hone.zero
   have HRT := Lib.hid hT
   obtain ⟨a', b', ca', cb', rfl, _, _⟩ := hT
   obtain ⟨ll, hll⟩ : ∃ m, L.length = m := ⟨_, rfl⟩
   obtain ⟨tl, htl⟩ : ∃ m, t.length = m := ⟨_, rfl⟩
   obtain ⟨V, hV⟩ : ∃ V, w2.alloc (.cells #[.slice a' tl ca', .slice b' ll cb'] 26) = V := ⟨_, rfl⟩
   have bV : Below w2.heap.size w2 V := by rw [← hV]; exact (Below.refl _ _).alloc (Nat.le_refl _) _
   have RV : Row V w2.heap.size 26 #[.slice a' tl ca', .slice b' ll cb'] := by rw [← hV]; exact Row.new _ _ _
   have BV : Below w.heap.size w V := hB2.trans (bV.mono hB2.size)
   obtain ⟨q2, a2, c2, ca2, cc2, T2, e2, l2, k2⟩ := (HRT.out.later bV).tens
   have g2 : q2.length = ll := by rw [← hll, ← e2]; simp
   have hm2 : mayT t q2 = 0 := mayT_ok (mayC_ok okd) (by rw [okd.count, g2, ← hll, hLl]; exact okd.cnt.1) k2
   have hk6 : k ≤ n4 := by rw [← hk2]; exact Nat.div_le_self _ _
   have hfr := fun (X : World) => frac_any 1 (k : Int) X (by omega) (by omega) (by omega) (by omega) (by omega)
   have P0V := P0.later bV
   have P1V := P1.later bV
   obtain ⟨x0, x1, _, _⟩ := P0V.two
   obtain ⟨x2, x3, _, _⟩ := RV.two
   rw [hll] at hk2 hLl ⊢
   rw [htl]
   rw [HN4.out] at x1
   have et : Int.tdiv (n4 : Int) (ll : Int) = (k : Int) := by rw [Int.tdiv_eq_ediv_of_nonneg (by omega), ← hk2, Int.natCast_ediv]
   have hl0 : ¬ (ll : Int) = 0 := by omega
   have hl0b : ((ll : Int) == 0) = false := by rw [beq_eq_false_iff_ne]; exact hl0
   have HT2 := Lib.hid T2
   have HM2 := Lib.hid hm2
   have HE2 := Lib.hid e2
   have HL2 := Lib.hid l2
   have HLLL := Lib.hid hll
   have HTL := Lib.hid htl
   have HG2 := Lib.hid g2
   have HMEAN := Lib.hid hmean
   have hFX : ratOf (decide ((1 : Int) < 0) != decide ((k : Int) < 0)) (((1 : Int).natAbs : Nat) : Int) (((k : Int).natAbs : Nat) : Int) = frX (k : Int) := rfl
   rw [hFX] at hfr
   have okd4 := okd.rank
   have hll6 : ll ≤ 1024 := by omega
   clear T2 hm2 e2 l2 hll htl hLl hk hk2 hql hone hcd okd ok HRT hmean hFX g2
   go_wp2_with fail
   (try rw [hV])
   clear hV
   refine (hfr V).mono ?_
   rintro e w3 ⟨r3, rfl, Q3', hb3⟩
   obtain ⟨m5, f1, l1, j1, f2, l2, j2, e5⟩ := id Q3'.shape
   subst e5
   obtain ⟨V3, hV3⟩ : ∃ V3, w3.alloc (.cells #[.bool m5, .slice f1 l1 j1, .slice f2 l2 j2] 54) = V3 := ⟨_, rfl⟩
   have bV3 : Below w3.heap.size w3 V3 := by rw [← hV3]; exact (Below.refl _ _).alloc (Nat.le_refl _) _
   have RV3 : Row V3 w3.heap.size 54 #[.bool m5, .slice f1 l1 j1, .slice f2 l2 j2] := by rw [← hV3]; exact Row.new _ _ _
   have hb3V : Below V.heap.size V V3 := hb3.trans (bV3.mono hb3.size)
   have BV3 : Below w.heap.size w V3 := BV.trans (hb3V.mono BV.size)
   obtain ⟨y0, y1, _, _⟩ := (RV.later hb3V).two
   obtain ⟨y2, y3, y4, _, _, _⟩ := RV3.three
   have Q3V := (Q3'.later bV3).arg
   have T3 := HT2.out.later hb3V
   have hsc := scaleP_any T3 (by omega) (by have := HG2.out; omega) HL2.out (show BB ≤ 1000000 by omega) Q3V (by omega)
   rw [HM2.out, show (q2.map fun q => q.rat * frX (k : Int)) = ML from by rw [HMEAN.out, ← HE2.out, List.map_map]; rfl] at hsc
   have hT2 := HT2.out.is
   rw [HG2.out] at hT2
   simp only [Value.agg.injEq, Array.mk.injEq, List.cons.injEq, and_true, Value.slice.injEq] at hT2
   obtain ⟨⟨rfl, e6, rfl⟩, rfl, e7, rfl⟩ := hT2
   clear e6 e7
   rw [HTL.out, HLLL.out] at hsc
   have P1W := P1V.later hb3V
   have HP1W := Lib.hid P1W
   clear x0 x1 x2 x3 Q3' hfr T3 Q3V
   go_wp2_with fail
   (try rw [hV3])
   clear hV3
   refine hsc.mono ?_
   rintro e w4 ⟨hone4, hb4⟩
   obtain ⟨r4, rfl, hT4⟩ := hone4.zero
   have HR4 := Lib.hid hT4
   obtain ⟨a5, b5, ca5, cb5, rfl, _, _⟩ := hT4
   rw [HTL.out]
   obtain ⟨ml, hml⟩ : ∃ m, ML.length = m := ⟨_, rfl⟩
   have HMLL := Lib.hid hml
   rw [hml]
   have P4 := HP1W.out.later hb4
   obtain ⟨u0, u1, g0, g1⟩ := P4.two
   have HP4 := Lib.hid P4
   have B4 : Below w.heap.size w w4 := BV3.trans (hb4.mono BV3.size)
   clear hml hone4 P4 hsc
   go_wp2_with fail
   have P5 := HP4.out.set2 (.slice a5 tl ca5) (.slice b5 ml cb5)
   obtain ⟨z0, z1, _, _⟩ := P5.two
   refine bodyPost_ret (v := .tuple #[.agg #[.slice a5 tl ca5, .slice b5 ml cb5], .int .i64 0]) (by simp [results, Tryz.results14, go_sem, z0, z1]) rfl ⟨.inl ⟨rfl, _, rfl, ?_⟩, below_set2 B4 (by omega) _ _⟩
   have hR : ResT w.heap.size w4 (.agg #[.slice a5 tl ca5, .slice b5 ml cb5]) t ML (2 * (BB + 4 + 2) + 4) := by
    have h := HR4.out.mono BV3.size
    rwa [HTL.out, HMLL.out] at h
   exact hR.far HP4.out (by decide) (by decide) (by decide) (kept2 _ _)
 · have hne : (c != 0) = true := by simp [h0]
   have hbad : e = .returned (.tuple #[noTensor, .int .i64 c]) := by
    rcases hone with ⟨h, _⟩ | ⟨_, h⟩
    · exact absurd h h0
    · exact h
   subst hbad
   have H0 := Lib.hid h0
   have bV : Below w2.heap.size w2 (w2.alloc (.cells #[.slice none 0 0, .slice none 0 0] 26)) := (Below.refl _ _).alloc (Nat.le_refl _) _
   have BV := hB2.trans (bV.mono hB2.size)
   have PV := P1.later bV
   obtain ⟨u0, u1, g0, g1⟩ := PV.two
   unfold noTensor
   clear h0 hone
   go_wp2_with fail
   have P3 := PV.set2 (.slice none 0 0) (.slice none 0 0)
   obtain ⟨z0, z1, _, _⟩ := P3.two
   refine bodyPost_ret (v := .tuple #[noTensor, .int .i64 c]) (by simp [results, Tryz.results14, go_sem, z0, z1, noTensor]) rfl ⟨.inr ⟨H0.out, rfl⟩, below_set2 BV (by omega) _ _⟩
end
section
open Go.RowKit
def few10 (qs : List Q3) : Bool := decide (qs.length ≤ 64) && qs.all fun q => decide (q.num.length ≤ 3) && decide (q.den.length ≤ 3)
theorem few10_true {qs : List Q3} (h : few10 qs = true) : qs.length ≤ 64 ∧ lensQ qs 3 := by
 unfold few10 at h
 rw [Bool.and_eq_true, decide_eq_true_iff, List.all_eq_true] at h
 refine ⟨h.1, fun q hq => ?_⟩
 have := h.2 q hq
 simpa using this
theorem few10_ok {qs : List Q3} (h : qs.length ≤ 64) (h2 : ∀ (k : Nat) (q : Q3), qs[k]? = some q → q.num.length ≤ 3 ∧ q.den.length ≤ 3) : few10 qs = true := by
 unfold few10
 rw [Bool.and_eq_true, decide_eq_true_iff, List.all_eq_true]
 refine ⟨h, fun q hq => ?_⟩
 obtain ⟨k, hk, rfl⟩ := List.mem_iff_getElem.1 hq
 have := h2 k _ (List.getElem?_eq_getElem hk)
 simpa using this
theorem few10_bad {qs : List Q3} {k : Nat} {q : Q3} (h : qs[k]? = some q) (h2 : ¬ (q.num.length ≤ 3 ∧ q.den.length ≤ 3)) : few10 qs = false := by
 cases e : few10 qs with
 | false => rfl
 | true => exact absurd ((few10_true e).2 q (List.mem_of_getElem? h)) h2
theorem few10_long {qs : List Q3} (h : 64 < qs.length) : few10 qs = false := by
 cases e : few10 qs with
 | false => rfl
 | true => exact absurd (few10_true e).1 (by omega)
theorem few10_any {w : World} {v : Value} {s : List Int} {qs : List Q3} {a b : Option Addr} {ca cb : Nat} (T : TensQ w v s qs a ca b cb) :
 Calls Tryz.prog 11 #[v] w fun e w' => e = .returned (.bool (few10 qs)) ∧ Below w.heap.size w w' := by
 have HT := Lib.hid T
 obtain rfl := T.is
 obtain ⟨t, ht⟩ : ∃ t, few10 qs = t := ⟨_, rfl⟩
 rw [ht]
 have HTT := Lib.hid ht
 clear ht
 obtain ⟨W, hW⟩ : ∃ W, (w.alloc (.cells #[.slice a s.length ca, .slice b qs.length cb] 26)) = W := ⟨_, rfl⟩
 have R0 : Row W (w.heap.size) 26 #[.slice a s.length ca, .slice b qs.length cb] := by rw [← hW]; have h := Row.new w 26 #[.slice a s.length ca, .slice b qs.length cb]; (try simp only [World.size_alloc] at h); exact h
 have hBW : Below w.heap.size w W := by rw [← hW]; exact ((Below.refl _ _).alloc (by (try simp) <;> omega) _)
 have hsW : W.heap.size = w.heap.size + 1 := by rw [← hW]; simp
 obtain ⟨c0, c1, _, _⟩ := R0.two
 clear T
 by_cases hlong : 64 < qs.length
 · obtain rfl : t = false := by rw [← HTT.out]; exact few10_long hlong
   have hI : (qs.length : Int) > 64 := by omega
   go_enter Tryz.func11, Tryz.ntmps11
   (try rw [hW])
   go_wp2
   go_ret
   exact ⟨rfl, hBW⟩
 · have hI : ¬ (qs.length : Int) > 64 := by omega
   have H0 := Lib.hid R0
   have HB := Lib.hid hBW
   go_enter Tryz.func11, Tryz.ntmps11
   (try rw [hW])
   go_wp2_with fail
   clear c0 c1 R0 hBW hsW hW
   go_loopw [3] (fun i wr => ∃ k : Nat, i = .int .i64 (k : Int) ∧ k ≤ qs.length ∧ (∀ (j : Nat) (q : Q3), j < k → qs[j]? = some q → q.num.length ≤ 3 ∧ q.den.length ≤ 3) ∧ Row wr w.heap.size 26 #[.slice a s.length ca, .slice b qs.length cb] ∧ Below w.heap.size w wr) (fun i _ => qs.length - (intOf i).toNat)
   case atStart => exact ⟨0, rfl, Nat.zero_le _, (fun j q hj => by omega), H0.out, HB.out⟩
   case round =>
    obtain ⟨k, rfl, hk, hall, r0, hb⟩ := hrel
    have HA := Lib.hid hall
    clear hall
    obtain ⟨c0, c1, _, _⟩ := r0.two
    by_cases hlt : k < qs.length
    · obtain ⟨bb, o, x0, x1, x2, q, hbo, hqk, e0, e1, e2, hraw⟩ := (HT.out.el.later hb (fun v x _ k => k.later hb)).at hlt
      subst hbo
      obtain ⟨u1, u2, j1, j2, hraw', _⟩ := id hraw
      simp only [Value.agg.injEq, Array.mk.injEq, List.cons.injEq, and_true] at hraw'
      obtain ⟨rfl, rfl, rfl⟩ := hraw'
      have hltI : (k : Int) < (qs.length : Int) := by omega
      have HQ := Lib.hid hqk
      clear hqk hraw
      obtain ⟨n1, hn1⟩ : ∃ n, q.num.length = n := ⟨_, rfl⟩
      obtain ⟨n2, hn2⟩ : ∃ n, q.den.length = n := ⟨_, rfl⟩
      have HN1 := Lib.hid hn1
      have HN2 := Lib.hid hn2
      rw [hn1] at e1
      rw [hn2] at e2
      clear hn1 hn2
      by_cases h1 : n1 ≤ 3
      · have h1I : ¬ (n1 : Int) > 3 := by omega
        by_cases h2 : n2 ≤ 3
        · have h2I : ¬ (n2 : Int) > 3 := by omega
          go_wp2
          go_roundw
          case rel =>
           refine ⟨k + 1, by go_num, by omega, fun j p hj hp => ?_, r0, hb⟩
           by_cases h : j = k
           · rw [h, HQ.out] at hp
             cases hp
             rw [HN1.out, HN2.out]
             exact ⟨h1, h2⟩
           · exact HA.out j p (by omega) hp
          case measure => simp [intOf]; omega
        · have h2I : (n2 : Int) > 3 := by omega
          obtain rfl : t = false := by rw [← HTT.out]; exact few10_bad HQ.out (by rw [HN1.out, HN2.out]; omega)
          go_wp2
          go_ret
          exact ⟨rfl, hb⟩
      · have h1I : (n1 : Int) > 3 := by omega
        obtain rfl : t = false := by rw [← HTT.out]; exact few10_bad HQ.out (by rw [HN1.out, HN2.out]; omega)
        go_wp2
        go_ret
        exact ⟨rfl, hb⟩
    · obtain rfl : k = qs.length := by omega
      have hltI : ¬ (qs.length : Int) < (qs.length : Int) := by omega
      obtain rfl : t = true := by
       rw [← HTT.out]
       exact few10_ok (by omega) fun j q hq => HA.out j q (by rcases Nat.lt_or_ge j qs.length with g | g; exact g; rw [List.getElem?_eq_none g] at hq; cases hq) hq
      go_wp2
      go_ret
      exact ⟨rfl, hb⟩
def An10 (base : Nat) (w : World) (r : Value) (c : Int) (s : List Int) (L : List Rat) (N : Nat) : Prop := (c = 0 ∧ ResT base w r s L N) ∨ (c ≠ 0 ∧ r = noTensor)
theorem An10.later {base N : Nat} {w w' : World} {r : Value} {c : Int} {s : List Int} {L : List Rat} (h : An10 base w r c s L N) (hb : Below w.heap.size w w') : An10 base w' r c s L N := h.imp (fun h => ⟨h.1, h.2.later hb⟩) id
theorem An10.box {base N : Nat} {w : World} {r : Value} {c : Int} {s : List Int} {L : List Rat} (h : An10 base w r c s L N) : ∃ a b n m ca cb, r = .agg #[.slice a n ca, .slice b m cb] := by
 rcases h with ⟨_, a, b, ca, cb, rfl, _⟩ | ⟨_, rfl⟩
 · exact ⟨_, _, _, _, _, _, rfl⟩
 · exact ⟨_, _, _, _, _, _, rfl⟩
theorem One.an10 {base N : Nat} {w : World} {e : Ending} {c : Int} {s : List Int} {L : List Rat} (h : One base w e c s L N) : ∃ a b n m ca cb, e = .returned (.tuple #[.agg #[.slice a n ca, .slice b m cb], .int .i64 c]) ∧ An10 base w (.agg #[.slice a n ca, .slice b m cb]) c s L N := h.shape
def BoxT10 (t : Value) : Prop := ∃ a b n m ca cb, t = .agg #[.slice a n ca, .slice b m cb]
theorem allBC_eq10 {s : List Int} {L : List Rat} {qs : List Q3} (h : qs.map Q3.rat = L) (hok : ∀ q ∈ qs, okQ q = true) : allBC (fun (x : Rat) (q : Q3) => validB q.neg q.num q.den x) s s L qs = true := by
 subst h
 refine allBC_yes rfl (by simp) fun k x q hx hq => ?_
 rw [List.getElem?_map, hq] at hx
 cases hx
 exact hok q (List.mem_of_getElem? hq)
theorem is10_true {base n N : Nat} {w : World} {r t : Value} {s : List Int} {L : List Rat} (h : ResT base w r s L N) (ht : TenR w t s L n) (hs : s.length ≤ 17592186044416) (hL : L.length ≤ 1000000) (hn : n ≤ 1000000) (hN : N ≤ 1000000) :
 Calls Tryz.prog 40 #[r, .int .i64 0, t] w fun e w' => e = .returned (.bool true) ∧ Below w.heap.size w w' := by
 obtain ⟨qs, a, b, ca, cb, T, hqs, hl, hok⟩ := h.tens
 obtain ⟨a2, ca2, b2, cb2, U⟩ := ht
 have hlen : qs.length = L.length := by rw [← hqs]; simp
 obtain rfl := T.is
 obtain rfl := U.is
 obtain ⟨W, hW⟩ : ∃ W, ((w.alloc (.cells #[.slice a s.length ca, .slice b qs.length cb] 26)).alloc (.cells #[.slice a2 s.length ca2, .slice b2 L.length cb2] 36)) = W := ⟨_, rfl⟩
 have R0 : Row W (w.heap.size) 26 #[.slice a s.length ca, .slice b qs.length cb] := by rw [← hW]; have h := Row.new w 26 #[.slice a s.length ca, .slice b qs.length cb]; (try simp only [World.size_alloc] at h); exact (h.alloc _)
 have R1 : Row W (w.heap.size + 1) 36 #[.slice a2 s.length ca2, .slice b2 L.length cb2] := by rw [← hW]; have h := Row.new (w.alloc (.cells #[.slice a s.length ca, .slice b qs.length cb] 26)) 36 #[.slice a2 s.length ca2, .slice b2 L.length cb2]; (try simp only [World.size_alloc] at h); exact h
 have hBW : Below w.heap.size w W := by rw [← hW]; exact (((Below.refl _ _).alloc (by (try simp) <;> omega) _).alloc (by (try simp) <;> omega) _)
 have hsW : W.heap.size = w.heap.size + 1 + 1 := by rw [← hW]; simp
 have hi := isT_any (U.later hBW) (T.later hBW) (by omega) (by omega) (by omega) (by omega) (fun q hq => by have := hl q hq; omega)
 rw [allBC_eq10 hqs hok] at hi
 obtain ⟨c0, c1, _, _⟩ := R0.two
 obtain ⟨c2, c3, _, _⟩ := R1.two
 have HI := Lib.hid hi
 clear T U h hqs hl hok hlen hi
 go_enter Tryz.func40, Tryz.ntmps40
 (try rw [hW])
 go_wp2_with (go_at_call 33; refine HI.out.mono ?_; rintro e w1 ⟨rfl, hb1⟩)
 go_ret
 exact ⟨rfl, hBW.trans (hb1.mono (by omega))⟩
theorem told10_any {base n N : Nat} {w : World} {r t : Value} {c : Int} {s : List Int} {L : List Rat} (h : An10 base w r c s L N) (hb : BoxT10 t) (ht : c = 0 → TenR w t s L n) (hs : s.length ≤ 17592186044416) (hL : L.length ≤ 1000000) (hn : n ≤ 1000000) (hN : N ≤ 1000000) :
 Calls Tryz.prog 16 #[r, .int .i64 c, t, .int .i64 c] w fun e w' => e = .returned (.bool true) ∧ Below w.heap.size w w' := by
 obtain ⟨a2, b2, n2, m2, ca2, cb2, rfl⟩ := hb
 obtain ⟨a, b, n1, m1, ca, cb, rfl⟩ := h.box
 obtain ⟨W, hW⟩ : ∃ W, ((w.alloc (.cells #[.slice a n1 ca, .slice b m1 cb] 26)).alloc (.cells #[.slice a2 n2 ca2, .slice b2 m2 cb2] 36)) = W := ⟨_, rfl⟩
 have R0 : Row W (w.heap.size) 26 #[.slice a n1 ca, .slice b m1 cb] := by rw [← hW]; have h := Row.new w 26 #[.slice a n1 ca, .slice b m1 cb]; (try simp only [World.size_alloc] at h); exact (h.alloc _)
 have R1 : Row W (w.heap.size + 1) 36 #[.slice a2 n2 ca2, .slice b2 m2 cb2] := by rw [← hW]; have h := Row.new (w.alloc (.cells #[.slice a n1 ca, .slice b m1 cb] 26)) 36 #[.slice a2 n2 ca2, .slice b2 m2 cb2]; (try simp only [World.size_alloc] at h); exact h
 have hBW : Below w.heap.size w W := by rw [← hW]; exact (((Below.refl _ _).alloc (by (try simp) <;> omega) _).alloc (by (try simp) <;> omega) _)
 have hsW : W.heap.size = w.heap.size + 1 + 1 := by rw [← hW]; simp
 obtain ⟨c0, c1, _, _⟩ := R0.two
 obtain ⟨c2, c3, _, _⟩ := R1.two
 rcases h with ⟨rfl, h⟩ | ⟨h0, h⟩
 · have hi := is10_true (h.later hBW) ((ht rfl).later hBW) hs hL hn hN
   have HI := Lib.hid hi
   clear h ht hi
   go_enter Tryz.func16, Tryz.ntmps16
   (try rw [hW])
   go_wp2_with (go_at_call 40; refine HI.out.mono ?_; rintro e w1 ⟨rfl, hb1⟩)
   go_ret
   exact ⟨rfl, hBW.trans (hb1.mono (by omega))⟩
 · have hne : (c != 0) = true := by simp [h0]
   have hee : (c == c) = true := by simp
   simp only [noTensor, Value.agg.injEq, Array.mk.injEq, List.cons.injEq, Value.slice.injEq, and_true] at h
   obtain ⟨⟨rfl, rfl, rfl⟩, rfl, rfl, rfl⟩ := h
   have hem := emptyT_any (w := W) (.agg #[.slice none 0 0, .slice none 0 0]) none none 0 0 0 0 rfl
   have HM := Lib.hid hem
   clear ht h0 hem
   go_enter Tryz.func16, Tryz.ntmps16
   (try rw [hW])
   go_wp2_with (go_at_call 49; refine HM.out.mono ?_; rintro e w1 ⟨rfl, hb1⟩)
   go_ret
   exact ⟨rfl, hBW.trans (hb1.mono (by omega))⟩
theorem of10_any {w : World} {u v : Value} {s xs : List Int} {a b : Option Addr} {ca cb : Nat} (A : ArgS w u s a ca) (na : a = none → ca = 0) (B : ArgS w v xs b cb) (hs : s.length ≤ 1000) (hq : xs.length ≤ 1000) :
 Calls Tryz.prog 39 #[u, v] w fun e w' => ∃ r, e = .returned r ∧ TenR w' r s (xs.map intQ) 6 ∧ Below w.heap.size w w' := by
 obtain ⟨i0, hi, hz0, hz1, hz2⟩ := info_parts infoR
 have HA := Lib.hid A
 have NA := Lib.hid na
 have HB := Lib.hid B
 obtain rfl := A.is
 obtain rfl := B.is
 clear A na B
 go_enter Tryz.func39, Tryz.ntmps39
 go_wp2
 have R1 : Row ((w.alloc (.cells #[.slice none 0 0, .slice none 0 0] 36)).alloc (.cells #[.slice a s.length ca, .slice none 0 0] 36)) w.heap.size 36 #[.slice none 0 0, .slice none 0 0] := (Row.new _ _ _).alloc _
 have R2 : Row ((w.alloc (.cells #[.slice none 0 0, .slice none 0 0] 36)).alloc (.cells #[.slice a s.length ca, .slice none 0 0] 36)) (w.heap.size + 1) 36 #[.slice a s.length ca, .slice none 0 0] := by have h := (Row.new (w.alloc (.cells #[.slice none 0 0, .slice none 0 0] 36)) 36 #[.slice a s.length ca, .slice none 0 0]); simp only [World.size_alloc] at h; exact h
 have hBW : Below w.heap.size w ((w.alloc (.cells #[.slice none 0 0, .slice none 0 0] 36)).alloc (.cells #[.slice a s.length ca, .slice none 0 0] 36)) := ((Below.refl _ _).alloc (by simp) _).alloc (by simp) _
 have H1 := Lib.hid R1
 have H2 := Lib.hid R2
 have HBW := Lib.hid hBW
 clear R1 R2 hBW
 go_loopw [6] (fun i wr => ∃ (k : Nat) (v : Value), i = .int .i64 (k : Int) ∧ k ≤ xs.length ∧ Row wr w.heap.size 36 #[.slice none 0 0, .slice none 0 0] ∧
  Row wr (w.heap.size + 1) 36 #[.slice a s.length ca, v] ∧ RowO w.heap.size 58 (fun W v x => ResR w.heap.size W v x 6) wr v ((xs.take k).map intQ) ∧ Below w.heap.size w wr) (fun i _ => xs.length - (intOf i).toNat)
 case atStart => exact ⟨0, _, rfl, Nat.zero_le _, H1.out, H2.out, RowO.nil _ _ _ _, HBW.out⟩
 case round =>
  obtain ⟨k, v, rfl, hk, r1, r2, ⟨es, hown, hall⟩, hb⟩ := hrel
  have hsz := hb.size
  have hlt2 := r2.lt
  have c21 := r2.cell 1
  have hle : es.length = k := by rw [hall.1]; simp [hk]
  by_cases hlt : k < xs.length
  · obtain ⟨bb, o, hbo, hc⟩ := (HB.out.later hb).at hlt
    have hc0 := (HB.out.at hlt)
    have hqk := getD_some hlt
    have hwx := HB.out.wf.getD k
    obtain ⟨x, hxe⟩ : ∃ x, xs.getD k 0 = x := ⟨_, rfl⟩
    rw [hxe] at hc hqk hwx hc0
    have hb0 : bb < w.heap.size := by
     obtain ⟨b', o', e', h'⟩ := hc0
     rw [hbo] at e'
     cases e'
     exact World.block_lt_of_cell? w _ h'
    obtain ⟨hx0, hx1⟩ := hwx
    subst hbo
    obtain ⟨r, hrv, hrb, hrne⟩ := hown.hits hsz
    have n2 := hrne _ _ _ r2 (by decide)
    have n1 := hrne _ _ _ r1 (by decide)
    have mkS : ∀ X, Kept r wr X → X.cell? ⟨w.heap.size + 1, 1, none⟩ = some v ∧ X.cell? ⟨bb, o + k, none⟩ = some (.int .i64 x) ∧ Kept r wr X := fun X h => ⟨h.cell c21 n2, h.cell hc (by show bb ≠ r; omega), h⟩
    have hltI : (k : Int) < (xs.length : Int) := by omega
    have hS0 := mkS wr.drew ((Kept.refl r wr).drew)
    have HQK := Lib.hid hqk
    clear hc0 hxe hqk
    go_wp2_with fail
    refine wp_region_L (S := (fun X => X.cell? ⟨w.heap.size + 1, 1, none⟩ = some v ∧ X.cell? ⟨bb, o + k, none⟩ = some (.int .i64 x) ∧ Kept r wr X)) (z := 10) (by kernel_rfl) hS0 (fun hHeld => ?_)
    refine todo [0, 1, 2, 3, 4, 5] ?_
    iterate 6
     refine todoL (v := ?_) rfl (by kernel_rfl) (fun _ _ _ h => h) (by assumption) (Or.inl ⟨by rfl, ?_⟩) ?_
     rotate_left
     · intro w hSw; (try dsimp only at hSw); go_simp; (try with_reducible rfl)
     try simp only [Act.put, nA, nB, nC, nD, nE, nF]
    refine todone ?_
    refine wpAnyL_one (i := 6) (by kernel_rfl) rfl (fun K hK => ?sb6)
    go_simp
    refine (intRR_any x _ hx0 hx1).mono ?_
    rintro e w5 ⟨rv, rfl, qv, hb5⟩
    have Q5 := Lib.hid qv
    obtain ⟨m5, f1, l1, j1, f2, l2, j2, rfl⟩ := qv.shape
    clear qv
    go_simp
    have hB5 : Below w.heap.size w w5 := (hb.drew).trans (hb5.mono hsz)
    have hk5 : Kept r wr w5 := ((Kept.refl r wr).drew).below hb5
    refine hK.out _ _ (fun _ => mkS _ hk5) (fun hHeld2 => ?mb6)
    clear hK K hHeld
    have hHeld := hHeld2 (by decide)
    clear hHeld2
    try simp only [Act.put, nD, nE, nF]
    refine wpAnyL_one (i := 7) (by kernel_rfl) rfl (fun K hK => ?sb7)
    go_simp
    refine hK.out _ _ (fun _ => mkS _ (hk5.alloc _)) (fun hHeld2 => ?mb7)
    clear hK K hHeld
    have hHeld := hHeld2 (by decide)
    clear hHeld2
    try simp only [Act.put, nD, nE, nF]
    refine wpAnyL_one (i := 8) (by kernel_rfl) rfl (fun K hK => ?sb8)
    have hb5w : Below wr.heap.size wr w5 := (Below.refl _ wr).drew.trans hb5
    have hown5 : OwnE w.heap.size 58 w5 v es := hown.later hb5w
    have hall5 : AllE (fun v x => ResR w.heap.size w5 v x 6) es ((xs.take k).map intQ) := hall.imp fun u x _ h => h.later hb5w
    have hsz5 := hB5.size
    refine step_append_ownT rfl _ _ 34 rfl w.heap.size 58 i0 _ 3 56 Tryz.underlying34 hi hz0 hz1 hz2 rfl (by decide) _ es.length (flat3 es) rfl (hown5.later ((Below.refl _ _).alloc (Nat.le_refl _) _)) ⟨w5.heap.size, 0, none⟩ 1 1 [.bool m5, .slice f1 l1 j1, .slice f2 l2 j2] rfl rfl (cell_three_new _ _ _ _ _) (by simp [Value.oneCell']) (by unfold maxLen; omega) (by omega) (by simp; omega) ?_
    intro v' w6 hown' hgrow _
    obtain ⟨av, cv, rfl⟩ := ownT_slice hown'
    have hk6 : Kept r wr w6 := (hk5.alloc _).grown hgrow hrv
    refine hK.out _ _ (fun _ => mkS _ hk6) (fun hHeld2 => ?mb8)
    clear hK K hHeld
    have hHeld := hHeld2 (by decide)
    clear hHeld2
    try simp only [Act.put, nD, nE, nF]
    refine wpAnyL_take (i := 9) (v := ?va9) rfl (by kernel_rfl) (by kernel_rfl) (by kernel_rfl) (by kernel_rfl) (fun _ _ _ h => h) (Or.inl ⟨by rfl, ?ha9⟩) (by assumption) ?ra9
    case ha9 =>
     intro w hSw
     try dsimp only at hSw
     go_simp
     try with_reducible rfl
    try simp only [Act.put, nD, nE, nF]
    have R26 := r2.kept hk6 n2
    have f21 := R26.free 1
    have d21 := R26.cell 1
    refine wpAnyL_one (i := 10) (by kernel_rfl) rfl (fun K hK => ?sb10)
    go_simp
    refine hK.out _ _ (fun h => absurd rfl h) (fun _ => ?mb10)
    clear hK K
    try simp only [Act.put, nD, nE, nF]
    refine wpAnyL_done (by kernel_rfl) ?_ _
    go_wp2
    go_roundw
    case rel =>
     have hx5 : ResR w.heap.size w5 (E3.agg ⟨.bool m5, .slice f1 l1 j1, .slice f2 l2 j2⟩) (intQ x) 6 := Q5.out.mono (by show w.heap.size ≤ wr.heap.size; exact hsz)
     obtain ⟨hrow6, hb6⟩ := pushE (P := fun W v x => ResR w.heap.size W v x 6) (e := ⟨.bool m5, .slice f1 l1 j1, .slice f2 l2 j2⟩) hB5 hsz5 hown5 hall5 hx5 (fun u y h => ResR.apart hown5 hgrow (by decide) h) hown' hgrow
     rw [hle] at hrow6
     have r16 := r1.kept hk6 n1
     refine ⟨k + 1, _, by go_num, by omega, r16.far (by show w.heap.size ≠ w.heap.size + 1; omega) _, R26.set21 _, ?_, hb6.setCell (by show w.heap.size ≤ w.heap.size + 1; omega) _⟩
     rw [take_nextL HQK.out, List.map_append]
     exact hrow6.far R26 (by decide) (kept1 _) (fun u y h => h.far R26 (by decide) (kept1 _))
    case measure => simp [intOf]; omega
  · obtain rfl : k = xs.length := by omega
    have hltI : ¬ (xs.length : Int) < (xs.length : Int) := by omega
    rw [List.take_length] at hall
    obtain ⟨av, cv, rfl⟩ := ownT_slice hown
    rw [hle] at r2 hown
    have fE : RowO w.heap.size 58 (fun W v x => ResR w.heap.size W v x 6) wr (.slice av xs.length cv) (xs.map intQ) := ⟨es, hown, hall⟩
    have fT := fE.at_
    have TT : TensR wr (.agg #[.slice a s.length ca, .slice av xs.length cv]) s (xs.map intQ) 6 a ca av cv := ⟨by rw [List.length_map], HA.out.later hb, NA.out, by rw [List.length_map]; exact fT.2.1.imp (fun v x _ h => h.arg), fT.2.2⟩
    have c20 := r2.cell 0
    have d21 := r2.cell 1
    obtain ⟨c10, c11, g10, g11⟩ := r1.two
    have HTT := Lib.hid TT
    clear hown hall hle fE fT TT c21
    go_wp2_with fail
    have R1s := r1.set2 (.slice a s.length ca) (.slice av xs.length cv)
    obtain ⟨zz0, zz1, _, _⟩ := R1s.two
    refine bodyPost_ret (v := .agg #[.slice a s.length ca, .slice av xs.length cv]) (by simp [results, Tryz.results39, go_sem, zz0, zz1]) rfl ⟨_, rfl, ?_, below_set2 hb (Nat.le_refl _) _ _⟩
    exact ⟨a, ca, av, cv, HTT.out.far r1 (kept2 _ _)⟩
end
end Go.Proofs.YtengpgodmbfmkaaGreat
