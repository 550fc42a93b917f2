/-
  Part 33 of 39: contracts and what they rest on (FMat, FTot0, RefS10).
-/
import Derived.Test.YtengpgodmbfmkaaGreatG31
import Derived.Test.YtengpgodmbfmkaaGreatG32
namespace Go.Proofs.YtengpgodmbfmkaaGreat
set_option linter.unusedVariables false
set_option linter.unusedSimpArgs false
set_option maxRecDepth 100000
set_option maxHeartbeats 40000000
section
open Go.RowKit
def mmV (s t : List Int) (X Y : List Rat) : List Rat := mmF (s.getD 0 0).toNat (s.getD 1 0).toNat (t.getD 1 0).toNat X Y
theorem list_two {l : List Int} (h : l.length = 2) : l = [l.getD 0 0, l.getD 1 0] := by
 match l, h with
 | [a, b], _ => rfl
theorem mm_parts {s t : List Int} {q1 q2 : List Q3} (h1 : mayT s q1 = 0) (h2 : mayT t q2 = 0) (h3 : mmC s t = 0) : ∃ R b C : Nat, s = [(R : Int), (b : Int)] ∧ t = [(b : Int), (C : Int)] ∧ 1 ≤ R ∧ 1 ≤ b ∧ 1 ≤ C ∧ q1.length = R * b ∧ q2.length = b * C ∧ R * b ≤ 1024 ∧ b * C ≤ 1024 ∧ R * C ≤ 1024 ∧ OkS [(R : Int), (C : Int)] := by
 have ok1 := mayC_zero.1 (mayT_rank h1)
 have ok2 := mayC_zero.1 (mayT_rank h2)
 have c1 := (mayT_valid h1).1
 have c2 := (mayT_valid h2).1
 rw [ok1.count] at c1
 rw [ok2.count] at c2
 unfold mmC at h3
 split at h3
 case isFalse => omega
 case isTrue h =>
  obtain ⟨l1, l2, e⟩ := h
  have ok3 := mayC_zero.1 h3
  have p10 := ok1.pos.getD (i := 0) (by omega)
  have p11 := ok1.pos.getD (i := 1) (by omega)
  have p21 := ok2.pos.getD (i := 1) (by omega)
  have e1 := list_two l1
  have e2 := list_two l2
  rw [← e] at e2
  unfold mmS at ok3
  obtain ⟨R, hR⟩ : ∃ R : Nat, s.getD 0 0 = (R : Int) := ⟨(s.getD 0 0).toNat, by omega⟩
  obtain ⟨b, hb⟩ : ∃ b : Nat, s.getD 1 0 = (b : Int) := ⟨(s.getD 1 0).toNat, by omega⟩
  obtain ⟨C, hC⟩ : ∃ C : Nat, t.getD 1 0 = (C : Int) := ⟨(t.getD 1 0).toNat, by omega⟩
  rw [hR, hb] at e1
  rw [hb, hC] at e2
  rw [hR, hC] at ok3
  have k1 := ok1.cnt
  have k2 := ok2.cnt
  have k3 := ok3.cnt
  rw [e1] at c1 k1
  rw [e2] at c2 k2
  have pm : ∀ x y : Nat, prodS [(x : Int), (y : Int)] = ((x * y : Nat) : Int) := fun x y => by simp [prodS]
  rw [pm] at c1 k1 c2 k2 k3
  exact ⟨R, b, C, e1, e2, by omega, by omega, by omega, by omega, by omega, by omega, by omega, by omega, ok3⟩
theorem orL_zero3 {x y z : Int} (h : orL [x, y, z] = 0) : x = 0 ∧ y = 0 ∧ z = 0 := by
 unfold orL at h
 split at h
 · rename_i h1
   exact ⟨h1, orL_zero h⟩
 · rename_i h1; exact absurd h h1
theorem orL_zero4 {x y z u : Int} (h : orL [x, y, z, u] = 0) : x = 0 ∧ y = 0 ∧ z = 0 ∧ u = 0 := by
 unfold orL at h
 split at h
 · rename_i h1
   exact ⟨h1, orL_zero3 h⟩
 · rename_i h1; exact absurd h h1
theorem productT_any (kb : Nat) {n : Nat} {w : World} {u v : Value} {s t : List Int} {q1 q2 : List Q3} {a1 b1 a2 b2 : Option Addr} {ca1 cb1 ca2 cb2 : Nat} (T1 : TensQ w u s q1 a1 ca1 b1 cb1) (T2 : TensQ w v t q2 a2 ca2 b2 cb2)
 (h1 : mayT s q1 = 0) (h2 : mayT t q2 = 0) (h3 : mmC s t = 0) (hl1 : lensQ q1 n) (hl2 : lensQ q2 n) (hn : (2 * n + 4 + 10) * 2 ^ kb ≤ 16000000) (hkb : q1.length ≤ 2 ^ kb) (hn4 : n ≤ 4000000) :
 Calls Tryz.prog 57 #[u, v] w fun e w' => ∃ r, e = .returned r ∧ ResT w.heap.size w' r (mmS s t) (mmV s t (q1.map Q3.rat) (q2.map Q3.rat)) ((2 * n + 4 + 10) * 2 ^ kb) ∧ Below w.heap.size w w' := by
 obtain ⟨R, b, C, rfl, rfl, hR, hb, hC, e1, e2, m1, m2, m3, _⟩ := mm_parts h1 h2 h3
 have hbq : b ≤ R * b := Nat.le_mul_of_pos_left b hR
 have h := productM_any kb T1 T2 rfl rfl hR hb hC e1 e2 m1 m2 m3 hl1 hl2 hn (by omega) hn4
 have e3 : mmV [(R : Int), (b : Int)] [(b : Int), (C : Int)] (q1.map Q3.rat) (q2.map Q3.rat) = mmF R b C (q1.map Q3.rat) (q2.map Q3.rat) := by simp [mmV]
 rw [e3]
 exact h
theorem matMul_any (kb : Nat) {n : Nat} {w : World} {u v : Value} {s t : List Int} {q1 q2 : List Q3} {a1 b1 a2 b2 : Option Addr} {ca1 cb1 ca2 cb2 : Nat} (T1 : TensQ w u s q1 a1 ca1 b1 cb1) (T2 : TensQ w v t q2 a2 ca2 b2 cb2) (hs : s.length ≤ 17592186044416) (ht : t.length ≤ 17592186044416) (hl1 : lensQ q1 n) (hl2 : lensQ q2 n) (hn : (2 * n + 4 + 10) * 2 ^ kb ≤ 16000000) (hkb : q1.length ≤ 2 ^ kb) (hq1 : q1.length ≤ 1000000) (hq2 : q2.length ≤ 1000000) (hn4 : n ≤ 4000000) :
 Calls Tryz.prog 20 #[u, v] w fun e w' => One w.heap.size w' e (orL [mayT s q1, mayT t q2, mmC s t]) (mmS s t) (mmV s t (q1.map Q3.rat) (q2.map Q3.rat)) ((2 * n + 4 + 10) * 2 ^ kb) ∧ Below w.heap.size w w' := by
 have HT1 := Lib.hid T1
 have HT2 := Lib.hid T2
 have HL1 := Lib.hid hl1
 have HL2 := Lib.hid hl2
 obtain rfl := T1.is
 obtain rfl := T2.is
 obtain ⟨W, hW⟩ : ∃ W, (((w.alloc (.cells #[.slice a1 s.length ca1, .slice b1 q1.length cb1] 26)).alloc (.cells #[.slice a2 t.length ca2, .slice b2 q2.length cb2] 26)).alloc (.cells #[.slice none 0 0, .slice none 0 0] 26)) = W := ⟨_, rfl⟩
 have R0 : Row W (w.heap.size) 26 #[.slice a1 s.length ca1, .slice b1 q1.length cb1] := by rw [← hW]; have h := Row.new w 26 #[.slice a1 s.length ca1, .slice b1 q1.length cb1]; (try simp only [World.size_alloc] at h); exact ((h.alloc _).alloc _)
 have R1 : Row W (w.heap.size + 1) 26 #[.slice a2 t.length ca2, .slice b2 q2.length cb2] := by rw [← hW]; have h := Row.new (w.alloc (.cells #[.slice a1 s.length ca1, .slice b1 q1.length cb1] 26)) 26 #[.slice a2 t.length ca2, .slice b2 q2.length cb2]; (try simp only [World.size_alloc] at h); exact (h.alloc _)
 have R2 : Row W (w.heap.size + 1 + 1) 26 #[.slice none 0 0, .slice none 0 0] := by rw [← hW]; have h := Row.new ((w.alloc (.cells #[.slice a1 s.length ca1, .slice b1 q1.length cb1] 26)).alloc (.cells #[.slice a2 t.length ca2, .slice b2 q2.length cb2] 26)) 26 #[.slice none 0 0, .slice none 0 0]; (try simp only [World.size_alloc] at h); exact h
 have hBW : Below w.heap.size w W := by rw [← hW]; exact ((((Below.refl _ _).alloc (by (try simp) <;> omega) _).alloc (by (try simp) <;> omega) _).alloc (by (try simp) <;> omega) _)
 have hsW : W.heap.size = w.heap.size + 1 + 1 + 1 := by rw [← hW]; simp
 have hm1 := fun (X : World) (hX : Below W.heap.size W X) => mayT7_big (HT1.out.later (hBW.trans (hX.mono (by omega)))) (by omega) HL1.out (by omega)
 have hm2 := fun (X : World) (hX : Below W.heap.size W X) => mayT7_big (HT2.out.later (hBW.trans (hX.mono (by omega)))) (by omega) HL2.out (by omega)
 have hp := fun (X : World) (hX : Below W.heap.size W X) => mayProduct_any (HT1.out.sh.later (hBW.trans (hX.mono (by omega)))) (HT2.out.sh.later (hBW.trans (hX.mono (by omega)))) hs ht
 have hpr := fun (X : World) (hX : Below w.heap.size w X) (h1 : mayT s q1 = 0) (h2 : mayT t q2 = 0) (h3 : mmC s t = 0) => productT_any kb (HT1.out.later hX) (HT2.out.later hX) h1 h2 h3 HL1.out HL2.out hn hkb hn4
 obtain ⟨m1, hmm1⟩ : ∃ m, mayT s q1 = m := ⟨_, rfl⟩
 obtain ⟨m2, hmm2⟩ : ∃ m, mayT t q2 = m := ⟨_, rfl⟩
 obtain ⟨p, hpp⟩ : ∃ p, mmC s t = p := ⟨_, rfl⟩
 rw [hmm1] at hm1
 rw [hmm2] at hm2
 rw [hpp] at hp
 obtain ⟨BB, hBB⟩ : ∃ BB, (2 * n + 4 + 10) * 2 ^ kb = BB := ⟨_, rfl⟩
 obtain ⟨L, hL⟩ : ∃ L, mmV s t (q1.map Q3.rat) (q2.map Q3.rat) = L := ⟨_, rfl⟩
 obtain ⟨tt, htt⟩ : ∃ t', mmS s t = t' := ⟨_, rfl⟩
 rw [hBB, hmm1, hmm2, hpp, hL, htt] at hpr
 rw [hmm1, hmm2, hpp, hL, hBB, htt]
 obtain ⟨c, hc⟩ : ∃ c, orL [m1, m2, p] = c := ⟨_, rfl⟩
 have HC := Lib.hid hc
 have HPR := Lib.hid hpr
 rw [hc]
 have mkS : ∀ X, Below W.heap.size W X → X.cell? ⟨w.heap.size, 0, none⟩ = some (.slice a1 s.length ca1) ∧ X.cell? ⟨w.heap.size, 1, none⟩ = some (.slice b1 q1.length cb1) ∧ X.cell? ⟨w.heap.size + 1, 0, none⟩ = some (.slice a2 t.length ca2) ∧ X.cell? ⟨w.heap.size + 1, 1, none⟩ = some (.slice b2 q2.length cb2) ∧ Below W.heap.size W X := fun X h => by
  obtain ⟨x0, x1, _⟩ := (R0.later h).two
  obtain ⟨x2, x3, _⟩ := (R1.later h).two
  exact ⟨x0, x1, x2, x3, h⟩
 have B0 : Below W.heap.size W W.drew := (Below.refl _ W).drew
 clear T1 T2 hmm1 hmm2 hpp hL hc hl1 hl2 htt hBB hn hkb hpr
 go_enter Tryz.func20, Tryz.ntmps20
 go_wp2_with fail
 (try rw [hW])
 clear hW
 refine wp_region_held (S := fun X => X.cell? ⟨w.heap.size, 0, none⟩ = some (.slice a1 s.length ca1) ∧ X.cell? ⟨w.heap.size, 1, none⟩ = some (.slice b1 q1.length cb1) ∧ X.cell? ⟨w.heap.size + 1, 0, none⟩ = some (.slice a2 t.length ca2) ∧ X.cell? ⟨w.heap.size + 1, 1, none⟩ = some (.slice b2 q2.length cb2) ∧ Below W.heap.size W X) (by kernel_rfl) ?_
 have hHeld := mkS _ B0
 refine todo [0, 2, 4, 5, 6, 7] ?_
 iterate 6
  refine todoH (v := ?_) rfl (by kernel_rfl) (fun _ _ _ h => h) (by assumption) (Or.inl ⟨by rfl, ?_⟩) ?_
  rotate_left
  · intro w hSw; (try dsimp only at hSw); go_simp; (try with_reducible rfl)
  try simp only [Act.put, nA, nB, nC, nD, nE, nF]
 refine todone ?_
 refine wpAnyH_ready (rs := [1]) (by kernel_rfl) (by simp) ?_
 refine AllReadyH.cons rfl (fun K hK => ?sh_1) AllReadyH.nil
 go_simp
 refine (hm1 _ B0).mono ?_
 rintro e y1 ⟨rfl, hy⟩
 have B1 : Below W.heap.size W y1 := B0.trans (hy.mono B0.size)
 have Dh1 := hy
 clear hy
 go_simp
 refine hK.out _ _ (mkS _ B1) (fun hHeld2 => ?mh_1)
 clear hK K hHeld
 have hHeld := hHeld2
 clear hHeld2
 try simp only [Act.put, nA, nB, nC, nD, nE, nF]
 refine wpAnyH_ready (rs := [3]) (by kernel_rfl) (by simp) ?_
 refine AllReadyH.cons rfl (fun K hK => ?sh_3) AllReadyH.nil
 go_simp
 refine (hm2 _ B1).mono ?_
 rintro e y2 ⟨rfl, hy⟩
 have B2 : Below W.heap.size W y2 := B1.trans (hy.mono B1.size)
 have Dh2 := hy
 clear hy
 go_simp
 refine hK.out _ _ (mkS _ B2) (fun hHeld2 => ?mh_3)
 clear hK K hHeld
 have hHeld := hHeld2
 clear hHeld2
 try simp only [Act.put, nA, nB, nC, nD, nE, nF]
 refine wpAnyH_ready (rs := [8]) (by kernel_rfl) (by simp) ?_
 refine AllReadyH.cons rfl (fun K hK => ?sh_8) AllReadyH.nil
 go_simp
 refine (hp _ B2).mono ?_
 rintro e y3 ⟨rfl, hy⟩
 have B3 : Below W.heap.size W y3 := B2.trans (hy.mono B2.size)
 have Dh3 := hy
 clear hy
 go_simp
 refine hK.out _ _ (mkS _ B3) (fun hHeld2 => ?mh_8)
 clear hK K hHeld
 have hHeld := hHeld2
 clear hHeld2
 try simp only [Act.put, nA, nB, nC, nD, nE, nF]
 obtain ⟨y4, hh4⟩ : ∃ Y, y3.alloc (.cells #[.int .i64 m1, .int .i64 m2, .int .i64 p] 29) = Y := ⟨_, rfl⟩
 have B4 : Below W.heap.size W y4 := by rw [← hh4]; exact B3.alloc B3.size _
 have Rh4 : Row y4 y3.heap.size 29 #[.int .i64 m1, .int .i64 m2, .int .i64 p] := by rw [← hh4]; exact Row.new _ _ _
 refine wpAnyH_ready (rs := [9]) (by kernel_rfl) (by simp) ?_
 refine AllReadyH.cons rfl (fun K hK => ?sh_9) AllReadyH.nil
 go_simp
 (try rw [hh4])
 clear hh4
 refine hK.out _ _ (mkS _ B4) (fun hHeld2 => ?mh_9)
 clear hK K hHeld
 have hHeld := hHeld2
 clear hHeld2
 try simp only [Act.put, nA, nB, nC, nD, nE, nF]
 refine wpAnyH_ready (rs := [10]) (by kernel_rfl) (by simp) ?_
 refine AllReadyH.cons rfl (fun K hK => ?sh_10) AllReadyH.nil
 go_simp
 refine (or_any (xs := [m1, m2, p]) (b := y3.heap.size) (fun k hk => by
  simp only [List.length_cons, List.length_nil] at hk
  by_cases h0 : k = 0
  · subst h0; exact Rh4.cell 0
  by_cases h1 : k = 1
  · subst h1; exact Rh4.cell 1
  by_cases h2 : k = 2
  · subst h2; exact Rh4.cell 2
  omega) (by simp)).mono ?_
 rintro e yy ⟨rfl, rfl⟩
 go_simp
 rw [HC.out]
 refine hK.out _ _ (mkS _ B4) (fun hHeld2 => ?mh_10)
 clear hK K hHeld
 have hHeld := hHeld2
 clear hHeld2
 try simp only [Act.put, nA, nB, nC, nD, nE, nF]
 refine todo [11] ?_
 iterate 1
  refine todoH (v := ?_) rfl (by kernel_rfl) (fun _ _ _ h => h) (by assumption) (Or.inl ⟨by rfl, ?_⟩) ?_
  rotate_left
  · intro w hSw; (try dsimp only at hSw); go_simp; (try with_reducible rfl)
  try simp only [Act.put, nA, nB, nC, nD, nE, nF]
 refine todone ?_
 refine wpAnyH_done (by kernel_rfl) ?_ _
 (try dsimp only [Straight])
 have P2' := R2.later B4
 obtain ⟨x0, x1, x2, x3, _⟩ := mkS _ B4
 have s2 := B4.size
 have hB2 : Below w.heap.size w y4 := hBW.trans (B4.mono (by omega))
 by_cases h0 : c = 0
 · subst h0
   obtain ⟨k1, k2, k3⟩ := orL_zero3 HC.out
   have hea := HPR.out y4 hB2 k1 k2 k3
   have HEA := Lib.hid hea
   clear hea k1 k2 k3 mkS
   go_wp2_with fail
   refine HEA.out.mono ?_
   rintro e w2 ⟨r, rfl, hT, hb2⟩
   obtain ⟨a', b', ca', cb', rfl, RS, RO⟩ := hT
   have P2 := P2'.later hb2
   have s3 := hb2.size
   obtain ⟨u0, u1, g0, g1⟩ := P2.two
   have HR := Lib.hid RS
   have HO := Lib.hid RO
   clear RS RO
   obtain ⟨l, hl⟩ : ∃ l, L.length = l := ⟨_, rfl⟩
   obtain ⟨l2, hl2⟩ : ∃ l, tt.length = l := ⟨_, rfl⟩
   have HL2' := Lib.hid hl
   have HL3' := Lib.hid hl2
   rw [hl, hl2]
   clear hl hl2
   go_wp2_with fail
   have P3 := P2.set2 (.slice a' l2 ca') (.slice b' l cb')
   obtain ⟨z0, z1, _, _⟩ := P3.two
   refine bodyPost_ret (v := .tuple #[.agg #[.slice a' l2 ca', .slice b' l cb'], .int .i64 0]) (by simp [results, Tryz.results20, go_sem, z0, z1]) rfl ⟨.inl ⟨rfl, _, rfl, ?_⟩, below_set2 (hB2.trans (hb2.mono (by omega))) (by omega) _ _⟩
   have hR : ResT w.heap.size w2 (.agg #[.slice a' l2 ca', .slice b' l cb']) tt L BB := ResT.mono ⟨a', b', ca', cb', by rw [HL2'.out, HL3'.out], HR.out, HO.out⟩ (by omega)
   exact hR.far P2 (by decide) (by decide) (by decide) (kept2 _ _)
 · have hne : (c != 0) = true := by simp [h0]
   have H0 := Lib.hid h0
   obtain ⟨u0, u1, g0, g1⟩ := P2'.two
   clear h0 mkS
   go_wp2_with fail
   have P3 := P2'.set2 (.slice none 0 0) (.slice none 0 0)
   obtain ⟨z0, z1, _, _⟩ := P3.two
   refine bodyPost_ret (v := .tuple #[noTensor, .int .i64 c]) (by simp [results, Tryz.results20, go_sem, z0, z1, noTensor]) rfl ⟨.inr ⟨H0.out, rfl⟩, below_set2 hB2 (by omega) _ _⟩
theorem ArgQ.more10 {w : World} {v : Value} {x : Rat} {n m : Nat} (h : ArgQ w v x n) (hm : n ≤ m) : ArgQ w v x m := by
 obtain ⟨neg, xs, ys, ad, bd, ca, cb, rfl, A, B, e, h1, h2⟩ := h
 exact ⟨neg, xs, ys, ad, bd, ca, cb, rfl, A, B, e, by omega, by omega⟩
def gemC (s t f : List Int) (q1 q2 q3 : List Q3) : Int := if orL [mayT s q1, mayT t q2, mayT f q3, mmC s t] = 0 then fitC f (mmS s t) else orL [mayT s q1, mayT t q2, mayT f q3, mmC s t]
theorem gemm_any (kb : Nat) {n : Nat} {w : World} {u v z : Value} {s t f : List Int} {q1 q2 q3 : List Q3} {a1 b1 a2 b2 a3 b3 : Option Addr} {ca1 cb1 ca2 cb2 ca3 cb3 : Nat} (T1 : TensQ w u s q1 a1 ca1 b1 cb1) (T2 : TensQ w v t q2 a2 ca2 b2 cb2) (T3 : TensQ w z f q3 a3 ca3 b3 cb3) (hs : s.length ≤ 17592186044416) (ht : t.length ≤ 17592186044416) (hf : f.length ≤ 17592186044416) (hl1 : lensQ q1 n) (hl2 : lensQ q2 n) (hl3 : lensQ q3 n) (hn : (2 * n + 4 + 10) * 2 ^ kb ≤ 16000000) (hkb : q1.length ≤ 2 ^ kb) (hq1 : q1.length ≤ 1000000) (hq2 : q2.length ≤ 1000000) (hq3 : q3.length ≤ 1000000) (hn4 : n ≤ 4000000) :
 Calls Tryz.prog 23 #[u, v, z] w fun e w' => One w.heap.size w' e (gemC s t f q1 q2 q3) (mmS s t) (plusF (mmS s t) f (mmV s t (q1.map Q3.rat) (q2.map Q3.rat)) (q3.map Q3.rat)) (2 * ((2 * n + 4 + 10) * 2 ^ kb) + 10) ∧ Below w.heap.size w w' := by
 have HT1 := Lib.hid T1
 have HT2 := Lib.hid T2
 have HT3 := Lib.hid T3
 have HL1 := Lib.hid hl1
 have HL2 := Lib.hid hl2
 have HL3 := Lib.hid hl3
 obtain rfl := T1.is
 obtain rfl := T2.is
 obtain rfl := T3.is
 obtain ⟨W, hW⟩ : ∃ W, ((((w.alloc (.cells #[.slice a1 s.length ca1, .slice b1 q1.length cb1] 26)).alloc (.cells #[.slice a2 t.length ca2, .slice b2 q2.length cb2] 26)).alloc (.cells #[.slice a3 f.length ca3, .slice b3 q3.length cb3] 26)).alloc (.cells #[.slice none 0 0, .slice none 0 0] 26)) = W := ⟨_, rfl⟩
 have R0 : Row W (w.heap.size) 26 #[.slice a1 s.length ca1, .slice b1 q1.length cb1] := by rw [← hW]; have h := Row.new w 26 #[.slice a1 s.length ca1, .slice b1 q1.length cb1]; (try simp only [World.size_alloc] at h); exact (((h.alloc _).alloc _).alloc _)
 have R1 : Row W (w.heap.size + 1) 26 #[.slice a2 t.length ca2, .slice b2 q2.length cb2] := by rw [← hW]; have h := Row.new (w.alloc (.cells #[.slice a1 s.length ca1, .slice b1 q1.length cb1] 26)) 26 #[.slice a2 t.length ca2, .slice b2 q2.length cb2]; (try simp only [World.size_alloc] at h); exact ((h.alloc _).alloc _)
 have R2 : Row W (w.heap.size + 1 + 1) 26 #[.slice a3 f.length ca3, .slice b3 q3.length cb3] := by rw [← hW]; have h := Row.new ((w.alloc (.cells #[.slice a1 s.length ca1, .slice b1 q1.length cb1] 26)).alloc (.cells #[.slice a2 t.length ca2, .slice b2 q2.length cb2] 26)) 26 #[.slice a3 f.length ca3, .slice b3 q3.length cb3]; (try simp only [World.size_alloc] at h); exact (h.alloc _)
 have R3 : Row W (w.heap.size + 1 + 1 + 1) 26 #[.slice none 0 0, .slice none 0 0] := by rw [← hW]; have h := Row.new (((w.alloc (.cells #[.slice a1 s.length ca1, .slice b1 q1.length cb1] 26)).alloc (.cells #[.slice a2 t.length ca2, .slice b2 q2.length cb2] 26)).alloc (.cells #[.slice a3 f.length ca3, .slice b3 q3.length cb3] 26)) 26 #[.slice none 0 0, .slice none 0 0]; (try simp only [World.size_alloc] at h); exact h
 have hBW : Below w.heap.size w W := by rw [← hW]; exact (((((Below.refl _ _).alloc (by (try simp) <;> omega) _).alloc (by (try simp) <;> omega) _).alloc (by (try simp) <;> omega) _).alloc (by (try simp) <;> omega) _)
 have hsW : W.heap.size = w.heap.size + 1 + 1 + 1 + 1 := by rw [← hW]; simp
 have hm1 := fun (X : World) (hX : Below W.heap.size W X) => mayT7_big (HT1.out.later (hBW.trans (hX.mono (by omega)))) (by omega) HL1.out (by omega)
 have hm2 := fun (X : World) (hX : Below W.heap.size W X) => mayT7_big (HT2.out.later (hBW.trans (hX.mono (by omega)))) (by omega) HL2.out (by omega)
 have hm3 := fun (X : World) (hX : Below W.heap.size W X) => mayT7_big (HT3.out.later (hBW.trans (hX.mono (by omega)))) (by omega) HL3.out (by omega)
 have hp := fun (X : World) (hX : Below W.heap.size W X) => mayProduct_any (HT1.out.sh.later (hBW.trans (hX.mono (by omega)))) (HT2.out.sh.later (hBW.trans (hX.mono (by omega)))) hs ht
 have hpr := fun (X : World) (hX : Below w.heap.size w X) (h1 : mayT s q1 = 0) (h2 : mayT t q2 = 0) (h3 : mmC s t = 0) => productT_any kb (HT1.out.later hX) (HT2.out.later hX) h1 h2 h3 HL1.out HL2.out hn hkb hn4
 have hpp9 := fun (h1 : mayT s q1 = 0) (h2 : mayT t q2 = 0) (h3 : mmC s t = 0) => mm_parts h1 h2 h3
 unfold gemC
 obtain ⟨m1, hmm1⟩ : ∃ m, mayT s q1 = m := ⟨_, rfl⟩
 obtain ⟨m2, hmm2⟩ : ∃ m, mayT t q2 = m := ⟨_, rfl⟩
 obtain ⟨m3, hmm3⟩ : ∃ m, mayT f q3 = m := ⟨_, rfl⟩
 obtain ⟨p, hpp⟩ : ∃ p, mmC s t = p := ⟨_, rfl⟩
 rw [hmm1] at hm1
 rw [hmm2] at hm2
 rw [hmm3] at hm3
 rw [hpp] at hp
 obtain ⟨BB, hBB⟩ : ∃ BB, (2 * n + 4 + 10) * 2 ^ kb = BB := ⟨_, rfl⟩
 have hnB : n ≤ BB := by rw [← hBB]; have := Nat.le_mul_of_pos_right (2 * n + 4 + 10) (show 0 < 2 ^ kb from Nat.two_pow_pos kb); omega
 obtain ⟨L, hL⟩ : ∃ L, mmV s t (q1.map Q3.rat) (q2.map Q3.rat) = L := ⟨_, rfl⟩
 obtain ⟨tt, htt⟩ : ∃ t', mmS s t = t' := ⟨_, rfl⟩
 rw [hBB, hmm1, hmm2, hpp, hL, htt] at hpr
 rw [hmm1, hmm2, hpp] at hpp9
 rw [hmm1, hmm2, hmm3, hpp, hL, hBB, htt]
 obtain ⟨c, hc⟩ : ∃ c, orL [m1, m2, m3, p] = c := ⟨_, rfl⟩
 have HC := Lib.hid hc
 have HPR := Lib.hid hpr
 have HPP := Lib.hid hpp9
 have HM3 := Lib.hid hmm3
 have HTT := Lib.hid htt
 have HLL := Lib.hid hL
 rw [hc]
 obtain ⟨g, hg⟩ : ∃ g, (if c = 0 then fitC f tt else c) = g := ⟨_, rfl⟩
 rw [hg]
 have HG := Lib.hid hg
 clear hg
 obtain ⟨Z, hZ⟩ : ∃ Z, q3.map Q3.rat = Z := ⟨_, rfl⟩
 have HZ := Lib.hid hZ
 rw [hZ]
 rw [hBB] at hn
 have mkS : ∀ X, Below W.heap.size W X → X.cell? ⟨w.heap.size, 0, none⟩ = some (.slice a1 s.length ca1) ∧ X.cell? ⟨w.heap.size, 1, none⟩ = some (.slice b1 q1.length cb1) ∧ X.cell? ⟨w.heap.size + 1, 0, none⟩ = some (.slice a2 t.length ca2) ∧ X.cell? ⟨w.heap.size + 1, 1, none⟩ = some (.slice b2 q2.length cb2) ∧ X.cell? ⟨w.heap.size + 1 + 1, 0, none⟩ = some (.slice a3 f.length ca3) ∧ X.cell? ⟨w.heap.size + 1 + 1, 1, none⟩ = some (.slice b3 q3.length cb3) ∧ Below W.heap.size W X := fun X h => by
  obtain ⟨x0, x1, _⟩ := (R0.later h).two
  obtain ⟨x2, x3, _⟩ := (R1.later h).two
  obtain ⟨x4, x5, _⟩ := (R2.later h).two
  exact ⟨x0, x1, x2, x3, x4, x5, h⟩
 have B0 : Below W.heap.size W W.drew := (Below.refl _ W).drew
 clear T1 T2 T3 hmm1 hmm2 hmm3 hpp hpp9 hL hc hl1 hl2 hl3 htt hBB hkb hpr hZ
 go_enter Tryz.func23, Tryz.ntmps23
 go_wp2_with fail
 (try rw [hW])
 clear hW
 refine wp_region_held (S := fun X => X.cell? ⟨w.heap.size, 0, none⟩ = some (.slice a1 s.length ca1) ∧ X.cell? ⟨w.heap.size, 1, none⟩ = some (.slice b1 q1.length cb1) ∧ X.cell? ⟨w.heap.size + 1, 0, none⟩ = some (.slice a2 t.length ca2) ∧ X.cell? ⟨w.heap.size + 1, 1, none⟩ = some (.slice b2 q2.length cb2) ∧ X.cell? ⟨w.heap.size + 1 + 1, 0, none⟩ = some (.slice a3 f.length ca3) ∧ X.cell? ⟨w.heap.size + 1 + 1, 1, none⟩ = some (.slice b3 q3.length cb3) ∧ Below W.heap.size W X) (by kernel_rfl) ?_
 have hHeld := mkS _ B0
 refine todo [0, 2, 4, 6, 7, 8, 9] ?_
 iterate 7
  refine todoH (v := ?_) rfl (by kernel_rfl) (fun _ _ _ h => h) (by assumption) (Or.inl ⟨by rfl, ?_⟩) ?_
  rotate_left
  · intro w hSw; (try dsimp only at hSw); go_simp; (try with_reducible rfl)
  try simp only [Act.put, nA, nB, nC, nD, nE, nF]
 refine todone ?_
 refine wpAnyH_ready (rs := [1]) (by kernel_rfl) (by simp) ?_
 refine AllReadyH.cons rfl (fun K hK => ?sh_1) AllReadyH.nil
 go_simp
 refine (hm1 _ B0).mono ?_
 rintro e y1 ⟨rfl, hy⟩
 have B1 : Below W.heap.size W y1 := B0.trans (hy.mono B0.size)
 have Dh1 := hy
 clear hy
 go_simp
 refine hK.out _ _ (mkS _ B1) (fun hHeld2 => ?mh_1)
 clear hK K hHeld
 have hHeld := hHeld2
 clear hHeld2
 try simp only [Act.put, nA, nB, nC, nD, nE, nF]
 refine wpAnyH_ready (rs := [3]) (by kernel_rfl) (by simp) ?_
 refine AllReadyH.cons rfl (fun K hK => ?sh_3) AllReadyH.nil
 go_simp
 refine (hm2 _ B1).mono ?_
 rintro e y2 ⟨rfl, hy⟩
 have B2 : Below W.heap.size W y2 := B1.trans (hy.mono B1.size)
 have Dh2 := hy
 clear hy
 go_simp
 refine hK.out _ _ (mkS _ B2) (fun hHeld2 => ?mh_3)
 clear hK K hHeld
 have hHeld := hHeld2
 clear hHeld2
 try simp only [Act.put, nA, nB, nC, nD, nE, nF]
 refine wpAnyH_ready (rs := [5]) (by kernel_rfl) (by simp) ?_
 refine AllReadyH.cons rfl (fun K hK => ?sh_5) AllReadyH.nil
 go_simp
 refine (hm3 _ B2).mono ?_
 rintro e y3 ⟨rfl, hy⟩
 have B3 : Below W.heap.size W y3 := B2.trans (hy.mono B2.size)
 have Dh3 := hy
 clear hy
 go_simp
 refine hK.out _ _ (mkS _ B3) (fun hHeld2 => ?mh_5)
 clear hK K hHeld
 have hHeld := hHeld2
 clear hHeld2
 try simp only [Act.put, nA, nB, nC, nD, nE, nF]
 refine wpAnyH_ready (rs := [10]) (by kernel_rfl) (by simp) ?_
 refine AllReadyH.cons rfl (fun K hK => ?sh_10) AllReadyH.nil
 go_simp
 refine (hp _ B3).mono ?_
 rintro e y4 ⟨rfl, hy⟩
 have B4 : Below W.heap.size W y4 := B3.trans (hy.mono B3.size)
 have Dh4 := hy
 clear hy
 go_simp
 refine hK.out _ _ (mkS _ B4) (fun hHeld2 => ?mh_10)
 clear hK K hHeld
 have hHeld := hHeld2
 clear hHeld2
 try simp only [Act.put, nA, nB, nC, nD, nE, nF]
 obtain ⟨y5, hh5⟩ : ∃ Y, y4.alloc (.cells #[.int .i64 m1, .int .i64 m2, .int .i64 m3, .int .i64 p] 29) = Y := ⟨_, rfl⟩
 have B5 : Below W.heap.size W y5 := by rw [← hh5]; exact B4.alloc B4.size _
 have Rh5 : Row y5 y4.heap.size 29 #[.int .i64 m1, .int .i64 m2, .int .i64 m3, .int .i64 p] := by rw [← hh5]; exact Row.new _ _ _
 refine wpAnyH_ready (rs := [11]) (by kernel_rfl) (by simp) ?_
 refine AllReadyH.cons rfl (fun K hK => ?sh_11) AllReadyH.nil
 go_simp
 (try rw [hh5])
 clear hh5
 refine hK.out _ _ (mkS _ B5) (fun hHeld2 => ?mh_11)
 clear hK K hHeld
 have hHeld := hHeld2
 clear hHeld2
 try simp only [Act.put, nA, nB, nC, nD, nE, nF]
 refine wpAnyH_ready (rs := [12]) (by kernel_rfl) (by simp) ?_
 refine AllReadyH.cons rfl (fun K hK => ?sh_12) AllReadyH.nil
 go_simp
 refine (or_any (xs := [m1, m2, m3, p]) (b := y4.heap.size) (fun k hk => by
  simp only [List.length_cons, List.length_nil] at hk
  by_cases h0 : k = 0
  · subst h0; exact Rh5.cell 0
  by_cases h1 : k = 1
  · subst h1; exact Rh5.cell 1
  by_cases h2 : k = 2
  · subst h2; exact Rh5.cell 2
  by_cases h3 : k = 3
  · subst h3; exact Rh5.cell 3
  omega) (by simp)).mono ?_
 rintro e yy ⟨rfl, rfl⟩
 go_simp
 rw [HC.out]
 refine hK.out _ _ (mkS _ B5) (fun hHeld2 => ?mh_12)
 clear hK K hHeld
 have hHeld := hHeld2
 clear hHeld2
 try simp only [Act.put, nA, nB, nC, nD, nE, nF]
 refine todo [13] ?_
 iterate 1
  refine todoH (v := ?_) rfl (by kernel_rfl) (fun _ _ _ h => h) (by assumption) (Or.inl ⟨by rfl, ?_⟩) ?_
  rotate_left
  · intro w hSw; (try dsimp only at hSw); go_simp; (try with_reducible rfl)
  try simp only [Act.put, nA, nB, nC, nD, nE, nF]
 refine todone ?_
 refine wpAnyH_done (by kernel_rfl) ?_ _
 (try dsimp only [Straight])
 have P3' := R3.later B5
 obtain ⟨x0, x1, x2, x3, x4, x5, _⟩ := mkS _ B5
 have s2 := B5.size
 have hB2 : Below w.heap.size w y5 := hBW.trans (B5.mono (by omega))
 by_cases h0 : c = 0
 · subst h0
   have hgf : fitC f tt = g := by have h := HG.out; rw [if_pos rfl] at h; exact h
   obtain ⟨k1, k2, k3, k4⟩ := orL_zero4 HC.out
   obtain ⟨l1, l2, okt, hLl⟩ : 1 ≤ s.length ∧ 2 ≤ t.length ∧ OkS tt ∧ L.length = cntF tt := by
    obtain ⟨R, b, C, e5, e6, hR, hb, hC, e1, e2, m1', m2', m3', ok3⟩ := HPP.out k1 k2 k4
    have e7 : tt = [(R : Int), (C : Int)] := by rw [← HTT.out, e5, e6]; rfl
    rw [e7]
    refine ⟨by rw [e5]; simp, by rw [e6]; simp, ok3, ?_⟩
    rw [← HLL.out, e5, e6]
    have hc := ok3.cnt
    have e8 : (cntF [(R : Int), (C : Int)] : Int) = ((R * C : Nat) : Int) := by rw [hc.1]; simp [prodS]
    have e9 : (mmV [(R : Int), (b : Int)] [(b : Int), (C : Int)] (q1.map Q3.rat) (q2.map Q3.rat)).length = R * C := by simp [mmV, mmF]
    omega
   have hrk := okt.rank
   have hsh := fun (X : World) (hX : Below w.heap.size w X) => by
    have h := shapeM_any (HT1.out.sh.later hX) (HT2.out.sh.later hX) l1 l2
    rw [HTT.out] at h
    exact h
   have hea := HPR.out
   have HPR2 := Lib.hid (fun (X : World) (hX : Below w.heap.size w X) => hea X hX k1 k2 k4)
   have HK3 := Lib.hid (HM3.out.trans k3)
   have HGF := Lib.hid hgf
   have mkT : ∀ X, Below y5.heap.size y5 X → X.cell? ⟨w.heap.size, 0, none⟩ = some (.slice a1 s.length ca1) ∧ X.cell? ⟨w.heap.size, 1, none⟩ = some (.slice b1 q1.length cb1) ∧ X.cell? ⟨w.heap.size + 1, 0, none⟩ = some (.slice a2 t.length ca2) ∧ X.cell? ⟨w.heap.size + 1, 1, none⟩ = some (.slice b2 q2.length cb2) ∧ X.cell? ⟨w.heap.size + 1 + 1, 0, none⟩ = some (.slice a3 f.length ca3) ∧ X.cell? ⟨w.heap.size + 1 + 1, 1, none⟩ = some (.slice b3 q3.length cb3) ∧ Below y5.heap.size y5 X := fun X h => by
    obtain ⟨x0, x1, x2, x3, x4, x5, _⟩ := mkS _ (B5.trans (h.mono B5.size))
    exact ⟨x0, x1, x2, x3, x4, x5, h⟩
   have D0 : Below y5.heap.size y5 y5.drew := (Below.refl _ y5).drew
   clear hea k1 k2 k3 k4 mkS hgf
   go_wp2_with fail
   refine wp_region_held (S := fun X => X.cell? ⟨w.heap.size, 0, none⟩ = some (.slice a1 s.length ca1) ∧ X.cell? ⟨w.heap.size, 1, none⟩ = some (.slice b1 q1.length cb1) ∧ X.cell? ⟨w.heap.size + 1, 0, none⟩ = some (.slice a2 t.length ca2) ∧ X.cell? ⟨w.heap.size + 1, 1, none⟩ = some (.slice b2 q2.length cb2) ∧ X.cell? ⟨w.heap.size + 1 + 1, 0, none⟩ = some (.slice a3 f.length ca3) ∧ X.cell? ⟨w.heap.size + 1 + 1, 1, none⟩ = some (.slice b3 q3.length cb3) ∧ Below y5.heap.size y5 X) (by kernel_rfl) ?_
   have hHeld := mkT _ D0
   refine todo [0, 1, 2, 3, 4, 5] ?_
   iterate 6
    refine todoH (v := ?_) rfl (by kernel_rfl) (fun _ _ _ h => h) (by assumption) (Or.inl ⟨by rfl, ?_⟩) ?_
    rotate_left
    · intro w hSw; (try dsimp only at hSw); go_simp; (try with_reducible rfl)
    try simp only [Act.put, nA, nB, nC, nD, nE, nF]
   refine todone ?_
   refine wpAnyH_ready (rs := [6]) (by kernel_rfl) (by simp) ?_
   refine AllReadyH.cons rfl (fun K hK => ?sr_6) AllReadyH.nil
   go_simp
   refine (hsh _ (hB2.trans (D0.mono hB2.size))).mono ?_
   rintro e z1 ⟨rs, rfl, RS, hy⟩
   have D1 : Below y5.heap.size y5 z1 := D0.trans (hy.mono D0.size)
   have Dr1 := hy
   clear hy
   obtain ⟨ds, cs, AS, ns⟩ := RS.arg2
   obtain rfl := AS.is
   clear RS
   go_simp
   refine hK.out _ _ (mkT _ D1) (fun hHeld2 => ?mr_6)
   clear hK K hHeld
   have hHeld := hHeld2
   clear hHeld2
   try simp only [Act.put, nA, nB, nC, nD, nE, nF]
   refine wpAnyH_ready (rs := [7]) (by kernel_rfl) (by simp) ?_
   refine AllReadyH.cons rfl (fun K hK => ?sr_7) AllReadyH.nil
   go_simp
   refine (fitsS_any (HT3.out.sh.later (hB2.trans (D1.mono hB2.size))) AS HT3.out.nila ns hf (by omega)).mono ?_
   rintro e z2 ⟨rfl, hy⟩
   have D2 : Below y5.heap.size y5 z2 := D1.trans (hy.mono D1.size)
   have Dr2 := hy
   clear hy
   rw [HGF.out]
   go_simp
   refine hK.out _ _ (mkT _ D2) (fun hHeld2 => ?mr_7)
   clear hK K hHeld
   have hHeld := hHeld2
   clear hHeld2
   try simp only [Act.put, nA, nB, nC, nD, nE, nF]
   refine todo [8] ?_
   iterate 1
    refine todoH (v := ?_) rfl (by kernel_rfl) (fun _ _ _ h => h) (by assumption) (Or.inl ⟨by rfl, ?_⟩) ?_
    rotate_left
    · intro w hSw; (try dsimp only at hSw); go_simp; (try with_reducible rfl)
    try simp only [Act.put, nA, nB, nC, nD, nE, nF]
   refine todone ?_
   refine wpAnyH_done (by kernel_rfl) ?_ _
   (try dsimp only [Straight])
   have Q3' := P3'.later D2
   have hB3 : Below w.heap.size w z2 := hB2.trans (D2.mono hB2.size)
   obtain ⟨x0', x1', x2', x3', x4', x5', _⟩ := mkT _ D2
   have s3 := D2.size
   clear x0 x1 x2 x3 x4 x5
   by_cases hg0 : g = 0
   · subst hg0
     have okf : OkS f := mayC_zero.1 (mayT_rank HK3.out)
     have hzc : q3.length = cntF f := by
      have h := (mayT_valid HK3.out).1
      rw [okf.count] at h
      have := okf.cnt
      omega
     have hZl : Z.length = q3.length := by rw [← HZ.out]; simp
     have mkG : ∀ X, Below z2.heap.size z2 X → X.cell? ⟨w.heap.size, 0, none⟩ = some (.slice a1 s.length ca1) ∧ X.cell? ⟨w.heap.size, 1, none⟩ = some (.slice b1 q1.length cb1) ∧ X.cell? ⟨w.heap.size + 1, 0, none⟩ = some (.slice a2 t.length ca2) ∧ X.cell? ⟨w.heap.size + 1, 1, none⟩ = some (.slice b2 q2.length cb2) ∧ X.cell? ⟨w.heap.size + 1 + 1, 0, none⟩ = some (.slice a3 f.length ca3) ∧ X.cell? ⟨w.heap.size + 1 + 1, 1, none⟩ = some (.slice b3 q3.length cb3) := fun X h => by
      obtain ⟨x0, x1, x2, x3, x4, x5, _⟩ := mkT _ (D2.trans (h.mono D2.size))
      exact ⟨x0, x1, x2, x3, x4, x5⟩
     have E0 : Below z2.heap.size z2 z2.drew := (Below.refl _ z2).drew
     have R0z := (R0.later B5).later D2
     have R1z := (R1.later B5).later D2
     have R2z := (R2.later B5).later D2
     have HZL := Lib.hid hZl
     have HZC := Lib.hid hzc
     have OKF := Lib.hid okf
     have OKT := Lib.hid okt
     have HLL2 := Lib.hid hLl
     clear hzc okf okt hLl hZl mkT x0' x1' x2' x3' x4' x5'
     go_wp2_with fail
     refine wp_region_L (S := fun X => X.cell? ⟨w.heap.size, 0, none⟩ = some (.slice a1 s.length ca1) ∧ X.cell? ⟨w.heap.size, 1, none⟩ = some (.slice b1 q1.length cb1) ∧ X.cell? ⟨w.heap.size + 1, 0, none⟩ = some (.slice a2 t.length ca2) ∧ X.cell? ⟨w.heap.size + 1, 1, none⟩ = some (.slice b2 q2.length cb2) ∧ X.cell? ⟨w.heap.size + 1 + 1, 0, none⟩ = some (.slice a3 f.length ca3) ∧ X.cell? ⟨w.heap.size + 1 + 1, 1, none⟩ = some (.slice b3 q3.length cb3)) (z := 6) (by kernel_rfl) (mkG _ E0) (fun hHeld => ?_)
     refine todo [0, 1, 3] ?_
     iterate 3
      refine todoL (v := ?_) rfl (by kernel_rfl) (fun _ _ _ h => h) (by assumption) (Or.inl ⟨by rfl, ?_⟩) ?_
      rotate_left
      · intro w hSw; (try dsimp only at hSw); go_simp; (try with_reducible rfl)
      try simp only [Act.put, nA, nB, nC, nD, nE, nF]
     refine todone ?_
     refine wpAnyL_one (i := 2) (by kernel_rfl) rfl (fun K hK => ?sbg_2)
     go_simp
     refine (HPR2.out _ (hB3.trans (E0.mono hB3.size))).mono ?_
     rintro e v1 ⟨r1, rfl, hT1, hb1⟩
     have E1 : Below z2.heap.size z2 v1 := E0.trans (hb1.mono (by simp))
     have F1 : Below w.heap.size w v1 := hB3.trans (E1.mono hB3.size)
     obtain ⟨a', b', ca', cb', rfl, RS, RO⟩ := hT1
     obtain ⟨_, AS', ns'⟩ := RS.at_
     obtain ⟨_, RA, _⟩ := RO.at_
     go_simp
     refine hK.out _ _ (fun _ => mkG _ E1) (fun hHeld2 => ?mbg_2)
     clear hK K hHeld
     have hHeld := hHeld2 (by decide)
     clear hHeld2
     try simp only [Act.put, nA, nB, nC, nD, nE, nF]
     have EA : RowA (fun Y v x => ArgQ Y v x BB) v1 (.slice b' L.length cb') L b' cb' := ⟨RA.is, RA.le, RA.els.imp id fun ⟨c1, c2, c3, c4, c5, c6⟩ => ⟨c1, c2, c3, c4, c5, c6.imp fun _ _ _ h => h.arg⟩⟩
     have EB : RowA (fun Y v x => ArgQ Y v x BB) v1 (.slice b3 Z.length cb3) Z b3 cb3 := by
      have h := (HT3.out.el.later F1 (fun _ _ _ k => k.later F1)).ratsQ HL3.out
      rw [HZ.out, ← HZL.out] at h
      exact ⟨h.is, h.le, h.els.imp id fun ⟨c1, c2, c3, c4, c5, c6⟩ => ⟨c1, c2, c3, c4, c5, c6.imp fun _ _ _ h => h.more10 hnB⟩⟩
     have hpl := plusQ_any AS' ns' EA (HT3.out.sh.later F1) HT3.out.nila EB OKT.out HLL2.out (by rw [HZL.out]; exact HZC.out) HGF.out (by omega)
     rw [HZL.out] at hpl
     refine wpAnyL_one (i := 4) (by kernel_rfl) rfl (fun K hK => ?sbg_4)
     go_simp
     refine (hpl).mono ?_
     rintro e v2 ⟨r2, rfl, hT2, hb2⟩
     have E2 : Below z2.heap.size z2 v2 := E1.trans (hb2.mono E1.size)
     have F2 : Below w.heap.size w v2 := hB3.trans (E2.mono hB3.size)
     obtain ⟨a5, b5, ca5, cb5, rfl, RS5, RO5⟩ := hT2
     have HR := Lib.hid RS5
     have HO := Lib.hid RO5
     clear RS5 RO5 hpl
     go_simp
     refine hK.out _ _ (fun _ => mkG _ E2) (fun hHeld2 => ?mbg_4)
     clear hK K hHeld
     have hHeld := hHeld2 (by decide)
     clear hHeld2
     try simp only [Act.put, nA, nB, nC, nD, nE, nF]
     have P5 := Q3'.later E2
     obtain ⟨u0, u1, g0, g1⟩ := P5.two
     have K0 := R0z.later E2
     have K1 := R1z.later E2
     have K2 := R2z.later E2
     obtain ⟨l, hl⟩ : ∃ l, (plusF tt f L Z).length = l := ⟨_, rfl⟩
     obtain ⟨l2, hl2⟩ : ∃ l, tt.length = l := ⟨_, rfl⟩
     have HL2' := Lib.hid hl
     have HL3' := Lib.hid hl2
     rw [hl, hl2]
     clear hl hl2
     have mkF : ((v2.setCell ⟨w.heap.size + 1 + 1 + 1, 0, none⟩ (.slice a5 l2 ca5)).setCell ⟨w.heap.size + 1 + 1 + 1, 1, none⟩ (.slice b5 l cb5)).cell? ⟨w.heap.size, 0, none⟩ = some (.slice a1 s.length ca1) ∧ ((v2.setCell ⟨w.heap.size + 1 + 1 + 1, 0, none⟩ (.slice a5 l2 ca5)).setCell ⟨w.heap.size + 1 + 1 + 1, 1, none⟩ (.slice b5 l cb5)).cell? ⟨w.heap.size, 1, none⟩ = some (.slice b1 q1.length cb1) ∧ ((v2.setCell ⟨w.heap.size + 1 + 1 + 1, 0, none⟩ (.slice a5 l2 ca5)).setCell ⟨w.heap.size + 1 + 1 + 1, 1, none⟩ (.slice b5 l cb5)).cell? ⟨w.heap.size + 1, 0, none⟩ = some (.slice a2 t.length ca2) ∧ ((v2.setCell ⟨w.heap.size + 1 + 1 + 1, 0, none⟩ (.slice a5 l2 ca5)).setCell ⟨w.heap.size + 1 + 1 + 1, 1, none⟩ (.slice b5 l cb5)).cell? ⟨w.heap.size + 1, 1, none⟩ = some (.slice b2 q2.length cb2) ∧ ((v2.setCell ⟨w.heap.size + 1 + 1 + 1, 0, none⟩ (.slice a5 l2 ca5)).setCell ⟨w.heap.size + 1 + 1 + 1, 1, none⟩ (.slice b5 l cb5)).cell? ⟨w.heap.size + 1 + 1, 0, none⟩ = some (.slice a3 f.length ca3) ∧ ((v2.setCell ⟨w.heap.size + 1 + 1 + 1, 0, none⟩ (.slice a5 l2 ca5)).setCell ⟨w.heap.size + 1 + 1 + 1, 1, none⟩ (.slice b5 l cb5)).cell? ⟨w.heap.size + 1 + 1, 1, none⟩ = some (.slice b3 q3.length cb3) := by
      obtain ⟨j0, j1, _, _⟩ := (((K0.far (p := ⟨w.heap.size + 1 + 1 + 1, 0, none⟩) (by show w.heap.size ≠ w.heap.size + 1 + 1 + 1; omega) (.slice a5 l2 ca5))).far (p := ⟨w.heap.size + 1 + 1 + 1, 1, none⟩) (by show w.heap.size ≠ w.heap.size + 1 + 1 + 1; omega) (.slice b5 l cb5)).two
      obtain ⟨j2, j3, _, _⟩ := (((K1.far (p := ⟨w.heap.size + 1 + 1 + 1, 0, none⟩) (by show w.heap.size + 1 ≠ w.heap.size + 1 + 1 + 1; omega) (.slice a5 l2 ca5))).far (p := ⟨w.heap.size + 1 + 1 + 1, 1, none⟩) (by show w.heap.size + 1 ≠ w.heap.size + 1 + 1 + 1; omega) (.slice b5 l cb5)).two
      obtain ⟨j4, j5, _, _⟩ := (((K2.far (p := ⟨w.heap.size + 1 + 1 + 1, 0, none⟩) (by show w.heap.size + 1 + 1 ≠ w.heap.size + 1 + 1 + 1; omega) (.slice a5 l2 ca5))).far (p := ⟨w.heap.size + 1 + 1 + 1, 1, none⟩) (by show w.heap.size + 1 + 1 ≠ w.heap.size + 1 + 1 + 1; omega) (.slice b5 l cb5)).two
      exact ⟨j0, j1, j2, j3, j4, j5⟩
     refine wpAnyL_one (i := 5) (by kernel_rfl) rfl (fun K hK => ?sbg_5)
     go_simp
     refine hK.out _ _ (fun _ => mkF) (fun hHeld2 => ?mbg_5)
     clear hK K hHeld
     have hHeld := hHeld2 (by decide)
     clear hHeld2
     try simp only [Act.put, nA, nB, nC, nD, nE, nF]
     refine wpAnyL_one (i := 6) (by kernel_rfl) rfl (fun K hK => ?sbg_6)
     go_simp
     refine hK.out _ _ (fun h => absurd rfl h) (fun _ => ?mbg_6)
     clear hK K
     try simp only [Act.put, nA, nB, nC, nD, nE, nF]
     refine wpAnyL_done (by kernel_rfl) ?_ _
     have P6 := P5.set2 (.slice a5 l2 ca5) (.slice b5 l cb5)
     obtain ⟨z0', z1', _, _⟩ := P6.two
     go_wp2
     refine bodyPost_ret (v := .tuple #[.agg #[.slice a5 l2 ca5, .slice b5 l cb5], .int .i64 0]) (by simp [results, Tryz.results23, go_sem, z0', z1']) rfl ⟨.inl ⟨rfl, _, rfl, ?_⟩, below_set2 F2 (by omega) _ _⟩
     have hR : ResT w.heap.size v2 (.agg #[.slice a5 l2 ca5, .slice b5 l cb5]) tt (plusF tt f L Z) (2 * BB + 10) := ResT.mono ⟨a5, b5, ca5, cb5, by rw [HL2'.out, HL3'.out], HR.out, HO.out⟩ F1.size
     exact hR.far P5 (by decide) (by decide) (by decide) (kept2 _ _)
   · have hne : (g != 0) = true := by simp [hg0]
     have H0 := Lib.hid hg0
     obtain ⟨u0, u1, g0, g1⟩ := Q3'.two
     clear hg0 mkT
     go_wp2_with fail
     have P4 := Q3'.set2 (.slice none 0 0) (.slice none 0 0)
     obtain ⟨z0, z1, _, _⟩ := P4.two
     refine bodyPost_ret (v := .tuple #[noTensor, .int .i64 g]) (by simp [results, Tryz.results23, go_sem, z0, z1, noTensor]) rfl ⟨.inr ⟨H0.out, rfl⟩, below_set2 hB3 (by omega) _ _⟩
 · have hne : (c != 0) = true := by simp [h0]
   have H0 := Lib.hid h0
   obtain ⟨u0, u1, g0, g1⟩ := P3'.two
   have hgc : c = g := by have h := HG.out; rw [if_neg h0] at h; exact h
   subst hgc
   clear h0 mkS
   go_wp2_with fail
   have P4 := P3'.set2 (.slice none 0 0) (.slice none 0 0)
   obtain ⟨z0, z1, _, _⟩ := P4.two
   refine bodyPost_ret (v := .tuple #[noTensor, .int .i64 c]) (by simp [results, Tryz.results23, go_sem, z0, z1, noTensor]) rfl ⟨.inr ⟨H0.out, rfl⟩, below_set2 hB2 (by omega) _ _⟩
end
section
open Go.RowKit
theorem TensQ.wfs10 {w : World} {v : Value} {s : List Int} {qs : List Q3} {a b : Option Addr} {ca cb : Nat} (T : TensQ w v s qs a ca b cb) : ∀ q ∈ qs, Wf q.num ∧ Wf q.den := fun q hq => by
 obtain ⟨i, hi, rfl⟩ := List.mem_iff_getElem.1 hq
 obtain ⟨_, _, _, _, _, q', _, hq', _, _, _, hr⟩ := T.el.at hi
 rw [List.getElem?_eq_getElem hi] at hq'
 cases hq'
 obtain ⟨_, _, _, _, _, A, B, _⟩ := hr
 exact ⟨A.wf, B.wf⟩
theorem ResR.refit10 {base n b : Nat} {w : World} {v : Value} {X : Rat} (h : ResR base w v X n) (hf : FitQ X b) : ResR base w v X (b / 13 + 1) := by
 obtain ⟨zs, ys, ad, bd, ca, cb, rfl, A, B, _, _⟩ := h
 exact ⟨zs, ys, ad, bd, ca, cb, rfl, A, B, lenD_le A.wf A.full (by rw [A.eq]; have := hf.1; omega), lenD_le B.wf B.full (by rw [B.eq]; have := hf.2; omega)⟩
theorem ArgR.more10 {w : World} {v : Value} {X : Rat} {n m : Nat} (h : ArgR w v X n) (hm : n ≤ m) : ArgR w v X m := by
 obtain ⟨xs, ds, a1, a2, c1, c2, hv, A, B, hX1, hX2, hx, hd⟩ := h
 exact ⟨xs, ds, a1, a2, c1, c2, hv, A, B, hX1, hX2, by omega, by omega⟩
theorem ResR.shape10 {base n : Nat} {w : World} {v : Value} {X : Rat} (h : ResR base w v X n) : ∃ (m : Bool) (a : Option Addr) (b c : Nat) (d : Option Addr) (e f : Nat), v = .agg #[.bool m, .slice a b c, .slice d e f] := by
 obtain ⟨zs, ys, ad, bd, ca, cb, rfl, _⟩ := h
 exact ⟨_, _, _, _, _, _, _, rfl⟩
end
section
open Go.RowKit
theorem prodT_le10 {s : List Int} (h : posS s) (k : Nat) : prodS (s.take k) ≤ prodS s := by
 have h1 := prodS_pos (h.take k)
 have h2 := prodS_pos (h.drop k)
 have e : prodS s = prodS (s.take k) * prodS (s.drop k) := by rw [← prodS_append, List.take_append_drop]
 rw [e]
 have := Int.mul_le_mul_of_nonneg_left h2 (show 0 ≤ prodS (s.take k) by omega)
 omega
theorem ArgR.shape10 {w : World} {v : Value} {x : Rat} {n : Nat} (h : ArgR w v x n) : ∃ (m : Bool) (a : Option Addr) (b c : Nat) (d : Option Addr) (e f : Nat), v = .agg #[.bool m, .slice a b c, .slice d e f] := by
 obtain ⟨xs, ds, a1, a2, c1, c2, rfl, _⟩ := h
 exact ⟨_, _, _, _, _, _, _, rfl⟩
theorem placeT_10 {s xs : List Int} (h : xs.length = s.length) {k : Nat} (hk : k < s.length) : placeS (s.take (k + 1)) (xs.take (k + 1)) = placeS (s.take k) (xs.take k) * s.getD k 0 + xs.getD k 0 := by
 rw [List.take_add_one, List.take_add_one, List.getElem?_eq_getElem hk, List.getElem?_eq_getElem (show k < xs.length by omega)]
 have e1 : s.getD k 0 = s[k] := by rw [List.getD_eq_getElem?_getD, List.getElem?_eq_getElem hk]; rfl
 have e2 : xs.getD k 0 = xs[k]'(by omega) := by rw [List.getD_eq_getElem?_getD, List.getElem?_eq_getElem (show k < xs.length by omega)]; rfl
 rw [e1, e2]
 exact place_snoc (by rw [List.length_take, List.length_take, h]) _ _
theorem inT_10 {s xs : List Int} (h : inS s xs) (k : Nat) : inS (s.take k) (xs.take k) := by
 have hl := inS_length h
 refine inS_of (by rw [List.length_take, List.length_take, hl]) fun i hi => ?_
 rw [List.length_take] at hi
 have h1 := inS_at h (i := i) (by omega)
 rw [List.getD_eq_getElem?_getD, List.getD_eq_getElem?_getD, List.getElem?_take_of_lt (by omega), List.getElem?_take_of_lt (by omega), ← List.getD_eq_getElem?_getD, ← List.getD_eq_getElem?_getD]
 exact h1
theorem spreadR_any {n : Nat} {w : World} {u v : Value} {f t xs : List Int} {Z : List Rat} {a1 b1 a2 : Option Addr} {ca1 cb1 ca2 : Nat} (T : TensR w u f Z n a1 ca1 b1 cb1) (D : ArgS w v xs a2 ca2) (hf : fitC f t = 0) (hx : inS t xs) (hZ : Z.length = cntF f) :
 Calls Tryz.prog 62 #[u, v] w fun e w' => ∃ r, e = .returned r ∧ ArgR w' r (elV f Z (bcI f (t.length - f.length) xs)) n ∧ Below w.heap.size w w' := by
 have HT := Lib.hid T
 have HD := Lib.hid D
 obtain rfl := T.is
 obtain rfl := D.is
 obtain ⟨of, ot, _⟩ := fitC_is hf
 have hlen := fit_len hf
 have hxl := inS_length hx
 have hr4 := ot.rank
 obtain ⟨N1, hN1⟩ : ∃ m, f.length = m := ⟨_, rfl⟩
 obtain ⟨N2, hN2⟩ : ∃ m, xs.length = m := ⟨_, rfl⟩
 obtain ⟨M1, hM1⟩ : ∃ m, Z.length = m := ⟨_, rfl⟩
 obtain ⟨d, hd⟩ : ∃ d, t.length - f.length = d := ⟨_, rfl⟩
 obtain ⟨bs, hbs⟩ : ∃ b, bcI f d xs = b := ⟨_, rfl⟩
 have hin : inS f bs := by rw [← hbs]; exact bcI_in10 of.pos d xs
 have hkeep : ∀ i, i < f.length → bs.getD i 0 = if f.getD i 0 = 1 then 0 else xs.getD (d + i) 0 := fun i hi => by rw [← hbs, ← hd]; exact bc_keep hf hx hi
 have hc := of.cnt
 have HIN := Lib.hid hin
 have HKE := Lib.hid hkeep
 have HN1 := Lib.hid hN1
 have HN2 := Lib.hid hN2
 have HM1 := Lib.hid hM1
 have HOF := Lib.hid of
 have HBL := Lib.hid (inS_length hin)
 have hdI : (N2 : Int) - (N1 : Int) = (d : Int) := by omega
 have hd4 : d + N1 = N2 := by omega
 have hN24 : N2 ≤ 4 := by omega
 have hM4 : M1 = cntF f := by omega
 have HMC := Lib.hid hM4
 rw [hd, hbs, hN1, hN2, hM1]
 obtain ⟨W, hW⟩ : ∃ W, ((w.alloc (.cells #[.slice a1 N1 ca1, .slice b1 M1 cb1] 36)).alloc (.cells #[.bool false, .slice none 0 0, .slice none 0 0] 58)) = W := ⟨_, rfl⟩
 have R0 : Row W (w.heap.size) 36 #[.slice a1 N1 ca1, .slice b1 M1 cb1] := by rw [← hW]; have h := Row.new w 36 #[.slice a1 N1 ca1, .slice b1 M1 cb1]; (try simp only [World.size_alloc] at h); exact (h.alloc _)
 have R1 : Row W (w.heap.size + 1) 58 #[.bool false, .slice none 0 0, .slice none 0 0] := by rw [← hW]; have h := Row.new (w.alloc (.cells #[.slice a1 N1 ca1, .slice b1 M1 cb1] 36)) 58 #[.bool false, .slice none 0 0, .slice none 0 0]; (try simp only [World.size_alloc] at h); exact h
 have hBW : Below w.heap.size w W := by rw [← hW]; exact (((Below.refl _ _).alloc (by (try simp) <;> omega) _).alloc (by (try simp) <;> omega) _)
 have hsW : W.heap.size = w.heap.size + 1 + 1 := by rw [← hW]; simp
 have HR0 := Lib.hid R0
 have HR1 := Lib.hid R1
 have HBW := Lib.hid hBW
 have HSW := Lib.hid hsW
 clear T D hN1 hN2 hM1 hd hbs hin hkeep hf hx hZ of ot hlen hxl hr4 hc R0 R1 hBW hsW hM4
 go_enter Tryz.func62, Tryz.ntmps62
 go_wp2_with fail
 (try rw [hW])
 (try clear hW)
 go_loopw [5, 6] (fun p i wr => ∃ k : Nat, i = .int .i64 (k : Int) ∧ k ≤ N1 ∧ p = .int .i64 (placeS (f.take k) (bs.take k)) ∧ wr = W) (fun _ i _ => N1 - (intOf i).toNat)
 case atStart => exact ⟨0, rfl, Nat.zero_le _, rfl, rfl⟩
 case round =>
  obtain ⟨k, rfl, hk, rfl, rfl⟩ := hrel
  obtain ⟨x0, x1, _, _⟩ := HR0.out.two
  by_cases hlt : k < N1
  · have hltI : (k : Int) < (N1 : Int) := by omega
    have hk0 : (0 : Int) ≤ (k : Int) := by omega
    obtain ⟨e1, f1, rfl, p1⟩ := (HT.out.later HBW.out).sh.at (i := k) (by rw [HN1.out]; exact hlt)
    obtain ⟨e2, f2, rfl, p2⟩ := (HD.out.later HBW.out).at (i := d + k) (by rw [HN2.out]; omega)
    have hst := placeT_10 (s := f) (xs := bs) HBL.out (k := k) (by rw [HN1.out]; exact hlt)
    have r1 := place_range (inT_10 HIN.out k)
    have r2 := place_range (inT_10 HIN.out (k + 1))
    have r3 := prodT_le10 HOF.out.pos k
    have r4 := prodT_le10 HOF.out.pos (k + 1)
    have r5 := HOF.out.few
    have r6 := HOF.out.pos.getD (i := k) (by rw [HN1.out]; exact hlt)
    have r7 := inS_at HIN.out (i := k) (by rw [HN1.out]; exact hlt)
    have hke := HKE.out k (by rw [HN1.out]; exact hlt)
    obtain ⟨P, hP⟩ : ∃ P, placeS (f.take k) (bs.take k) = P := ⟨_, rfl⟩
    obtain ⟨P', hP'⟩ : ∃ P, placeS (f.take (k + 1)) (bs.take (k + 1)) = P := ⟨_, rfl⟩
    obtain ⟨fi, hfi⟩ : ∃ x, f.getD k 0 = x := ⟨_, rfl⟩
    obtain ⟨xi, hxi⟩ : ∃ x, xs.getD (d + k) 0 = x := ⟨_, rfl⟩
    obtain ⟨bi, hbi⟩ : ∃ x, bs.getD k 0 = x := ⟨_, rfl⟩
    rw [hP, hP', hfi, hbi] at hst
    rw [hP] at r1 ⊢
    rw [hP'] at r2
    rw [hfi] at r6 r7 hke p1
    rw [hbi] at r7 hke
    rw [hxi] at hke p2
    obtain ⟨M, hM⟩ : ∃ M, P * fi = M := ⟨_, rfl⟩
    rw [hM] at hst
    have hP4 : P ≤ 1024 := by omega
    have hM4 : M ≤ 1024 := by omega
    have hM0 : 0 ≤ M := by rw [← hM]; exact Int.mul_nonneg r1.1 (by omega)
    have hdk : (d : Int) + (k : Int) = ((d + k : Nat) : Int) := by omega
    obtain ⟨dk, hdk2⟩ : ∃ x, d + k = x := ⟨_, rfl⟩
    rw [hdk2] at hdk p2
    have hdkI : (dk : Int) < (N2 : Int) := by omega
    have hdk0 : (0 : Int) ≤ (dk : Int) := by omega
    have wM : IntKind.i64.wrap M = M := IntWalk.i64_in _ (by omega)
    have wd : IntKind.i64.wrap (d : Int) = (d : Int) := IntWalk.i64_in _ (by omega)
    have wdk : IntKind.i64.wrap (dk : Int) = (dk : Int) := IntWalk.i64_in _ (by omega)
    have HST := Lib.hid hst
    have HP2 := Lib.hid hP'
    have HPB := Lib.hid (And.intro r2.1 (show P' ≤ 1024 by omega))
    have HKB := Lib.hid hke
    have hrange : 0 ≤ bi ∧ bi ≤ 1024 := by omega
    have HRB := Lib.hid hrange
    clear r1 r2 r3 r4 r5 r7 hst hP hP' hfi hxi hbi hdk2 hke hrange
    by_cases h1 : fi = 1
    · have h1B : (fi == 1) = true := by simp [h1]
      have hs : M + 0 = P' := by rw [HST.out, HKB.out, if_pos h1]
      have wP : IntKind.i64.wrap P' = P' := IntWalk.i64_in _ (by have := HPB.out; omega)
      subst h1
      go_wp2
      go_roundw
      case rel => exact ⟨k + 1, by go_num, by omega, by rw [HP2.out], trivial⟩
      case measure => simp [intOf]; omega
    · have h1B : (fi == 1) = false := by rw [beq_eq_false_iff_ne]; exact h1
      have hs : M + xi = P' := by rw [HST.out, HKB.out, if_neg h1]
      have wP : IntKind.i64.wrap P' = P' := IntWalk.i64_in _ (by have := HPB.out; omega)
      go_wp2
      go_roundw
      case rel => exact ⟨k + 1, by go_num, by omega, by rw [HP2.out], trivial⟩
      case measure => simp [intOf]; omega
  · obtain rfl : k = N1 := by omega
    have hltI : ¬ (k : Int) < (k : Int) := by omega
    have hpr := place_range HIN.out
    have hcn := HOF.out.cnt
    obtain ⟨p, hp⟩ : ∃ p, (placeS f bs).toNat = p := ⟨_, rfl⟩
    have hpZ : p < Z.length := by rw [HM1.out, HMC.out]; omega
    have hpI : placeS (f.take k) (bs.take k) = (p : Int) := by
     rw [List.take_of_length_le (by rw [HN1.out]; exact Nat.le_refl _), List.take_of_length_le (by rw [HBL.out, HN1.out]; exact Nat.le_refl _)]
     omega
    obtain ⟨e1, f1, y0, y1, y2, q, he1, hq, u0, u1, u2, hA⟩ := HT.out.el.at hpZ
    have g0 := (HBW.out.cell (World.block_lt_of_cell? _ _ u0)).trans u0
    have g1 := (HBW.out.cell (World.block_lt_of_cell? _ _ u1)).trans u1
    have g2 := (HBW.out.cell (World.block_lt_of_cell? _ _ u2)).trans u2
    clear u0 u1 u2
    subst he1
    obtain ⟨m9, a9, b9, c9, d9, e9, f9, eq9⟩ := hA.shape10
    simp only [Value.agg.injEq, Array.mk.injEq, List.cons.injEq, and_true] at eq9
    obtain ⟨rfl, rfl, rfl⟩ := eq9
    have hel : elV f Z bs = q := by rw [elV_in HIN.out, hp, List.getD_eq_getElem?_getD, hq]; rfl
    rw [hpI]
    have HEL := Lib.hid hel
    have hp0 : (0 : Int) ≤ (p : Int) := by omega
    have hpM : (p : Int) < (M1 : Int) := by have := HM1.out; omega
    obtain ⟨k0, k1, k2, n0, n1, n2⟩ := HR1.out.three
    have R3 := HR1.out.set3 (.bool m9) (.slice a9 b9 c9) (.slice d9 e9 f9)
    obtain ⟨z0, z1, z2, _⟩ := R3.three
    have hBE := below_set3 HBW.out (show w.heap.size ≤ w.heap.size + 1 by omega) (.bool m9) (.slice a9 b9 c9) (.slice d9 e9 f9)
    have HBE := Lib.hid hBE
    have hF := hA.later hBE
    have HF := Lib.hid hF
    clear hpr hcn hp hpZ hpI hq hA hel R3 hBE hF
    go_wp2_with fail
    exact bodyPost_ret (v := .agg #[.bool m9, .slice a9 b9 c9, .slice d9 e9 f9]) (by simp [results, Tryz.results62, go_sem, z0, z1, z2]) rfl ⟨_, rfl, by rw [HEL.out]; exact HF.out, HBE.out⟩
end
end Go.Proofs.YtengpgodmbfmkaaGreat
