/-
  Part 32 of 39: contracts and what they rest on (TCode4, POne, POneB, PTwoB, FSumm).
-/
import Derived.Test.YtengpgodmbfmkaaGreatG30
namespace Go.Proofs.YtengpgodmbfmkaaGreat
set_option linter.unusedVariables false
set_option linter.unusedSimpArgs false
set_option maxRecDepth 100000
set_option maxHeartbeats 40000000
section
open Go.RowKit Go.Shelf
attribute [local go_sem] Oper.semAt_some
theorem copyT7_any {n : Nat} {w : World} {v : Value} {s : List Int} {qs : List Q3} {a b : Option Addr} {ca cb : Nat} (T : TensQ w v s qs a ca b cb) (hs : s.length ≤ 1048576) (hq : qs.length ≤ 1048576) (hl : lensQ qs n) (hn : n ≤ 4000000) :
 Calls Tryz.prog 86 #[v] w fun e w' => ∃ r, e = .returned r ∧ ResC w.heap.size w' r s qs ∧ Below w.heap.size w w' := by
 obtain rfl := T.is
 obtain ⟨B, hB⟩ : ∃ B, w.heap.size = B := ⟨_, rfl⟩
 obtain ⟨W1, hW1⟩ : ∃ W1, w.alloc (.cells #[.slice a s.length ca, .slice b qs.length cb] 26) = W1 := ⟨_, rfl⟩
 obtain ⟨W2, hW2⟩ : ∃ W2, W1.alloc (.cells #[.slice none 0 0, .slice none 0 0] 26) = W2 := ⟨_, rfl⟩
 have s1 : W1.heap.size = B + 1 := by rw [← hW1, ← hB]; simp
 have s2 : W2.heap.size = B + 1 + 1 := by rw [← hW2, World.size_alloc, s1]
 have R0 : Row W2 B 26 #[.slice a s.length ca, .slice b qs.length cb] := by rw [← hW2, ← hW1, ← hB]; exact (Row.new _ _ _).alloc _
 have R1 : Row W2 (B + 1) 26 #[.slice none 0 0, .slice none 0 0] := by rw [← hW2, ← s1]; exact Row.new _ _ _
 have hb2 : Below B w W2 := by rw [← hW2, ← hW1]; exact ((Below.refl _ w).alloc (by omega) _).alloc (by simp; omega) _
 have T2 := T.later (by rw [hB]; exact hb2)
 have HT := Lib.hid T2
 obtain ⟨c0, c1, _, _⟩ := R0.two
 have HL := Lib.hid hl
 clear T T2 hl
 go_enter Tryz.func86, Tryz.ntmps86
 go_wp2_with fail
 have mkS : ∀ Y, Below W2.heap.size W2 Y → Y.cell? ⟨B, 0, none⟩ = some (.slice a s.length ca) ∧ Y.cell? ⟨B, 1, none⟩ = some (.slice b qs.length cb) := fun Y hb => by
  obtain ⟨x0, x1, _⟩ := (R0.later hb).two
  exact ⟨x0, x1⟩
 have b0 : Below W2.heap.size W2 W2.drew := (Below.refl _ W2).drew
 refine wp_region_L (S := fun Y => Y.cell? ⟨B, 0, none⟩ = some (.slice a s.length ca) ∧ Y.cell? ⟨B, 1, none⟩ = some (.slice b qs.length cb)) (z := 7) (by kernel_rfl) (mkS _ b0) (fun hHeld => ?_)
 refine todo [0, 1, 3] ?_
 iterate 3
  refine todoL (v := ?_) rfl (by kernel_rfl) (fun _ _ _ h => h) (by assumption) (Or.inl ⟨by rfl, ?_⟩) ?_
  rotate_left
  · intro w hSw; (try dsimp only at hSw); go_simp; (try with_reducible rfl)
  try simp only [Act.put, nA, nB, nC, nD, nE, nF]
 refine todone ?_
 refine wpAnyL_one (i := 2) (by kernel_rfl) rfl (fun K hK => ?sb2)
 go_simp
 refine (copyShape_any (HT.out.sh.later b0) (by omega)).mono ?_
 rintro e w3 ⟨r3, rfl, R3, b3⟩
 obtain ⟨g1, k1, rfl⟩ := resS_slice R3
 go_simp
 have b03 : Below W2.heap.size W2 w3 := b0.trans b3
 have s3 := b03.size
 refine hK.out _ _ (fun _ => mkS _ b03) (fun hHeld2 => ?mb03)
 clear hK K hHeld
 have hHeld := hHeld2 (by decide)
 clear hHeld2
 try simp only [Act.put, nD, nE, nF]
 refine wpAnyL_one (i := 4) (by kernel_rfl) rfl (fun K hK => ?sb4)
 go_simp
 refine (elements_any _ _ _ _ _ _ _).mono ?_
 rintro e w4 ⟨rfl, b4⟩
 go_simp
 have b04 : Below W2.heap.size W2 w4 := b03.trans (b4.mono s3)
 have s4 := b4.size
 refine hK.out _ _ (fun _ => mkS _ b04) (fun hHeld2 => ?mb04)
 clear hK K hHeld
 have hHeld := hHeld2 (by decide)
 clear hHeld2
 try simp only [Act.put, nD, nE, nF]
 refine wpAnyL_one (i := 5) (by kernel_rfl) rfl (fun K hK => ?sb5)
 go_simp
 refine (madeC_any (HT.out.el.later b04 (fun v x _ k => k.later b04)) (by omega) HL.out (by omega)).mono ?_
 rintro e w5 ⟨r5, rfl, R5, b5⟩
 obtain ⟨g2, k2, rfl⟩ := rowO_slice R5
 go_simp
 have b05 : Below W2.heap.size W2 w5 := b04.trans (b5.mono (by omega))
 refine hK.out _ _ (fun _ => mkS _ b05) (fun hHeld2 => ?mb05)
 clear hK K hHeld
 have hHeld := hHeld2 (by decide)
 clear hHeld2
 try simp only [Act.put, nD, nE, nF]
 refine wpAnyL_take (i := 6) (v := ?va6) rfl (by kernel_rfl) (by kernel_rfl) (by kernel_rfl) (by kernel_rfl) (fun _ _ _ h => h) (Or.inl ⟨by rfl, ?ha6⟩) (by assumption) ?ra6
 case ha6 =>
  intro w hSw
  try dsimp only at hSw
  go_simp
  try with_reducible rfl
 try simp only [Act.put, nD, nE, nF]
 have R6 := R1.later b05
 obtain ⟨u0, u1, u2, u3⟩ := R6.two
 have R7 := R6.set2 (.slice g1 s.length k1) (.slice g2 qs.length k2)
 obtain ⟨y0, y1, _, _⟩ := R7.two
 refine wpAnyL_one (i := 7) (by kernel_rfl) rfl (fun K hK => ?sb7)
 go_simp
 refine hK.out _ _ (fun h => absurd rfl h) (fun _ => ?mb7)
 clear hK K
 try simp only [Act.put, nD, nE, nF]
 refine wpAnyL_done (by kernel_rfl) ?_ _
 have HR6 := Lib.hid R6
 clear R6 R7 u0 u1
 go_wp2
 refine bodyPost_ret (v := .agg #[.slice g1 s.length k1, .slice g2 qs.length k2]) (by simp [results, Tryz.results86, go_sem, y0, y1]) rfl ⟨_, rfl, ⟨g1, g2, k1, k2, rfl, ?_, ?_⟩, ?_⟩
 · rw [hB]; exact (((R3.later b4).later b5).mono (by show B ≤ W2.heap.size; omega)).far HR6.out (by decide) (kept2 _ _)
 · rw [hB]; exact RowO.far (R5.mono (base' := B) (Q := fun W v x => RawO B W v x) (by omega) (fun v x h => h.mono (by omega))) HR6.out (by decide) (kept2 _ _) (fun u y h => h.far HR6.out (by decide) (kept2 _ _))
 · rw [hB]; exact below_set2 (g := B + 1) (hb2.trans (b05.mono (by omega))) (by omega) _ _
end
section
open Go.RowKit
def One (base : Nat) (w' : World) (e : Ending) (c : Int) (s : List Int) (L : List Rat) (N : Nat) : Prop :=
 (c = 0 ∧ ∃ r, e = .returned (.tuple #[r, .int .i64 0]) ∧ ResT base w' r s L N) ∨ (c ≠ 0 ∧ e = .returned (.tuple #[noTensor, .int .i64 c]))
theorem mayT_valid {s : List Int} {qs : List Q3} (h : mayT s qs = 0) : (qs.length : Int) = countS s ∧ ∀ q ∈ qs, okQ q = true := by
 unfold mayT at h
 split at h
 · rename_i h1; exact absurd h h1
 · split at h
   · cases h
   · rename_i h2
     split at h
     · rename_i h3
       exact ⟨by omega, List.all_eq_true.1 h3⟩
     · cases h
theorem mayT_rank {s : List Int} {qs : List Q3} (h : mayT s qs = 0) : mayC s = 0 := by
 unfold mayT at h
 split at h
 · rename_i h1; exact absurd h h1
 · rename_i h1; simpa using h1
theorem ofOne_any {F : Nat} {cap : Array Value} {f : Rat → Rat} {n N : Nat} {w : World} {v : Value} {s : List Int} {qs : List Q3} {a b : Option Addr} {ca cb : Nat} (T : TensQ w v s qs a ca b cb) (hs : s.length ≤ 17592186044416) (hq : qs.length ≤ 1000000) (hl : lensQ qs n) (hn : n ≤ 1000000)
 (heF : ∀ args w, (callFunc F args).run Tryz.prog w = .ok (.enter F args) w)
 (hdo : ∀ (W : World) (x : Value) (q : Q3), q ∈ qs → okQ q = true → Below w.heap.size w W → RawQ W x q → Calls Tryz.prog F (#[x] ++ cap) W fun e w' => ∃ r, e = .returned r ∧ ResQ W.heap.size w' r (f q.rat) N ∧ Below W.heap.size W w') :
 Calls Tryz.prog 91 #[v, .func (.func F) #[] cap] w fun e w' => One w.heap.size w' e (mayT s qs) s (qs.map fun q => f q.rat) N ∧ Below w.heap.size w w' := by
 have HT := Lib.hid T
 obtain rfl := T.is
 obtain ⟨W, hW⟩ : ∃ W, ((w.alloc (.cells #[.slice a s.length ca, .slice b qs.length cb] 26)).alloc (.cells #[.slice none 0 0, .slice none 0 0] 26)) = W := ⟨_, rfl⟩
 have R0 : Row W (w.heap.size) 26 #[.slice a s.length ca, .slice b qs.length cb] := by rw [← hW]; have h := Row.new w 26 #[.slice a s.length ca, .slice b qs.length cb]; (try simp only [World.size_alloc] at h); exact (h.alloc _)
 have R1 : Row W (w.heap.size + 1) 26 #[.slice none 0 0, .slice none 0 0] := by rw [← hW]; have h := Row.new (w.alloc (.cells #[.slice a s.length ca, .slice b qs.length cb] 26)) 26 #[.slice none 0 0, .slice none 0 0]; (try simp only [World.size_alloc] at h); exact h
 have hBW : Below w.heap.size w W := by rw [← hW]; exact (((Below.refl _ _).alloc (by (try simp) <;> omega) _).alloc (by (try simp) <;> omega) _)
 have hsW : W.heap.size = w.heap.size + 1 + 1 := by rw [← hW]; simp
 have hm := mayT7_big (T.later hBW) (by omega) hl (by omega)
 obtain ⟨c, hc⟩ : ∃ c, mayT s qs = c := ⟨_, rfl⟩
 rw [hc] at hm
 obtain ⟨c0, c1, _, _⟩ := R0.two
 by_cases h0 : c = 0
 · subst h0
   have hok := (mayT_valid hc).2
   have he := fun (X : World) (hX : Below w.heap.size w X) => each_any (F := F) (cap := cap) (f := f) (N := N) (HT.out.later hX) hs hq heF (fun W x q hm hW hr => hdo W x q hm (hok q hm) (hX.trans (hW.mono hX.size)) hr)
   obtain ⟨L, hL⟩ : ∃ L, (qs.map fun q => f q.rat) = L := ⟨_, rfl⟩
   rw [hL] at he
   have HE := Lib.hid he
   rw [hc, hL]
   clear hdo T hc he hok hL hl
   go_enter Tryz.func91, Tryz.ntmps91
   (try rw [hW])
   go_wp2_with (go_at_call 27; refine hm.mono ?_; rintro e w1 ⟨rfl, hb1⟩; obtain ⟨k0, k1, _, _⟩ := (R0.later hb1).two)
   refine (HE.out w1 (hBW.trans (hb1.mono (by omega)))).mono ?_
   rintro e w2 ⟨r, rfl, hT, hb2⟩
   obtain ⟨a', b', ca', cb', rfl, RS, RO⟩ := hT
   have P2 := (R1.later hb1).later hb2
   have s1 := hb1.size
   have s2 := hb2.size
   obtain ⟨u0, u1, g0, g1⟩ := P2.two
   have HR := Lib.hid RS
   have HO := Lib.hid RO
   clear RS RO
   obtain ⟨l, hl⟩ : ∃ l, L.length = l := ⟨_, rfl⟩
   have HL2 := Lib.hid hl
   rw [hl]
   clear hl
   go_wp2_with fail
   have P3 := P2.set2 (.slice a' s.length ca') (.slice b' l cb')
   obtain ⟨z0, z1, _, _⟩ := P3.two
   refine bodyPost_ret (v := .tuple #[.agg #[.slice a' s.length ca', .slice b' l cb'], .int .i64 0]) (by simp [results, Tryz.results91, go_sem, z0, z1]) rfl ⟨.inl ⟨rfl, _, rfl, ?_⟩, below_set2 ((hBW.trans (hb1.mono (by omega))).trans (hb2.mono (by omega))) (by omega) _ _⟩
   have hR : ResT w.heap.size w2 (.agg #[.slice a' s.length ca', .slice b' l cb']) s L N := ResT.mono ⟨a', b', ca', cb', by rw [HL2.out], HR.out, HO.out⟩ (by omega)
   exact hR.far P2 (by decide) (by decide) (by decide) (kept2 _ _)
 · have hne : (c != 0) = true := by simp [h0]
   have H0 := Lib.hid h0
   clear hdo T
   rw [hc]
   clear hc h0
   go_enter Tryz.func91, Tryz.ntmps91
   (try rw [hW])
   go_wp2_with (go_at_call 27; refine hm.mono ?_; rintro e w1 ⟨rfl, hb1⟩; have P2 := R1.later hb1; have s1 := hb1.size; obtain ⟨u0, u1, g0, g1⟩ := P2.two)
   have P3 := P2.set2 (.slice none 0 0) (.slice none 0 0)
   obtain ⟨z0, z1, _, _⟩ := P3.two
   refine bodyPost_ret (v := .tuple #[noTensor, .int .i64 c]) (by simp [results, Tryz.results91, go_sem, z0, z1, noTensor]) rfl ⟨.inr ⟨H0.out, rfl⟩, below_set2 (hBW.trans (hb1.mono (by omega))) (by omega) _ _⟩
end
section
open Go.RowKit
theorem orL_zero {x y : Int} (h : orL [x, y] = 0) : x = 0 ∧ y = 0 := by
 unfold orL at h
 split at h
 · rename_i h1
   unfold orL at h
   split at h
   · rename_i h2; exact ⟨h1, h2⟩
   · rename_i h2; exact absurd h h2
 · rename_i h1; exact absurd h h1
theorem scaleP_any {m : Nat} {X : Rat} {y : Value} {n : Nat} {w : World} {v : Value} {s : List Int} {qs : List Q3} {a b : Option Addr} {ca cb : Nat} (T : TensQ w v s qs a ca b cb) (hs : s.length ≤ 17592186044416) (hq : qs.length ≤ 1000000) (hl : lensQ qs n) (hn : n ≤ 1000000) (hy : ArgQ w y X m) (hm : m ≤ 1000000) :
 Calls Tryz.prog 45 #[v, y] w fun e w' => One w.heap.size w' e (mayT s qs) s (qs.map fun q => q.rat * X) (2 * (n + m + 2) + 4) ∧ Below w.heap.size w w' := by
 have HT := Lib.hid T
 have HL := Lib.hid hl
 obtain rfl := T.is
 have HY := Lib.hid hy
 obtain ⟨yn, ps, rs, e1, e2, k1, k2, rfl⟩ := hy.box
 obtain ⟨W, hW⟩ : ∃ W, (((w.alloc (.cells #[.slice a s.length ca, .slice b qs.length cb] 26)).alloc (.cells #[.bool yn, .slice e1 ps.length k1, .slice e2 rs.length k2] 54)).alloc (.cells #[.slice none 0 0, .slice none 0 0] 26)) = W := ⟨_, rfl⟩
 have R0 : Row W (w.heap.size) 26 #[.slice a s.length ca, .slice b qs.length cb] := by rw [← hW]; have h := Row.new w 26 #[.slice a s.length ca, .slice b qs.length cb]; (try simp only [World.size_alloc] at h); exact ((h.alloc _).alloc _)
 have R1 : Row W (w.heap.size + 1) 54 #[.bool yn, .slice e1 ps.length k1, .slice e2 rs.length k2] := by rw [← hW]; have h := Row.new (w.alloc (.cells #[.slice a s.length ca, .slice b qs.length cb] 26)) 54 #[.bool yn, .slice e1 ps.length k1, .slice e2 rs.length k2]; (try simp only [World.size_alloc] at h); exact (h.alloc _)
 have R2 : Row W (w.heap.size + 1 + 1) 26 #[.slice none 0 0, .slice none 0 0] := by rw [← hW]; have h := Row.new ((w.alloc (.cells #[.slice a s.length ca, .slice b qs.length cb] 26)).alloc (.cells #[.bool yn, .slice e1 ps.length k1, .slice e2 rs.length k2] 54)) 26 #[.slice none 0 0, .slice none 0 0]; (try simp only [World.size_alloc] at h); exact h
 have hBW : Below w.heap.size w W := by rw [← hW]; exact ((((Below.refl _ _).alloc (by (try simp) <;> omega) _).alloc (by (try simp) <;> omega) _).alloc (by (try simp) <;> omega) _)
 have hsW : W.heap.size = w.heap.size + 1 + 1 + 1 := by rw [← hW]; simp
 have hnm := norm_any (HY.out.later hBW) (by omega)
 obtain ⟨c, hc⟩ : ∃ c, mayT s qs = c := ⟨_, rfl⟩
 have HC := Lib.hid hc
 obtain ⟨L, hL⟩ : ∃ L, (qs.map fun q => q.rat * X) = L := ⟨_, rfl⟩
 have HLL := Lib.hid hL
 have hmf : ∀ (fn : Fn) (first cap : Array Value) (w : World), (Instr.makeFunc fn first cap).run Tryz.prog w = .ok (.func fn first cap) w := fun _ _ _ _ => rfl
 rw [hc, hL]
 clear T hl hc hL hy
 obtain ⟨d0, d1, d2, _, _, _⟩ := R1.three
 go_enter Tryz.func45, Tryz.ntmps45
 (try rw [hW])
 go_wp2_with (go_at_call 90; refine hnm.mono ?_; rintro e w1 ⟨r, rfl, qv, hb1⟩; have Q1 := Lib.hid qv; obtain ⟨m5, f1, l1, j1, f2, l2, j2, rfl⟩ := qv.shape; clear qv; have P1 := R1.later hb1; have s1 := hb1.size; obtain ⟨u0, u1, u2, g0, g1, g2⟩ := P1.three; obtain ⟨k0, k1, _, _⟩ := (R0.later hb1).two; have t0 := ((R0.later hb1).far (p := ⟨w.heap.size + 1, 0, none⟩) (by show w.heap.size ≠ w.heap.size + 1; omega) (.bool m5)); have t1 := (t0.far (p := ⟨w.heap.size + 1, 1, none⟩) (by show w.heap.size ≠ w.heap.size + 1; omega) (.slice f1 l1 j1)); have t2 := (t1.far (p := ⟨w.heap.size + 1, 2, none⟩) (by show w.heap.size ≠ w.heap.size + 1; omega) (.slice f2 l2 j2)); obtain ⟨v0, v1, _, _⟩ := t2.two)
 obtain ⟨w2, hw2⟩ : ∃ w2, (((w1.setCell ⟨w.heap.size + 1, 0, none⟩ (.bool m5)).setCell ⟨w.heap.size + 1, 1, none⟩ (.slice f1 l1 j1)).setCell ⟨w.heap.size + 1, 2, none⟩ (.slice f2 l2 j2)) = w2 := ⟨_, rfl⟩
 have P2 : Row w2 (w.heap.size + 1) 54 #[.bool m5, .slice f1 l1 j1, .slice f2 l2 j2] := by rw [← hw2]; exact P1.set3 _ _ _
 have QN : ResQ W.heap.size w2 (.agg #[.bool m5, .slice f1 l1 j1, .slice f2 l2 j2]) X (m + 2) := by rw [← hw2]; exact Q1.out.far P1 (by decide) (kept3 _ _ _)
 have hB2 : Below w.heap.size w w2 := by rw [← hw2]; exact below_set3 (hBW.trans (hb1.mono (by omega))) (by omega) _ _ _
 have P3' : Row w2 (w.heap.size + 1 + 1) 26 #[.slice none 0 0, .slice none 0 0] := by
  rw [← hw2]
  exact (((R2.later hb1).far (p := ⟨w.heap.size + 1, 0, none⟩) (by show w.heap.size + 1 + 1 ≠ w.heap.size + 1; omega) _).far (p := ⟨w.heap.size + 1, 1, none⟩) (by show w.heap.size + 1 + 1 ≠ w.heap.size + 1; omega) _).far (p := ⟨w.heap.size + 1, 2, none⟩) (by show w.heap.size + 1 + 1 ≠ w.heap.size + 1; omega) _
 rw [hw2]
 have ho := ofOne_any (F := 92) (cap := #[.pointer (some ⟨w.heap.size + 1, 0, none⟩)]) (f := fun x => x * X) (N := 2 * (n + m + 2) + 4) (HT.out.later hB2) hs hq HL.out (by omega) (enters_of Tryz.func92 (by kernel_rfl) rfl)
  (fun Y x q hq2 _ hX hr => scale1_any (n := n + m + 2) (v := undef) hr (by have := (HL.out q hq2).1; omega) (by have := (HL.out q hq2).2; omega) (by omega) ((QN.arg.more (by omega)).later hX) (P2.later hX))
 have hLE := HLL.out
 rw [HC.out, hLE] at ho
 have HO2 := Lib.hid ho
 have hs2 : w.heap.size + 1 + 1 + 1 ≤ w2.heap.size := by rw [← hw2]; have := ((Only.set w1 (w.heap.size + 1) 0 (.bool m5)).trans ((Only.set _ (w.heap.size + 1) 1 (.slice f1 l1 j1)).trans (Only.set _ (w.heap.size + 1) 2 (.slice f2 l2 j2)))).size; omega
 clear ho hLE hw2 u0 u1 u2 g0 g1 g2 k0 k1 t0 t1 t2 v0 v1 d0 d1 d2
 refine HO2.out.mono ?_
 rintro e w2 ⟨h | ⟨h0, rfl⟩, hb2⟩
 · obtain ⟨rfl, r, rfl, a', b', ca', cb', rfl, RS, RO⟩ := h
   have P2 := P3'.later hb2
   have s2 := hb2.size
   obtain ⟨u0, u1, g0, g1⟩ := P2.two
   have HR := Lib.hid RS
   have HO := Lib.hid RO
   clear RS RO
   obtain ⟨l, hl⟩ : ∃ l, L.length = l := ⟨_, rfl⟩
   have HL2 := Lib.hid hl
   rw [hl]
   clear hl
   go_wp2_with fail
   have P3 := P2.set2 (.slice a' s.length ca') (.slice b' l cb')
   obtain ⟨z0, z1, _, _⟩ := P3.two
   refine bodyPost_ret (v := .tuple #[.agg #[.slice a' s.length ca', .slice b' l cb'], .int .i64 0]) (by simp [results, Tryz.results45, go_sem, z0, z1]) rfl ⟨.inl ⟨rfl, _, rfl, ?_⟩, below_set2 (hB2.trans (hb2.mono (by omega))) (by omega) _ _⟩
   have hR : ResT w.heap.size w2 (.agg #[.slice a' s.length ca', .slice b' l cb']) s L _ := ResT.mono ⟨a', b', ca', cb', by rw [HL2.out], HR.out, HO.out⟩ (by omega)
   exact hR.far P2 (by decide) (by decide) (by decide) (kept2 _ _)
 · have P2 := P3'.later hb2
   have s2 := hb2.size
   obtain ⟨u0, u1, g0, g1⟩ := P2.two
   have H0 := Lib.hid h0
   clear h0
   unfold noTensor
   go_wp2_with fail
   have P3 := P2.set2 (.slice none 0 0) (.slice none 0 0)
   obtain ⟨z0, z1, _, _⟩ := P3.two
   refine bodyPost_ret (v := .tuple #[noTensor, .int .i64 c]) (by simp [results, Tryz.results45, go_sem, z0, z1, noTensor]) rfl ⟨.inr ⟨H0.out, rfl⟩, below_set2 (hB2.trans (hb2.mono (by omega))) (by omega) _ _⟩
end
section
open Go.RowKit
theorem One.shape {base N : Nat} {w : World} {e : Ending} {c : Int} {s : List Int} {L : List Rat} (h : One base w e c s L N) :
 ∃ a b n m ca cb, e = .returned (.tuple #[.agg #[.slice a n ca, .slice b m cb], .int .i64 c]) ∧ ((c = 0 ∧ ResT base w (.agg #[.slice a n ca, .slice b m cb]) s L N) ∨ (c ≠ 0 ∧ Value.agg #[.slice a n ca, .slice b m cb] = noTensor)) := by
 rcases h with ⟨rfl, r, rfl, hT⟩ | ⟨h0, rfl⟩
 · obtain ⟨a, b, ca, cb, rfl, h1, h2⟩ := id hT
   exact ⟨a, b, _, _, ca, cb, rfl, .inl ⟨rfl, hT⟩⟩
 · exact ⟨none, none, 0, 0, 0, 0, rfl, .inr ⟨h0, rfl⟩⟩
end
section
open Go.RowKit
theorem RawO.resQ {base n : Nat} {w : World} {v : Value} {q : Q3} (h : RawO base w v q) (hok : okQ q = true) (h1 : q.num.length ≤ n) (h2 : q.den.length ≤ n) : ResQ base w v q.rat n := by
 obtain ⟨ad, bd, ca, cb, rfl, A, B, wa, wb⟩ := h
 unfold okQ validB isB at hok
 simp only [Bool.and_eq_true, decide_eq_true_eq, beq_iff_eq] at hok
 obtain ⟨e1, ⟨f1, v1⟩, f2, v2⟩ := hok
 exact ⟨q.num, q.den, ad, bd, ca, cb, by rw [e1], ⟨A, wa, f1, v1⟩, ⟨B, wb, f2, v2⟩, h1, h2⟩
theorem RowO.resQ {base n : Nat} {w : World} {u : Value} {qs : List Q3} (h : RowO base 54 (RawO base) w u qs) (hok : ∀ q ∈ qs, okQ q = true) (hl : lensQ qs n) : RowO base 54 (fun W v x => ResQ base W v x n) w u (qs.map Q3.rat) := by
 obtain ⟨es, h1, h2⟩ := h
 refine ⟨es, h1, by rw [List.length_map]; exact h2.1, fun i e x he hx => ?_⟩
 rw [List.getElem?_map] at hx
 cases hq : qs[i]? with
 | none => rw [hq] at hx; cases hx
 | some q =>
   rw [hq] at hx
   simp only [Option.map_some, Option.some.injEq] at hx
   subst hx
   have hm := List.mem_of_getElem? hq
   exact (h2.2 i e q he hq).resQ (hok q hm) (hl q hm).1 (hl q hm).2
theorem summed_any (kb : Nat) {n : Nat} {w : World} {v : Value} {s ys : List Int} {qs : List Q3} {a b d : Option Addr} {ca cb cd : Nat} (T : TensQ w v s qs a ca b cb) (h0 : mayT s qs = 0) (hl : lensQ qs n) (D : ArgS w (.slice d ys.length cd) ys d cd) (nd : d = none → cd = 0) (hy : ys.length ≤ 1000000) (hn : (n + 10) * 2 ^ kb ≤ 16000000) (hkb : qs.length ≤ 2 ^ kb) (hn4 : n ≤ 4000000) :
 Calls Tryz.prog 43 #[v, .slice d ys.length cd] w fun e w' => ∃ r, e = .returned r ∧ ResT w.heap.size w' r (dropS s ys) (sumF s ys (qs.map Q3.rat)) ((n + 10) * 2 ^ kb) ∧ Below w.heap.size w w' := by
 obtain ⟨i0, hi, hz0, hz1, hz2⟩ := info_parts infoQ
 have HT := Lib.hid T
 have HD := Lib.hid D
 obtain rfl := T.is
 have okS : OkS s := mayC_zero.1 (mayT_rank h0)
 have okd := drop_ok ys okS
 have hrk := okS.rank
 have hrd := okd.rank
 have hcnt := okS.cnt
 have hcd := okd.cnt
 have hlen : qs.length = cntF s := by have h1 := (mayT_valid h0).1; rw [okS.count] at h1; omega
 have hq4 : qs.length ≤ 1024 := by omega
 have htot : TotQ kb w.heap.size n := totalF_any kb hn
 have HTOT : Hid (TotQ kb w.heap.size n) := @htot
 obtain ⟨W, hW⟩ : ∃ W, ((w.alloc (.cells #[.slice a s.length ca, .slice b qs.length cb] 26)).alloc (.cells #[.slice none 0 0, .slice none 0 0] 26)) = W := ⟨_, rfl⟩
 have R0 : Row W w.heap.size 26 #[.slice a s.length ca, .slice b qs.length cb] := by rw [← hW]; exact (Row.new _ _ _).alloc _
 have R1 : Row W (w.heap.size + 1) 26 #[.slice none 0 0, .slice none 0 0] := by rw [← hW]; have h := (Row.new (w.alloc (.cells #[.slice a s.length ca, .slice b qs.length cb] 26)) 26 #[.slice none 0 0, .slice none 0 0]); simp only [World.size_alloc] at h; exact h
 have hBW : Below w.heap.size w W := by rw [← hW]; exact ((Below.refl _ _).alloc (by simp) _).alloc (by simp) _
 have hsW : w.heap.size + 1 + 1 = W.heap.size := by rw [← hW]; simp
 have hdr := dropC_any (HT.out.sh.later hBW) (D.later hBW) T.nila nd (by omega) (by omega)
 obtain ⟨L, hL⟩ : ∃ L, dropS s ys = L := ⟨_, rfl⟩
 obtain ⟨m, hm⟩ : ∃ m, cntF (dropS s ys) = m := ⟨_, rfl⟩
 rw [hL] at hdr
 rw [hm] at hcd
 have hcn := fun (u : Value) (ad : Option Addr) (cap : Nat) (X : World) (A : ArgS X u L ad cap) => countS_any A (by rw [← hL]; omega)
 rw [show countS L = (m : Int) by rw [← hL, okd.count, ← hm]; exact okd.cnt.1.symm] at hcn
 have HL := Lib.hid hL
 have HM := Lib.hid hm
 have hmk := make_parts m (by omega)
 have hps := fun (X : World) (hX : Below w.heap.size w X) => position_any (HT.out.sh.later hX) HT.out.nila (HD.out.later hX) nd (by omega) hy
 have hcp := fun (X : World) (hX : Below w.heap.size w X) => copyT7_any (HT.out.later hX) (by omega) (by omega) hl hn4
 have HPS := Lib.hid hps
 have HCP := Lib.hid hcp
 have HCN := Lib.hid hcn
 have HOK := Lib.hid (mayT_valid h0).2
 have HLQ := Lib.hid hl
 have HS := Lib.hid okS
 have HLEN := Lib.hid hlen
 have HND := Lib.hid nd
 have HKB := Lib.hid hkb
 have hL4 : L.length ≤ 4 := by rw [← hL]; exact hrd
 have HCNT := Lib.hid hcnt
 have HCD := Lib.hid hcd
 have hm4 : m ≤ 1024 := hcd.2.2
 have hm1 : 1 ≤ m := hcd.2.1
 obtain ⟨p0, p1, _, _⟩ := R0.two
 obtain ⟨BB, hBB⟩ : ∃ BB, (n + 10) * 2 ^ kb = BB := ⟨_, rfl⟩
 rw [hBB]
 have HBB := Lib.hid hBB
 clear T D h0 hL hm hl hps hcp hcn okd hcnt hcd hlen htot hkb hBB hn hrd hrk
 go_enter Tryz.func43, Tryz.ntmps43
 (try rw [hW])
 go_wp2_with fail
 (try rw [hW])
 clear hW
 refine hdr.mono ?_
 rintro e w1 ⟨r1, rfl, RS, hb1⟩
 obtain ⟨e1, k1, rfl, RS', A1, n1⟩ := RS.slice
 have B1 : Below w.heap.size w w1 := hBW.trans (hb1.mono (by omega))
 have HRS := Lib.hid RS'
 have HA1 := Lib.hid A1
 have s1 := B1.size
 have hcn1 := HCN.out _ _ _ _ A1
 obtain ⟨ll, hll⟩ : ∃ n, L.length = n := ⟨_, rfl⟩
 rw [hll] at hcn1 ⊢
 have HLL := Lib.hid hll
 have P1 := R0.later hb1
 obtain ⟨p0', p1', _, _⟩ := P1.two
 have P1r := R1.later hb1
 clear p0 p1 RS RS' A1 hll hdr
 go_wp2_with fail
 refine hcn1.mono ?_
 rintro e w2 ⟨rfl, hb2⟩
 have B2 : Below w.heap.size w w2 := B1.trans (hb2.mono s1)
 have s2 := hb2.size
 obtain ⟨V2, hV2⟩ : ∃ V2, w2.alloc (.cells (madeCells #[.slice none 0 0] m) 24) = V2 := ⟨_, rfl⟩
 have bV2 : Below w2.heap.size w2 V2 := by rw [← hV2]; exact (Below.refl _ _).alloc (Nat.le_refl _) _
 have sV2 : V2.heap.size = w2.heap.size + 1 := by rw [← hV2]; simp
 have PQ0 := fun lo => hV2 ▸ PartsQ.made lo w.heap.size n w2 m
 have BV2 : Below w.heap.size w V2 := B2.trans (bV2.mono B2.size)
 have P2 := (P1.later hb2).later bV2
 obtain ⟨q0, q1, _, _⟩ := P2.two
 have P2r := (P1r.later hb2).later bV2
 clear p0' p1' hcn1
 go_wp2_with fail
 (try rw [hV2])
 refine (HPS.out V2 BV2).mono ?_
 rintro e w3 ⟨g1, g2, g3, d', cd', rfl, PC, hb3⟩
 have B3 : Below w.heap.size w w3 := BV2.trans (hb3.mono BV2.size)
 have s3 := hb3.size
 have P3 := P2.later hb3
 obtain ⟨x0, x1, _, _⟩ := P3.two
 have P3r := P2r.later hb3
 clear q0 q1 hV2
 go_wp2_with fail
 refine (HCP.out w3 B3).mono ?_
 rintro e w4 ⟨r4, rfl, RC, hb4⟩
 obtain ⟨a4, b4, ca4, cb4, rfl, RSc, RWc⟩ := RC
 have RWq := RowO.mono (Q := fun W v x => ResQ w.heap.size W v x n) (RWc.resQ HOK.out HLQ.out) B3.size (fun v x h => h.mono B3.size)
 have B4 : Below w.heap.size w w4 := B3.trans (hb4.mono B3.size)
 have s4 := hb4.size
 have hb14 : Below w1.heap.size w1 w4 := hb2.trans ((bV2.trans ((hb3.mono (by omega)).trans (hb4.mono (by omega)))).mono s2)
 have PQ4 := ((PQ0 w4.heap.size).later hb3).later hb4
 have PC4 := PC.later hb4
 have HPC := Lib.hid PC4
 have HRW := Lib.hid RWq
 have HPQ := Lib.hid PQ4
 have P4r := P3r.later hb4
 have HP4 := Lib.hid P4r
 obtain ⟨G, hG⟩ : ∃ G, w2.heap.size = G := ⟨_, rfl⟩
 rw [hG] at sV2 s2
 have hGb : w.heap.size + 1 + 1 ≤ G := by have := hb1.size; omega
 have HG := Lib.hid hG
 have RG : Row w4 G 24 (List.replicate m (Value.slice none 0 0)).toArray := by rw [← hG]; exact PQ4.row
 have HRG := Lib.hid RG
 (try rw [hG])
 obtain ⟨n4, hn4'⟩ : ∃ n4, qs.length = n4 := ⟨_, rfl⟩
 have HN4 := Lib.hid hn4'
 (try rw [hn4'])
 rw [hn4'] at hq4
 have hfd := fun (w : World) => field_elems a4 s.length ca4 b4 n4 cb4 w
 clear x0 x1 RSc RWc RWq PQ4 PQ0 PC PC4 P1 P1r P2 P2r P3 P3r P4r R0 R1 RG hG hmk hn4'
 go_wp2_with fail
 go_loopw [29] (fun i wr => ∃ (k : Nat) (vs : List Value), i = .int .i64 (k : Int) ∧ k ≤ n4 ∧ PartsQ w4.heap.size w.heap.size n G wr vs (partsL (toF s ys) (qs.map Q3.rat) m k) ∧ Kept G w4 wr) (fun i _ => n4 - (intOf i).toNat)
 case atStart => exact ⟨0, _, rfl, Nat.zero_le _, by rw [partsL_zero, ← HG.out]; exact HPQ.out, Kept.refl _ _⟩
 case round =>
  obtain ⟨k, vs, rfl, hk, pq, kp⟩ := hrel
  have bw : Below w.heap.size w wr := Kept.under kp B4 B4.size (by omega)
  have sw := kp.size
  have RGr : Row wr G 24 vs.toArray := pq.row
  have HPq := Lib.hid pq
  have HKp := Lib.hid kp
  by_cases hlt : k < n4
  · have rwq := HRW.out.keptT HRG.out (by decide) kp (fun v x h => ResQ.keptT h HRG.out (by decide) kp)
    have pcr := HPC.out.kept HRG.out (by decide) kp (by omega)
    have hkm : k < (qs.map Q3.rat).length := by rw [List.length_map, HN4.out]; exact hlt
    obtain ⟨bb, o, y0, y1, y2, q, hbo, hqk, f0, f1, f2, hq⟩ := rwq.at_.2.1.at hkm
    subst hbo
    have HQ := Lib.hid hq
    have HQK := Lib.hid hqk
    obtain ⟨m5, u1, l1, j1, u2, l2, j2, e0⟩ := hq.shape
    simp only [Value.agg.injEq, Array.mk.injEq, List.cons.injEq, and_true] at e0
    obtain ⟨rfl, rfl, rfl⟩ := e0
    obtain ⟨X, hX⟩ : ∃ X, wr.alloc (.cells #[.bool m5, .slice u1 l1 j1, .slice u2 l2 j2] 54) = X := ⟨_, rfl⟩
    have RX : Row X wr.heap.size 54 #[.bool m5, .slice u1 l1 j1, .slice u2 l2 j2] := by rw [← hX]; exact Row.new _ _ _
    have bX : Below wr.heap.size wr X := by rw [← hX]; exact (Below.refl _ _).alloc (Nat.le_refl _) _
    have bwX : Below w.heap.size w X := bw.trans (bX.mono bw.size)
    have pcX := pcr.later bX
    have AX := HT.out.sh.later bwX
    have DX := HD.out.later bwX
    obtain ⟨_, _, hto⟩ := toF_in ys HS.out (p := k) (by rw [← HLEN.out, HN4.out]; exact hlt)
    rw [HM.out] at hto
    obtain ⟨hdl, hda, hdn⟩ := pcX.res.at_
    have hcl := position1_any (n := k) (pcX.r1.cell 0) (pcX.r2.cell 0) (pcX.r3.cell 0) AX HT.out.nila hda hdn DX HND.out HS.out (by rw [← HLEN.out, HN4.out]; exact hlt) hy
    obtain ⟨j, hj⟩ : ∃ j, toF s ys k = j := ⟨_, rfl⟩
    rw [hj] at hcl hto
    have HJ := Lib.hid hj
    have hltI : (k : Int) < (n4 : Int) := by omega
    obtain ⟨d0, d1, d2, _, _, _⟩ := RX.three
    clear rwq pcr hkm hqk hq pcX AX DX hda hdn hj pq kp
    go_wp2_with fail
    (try rw [hX])
    refine hcl.mono ?_
    rintro e w5 ⟨rfl, hb5⟩
    have PX := (HPq.out.later bX).later hb5
    have RX5 := RX.later hb5
    have kp5 : Kept G w4 w5 := (HKp.out.below bX).below hb5
    have b5w : Below wr.heap.size wr w5 := bX.trans (hb5.mono bX.size)
    have bw5 : Below w.heap.size w w5 := bw.trans (b5w.mono bw.size)
    have Q5 := HQ.out.later b5w
    have HQ5 := Lib.hid Q5
    obtain ⟨v0, l0, hv0, hl0, c0, ⟨es, hown, hall⟩⟩ := PX.at (i := j) (by rw [partsL_len]; exact hto)
    obtain ⟨vb, vc, rfl⟩ := ownT_slice hown
    have s5 : w4.heap.size ≤ w5.heap.size := kp5.size
    obtain ⟨r, hrv, hrb, hrne, hrA⟩ := hown.hits10 s5
    have nG := hrne _ _ _ PX.row (by decide)
    have np := hrA wr.heap.size RX5.lt (fun e => by
     have := (hown.lt _ e).2
     obtain ⟨v0', l0', hv0', hl0', c0', ⟨es', hown', _⟩⟩ := HPq.out.at (i := j) (by rw [partsL_len]; exact hto)
     rw [hv0] at hv0'
     cases hv0'
     have := (hown'.lt _ e).2
     omega)
    obtain ⟨d3, d4, d5, _, _, _⟩ := RX5.three
    have HPX := Lib.hid PX
    have HV0 := Lib.hid hv0
    have HL0 := Lib.hid hl0
    have hjI : (j : Int) < (m : Int) := by omega
    have hj0 : (0 : Int) ≤ (j : Int) := by omega
    have fG := PX.row.free j
    have hle : es.length ≤ 1024 := by
     have h := hall.1
     rw [partsL_at _ _ _ _ hto] at hl0
     cases hl0
     have := partL_len (toF s ys) (qs.map Q3.rat) j k
     omega
    have HALL := Lib.hid hall
    have HOWN := Lib.hid hown
    have mkA : ∀ Y, Kept r w5 Y → Y.cell? ⟨G, j, none⟩ = some (.slice vb es.length vc) ∧ Y.cell? ⟨wr.heap.size, 0, none⟩ = some (.bool m5) ∧ Y.cell? ⟨wr.heap.size, 1, none⟩ = some (.slice u1 l1 j1) ∧ Y.cell? ⟨wr.heap.size, 2, none⟩ = some (.slice u2 l2 j2) ∧ Kept r w5 Y := fun Y h => ⟨h.cell c0 (Ne.symm (Ne.symm nG)), h.cell d3 np, h.cell d4 np, h.cell d5 np, h⟩
    have k0 : Kept r w5 w5.drew := (Kept.refl r w5).drew
    clear d0 d1 d2 hcl hv0 hl0 PX hall hown Q5 hX
    go_wp2_with fail
    refine wp_region_L (S := fun Y => Y.cell? ⟨G, j, none⟩ = some (.slice vb es.length vc) ∧ Y.cell? ⟨wr.heap.size, 0, none⟩ = some (.bool m5) ∧ Y.cell? ⟨wr.heap.size, 1, none⟩ = some (.slice u1 l1 j1) ∧ Y.cell? ⟨wr.heap.size, 2, none⟩ = some (.slice u2 l2 j2) ∧ Kept r w5 Y) (z := 10) (by kernel_rfl) (mkA _ k0) (fun hHeld => ?_)
    refine todo [0, 1, 2, 3, 4, 5, 6] ?_
    iterate 7
     refine todoL (v := ?_) rfl (by kernel_rfl) (fun _ _ _ h => h) (by assumption) (Or.inl ⟨by rfl, ?_⟩) ?_
     rotate_left
     · intro w hSw; (try dsimp only at hSw); go_simp; (try with_reducible rfl)
     try simp only [Act.put, nA, nB, nC, nD, nE, nF]
    refine todone ?_
    have b5d : Below w5.heap.size w5 w5.drew := (Below.refl _ w5).drew
    refine wpAnyL_one (i := 7) (by kernel_rfl) rfl (fun K hK => ?sbs_7)
    go_simp
    refine hK.out _ _ (fun _ => mkA _ (k0.alloc _)) (fun hHeld2 => ?mbs_7)
    clear hK K hHeld
    have hHeld := hHeld2 (by decide)
    clear hHeld2
    try simp only [Act.put, nA, nB, nC, nD, nE, nF]
    refine wpAnyL_one (i := 8) (by kernel_rfl) rfl (fun K hK => ?sbs_8)
    refine step_append_lies _ rfl _ _ 24 rfl w4.heap.size 54 i0 _ 3 56 Tryz.underlying24 hi hz0 hz1 hz2 rfl (by decide) _ es.length (flat3 es) rfl ((HOWN.out.later b5d).later ((Below.refl _ _).alloc (Nat.le_refl _) _)) ⟨w5.drew.heap.size, 0, none⟩ 1 1 [.bool m5, .slice u1 l1 j1, .slice u2 l2 j2] rfl rfl (cell_three_new _ _ _ _ _) (by simp [Value.oneCell']) (by omega) (by unfold maxLen; omega) (by omega) (by simp; omega) _ rfl ?_
    intro g cp w7 hown' hgrow hg' hlt'
    have hk7 : Kept r w5 w7 := (k0.alloc _).grown hgrow hrv
    refine hK.out _ _ (fun _ => mkA _ hk7) (fun hHeld2 => ?mbs_8)
    clear hK K hHeld
    have hHeld := hHeld2 (by decide)
    clear hHeld2
    try simp only [Act.put, nA, nB, nC, nD, nE, nF]
    refine todo [9] ?_
    iterate 1
     refine todoL (v := ?_) rfl (by kernel_rfl) (fun _ _ _ h => h) (by assumption) (Or.inl ⟨by rfl, ?_⟩) ?_
     rotate_left
     · intro w hSw; (try dsimp only at hSw); go_simp; (try with_reducible rfl)
     try simp only [Act.put, nA, nB, nC, nD, nE, nF]
    refine todone ?_
    have fG7 : w7.frozen? ⟨G, j, none⟩ = false := (Row.kept HPX.out.row hk7 nG).free j
    have cG7 := (mkA _ hk7).1
    refine wpAnyL_one (i := 10) (by kernel_rfl) rfl (fun K hK => ?sbs_10)
    go_simp
    refine hK.out _ _ (fun h => absurd rfl h) (fun _ => ?mbs_10)
    clear hK K
    try simp only [Act.put, nA, nB, nC, nD, nE, nF]
    refine wpAnyL_done (by kernel_rfl) ?_ _
    go_wp2
    go_roundw
    case rel =>
     have hRG7 : Row w7 G 24 vs.toArray := Row.kept HPX.out.row hk7 nG
     have pq7 := PartsQ.push (e := ⟨.bool m5, .slice u1 l1 j1, .slice u2 l2 j2⟩) (o := .cells #[.bool m5, .slice u1 l1 j1, .slice u2 l2 j2] 54) (X := w5.drew) (HPX.out.later b5d) HV0.out HL0.out (HOWN.out.later b5d) (HALL.out.imp fun u x _ h => h.later b5d) (HQ5.out.later b5d) (by show w4.heap.size ≤ w5.heap.size; exact s5) (by omega) hown' hgrow hg'
     have kp7 : Kept G w4 w7 := Kept.grew (o := .cells #[.bool m5, .slice u1 l1 j1, .slice u2 l2 j2] 54) (kp5.below b5d) hgrow (fun k' e => (HOWN.out.lt k' e).1)
     refine ⟨k + 1, vs.set j (.slice (some ⟨g, 0, none⟩) (es.length + 1) cp), by go_num, by omega, ?_, kp7.set _ _⟩
     have e1 : l0 = partL (toF s ys) (qs.map Q3.rat) j k := by
      have h := HL0.out
      rw [partsL_at _ _ _ _ hto] at h
      exact (Option.some.inj h).symm
     rw [partsL_next _ _ _ _ HQK.out (by rw [HJ.out]; exact hto), HJ.out, ← e1]
     exact pq7
    case measure => simp [intOf]; omega
  · obtain rfl : k = n4 := by omega
    have hltI : ¬ (k : Int) < (k : Int) := by omega
    rename World => w6
    obtain ⟨LP, hLP⟩ : ∃ LP, partsL (toF s ys) (qs.map Q3.rat) m k = LP := ⟨_, rfl⟩
    have HLP := Lib.hid hLP
    have HPL : Hid (LP.length = m) := Lib.hid (by rw [← hLP]; exact partsL_len _ _ _ _)
    have HP6 : Hid (PartsQ w4.heap.size w.heap.size n G w6 vs LP) := Lib.hid (by rw [← hLP]; exact HPq.out)
    have hbw1 : Below w1.heap.size w1 w6 := Kept.under kp hb14 (by omega) (by omega)
    have HR6 := Lib.hid (HP4.out.kept kp (show w.heap.size + 1 ≠ G by omega))
    have hmk2 := make_rowP m (by omega)
    obtain ⟨V, hV⟩ : ∃ V, w6.alloc (.cells (madeCells #[.bool false, .slice none 0 0, .slice none 0 0] (m * 3)) 54) = V := ⟨_, rfl⟩
    have hown0 : OwnE w6.heap.size 54 V (.slice (some ⟨w6.heap.size, 0, none⟩) 0 m) [] := by
     rw [← hV]
     exact World.ownsRow_made w6 _ m (Nat.le_refl _) (by unfold maxLen; omega) (madeP_len _ _)
    have bV : Below w6.heap.size w6 V := by rw [← hV]; exact (Below.refl _ _).alloc (Nat.le_refl _) _
    have HO0 := Lib.hid hown0
    have HBV := Lib.hid bV
    clear hLP pq kp HPq RGr hown0 bV hlt
    go_wp2_with fail
    (try rw [hV])
    clear hV hmk2
    go_loopw [11, 53] (fun v i wr => ∃ (q : Nat), i = .int .i64 (q : Int) ∧ q ≤ m ∧ RowO w6.heap.size 54 (fun W v x => ResQ w.heap.size W v x BB) wr v ((List.range q).map fun i => totL (LP.getD i [])) ∧ Below w6.heap.size w6 wr) (fun _ i _ => m - (intOf i).toNat)
    case atStart => exact ⟨0, rfl, Nat.zero_le _, ⟨[], HO0.out, AllE.nil _⟩, HBV.out⟩
    case round =>
     obtain ⟨q, rfl, hq, ⟨es, hown, hall⟩, hb⟩ := hrel
     obtain ⟨av, cv, rfl⟩ := ownT_slice hown
     have hsz := hb.size
     have bwr : Below w.heap.size w wr := bw.trans (hb.mono bw.size)
     have hle : es.length = q := by rw [hall.1]; simp
     subst hle
     by_cases hlt : es.length < m
     · have pr := HP6.out.later hb
       obtain ⟨v0, l0, hv0, hl0, c0, RO⟩ := pr.at (i := es.length) (by rw [HPL.out]; exact hlt)
       obtain ⟨ez, hz⟩ := RO.arg
       obtain ⟨ec, hE, hnil, hcm⟩ := hz
       obtain rfl := hE.is
       have hl1 : l0 = partL (toF s ys) (qs.map Q3.rat) es.length k := by
        have h := hl0
        rw [← HLP.out, partsL_at _ _ _ _ hlt] at h
        exact (Option.some.inj h).symm
       have hg1 : 1 ≤ l0.length := by
        obtain ⟨p, hp, hpe⟩ := toF_onto ys HS.out (i := es.length) (by rw [HM.out]; exact hlt)
        rw [hl1]
        exact partL_ne _ (p := p) (by rw [← HN4.out, HLEN.out]; exact hp) hpe
       have hg2 : l0.length ≤ 2 ^ kb := Nat.le_trans (by rw [hl1]; exact partL_len _ _ _ _) (by rw [← HN4.out]; exact HKB.out)
       have hcall := HTOT.out hE hg1 hg2 bwr.size
       rw [HBB.out] at hcall
       have HL0 := Lib.hid hl0
       have hltI : (es.length : Int) < (m : Int) := by omega
       clear hg1 hg2 hl1 hl0 hE RO pr hv0
       go_wp2_with fail
       refine hcall.mono ?_
       rintro e w7 ⟨rv, rfl, qv, hb7⟩
       have Q7 := Lib.hid (qv.more (show BB - 10 ≤ BB by omega))
       obtain ⟨m5, f1, l1, i1, f2, l2, i2, rfl⟩ := qv.shape
       clear qv
       have hown7 : OwnE w6.heap.size 54 w7 (.slice av es.length cv) es := hown.later hb7
       have hall7 : AllE (fun v x => ResQ w.heap.size w7 v x BB) es ((List.range es.length).map fun i => totL (LP.getD i [])) := hall.imp fun u x _ h => h.later hb7
       have hB7 : Below w6.heap.size w6 w7 := hb.trans (hb7.mono hsz)
       have hsz7 := hB7.size
       have HALL := Lib.hid hall7
       clear hall hall7 hown hcall
       go_wp2_with (at_builtin; refine wpList_append_own _ rfl _ _ 24 rfl w6.heap.size 54 i0 _ 3 56 Tryz.underlying24 hi hz0 hz1 hz2 rfl (by decide) _ es.length (flat3 es) rfl (hown7.later ((Below.refl _ _).alloc (Nat.le_refl _) _)) ⟨w7.heap.size, 0, none⟩ 1 1 [.bool m5, .slice f1 l1 i1, .slice f2 l2 i2] rfl rfl (cell_three_new _ _ _ _ _) (by simp [Value.oneCell']) (by unfold maxLen; omega) (by omega) (by simp; omega) ?_)
       intro v' w8 hown' hgrow _
       obtain ⟨av', cv', rfl⟩ := ownT_slice hown'
       go_wp2
       go_roundw
       case rel =>
        obtain ⟨hrow8, hb8⟩ := pushE (P := fun W v x => ResQ w.heap.size W v x BB) (e := ⟨.bool m5, .slice f1 l1 i1, .slice f2 l2 i2⟩) hB7 hsz7 hown7 HALL.out Q7.out (fun u y h => ResQ.apart hown7 hgrow (by decide) h) hown' hgrow
        refine ⟨es.length + 1, by go_num, by omega, ?_, hb8⟩
        rw [List.range_succ, List.map_append, List.map_cons, List.map_nil, show LP.getD es.length [] = l0 from by rw [List.getD_eq_getElem?_getD, HL0.out]; rfl]
        exact hrow8
       case measure => simp [intOf]; omega
     · have hkl : es.length = m := by omega
       have hltI : ¬ (es.length : Int) < (m : Int) := by omega
       have hsum : ((List.range es.length).map fun i => totL (LP.getD i [])) = sumF s ys (qs.map Q3.rat) := by
        unfold sumF gathL
        rw [hkl, HM.out, ← HLEN.out, HN4.out]
        refine List.map_congr_left fun i hi => ?_
        have h := partsL_at (toF s ys) (qs.map Q3.rat) m k (i := i) (List.mem_range.1 hi)
        rw [HLP.out] at h
        rw [List.getD_eq_getElem?_getD, h]
        rfl
       have hrow : RowO w.heap.size 54 (fun W v x => ResQ w.heap.size W v x BB) wr (.slice av es.length cv) (sumF s ys (qs.map Q3.rat)) := ⟨es, hown.mono bw.size, by rw [← hsum]; exact hall⟩
       have hw1r : Below w1.heap.size w1 wr := hbw1.trans (hb.mono hbw1.size)
       have hR : ResT w.heap.size wr (.agg #[.slice e1 ll k1, .slice av es.length cv]) (dropS s ys) (sumF s ys (qs.map Q3.rat)) BB := ⟨e1, av, k1, cv, by rw [HL.out, HLL.out, sumF_len, HM.out, hkl], by rw [HL.out]; exact (HRS.out.later hw1r).mono (show w.heap.size ≤ W.heap.size by omega), by rw [sumF_len, HM.out, ← hkl]; exact hrow⟩
       have HR := Lib.hid hR
       have PR := HR6.out.later hb
       obtain ⟨u0, u1, g0, g1'⟩ := PR.two
       have HPR := Lib.hid PR
       clear hown hall hrow hR hsum hkl PR
       go_wp2_with fail
       have P8 := HPR.out.set2 (.slice e1 ll k1) (.slice av es.length cv)
       obtain ⟨z0, z1, _, _⟩ := P8.two
       refine bodyPost_ret (v := .agg #[.slice e1 ll k1, .slice av es.length cv]) (by simp [results, Tryz.results43, go_sem, z0, z1]) rfl ⟨_, rfl, HR.out.far HPR.out (by decide) (by decide) (by decide) (kept2 _ _), below_set2 bwr (by omega) _ _⟩
end
end Go.Proofs.YtengpgodmbfmkaaGreat
