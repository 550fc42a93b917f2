/-
  Package point as it landed: Pow and Scale. (Made by wip/gen/gen_ptwo.py.)
-/
import Derived.Test.YtjcacmnmbbnffaaGreatPOne
namespace Go.Proofs.YtjcacmnmbbnffaaGreat
open Go.RowKit
set_option linter.unusedVariables false
set_option linter.unusedSimpArgs false

theorem orL_zero {x y : Int} (h : orL [x, y] = 0) : x = 0 ∧ y = 0 := by
  unfold orL at h
  split at h
  · rename_i h1
    unfold orL at h
    split at h
    · rename_i h2; exact ⟨h1, h2⟩
    · rename_i h2; exact absurd h h2
  · rename_i h1; exact absurd h h1
theorem powC_zero {n : Int} (h : powC n = 0) : 0 ≤ n ∧ n ≤ 16 := by
  unfold powC at h
  split at h
  · cases h
  · omega
def powT (s : List Int) (qs : List Q3) (k : Int) : Int := if mayT s qs ≠ 0 then mayT s qs else powC k
theorem orL_two (x y : Int) : orL [x, y] = if x ≠ 0 then x else y := by
  unfold orL
  by_cases h : x = 0
  · rw [if_pos h, if_neg (by simp [h])]
    unfold orL
    by_cases h2 : y = 0
    · rw [if_pos h2, h2]; rfl
    · rw [if_neg h2]
  · rw [if_neg h, if_pos h]
set_option maxRecDepth 100000 in
set_option maxHeartbeats 8000000 in
theorem powP_any {n : Nat} {k : Int} {w : World} {v : Value} {s : List Int} {qs : List Q3} {a b : Option Addr} {ca cb : Nat} (T : TensQ w v s qs a ca b cb) (hs : s.length ≤ 17592186044416) (hq : qs.length ≤ 1000000) (hl : lensQ qs n) (hn : n ≤ 100000) :
    Calls Tryz.prog 32 #[v, .int .i64 k] w fun e w' => One w.heap.size w' e (powT s qs k) s (qs.map fun q => q.rat ^ k.toNat) (16 * n + 40) ∧ Below w.heap.size w w' := by
  have HT := Lib.hid T
  have HL := Lib.hid hl
  obtain rfl := T.is
  obtain ⟨W, hW⟩ : ∃ W, (((w.alloc (.cells #[.slice a s.length ca, .slice b qs.length cb] 26)).alloc (.cells #[.int .i64 k] 3)).alloc (.cells #[.slice none 0 0, .slice none 0 0] 26)) = W := ⟨_, rfl⟩
  have R0 : Row W (w.heap.size) 26 #[.slice a s.length ca, .slice b qs.length cb] := by rw [← hW]; have h := Row.new w 26 #[.slice a s.length ca, .slice b qs.length cb]; (try simp only [World.size_alloc] at h); exact ((h.alloc _).alloc _)
  have R1 : Row W (w.heap.size + 1) 3 #[.int .i64 k] := by rw [← hW]; have h := Row.new (w.alloc (.cells #[.slice a s.length ca, .slice b qs.length cb] 26)) 3 #[.int .i64 k]; (try simp only [World.size_alloc] at h); exact (h.alloc _)
  have R2 : Row W (w.heap.size + 1 + 1) 26 #[.slice none 0 0, .slice none 0 0] := by rw [← hW]; have h := Row.new ((w.alloc (.cells #[.slice a s.length ca, .slice b qs.length cb] 26)).alloc (.cells #[.int .i64 k] 3)) 26 #[.slice none 0 0, .slice none 0 0]; (try simp only [World.size_alloc] at h); exact h
  have hBW : Below w.heap.size w W := by rw [← hW]; exact ((((Below.refl _ _).alloc (by (try simp) <;> omega) _).alloc (by (try simp) <;> omega) _).alloc (by (try simp) <;> omega) _)
  have hsW : W.heap.size = w.heap.size + 1 + 1 + 1 := by rw [← hW]; simp
  have hm := fun (X : World) (hX : Below W.heap.size W X) => mayT7_big (HT.out.later (hBW.trans (hX.mono (by omega)))) (by omega) HL.out (by omega)
  obtain ⟨m, hmm⟩ : ∃ m, mayT s qs = m := ⟨_, rfl⟩
  obtain ⟨p, hp⟩ : ∃ p, powC k = p := ⟨_, rfl⟩
  have hpw := fun (X : World) => mayPower_any k X
  rw [hmm] at hm
  rw [hp] at hpw
  have hcode : powT s qs k = orL [m, p] := by rw [orL_two]; unfold powT; rw [hmm, hp]
  have mkS : ∀ X, Below W.heap.size W X → X.cell? ⟨w.heap.size, 0, none⟩ = some (.slice a s.length ca) ∧ X.cell? ⟨w.heap.size, 1, none⟩ = some (.slice b qs.length cb) ∧ X.cell? ⟨w.heap.size + 1, 0, none⟩ = some (.int .i64 k) := fun X h => by
    obtain ⟨x0, x1, _⟩ := (R0.later h).two
    exact ⟨x0, x1, (R1.later h).cell 0⟩
  have B0 : Below W.heap.size W W.drew := (Below.refl _ W).drew
  obtain ⟨L, hL⟩ : ∃ L, (qs.map fun q => q.rat ^ k.toNat) = L := ⟨_, rfl⟩
  have HMM := Lib.hid hmm
  have HP := Lib.hid hp
  have HLL := Lib.hid hL
  rw [hcode, hL]
  obtain ⟨c, hc⟩ : ∃ c, orL [m, p] = c := ⟨_, rfl⟩
  have HC := Lib.hid hc
  rw [hc]
  clear T hmm hp hcode hL hc hl
  go_enter Tryz.func32, Tryz.ntmps32
  go_wp2_with fail
  (try rw [hW])
  clear hW
  refine wp_region_held (S := fun X => X.cell? ⟨w.heap.size, 0, none⟩ = some (.slice a s.length ca) ∧ X.cell? ⟨w.heap.size, 1, none⟩ = some (.slice b qs.length cb) ∧ X.cell? ⟨w.heap.size + 1, 0, none⟩ = some (.int .i64 k)) (by kernel_rfl) ?_
  have hHeld := mkS _ B0
  refine todo [0, 2] ?_
  iterate 2
   refine todoH (v := ?_) rfl (by kernel_rfl) (fun _ _ _ h => h) (by assumption) (Or.inl ⟨by rfl, ?_⟩) ?_
   rotate_left
   · intro w hSw; (try dsimp only at hSw); go_simp; (try with_reducible rfl)
   try simp only [Act.put, List.getElem_toArray, List.getElem_cons_succ, List.getElem_cons_zero, List.setIfInBounds_toArray, List.set_cons_zero, List.set_cons_succ]
  refine todone ?_
  refine wpAnyH_ready (rs := [1]) (by kernel_rfl) (by simp) ?_
  refine AllReadyH.cons rfl (fun K hK => ?sq1c1) AllReadyH.nil
  go_simp
  refine (hm _ B0).mono ?_
  rintro e y1 ⟨rfl, hy⟩
  have B1 : Below W.heap.size W y1 := B0.trans (hy.mono B0.size)
  have D1 := hy
  clear hy
  go_simp
  refine hK.out _ _ ?kq1c1 (fun hHeld => ?mq1c1)
  case kq1c1 =>
    try dsimp only
    exact mkS _ B1
  clear hK K
  try simp only [Act.put, List.setIfInBounds_toArray, List.set_cons_zero, List.set_cons_succ]
  refine wpAnyH_ready (rs := [3]) (by kernel_rfl) (by simp) ?_
  refine AllReadyH.cons rfl (fun K hK => ?spw) AllReadyH.nil
  go_simp
  refine (hpw _).mono ?_
  rintro e y2 ⟨rfl, rfl⟩
  go_simp
  refine hK.out _ _ ?kpw (fun hHeld => ?mpw)
  case kpw =>
    try dsimp only
    exact mkS _ B1
  clear hK K
  try simp only [Act.put, List.setIfInBounds_toArray, List.set_cons_zero, List.set_cons_succ]
  have z1 := B1.size
  have A1 : Below W.heap.size W (y1.alloc (.cells #[.int .i64 m, .int .i64 p] 29)) := B1.alloc (by omega) _
  refine wpAnyH_ready (rs := [4]) (by kernel_rfl) (by simp) ?_
  refine AllReadyH.cons rfl (fun K hK => ?sal1) AllReadyH.nil
  go_simp
  refine hK.out _ _ ?kal1 (fun hHeld => ?mal1)
  case kal1 =>
    try dsimp only
    exact mkS _ A1
  clear hK K
  try simp only [Act.put, List.setIfInBounds_toArray, List.set_cons_zero, List.set_cons_succ]
  refine wpAnyH_ready (rs := [5]) (by kernel_rfl) (by simp) ?_
  refine AllReadyH.cons rfl (fun K hK => ?sor1) AllReadyH.nil
  go_simp
  refine (or_any (xs := [m, p]) (b := y1.heap.size) (fun k hk => by
    have R := Row.new y1 29 #[.int .i64 m, .int .i64 p]
    simp only [List.length_cons, List.length_nil] at hk
    by_cases h0 : k = 0
    · subst h0; exact R.cell 0
    by_cases h1 : k = 1
    · subst h1; exact R.cell 1
    · omega) (by simp)).mono ?_
  rintro e y2 ⟨rfl, rfl⟩
  have B2 := A1
  go_simp
  refine hK.out _ _ ?kor1 (fun hHeld => ?mor1)
  case kor1 =>
    try dsimp only
    exact mkS _ A1
  clear hK K
  try simp only [Act.put, List.setIfInBounds_toArray, List.set_cons_zero, List.set_cons_succ]
  rw [HC.out]
  refine wpAnyH_ready (rs := [6]) (by kernel_rfl) (by simp) ?_
  refine AllReadyH.cons rfl (fun K hK => ?sas) AllReadyH.nil
  go_simp
  refine hK.out _ _ ?kas (fun hHeld => ?mas)
  case kas =>
    try dsimp only
    exact mkS _ A1
  clear hK K
  try simp only [Act.put, List.setIfInBounds_toArray, List.set_cons_zero, List.set_cons_succ]
  refine wpAnyH_done (by kernel_rfl) ?_ _
  (try dsimp only [Straight])
  obtain ⟨y2, hy2⟩ : ∃ y2, y1.alloc (.cells #[.int .i64 m, .int .i64 p] 29) = y2 := ⟨_, rfl⟩
  rw [hy2] at A1 ⊢
  obtain ⟨x0, x1, x2⟩ := mkS _ A1
  have P1 := R2.later A1
  have s2 := A1.size
  have hB2 : Below w.heap.size w y2 := hBW.trans (A1.mono (by omega))
  have hmf : ∀ (fn : Fn) (first cap : Array Value) (w : World), (Instr.makeFunc fn first cap).run Tryz.prog w = .ok (.func fn first cap) w := fun _ _ _ _ => rfl
  clear hy2
  by_cases h0 : c = 0
  · subst h0
    obtain ⟨hm0, hp0⟩ := orL_zero HC.out
    have hk := powC_zero (HP.out.trans hp0)
    obtain ⟨E, hE⟩ : ∃ E : Nat, k = (E : Int) := ⟨k.toNat, by omega⟩
    subst hE
    have hE16 : E ≤ 16 := by omega
    have hmul : (n + 2) * E ≤ (n + 2) * 16 := Nat.mul_le_mul_left _ hE16
    have hea := each_any (F := 71) (cap := #[.pointer (some ⟨w.heap.size + 1, 0, none⟩)]) (f := fun x => x ^ E) (N := 16 * n + 40) (HT.out.later hB2) hs hq (enters_of Tryz.func71 (by kernel_rfl) rfl)
      (fun X x q hm hX hr => (pow1_any (N := E) hr (HL.out q hm).1 (HL.out q hm).2 (by omega) hE16 ((hX.cell (World.block_lt_of_cell? _ _ x2)).trans x2)).mono fun e w' ⟨r, g1, g2, g3⟩ => ⟨r, g1, g2.more (by omega), g3⟩)
    have hLE := HLL.out
    simp only [Int.toNat_natCast] at hLE
    rw [hLE] at hea
    have HEA := Lib.hid hea
    clear hea hLE hm0 hp0 hk hmul mkS
    go_wp2_with fail
    refine HEA.out.mono ?_
    rintro e w2 ⟨r, rfl, hT, hb2⟩
    obtain ⟨a', b', ca', cb', rfl, RS, RO⟩ := hT
    have P2 := P1.later hb2
    have s3 := hb2.size
    obtain ⟨u0, u1, g0, g1⟩ := P2.two
    have HR := Lib.hid RS
    have HO := Lib.hid RO
    clear RS RO
    obtain ⟨l, hl⟩ : ∃ l, L.length = l := ⟨_, rfl⟩
    have HL2 := Lib.hid hl
    rw [hl]
    clear hl
    go_wp2_with fail
    have P3 := P2.set2 (.slice a' s.length ca') (.slice b' l cb')
    obtain ⟨z0, z1, _, _⟩ := P3.two
    refine bodyPost_ret (v := .tuple #[.agg #[.slice a' s.length ca', .slice b' l cb'], .int .i64 0]) (by simp [results, Tryz.results32, go_sem, z0, z1]) rfl ⟨.inl ⟨rfl, _, rfl, ?_⟩, below_set2 (hB2.trans (hb2.mono (by omega))) (by omega) _ _⟩
    have hR : ResT w.heap.size w2 (.agg #[.slice a' s.length ca', .slice b' l cb']) s L (16 * n + 40) := ResT.mono ⟨a', b', ca', cb', by rw [HL2.out], HR.out, HO.out⟩ (by omega)
    exact hR.far P2 (by decide) (by decide) (by decide) (kept2 _ _)
  · have hne : (c != 0) = true := by simp [h0]
    have H0 := Lib.hid h0
    obtain ⟨u0, u1, g0, g1⟩ := P1.two
    clear h0 mkS
    go_wp2_with fail
    have P3 := P1.set2 (.slice none 0 0) (.slice none 0 0)
    obtain ⟨z0, z1, _, _⟩ := P3.two
    refine bodyPost_ret (v := .tuple #[noTensor, .int .i64 c]) (by simp [results, Tryz.results32, go_sem, z0, z1, noTensor]) rfl ⟨.inr ⟨H0.out, rfl⟩, below_set2 hB2 (by omega) _ _⟩
set_option maxRecDepth 100000 in
set_option maxHeartbeats 8000000 in
theorem scaleP_any {m : Nat} {X : Rat} {y : Value} {n : Nat} {w : World} {v : Value} {s : List Int} {qs : List Q3} {a b : Option Addr} {ca cb : Nat} (T : TensQ w v s qs a ca b cb) (hs : s.length ≤ 17592186044416) (hq : qs.length ≤ 1000000) (hl : lensQ qs n) (hn : n ≤ 1000000) (hy : ArgQ w y X m) (hm : m ≤ 1000000) :
    Calls Tryz.prog 34 #[v, y] w fun e w' => One w.heap.size w' e (mayT s qs) s (qs.map fun q => q.rat * X) (2 * (n + m + 2) + 4) ∧ Below w.heap.size w w' := by
  have HT := Lib.hid T
  have HL := Lib.hid hl
  obtain rfl := T.is
  have HY := Lib.hid hy
  obtain ⟨yn, ps, rs, e1, e2, k1, k2, rfl⟩ := hy.box
  obtain ⟨W, hW⟩ : ∃ W, (((w.alloc (.cells #[.slice a s.length ca, .slice b qs.length cb] 26)).alloc (.cells #[.bool yn, .slice e1 ps.length k1, .slice e2 rs.length k2] 51)).alloc (.cells #[.slice none 0 0, .slice none 0 0] 26)) = W := ⟨_, rfl⟩
  have R0 : Row W (w.heap.size) 26 #[.slice a s.length ca, .slice b qs.length cb] := by rw [← hW]; have h := Row.new w 26 #[.slice a s.length ca, .slice b qs.length cb]; (try simp only [World.size_alloc] at h); exact ((h.alloc _).alloc _)
  have R1 : Row W (w.heap.size + 1) 51 #[.bool yn, .slice e1 ps.length k1, .slice e2 rs.length k2] := by rw [← hW]; have h := Row.new (w.alloc (.cells #[.slice a s.length ca, .slice b qs.length cb] 26)) 51 #[.bool yn, .slice e1 ps.length k1, .slice e2 rs.length k2]; (try simp only [World.size_alloc] at h); exact (h.alloc _)
  have R2 : Row W (w.heap.size + 1 + 1) 26 #[.slice none 0 0, .slice none 0 0] := by rw [← hW]; have h := Row.new ((w.alloc (.cells #[.slice a s.length ca, .slice b qs.length cb] 26)).alloc (.cells #[.bool yn, .slice e1 ps.length k1, .slice e2 rs.length k2] 51)) 26 #[.slice none 0 0, .slice none 0 0]; (try simp only [World.size_alloc] at h); exact h
  have hBW : Below w.heap.size w W := by rw [← hW]; exact ((((Below.refl _ _).alloc (by (try simp) <;> omega) _).alloc (by (try simp) <;> omega) _).alloc (by (try simp) <;> omega) _)
  have hsW : W.heap.size = w.heap.size + 1 + 1 + 1 := by rw [← hW]; simp
  have hnm := norm_any (HY.out.later hBW) (by omega)
  obtain ⟨c, hc⟩ : ∃ c, mayT s qs = c := ⟨_, rfl⟩
  have HC := Lib.hid hc
  obtain ⟨L, hL⟩ : ∃ L, (qs.map fun q => q.rat * X) = L := ⟨_, rfl⟩
  have HLL := Lib.hid hL
  have hmf : ∀ (fn : Fn) (first cap : Array Value) (w : World), (Instr.makeFunc fn first cap).run Tryz.prog w = .ok (.func fn first cap) w := fun _ _ _ _ => rfl
  rw [hc, hL]
  clear T hl hc hL hy
  obtain ⟨d0, d1, d2, _, _, _⟩ := R1.three
  go_enter Tryz.func34, Tryz.ntmps34
  (try rw [hW])
  go_wp2_with (go_at_call 74; refine hnm.mono ?_; rintro e w1 ⟨r, rfl, qv, hb1⟩; have Q1 := Lib.hid qv; obtain ⟨m5, f1, l1, j1, f2, l2, j2, rfl⟩ := qv.shape; clear qv; have P1 := R1.later hb1; have s1 := hb1.size; obtain ⟨u0, u1, u2, g0, g1, g2⟩ := P1.three; obtain ⟨k0, k1, _, _⟩ := (R0.later hb1).two; have t0 := ((R0.later hb1).far (p := ⟨w.heap.size + 1, 0, none⟩) (by show w.heap.size ≠ w.heap.size + 1; omega) (.bool m5)); have t1 := (t0.far (p := ⟨w.heap.size + 1, 1, none⟩) (by show w.heap.size ≠ w.heap.size + 1; omega) (.slice f1 l1 j1)); have t2 := (t1.far (p := ⟨w.heap.size + 1, 2, none⟩) (by show w.heap.size ≠ w.heap.size + 1; omega) (.slice f2 l2 j2)); obtain ⟨v0, v1, _, _⟩ := t2.two)
  obtain ⟨w2, hw2⟩ : ∃ w2, (((w1.setCell ⟨w.heap.size + 1, 0, none⟩ (.bool m5)).setCell ⟨w.heap.size + 1, 1, none⟩ (.slice f1 l1 j1)).setCell ⟨w.heap.size + 1, 2, none⟩ (.slice f2 l2 j2)) = w2 := ⟨_, rfl⟩
  have P2 : Row w2 (w.heap.size + 1) 51 #[.bool m5, .slice f1 l1 j1, .slice f2 l2 j2] := by rw [← hw2]; exact P1.set3 _ _ _
  have QN : ResQ W.heap.size w2 (.agg #[.bool m5, .slice f1 l1 j1, .slice f2 l2 j2]) X (m + 2) := by rw [← hw2]; exact Q1.out.far P1 (by decide) (kept3 _ _ _)
  have hB2 : Below w.heap.size w w2 := by rw [← hw2]; exact below_set3 (hBW.trans (hb1.mono (by omega))) (by omega) _ _ _
  have P3' : Row w2 (w.heap.size + 1 + 1) 26 #[.slice none 0 0, .slice none 0 0] := by
    rw [← hw2]
    exact (((R2.later hb1).far (p := ⟨w.heap.size + 1, 0, none⟩) (by show w.heap.size + 1 + 1 ≠ w.heap.size + 1; omega) _).far (p := ⟨w.heap.size + 1, 1, none⟩) (by show w.heap.size + 1 + 1 ≠ w.heap.size + 1; omega) _).far (p := ⟨w.heap.size + 1, 2, none⟩) (by show w.heap.size + 1 + 1 ≠ w.heap.size + 1; omega) _
  rw [hw2]
  have ho := ofOne_any (F := 75) (cap := #[.pointer (some ⟨w.heap.size + 1, 0, none⟩)]) (f := fun x => x * X) (N := 2 * (n + m + 2) + 4) (HT.out.later hB2) hs hq HL.out (by omega) (enters_of Tryz.func75 (by kernel_rfl) rfl)
    (fun Y x q hq2 _ hX hr => scale1_any (n := n + m + 2) (v := undef) hr (by have := (HL.out q hq2).1; omega) (by have := (HL.out q hq2).2; omega) (by omega) ((QN.arg.more (by omega)).later hX) (P2.later hX))
  have hLE := HLL.out
  rw [HC.out, hLE] at ho
  have HO2 := Lib.hid ho
  have hs2 : w.heap.size + 1 + 1 + 1 ≤ w2.heap.size := by rw [← hw2]; have := ((Only.set w1 (w.heap.size + 1) 0 (.bool m5)).trans ((Only.set _ (w.heap.size + 1) 1 (.slice f1 l1 j1)).trans (Only.set _ (w.heap.size + 1) 2 (.slice f2 l2 j2)))).size; omega
  clear ho hLE hw2 u0 u1 u2 g0 g1 g2 k0 k1 t0 t1 t2 v0 v1 d0 d1 d2
  refine HO2.out.mono ?_
  rintro e w2 ⟨h | ⟨h0, rfl⟩, hb2⟩
  · obtain ⟨rfl, r, rfl, a', b', ca', cb', rfl, RS, RO⟩ := h
    have P2 := P3'.later hb2
    have s2 := hb2.size
    obtain ⟨u0, u1, g0, g1⟩ := P2.two
    have HR := Lib.hid RS
    have HO := Lib.hid RO
    clear RS RO
    obtain ⟨l, hl⟩ : ∃ l, L.length = l := ⟨_, rfl⟩
    have HL2 := Lib.hid hl
    rw [hl]
    clear hl
    go_wp2_with fail
    have P3 := P2.set2 (.slice a' s.length ca') (.slice b' l cb')
    obtain ⟨z0, z1, _, _⟩ := P3.two
    refine bodyPost_ret (v := .tuple #[.agg #[.slice a' s.length ca', .slice b' l cb'], .int .i64 0]) (by simp [results, Tryz.results34, go_sem, z0, z1]) rfl ⟨.inl ⟨rfl, _, rfl, ?_⟩, below_set2 (hB2.trans (hb2.mono (by omega))) (by omega) _ _⟩
    have hR : ResT w.heap.size w2 (.agg #[.slice a' s.length ca', .slice b' l cb']) s L _ := ResT.mono ⟨a', b', ca', cb', by rw [HL2.out], HR.out, HO.out⟩ (by omega)
    exact hR.far P2 (by decide) (by decide) (by decide) (kept2 _ _)
  · have P2 := P3'.later hb2
    have s2 := hb2.size
    obtain ⟨u0, u1, g0, g1⟩ := P2.two
    have H0 := Lib.hid h0
    clear h0
    unfold noTensor
    go_wp2_with fail
    have P3 := P2.set2 (.slice none 0 0) (.slice none 0 0)
    obtain ⟨z0, z1, _, _⟩ := P3.two
    refine bodyPost_ret (v := .tuple #[noTensor, .int .i64 c]) (by simp [results, Tryz.results34, go_sem, z0, z1, noTensor]) rfl ⟨.inr ⟨H0.out, rfl⟩, below_set2 (hB2.trans (hb2.mono (by omega))) (by omega) _ _⟩
end Go.Proofs.YtjcacmnmbbnffaaGreat
