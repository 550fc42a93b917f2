/-
  The reference of layers 3 and 8: Pow. (Made by wip/gen/gen_prefp.py.)
-/
import Derived.Test.YtjcacmnmbbnffaaGreatPRefA
import Derived.Test.YtjcacmnmbbnffaaGreatE6
namespace Go.Proofs.YtjcacmnmbbnffaaGreat
open Go.RowKit
set_option linter.unusedVariables false
set_option linter.unusedSimpArgs false

theorem dig_two14 (k : Nat) : (10000 : Int) ^ k ≤ 2 ^ (14 * k) := by
  induction k with
  | zero => simp
  | succ k ih =>
    rw [Int.pow_succ, show 14 * (k + 1) = 14 * k + 14 from by omega, Int.pow_add]
    have h1 := pow_posD k
    have h2 : (2 : Int) ^ 14 = 16384 := by decide
    rw [h2]
    omega
theorem ArgR.fit {w : World} {v : Value} {X : Rat} {n : Nat} (h : ArgR w v X n) : FitQ X (14 * n) := by
  obtain ⟨zs, ys, ad, bd, ca, cb, rfl, A, B, e1, e2, l1, l2⟩ := h
  have k1 := val_ltD A.wf
  have k2 := val_ltD B.wf
  have d1 := dig_two14 zs.length
  have d2 := dig_two14 ys.length
  rw [e1] at k1
  rw [e2] at k2
  have m1 : (2 : Nat) ^ (14 * zs.length) ≤ 2 ^ (14 * n) := Nat.pow_le_pow_right (by decide) (by omega)
  have m2 : (2 : Nat) ^ (14 * ys.length) ≤ 2 ^ (14 * n) := Nat.pow_le_pow_right (by decide) (by omega)
  have c1 : ((2 ^ (14 * zs.length) : Nat) : Int) = (2 : Int) ^ (14 * zs.length) := by simp
  have c2 : ((2 ^ (14 * ys.length) : Nat) : Int) = (2 : Int) ^ (14 * ys.length) := by simp
  exact ⟨by omega, by omega⟩
theorem ResR.refit {base n b : Nat} {w : World} {v : Value} {X : Rat} (h : ResR base w v X n) (hf : FitQ X b) : ResR base w v X (b / 13 + 1) := by
  obtain ⟨zs, ys, ad, bd, ca, cb, rfl, A, B, _, _⟩ := h
  exact ⟨zs, ys, ad, bd, ca, cb, rfl, A, B, lenD_le A.wf A.full (by rw [A.eq]; have := hf.1; omega), lenD_le B.wf B.full (by rw [B.eq]; have := hf.2; omega)⟩
theorem FitQ.pow {X : Rat} {b : Nat} (h : FitQ X b) (k : Nat) : FitQ (X ^ k) (b * k) := by
  induction k with
  | zero => rw [Rat.pow_zero]; exact ⟨Nat.one_le_two_pow, Nat.one_le_two_pow⟩
  | succ k ih => rw [Rat.pow_succ, Nat.mul_succ]; exact ih.mul h

set_option maxRecDepth 100000 in
set_option maxHeartbeats 8000000 in
theorem powRR_any {n N : Nat} {w : World} {u : Value} {X : Rat} (hu : ArgR w u X n) (hn : n ≤ 1000) (hN : N ≤ 16) :
    Calls Tryz.prog 73 #[u, .int .i64 (N : Int)] w fun e w' => ∃ r, e = .returned r ∧ ResR w.heap.size w' r (X ^ N) (18 * n + 20) ∧ Below w.heap.size w w' := by
  have HU := Lib.hid hu
  have HF := Lib.hid (ArgR.fit hu)
  obtain ⟨m1, xs, ds, a1, a2, c1, c2, rfl⟩ := hu.box
  obtain ⟨W, hW⟩ : ∃ W, ((w.alloc (.cells #[.bool m1, .slice a1 xs.length c1, .slice a2 ds.length c2] 56)).alloc (.cells #[.bool false, .slice none 0 0, .slice none 0 0] 56)) = W := ⟨_, rfl⟩
  have R0 : Row W (w.heap.size) 56 #[.bool m1, .slice a1 xs.length c1, .slice a2 ds.length c2] := by rw [← hW]; have h := Row.new w 56 #[.bool m1, .slice a1 xs.length c1, .slice a2 ds.length c2]; (try simp only [World.size_alloc] at h); exact (h.alloc _)
  have R1 : Row W (w.heap.size + 1) 56 #[.bool false, .slice none 0 0, .slice none 0 0] := by rw [← hW]; have h := Row.new (w.alloc (.cells #[.bool m1, .slice a1 xs.length c1, .slice a2 ds.length c2] 56)) 56 #[.bool false, .slice none 0 0, .slice none 0 0]; (try simp only [World.size_alloc] at h); exact h
  have hBW : Below w.heap.size w W := by rw [← hW]; exact (((Below.refl _ _).alloc (by (try simp) <;> omega) _).alloc (by (try simp) <;> omega) _)
  have hsW : W.heap.size = w.heap.size + 1 + 1 := by rw [← hW]; simp
  clear hu
  go_enter Tryz.func73, Tryz.ntmps73
  (try rw [hW])
  go_wp2_with fail
  refine (intRR_any 1 _ (by decide) (by decide)).mono ?_
  rintro e w3 ⟨r, rfl, q3, hb3⟩
  rw [intQ_one] at q3
  have Q3 := Lib.hid q3
  obtain ⟨m3, b1, l1, k1, b2, l2, k2, rfl⟩ := q3.shape
  clear q3
  go_wp2_with fail
  have hs3 := hb3.size
  have hB3 : Below w.heap.size w w3 := hBW.trans (hb3.mono (by omega))
  have r0 := (R0.later hb3).alloc (.cells #[.bool m3, .slice b1 l1 k1, .slice b2 l2 k2] 56)
  have r1 := (R1.later hb3).alloc (.cells #[.bool m3, .slice b1 l1 k1, .slice b2 l2 k2] 56)
  have rg := Row.new w3 56 #[.bool m3, .slice b1 l1 k1, .slice b2 l2 k2]
  have hB4 : Below w.heap.size w (w3.alloc (.cells #[.bool m3, .slice b1 l1 k1, .slice b2 l2 k2] 56)) := hB3.alloc (by omega) _
  have q4 : ResR w.heap.size (w3.alloc (.cells #[.bool m3, .slice b1 l1 k1, .slice b2 l2 k2] 56)) (.agg #[.bool m3, .slice b1 l1 k1, .slice b2 l2 k2]) (X ^ 0) (18 * n + 20) := by
    rw [Rat.pow_zero]
    exact ((Q3.out.mono (by omega)).more (by omega)).later ((Below.refl _ _).alloc (Nat.le_refl _) _)
  obtain ⟨g, hg⟩ : ∃ g, w3.heap.size = g := ⟨_, rfl⟩
  have hg2 : w.heap.size + 1 + 1 ≤ g := by omega
  rw [hg] at rg ⊢
  generalize w3.alloc (.cells #[.bool m3, .slice b1 l1 k1, .slice b2 l2 k2] 56) = W4 at *
  have H0 := Lib.hid r0
  have H1 := Lib.hid r1
  have HG := Lib.hid rg
  have HQ := Lib.hid q4
  have HB4 := Lib.hid hB4
  clear r0 r1 rg q4 hB4 hB3 hb3 hs3 hsW hg hW hBW R0 R1
  go_loopw [6] (fun i wr => ∃ (k : Nat) (m : Bool) (b1 b2 : Option Addr) (l1 l2 k1 k2 : Nat), i = .int .i64 (k : Int) ∧ k ≤ N ∧ Row wr w.heap.size 56 #[.bool m1, .slice a1 xs.length c1, .slice a2 ds.length c2] ∧ Row wr (w.heap.size + 1) 56 #[.bool false, .slice none 0 0, .slice none 0 0] ∧
    Row wr g 56 #[.bool m, .slice b1 l1 k1, .slice b2 l2 k2] ∧ ResR w.heap.size wr (.agg #[.bool m, .slice b1 l1 k1, .slice b2 l2 k2]) (X ^ k) (18 * n + 20) ∧ Below w.heap.size w wr) (fun i _ => N - (intOf i).toNat)
  case atStart => exact ⟨0, _, _, _, _, _, _, _, rfl, Nat.zero_le _, H0.out, H1.out, HG.out, HQ.out, HB4.out⟩
  case round =>
    obtain ⟨k, m, b1, b2, l1, l2, k1, k2, rfl, hk, r0, r1, rg, qk, hb⟩ := hrel
    have hsz := hb.size
    by_cases hlt : k < N
    · have hltI : (k : Int) < (N : Int) := by omega
      obtain ⟨t0, t1, t2, _, _, _⟩ := r0.three
      obtain ⟨u0, u1, u2, _, _, _⟩ := rg.three
      have hmul := mulRR_any (n := 18 * n + 20) qk.arg ((HU.out.later hb).more (by omega)) (by omega)
      have HQK := Lib.hid qk
      clear qk
      go_wp2_with fail
      refine hmul.mono ?_
      rintro e w5 ⟨rv, rfl, qv, hb5⟩
      have hs5 := hb5.size
      have hfit : FitQ (X ^ k * X) (14 * n * 16) := by
        have h := (HF.out.pow (k + 1)).mono (b := 14 * n * 16) (Nat.mul_le_mul_left _ (by omega))
        rwa [Rat.pow_succ] at h
      have Q5 := Lib.hid ((qv.refit hfit).more (m := 18 * n + 20) (by omega))
      obtain ⟨m5, f1, i1, j1, f2, i2, j2, rfl⟩ := qv.shape
      have rg5 := rg.later hb5
      obtain ⟨v0, v1, v2, v3, v4, v5⟩ := rg5.three
      clear qv hmul
      go_wp2
      go_roundw
      case rel =>
        refine ⟨k + 1, m5, f1, f2, i1, i2, j1, j2, by go_num, by omega, ?_, ?_, rg5.set3 _ _ _, ?_, below_set3 (hb.trans (hb5.mono hsz)) (by omega) _ _ _⟩
        · exact (kept3 _ _ _ _ (by omega)).trans (r0.later hb5)
        · exact (kept3 _ _ _ _ (by omega)).trans (r1.later hb5)
        · rw [Rat.pow_succ]
          exact (Q5.out.mono hsz).far rg5 (by decide) (kept3 _ _ _)
      case measure => simp [intOf]; omega
    · obtain rfl : k = N := by omega
      have hltI : ¬ (k : Int) < (k : Int) := by omega
      obtain ⟨u0, u1, u2, _, _, _⟩ := rg.three
      obtain ⟨v0, v1, v2, v3, v4, v5⟩ := r1.three
      have RRs := r1.set3 (.bool m) (.slice b1 l1 k1) (.slice b2 l2 k2)
      obtain ⟨z0, z1, z2, _, _, _⟩ := RRs.three
      have HQK := Lib.hid qk
      have HR1 := Lib.hid r1
      clear qk r1 RRs
      go_wp2
      exact bodyPost_ret (v := .agg #[.bool m, .slice b1 l1 k1, .slice b2 l2 k2]) (by simp [results, Tryz.results73, go_sem, z0, z1, z2]) rfl ⟨_, rfl, HQK.out.far HR1.out (by decide) (kept3 _ _ _), below_set3 hb (by omega) _ _ _⟩
set_option maxRecDepth 100000 in
set_option maxHeartbeats 8000000 in
theorem powT_any {n : Nat} {w : World} {v : Value} {s : List Int} {L1 : List Rat} {a b : Option Addr} {ca cb : Nat} {E : Nat} (T : TensR w v s L1 n a ca b cb) (hs : s.length ≤ 17592186044416) (hq : L1.length ≤ 1000000) (hn : n ≤ 1000000) (hn2 : n ≤ 1000) (hE : E ≤ 16) :
    Calls Tryz.prog 33 #[v, .int .i64 (E : Int)] w fun e w' => ∃ r, e = .returned (.tuple #[r, .int .i64 0]) ∧ TenR w' r s (L1.map fun x => x ^ E) (18 * n + 20) ∧ Below w.heap.size w w' := by
  obtain ⟨i0, hi, hz0, hz1, hz2⟩ := info_parts infoR
  have HT := Lib.hid T
  obtain rfl := T.is
  have hres : (L1.map fun x => x ^ E).length = L1.length := by simp
  obtain ⟨LR, hLR⟩ : ∃ LR, (L1.map fun x => x ^ E) = LR := ⟨_, rfl⟩
  rw [hLR] at hres ⊢
  have HLR := Lib.hid hLR
  have HRES := Lib.hid hres
  clear hLR hres
  obtain ⟨W, hW⟩ : ∃ W, ((w.alloc (.cells #[.slice a s.length ca, .slice b L1.length cb] 36)).alloc (.cells #[.slice none 0 0, .slice none 0 0] 36)) = W := ⟨_, rfl⟩
  have R0 : Row W (w.heap.size) 36 #[.slice a s.length ca, .slice b L1.length cb] := by rw [← hW]; have h := Row.new w 36 #[.slice a s.length ca, .slice b L1.length cb]; (try simp only [World.size_alloc] at h); exact (h.alloc _)
  have R1 : Row W (w.heap.size + 1) 36 #[.slice none 0 0, .slice none 0 0] := by rw [← hW]; have h := Row.new (w.alloc (.cells #[.slice a s.length ca, .slice b L1.length cb] 36)) 36 #[.slice none 0 0, .slice none 0 0]; (try simp only [World.size_alloc] at h); exact h
  have hBW : Below w.heap.size w W := by rw [← hW]; exact (((Below.refl _ _).alloc (by (try simp) <;> omega) _).alloc (by (try simp) <;> omega) _)
  have hsW : W.heap.size = w.heap.size + 1 + 1 := by rw [← hW]; simp
  have hshp := shapedR_any (HT.out.later hBW) hs
  obtain ⟨p0, p1, _, _⟩ := R0.two
  have hE0 : ¬ (E : Int) < 0 := by omega
  have hE1 : ¬ (E : Int) > 16 := by omega
  clear T 
  go_enter Tryz.func33, Tryz.ntmps33
  (try rw [hW])
  go_wp2_with fail
  refine hshp.mono ?_
  rintro e w3 ⟨a3, c3, rfl, R3', hb3⟩
  go_wp2_with fail
  have hs3 := hb3.size
  have hB3 : Below w.heap.size w w3 := hBW.trans (hb3.mono (by omega))
  have hB4 : Below w.heap.size w (w3.alloc (.cells #[.slice a3 s.length c3, .slice none 0 0] 36)) := hB3.alloc (by omega) _
  have r0 := (R0.later hb3).alloc (.cells #[.slice a3 s.length c3, .slice none 0 0] 36)
  have r1 := (R1.later hb3).alloc (.cells #[.slice a3 s.length c3, .slice none 0 0] 36)
  have rg := Row.new w3 36 #[.slice a3 s.length c3, .slice none 0 0]
  have rs : ResS w.heap.size (w3.alloc (.cells #[.slice a3 s.length c3, .slice none 0 0] 36)) (.slice a3 s.length c3) s := (R3'.mono (by omega)).later ((Below.refl _ _).alloc (Nat.le_refl _) _)
  obtain ⟨g, hg⟩ : ∃ g, w3.heap.size = g := ⟨_, rfl⟩
  have hg2 : w.heap.size + 1 + 1 ≤ g := by omega
  rw [hg] at rg ⊢
  generalize w3.alloc (.cells #[.slice a3 s.length c3, .slice none 0 0] 36) = W4 at *
  have H0 := Lib.hid r0
  have H1 := Lib.hid r1
  have HG := Lib.hid rg
  have HS := Lib.hid rs
  have HB4 := Lib.hid hB4
  clear rg rs hB4 hB3 hb3 hs3 R3' hshp p0 p1 hsW hg hW hBW r0 R0 r1 R1
  go_loopw [7] (fun i wr => ∃ (k : Nat) (v : Value), i = .int .i64 (k : Int) ∧ k ≤ L1.length ∧ Row wr (w.heap.size) 36 #[.slice a s.length ca, .slice b L1.length cb] ∧ Row wr (w.heap.size + 1) 36 #[.slice none 0 0, .slice none 0 0] ∧
    Row wr g 36 #[.slice a3 s.length c3, v] ∧ ResS w.heap.size wr (.slice a3 s.length c3) s ∧ RowO (w.heap.size) 56 (fun W v x => ResA w.heap.size w W v x (18 * n + 20)) wr v (LR.take k) ∧ Below w.heap.size w wr) (fun i _ => L1.length - (intOf i).toNat)
  case atStart => exact ⟨0, _, rfl, Nat.zero_le _, H0.out, H1.out, HG.out, HS.out, RowO.nil _ _ _ _, HB4.out⟩
  case round =>
    obtain ⟨k, v, rfl, hk, r0, r1, rg, rs, ⟨es, hown, hall⟩, hb⟩ := hrel
    have hsz := hb.size
    have c01 := r0.cell 1
    have cg1 := rg.cell 1
    have hle : es.length = k := by have h := HRES.out; rw [hall.1, List.length_take, h]; omega
    by_cases hlt : k < L1.length
    · obtain ⟨bb, o, x0, x1, x2, q, hbo, hqk, e0', e1', e2', hraw0⟩ := HT.out.el.at hlt
      have e0 := (hb.cell (World.block_lt_of_cell? _ _ e0')).trans e0'
      have e1 := (hb.cell (World.block_lt_of_cell? _ _ e1')).trans e1'
      have e2 := (hb.cell (World.block_lt_of_cell? _ _ e2')).trans e2'
      have hb0 : bb < w.heap.size := World.block_lt_of_cell? _ _ e0'
      subst hbo
      have hcall : ArgR wr (.agg #[x0, x1, x2]) q n := hraw0.later hb
      have hgl := rg.lt
      have hszb : w.heap.size ≤ wr.heap.size := by omega
      obtain ⟨r, hrv, hrb, hrne⟩ := hown.hits hszb
      have n0 := hrne _ _ _ r0 (by decide)
      have n1 := hrne _ _ _ r1 (by decide)
      have ng := hrne _ _ _ rg (by decide)
      clear e0' e1' e2'
      have mkS : ∀ X, Kept r wr X → X.cell? ⟨g, 1, none⟩ = some v ∧ X.cell? ⟨w.heap.size, 1, none⟩ = some (.slice (some ⟨bb, o, none⟩) L1.length cb) ∧ X.cell? ⟨bb, o + k * 3, none⟩ = some x0 ∧ X.cell? ⟨bb, o + k * 3 + 1, none⟩ = some x1 ∧ X.cell? ⟨bb, o + k * 3 + 2, none⟩ = some x2 ∧ Kept r wr X := fun X h =>
        ⟨h.cell cg1 ng, h.cell c01 n0, h.cell e0 (by show bb ≠ r; omega), h.cell e1 (by show bb ≠ r; omega), h.cell e2 (by show bb ≠ r; omega), h⟩
      have hltI : (k : Int) < (L1.length : Int) := by omega
      have hS0 := mkS wr.drew ((Kept.refl r wr).drew)
      go_wp2_with fail
      refine wp_region_L (S := fun X => X.cell? ⟨g, 1, none⟩ = some v ∧ X.cell? ⟨w.heap.size, 1, none⟩ = some (.slice (some ⟨bb, o, none⟩) L1.length cb) ∧ X.cell? ⟨bb, o + k * 3, none⟩ = some x0 ∧ X.cell? ⟨bb, o + k * 3 + 1, none⟩ = some x1 ∧ X.cell? ⟨bb, o + k * 3 + 2, none⟩ = some x2 ∧ Kept r wr X) (z := 12) (by kernel_rfl) hS0 (fun hHeld => ?_)
      refine todo [0, 1, 2, 3, 4, 5, 6, 7] ?_
      iterate 8
       refine todoL (v := ?_) rfl (by kernel_rfl) (fun _ _ _ h => h) (by assumption) (Or.inl ⟨by rfl, ?_⟩) ?_
       rotate_left
       · intro w hSw; (try dsimp only at hSw); go_simp; (try with_reducible rfl)
       try simp only [Act.put, List.getElem_toArray, List.getElem_cons_succ, List.getElem_cons_zero, List.setIfInBounds_toArray, List.set_cons_zero, List.set_cons_succ]
      refine todone ?_
      refine wpAnyL_one (i := 8) (by kernel_rfl) rfl (fun K hK => ?sb8)
      go_simp
      have hbd4 : Below wr.heap.size wr wr.drew := (Below.refl _ _).drew
      refine (powRR_any (hcall.later hbd4) hn2 hE).mono ?_
      rintro e w5 ⟨rv, rfl, qv, hb5⟩
      have Q5 := Lib.hid qv
      obtain ⟨m5, f1, l1, j1, f2, l2, j2, rfl⟩ := qv.shape
      clear qv
      go_simp
      have hB5 : Below w.heap.size w w5 := (hb.drew).trans (hb5.mono hsz)
      have hk5 : Kept r wr w5 := ((Kept.refl r wr).drew).below hb5
      refine hK.out _ _ (fun _ => mkS _ hk5) (fun hHeld2 => ?mb8)
      clear hK K hHeld
      have hHeld := hHeld2 (by decide)
      clear hHeld2
      try simp only [Act.put, List.setIfInBounds_toArray, List.set_cons_zero, List.set_cons_succ]
      refine wpAnyL_one (i := 9) (by kernel_rfl) rfl (fun K hK => ?sb9)
      go_simp
      refine hK.out _ _ (fun _ => mkS _ (hk5.alloc _)) (fun hHeld2 => ?mb9)
      clear hK K hHeld
      have hHeld := hHeld2 (by decide)
      clear hHeld2
      try simp only [Act.put, List.setIfInBounds_toArray, List.set_cons_zero, List.set_cons_succ]
      refine wpAnyL_one (i := 10) (by kernel_rfl) rfl (fun K hK => ?sb10)
      have hb5w : Below wr.heap.size wr w5 := (Below.refl _ wr).drew.trans hb5
      have hown5 : OwnE (w.heap.size) 56 w5 v es := hown.later hb5w
      have hall5 : AllE (fun v x => ResA w.heap.size w w5 v x (18 * n + 20)) es (LR.take k) := hall.imp fun u x _ h => h.later hb5w
      have hsz5 := hB5.size
      have hszb5 : w.heap.size ≤ w5.heap.size := Nat.le_trans hszb hb5w.size
      refine step_append_ownT rfl _ _ 34 rfl (w.heap.size) 56 i0 _ 3 56 Tryz.underlying34 hi hz0 hz1 hz2 rfl (by decide) _ es.length (flat3 es) rfl (hown5.later ((Below.refl _ _).alloc (Nat.le_refl _) _)) ⟨w5.heap.size, 0, none⟩ 1 1 [.bool m5, .slice f1 l1 j1, .slice f2 l2 j2] rfl rfl (cell_three_new _ _ _ _ _) (by simp [Value.oneCell']) (by unfold maxLen; omega) (by omega) (by simp; omega) ?_
      intro v' w6 hown' hgrow _
      obtain ⟨av, cv, rfl⟩ := ownT_slice hown'
      have hk6 : Kept r wr w6 := (hk5.alloc _).grown hgrow hrv
      refine hK.out _ _ (fun _ => mkS _ hk6) (fun hHeld2 => ?mb10)
      clear hK K hHeld
      have hHeld := hHeld2 (by decide)
      clear hHeld2
      try simp only [Act.put, List.setIfInBounds_toArray, List.set_cons_zero, List.set_cons_succ]
      refine wpAnyL_take (i := 11) (v := ?va11) rfl (by kernel_rfl) (by kernel_rfl) (by kernel_rfl) (by kernel_rfl) (fun _ _ _ h => h) (Or.inl ⟨by rfl, ?ha11⟩) (by assumption) ?ra11
      case ha11 =>
        intro w hSw
        try dsimp only at hSw
        go_simp
        try with_reducible rfl
      try simp only [Act.put, List.setIfInBounds_toArray, List.set_cons_zero, List.set_cons_succ]
      have RG6 := rg.kept hk6 ng
      have f21 := RG6.free 1
      have d21 := RG6.cell 1
      refine wpAnyL_one (i := 12) (by kernel_rfl) rfl (fun K hK => ?sb12)
      go_simp
      refine hK.out _ _ (fun h => absurd rfl h) (fun _ => ?mb12)
      clear hK K
      try simp only [Act.put, List.setIfInBounds_toArray, List.set_cons_zero, List.set_cons_succ]
      refine wpAnyL_done (by kernel_rfl) ?_ _
      go_wp2
      go_roundw
      case rel =>
        have hx5 : ResA w.heap.size w w5 (E3.agg ⟨.bool m5, .slice f1 l1 j1, .slice f2 l2 j2⟩) (q ^ E) (18 * n + 20) := .inl ((Q5.out.mono (by show w.heap.size ≤ wr.heap.size; exact hsz)).more (by omega))
        obtain ⟨hrow6, hb6⟩ := pushE2 (P := (fun W v x => ResA w.heap.size w W v x (18 * n + 20))) (e := ⟨.bool m5, .slice f1 l1 j1, .slice f2 l2 j2⟩) hB5 (by omega) hszb5 hown5 hall5 hx5 (fun u y h => ResA.apart hown5 hgrow (by decide) h) hown' hgrow
        rw [hle] at hrow6
        have rs6 : ResS w.heap.size w6 (.slice a3 s.length c3) s := ResS.apart hown5 hgrow (by decide) (rs.later hb5w)
        have hnext : LR.take (k + 1) = LR.take k ++ [q ^ E] := take_nextL (by rw [← HLR.out]; rw [List.getElem?_map, hqk]; rfl)
        refine ⟨k + 1, _, by go_num, by omega, (r0.kept hk6 n0).far (by show w.heap.size ≠ g; omega) _, (r1.kept hk6 n1).far (by show w.heap.size + 1 ≠ g; omega) _, RG6.set21 _, rs6.far RG6 (by decide) (kept1 _), ?_, hb6.setCell (by show w.heap.size ≤ g; omega) _⟩
        rw [hnext]
        exact hrow6.far RG6 (by decide) (kept1 _) (fun u y h => h.far RG6 (by decide) (kept1 _))
      case measure => simp [intOf]; omega
    · obtain rfl : k = L1.length := by omega
      have hltI : ¬ (L1.length : Int) < (L1.length : Int) := by omega
      rw [List.take_of_length_le (by have h := HRES.out; omega)] at hall
      obtain ⟨av, cv, rfl⟩ := ownT_slice hown
      have hel : es.length = L1.length := hle
      rw [hel] at rg hown
      have c20 := rg.cell 0
      have d21 := rg.cell 1
      have f10 := r1.free 0
      have f11 := r1.free 1
      have g10 := r1.cell 0
      have g11 := r1.cell 1
      have RRs := r1.set2 (.slice a3 s.length c3) (.slice av L1.length cv)
      obtain ⟨z0, z1, _, _⟩ := RRs.two
      have HOWN := Lib.hid hown
      have HALL := Lib.hid hall
      have HRR := Lib.hid r1
      clear hown hall hle RRs r1
      go_wp2
      have hbE := below_set2 hb (show w.heap.size ≤ w.heap.size + 1 by omega) (.slice a3 s.length c3) (.slice av L1.length cv)
      have hsE : ResS w.heap.size _ (.slice a3 s.length c3) s := rs.far HRR.out (by decide) (kept2 (.slice a3 s.length c3) (.slice av L1.length cv))
      have hrE := RowO.far (P := (fun W v x => ResA w.heap.size w W v x (18 * n + 20))) ⟨es, HOWN.out, HALL.out⟩ HRR.out (by decide) (kept2 (.slice a3 s.length c3) (.slice av L1.length cv)) (fun u y h => h.far HRR.out (by decide) (kept2 _ _))
      exact bodyPost_ret (v := .tuple #[.agg #[.slice a3 s.length c3, .slice av L1.length cv], .int .i64 0]) (by simp [results, Tryz.results33, go_sem, z0, z1]) rfl ⟨_, rfl, tenR_of HRES.out.symm hbE hsE (hrE.mono (by omega) (fun v x h => h)), hbE⟩
set_option maxRecDepth 100000 in
set_option maxHeartbeats 8000000 in
theorem powT_bad {n : Nat} {w : World} {v : Value} {s : List Int} {L1 : List Rat} {a b : Option Addr} {ca cb : Nat} {k : Int} (T : TensR w v s L1 n a ca b cb) (hk : k < 0 ∨ 16 < k) :
    Calls Tryz.prog 33 #[v, .int .i64 k] w fun e w' => e = .returned (.tuple #[noTensor, .int .i64 11]) ∧ Below w.heap.size w w' := by
  obtain rfl := T.is
  obtain ⟨W, hW⟩ : ∃ W, ((w.alloc (.cells #[.slice a s.length ca, .slice b L1.length cb] 36)).alloc (.cells #[.slice none 0 0, .slice none 0 0] 36)) = W := ⟨_, rfl⟩
  have R0 : Row W (w.heap.size) 36 #[.slice a s.length ca, .slice b L1.length cb] := by rw [← hW]; have h := Row.new w 36 #[.slice a s.length ca, .slice b L1.length cb]; (try simp only [World.size_alloc] at h); exact (h.alloc _)
  have R1 : Row W (w.heap.size + 1) 36 #[.slice none 0 0, .slice none 0 0] := by rw [← hW]; have h := Row.new (w.alloc (.cells #[.slice a s.length ca, .slice b L1.length cb] 36)) 36 #[.slice none 0 0, .slice none 0 0]; (try simp only [World.size_alloc] at h); exact h
  have hBW : Below w.heap.size w W := by rw [← hW]; exact (((Below.refl _ _).alloc (by (try simp) <;> omega) _).alloc (by (try simp) <;> omega) _)
  have hsW : W.heap.size = w.heap.size + 1 + 1 := by rw [← hW]; simp
  obtain ⟨u0, u1, g0, g1⟩ := R1.two
  have R1s := R1.set2 (.slice none 0 0) (.slice none 0 0)
  obtain ⟨z0, z1, _, _⟩ := R1s.two
  by_cases h : k < 0
  · go_enter Tryz.func33, Tryz.ntmps33
    (try rw [hW])
    go_wp2_with fail
    refine bodyPost_ret (v := .tuple #[noTensor, .int .i64 11]) (by simp [results, Tryz.results33, go_sem, z0, z1, noTensor]) rfl ⟨rfl, below_set2 hBW (by omega) _ _⟩
  · have h2 : k > 16 := by omega
    go_enter Tryz.func33, Tryz.ntmps33
    (try rw [hW])
    go_wp2_with fail
    refine bodyPost_ret (v := .tuple #[noTensor, .int .i64 11]) (by simp [results, Tryz.results33, go_sem, z0, z1, noTensor]) rfl ⟨rfl, below_set2 hBW (by omega) _ _⟩
end Go.Proofs.YtjcacmnmbbnffaaGreat
