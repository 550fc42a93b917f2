/-
  The laws of layer 7: whole. (Made by wip/gen/gen_twhole.py.)
-/
import Derived.Test.YtnhfjacifajdlaaGreatTFull
namespace Go.Proofs.YtnhfjacifajdlaaGreat
open Go.RowKit
set_option linter.unusedVariables false
set_option linter.unusedSimpArgs false

set_option maxRecDepth 100000 in
set_option maxHeartbeats 4000000 in
theorem intRR_any (k : Int) (w : World) (h0 : -9223372036854775808 ≤ k) (h1 : k ≤ 9223372036854775807) :
    Calls Tryz.prog 51 #[.int .i64 k] w fun e w' => ∃ r, e = .returned r ∧ ResR w.heap.size w' r (intQ k) 6 ∧ Below w.heap.size w w' := by
  obtain ⟨i1, i2, i3⟩ := intQ_parts k
  obtain ⟨m1, hm1⟩ : ∃ m, decide (k < 0) = m := ⟨_, rfl⟩
  rw [hm1] at i1
  have I1 := Lib.hid i1
  have I2 := Lib.hid i2
  have I3 := Lib.hid i3
  clear i1 i2 i3
  obtain ⟨W, hW⟩ : ∃ W, (w.alloc (.cells #[.bool false, .slice none 0 0, .slice none 0 0] 50)) = W := ⟨_, rfl⟩
  have R0 : Row W (w.heap.size) 50 #[.bool false, .slice none 0 0, .slice none 0 0] := by rw [← hW]; exact (Row.new _ _ _)
  have hBW : Below w.heap.size w W := by rw [← hW]; exact ((Below.refl _ _).alloc (by (try simp) <;> omega) _)
  have hsW : w.heap.size + 1 ≤ W.heap.size := by rw [← hW]; simp
  go_enter Tryz.func51, Tryz.ntmps51
  go_wp2_with fail
  refine (sizeR_any k _ h0 h1).mono ?_
  rintro e w1 ⟨r1, rfl, z1, q1, l1, hb1⟩
  have hs1 := hb1.size
  obtain ⟨ad1, cp1, rfl, q1, A1⟩ := q1.slice
  have v1 : valD z1 = (((intQ k).num.natAbs : Nat) : Int) := by rw [q1.eq, I2.out]
  have V1 := Lib.hid v1
  have hb2 : Below w1.heap.size w1 (w1.alloc (.cells #[.int .i64 1] 3)) := (Below.refl _ _).alloc (Nat.le_refl _) _
  have L := digit_lit (Row.new w1 3 #[.int .i64 1]) (by omega)
  have P2 := (R0.later hb1).later hb2
  have A2 := A1.later hb2
  have Q1 := Lib.hid q1
  clear v1 q1 hW
  obtain ⟨q0, q1, q2, h0', h1', h2'⟩ := (R0.later hb1).three
  obtain ⟨u0, u1, u2, g0, g1, g2⟩ := P2.three
  go_wp2_with fail
  refine bodyPost_ret (v := .agg #[.bool m1, .slice ad1 z1.length cp1, .slice (some ⟨w1.heap.size, 0, none⟩) 1 1]) (by simp [results, Tryz.results51, go_sem, u0, u1, u2]) rfl ⟨_, rfl, ⟨z1, [1], ad1, some ⟨w1.heap.size, 0, none⟩, cp1, 1, by rw [I1.out]; rfl, ?_, ?_, l1, by simp⟩, ?_⟩
  · exact (((Q1.out.mono (by omega)).later hb2).far P2 (by decide) (kept3 _ _ _)).eqTo V1.out
  · rw [I3.out]; exact (ResD.one w1 (by omega)).far P2 (by decide) (kept3 _ _ _)
  · exact below_set3 ((hBW.trans (hb1.mono (by omega))).trans (hb2.mono (by omega))) (by omega) _ _ _

/-- a tensor as it is answered -/
def ResT (base : Nat) (w : World) (v : Value) (s : List Int) (L : List Rat) (m : Nat) : Prop :=
  ∃ (a b : Option Addr) (ca cb : Nat), v = .agg #[.slice a s.length ca, .slice b L.length cb] ∧ ResS base w (.slice a s.length ca) s ∧ RowO base 44 (fun W v x => ResQ base W v x m) w (.slice b L.length cb) L
theorem ResT.later {base : Nat} {w w' : World} {v : Value} {s : List Int} {L : List Rat} {m : Nat} (h : ResT base w v s L m) (hb : Below w.heap.size w w') : ResT base w' v s L m := by
  obtain ⟨a, b, ca, cb, rfl, h1, h2⟩ := h
  exact ⟨a, b, ca, cb, rfl, h1.later hb, h2.later hb (fun v x h => h.later hb)⟩
theorem ResT.mono {base base' : Nat} {w : World} {v : Value} {s : List Int} {L : List Rat} {m : Nat} (h : ResT base w v s L m) (hb : base' ≤ base) : ResT base' w v s L m := by
  obtain ⟨a, b, ca, cb, rfl, h1, h2⟩ := h
  exact ⟨a, b, ca, cb, rfl, h1.mono hb, h2.mono hb (fun v x h => h.mono hb)⟩
theorem ResT.far {base : Nat} {w w' : World} {v : Value} {s : List Int} {L : List Rat} {m g : Nat} {t : TypeId} {cs : Array Value} (h : ResT base w v s L m) (R : Row w g t cs) (h1 : t ≠ 3) (h2 : t ≠ 112) (h3 : t ≠ 44) (hk : ∀ k, k ≠ g → w'.heap[k]? = w.heap[k]?) : ResT base w' v s L m := by
  obtain ⟨a, b, ca, cb, rfl, k1, k2⟩ := h
  exact ⟨a, b, ca, cb, rfl, k1.far R h1 hk, k2.far R h3 hk (fun v x h => h.far R h2 hk)⟩

set_option maxRecDepth 100000 in
set_option maxHeartbeats 4000000 in
theorem whole_any {w : World} {u v : Value} {s xs : List Int} {a b : Option Addr} {ca cb : Nat} (A : ArgS w u s a ca) (na : a = none → ca = 0) (B : ArgS w v xs b cb) (hs : s.length ≤ 1000) (hq : xs.length ≤ 1000) :
    Calls Tryz.prog 49 #[u, v] w fun e w' => ∃ r, e = .returned r ∧ ResT w.heap.size w' r s (xs.map intQ) 6 ∧ Below w.heap.size w w' := by
  obtain ⟨i0, hi, hz0, hz1, hz2⟩ := info_parts infoR
  have HA := Lib.hid A
  have NA := Lib.hid na
  have HB := Lib.hid B
  obtain rfl := A.is
  obtain rfl := B.is
  clear A na B
  go_enter Tryz.func49, Tryz.ntmps49
  go_wp2
  have R1 : Row ((w.alloc (.cells #[.slice none 0 0, .slice none 0 0] 26)).alloc (.cells #[.slice a s.length ca, .slice none 0 0] 39)) w.heap.size 26 #[.slice none 0 0, .slice none 0 0] := (Row.new _ _ _).alloc _
  have R2 : Row ((w.alloc (.cells #[.slice none 0 0, .slice none 0 0] 26)).alloc (.cells #[.slice a s.length ca, .slice none 0 0] 39)) (w.heap.size + 1) 39 #[.slice a s.length ca, .slice none 0 0] := by have h := (Row.new (w.alloc (.cells #[.slice none 0 0, .slice none 0 0] 26)) 39 #[.slice a s.length ca, .slice none 0 0]); simp only [World.size_alloc] at h; exact h
  have hBW : Below w.heap.size w ((w.alloc (.cells #[.slice none 0 0, .slice none 0 0] 26)).alloc (.cells #[.slice a s.length ca, .slice none 0 0] 39)) := ((Below.refl _ _).alloc (by simp) _).alloc (by simp) _
  have H1 := Lib.hid R1
  have H2 := Lib.hid R2
  have HBW := Lib.hid hBW
  clear R1 R2 hBW
  go_loopw [6] (fun i wr => ∃ (k : Nat) (v : Value), i = .int .i64 (k : Int) ∧ k ≤ xs.length ∧ Row wr w.heap.size 26 #[.slice none 0 0, .slice none 0 0] ∧
    Row wr (w.heap.size + 1) 39 #[.slice a s.length ca, v] ∧ RowO w.heap.size 50 (fun W v x => ResR w.heap.size W v x 6) wr v ((xs.take k).map intQ) ∧ Below w.heap.size w wr) (fun i _ => xs.length - (intOf i).toNat)
  case atStart => exact ⟨0, _, rfl, Nat.zero_le _, H1.out, H2.out, RowO.nil _ _ _ _, HBW.out⟩
  case round =>
    obtain ⟨k, v, rfl, hk, r1, r2, ⟨es, hown, hall⟩, hb⟩ := hrel
    have hsz := hb.size
    have hlt2 := r2.lt
    have c21 := r2.cell 1
    have hle : es.length = k := by rw [hall.1]; simp [hk]
    by_cases hlt : k < xs.length
    · obtain ⟨bb, o, hbo, hc⟩ := (HB.out.later hb).at hlt
      have hc0 := (HB.out.at hlt)
      have hqk := getD_some hlt
      have hwx := HB.out.wf.getD k
      obtain ⟨x, hxe⟩ : ∃ x, xs.getD k 0 = x := ⟨_, rfl⟩
      rw [hxe] at hc hqk hwx hc0
      have hb0 : bb < w.heap.size := by
        obtain ⟨b', o', e', h'⟩ := hc0
        rw [hbo] at e'
        cases e'
        exact World.block_lt_of_cell? w _ h'
      obtain ⟨hx0, hx1⟩ := hwx
      subst hbo
      obtain ⟨r, hrv, hrb, hrne⟩ := hown.hits hsz
      have n2 := hrne _ _ _ r2 (by decide)
      have n1 := hrne _ _ _ r1 (by decide)
      have mkS : ∀ X, Kept r wr X → X.cell? ⟨w.heap.size + 1, 1, none⟩ = some v ∧ X.cell? ⟨bb, o + k, none⟩ = some (.int .i64 x) ∧ Kept r wr X := fun X h => ⟨h.cell c21 n2, h.cell hc (by show bb ≠ r; omega), h⟩
      have hltI : (k : Int) < (xs.length : Int) := by omega
      have hS0 := mkS wr.drew ((Kept.refl r wr).drew)
      have HQK := Lib.hid hqk
      clear hc0 hxe hqk
      go_wp2_with fail
      refine wp_region_L (S := (fun X => X.cell? ⟨w.heap.size + 1, 1, none⟩ = some v ∧ X.cell? ⟨bb, o + k, none⟩ = some (.int .i64 x) ∧ Kept r wr X)) (z := 10) (by kernel_rfl) hS0 (fun hHeld => ?_)
      refine wpAnyL_take (i := 0) (v := ?va0) rfl (by kernel_rfl) (by kernel_rfl) (by kernel_rfl) (by kernel_rfl) (fun _ _ _ h => h) (Or.inl ⟨by rfl, ?ha0⟩) (by assumption) ?ra0
      case ha0 =>
        intro w hSw
        try dsimp only at hSw
        go_simp
        try with_reducible rfl
      try simp only [Act.put, List.setIfInBounds_toArray, List.set_cons_zero, List.set_cons_succ]
      refine wpAnyL_take (i := 1) (v := ?va1) rfl (by kernel_rfl) (by kernel_rfl) (by kernel_rfl) (by kernel_rfl) (fun _ _ _ h => h) (Or.inl ⟨by rfl, ?ha1⟩) (by assumption) ?ra1
      case ha1 =>
        intro w hSw
        try dsimp only at hSw
        go_simp
        try with_reducible rfl
      try simp only [Act.put, List.setIfInBounds_toArray, List.set_cons_zero, List.set_cons_succ]
      refine wpAnyL_take (i := 2) (v := ?va2) rfl (by kernel_rfl) (by kernel_rfl) (by kernel_rfl) (by kernel_rfl) (fun _ _ _ h => h) (Or.inl ⟨by rfl, ?ha2⟩) (by assumption) ?ra2
      case ha2 =>
        intro w hSw
        try dsimp only at hSw
        go_simp
        try with_reducible rfl
      try simp only [Act.put, List.setIfInBounds_toArray, List.set_cons_zero, List.set_cons_succ]
      refine wpAnyL_take (i := 3) (v := ?va3) rfl (by kernel_rfl) (by kernel_rfl) (by kernel_rfl) (by kernel_rfl) (fun _ _ _ h => h) (Or.inl ⟨by rfl, ?ha3⟩) (by assumption) ?ra3
      case ha3 =>
        intro w hSw
        try dsimp only at hSw
        go_simp
        try with_reducible rfl
      try simp only [Act.put, List.setIfInBounds_toArray, List.set_cons_zero, List.set_cons_succ]
      refine wpAnyL_take (i := 4) (v := ?va4) rfl (by kernel_rfl) (by kernel_rfl) (by kernel_rfl) (by kernel_rfl) (fun _ _ _ h => h) (Or.inl ⟨by rfl, ?ha4⟩) (by assumption) ?ra4
      case ha4 =>
        intro w hSw
        try dsimp only at hSw
        go_simp
        try with_reducible rfl
      try simp only [Act.put, List.setIfInBounds_toArray, List.set_cons_zero, List.set_cons_succ]
      refine wpAnyL_take (i := 5) (v := ?va5) rfl (by kernel_rfl) (by kernel_rfl) (by kernel_rfl) (by kernel_rfl) (fun _ _ _ h => h) (Or.inl ⟨by rfl, ?ha5⟩) (by assumption) ?ra5
      case ha5 =>
        intro w hSw
        try dsimp only at hSw
        go_simp
        try with_reducible rfl
      try simp only [Act.put, List.setIfInBounds_toArray, List.set_cons_zero, List.set_cons_succ]
      refine wpAnyL_one (i := 6) (by kernel_rfl) rfl (fun K hK => ?sb6)
      go_simp
      refine (intRR_any x _ hx0 hx1).mono ?_
      rintro e w5 ⟨rv, rfl, qv, hb5⟩
      have Q5 := Lib.hid qv
      obtain ⟨m5, f1, l1, j1, f2, l2, j2, rfl⟩ := qv.shape
      clear qv
      go_simp
      have hB5 : Below w.heap.size w w5 := (hb.drew).trans (hb5.mono hsz)
      have hk5 : Kept r wr w5 := ((Kept.refl r wr).drew).below hb5
      refine hK.out _ _ (fun _ => mkS _ hk5) (fun hHeld2 => ?mb6)
      clear hK K hHeld
      have hHeld := hHeld2 (by decide)
      clear hHeld2
      try simp only [Act.put, List.setIfInBounds_toArray, List.set_cons_zero, List.set_cons_succ]
      refine wpAnyL_one (i := 7) (by kernel_rfl) rfl (fun K hK => ?sb7)
      go_simp
      refine hK.out _ _ (fun _ => mkS _ (hk5.alloc _)) (fun hHeld2 => ?mb7)
      clear hK K hHeld
      have hHeld := hHeld2 (by decide)
      clear hHeld2
      try simp only [Act.put, List.setIfInBounds_toArray, List.set_cons_zero, List.set_cons_succ]
      refine wpAnyL_one (i := 8) (by kernel_rfl) rfl (fun K hK => ?sb8)
      have hb5w : Below wr.heap.size wr w5 := (Below.refl _ wr).drew.trans hb5
      have hown5 : OwnE w.heap.size 50 w5 v es := hown.later hb5w
      have hall5 : AllE (fun v x => ResR w.heap.size w5 v x 6) es ((xs.take k).map intQ) := hall.imp fun u x _ h => h.later hb5w
      have hsz5 := hB5.size
      refine step_append_ownT rfl _ _ 37 rfl w.heap.size 50 i0 _ 3 56 Tryz.underlying37 hi hz0 hz1 hz2 rfl (by decide) _ es.length (flat3 es) rfl (hown5.later ((Below.refl _ _).alloc (Nat.le_refl _) _)) ⟨w5.heap.size, 0, none⟩ 1 1 [.bool m5, .slice f1 l1 j1, .slice f2 l2 j2] rfl rfl (cell_three_new _ _ _ _ _) (by simp [Value.oneCell']) (by unfold maxLen; omega) (by omega) (by simp; omega) ?_
      intro v' w6 hown' hgrow _
      obtain ⟨av, cv, rfl⟩ := ownT_slice hown'
      have hk6 : Kept r wr w6 := (hk5.alloc _).grown hgrow hrv
      refine hK.out _ _ (fun _ => mkS _ hk6) (fun hHeld2 => ?mb8)
      clear hK K hHeld
      have hHeld := hHeld2 (by decide)
      clear hHeld2
      try simp only [Act.put, List.setIfInBounds_toArray, List.set_cons_zero, List.set_cons_succ]
      refine wpAnyL_take (i := 9) (v := ?va9) rfl (by kernel_rfl) (by kernel_rfl) (by kernel_rfl) (by kernel_rfl) (fun _ _ _ h => h) (Or.inl ⟨by rfl, ?ha9⟩) (by assumption) ?ra9
      case ha9 =>
        intro w hSw
        try dsimp only at hSw
        go_simp
        try with_reducible rfl
      try simp only [Act.put, List.setIfInBounds_toArray, List.set_cons_zero, List.set_cons_succ]
      have R26 := r2.kept hk6 n2
      have f21 := R26.free 1
      have d21 := R26.cell 1
      refine wpAnyL_one (i := 10) (by kernel_rfl) rfl (fun K hK => ?sb10)
      go_simp
      refine hK.out _ _ (fun h => absurd rfl h) (fun _ => ?mb10)
      clear hK K
      try simp only [Act.put, List.setIfInBounds_toArray, List.set_cons_zero, List.set_cons_succ]
      refine wpAnyL_done (by kernel_rfl) ?_ _
      go_wp2
      go_roundw
      case rel =>
        have hx5 : ResR w.heap.size w5 (E3.agg ⟨.bool m5, .slice f1 l1 j1, .slice f2 l2 j2⟩) (intQ x) 6 := Q5.out.mono (by show w.heap.size ≤ wr.heap.size; exact hsz)
        obtain ⟨hrow6, hb6⟩ := pushE (P := fun W v x => ResR w.heap.size W v x 6) (e := ⟨.bool m5, .slice f1 l1 j1, .slice f2 l2 j2⟩) hB5 hsz5 hown5 hall5 hx5 (fun u y h => ResR.apart hown5 hgrow (by decide) h) hown' hgrow
        rw [hle] at hrow6
        have r16 := r1.kept hk6 n1
        refine ⟨k + 1, _, by go_num, by omega, r16.far (by show w.heap.size ≠ w.heap.size + 1; omega) _, R26.set21 _, ?_, hb6.setCell (by show w.heap.size ≤ w.heap.size + 1; omega) _⟩
        rw [take_nextL HQK.out, List.map_append]
        exact hrow6.far R26 (by decide) (kept1 _) (fun u y h => h.far R26 (by decide) (kept1 _))
      case measure => simp [intOf]; omega
    · obtain rfl : k = xs.length := by omega
      have hltI : ¬ (xs.length : Int) < (xs.length : Int) := by omega
      rw [List.take_length] at hall
      obtain ⟨av, cv, rfl⟩ := ownT_slice hown
      rw [hle] at r2 hown
      have fE : RowO w.heap.size 50 (fun W v x => ResR w.heap.size W v x 6) wr (.slice av xs.length cv) (xs.map intQ) := ⟨es, hown, hall⟩
      have fT := fE.at_
      have TT : TensR wr (.agg #[.slice a s.length ca, .slice av xs.length cv]) s (xs.map intQ) 6 a ca av cv := ⟨by rw [List.length_map], HA.out.later hb, NA.out, by rw [List.length_map]; exact fT.2.1.imp (fun v x _ h => h.arg), fT.2.2⟩
      have hback := backT_any TT (by omega) (by rw [List.length_map]; omega) (by omega)
      have c20 := r2.cell 0
      have d21 := r2.cell 1
      have HR1 := Lib.hid r1
      clear hown hall hle fE fT TT c21
      go_wp2_with (go_at_call 84; refine hback.mono ?_; rintro e w7 ⟨fa, fb, fca, fcb, rfl, fS, fO, hb7⟩; simp only [List.length_map] at fO; have R17 := HR1.out.later hb7; obtain ⟨c10, c11, g10, g11⟩ := R17.two; have R1s := R17.set2 (.slice fa s.length fca) (.slice fb xs.length fcb); obtain ⟨zz0, zz1, _, _⟩ := R1s.two; have HFS := Lib.hid fS; have HFO := Lib.hid fO; have HR17 := Lib.hid R17; clear fS fO R1s R17)
      have hB7 : Below w.heap.size w w7 := hb.trans (hb7.mono hsz)
      have hT7 : ResT w.heap.size w7 (.agg #[.slice fa s.length fca, .slice fb xs.length fcb]) s (xs.map intQ) 6 := ⟨fa, fb, fca, fcb, by rw [List.length_map], HFS.out.mono hsz, by rw [List.length_map]; exact HFO.out.mono hsz (fun v x h => h.mono hsz)⟩
      refine bodyPost_ret (v := .agg #[.slice fa s.length fca, .slice fb xs.length fcb]) (by simp [results, Tryz.results49, go_sem, zz0, zz1]) rfl ⟨_, rfl, ?_, ?_⟩
      · exact hT7.far HR17.out (by decide) (by decide) (by decide) (kept2 _ _)
      · exact below_set2 hB7 (Nat.le_refl _) _ _
end Go.Proofs.YtnhfjacifajdlaaGreat
