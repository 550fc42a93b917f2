/-
  The reference of layer 8: shaped, Neg. (Made by wip/gen/gen_pref.py.)
-/
import Derived.Test.YtjcacmnmbbnffaaGreatPRat
import Derived.Test.YtjcacmnmbbnffaaGreatE6
namespace Go.Proofs.YtjcacmnmbbnffaaGreat
open Go.RowKit
set_option linter.unusedVariables false
set_option linter.unusedSimpArgs false

/-- a number of the reference: in new memory, or in what was handed in -/
def ResA (base : Nat) (w0 W : World) (v : Value) (x : Rat) (n : Nat) : Prop := ResR base W v x n ∨ ArgR w0 v x n
theorem ResA.later {base n : Nat} {w0 W W' : World} {v : Value} {x : Rat} (h : ResA base w0 W v x n) (hb : Below W.heap.size W W') : ResA base w0 W' v x n := h.imp (fun h => h.later hb) id
theorem ResA.far {base n g : Nat} {w0 W W' : World} {v : Value} {x : Rat} {t : TypeId} {cs : Array Value} (h : ResA base w0 W v x n) (R : Row W g t cs) (ht : t ≠ 3) (hk : ∀ k, k ≠ g → W'.heap[k]? = W.heap[k]?) : ResA base w0 W' v x n := h.imp (fun h => h.far R ht hk) id
theorem ResA.apart {base base' n : Nat} {T : TypeId} {w0 w w' : World} {v u : Value} {es : List E3} {x : Rat} {o : Obj} (h : OwnE base T w v es) (hg : (w.alloc o).grownBy w' v.ownBlock) (hT : T ≠ 3) (k : ResA base' w0 w u x n) : ResA base' w0 w' u x n := k.imp (fun k => ResR.apart h hg hT k) id
theorem ResA.arg {base n : Nat} {w0 W : World} {v : Value} {x : Rat} (h : ResA base w0 W v x n) (hb : Below w0.heap.size w0 W) : ArgR W v x n := h.elim (fun h => h.arg) (fun h => h.later hb)
theorem ArgR.shape {w : World} {v : Value} {x : Rat} {n : Nat} (h : ArgR w v x n) : ∃ m a1 n1 c1 a2 n2 c2, v = .agg #[.bool m, .slice a1 n1 c1, .slice a2 n2 c2] := by
  obtain ⟨_, _, _, _, _, _, rfl, _⟩ := h
  exact ⟨_, _, _, _, _, _, _, rfl⟩
/-- a tensor of the reference, wherever it lies -/
def TenR (w : World) (v : Value) (s : List Int) (L : List Rat) (n : Nat) : Prop := ∃ a ca b cb, TensR w v s L n a ca b cb
theorem TenR.later {w w' : World} {v : Value} {s : List Int} {L : List Rat} {n : Nat} (h : TenR w v s L n) (hb : Below w.heap.size w w') : TenR w' v s L n := by
  obtain ⟨a, ca, b, cb, h⟩ := h
  exact ⟨a, ca, b, cb, h.later hb⟩
theorem pushE2 {α : Type} {B base : Nat} {T : TypeId} {P : World → Value → α → Prop} {w wr w1 : World} {v v' : Value} {es : List E3} {L : List α} {e : E3} {x : α} {o : Obj} (hb : Below B w wr) (hB : B ≤ base) (hbase : base ≤ wr.heap.size)
    (hown : OwnE base T wr v es) (hall : AllE (P wr) es L) (hx : P wr e.agg x) (hst : ∀ u y, P wr u y → P w1 u y)
    (hown' : w1.ownsRow base T 3 v' (es.length + 1) (flat3 es ++ [e.a, e.b, e.c])) (hgrow : (wr.alloc o).grownBy w1 v.ownBlock) : RowO base T P w1 v' (L ++ [x]) ∧ Below B w w1 := by
  refine ⟨⟨es ++ [e], ?_, (hall.snoc hx).imp fun u y _ => hst u y⟩, (hb.alloc (Nat.le_trans hB hbase) o).grown hgrow (by simp; omega) (fun k hk => Nat.le_trans hB (hown.lt k hk).1)⟩
  unfold OwnE
  rw [List.length_append, flat3_append]
  exact hown'
/-- what a loop has made, as a tensor -/
theorem tenR_of {base n m : Nat} {w0 w : World} {a b : Option Addr} {ca cb : Nat} {s : List Int} {L : List Rat} (hm : m = L.length) (hb : Below w0.heap.size w0 w) (S : ResS base w (.slice a s.length ca) s) (E : RowO base 56 (fun W v x => ResA base w0 W v x n) w (.slice b m cb) L) :
    TenR w (.agg #[.slice a s.length ca, .slice b m cb]) s L n := by
  subst hm
  exact ⟨a, ca, b, cb, rfl, S.at_.2.1, S.at_.2.2, E.at_.2.1.imp (fun v x _ h => h.arg hb), E.at_.2.2⟩
set_option maxRecDepth 100000 in
set_option maxHeartbeats 8000000 in
theorem shapedR_any {n : Nat} {w : World} {v : Value} {s : List Int} {L : List Rat} {a b : Option Addr} {ca cb : Nat} (T : TensR w v s L n a ca b cb) (hs : s.length ≤ 17592186044416) :
    Calls Tryz.prog 52 #[v] w fun e w' => ∃ a' ca', e = .returned (.agg #[.slice a' s.length ca', .slice none 0 0]) ∧ ResS w.heap.size w' (.slice a' s.length ca') s ∧ Below w.heap.size w w' := by
  have HT := Lib.hid T
  obtain rfl := T.is
  obtain ⟨W, hW⟩ : ∃ W, ((w.alloc (.cells #[.slice a s.length ca, .slice b L.length cb] 36)).alloc (.cells #[.slice none 0 0, .slice none 0 0] 36)) = W := ⟨_, rfl⟩
  have R0 : Row W (w.heap.size) 36 #[.slice a s.length ca, .slice b L.length cb] := by rw [← hW]; have h := Row.new w 36 #[.slice a s.length ca, .slice b L.length cb]; (try simp only [World.size_alloc] at h); exact (h.alloc _)
  have R1 : Row W (w.heap.size + 1) 36 #[.slice none 0 0, .slice none 0 0] := by rw [← hW]; have h := Row.new (w.alloc (.cells #[.slice a s.length ca, .slice b L.length cb] 36)) 36 #[.slice none 0 0, .slice none 0 0]; (try simp only [World.size_alloc] at h); exact h
  have hBW : Below w.heap.size w W := by rw [← hW]; exact (((Below.refl _ _).alloc (by (try simp) <;> omega) _).alloc (by (try simp) <;> omega) _)
  have hsW : W.heap.size = w.heap.size + 1 + 1 := by rw [← hW]; simp
  have AW := HT.out.sh.later hBW
  have nA := HT.out.nila
  have NA := Lib.hid nA
  obtain ⟨p0, p1, _, _⟩ := R0.two
  clear T nA
  go_enter Tryz.func52, Tryz.ntmps52
  (try rw [hW])
  go_wp2_with (at_builtin; refine step_copyT rfl _ 22 22 Tryz.underlying22 Tryz.underlying22 rfl rfl AW NA.out hs ?_; intro ro w3 R3 hb3; obtain ⟨a3, c3, rfl, R3', A3, n3⟩ := R3.slice; have P3 := R1.later hb3; obtain ⟨u0, u1, g0, g1⟩ := P3.two)
  have P4 := P3.set2 (.slice a3 s.length c3) (.slice none 0 0)
  obtain ⟨z0, z1, _, _⟩ := P4.two
  refine bodyPost_ret (v := .agg #[.slice a3 s.length c3, .slice none 0 0]) (by simp [results, Tryz.results52, go_sem, z0, z1]) rfl ⟨_, _, rfl, ?_, below_set2 (hBW.trans (hb3.mono (by omega))) (by omega) _ _⟩
  exact (R3'.mono (by omega)).far P3 (by decide) (kept2 _ _)
set_option maxRecDepth 100000 in
set_option maxHeartbeats 8000000 in
theorem negT_any {n : Nat} {w : World} {v : Value} {s : List Int} {L1 : List Rat} {a b : Option Addr} {ca cb : Nat} (T : TensR w v s L1 n a ca b cb) (hs : s.length ≤ 17592186044416) (hq : L1.length ≤ 1000000) (hn : n ≤ 1000000) :
    Calls Tryz.prog 28 #[v] w fun e w' => ∃ r, e = .returned r ∧ TenR w' r s (L1.map fun x => -x) n ∧ Below w.heap.size w w' := by
  obtain ⟨i0, hi, hz0, hz1, hz2⟩ := info_parts infoR
  have HT := Lib.hid T
  obtain rfl := T.is
  have hres : (L1.map fun x => -x).length = L1.length := by simp
  obtain ⟨LR, hLR⟩ : ∃ LR, (L1.map fun x => -x) = LR := ⟨_, rfl⟩
  rw [hLR] at hres ⊢
  have HLR := Lib.hid hLR
  have HRES := Lib.hid hres
  clear hLR hres
  obtain ⟨W, hW⟩ : ∃ W, ((w.alloc (.cells #[.slice a s.length ca, .slice b L1.length cb] 36)).alloc (.cells #[.slice none 0 0, .slice none 0 0] 36)) = W := ⟨_, rfl⟩
  have R0 : Row W (w.heap.size) 36 #[.slice a s.length ca, .slice b L1.length cb] := by rw [← hW]; have h := Row.new w 36 #[.slice a s.length ca, .slice b L1.length cb]; (try simp only [World.size_alloc] at h); exact (h.alloc _)
  have R1 : Row W (w.heap.size + 1) 36 #[.slice none 0 0, .slice none 0 0] := by rw [← hW]; have h := Row.new (w.alloc (.cells #[.slice a s.length ca, .slice b L1.length cb] 36)) 36 #[.slice none 0 0, .slice none 0 0]; (try simp only [World.size_alloc] at h); exact h
  have hBW : Below w.heap.size w W := by rw [← hW]; exact (((Below.refl _ _).alloc (by (try simp) <;> omega) _).alloc (by (try simp) <;> omega) _)
  have hsW : W.heap.size = w.heap.size + 1 + 1 := by rw [← hW]; simp
  have hshp := shapedR_any (HT.out.later hBW) hs
  obtain ⟨p0, p1, _, _⟩ := R0.two
  clear T 
  go_enter Tryz.func28, Tryz.ntmps28
  (try rw [hW])
  go_wp2_with fail
  refine hshp.mono ?_
  rintro e w3 ⟨a3, c3, rfl, R3', hb3⟩
  go_wp2_with fail
  have hs3 := hb3.size
  have hB3 : Below w.heap.size w w3 := hBW.trans (hb3.mono (by omega))
  have hB4 : Below w.heap.size w (w3.alloc (.cells #[.slice a3 s.length c3, .slice none 0 0] 36)) := hB3.alloc (by omega) _
  have r0 := (R0.later hb3).alloc (.cells #[.slice a3 s.length c3, .slice none 0 0] 36)
  have r1 := (R1.later hb3).alloc (.cells #[.slice a3 s.length c3, .slice none 0 0] 36)
  have rg := Row.new w3 36 #[.slice a3 s.length c3, .slice none 0 0]
  have rs : ResS w.heap.size (w3.alloc (.cells #[.slice a3 s.length c3, .slice none 0 0] 36)) (.slice a3 s.length c3) s := (R3'.mono (by omega)).later ((Below.refl _ _).alloc (Nat.le_refl _) _)
  obtain ⟨g, hg⟩ : ∃ g, w3.heap.size = g := ⟨_, rfl⟩
  have hg2 : w.heap.size + 1 + 1 ≤ g := by omega
  rw [hg] at rg ⊢
  generalize w3.alloc (.cells #[.slice a3 s.length c3, .slice none 0 0] 36) = W4 at *
  have H0 := Lib.hid r0
  have H1 := Lib.hid r1
  have HG := Lib.hid rg
  have HS := Lib.hid rs
  have HB4 := Lib.hid hB4
  clear rg rs hB4 hB3 hb3 hs3 R3' hshp p0 p1 hsW hg hW hBW r0 R0 r1 R1
  go_loopw [4] (fun i wr => ∃ (k : Nat) (v : Value), i = .int .i64 (k : Int) ∧ k ≤ L1.length ∧ Row wr (w.heap.size) 36 #[.slice a s.length ca, .slice b L1.length cb] ∧ Row wr (w.heap.size + 1) 36 #[.slice none 0 0, .slice none 0 0] ∧
    Row wr g 36 #[.slice a3 s.length c3, v] ∧ ResS w.heap.size wr (.slice a3 s.length c3) s ∧ RowO (w.heap.size) 56 (fun W v x => ResA w.heap.size w W v x n) wr v (LR.take k) ∧ Below w.heap.size w wr) (fun i _ => L1.length - (intOf i).toNat)
  case atStart => exact ⟨0, _, rfl, Nat.zero_le _, H0.out, H1.out, HG.out, HS.out, RowO.nil _ _ _ _, HB4.out⟩
  case round =>
    obtain ⟨k, v, rfl, hk, r0, r1, rg, rs, ⟨es, hown, hall⟩, hb⟩ := hrel
    have hsz := hb.size
    have c01 := r0.cell 1
    have cg1 := rg.cell 1
    have hle : es.length = k := by have h := HRES.out; rw [hall.1, List.length_take, h]; omega
    by_cases hlt : k < L1.length
    · obtain ⟨bb, o, x0, x1, x2, q, hbo, hqk, e0', e1', e2', hraw0⟩ := HT.out.el.at hlt
      have e0 := (hb.cell (World.block_lt_of_cell? _ _ e0')).trans e0'
      have e1 := (hb.cell (World.block_lt_of_cell? _ _ e1')).trans e1'
      have e2 := (hb.cell (World.block_lt_of_cell? _ _ e2')).trans e2'
      have hb0 : bb < w.heap.size := World.block_lt_of_cell? _ _ e0'
      subst hbo
      have hcall : ArgR wr (.agg #[x0, x1, x2]) q n := hraw0.later hb
      have hgl := rg.lt
      have hszb : w.heap.size ≤ wr.heap.size := by omega
      obtain ⟨r, hrv, hrb, hrne⟩ := hown.hits hszb
      have n0 := hrne _ _ _ r0 (by decide)
      have n1 := hrne _ _ _ r1 (by decide)
      have ng := hrne _ _ _ rg (by decide)
      clear e0' e1' e2'
      have mkS : ∀ X, Kept r wr X → X.cell? ⟨g, 1, none⟩ = some v ∧ X.cell? ⟨w.heap.size, 1, none⟩ = some (.slice (some ⟨bb, o, none⟩) L1.length cb) ∧ X.cell? ⟨bb, o + k * 3, none⟩ = some x0 ∧ X.cell? ⟨bb, o + k * 3 + 1, none⟩ = some x1 ∧ X.cell? ⟨bb, o + k * 3 + 2, none⟩ = some x2 ∧ Kept r wr X := fun X h =>
        ⟨h.cell cg1 ng, h.cell c01 n0, h.cell e0 (by show bb ≠ r; omega), h.cell e1 (by show bb ≠ r; omega), h.cell e2 (by show bb ≠ r; omega), h⟩
      have hltI : (k : Int) < (L1.length : Int) := by omega
      have hS0 := mkS wr.drew ((Kept.refl r wr).drew)
      go_wp2_with fail
      refine wp_region_L (S := fun X => X.cell? ⟨g, 1, none⟩ = some v ∧ X.cell? ⟨w.heap.size, 1, none⟩ = some (.slice (some ⟨bb, o, none⟩) L1.length cb) ∧ X.cell? ⟨bb, o + k * 3, none⟩ = some x0 ∧ X.cell? ⟨bb, o + k * 3 + 1, none⟩ = some x1 ∧ X.cell? ⟨bb, o + k * 3 + 2, none⟩ = some x2 ∧ Kept r wr X) (z := 11) (by kernel_rfl) hS0 (fun hHeld => ?_)
      refine todo [0, 1, 2, 3, 4, 5, 6] ?_
      iterate 7
       refine todoL (v := ?_) rfl (by kernel_rfl) (fun _ _ _ h => h) (by assumption) (Or.inl ⟨by rfl, ?_⟩) ?_
       rotate_left
       · intro w hSw; (try dsimp only at hSw); go_simp; (try with_reducible rfl)
       try simp only [Act.put, List.getElem_toArray, List.getElem_cons_succ, List.getElem_cons_zero, List.setIfInBounds_toArray, List.set_cons_zero, List.set_cons_succ]
      refine todone ?_
      refine wpAnyL_one (i := 7) (by kernel_rfl) rfl (fun K hK => ?sb7)
      go_simp
      have hbd4 : Below wr.heap.size wr wr.drew := (Below.refl _ _).drew
      refine (negRV_any (hcall.later hbd4)).mono ?_
      rintro e w5 ⟨rv, rfl, qv, hb5⟩
      have Q5 := Lib.hid (qv _ hraw0)
      obtain ⟨m5, f1, l1, j1, f2, l2, j2, rfl⟩ := (qv _ hraw0).shape
      clear qv
      go_simp
      have hB5 : Below w.heap.size w w5 := (hb.drew).trans (hb5.mono hsz)
      have hk5 : Kept r wr w5 := ((Kept.refl r wr).drew).below hb5
      refine hK.out _ _ (fun _ => mkS _ hk5) (fun hHeld2 => ?mb7)
      clear hK K hHeld
      have hHeld := hHeld2 (by decide)
      clear hHeld2
      try simp only [Act.put, List.setIfInBounds_toArray, List.set_cons_zero, List.set_cons_succ]
      refine wpAnyL_one (i := 8) (by kernel_rfl) rfl (fun K hK => ?sb8)
      go_simp
      refine hK.out _ _ (fun _ => mkS _ (hk5.alloc _)) (fun hHeld2 => ?mb8)
      clear hK K hHeld
      have hHeld := hHeld2 (by decide)
      clear hHeld2
      try simp only [Act.put, List.setIfInBounds_toArray, List.set_cons_zero, List.set_cons_succ]
      refine wpAnyL_one (i := 9) (by kernel_rfl) rfl (fun K hK => ?sb9)
      have hb5w : Below wr.heap.size wr w5 := (Below.refl _ wr).drew.trans hb5
      have hown5 : OwnE (w.heap.size) 56 w5 v es := hown.later hb5w
      have hall5 : AllE (fun v x => ResA w.heap.size w w5 v x n) es (LR.take k) := hall.imp fun u x _ h => h.later hb5w
      have hsz5 := hB5.size
      have hszb5 : w.heap.size ≤ w5.heap.size := Nat.le_trans hszb hb5w.size
      refine step_append_ownT rfl _ _ 34 rfl (w.heap.size) 56 i0 _ 3 56 Tryz.underlying34 hi hz0 hz1 hz2 rfl (by decide) _ es.length (flat3 es) rfl (hown5.later ((Below.refl _ _).alloc (Nat.le_refl _) _)) ⟨w5.heap.size, 0, none⟩ 1 1 [.bool m5, .slice f1 l1 j1, .slice f2 l2 j2] rfl rfl (cell_three_new _ _ _ _ _) (by simp [Value.oneCell']) (by unfold maxLen; omega) (by omega) (by simp; omega) ?_
      intro v' w6 hown' hgrow _
      obtain ⟨av, cv, rfl⟩ := ownT_slice hown'
      have hk6 : Kept r wr w6 := (hk5.alloc _).grown hgrow hrv
      refine hK.out _ _ (fun _ => mkS _ hk6) (fun hHeld2 => ?mb9)
      clear hK K hHeld
      have hHeld := hHeld2 (by decide)
      clear hHeld2
      try simp only [Act.put, List.setIfInBounds_toArray, List.set_cons_zero, List.set_cons_succ]
      refine wpAnyL_take (i := 10) (v := ?va10) rfl (by kernel_rfl) (by kernel_rfl) (by kernel_rfl) (by kernel_rfl) (fun _ _ _ h => h) (Or.inl ⟨by rfl, ?ha10⟩) (by assumption) ?ra10
      case ha10 =>
        intro w hSw
        try dsimp only at hSw
        go_simp
        try with_reducible rfl
      try simp only [Act.put, List.setIfInBounds_toArray, List.set_cons_zero, List.set_cons_succ]
      have RG6 := rg.kept hk6 ng
      have f21 := RG6.free 1
      have d21 := RG6.cell 1
      refine wpAnyL_one (i := 11) (by kernel_rfl) rfl (fun K hK => ?sb11)
      go_simp
      refine hK.out _ _ (fun h => absurd rfl h) (fun _ => ?mb11)
      clear hK K
      try simp only [Act.put, List.setIfInBounds_toArray, List.set_cons_zero, List.set_cons_succ]
      refine wpAnyL_done (by kernel_rfl) ?_ _
      go_wp2
      go_roundw
      case rel =>
        have hx5 : ResA w.heap.size w w5 (E3.agg ⟨.bool m5, .slice f1 l1 j1, .slice f2 l2 j2⟩) (-q) n := .inr Q5.out
        obtain ⟨hrow6, hb6⟩ := pushE2 (P := (fun W v x => ResA w.heap.size w W v x n)) (e := ⟨.bool m5, .slice f1 l1 j1, .slice f2 l2 j2⟩) hB5 (by omega) hszb5 hown5 hall5 hx5 (fun u y h => ResA.apart hown5 hgrow (by decide) h) hown' hgrow
        rw [hle] at hrow6
        have rs6 : ResS w.heap.size w6 (.slice a3 s.length c3) s := ResS.apart hown5 hgrow (by decide) (rs.later hb5w)
        have hnext : LR.take (k + 1) = LR.take k ++ [-q] := take_nextL (by rw [← HLR.out]; rw [List.getElem?_map, hqk]; rfl)
        refine ⟨k + 1, _, by go_num, by omega, (r0.kept hk6 n0).far (by show w.heap.size ≠ g; omega) _, (r1.kept hk6 n1).far (by show w.heap.size + 1 ≠ g; omega) _, RG6.set21 _, rs6.far RG6 (by decide) (kept1 _), ?_, hb6.setCell (by show w.heap.size ≤ g; omega) _⟩
        rw [hnext]
        exact hrow6.far RG6 (by decide) (kept1 _) (fun u y h => h.far RG6 (by decide) (kept1 _))
      case measure => simp [intOf]; omega
    · obtain rfl : k = L1.length := by omega
      have hltI : ¬ (L1.length : Int) < (L1.length : Int) := by omega
      rw [List.take_of_length_le (by have h := HRES.out; omega)] at hall
      obtain ⟨av, cv, rfl⟩ := ownT_slice hown
      have hel : es.length = L1.length := hle
      rw [hel] at rg hown
      have c20 := rg.cell 0
      have d21 := rg.cell 1
      have f10 := r1.free 0
      have f11 := r1.free 1
      have g10 := r1.cell 0
      have g11 := r1.cell 1
      have RRs := r1.set2 (.slice a3 s.length c3) (.slice av L1.length cv)
      obtain ⟨z0, z1, _, _⟩ := RRs.two
      have HOWN := Lib.hid hown
      have HALL := Lib.hid hall
      have HRR := Lib.hid r1
      clear hown hall hle RRs r1
      go_wp2
      have hbE := below_set2 hb (show w.heap.size ≤ w.heap.size + 1 by omega) (.slice a3 s.length c3) (.slice av L1.length cv)
      have hsE : ResS w.heap.size _ (.slice a3 s.length c3) s := rs.far HRR.out (by decide) (kept2 (.slice a3 s.length c3) (.slice av L1.length cv))
      have hrE := RowO.far (P := (fun W v x => ResA w.heap.size w W v x n)) ⟨es, HOWN.out, HALL.out⟩ HRR.out (by decide) (kept2 (.slice a3 s.length c3) (.slice av L1.length cv)) (fun u y h => h.far HRR.out (by decide) (kept2 _ _))
      exact bodyPost_ret (v := .agg #[.slice a3 s.length c3, .slice av L1.length cv]) (by simp [results, Tryz.results28, go_sem, z0, z1]) rfl ⟨_, rfl, tenR_of HRES.out.symm hbE hsE (hrE.mono (by omega) (fun v x h => h)), hbE⟩
end Go.Proofs.YtjcacmnmbbnffaaGreat
