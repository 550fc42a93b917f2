/-
  Contracts of package nat: addRow.
-/
import Derived.Test.YteinfanfhgpciaaSub
namespace Go.Proofs.Yteinfanfhgpciaa
open Go.RowKit Go.Shelf
attribute [local go_sem] Oper.semAt_some

/-- one round of a row: the limbs, the carry -/
def rowStep (off : Nat) (x : Int) (vs : List Int) (s : List Int × Int) (k : Nat) : List Int × Int :=
  (s.1.set (off + k) ((s.2 + x * vs.getD k 0 + s.1.getD (off + k) 0) % 4294967296), (s.2 + x * vs.getD k 0 + s.1.getD (off + k) 0) / 4294967296)
def rowOf (zs : List Int) (off : Nat) (x : Int) (vs : List Int) (ks : List Nat) : List Int × Int := ks.foldl (rowStep off x vs) (zs, 0)
/-- the limbs behind a row -/
def rowL (zs : List Int) (off : Nat) (x : Int) (vs : List Int) : List Int :=
  (rowOf zs off x vs (List.range vs.length)).1.set (off + vs.length) (rowOf zs off x vs (List.range vs.length)).2

theorem rowOf_snoc (zs : List Int) (off : Nat) (x : Int) (vs : List Int) (ks : List Nat) (k : Nat) : rowOf zs off x vs (ks ++ [k]) = rowStep off x vs (rowOf zs off x vs ks) k := by simp [rowOf]
theorem Wf.set {xs : List Int} (h : Wf xs) (k : Nat) {x : Int} (hx : 0 ≤ x ∧ x < 4294967296) : Wf (xs.set k x) := by
  intro y hy
  rcases List.mem_or_eq_of_mem_set hy with hy | rfl
  · exact h y hy
  · exact hx
theorem prod_limbs {x y : Int} (hx : 0 ≤ x ∧ x < 4294967296) (hy : 0 ≤ y ∧ y < 4294967296) : 0 ≤ x * y ∧ x * y ≤ 18446744065119617025 :=
  prod_bound x y hx.1 (by omega) hy.1 (by omega)
theorem rowOf_ok (zs : List Int) (off : Nat) (x : Int) (vs : List Int) (hz : Wf zs) (hx : 0 ≤ x ∧ x < 4294967296) (hv : Wf vs) (ks : List Nat) :
    (rowOf zs off x vs ks).1.length = zs.length ∧ Wf (rowOf zs off x vs ks).1 ∧ 0 ≤ (rowOf zs off x vs ks).2 ∧ (rowOf zs off x vs ks).2 < 4294967296 := by
  suffices h : ∀ s : List Int × Int, s.1.length = zs.length ∧ Wf s.1 ∧ 0 ≤ s.2 ∧ s.2 < 4294967296 → ((ks.foldl (rowStep off x vs) s).1.length = zs.length ∧ Wf (ks.foldl (rowStep off x vs) s).1 ∧ 0 ≤ (ks.foldl (rowStep off x vs) s).2 ∧ (ks.foldl (rowStep off x vs) s).2 < 4294967296) from
    h _ ⟨rfl, hz, by simp, by simp⟩
  induction ks with
  | nil => exact fun s h => h
  | cons k ks ih =>
    intro s ⟨g1, g2, g3, g4⟩
    refine ih _ ?_
    have h1 := g2.getD (off + k)
    have h2 := prod_limbs hx (hv.getD k)
    refine ⟨by simp [rowStep, g1], g2.set _ (by omega), ?_, ?_⟩
    · simp only [rowStep]; omega
    · simp only [rowStep]; omega

theorem grown_trans {a b c : World} {row row' : Option Nat} (h : a.grownBy b row) (k : b.grownBy c row') (hr : ∀ r, row' = some r → some r = row ∨ a.heap.size ≤ r) : a.grownBy c row :=
  ⟨k.os.trans h.os, k.tape.trans h.tape, k.output.trans h.output, Nat.le_trans h.size k.size, fun i hi hne => by
    refine (k.block i (Nat.lt_of_lt_of_le hi h.size) fun e => ?_).trans (h.block i hi hne)
    rcases hr i e.symm with h1 | h1
    · exact hne h1
    · omega⟩
theorem grown_drew {a b : World} {row : Option Nat} (h : a.drew.grownBy b row) : a.grownBy b row := ⟨h.os, h.tape, h.output, h.size, h.block⟩
theorem ownFrom_grown {β : Type} {B : Nat} {w : World} {row : Option Nat} (hB : w.heap.size ≤ B) : OwnFrom B (fun (_ : β) X => w.grownBy X row) := fun _ _ _ _ hs hg hr =>
  grown_trans hs hg fun q e => .inr (Nat.le_trans hB (hr q e).1)
theorem Below.grownBy {B : Nat} {a b : World} (h : Below B a b) (hB : a.heap.size ≤ B) (row : Option Nat) : a.grownBy b row := ⟨h.os, h.tape, h.output, h.size, fun k hk _ => h.block k (by omega)⟩

set_option maxRecDepth 100000 in
set_option maxHeartbeats 4000000 in
set_option linter.unusedSimpArgs false in
theorem row_any (g off L cap : Nat) (b : Option Addr) (zs vs : List Int) (x : Int) (capb : Nat) (w : World) (hz : Blk w g zs) (hL : off + L = zs.length) (hv : vs.length < L) (hlb : Lim w b vs) (hmb : vs.length ≤ 35184372088832)
    (hcb : vs.length ≤ capb) (htr : trimN vs vs.length = vs.length) (hbg : vs ≠ [] → ∀ p, b = some p → p.block < g) (hwz : Wf zs) (hwv : Wf vs) (hx : 0 ≤ x ∧ x < 4294967296) :
    Calls Try.prog 49 #[.slice (some ⟨g, off, none⟩) L cap, .int .u32 x, .slice b vs.length capb] w fun e w' => e = .returned (.tuple #[]) ∧ Blk w' g (rowL zs off x vs) ∧ w.grownBy w' (some g) := by
  obtain ⟨n, hn⟩ : ∃ n : Nat, Hid (3 ≤ n) := ⟨3, Nat.le_refl 3⟩
  have hg := hz.lt
  refine (callsIn_wide (n := n)).1 ?_
  refine callsIn_of_wp_marks Try.func49 rfl trivial ?_ rfl
  simp only [Try.ntmps49, List.size_toArray, List.length_cons, List.length_nil, Nat.reduceAdd, Nat.reduceSub, Array.replicate_succ, Array.replicate_zero, List.push_toArray, List.append_toArray, List.nil_append, List.cons_append]
  gi_wp2_with fail
  refine wideCall ((carrier_any _ _).mono ?_)
  rintro e w' ⟨rfl, rfl⟩
  have k1 := ((Boxed.new w 24 (.slice (some ⟨g, off, none⟩) L cap)).alloc (Obj.cells #[Value.int .u32 x] 56)).alloc (Obj.cells #[Value.int .u64 0] 22)
  have k2 := (Boxed.new (w.alloc (Obj.cells #[Value.slice (some ⟨g, off, none⟩) L cap] 24)) 56 (.int .u32 x)).alloc (Obj.cells #[Value.int .u64 0] 22)
  have k3 := Boxed.new ((w.alloc (Obj.cells #[Value.slice (some ⟨g, off, none⟩) L cap] 24)).alloc (Obj.cells #[Value.int .u32 x] 56)) 22 (.int .u64 0)
  have k4 : Below w.heap.size w (((w.alloc (Obj.cells #[Value.slice (some ⟨g, off, none⟩) L cap] 24)).alloc (Obj.cells #[Value.int .u32 x] 56)).alloc (Obj.cells #[Value.int .u64 0] 22)) :=
    (((Below.refl _ w).alloc (Nat.le_refl _) _).alloc (by simp) _).alloc (by simp; omega) _
  have k5 : (((w.alloc (Obj.cells #[Value.slice (some ⟨g, off, none⟩) L cap] 24)).alloc (Obj.cells #[Value.int .u32 x] 56)).alloc (Obj.cells #[Value.int .u64 0] 22)).heap.size = w.heap.size + 1 + 1 + 1 := by simp
  simp only [World.size_alloc] at k2 k3
  simp only [World.size_alloc]
  generalize (((w.alloc (Obj.cells #[Value.slice (some ⟨g, off, none⟩) L cap] 24)).alloc (Obj.cells #[Value.int .u32 x] 56)).alloc (Obj.cells #[Value.int .u64 0] 22)) = W3 at *
  have k6 := Boxed.new W3 65 .nilFunc
  rw [k5] at k6
  have k6c := k6.cell
  have k6f := k6.frozen
  have k5' := k5
  clear k5
  gi_wp2_with fail
  refine wideCall ((limbs_any b vs.length capb _).mono ?_)
  rintro e w' ⟨rfl, rfl⟩
  gi_wp2_with fail
  have j2 := (k2.alloc (Obj.cells #[Value.func (.func 56) #[] #[.pointer (some ⟨w.heap.size + 1 + 1, 0, none⟩)]] 65)).alloc (Obj.cells #[Value.slice b vs.length capb] 24)
  have j1 := (k1.alloc (Obj.cells #[Value.func (.func 56) #[] #[.pointer (some ⟨w.heap.size + 1 + 1, 0, none⟩)]] 65)).alloc (Obj.cells #[Value.slice b vs.length capb] 24)
  have j3 := (k3.alloc (Obj.cells #[Value.func (.func 56) #[] #[.pointer (some ⟨w.heap.size + 1 + 1, 0, none⟩)]] 65)).alloc (Obj.cells #[Value.slice b vs.length capb] 24)
  have j4 := (Boxed.new W3 65 (Value.func (.func 56) #[] #[.pointer (some ⟨w.heap.size + 1 + 1, 0, none⟩)])).alloc (Obj.cells #[Value.slice b vs.length capb] 24)
  have j5 := Boxed.new (W3.alloc (Obj.cells #[Value.func (.func 56) #[] #[.pointer (some ⟨w.heap.size + 1 + 1, 0, none⟩)]] 65)) 24 (Value.slice b vs.length capb)
  have j6 : Below w.heap.size w ((W3.alloc (Obj.cells #[Value.func (.func 56) #[] #[.pointer (some ⟨w.heap.size + 1 + 1, 0, none⟩)]] 65)).alloc (Obj.cells #[Value.slice b vs.length capb] 24)) :=
    (k4.alloc (by omega) _).alloc (by simp; omega) _
  have j7 : ((W3.alloc (Obj.cells #[Value.func (.func 56) #[] #[.pointer (some ⟨w.heap.size + 1 + 1, 0, none⟩)]] 65)).alloc (Obj.cells #[Value.slice b vs.length capb] 24)).heap.size = w.heap.size + 5 := by simp; omega
  rw [k5'] at j4
  rw [World.size_alloc, k5'] at j5
  generalize ((W3.alloc (Obj.cells #[Value.func (.func 56) #[] #[.pointer (some ⟨w.heap.size + 1 + 1, 0, none⟩)]] 65)).alloc (Obj.cells #[Value.slice b vs.length capb] 24)) = W5 at *
  clear k1 k2 k3 k4 k6 k6c k6f k5'
  have h3 : 3 ≤ n := hn
  refine wpIn_rangeFunc_ownF rfl (by omega) (gf := 52) (lb := #[.pointer (some ⟨w.heap.size + 1 + 1 + 1 + 1, 0, none⟩)]) rfl trivial (enters_of Try.func52 (by kernel_rfl) rfl)
    (limbs_stops (n - 1) (w.heap.size + 1 + 1 + 1 + 1) g b vs capb hmb hcb hbg _ (by omega) j5.cell (hlb.later j6)) belowK_t (belowK_b (by omega)) (Below.refl _ _) (fun _ => rfl)
    (fun (pre : List (Fin (trimN vs vs.length))) X => ((((Blk X g (rowOf zs off x vs (pre.map Fin.val)).1 ∧ Boxed X w.heap.size 24 (.slice (some ⟨g, off, none⟩) L cap)) ∧ Boxed X (w.heap.size + 1) 56 (.int .u32 x)) ∧ Boxed X (w.heap.size + 1 + 1) 22 (.int .u64 (rowOf zs off x vs (pre.map Fin.val)).2)) ∧
      Boxed X (w.heap.size + 1 + 1 + 1) 65 (Value.func (.func 56) #[] #[.pointer (some ⟨w.heap.size + 1 + 1, 0, none⟩)])) ∧ w.grownBy X (some g))
    (fun _ _ _ => False)
    (OwnFrom.and (Own.from (Own.and2 (Own.and2 (Own.and2 (Own.and2 (blk_own _ _) (boxed_own _ _ _)) (boxed_own _ _ _)) (boxed_own _ _ _)) (boxed_own _ _ _)) _) (ownFrom_grown (by omega)))
    (fun _ _ _ _ _ hs _ _ => hs)
    ⟨⟨⟨⟨⟨hz.below j6 hg, j1⟩, j2⟩, j3⟩, j4⟩, Below.grownBy j6 (Nat.le_refl _) _⟩
    (fun (y : Fin (trimN vs vs.length)) => { tmps := #[.slice (some ⟨g, off, none⟩) L cap, .int .u32 x, .slice b vs.length capb, .pointer (some ⟨w.heap.size, 0, none⟩), .pointer (some ⟨w.heap.size + 1, 0, none⟩), undef, .pointer (some ⟨w.heap.size + 1 + 1 + 1, 0, none⟩), .int .i64 (y.val : Int), .int .u32 (vs[y.val]?.getD 0),
      .func (.func 56) #[] #[.pointer (some ⟨w.heap.size + 1 + 1, 0, none⟩)], .slice b vs.length capb, .func (.func 52) #[] #[.pointer (some ⟨w.heap.size + 1 + 1 + 1 + 1, 0, none⟩)], .int .i64 (y.val : Int), .int .u32 (vs[y.val]?.getD 0),
      undef, undef, undef, undef, undef, undef, undef, undef, undef, undef, undef, undef, undef, undef, undef, undef, undef, undef, undef, undef, undef, undef], defers := [] }) ?assign ?body ?done ?stop
  case assign =>
    intro l y X K hK
    simp only [limbAt]
    gi_wp2
    exact hK
  case body =>
    rintro l pre ⟨k, hk⟩ X ⟨⟨⟨⟨⟨hblk, q0⟩, q1⟩, q2⟩, q3⟩, hB⟩ hlt
    have hkm : k < vs.length := by omega
    obtain ⟨ok1, okw, ok2, ok3⟩ := rowOf_ok zs off x vs hwz hx hwv (pre.map Fin.val)
    obtain ⟨st, hst⟩ : ∃ st, rowOf zs off x vs (pre.map Fin.val) = st := ⟨_, rfl⟩
    rw [hst] at hblk q2 ok1 okw ok2 ok3
    obtain ⟨z, c⟩ := st
    simp only at hblk q2 ok1 okw ok2 ok3
    obtain ⟨y, hyk⟩ : ∃ y, vs.getD k 0 = y := ⟨_, rfl⟩
    obtain ⟨t, htk⟩ : ∃ t, z.getD (off + k) 0 = t := ⟨_, rfl⟩
    have by' : 0 ≤ y ∧ y < 4294967296 := hyk ▸ hwv.getD k
    have bt : 0 ≤ t ∧ t < 4294967296 := htk ▸ okw.getD (off + k)
    have bxy := prod_limbs hx by'
    obtain ⟨by0, by1⟩ := by'
    obtain ⟨bt0, bt1⟩ := bt
    obtain ⟨bx0, bx1⟩ := hx
    have hyk2 : vs[k]?.getD 0 = y := hyk
    simp only [hyk2]
    have hct := hblk.cell (off + k) (by omega)
    rw [htk] at hct
    have HY := Lib.hid hyk
    have HT := Lib.hid htk
    have HS := Lib.hid hst
    clear hyk htk hyk2 hst
    have c0 := q0.cell
    have c1 := q1.cell
    have c3 := q3.cell
    have hsX := hB.size
    have hkL : k < L := by omega
    refine wpIn_block ?_
    refine region_round (fun X' => X'.cell? ⟨w.heap.size, 0, none⟩ = some (.slice (some ⟨g, off, none⟩) L cap) ∧ X'.cell? ⟨w.heap.size + 1, 0, none⟩ = some (.int .u32 x) ∧ X'.cell? ⟨w.heap.size + 1 + 1 + 1, 0, none⟩ = some (Value.func (.func 56) #[] #[.pointer (some ⟨w.heap.size + 1 + 1, 0, none⟩)]))
      (by kernel_rfl) (by kernel_rfl) (by rintro ⟨a', w', h⟩; exact h) ⟨c0, c1, c3⟩ (fun hHeld => ?_)
    refine wpAnyH_take (i := 0) (v := ?va0) rfl (by kernel_rfl) (by kernel_rfl) (by kernel_rfl) (fun _ _ _ h => h) (Or.inl ⟨by rfl, ?ha0⟩) (by assumption) ?ra0
    case ha0 =>
      intro w hSw
      try dsimp only at hSw
      go_simp
      try with_reducible rfl
    try simp only [Act.put, List.setIfInBounds_toArray, List.set_cons_zero, List.set_cons_succ]
    refine wpAnyH_take (i := 1) (v := ?va1) rfl (by kernel_rfl) (by kernel_rfl) (by kernel_rfl) (fun _ _ _ h => h) (Or.inl ⟨by rfl, ?ha1⟩) (by assumption) ?ra1
    case ha1 =>
      intro w hSw
      try dsimp only at hSw
      go_simp
      try with_reducible rfl
    try simp only [Act.put, List.setIfInBounds_toArray, List.set_cons_zero, List.set_cons_succ]
    refine wpAnyH_take (i := 2) (v := ?va2) rfl (by kernel_rfl) (by kernel_rfl) (by kernel_rfl) (fun _ _ _ h => h) (Or.inl ⟨by rfl, ?ha2⟩) (by assumption) ?ra2
    case ha2 =>
      intro w hSw
      try dsimp only at hSw
      go_simp
      try with_reducible rfl
    try simp only [Act.put, List.setIfInBounds_toArray, List.set_cons_zero, List.set_cons_succ]
    refine wpAnyH_take (i := 3) (v := ?va3) rfl (by kernel_rfl) (by kernel_rfl) (by kernel_rfl) (fun _ _ _ h => h) (Or.inl ⟨by rfl, ?ha3⟩) (by assumption) ?ra3
    case ha3 =>
      intro w hSw
      try dsimp only at hSw
      go_simp
      try with_reducible rfl
    try simp only [Act.put, List.setIfInBounds_toArray, List.set_cons_zero, List.set_cons_succ]
    refine wpAnyH_take (i := 4) (v := ?va4) rfl (by kernel_rfl) (by kernel_rfl) (by kernel_rfl) (fun _ _ _ h => h) (Or.inl ⟨by rfl, ?ha4⟩) (by assumption) ?ra4
    case ha4 =>
      intro w hSw
      try dsimp only at hSw
      go_simp
      try with_reducible rfl
    try simp only [Act.put, List.setIfInBounds_toArray, List.set_cons_zero, List.set_cons_succ]
    refine wpAnyH_take (i := 5) (v := ?va5) rfl (by kernel_rfl) (by kernel_rfl) (by kernel_rfl) (fun _ _ _ h => h) (Or.inl ⟨by rfl, ?ha5⟩) (by assumption) ?ra5
    case ha5 =>
      intro w hSw
      try dsimp only at hSw
      go_simp
      try with_reducible rfl
    try simp only [Act.put, List.setIfInBounds_toArray, List.set_cons_zero, List.set_cons_succ]
    refine wpAnyH_take (i := 6) (v := ?va6) rfl (by kernel_rfl) (by kernel_rfl) (by kernel_rfl) (fun _ _ _ h => h) (Or.inl ⟨by rfl, ?ha6⟩) (by assumption) ?ra6
    case ha6 =>
      intro w hSw
      try dsimp only at hSw
      go_simp
      try with_reducible rfl
    try simp only [Act.put, List.setIfInBounds_toArray, List.set_cons_zero, List.set_cons_succ]
    refine wpAnyH_take (i := 7) (v := ?va7) rfl (by kernel_rfl) (by kernel_rfl) (by kernel_rfl) (fun _ _ _ h => h) (Or.inl ⟨by rfl, ?ha7⟩) (by assumption) ?ra7
    case ha7 =>
      intro w hSw
      try dsimp only at hSw
      go_simp
      try with_reducible rfl
    try simp only [Act.put, List.setIfInBounds_toArray, List.set_cons_zero, List.set_cons_succ]
    refine wpAnyH_take (i := 8) (v := ?va8) rfl (by kernel_rfl) (by kernel_rfl) (by kernel_rfl) (fun _ _ _ h => h) (Or.inl ⟨by rfl, ?ha8⟩) (by assumption) ?ra8
    case ha8 =>
      intro w hSw
      try dsimp only at hSw
      go_simp
      try with_reducible rfl
    try simp only [Act.put, List.setIfInBounds_toArray, List.set_cons_zero, List.set_cons_succ]
    refine wpAnyH_take (i := 9) (v := ?va9) rfl (by kernel_rfl) (by kernel_rfl) (by kernel_rfl) (fun _ _ _ h => h) (Or.inl ⟨by rfl, ?ha9⟩) (by assumption) ?ra9
    case ha9 =>
      intro w hSw
      try dsimp only at hSw
      go_simp
      try with_reducible rfl
    try simp only [Act.put, List.setIfInBounds_toArray, List.set_cons_zero, List.set_cons_succ]
    refine wpAnyH_take (i := 10) (v := ?va10) rfl (by kernel_rfl) (by kernel_rfl) (by kernel_rfl) (fun _ _ _ h => h) (Or.inl ⟨by rfl, ?ha10⟩) (by assumption) ?ra10
    case ha10 =>
      intro w hSw
      try dsimp only at hSw
      go_simp
      try with_reducible rfl
    try simp only [Act.put, List.setIfInBounds_toArray, List.set_cons_zero, List.set_cons_succ]
    refine wpAnyH_ready (rs := [11]) (by kernel_rfl) (by simp) ?_
    refine AllReadyH.cons rfl (fun K hK => ?sb11) AllReadyH.nil
    go_simp
    refine hK.out _ _ ?kb11 (fun hHeld => ?mb11)
    case kb11 =>
      try dsimp only
      exact hHeld
    clear hK K
    try simp only [Act.put, List.setIfInBounds_toArray, List.set_cons_zero, List.set_cons_succ]
    refine wpAnyH_take (i := 12) (v := ?va12) rfl (by kernel_rfl) (by kernel_rfl) (by kernel_rfl) (fun _ _ _ h => h) (Or.inl ⟨by rfl, ?ha12⟩) (by assumption) ?ra12
    case ha12 =>
      intro w hSw
      try dsimp only at hSw
      go_simp
      try with_reducible rfl
    try simp only [Act.put, List.setIfInBounds_toArray, List.set_cons_zero, List.set_cons_succ]
    refine wpAnyH_ready (rs := [13]) (by kernel_rfl) (by simp) ?_
    refine AllReadyH.cons rfl (fun K hK => ?sb13) AllReadyH.nil
    go_simp
    refine hK.out _ _ ?kb13 (fun hHeld => ?mb13)
    case kb13 =>
      try dsimp only
      simp [*, World.cell?_alloc_some]
    clear hK K
    try simp only [Act.put, List.setIfInBounds_toArray, List.set_cons_zero, List.set_cons_succ]
    refine wpAnyH_ready (rs := [14]) (by kernel_rfl) (by simp) ?_
    refine AllReadyH.cons rfl (fun K hK => ?sb14) AllReadyH.nil
    go_simp
    rw [wrap_u64 bx0 (by omega), wrap_u64 by0 (by omega), wrap_u64 (x := x * y) bxy.1 (by omega), wrap_u64 bt0 (by omega)]
    refine (carry2 c (x * y) t (w.heap.size + 1 + 1) X.drew ok2 bxy.1 bt0 (by omega) q2).mono ?_
    rintro e w2 ⟨rfl, hcar2, hgr⟩
    go_simp
    refine hK.out _ _ ?kb14 (fun hHeld => ?mb14)
    case kb14 =>
      try dsimp only
      exact ⟨hgr.cell c0 (by simp <;> omega), hgr.cell c1 (by simp <;> omega), hgr.cell c3 (by simp <;> omega)⟩
    clear hK K
    try simp only [Act.put, List.setIfInBounds_toArray, List.set_cons_zero, List.set_cons_succ]
    have hblk2 : Blk w2 g z := Blk.grown (w := X.drew) hblk hgr (by simp <;> omega)
    have hcell2 := hblk2.cell (off + k) (by omega)
    have hfree2 := hblk2.free (off + k)
    refine wpAnyH_take (i := 15) (v := ?va15) rfl (by kernel_rfl) (by kernel_rfl) (by kernel_rfl) (fun _ _ _ h => h) (Or.inl ⟨by rfl, ?ha15⟩) (by assumption) ?ra15
    case ha15 =>
      intro w hSw
      try dsimp only at hSw
      go_simp
      try with_reducible rfl
    try simp only [Act.put, List.setIfInBounds_toArray, List.set_cons_zero, List.set_cons_succ]
    refine wpAnyH_ready (rs := [16]) (by kernel_rfl) (by simp) ?_
    refine AllReadyH.cons rfl (fun K hK => ?sb16) AllReadyH.nil
    go_simp
    refine hK.out _ _ ?kb16 (fun hHeld => ?mb16)
    case kb16 =>
      try dsimp only
      exact ⟨(World.cell?_setCell_far _ _ _ _ (by simp <;> omega)).trans hHeld.1, (World.cell?_setCell_far _ _ _ _ (by simp <;> omega)).trans hHeld.2.1, (World.cell?_setCell_far _ _ _ _ (by simp <;> omega)).trans hHeld.2.2⟩
    clear hK K
    try simp only [Act.put, List.setIfInBounds_toArray, List.set_cons_zero, List.set_cons_succ]
    refine wpAnyH_done (by kernel_rfl) ?_ _
    have hko : KeepsOthers X w2 := (KeepsOthers.drew X).trans (KeepsOthers.of_grownBy hgr (fun j o ej hj => by cases ej; rw [show X.drew.heap[w.heap.size + 1 + 1]? = _ from q2] at hj; cases hj; rfl))
    have hbo : Below g X w2 := (Below.refl _ X).drew.grown hgr (show g ≤ X.heap.size by omega) (fun j ej => by cases ej; omega)
    have u0 : Boxed w2 w.heap.size _ _ := Boxed.kept (W := X.drew) q0 hgr (by simp <;> omega)
    have u1 : Boxed w2 (w.heap.size + 1) _ _ := Boxed.kept (W := X.drew) q1 hgr (by simp <;> omega)
    have u3 : Boxed w2 (w.heap.size + 1 + 1 + 1) _ _ := Boxed.kept (W := X.drew) q3 hgr (by simp <;> omega)
    have ub := hblk2.set (off + k) ((c + x * y + t) % 4294967296)
    have es : rowOf zs off x vs ((pre ++ [(⟨k, hk⟩ : Fin (trimN vs vs.length))]).map Fin.val) = (z.set (off + k) ((c + x * y + t) % 4294967296), (c + x * y + t) / 4294967296) := by
      rw [List.map_append, List.map_cons, List.map_nil, rowOf_snoc, HS.out]
      simp only [rowStep, HY.out, HT.out]
    have hgw : w.grownBy w2 (some g) := grown_trans hB (grown_drew hgr) (fun r e => by cases e; exact .inr (by omega))
    refine ⟨hko.trans (KeepsOthers.setCell _ _ _), hbo.setCell (p := ⟨g, off + k, none⟩) (Nat.le_refl _) _, ?_, ?_⟩
    · rw [es]
      exact ⟨⟨⟨⟨ub, Boxed.far u0 (by simp <;> omega) _⟩, Boxed.far u1 (by simp <;> omega) _⟩, Boxed.far (t := 22) hcar2 (by simp <;> omega) _⟩, Boxed.far u3 (by simp <;> omega) _⟩
    · exact grown_trans hgw (Only.set w2 g (off + k) _).grown (fun r e => .inl e.symm)
  case done =>
    rintro D ks X hD hup ⟨⟨⟨⟨⟨hblk, q0⟩, q1⟩, q2⟩, q3⟩, hB⟩ hK
    obtain ⟨ok1, okw, ok2, ok3⟩ := rowOf_ok zs off x vs hwz hx hwv (ks.map Fin.val)
    have hst : rowOf zs off x vs (ks.map Fin.val) = rowOf zs off x vs (List.range vs.length) := by rw [hup, htr]
    rw [hst] at hblk q2 ok1 okw ok2 ok3
    have hrow : rowL zs off x vs = (rowOf zs off x vs (List.range vs.length)).1.set (off + vs.length) (rowOf zs off x vs (List.range vs.length)).2 := rfl
    generalize rowOf zs off x vs (List.range vs.length) = st at hblk q2 ok1 okw ok2 ok3 hrow
    obtain ⟨z, c⟩ := st
    simp only at hblk q2 ok1 okw ok2 ok3 hrow
    have HR := Lib.hid hrow
    have hstep : z.length = zs.length := ok1
    clear hst hrow
    have c0 := q0.cell
    have c3 := q3.cell
    have hsX := hB.size
    gi_wp2_with fail
    refine wpIn_wide.2 ?_
    go_region_held3 (fun X' => X'.cell? ⟨w.heap.size, 0, none⟩ = some (.slice (some ⟨g, off, none⟩) L cap) ∧ X'.cell? ⟨w.heap.size + 1 + 1 + 1, 0, none⟩ = some (Value.func (.func 56) #[] #[.pointer (some ⟨w.heap.size + 1 + 1, 0, none⟩)]))
      (first | exact ⟨hgr.cell c0 (by simp <;> omega), hgr.cell c3 (by simp <;> omega)⟩ | exact ⟨(World.cell?_setCell_far _ _ _ _ (by simp <;> omega)).trans (hgr.cell c0 (by simp <;> omega)), (World.cell?_setCell_far _ _ _ _ (by simp <;> omega)).trans (hgr.cell c3 (by simp <;> omega))⟩ | go_keep)
      (first | (go_at_call 56; refine (carry0 c (w.heap.size + 1 + 1) X.drew ok2 (by omega) q2).mono ?_; rintro e w2 ⟨rfl, hcar2, hgr⟩; have hblk2 : Blk w2 g z := Blk.grown (w := X.drew) hblk hgr (by simp <;> omega); have hcell2 := hblk2.cell (off + vs.length) (by omega); have hfree2 := hblk2.free (off + vs.length)))
    have hDX : D < X.heap.size := (Array.getElem?_eq_some_iff.1 hK).1
    have hK2 : w2.heap[D]? = some (.deferred (some [])) := (hgr.block D hDX (by simp <;> omega)).trans hK
    have hK3 : (w2.setCell ⟨g, off + vs.length, none⟩ (.int .u32 (c % 4294967296))).heap[D]? = some (.deferred (some [])) := (Below.heap_setCell _ _ _ _ (by simp <;> omega)).trans hK2
    refine ⟨by simp, .inl ⟨_, _, rfl, run_takeDeferred hK3, ?_⟩⟩
    have ub := hblk2.set (off + vs.length) (c % 4294967296)
    rw [Int.emod_eq_of_lt ok2 ok3, ← HR.out] at ub
    refine ⟨_, results_none rfl _ _ _, rfl, ?_, ?_⟩
    · rw [Int.emod_eq_of_lt ok2 ok3]
      exact Blk.grown ub (grownBy_putObj' _ D (.deferred none)) (by simp <;> omega)
    · refine grown_trans (grown_trans (grown_trans hB (grown_drew hgr) (fun r e => by cases e; exact .inr (by omega))) (Only.set w2 g (off + vs.length) _).grown (fun r e => .inl e.symm)) (grownBy_putObj' _ D (.deferred none)) (fun r e => by cases e; exact .inr (by omega))
  case stop =>
    rintro D c pre X _ _ h _
    exact h.elim
end Go.Proofs.Yteinfanfhgpciaa
