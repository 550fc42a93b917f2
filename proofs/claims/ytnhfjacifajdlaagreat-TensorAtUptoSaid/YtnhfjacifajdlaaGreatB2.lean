/-
  Contracts of the reference: Of.
-/
import Derived.Test.YtnhfjacifajdlaaGreatB1
import Derived.ProofKit
import Derived.OpenShut
import Derived.JoinedCond
import Derived.Carry
namespace Go.Proofs.YtnhfjacifajdlaaGreat
set_option maxRecDepth 100000
section
open Go.RowKit Go.Shelf
attribute [local go_sem] Oper.semAt_some
/-- one round of a row: the limbs, the carry -/
def rowStep (off : Nat) (x : Int) (vs : List Int) (s : List Int × Int) (k : Nat) : List Int × Int :=
  (s.1.set (off + k) ((s.2 + x * vs.getD k 0 + s.1.getD (off + k) 0) % 4294967296), (s.2 + x * vs.getD k 0 + s.1.getD (off + k) 0) / 4294967296)
def rowOf (zs : List Int) (off : Nat) (x : Int) (vs : List Int) (ks : List Nat) : List Int × Int := ks.foldl (rowStep off x vs) (zs, 0)
/-- the limbs behind a row -/
def rowL (zs : List Int) (off : Nat) (x : Int) (vs : List Int) : List Int :=
  (rowOf zs off x vs (List.range vs.length)).1.set (off + vs.length) (rowOf zs off x vs (List.range vs.length)).2
theorem rowOf_snoc (zs : List Int) (off : Nat) (x : Int) (vs : List Int) (ks : List Nat) (k : Nat) : rowOf zs off x vs (ks ++ [k]) = rowStep off x vs (rowOf zs off x vs ks) k := by simp [rowOf]
theorem Wf.set {xs : List Int} (h : Wf xs) (k : Nat) {x : Int} (hx : 0 ≤ x ∧ x < 4294967296) : Wf (xs.set k x) := by
  intro y hy
  rcases List.mem_or_eq_of_mem_set hy with hy | rfl
  · exact h y hy
  · exact hx
theorem prod_limbs {x y : Int} (hx : 0 ≤ x ∧ x < 4294967296) (hy : 0 ≤ y ∧ y < 4294967296) : 0 ≤ x * y ∧ x * y ≤ 18446744065119617025 :=
  prod_bound x y hx.1 (by omega) hy.1 (by omega)
theorem rowOf_ok (zs : List Int) (off : Nat) (x : Int) (vs : List Int) (hz : Wf zs) (hx : 0 ≤ x ∧ x < 4294967296) (hv : Wf vs) (ks : List Nat) :
    (rowOf zs off x vs ks).1.length = zs.length ∧ Wf (rowOf zs off x vs ks).1 ∧ 0 ≤ (rowOf zs off x vs ks).2 ∧ (rowOf zs off x vs ks).2 < 4294967296 := by
  suffices h : ∀ s : List Int × Int, s.1.length = zs.length ∧ Wf s.1 ∧ 0 ≤ s.2 ∧ s.2 < 4294967296 → ((ks.foldl (rowStep off x vs) s).1.length = zs.length ∧ Wf (ks.foldl (rowStep off x vs) s).1 ∧ 0 ≤ (ks.foldl (rowStep off x vs) s).2 ∧ (ks.foldl (rowStep off x vs) s).2 < 4294967296) from
    h _ ⟨rfl, hz, by simp, by simp⟩
  induction ks with
  | nil => exact fun s h => h
  | cons k ks ih =>
    intro s ⟨g1, g2, g3, g4⟩
    refine ih _ ?_
    have h1 := g2.getD (off + k)
    have h2 := prod_limbs hx (hv.getD k)
    refine ⟨by simp [rowStep, g1], g2.set _ (by omega), ?_, ?_⟩
    · simp only [rowStep]; omega
    · simp only [rowStep]; omega
theorem grown_trans {a b c : World} {row row' : Option Nat} (h : a.grownBy b row) (k : b.grownBy c row') (hr : ∀ r, row' = some r → some r = row ∨ a.heap.size ≤ r) : a.grownBy c row :=
  ⟨k.os.trans h.os, k.tape.trans h.tape, k.output.trans h.output, Nat.le_trans h.size k.size, fun i hi hne => by
    refine (k.block i (Nat.lt_of_lt_of_le hi h.size) fun e => ?_).trans (h.block i hi hne)
    rcases hr i e.symm with h1 | h1
    · exact hne h1
    · omega⟩
theorem grown_drew {a b : World} {row : Option Nat} (h : a.drew.grownBy b row) : a.grownBy b row := ⟨h.os, h.tape, h.output, h.size, h.block⟩
theorem ownFrom_grown {β : Type} {B : Nat} {w : World} {row : Option Nat} (hB : w.heap.size ≤ B) : OwnFrom B (fun (_ : β) X => w.grownBy X row) := fun _ _ _ _ hs hg hr =>
  grown_trans hs hg fun q e => .inr (Nat.le_trans hB (hr q e).1)
theorem Below.grownBy {B : Nat} {a b : World} (h : Below B a b) (hB : a.heap.size ≤ B) (row : Option Nat) : a.grownBy b row := ⟨h.os, h.tape, h.output, h.size, fun k hk _ => h.block k (by omega)⟩
set_option maxRecDepth 100000 in
set_option maxHeartbeats 4000000 in
set_option linter.unusedSimpArgs false in
theorem row_any (g off L cap : Nat) (b : Option Addr) (zs vs : List Int) (x : Int) (capb : Nat) (w : World) (hz : Blk w g zs) (hL : off + L = zs.length) (hv : vs.length < L) (hlb : Lim w b vs) (hmb : vs.length ≤ 35184372088832)
    (hcb : vs.length ≤ capb) (htr : trimN vs vs.length = vs.length) (hbg : vs ≠ [] → ∀ p, b = some p → p.block < g) (hwz : Wf zs) (hwv : Wf vs) (hx : 0 ≤ x ∧ x < 4294967296) :
    Calls Tryz.prog 142 #[.slice (some ⟨g, off, none⟩) L cap, .int .u32 x, .slice b vs.length capb] w fun e w' => e = .returned (.tuple #[]) ∧ Blk w' g (rowL zs off x vs) ∧ w.grownBy w' (some g) := by
  obtain ⟨n, hn⟩ : ∃ n : Nat, Hid (3 ≤ n) := ⟨3, Nat.le_refl 3⟩
  have hg := hz.lt
  refine (callsIn_wide (n := n)).1 ?_
  refine callsIn_of_wp_marks Tryz.func142 rfl trivial ?_ rfl
  simp only [Tryz.ntmps142, List.size_toArray, List.length_cons, List.length_nil, Nat.reduceAdd, Nat.reduceSub, Array.replicate_succ, Array.replicate_zero, List.push_toArray, List.append_toArray, List.nil_append, List.cons_append]
  gi_wp2_with fail
  refine wideCall ((carrier_any _ _).mono ?_)
  rintro e w' ⟨rfl, rfl⟩
  have k1 := ((Boxed.new w 42 (.slice (some ⟨g, off, none⟩) L cap)).alloc (Obj.cells #[Value.int .u32 x] 112)).alloc (Obj.cells #[Value.int .u64 0] 117)
  have k2 := (Boxed.new (w.alloc (Obj.cells #[Value.slice (some ⟨g, off, none⟩) L cap] 42)) 112 (.int .u32 x)).alloc (Obj.cells #[Value.int .u64 0] 117)
  have k3 := Boxed.new ((w.alloc (Obj.cells #[Value.slice (some ⟨g, off, none⟩) L cap] 42)).alloc (Obj.cells #[Value.int .u32 x] 112)) 117 (.int .u64 0)
  have k4 : Below w.heap.size w (((w.alloc (Obj.cells #[Value.slice (some ⟨g, off, none⟩) L cap] 42)).alloc (Obj.cells #[Value.int .u32 x] 112)).alloc (Obj.cells #[Value.int .u64 0] 117)) :=
    (((Below.refl _ w).alloc (Nat.le_refl _) _).alloc (by simp) _).alloc (by simp; omega) _
  have k5 : (((w.alloc (Obj.cells #[Value.slice (some ⟨g, off, none⟩) L cap] 42)).alloc (Obj.cells #[Value.int .u32 x] 112)).alloc (Obj.cells #[Value.int .u64 0] 117)).heap.size = w.heap.size + 1 + 1 + 1 := by simp
  simp only [World.size_alloc] at k2 k3
  simp only [World.size_alloc]
  generalize (((w.alloc (Obj.cells #[Value.slice (some ⟨g, off, none⟩) L cap] 42)).alloc (Obj.cells #[Value.int .u32 x] 112)).alloc (Obj.cells #[Value.int .u64 0] 117)) = W3 at *
  have k6 := Boxed.new W3 169 .nilFunc
  rw [k5] at k6
  have k6c := k6.cell
  have k6f := k6.frozen
  have k5' := k5
  clear k5
  gi_wp2_with fail
  refine wideCall ((limbs_any b vs.length capb _).mono ?_)
  rintro e w' ⟨rfl, rfl⟩
  gi_wp2_with fail
  have j2 := (k2.alloc (Obj.cells #[Value.func (.func 150) #[] #[.pointer (some ⟨w.heap.size + 1 + 1, 0, none⟩)]] 169)).alloc (Obj.cells #[Value.slice b vs.length capb] 42)
  have j1 := (k1.alloc (Obj.cells #[Value.func (.func 150) #[] #[.pointer (some ⟨w.heap.size + 1 + 1, 0, none⟩)]] 169)).alloc (Obj.cells #[Value.slice b vs.length capb] 42)
  have j3 := (k3.alloc (Obj.cells #[Value.func (.func 150) #[] #[.pointer (some ⟨w.heap.size + 1 + 1, 0, none⟩)]] 169)).alloc (Obj.cells #[Value.slice b vs.length capb] 42)
  have j4 := (Boxed.new W3 169 (Value.func (.func 150) #[] #[.pointer (some ⟨w.heap.size + 1 + 1, 0, none⟩)])).alloc (Obj.cells #[Value.slice b vs.length capb] 42)
  have j5 := Boxed.new (W3.alloc (Obj.cells #[Value.func (.func 150) #[] #[.pointer (some ⟨w.heap.size + 1 + 1, 0, none⟩)]] 169)) 42 (Value.slice b vs.length capb)
  have j6 : Below w.heap.size w ((W3.alloc (Obj.cells #[Value.func (.func 150) #[] #[.pointer (some ⟨w.heap.size + 1 + 1, 0, none⟩)]] 169)).alloc (Obj.cells #[Value.slice b vs.length capb] 42)) :=
    (k4.alloc (by omega) _).alloc (by simp; omega) _
  have j7 : ((W3.alloc (Obj.cells #[Value.func (.func 150) #[] #[.pointer (some ⟨w.heap.size + 1 + 1, 0, none⟩)]] 169)).alloc (Obj.cells #[Value.slice b vs.length capb] 42)).heap.size = w.heap.size + 5 := by simp; omega
  rw [k5'] at j4
  rw [World.size_alloc, k5'] at j5
  generalize ((W3.alloc (Obj.cells #[Value.func (.func 150) #[] #[.pointer (some ⟨w.heap.size + 1 + 1, 0, none⟩)]] 169)).alloc (Obj.cells #[Value.slice b vs.length capb] 42)) = W5 at *
  clear k1 k2 k3 k4 k6 k6c k6f k5'
  have h3 : 3 ≤ n := hn
  refine wpIn_rangeFunc_ownF rfl (by omega) (gf := 154) (lb := #[.pointer (some ⟨w.heap.size + 1 + 1 + 1 + 1, 0, none⟩)]) rfl trivial (enters_of Tryz.func154 (by kernel_rfl) rfl)
    (limbs_stops (n - 1) (w.heap.size + 1 + 1 + 1 + 1) g b vs capb hmb hcb hbg _ (by omega) j5.cell (hlb.later j6)) belowK_t (belowK_b (by omega)) (Below.refl _ _) (fun _ => rfl)
    (fun (pre : List (Fin (trimN vs vs.length))) X => ((((Blk X g (rowOf zs off x vs (pre.map Fin.val)).1 ∧ Boxed X w.heap.size 42 (.slice (some ⟨g, off, none⟩) L cap)) ∧ Boxed X (w.heap.size + 1) 112 (.int .u32 x)) ∧ Boxed X (w.heap.size + 1 + 1) 117 (.int .u64 (rowOf zs off x vs (pre.map Fin.val)).2)) ∧
      Boxed X (w.heap.size + 1 + 1 + 1) 169 (Value.func (.func 150) #[] #[.pointer (some ⟨w.heap.size + 1 + 1, 0, none⟩)])) ∧ w.grownBy X (some g))
    (fun _ _ _ => False)
    (OwnFrom.and (Own.from (Own.and2 (Own.and2 (Own.and2 (Own.and2 (blk_own _ _) (boxed_own _ _ _)) (boxed_own _ _ _)) (boxed_own _ _ _)) (boxed_own _ _ _)) _) (ownFrom_grown (by omega)))
    (fun _ _ _ _ _ hs _ _ => hs)
    ⟨⟨⟨⟨⟨hz.below j6 hg, j1⟩, j2⟩, j3⟩, j4⟩, Below.grownBy j6 (Nat.le_refl _) _⟩
    (fun (y : Fin (trimN vs vs.length)) => { tmps := #[.slice (some ⟨g, off, none⟩) L cap, .int .u32 x, .slice b vs.length capb, .pointer (some ⟨w.heap.size, 0, none⟩), .pointer (some ⟨w.heap.size + 1, 0, none⟩), undef, .pointer (some ⟨w.heap.size + 1 + 1 + 1, 0, none⟩), .int .i64 (y.val : Int), .int .u32 (vs[y.val]?.getD 0),
      .func (.func 150) #[] #[.pointer (some ⟨w.heap.size + 1 + 1, 0, none⟩)], .slice b vs.length capb, .func (.func 154) #[] #[.pointer (some ⟨w.heap.size + 1 + 1 + 1 + 1, 0, none⟩)], .int .i64 (y.val : Int), .int .u32 (vs[y.val]?.getD 0),
      undef, undef, undef, undef, undef, undef, undef, undef, undef, undef, undef, undef, undef, undef, undef, undef, undef, undef, undef, undef, undef, undef], defers := [] }) ?assign ?body ?done ?stop
  case assign =>
    intro l y X K hK
    simp only [limbAt]
    gi_wp2
    exact hK
  case body =>
    rintro l pre ⟨k, hk⟩ X ⟨⟨⟨⟨⟨hblk, q0⟩, q1⟩, q2⟩, q3⟩, hB⟩ hlt
    have hkm : k < vs.length := by omega
    obtain ⟨ok1, okw, ok2, ok3⟩ := rowOf_ok zs off x vs hwz hx hwv (pre.map Fin.val)
    obtain ⟨st, hst⟩ : ∃ st, rowOf zs off x vs (pre.map Fin.val) = st := ⟨_, rfl⟩
    rw [hst] at hblk q2 ok1 okw ok2 ok3
    obtain ⟨z, c⟩ := st
    simp only at hblk q2 ok1 okw ok2 ok3
    obtain ⟨y, hyk⟩ : ∃ y, vs.getD k 0 = y := ⟨_, rfl⟩
    obtain ⟨t, htk⟩ : ∃ t, z.getD (off + k) 0 = t := ⟨_, rfl⟩
    have by' : 0 ≤ y ∧ y < 4294967296 := hyk ▸ hwv.getD k
    have bt : 0 ≤ t ∧ t < 4294967296 := htk ▸ okw.getD (off + k)
    have bxy := prod_limbs hx by'
    obtain ⟨by0, by1⟩ := by'
    obtain ⟨bt0, bt1⟩ := bt
    obtain ⟨bx0, bx1⟩ := hx
    have hyk2 : vs[k]?.getD 0 = y := hyk
    simp only [hyk2]
    have hct := hblk.cell (off + k) (by omega)
    rw [htk] at hct
    have HY := Lib.hid hyk
    have HT := Lib.hid htk
    have HS := Lib.hid hst
    clear hyk htk hyk2 hst
    have c0 := q0.cell
    have c1 := q1.cell
    have c3 := q3.cell
    have hsX := hB.size
    have hkL : k < L := by omega
    refine wpIn_block ?_
    refine region_round (fun X' => X'.cell? ⟨w.heap.size, 0, none⟩ = some (.slice (some ⟨g, off, none⟩) L cap) ∧ X'.cell? ⟨w.heap.size + 1, 0, none⟩ = some (.int .u32 x) ∧ X'.cell? ⟨w.heap.size + 1 + 1 + 1, 0, none⟩ = some (Value.func (.func 150) #[] #[.pointer (some ⟨w.heap.size + 1 + 1, 0, none⟩)]))
      (by kernel_rfl) (by kernel_rfl) (by rintro ⟨a', w', h⟩; exact h) ⟨c0, c1, c3⟩ (fun hHeld => ?_)
    refine wpAnyH_take (i := 0) (v := ?va0) rfl (by kernel_rfl) (by kernel_rfl) (by kernel_rfl) (fun _ _ _ h => h) (Or.inl ⟨by rfl, ?ha0⟩) (by assumption) ?ra0
    case ha0 =>
      intro w hSw
      try dsimp only at hSw
      go_simp
      try with_reducible rfl
    try simp only [Act.put, List.setIfInBounds_toArray, List.set_cons_zero, List.set_cons_succ]
    refine wpAnyH_take (i := 1) (v := ?va1) rfl (by kernel_rfl) (by kernel_rfl) (by kernel_rfl) (fun _ _ _ h => h) (Or.inl ⟨by rfl, ?ha1⟩) (by assumption) ?ra1
    case ha1 =>
      intro w hSw
      try dsimp only at hSw
      go_simp
      try with_reducible rfl
    try simp only [Act.put, List.setIfInBounds_toArray, List.set_cons_zero, List.set_cons_succ]
    refine wpAnyH_take (i := 2) (v := ?va2) rfl (by kernel_rfl) (by kernel_rfl) (by kernel_rfl) (fun _ _ _ h => h) (Or.inl ⟨by rfl, ?ha2⟩) (by assumption) ?ra2
    case ha2 =>
      intro w hSw
      try dsimp only at hSw
      go_simp
      try with_reducible rfl
    try simp only [Act.put, List.setIfInBounds_toArray, List.set_cons_zero, List.set_cons_succ]
    refine wpAnyH_take (i := 3) (v := ?va3) rfl (by kernel_rfl) (by kernel_rfl) (by kernel_rfl) (fun _ _ _ h => h) (Or.inl ⟨by rfl, ?ha3⟩) (by assumption) ?ra3
    case ha3 =>
      intro w hSw
      try dsimp only at hSw
      go_simp
      try with_reducible rfl
    try simp only [Act.put, List.setIfInBounds_toArray, List.set_cons_zero, List.set_cons_succ]
    refine wpAnyH_take (i := 4) (v := ?va4) rfl (by kernel_rfl) (by kernel_rfl) (by kernel_rfl) (fun _ _ _ h => h) (Or.inl ⟨by rfl, ?ha4⟩) (by assumption) ?ra4
    case ha4 =>
      intro w hSw
      try dsimp only at hSw
      go_simp
      try with_reducible rfl
    try simp only [Act.put, List.setIfInBounds_toArray, List.set_cons_zero, List.set_cons_succ]
    refine wpAnyH_take (i := 5) (v := ?va5) rfl (by kernel_rfl) (by kernel_rfl) (by kernel_rfl) (fun _ _ _ h => h) (Or.inl ⟨by rfl, ?ha5⟩) (by assumption) ?ra5
    case ha5 =>
      intro w hSw
      try dsimp only at hSw
      go_simp
      try with_reducible rfl
    try simp only [Act.put, List.setIfInBounds_toArray, List.set_cons_zero, List.set_cons_succ]
    refine wpAnyH_take (i := 6) (v := ?va6) rfl (by kernel_rfl) (by kernel_rfl) (by kernel_rfl) (fun _ _ _ h => h) (Or.inl ⟨by rfl, ?ha6⟩) (by assumption) ?ra6
    case ha6 =>
      intro w hSw
      try dsimp only at hSw
      go_simp
      try with_reducible rfl
    try simp only [Act.put, List.setIfInBounds_toArray, List.set_cons_zero, List.set_cons_succ]
    refine wpAnyH_take (i := 7) (v := ?va7) rfl (by kernel_rfl) (by kernel_rfl) (by kernel_rfl) (fun _ _ _ h => h) (Or.inl ⟨by rfl, ?ha7⟩) (by assumption) ?ra7
    case ha7 =>
      intro w hSw
      try dsimp only at hSw
      go_simp
      try with_reducible rfl
    try simp only [Act.put, List.setIfInBounds_toArray, List.set_cons_zero, List.set_cons_succ]
    refine wpAnyH_take (i := 8) (v := ?va8) rfl (by kernel_rfl) (by kernel_rfl) (by kernel_rfl) (fun _ _ _ h => h) (Or.inl ⟨by rfl, ?ha8⟩) (by assumption) ?ra8
    case ha8 =>
      intro w hSw
      try dsimp only at hSw
      go_simp
      try with_reducible rfl
    try simp only [Act.put, List.setIfInBounds_toArray, List.set_cons_zero, List.set_cons_succ]
    refine wpAnyH_take (i := 9) (v := ?va9) rfl (by kernel_rfl) (by kernel_rfl) (by kernel_rfl) (fun _ _ _ h => h) (Or.inl ⟨by rfl, ?ha9⟩) (by assumption) ?ra9
    case ha9 =>
      intro w hSw
      try dsimp only at hSw
      go_simp
      try with_reducible rfl
    try simp only [Act.put, List.setIfInBounds_toArray, List.set_cons_zero, List.set_cons_succ]
    refine wpAnyH_take (i := 10) (v := ?va10) rfl (by kernel_rfl) (by kernel_rfl) (by kernel_rfl) (fun _ _ _ h => h) (Or.inl ⟨by rfl, ?ha10⟩) (by assumption) ?ra10
    case ha10 =>
      intro w hSw
      try dsimp only at hSw
      go_simp
      try with_reducible rfl
    try simp only [Act.put, List.setIfInBounds_toArray, List.set_cons_zero, List.set_cons_succ]
    refine wpAnyH_ready (rs := [11]) (by kernel_rfl) (by simp) ?_
    refine AllReadyH.cons rfl (fun K hK => ?sb11) AllReadyH.nil
    go_simp
    refine hK.out _ _ ?kb11 (fun hHeld => ?mb11)
    case kb11 =>
      try dsimp only
      exact hHeld
    clear hK K
    try simp only [Act.put, List.setIfInBounds_toArray, List.set_cons_zero, List.set_cons_succ]
    refine wpAnyH_take (i := 12) (v := ?va12) rfl (by kernel_rfl) (by kernel_rfl) (by kernel_rfl) (fun _ _ _ h => h) (Or.inl ⟨by rfl, ?ha12⟩) (by assumption) ?ra12
    case ha12 =>
      intro w hSw
      try dsimp only at hSw
      go_simp
      try with_reducible rfl
    try simp only [Act.put, List.setIfInBounds_toArray, List.set_cons_zero, List.set_cons_succ]
    refine wpAnyH_ready (rs := [13]) (by kernel_rfl) (by simp) ?_
    refine AllReadyH.cons rfl (fun K hK => ?sb13) AllReadyH.nil
    go_simp
    refine hK.out _ _ ?kb13 (fun hHeld => ?mb13)
    case kb13 =>
      try dsimp only
      simp [*, World.cell?_alloc_some]
    clear hK K
    try simp only [Act.put, List.setIfInBounds_toArray, List.set_cons_zero, List.set_cons_succ]
    refine wpAnyH_ready (rs := [14]) (by kernel_rfl) (by simp) ?_
    refine AllReadyH.cons rfl (fun K hK => ?sb14) AllReadyH.nil
    go_simp
    rw [wrap_u64 bx0 (by omega), wrap_u64 by0 (by omega), wrap_u64 (x := x * y) bxy.1 (by omega), wrap_u64 bt0 (by omega)]
    refine (carry2 c (x * y) t (w.heap.size + 1 + 1) X.drew ok2 bxy.1 bt0 (by omega) q2).mono ?_
    rintro e w2 ⟨rfl, hcar2, hgr⟩
    go_simp
    refine hK.out _ _ ?kb14 (fun hHeld => ?mb14)
    case kb14 =>
      try dsimp only
      exact ⟨hgr.cell c0 (by simp <;> omega), hgr.cell c1 (by simp <;> omega), hgr.cell c3 (by simp <;> omega)⟩
    clear hK K
    try simp only [Act.put, List.setIfInBounds_toArray, List.set_cons_zero, List.set_cons_succ]
    have hblk2 : Blk w2 g z := Blk.grown (w := X.drew) hblk hgr (by simp <;> omega)
    have hcell2 := hblk2.cell (off + k) (by omega)
    have hfree2 := hblk2.free (off + k)
    refine wpAnyH_take (i := 15) (v := ?va15) rfl (by kernel_rfl) (by kernel_rfl) (by kernel_rfl) (fun _ _ _ h => h) (Or.inl ⟨by rfl, ?ha15⟩) (by assumption) ?ra15
    case ha15 =>
      intro w hSw
      try dsimp only at hSw
      go_simp
      try with_reducible rfl
    try simp only [Act.put, List.setIfInBounds_toArray, List.set_cons_zero, List.set_cons_succ]
    refine wpAnyH_ready (rs := [16]) (by kernel_rfl) (by simp) ?_
    refine AllReadyH.cons rfl (fun K hK => ?sb16) AllReadyH.nil
    go_simp
    refine hK.out _ _ ?kb16 (fun hHeld => ?mb16)
    case kb16 =>
      try dsimp only
      exact ⟨(World.cell?_setCell_far _ _ _ _ (by simp <;> omega)).trans hHeld.1, (World.cell?_setCell_far _ _ _ _ (by simp <;> omega)).trans hHeld.2.1, (World.cell?_setCell_far _ _ _ _ (by simp <;> omega)).trans hHeld.2.2⟩
    clear hK K
    try simp only [Act.put, List.setIfInBounds_toArray, List.set_cons_zero, List.set_cons_succ]
    refine wpAnyH_done (by kernel_rfl) ?_ _
    have hko : KeepsOthers X w2 := (KeepsOthers.drew X).trans (KeepsOthers.of_grownBy hgr (fun j o ej hj => by cases ej; rw [show X.drew.heap[w.heap.size + 1 + 1]? = _ from q2] at hj; cases hj; rfl))
    have hbo : Below g X w2 := (Below.refl _ X).drew.grown hgr (show g ≤ X.heap.size by omega) (fun j ej => by cases ej; omega)
    have u0 : Boxed w2 w.heap.size _ _ := Boxed.kept (W := X.drew) q0 hgr (by simp <;> omega)
    have u1 : Boxed w2 (w.heap.size + 1) _ _ := Boxed.kept (W := X.drew) q1 hgr (by simp <;> omega)
    have u3 : Boxed w2 (w.heap.size + 1 + 1 + 1) _ _ := Boxed.kept (W := X.drew) q3 hgr (by simp <;> omega)
    have ub := hblk2.set (off + k) ((c + x * y + t) % 4294967296)
    have es : rowOf zs off x vs ((pre ++ [(⟨k, hk⟩ : Fin (trimN vs vs.length))]).map Fin.val) = (z.set (off + k) ((c + x * y + t) % 4294967296), (c + x * y + t) / 4294967296) := by
      rw [List.map_append, List.map_cons, List.map_nil, rowOf_snoc, HS.out]
      simp only [rowStep, HY.out, HT.out]
    have hgw : w.grownBy w2 (some g) := grown_trans hB (grown_drew hgr) (fun r e => by cases e; exact .inr (by omega))
    refine ⟨hko.trans (KeepsOthers.setCell _ _ _), hbo.setCell (p := ⟨g, off + k, none⟩) (Nat.le_refl _) _, ?_, ?_⟩
    · rw [es]
      exact ⟨⟨⟨⟨ub, Boxed.far u0 (by simp <;> omega) _⟩, Boxed.far u1 (by simp <;> omega) _⟩, Boxed.far (t := 117) hcar2 (by simp <;> omega) _⟩, Boxed.far u3 (by simp <;> omega) _⟩
    · exact grown_trans hgw (Only.set w2 g (off + k) _).grown (fun r e => .inl e.symm)
  case done =>
    rintro D ks X hD hup ⟨⟨⟨⟨⟨hblk, q0⟩, q1⟩, q2⟩, q3⟩, hB⟩ hK
    obtain ⟨ok1, okw, ok2, ok3⟩ := rowOf_ok zs off x vs hwz hx hwv (ks.map Fin.val)
    have hst : rowOf zs off x vs (ks.map Fin.val) = rowOf zs off x vs (List.range vs.length) := by rw [hup, htr]
    rw [hst] at hblk q2 ok1 okw ok2 ok3
    have hrow : rowL zs off x vs = (rowOf zs off x vs (List.range vs.length)).1.set (off + vs.length) (rowOf zs off x vs (List.range vs.length)).2 := rfl
    generalize rowOf zs off x vs (List.range vs.length) = st at hblk q2 ok1 okw ok2 ok3 hrow
    obtain ⟨z, c⟩ := st
    simp only at hblk q2 ok1 okw ok2 ok3 hrow
    have HR := Lib.hid hrow
    have hstep : z.length = zs.length := ok1
    clear hst hrow
    have c0 := q0.cell
    have c3 := q3.cell
    have hsX := hB.size
    gi_wp2_with fail
    refine wpIn_wide.2 ?_
    go_region_held3 (fun X' => X'.cell? ⟨w.heap.size, 0, none⟩ = some (.slice (some ⟨g, off, none⟩) L cap) ∧ X'.cell? ⟨w.heap.size + 1 + 1 + 1, 0, none⟩ = some (Value.func (.func 150) #[] #[.pointer (some ⟨w.heap.size + 1 + 1, 0, none⟩)]))
      (first | exact ⟨hgr.cell c0 (by simp <;> omega), hgr.cell c3 (by simp <;> omega)⟩ | exact ⟨(World.cell?_setCell_far _ _ _ _ (by simp <;> omega)).trans (hgr.cell c0 (by simp <;> omega)), (World.cell?_setCell_far _ _ _ _ (by simp <;> omega)).trans (hgr.cell c3 (by simp <;> omega))⟩ | go_keep)
      (first | (go_at_call 150; refine (carry0 c (w.heap.size + 1 + 1) X.drew ok2 (by omega) q2).mono ?_; rintro e w2 ⟨rfl, hcar2, hgr⟩; have hblk2 : Blk w2 g z := Blk.grown (w := X.drew) hblk hgr (by simp <;> omega); have hcell2 := hblk2.cell (off + vs.length) (by omega); have hfree2 := hblk2.free (off + vs.length)))
    have hDX : D < X.heap.size := (Array.getElem?_eq_some_iff.1 hK).1
    have hK2 : w2.heap[D]? = some (.deferred (some [])) := (hgr.block D hDX (by simp <;> omega)).trans hK
    have hK3 : (w2.setCell ⟨g, off + vs.length, none⟩ (.int .u32 (c % 4294967296))).heap[D]? = some (.deferred (some [])) := (Below.heap_setCell _ _ _ _ (by simp <;> omega)).trans hK2
    refine ⟨by simp, .inl ⟨_, _, rfl, run_takeDeferred hK3, ?_⟩⟩
    have ub := hblk2.set (off + vs.length) (c % 4294967296)
    rw [Int.emod_eq_of_lt ok2 ok3, ← HR.out] at ub
    refine ⟨_, results_none rfl _ _ _, rfl, ?_, ?_⟩
    · rw [Int.emod_eq_of_lt ok2 ok3]
      exact Blk.grown ub (grownBy_putObj' _ D (.deferred none)) (by simp <;> omega)
    · refine grown_trans (grown_trans (grown_trans hB (grown_drew hgr) (fun r e => by cases e; exact .inr (by omega))) (Only.set w2 g (off + vs.length) _).grown (fun r e => .inl e.symm)) (grownBy_putObj' _ D (.deferred none)) (fun r e => by cases e; exact .inr (by omega))
  case stop =>
    rintro D c pre X _ _ h _
    exact h.elim
end
section
open Go.RowKit Go.Shelf
attribute [local go_sem] Oper.semAt_some
theorem trimN_last (xs : List Int) (n : Nat) (h : 0 < trimN xs n) : xs.getD (trimN xs n - 1) 0 ≠ 0 := by
  induction n with
  | zero => simp [trimN] at h
  | succ n ih =>
    unfold trimN at h ⊢
    split
    · rename_i hz; rw [if_pos hz] at h; exact ih h
    · rename_i hz; simpa using hz
theorem trim_full (xs : List Int) : trimN (trim xs) (trim xs).length = (trim xs).length := by
  rw [trim_length]
  have hl := trimN_last xs xs.length
  have hle := trim_le xs
  unfold trim
  generalize trimN xs xs.length = m at *
  cases m with
  | zero => rfl
  | succ j =>
    have h := hl (by omega)
    simp only [Nat.add_sub_cancel] at h
    unfold trimN
    rw [if_neg]
    simpa [List.getD, List.getElem?_take] using h
/-- the product's limbs when some rows are added -/
def mulOf (us vs : List Int) (ks : List Nat) : List Int := ks.foldl (fun z k => rowL z k (us.getD k 0) vs) (List.replicate (us.length + vs.length) 0)
def mulL (us vs : List Int) : List Int := mulOf us vs (List.range us.length)
theorem mulOf_snoc (us vs : List Int) (ks : List Nat) (k : Nat) : mulOf us vs (ks ++ [k]) = rowL (mulOf us vs ks) k (us.getD k 0) vs := by simp [mulOf]
theorem rowL_ok (zs : List Int) (off : Nat) (x : Int) (vs : List Int) (hz : Wf zs) (hx : 0 ≤ x ∧ x < 4294967296) (hv : Wf vs) : (rowL zs off x vs).length = zs.length ∧ Wf (rowL zs off x vs) := by
  obtain ⟨h1, h2, h3, h4⟩ := rowOf_ok zs off x vs hz hx hv (List.range vs.length)
  exact ⟨by simp [rowL, h1], h2.set _ ⟨h3, h4⟩⟩
theorem Wf.zeros (n : Nat) : Wf (List.replicate n 0) := fun x hx => by rw [List.eq_of_mem_replicate hx]; omega
theorem mulOf_ok (us vs : List Int) (hu : Wf us) (hv : Wf vs) (ks : List Nat) : (mulOf us vs ks).length = us.length + vs.length ∧ Wf (mulOf us vs ks) := by
  suffices h : ∀ z : List Int, z.length = us.length + vs.length ∧ Wf z → ((ks.foldl (fun z k => rowL z k (us.getD k 0) vs) z).length = us.length + vs.length ∧ Wf (ks.foldl (fun z k => rowL z k (us.getD k 0) vs) z)) from
    h _ ⟨by simp, Wf.zeros _⟩
  induction ks with
  | nil => exact fun z h => h
  | cons k ks ih =>
    intro z ⟨g1, g2⟩
    have h := rowL_ok z k (us.getD k 0) vs g2 (hu.getD k) hv
    exact ih _ ⟨h.1.trans g1, h.2⟩
set_option maxRecDepth 100000 in
set_option maxHeartbeats 4000000 in
set_option linter.unusedSimpArgs false in
theorem mul_any (a b : Option Addr) (xs ys : List Int) (capa capb : Nat) (w : World) (hla : Lim w a xs) (hlb : Lim w b ys) (hma : xs.length ≤ 35184372088832) (hmb : ys.length ≤ 35184372088832)
    (hca : xs.length ≤ capa) (hcb : ys.length ≤ capb) (hwa : Wf xs) (hwb : Wf ys) :
    Calls Tryz.prog 114 #[.slice a xs.length capa, .slice b ys.length capb] w fun e w' => ∃ v, e = .returned v ∧ Num w.heap.size w' v (trim (mulL (trim xs) (trim ys))) ∧ Below w.heap.size w w' := by
  have hta := trim_le xs
  have htb := trim_le ys
  obtain ⟨n, hn⟩ : ∃ n : Nat, Hid (3 ≤ n) := ⟨3, Nat.le_refl 3⟩
  refine (callsIn_wide (n := n)).1 ?_
  refine callsIn_of_wp_marks Tryz.func114 rfl trivial ?_ rfl
  simp only [Tryz.ntmps114, List.size_toArray, List.length_cons, List.length_nil, Nat.reduceAdd, Nat.reduceSub, Array.replicate_succ, Array.replicate_zero, List.push_toArray, List.append_toArray, List.nil_append, List.cons_append]
  gi_wp2_with fail
  have bB := Boxed.new w 42 (.slice b ys.length capb)
  have hB0 : Below w.heap.size w (w.alloc (.cells #[.slice b ys.length capb] 42)) := (Below.refl _ w).alloc (Nat.le_refl _) _
  have hs0 : (w.alloc (.cells #[.slice b ys.length capb] 42)).heap.size = w.heap.size + 1 := by simp
  generalize w.alloc (.cells #[.slice b ys.length capb] 42) = W at *
  have hcB := bB.cell
  have hfB := bB.frozen
  have hla' : Lim W.drew a xs := hla.later hB0.drew
  have hlb' : Lim W.drew b ys := hlb.later hB0.drew
  refine wpIn_wide.2 ?_
  go_still_tail 5, (by kernel_rfl)
  still_call (cut_still a xs capa _ hla' hma hca)
  repeat still_step
  still_call (cut_still b ys capb _ hlb' hmb hcb)
  repeat still_step
  refine wpStill_nil ?_
  have hlu : Lim w a (trim xs) := hla.take _
  have hlv : Lim w b (trim ys) := hlb.take _
  have hwu := hwa.trim
  have hwv := hwb.trim
  have htu := trim_full xs
  have htv := trim_full ys
  rw [← trim_length xs, ← trim_length ys]
  have hlen1 : (trim xs).length ≤ 35184372088832 := by rw [trim_length]; omega
  have hlen2 : (trim ys).length ≤ 35184372088832 := by rw [trim_length]; omega
  have hcu : (trim xs).length ≤ capa := by rw [trim_length]; omega
  have hcv : (trim ys).length ≤ capb := by rw [trim_length]; omega
  clear hla hlb hla' hlb' hta htb
  obtain ⟨us, hus⟩ : ∃ us, trim xs = us := ⟨_, rfl⟩
  obtain ⟨vs, hvs⟩ : ∃ vs, trim ys = vs := ⟨_, rfl⟩
  rw [hus] at hlu hlen1 hwu hcu htu ⊢
  rw [hvs] at hlv hlen2 hwv hcv htv ⊢
  have HU := Lib.hid hus
  have HV := Lib.hid hvs
  have HTU := Lib.hid htu
  have HTV := Lib.hid htv
  clear hus hvs htu htv
  go_wp2_with fail
  have bB2 : Boxed (W.setCell ⟨w.heap.size, 0, none⟩ (.slice b vs.length capb)).drew w.heap.size 42 (.slice b vs.length capb) := bB.set _
  have hB2 : Below w.heap.size w (W.setCell ⟨w.heap.size, 0, none⟩ (.slice b vs.length capb)).drew := (hB0.setCell (p := ⟨w.heap.size, 0, none⟩) (Nat.le_refl _) _).drew
  have hsz2 : (W.setCell ⟨w.heap.size, 0, none⟩ (.slice b vs.length capb)).drew.heap.size = w.heap.size + 1 := by have := (Only.set W w.heap.size 0 (.slice b vs.length capb)).size; exact this.trans hs0
  have hlu2 := hlu.later hB2
  have hlv2 := hlv.later hB2
  clear bB hB0 hcB hfB hlu hlv hs0
  generalize (W.setCell ⟨w.heap.size, 0, none⟩ (.slice b vs.length capb)).drew = V at *
  have hcB := bB2.cell
  have hsV : w.heap.size + 1 ≤ V.heap.size := by omega
  clear hsz2
  have hmk := make_runN (us.length + vs.length) (us.length + vs.length) (Nat.le_refl _) (by omega)
  rw [Int.natCast_add] at hmk
  gi_wp2_with fail
  refine wideCall ((limbs_any a us.length capa _).mono ?_)
  rintro e w' ⟨rfl, rfl⟩
  gi_wp2_with fail
  have j1 := ((Blk.made V (us.length + vs.length)).alloc (Obj.cells #[Value.slice (some ⟨V.heap.size, 0, none⟩) (us.length + vs.length) (us.length + vs.length)] 42)).alloc (Obj.cells #[Value.slice a us.length capa] 42)
  have j2 := (Boxed.new (V.alloc (Obj.cells (madeCells #[Value.int .u32 0] (us.length + vs.length)) 112)) 42 (Value.slice (some ⟨V.heap.size, 0, none⟩) (us.length + vs.length) (us.length + vs.length))).alloc (Obj.cells #[Value.slice a us.length capa] 42)
  have j5 := Boxed.new ((V.alloc (Obj.cells (madeCells #[Value.int .u32 0] (us.length + vs.length)) 112)).alloc (Obj.cells #[Value.slice (some ⟨V.heap.size, 0, none⟩) (us.length + vs.length) (us.length + vs.length)] 42)) 42 (Value.slice a us.length capa)
  have j6 : Below V.heap.size V (((V.alloc (Obj.cells (madeCells #[Value.int .u32 0] (us.length + vs.length)) 112)).alloc (Obj.cells #[Value.slice (some ⟨V.heap.size, 0, none⟩) (us.length + vs.length) (us.length + vs.length)] 42)).alloc (Obj.cells #[Value.slice a us.length capa] 42)) :=
    (((Below.refl _ V).alloc (Nat.le_refl _) _).alloc (by simp) _).alloc (by simp; omega) _
  have j7 : (((V.alloc (Obj.cells (madeCells #[Value.int .u32 0] (us.length + vs.length)) 112)).alloc (Obj.cells #[Value.slice (some ⟨V.heap.size, 0, none⟩) (us.length + vs.length) (us.length + vs.length)] 42)).alloc (Obj.cells #[Value.slice a us.length capa] 42)).heap.size = V.heap.size + 3 := by simp
  simp only [World.size_alloc] at j2 j5
  generalize (((V.alloc (Obj.cells (madeCells #[Value.int .u32 0] (us.length + vs.length)) 112)).alloc (Obj.cells #[Value.slice (some ⟨V.heap.size, 0, none⟩) (us.length + vs.length) (us.length + vs.length)] 42)).alloc (Obj.cells #[Value.slice a us.length capa] 42)) = W5 at *
  clear hmk
  have h3 : 3 ≤ n := hn
  refine wpIn_rangeFunc_ownF rfl (by omega) (gf := 154) (lb := #[.pointer (some ⟨V.heap.size + 1 + 1, 0, none⟩)]) rfl trivial (enters_of Tryz.func154 (by kernel_rfl) rfl)
    (limbs_stops (n - 1) (V.heap.size + 1 + 1) V.heap.size a us capa hlen1 hcu hlu2.lt _ (by omega) j5.cell (hlu2.later j6)) belowK_t (belowK_b (by omega)) (Below.refl _ _) (fun _ => rfl)
    (fun (pre : List (Fin (trimN us us.length))) X => (Blk X V.heap.size (mulOf us vs (pre.map Fin.val)) ∧ Boxed X (V.heap.size + 1) 42 (.slice (some ⟨V.heap.size, 0, none⟩) (us.length + vs.length) (us.length + vs.length))) ∧ Below V.heap.size V X)
    (fun _ _ _ => False)
    (OwnFrom.and (Own.from (Own.and2 (blk_own _ _) (boxed_own _ _ _)) _) (ownFrom_below (Nat.le_refl _) (by omega)))
    (fun _ _ _ _ _ hs _ _ => hs)
    ⟨⟨j1, j2⟩, j6⟩
    (fun (x : Fin (trimN us us.length)) => { tmps := #[.slice a us.length capa, .slice b ys.length capb, undef, .pointer (some ⟨w.heap.size, 0, none⟩), .slice none 0 0, .pointer (some ⟨V.heap.size + 1, 0, none⟩), .int .i64 (x.val : Int), .int .u32 (us[x.val]?.getD 0),
      .slice a xs.length capa, .slice a us.length capa, .slice b ys.length capb, .slice b vs.length capb, .slice a us.length capa, .int .i64 us.length, .slice b vs.length capb, .int .i64 vs.length, .int .i64 ((us.length : Int) + (vs.length : Int)),
      .slice (some ⟨V.heap.size, 0, none⟩) (us.length + vs.length) (us.length + vs.length), .slice a us.length capa, .func (.func 154) #[] #[.pointer (some ⟨V.heap.size + 1 + 1, 0, none⟩)], .int .i64 (x.val : Int), .int .u32 (us[x.val]?.getD 0),
      undef, undef, undef, undef, undef, undef, undef, undef], defers := [] }) ?assign ?body ?done ?stop
  case assign =>
    intro l x X K hK
    simp only [limbAt]
    gi_wp2
    exact hK
  case body =>
    rintro l pre ⟨k, hk⟩ X ⟨⟨hblk, q1⟩, hB⟩ hlt
    have hkm : k < us.length := by have := HTU.out; omega
    obtain ⟨ok1, okw⟩ := mulOf_ok us vs hwu hwv (pre.map Fin.val)
    obtain ⟨z, hz⟩ : ∃ z, mulOf us vs (pre.map Fin.val) = z := ⟨_, rfl⟩
    rw [hz] at hblk ok1 okw
    obtain ⟨x, hxk⟩ : ∃ x, us.getD k 0 = x := ⟨_, rfl⟩
    have bx : 0 ≤ x ∧ x < 4294967296 := hxk ▸ hwu.getD k
    have hxk2 : us[k]?.getD 0 = x := hxk
    simp only [hxk2]
    obtain ⟨L, hL⟩ : ∃ L, k + L = us.length + vs.length := ⟨us.length + vs.length - k, by omega⟩
    have hLk : us.length + vs.length - k = L := by omega
    have HX := Lib.hid hxk
    have HZ := Lib.hid hz
    have HL := Lib.hid hL
    have hLv : vs.length < L := by omega
    clear hxk hxk2 hz hL
    have hle2 : (k : Int) ≤ (us.length : Int) + (vs.length : Int) := by omega
    have hne2 : ¬ (us.length + vs.length = k) := by omega
    have c1 := q1.cell
    have bX : Boxed X w.heap.size 42 (.slice b vs.length capb) := (hB.block w.heap.size (by omega)).trans bB2
    have c0 := bX.cell
    have hsX := hB.size
    have hkN : k < us.length + vs.length := by omega
    refine wpIn_block ?_
    refine region_round (fun X' => X'.cell? ⟨V.heap.size + 1, 0, none⟩ = some (.slice (some ⟨V.heap.size, 0, none⟩) (us.length + vs.length) (us.length + vs.length)) ∧ X'.cell? ⟨w.heap.size, 0, none⟩ = some (.slice b vs.length capb))
      (by kernel_rfl) (by kernel_rfl) (by rintro ⟨a', w', h⟩; exact h) ⟨c1, c0⟩ (fun hHeld => ?_)
    refine wpAnyH_take (i := 0) (v := ?va0) rfl (by kernel_rfl) (by kernel_rfl) (by kernel_rfl) (fun _ _ _ h => h) (Or.inl ⟨by rfl, ?ha0⟩) (by assumption) ?ra0
    case ha0 =>
      intro w hSw
      try dsimp only at hSw
      go_simp
      try with_reducible rfl
    try simp only [Act.put, List.setIfInBounds_toArray, List.set_cons_zero, List.set_cons_succ]
    refine wpAnyH_take (i := 1) (v := ?va1) rfl (by kernel_rfl) (by kernel_rfl) (by kernel_rfl) (fun _ _ _ h => h) (Or.inl ⟨by rfl, ?ha1⟩) (by assumption) ?ra1
    case ha1 =>
      intro w hSw
      try dsimp only at hSw
      go_simp
      try with_reducible rfl
    try simp only [Act.put, List.setIfInBounds_toArray, List.set_cons_zero, List.set_cons_succ]
    refine wpAnyH_take (i := 2) (v := ?va2) rfl (by kernel_rfl) (by kernel_rfl) (by kernel_rfl) (fun _ _ _ h => h) (Or.inl ⟨by rfl, ?ha2⟩) (by assumption) ?ra2
    case ha2 =>
      intro w hSw
      try dsimp only at hSw
      go_simp
      try with_reducible rfl
    try simp only [Act.put, List.setIfInBounds_toArray, List.set_cons_zero, List.set_cons_succ]
    refine wpAnyH_take (i := 3) (v := ?va3) rfl (by kernel_rfl) (by kernel_rfl) (by kernel_rfl) (fun _ _ _ h => h) (Or.inl ⟨by rfl, ?ha3⟩) (by assumption) ?ra3
    case ha3 =>
      intro w hSw
      try dsimp only at hSw
      go_simp
      try with_reducible rfl
    try simp only [Act.put, List.setIfInBounds_toArray, List.set_cons_zero, List.set_cons_succ]
    refine wpAnyH_take (i := 4) (v := ?va4) rfl (by kernel_rfl) (by kernel_rfl) (by kernel_rfl) (fun _ _ _ h => h) (Or.inl ⟨by rfl, ?ha4⟩) (by assumption) ?ra4
    case ha4 =>
      intro w hSw
      try dsimp only at hSw
      go_simp
      try with_reducible rfl
    try simp only [Act.put, List.setIfInBounds_toArray, List.set_cons_zero, List.set_cons_succ]
    refine wpAnyH_ready (rs := [5]) (by kernel_rfl) (by simp) ?_
    refine AllReadyH.cons rfl (fun K hK => ?sb5) AllReadyH.nil
    go_simp
    refine (row_any V.heap.size k L L b z vs x capb X.drew hblk (by have := HL.out; omega) hLv ((hlv2.later hB).later (show Below X.heap.size X X.drew from (Below.refl _ _).drew)) hlen2 hcv HTV.out hlv2.lt okw hwv bx).mono ?_
    rintro e w2 ⟨rfl, hblk2, hgr⟩
    go_simp
    refine hK.out _ _ ?kb5 (fun hHeld => ?mb5)
    case kb5 =>
      try dsimp only
      exact ⟨hgr.cell c1 (by simp), hgr.cell c0 (by simp <;> omega)⟩
    clear hK K
    try simp only [Act.put, List.setIfInBounds_toArray, List.set_cons_zero, List.set_cons_succ]
    refine wpAnyH_done (by kernel_rfl) ?_ _
    have es : mulOf us vs ((pre ++ [(⟨k, hk⟩ : Fin (trimN us us.length))]).map Fin.val) = rowL z k x vs := by
      rw [List.map_append, List.map_cons, List.map_nil, mulOf_snoc, HZ.out, HX.out]
    have hbo : Below V.heap.size X w2 := (Below.refl _ X).drew.grown hgr hsX (fun j ej => by cases ej; exact Nat.le_refl _)
    refine ⟨(KeepsOthers.drew X).trans (KeepsOthers.of_grownBy hgr (fun j o ej hj => by cases ej; rw [show X.drew.heap[V.heap.size]? = _ from hblk] at hj; cases hj; rfl)), hbo, ?_, hB.trans hbo⟩
    rw [es]
    exact ⟨hblk2, Boxed.kept (W := X.drew) q1 hgr (by simp)⟩
  case done =>
    rintro D ks X hD hup ⟨⟨hblk, q1⟩, hB⟩ hK
    have ok1 := (mulOf_ok us vs hwu hwv (ks.map Fin.val)).1
    have hnum := Num.ofBlk hblk (Nat.le_refl _) (us.length + vs.length) (by omega) (by rw [ok1]; unfold maxLen; omega)
    rw [ok1, List.take_of_length_le (by omega)] at hnum
    have es : mulL us vs = mulOf us vs (ks.map Fin.val) := by unfold mulL; rw [hup, HTU.out]
    rw [← es] at hnum
    have c1 := q1.cell
    gi_wp2_with fail
    refine wideCall ((cut_num hnum).mono ?_)
    rintro e w' ⟨u, rfl, hu, rfl⟩
    gi_wp2_with fail
    refine ⟨by simp, .inl ⟨_, _, rfl, run_takeDeferred hK, ?_⟩⟩
    refine ⟨_, results_tmp rfl _ _ _, u, rfl, ?_, (hB2.trans (hB.mono (by omega))).trans (belowK_b (w := w) (Nat.le_refl _) X D _ _ (by omega) hK rfl rfl)⟩
    rw [HU.out, HV.out]
    exact ownsRow_putObj (hu.mono (by omega)) (.deferred none) hK rfl
  case stop =>
    rintro D c pre X _ _ h _
    exact h.elim
end
section
open Go.RowKit
theorem pow_pos' (k : Nat) : (0 : Int) < 4294967296 ^ k := Int.pow_pos (by omega)
theorem val_take_succ (xs : List Int) (k : Nat) : val (xs.take (k + 1)) = val (xs.take k) + 4294967296 ^ k * xs.getD k 0 := by
  by_cases h : k < xs.length
  · rw [List.take_succ_eq_append_getElem h, val_append, List.length_take, Nat.min_eq_left (by omega)]
    simp [val, h]
  · rw [List.take_of_length_le (by omega), List.take_of_length_le (by omega)]
    simp [List.getElem?_eq_none (Nat.le_of_not_lt h)]
theorem val_lt {xs : List Int} (h : Wf xs) : val xs < 4294967296 ^ xs.length := by
  induction xs with
  | nil => simp [val]
  | cons x xs ih =>
    have h1 := ih h.tail
    have h2 := h.head
    simp only [val, List.length_cons, Int.pow_succ]
    omega
theorem val_trimN (xs : List Int) (n : Nat) : val (xs.take (trimN xs n)) = val (xs.take n) := by
  induction n with
  | zero => rfl
  | succ n ih =>
    unfold trimN
    split
    · rename_i hz
      rw [val_take_succ, hz, ih]
      simp
    · rfl
theorem val_trim (xs : List Int) : val (trim xs) = val xs := by
  unfold trim
  rw [val_trimN, List.take_length]
theorem getD_ge_trimN (xs : List Int) (n k : Nat) (h1 : trimN xs n ≤ k) (h2 : k < n) : xs.getD k 0 = 0 := by
  induction n with
  | zero => omega
  | succ n ih =>
    unfold trimN at h1
    split at h1
    · rename_i hz
      by_cases e : k = n
      · rw [e]; exact hz
      · exact ih h1 (by omega)
    · omega
theorem val_take_ge (xs : List Int) (k : Nat) (h : trimN xs xs.length ≤ k) : val (xs.take k) = val xs := by
  induction k with
  | zero =>
    have h0 : trimN xs xs.length = 0 := by omega
    rw [← val_trim xs]
    unfold trim
    rw [h0]
  | succ k ih =>
    by_cases hk : trimN xs xs.length ≤ k
    · rw [val_take_succ, ih hk]
      by_cases hl : k < xs.length
      · rw [getD_ge_trimN xs xs.length k hk hl]; simp
      · simp [List.getElem?_eq_none (Nat.le_of_not_lt hl)]
    · have e : trimN xs xs.length = k + 1 := by omega
      rw [← e]
      exact val_trim xs
theorem trim_wf {xs : List Int} (h : Wf xs) : Wf (trim xs) := h.trim
/-- numbers are told in one way -/
theorem getD_eq_of_val {us vs : List Int} (hu : Wf us) (hv : Wf vs) (h : val us = val vs) : ∀ k, us.getD k 0 = vs.getD k 0 := by
  induction us generalizing vs with
  | nil =>
    induction vs with
    | nil => intro k; rfl
    | cons y ys ih =>
      have h1 := hv.head
      have h2 := val_nonneg hv.tail
      simp only [val] at h
      have hy : y = 0 := by omega
      have hys : val [] = val ys := by simp only [val]; omega
      intro k
      cases k with
      | zero => simp [hy]
      | succ k => have := ih hv.tail hys k; simpa using this
  | cons x xs ih =>
    cases vs with
    | nil =>
      have h1 := hu.head
      have h2 := val_nonneg hu.tail
      simp only [val] at h
      have hx : x = 0 := by omega
      intro k
      cases k with
      | zero => simp [hx]
      | succ k => have := ih hu.tail Wf.nil (by simp only [val]; omega) k; simpa using this
    | cons y ys =>
      have h1 := hu.head
      have h2 := hv.head
      simp only [val] at h
      intro k
      cases k with
      | zero => simp; omega
      | succ k => have := ih hu.tail hv.tail (by omega) k; simpa using this
theorem canon {us vs : List Int} (hu : Wf us) (hv : Wf vs) (fu : trimN us us.length = us.length) (fv : trimN vs vs.length = vs.length) (h : val us = val vs) : us = vs := by
  have hd := getD_eq_of_val hu hv h
  have lu := trimN_last us us.length
  have lv := trimN_last vs vs.length
  rw [fu] at lu
  rw [fv] at lv
  have hl : us.length = vs.length := by
    rcases Nat.lt_trichotomy us.length vs.length with h1 | h1 | h1
    · exfalso
      refine lv (by omega) ?_
      rw [← hd]
      simp [List.getElem?_eq_none (show us.length ≤ vs.length - 1 by omega)]
    · exact h1
    · exfalso
      refine lu (by omega) ?_
      rw [hd]
      simp [List.getElem?_eq_none (show vs.length ≤ us.length - 1 by omega)]
  apply List.ext_getElem hl
  intro i h1 h2
  have := hd i
  simpa [h1, h2] using this
theorem mod_div (s : Int) : s % 4294967296 + 4294967296 * (s / 4294967296) = s := by omega
theorem val_addTo (xs ys : List Int) (k : Nat) : val (addTo xs ys k).1 + 4294967296 ^ k * (addTo xs ys k).2 = val (xs.take k) + val (ys.take k) := by
  induction k with
  | zero => simp [addTo, val]
  | succ k ih =>
    rw [val_take_succ, val_take_succ]
    simp only [addTo]
    rw [val_append, addTo_length]
    simp only [val, Int.pow_succ]
    have hm := mod_div ((addTo xs ys k).2 + xs.getD k 0 + ys.getD k 0)
    generalize (addTo xs ys k).2 = c at *
    generalize ((c + xs.getD k 0 + ys.getD k 0) % 4294967296) = r at *
    generalize ((c + xs.getD k 0 + ys.getD k 0) / 4294967296) = q at *
    generalize (4294967296 : Int) ^ k = P at *
    grind
theorem val_addL (xs ys : List Int) : val (addL xs ys) = val xs + val ys := by
  unfold addL
  rw [val_append, addTo_length]
  have h := val_addTo xs ys (addN xs ys)
  rw [val_take_ge xs _ (by unfold addN; omega), val_take_ge ys _ (by unfold addN; omega)] at h
  simp only [val, Int.mul_zero, Int.add_zero]
  exact h
theorem addL_wf {xs ys : List Int} (hx : Wf xs) (hy : Wf ys) : Wf (addL xs ys) := by
  have h := addTo_carry xs ys hx hy (addN xs ys)
  exact (addTo_wf xs ys _).append (Wf.cons (by omega) Wf.nil)
theorem val_set (xs : List Int) (k : Nat) (a : Int) (h : k < xs.length) : val (xs.set k a) = val xs + 4294967296 ^ k * (a - xs.getD k 0) := by
  induction xs generalizing k with
  | nil => simp at h
  | cons x xs ih =>
    cases k with
    | zero => simp [val]; omega
    | succ k =>
      have := ih k (by simpa using h)
      simp only [List.set_cons_succ, val, this, Int.pow_succ]
      simp only [List.getD_cons_succ]
      grind
theorem getD_set (xs : List Int) (k j : Nat) (a : Int) (hk : k < xs.length) : (xs.set k a).getD j 0 = if j = k then a else xs.getD j 0 := by
  by_cases e : j = k
  · subst e; simp [hk]
  · simp only [List.getD, List.getElem?_set]
    rw [if_neg (Ne.symm e), if_neg e]
theorem rowOf_val (zs : List Int) (off : Nat) (x : Int) (vs : List Int) (hl : off + vs.length < zs.length) (k : Nat) (hk : k ≤ vs.length) :
    (rowOf zs off x vs (List.range k)).1.length = zs.length ∧
    val (rowOf zs off x vs (List.range k)).1 + 4294967296 ^ (off + k) * (rowOf zs off x vs (List.range k)).2 = val zs + 4294967296 ^ off * (x * val (vs.take k)) ∧
    (∀ j, off + k ≤ j → (rowOf zs off x vs (List.range k)).1.getD j 0 = zs.getD j 0) := by
  induction k with
  | zero => simp [rowOf, val]
  | succ k ih =>
    obtain ⟨h1, h2, h3⟩ := ih (by omega)
    rw [List.range_succ, rowOf_snoc]
    generalize rowOf zs off x vs (List.range k) = st at *
    obtain ⟨z, c⟩ := st
    simp only at h1 h2 h3
    simp only [rowStep]
    refine ⟨by simp [h1], ?_, fun j hj => ?_⟩
    · rw [val_set _ _ _ (by omega), val_take_succ]
      have hm := mod_div (c + x * vs.getD k 0 + z.getD (off + k) 0)
      have hp : (4294967296 : Int) ^ (off + (k + 1)) = 4294967296 ^ (off + k) * 4294967296 := by rw [show off + (k + 1) = (off + k) + 1 from by omega, Int.pow_succ]
      have hq : (4294967296 : Int) ^ (off + k) = 4294967296 ^ off * 4294967296 ^ k := Int.pow_add ..
      rw [hp]
      generalize ((c + x * vs.getD k 0 + z.getD (off + k) 0) % 4294967296) = r at *
      generalize ((c + x * vs.getD k 0 + z.getD (off + k) 0) / 4294967296) = q at *
      generalize (4294967296 : Int) ^ (off + k) = P at *
      generalize (4294967296 : Int) ^ k = P2 at *
      generalize (4294967296 : Int) ^ off = P1 at *
      generalize vs.getD k 0 = y at *
      generalize z.getD (off + k) 0 = t at *
      generalize val (vs.take k) = vv at *
      grind
    · rw [getD_set _ _ _ _ (by omega), if_neg (by omega)]
      exact h3 j (by omega)
theorem rowL_val (zs : List Int) (off : Nat) (x : Int) (vs : List Int) (hl : off + vs.length < zs.length) (h0 : zs.getD (off + vs.length) 0 = 0) :
    val (rowL zs off x vs) = val zs + 4294967296 ^ off * (x * val vs) ∧ (∀ j, off + vs.length < j → (rowL zs off x vs).getD j 0 = zs.getD j 0) := by
  obtain ⟨h1, h2, h3⟩ := rowOf_val zs off x vs hl vs.length (Nat.le_refl _)
  rw [List.take_length] at h2
  unfold rowL
  generalize rowOf zs off x vs (List.range vs.length) = st at *
  obtain ⟨z, c⟩ := st
  simp only at h1 h2 h3
  refine ⟨?_, fun j hj => ?_⟩
  · rw [val_set _ _ _ (show off + vs.length < z.length by omega), h3 _ (Nat.le_refl _), h0, ← h2, Int.sub_zero]
  · rw [getD_set _ _ _ _ (show off + vs.length < z.length by omega), if_neg (by omega)]
    exact h3 j (by omega)
theorem mulOf_val (us vs : List Int) (k : Nat) (hk : k ≤ us.length) : (mulOf us vs (List.range k)).length = us.length + vs.length ∧ val (mulOf us vs (List.range k)) = val (us.take k) * val vs ∧
    (∀ j, k + vs.length ≤ j → (mulOf us vs (List.range k)).getD j 0 = 0) := by
  induction k with
  | zero =>
    simp only [List.range_zero, mulOf, List.foldl_nil, List.length_replicate, val_zeros, List.take_zero, val, Int.zero_mul, true_and]
    intro j _
    by_cases h : j < us.length + vs.length
    · simp [h]
    · simp [h]
  | succ k ih =>
    obtain ⟨h1, h2, h3⟩ := ih (by omega)
    rw [List.range_succ, mulOf_snoc]
    obtain ⟨g1, g2⟩ := rowL_val (mulOf us vs (List.range k)) k (us.getD k 0) vs (by omega) (h3 _ (Nat.le_refl _))
    obtain ⟨g0, _, _⟩ := rowOf_val (mulOf us vs (List.range k)) k (us.getD k 0) vs (by omega) vs.length (Nat.le_refl _)
    refine ⟨by unfold rowL; rw [List.length_set]; exact g0.trans h1, ?_, fun j hj => by rw [g2 j (by omega)]; exact h3 j (by omega)⟩
    rw [g1, h2, val_take_succ]
    generalize val (us.take k) = A
    generalize (4294967296 : Int) ^ k = P
    grind
theorem val_mulL (us vs : List Int) : val (mulL us vs) = val us * val vs := by
  have h := (mulOf_val us vs us.length (Nat.le_refl _)).2.1
  rw [List.take_length] at h
  exact h
theorem mulL_wf {us vs : List Int} (hu : Wf us) (hv : Wf vs) : Wf (mulL us vs) := (mulOf_ok us vs hu hv _).2
theorem subOf_val (xs ys : List Int) (m k : Nat) (hk : k ≤ m) : (subOf xs ys m (List.range k)).1.length = m ∧
    val ((subOf xs ys m (List.range k)).1.take k) + 4294967296 ^ k * (subOf xs ys m (List.range k)).2 = val (xs.take k) - val (ys.take k) + 4294967296 ^ k := by
  induction k with
  | zero => simp [subOf, val]
  | succ k ih =>
    obtain ⟨h1, h2⟩ := ih (by omega)
    rw [List.range_succ, subOf_snoc]
    generalize subOf xs ys m (List.range k) = st at *
    obtain ⟨z, c⟩ := st
    simp only at h1 h2
    simp only [subStep]
    refine ⟨by simp [h1], ?_⟩
    rw [val_take_succ, val_take_succ, val_take_succ, getD_set _ _ _ _ (by omega), if_pos rfl]
    have e : (z.set k ((c + xs.getD k 0 + (4294967295 - ys.getD k 0)) % 4294967296)).take k = z.take k := by
      rw [List.take_set, List.set_eq_of_length_le (by rw [List.length_take]; omega)]
    rw [e]
    have hm := mod_div (c + xs.getD k 0 + (4294967295 - ys.getD k 0))
    simp only [Int.pow_succ]
    generalize ((c + xs.getD k 0 + (4294967295 - ys.getD k 0)) % 4294967296) = r at *
    generalize ((c + xs.getD k 0 + (4294967295 - ys.getD k 0)) / 4294967296) = q at *
    generalize (4294967296 : Int) ^ k = P at *
    generalize xs.getD k 0 = x at *
    generalize ys.getD k 0 = y at *
    generalize val (z.take k) = Z at *
    generalize val (xs.take k) = XX at *
    generalize val (ys.take k) = YY at *
    grind
theorem subOf_wf (xs ys : List Int) (m : Nat) (ks : List Nat) : Wf (subOf xs ys m ks).1 := by
  suffices h : ∀ s : List Int × Int, Wf s.1 → Wf (ks.foldl (subStep xs ys) s).1 from h _ (Wf.zeros m)
  induction ks with
  | nil => exact fun s h => h
  | cons k ks ih => exact fun s h => ih _ (h.set _ (by omega))
theorem subL_wf (xs ys : List Int) : Wf (subL xs ys) := subOf_wf _ _ _ _
theorem one_of_mul {P c d z : Int} (h : z + P * c = d + P) (hz : 0 ≤ z) (hz2 : z < P) (hd : 0 ≤ d) (hd2 : d < P) : z = d := by
  have h1 : P * (c - 1) = d - z := by rw [Int.mul_sub]; omega
  have h2 : c = 1 := by
    rcases Int.lt_trichotomy c 1 with h3 | h3 | h3
    · have : P * (c - 1) ≤ P * (-1) := Int.mul_le_mul_of_nonneg_left (by omega) (by omega)
      omega
    · exact h3
    · have : P * 1 ≤ P * (c - 1) := Int.mul_le_mul_of_nonneg_left (by omega) (by omega)
      omega
  subst h2
  omega
theorem val_subL {xs ys : List Int} (hx : Wf xs) (hy : Wf ys) (hl : trimN ys ys.length ≤ trimN xs xs.length) (h : val ys ≤ val xs) : val (subL xs ys) = val xs - val ys := by
  obtain ⟨h1, h2⟩ := subOf_val xs ys (trimN xs xs.length) (trimN xs xs.length) (Nat.le_refl _)
  have hw := subL_wf xs ys
  unfold subL at hw ⊢
  rw [val_take_ge xs _ (Nat.le_refl _), val_take_ge ys _ hl, List.take_of_length_le (by omega)] at h2
  have hb := val_lt hx.trim
  rw [val_trim, trim_length] at hb
  have hz := val_lt hw
  rw [h1] at hz
  have hy0 := val_nonneg hy
  exact one_of_mul h2 (val_nonneg hw) hz (by omega) (by omega)
theorem full_ge {us : List Int} (hu : Wf us) (f : trimN us us.length = us.length) (j : Nat) (hj : us.length = j + 1) : 4294967296 ^ j ≤ val us := by
  have h1 := trimN_last us us.length (by omega)
  rw [f, hj, Nat.add_sub_cancel] at h1
  have h2 := hu.getD j
  have h3 := val_take_succ us j
  rw [← hj, List.take_length] at h3
  have h4 := val_nonneg (hu.take j)
  have h5 : (4294967296 : Int) ^ j * 1 ≤ 4294967296 ^ j * us.getD j 0 := Int.mul_le_mul_of_nonneg_left (by omega) (Int.le_of_lt (pow_pos' j))
  omega
theorem len_lt {us vs : List Int} (hu : Wf us) (hv : Wf vs) (fv : trimN vs vs.length = vs.length) (h : us.length < vs.length) : val us < val vs := by
  obtain ⟨j, hj⟩ : ∃ j, vs.length = j + 1 := ⟨vs.length - 1, by omega⟩
  have h1 := full_ge hv fv j hj
  have h2 := val_lt hu
  have h3 : (4294967296 : Int) ^ us.length ≤ 4294967296 ^ j := by
    rw [show j = us.length + (j - us.length) from by omega, Int.pow_add]
    have h4 : (4294967296 : Int) ^ us.length * 1 ≤ 4294967296 ^ us.length * 4294967296 ^ (j - us.length) := Int.mul_le_mul_of_nonneg_left (by have := pow_pos' (j - us.length); omega) (Int.le_of_lt (pow_pos' _))
    omega
  omega
theorem take_above (us vs : List Int) (i : Nat) (n : Nat) (h : ∀ j, i < j → j < n → us.getD j 0 = vs.getD j 0) (k : Nat) (hk : i + 1 ≤ k) (hn : k ≤ n) :
    val (us.take k) - val (vs.take k) = val (us.take (i + 1)) - val (vs.take (i + 1)) := by
  induction k with
  | zero => omega
  | succ k ih =>
    by_cases e : k = i
    · subst e; rfl
    · rw [val_take_succ us k, val_take_succ vs k, h k (by omega) (by omega)]
      have := ih (by omega) (by omega)
      omega
theorem top_lt {us vs : List Int} (hu : Wf us) (hv : Wf vs) (i : Nat) (h : us.getD i 0 < vs.getD i 0) : val (us.take (i + 1)) < val (vs.take (i + 1)) := by
  rw [val_take_succ, val_take_succ]
  have h1 := val_lt (hu.take i)
  have h2 := val_nonneg (hv.take i)
  have h3 : (4294967296 : Int) ^ (us.take i).length ≤ 4294967296 ^ i := by
    rw [List.length_take]
    rw [show i = min i us.length + (i - min i us.length) from by omega, Int.pow_add]
    rw [show min (min i us.length + (i - min i us.length)) us.length = min i us.length from by omega]
    have h4 : (4294967296 : Int) ^ min i us.length * 1 ≤ 4294967296 ^ min i us.length * 4294967296 ^ (i - min i us.length) := Int.mul_le_mul_of_nonneg_left (by have := pow_pos' (i - min i us.length); omega) (Int.le_of_lt (pow_pos' _))
    omega
  have h5 : (4294967296 : Int) ^ i * (us.getD i 0 + 1) ≤ 4294967296 ^ i * vs.getD i 0 := Int.mul_le_mul_of_nonneg_left (by omega) (Int.le_of_lt (pow_pos' i))
  rw [Int.mul_add, Int.mul_one] at h5
  omega
theorem sign_lt {a b : Int} (h : a < b) : sign a b = -1 := if_pos h
theorem sign_gt {a b : Int} (h : b < a) : sign a b = 1 := by unfold sign; rw [if_neg (by omega), if_pos h]
theorem sign_self (a : Int) : sign a a = 0 := by unfold sign; rw [if_neg (by omega), if_neg (by omega)]
theorem cmp_val {us vs : List Int} {r : Int} (hu : Wf us) (hv : Wf vs) (fu : trimN us us.length = us.length) (fv : trimN vs vs.length = vs.length) (h : CmpT us vs r) :
    r = sign (val us) (val vs) ∧ (0 ≤ r → vs.length ≤ us.length) := by
  rcases h with ⟨hne, rfl⟩ | ⟨hl, he, rfl⟩ | ⟨hl, i, hi, hne, ha, rfl⟩
  · rcases Nat.lt_or_gt_of_ne hne with h1 | h1
    · rw [sign_lt (show ((us.length : Int) < vs.length) by omega), sign_lt (len_lt hu hv fv h1)]
      exact ⟨rfl, fun h => by omega⟩
    · rw [sign_gt (show ((vs.length : Int) < us.length) by omega), sign_gt (len_lt hv hu fu h1)]
      exact ⟨rfl, fun _ => by omega⟩
  · have e : us = vs := by
      apply List.ext_getElem hl
      intro j h1 h2
      have := he j h1
      simpa [h1, h2] using this
    rw [e, sign_self]
    exact ⟨rfl, fun _ => Nat.le_refl _⟩
  · have h1 := take_above us vs i us.length ha us.length (by omega) (Nat.le_refl _)
    rw [List.take_length] at h1
    rw [hl, List.take_length] at h1
    refine ⟨?_, fun _ => by omega⟩
    have hne' : us.getD i 0 ≠ vs.getD i 0 := hne
    rcases Int.lt_or_gt_of_ne hne' with h2 | h2
    · have h3 := top_lt hu hv i h2
      rw [sign_lt (show val us < val vs by omega)]
      exact sign_lt h2
    · have h3 := top_lt hv hu i h2
      rw [sign_gt (show val vs < val us by omega)]
      exact sign_gt h2
end
section
open Go.RowKit
/-- are they limbs of one number? -/
def eqB (xs ys : List Int) : Bool := (List.range (max xs.length ys.length)).all fun i => decide (xs.getD i 0 = ys.getD i 0)
theorem eqB_true {xs ys : List Int} : eqB xs ys = true ↔ ∀ i, i < max xs.length ys.length → xs.getD i 0 = ys.getD i 0 := by
  unfold eqB
  rw [List.all_eq_true]
  constructor
  · intro h i hi
    exact of_decide_eq_true (h i (List.mem_range.2 hi))
  · intro h i hi
    exact decide_eq_true (h i (List.mem_range.1 hi))
theorem eqB_false {xs ys : List Int} (i : Nat) (hi : i < max xs.length ys.length) (h : xs.getD i 0 ≠ ys.getD i 0) : eqB xs ys = false := by
  cases e : eqB xs ys with
  | false => rfl
  | true => exact absurd (eqB_true.1 e i hi) h
theorem eqB_self (xs : List Int) : eqB xs xs = true := eqB_true.2 fun _ _ => rfl
end
section
open Go.RowKit
theorem Blk.lit (w : World) (zs : List Int) : Blk (w.alloc (.cells (zs.map (Value.int .u32)).toArray 112)) w.heap.size zs := heap_alloc_new w _
theorem Blk.lim {w : World} {g : Nat} {zs : List Int} (h : Blk w g zs) : Lim w (some ⟨g, 0, none⟩) zs := .inr ⟨g, 0, rfl, fun i hi => by rw [Nat.zero_add]; exact h.cell i hi⟩
/-- a result: the number n, told in its one way -/
structure Res (base : Nat) (w : World) (u : Value) (zs : List Int) (n : Int) : Prop where
  num : Num base w u zs
  wf : Wf zs
  full : trimN zs zs.length = zs.length
  eq : val zs = n
theorem Res.later {base : Nat} {w w' : World} {u : Value} {zs : List Int} {n : Int} (h : Res base w u zs n) (hb : Below w.heap.size w w') : Res base w' u zs n := ⟨h.num.later hb, h.wf, h.full, h.eq⟩
theorem Res.unique {base base' : Nat} {w w' : World} {u u' : Value} {zs zs' : List Int} {n : Int} (h : Res base w u zs n) (h' : Res base' w' u' zs' n) : zs = zs' :=
  canon h.wf h'.wf h.full h'.full (h.eq.trans h'.eq.symm)
/-- an argument: the limbs xs -/
structure Arg (w : World) (u : Value) (xs : List Int) (ad : Option Addr) (cap : Nat) : Prop where
  is : u = .slice ad xs.length cap
  lim : Lim w ad xs
  le : xs.length ≤ cap
  wf : Wf xs
theorem Arg.later {w w' : World} {u : Value} {xs : List Int} {ad : Option Addr} {cap : Nat} (h : Arg w u xs ad cap) (hb : Below w.heap.size w w') : Arg w' u xs ad cap := ⟨h.is, h.lim.later hb, h.le, h.wf⟩
theorem Res.arg {base : Nat} {w : World} {u : Value} {zs : List Int} {n : Int} (h : Res base w u zs n) : ∃ ad cap, Arg w u zs ad cap := by
  obtain ⟨ad, cap, h1, h2, h3, _, _⟩ := h.num.read
  exact ⟨ad, cap, h1, h2, h3, h.wf⟩
theorem wf1 {x : Int} (h : 0 ≤ x ∧ x < 4294967296) : Wf [x] := Wf.cons h Wf.nil
theorem wf2 {x y : Int} (h : 0 ≤ x ∧ x < 4294967296) (k : 0 ≤ y ∧ y < 4294967296) : Wf [x, y] := Wf.cons h (wf1 k)
theorem trim_len_le (xs : List Int) : (trim xs).length ≤ xs.length := by rw [trim_length]; exact trim_le xs
theorem add_res {u v : Value} {xs ys : List Int} {a b : Option Addr} {capa capb : Nat} {w : World} (h1 : Arg w u xs a capa) (h2 : Arg w v ys b capb) (hx : xs.length ≤ 35184372088832) (hy : ys.length ≤ 35184372088832) :
    Calls Tryz.prog 111 #[u, v] w fun e w' => ∃ r zs, e = .returned r ∧ Res w.heap.size w' r zs (val xs + val ys) ∧ zs.length ≤ max xs.length ys.length + 1 ∧ Below w.heap.size w w' := by
  rw [h1.is, h2.is]
  refine (add_any a b xs ys capa capb w h1.lim h2.lim hx hy h1.le h2.le h1.wf h2.wf).mono fun e w' ⟨r, he, hn, hb⟩ => ⟨r, _, he, ⟨hn, (addL_wf h1.wf h2.wf).trim, trim_full _, by rw [val_trim, val_addL]⟩, ?_, hb⟩
  have := trim_len_le (addL xs ys)
  have h3 := addL_length xs ys
  have h4 := trim_le xs
  have h5 := trim_le ys
  unfold addN at h3
  omega
theorem mul_res {u v : Value} {xs ys : List Int} {a b : Option Addr} {capa capb : Nat} {w : World} (h1 : Arg w u xs a capa) (h2 : Arg w v ys b capb) (hx : xs.length ≤ 35184372088832) (hy : ys.length ≤ 35184372088832) :
    Calls Tryz.prog 114 #[u, v] w fun e w' => ∃ r zs, e = .returned r ∧ Res w.heap.size w' r zs (val xs * val ys) ∧ zs.length ≤ xs.length + ys.length ∧ Below w.heap.size w w' := by
  rw [h1.is, h2.is]
  refine (mul_any a b xs ys capa capb w h1.lim h2.lim hx hy h1.le h2.le h1.wf h2.wf).mono fun e w' ⟨r, he, hn, hb⟩ => ⟨r, _, he, ⟨hn, (mulL_wf h1.wf.trim h2.wf.trim).trim, trim_full _, by rw [val_trim, val_mulL, val_trim, val_trim]⟩, ?_, hb⟩
  have := trim_len_le (mulL (trim xs) (trim ys))
  have h3 := (mulOf_ok (trim xs) (trim ys) h1.wf.trim h2.wf.trim (List.range (trim xs).length)).1
  have h4 := trim_len_le xs
  have h5 := trim_len_le ys
  unfold mulL at this ⊢
  omega
theorem trim_res {u : Value} {xs : List Int} {a : Option Addr} {capa : Nat} {w : World} (h1 : Arg w u xs a capa) (hx : xs.length ≤ 35184372088832) :
    Calls Tryz.prog 121 #[u] w fun e w' => ∃ r zs, e = .returned r ∧ Res w.heap.size w' r zs (val xs) ∧ zs.length ≤ xs.length ∧ Below w.heap.size w w' := by
  rw [h1.is]
  exact (trim_any a xs capa w h1.lim hx h1.le).mono fun e w' ⟨r, he, hn, hb⟩ => ⟨r, _, he, ⟨hn, h1.wf.trim, trim_full _, val_trim xs⟩, trim_len_le xs, hb⟩
theorem sub_res {u v : Value} {xs ys : List Int} {a b : Option Addr} {capa capb : Nat} {w : World} (h1 : Arg w u xs a capa) (h2 : Arg w v ys b capb) (hx : xs.length ≤ 35184372088832) (hy : ys.length ≤ 35184372088832) (h : val ys ≤ val xs) :
    Calls Tryz.prog 113 #[u, v] w fun e w' => ∃ r zs, e = .returned (.tuple #[r, .int .i64 0]) ∧ Res w.heap.size w' r zs (val xs - val ys) ∧ zs.length ≤ xs.length ∧ Below w.heap.size w w' := by
  rw [h1.is, h2.is]
  refine (sub_any a b xs ys capa capb w h1.lim h2.lim hx hy h1.le h2.le h1.wf h2.wf).mono fun e w' ⟨r, hr, hb, _, hpos⟩ => ?_
  obtain ⟨he, hl⟩ := cmp_val h1.wf.trim h2.wf.trim (trim_full xs) (trim_full ys) hr
  rw [val_trim, val_trim] at he
  have h0 : 0 ≤ r := by rw [he]; unfold sign; rw [if_neg (by omega)]; split <;> omega
  obtain ⟨z, hz, hn⟩ := hpos h0
  have hl2 := hl h0
  rw [trim_length, trim_length] at hl2
  refine ⟨z, _, hz, ⟨hn, (subL_wf xs ys).trim, trim_full _, by rw [val_trim, val_subL h1.wf h2.wf hl2 h]⟩, ?_, hb⟩
  have h3 := trim_len_le (subL xs ys)
  have h4 := (subOf_ok xs ys (trimN xs xs.length) h1.wf h2.wf (List.range (trimN xs xs.length))).1
  have h5 := trim_le xs
  unfold subL at h3 ⊢
  omega
theorem sub_err {u v : Value} {xs ys : List Int} {a b : Option Addr} {capa capb : Nat} {w : World} (h1 : Arg w u xs a capa) (h2 : Arg w v ys b capb) (hx : xs.length ≤ 35184372088832) (hy : ys.length ≤ 35184372088832) (h : val xs < val ys) :
    Calls Tryz.prog 113 #[u, v] w fun e w' => e = .returned (.tuple #[.slice none 0 0, .int .i64 20]) ∧ Below w.heap.size w w' := by
  rw [h1.is, h2.is]
  refine (sub_any a b xs ys capa capb w h1.lim h2.lim hx hy h1.le h2.le h1.wf h2.wf).mono fun e w' ⟨r, hr, hb, hneg, _⟩ => ?_
  obtain ⟨he, _⟩ := cmp_val h1.wf.trim h2.wf.trim (trim_full xs) (trim_full ys) hr
  rw [val_trim, val_trim, sign_lt h] at he
  exact ⟨hneg (by omega), hb⟩
theorem lit_arg (w : World) (g : Nat) (zs : List Int) (h : Blk w g zs) (hw : Wf zs) : Arg w (.slice (some ⟨g, 0, none⟩) zs.length zs.length) zs (some ⟨g, 0, none⟩) zs.length := ⟨rfl, h.lim, Nat.le_refl _, hw⟩
end
section
open Go.RowKit Go.ChangeShapes Go.WideShapes Go.ChangeAt
theorem own : ownKnob Tryz.prog.godebug = none := by kernel_rfl
theorem laid : laidOutB Tryz.prog = true := by kernel_rfl
theorem cellsLimb : Tryz.prog.cellsOf 112 = 1 := by kernel_rfl
theorem bulk_pos {H : Type} (d : DataW H) : 1 ≤ Rows.uptoBulk d := by
  cases d with
  | lit l => cases l <;> simp [Rows.uptoBulk]
  | _ => simp [Rows.uptoBulk]
theorem bulk_len {H : Type} (l : List (DataW H)) : l.length ≤ Rows.uptoBulkAll l := by
  induction l with
  | nil => simp [Rows.uptoBulkAll]
  | cons x r ih => have := bulk_pos x; simp only [Rows.uptoBulkAll, List.length_cons]; omega
theorem bulk_slice {H : Type} (elems spare : List (DataW H)) : elems.length ≤ Rows.uptoBulk (.slice elems spare) := by
  have h1 := bulk_len elems
  simp only [Rows.uptoBulk]
  omega
theorem small3 {H : Type} {a b c : DataW H} (hk : Rows.uptoSmall H [a, b, c] = true) : Rows.uptoBulk a ≤ 1048576 ∧ Rows.uptoBulk b ≤ 1048576 ∧ Rows.uptoBulk c ≤ 1048576 := by
  have h : Rows.uptoBulkAll [a, b, c] ≤ 1048576 := of_decide_eq_true hk
  simp only [Rows.uptoBulkAll] at h
  omega
theorem small2 {H : Type} {a b : DataW H} (hk : Rows.uptoSmall H [a, b] = true) : Rows.uptoBulk a ≤ 1048576 ∧ Rows.uptoBulk b ≤ 1048576 := by
  have h : Rows.uptoBulkAll [a, b] ≤ 1048576 := of_decide_eq_true hk
  simp only [Rows.uptoBulkAll] at h
  omega
theorem wf_limb {x : Int} (h : (Lit.int .u32 x).wf = true) : 0 ≤ x ∧ x < 4294967296 := by
  simp [Lit.wf, IntKind.min, IntKind.max, IntKind.signed, IntKind.bits] at h
  omega
/-- a slice of limbs, as it came in -/
theorem open_nat {H : Type} {enc : TypeId × Value → H} {W : World} {v : Value} {d : DataW H} {p : List MemPlace}
    (hv : ∃ ad n cap, v = .slice ad n cap) (h : DataW.Trod enc Tryz.prog W 0 (fun _ => true) true 42 v d p) (hk : Rows.uptoBulk d ≤ 1048576) : ∃ ad xs cap, Arg W v xs ad cap ∧ xs.length ≤ 1048576 := by
  obtain ⟨ad, n, cap, rfl⟩ := hv
  obtain ⟨fuel, hf⟩ := h
  rcases open_ints Tryz.underlying42 Tryz.underlying112 cellsLimb hf with ⟨hcs, hx⟩ | ⟨a, len', cap', zs, hcs, _, hl, hm, hz, hx, hcell, hwz⟩
  · simp [Value.cells] at hcs
    obtain ⟨rfl, rfl, rfl⟩ := hcs
    exact ⟨none, [], 0, ⟨rfl, .inl rfl, Nat.le_refl _, Wf.nil⟩, by simp⟩
  · simp [Value.cells] at hcs
    obtain ⟨rfl, rfl, rfl⟩ := hcs
    simp only [Prod.mk.injEq] at hx
    obtain ⟨rfl, rfl⟩ := hx
    simp only [if_true] at hz
    have hlen : (zs.take n).length = n := by rw [List.length_take]; omega
    have hb := Nat.le_trans (bulk_slice (lits .u32 (zs.take n) : List (DataW H)) (lits .u32 (zs.drop n))) hk
    simp only [lits, List.length_map, hlen] at hb
    refine ⟨some a, zs.take n, cap, ⟨by rw [hlen], ?_, by rw [hlen]; exact hl, fun x hx => wf_limb (hwz x (List.mem_of_mem_take hx))⟩, by rw [hlen]; exact hb⟩
    by_cases h0 : n = 0
    · exact .inl (by simp [h0])
    · obtain ⟨b, off, rfl, hc⟩ := ints_at hcell (by omega)
      refine .inr ⟨b, off, rfl, fun i hi => ?_⟩
      rw [hlen] at hi
      rw [hc i (by omega)]
      simp [hi]
end
section
open Go.RowKit
/-- the limbs xs lie from the address ad on -/
def LimI (w : World) (ad : Option Addr) (xs : List Int) : Prop :=
  xs = [] ∨ ∃ b off, ad = some ⟨b, off, none⟩ ∧ ∀ i, i < xs.length → w.cell? ⟨b, off + i, none⟩ = some (.int .i64 (xs.getD i 0))
theorem LimI.nil (w : World) (ad : Option Addr) : LimI w ad [] := .inl rfl
theorem LimI.below {w w' : World} {ad : Option Addr} {xs : List Int} {B : Nat} (h : LimI w ad xs) (hb : Below B w w') (hB : ∀ a, ad = some a → a.block < B) : LimI w' ad xs := by
  rcases h with rfl | ⟨b, off, rfl, hc⟩
  · exact .inl rfl
  · exact .inr ⟨b, off, rfl, fun i hi => (hb.cell (p := ⟨b, off + i, none⟩) (hB ⟨b, off, none⟩ rfl)).trans (hc i hi)⟩
theorem LimI.later {w w' : World} {ad : Option Addr} {xs : List Int} (h : LimI w ad xs) (hb : Below w.heap.size w w') : LimI w' ad xs := by
  rcases h with rfl | ⟨b, off, rfl, hc⟩
  · exact .inl rfl
  · refine .inr ⟨b, off, rfl, fun i hi => ?_⟩
    have hlt := World.block_lt_of_cell? w _ (hc i hi)
    exact (hb.cell (p := ⟨b, off + i, none⟩) hlt).trans (hc i hi)
theorem LimI.take {w : World} {ad : Option Addr} {xs : List Int} (h : LimI w ad xs) (n : Nat) : LimI w ad (xs.take n) := by
  rcases h with rfl | ⟨b, off, rfl, hc⟩
  · exact .inl (by simp)
  · refine .inr ⟨b, off, rfl, fun i hi => ?_⟩
    rw [List.length_take] at hi
    rw [hc i (by omega)]
    simp [show i < n by omega]
theorem LimI.lt {w : World} {ad : Option Addr} {xs : List Int} (h : LimI w ad xs) (hn : xs ≠ []) : ∀ a, ad = some a → a.block < w.heap.size := by
  rcases h with rfl | ⟨b, off, rfl, hc⟩
  · exact absurd rfl hn
  · intro a ha
    cases ha
    exact World.block_lt_of_cell? w _ (hc 0 (List.length_pos_iff.2 hn))
/-- v is a slice of the call's own limbs xs -/
def NumI (base : Nat) (w : World) (v : Value) (xs : List Int) : Prop := w.ownsRow base 3 1 v xs.length (xs.map (Value.int .i64))
theorem NumI.read {base : Nat} {w : World} {v : Value} {xs : List Int} (h : NumI base w v xs) : ∃ ad cap, v = .slice ad xs.length cap ∧ LimI w ad xs ∧ xs.length ≤ cap ∧ cap ≤ maxLen ∧ (∀ a, ad = some a → base ≤ a.block ∧ a.block < w.heap.size) := by
  obtain ⟨h1, h2⟩ := h
  rcases h2 with ⟨rfl, hn⟩ | ⟨g, cap, cur, rfl, hb, hg, hc, hm, hs, ht⟩
  · obtain rfl := List.eq_nil_of_length_eq_zero hn
    exact ⟨none, 0, rfl, .inl rfl, Nat.le_refl _, by unfold maxLen; omega, fun a ha => by cases ha⟩
  · refine ⟨_, cap, rfl, .inr ⟨g, 0, rfl, fun i hi => ?_⟩, hc, hm, fun a ha => by cases ha; exact ⟨hb, lt_of_block hg⟩⟩
    have hj := World.ownsRow.cellAt (w := w) (base := base) (e := 3) (size := 1) (g := g) (n := xs.length) (cap := cap) (xs := xs.map (Value.int .i64)) ⟨h1, .inr ⟨g, cap, cur, rfl, hb, hg, hc, hm, hs, ht⟩⟩ i (by omega)
    rw [Nat.zero_add, hj]
    simp [hi]
theorem NumI.cut {base : Nat} {w : World} {ad : Option Addr} {xs : List Int} {n cap : Nat} (h : NumI base w (.slice ad n cap) xs) : NumI base w (.slice ad (trimN xs xs.length) cap) (trim xs) := by
  have hl := trim_le xs
  unfold NumI at *
  rw [trim_length]
  obtain ⟨h1, h2⟩ := h
  rcases h2 with ⟨hv, hn⟩ | ⟨g, cap', cur, hv, hb, hg, hc, hm, hs, ht⟩
  · obtain rfl := List.eq_nil_of_length_eq_zero hn
    cases hv
    exact ⟨rfl, .inl ⟨rfl, rfl⟩⟩
  · cases hv
    refine ⟨by rw [List.length_map, trim_length, Nat.mul_one], .inr ⟨g, cap, cur, rfl, hb, hg, by omega, hm, hs, ?_⟩⟩
    unfold trim
    rw [List.map_take, ← ht, List.take_take]
    congr 1
    omega
theorem NumI.lt {base : Nat} {w : World} {v : Value} {xs : List Int} (h : NumI base w v xs) : ∀ k, v.ownBlock = some k → base ≤ k ∧ k < w.heap.size := World.ownsRow.lt h
theorem NumI.kept {base B : Nat} {w w' : World} {v : Value} {xs : List Int} (h : NumI base w v xs) (hb : Below B w w') (hB : ∀ k, v.ownBlock = some k → k < B) : NumI base w' v xs := by
  obtain ⟨h1, h2⟩ := h
  refine ⟨h1, ?_⟩
  rcases h2 with h2 | ⟨g, cap, cur, rfl, hg0, hg, hc, hm, hs, ht⟩
  · exact .inl h2
  · exact .inr ⟨g, cap, cur, rfl, hg0, (hb.block g (hB g rfl)).trans hg, hc, hm, hs, ht⟩
theorem NumI.later {base : Nat} {w w' : World} {v : Value} {xs : List Int} (h : NumI base w v xs) (hb : Below w.heap.size w w') : NumI base w' v xs := h.kept hb fun k hk => (h.lt k hk).2
theorem NumI.mono {base base' : Nat} {w : World} {v : Value} {xs : List Int} (h : NumI base w v xs) (hb : base' ≤ base) : NumI base' w v xs := by
  obtain ⟨h1, h2⟩ := h
  refine ⟨h1, ?_⟩
  rcases h2 with h2 | ⟨g, cap, cur, rfl, hg0, hg, hc, hm, hs, ht⟩
  · exact .inl h2
  · exact .inr ⟨g, cap, cur, rfl, Nat.le_trans hb hg0, hg, hc, hm, hs, ht⟩
/-- all are digits -/
def WfD (xs : List Int) : Prop := ∀ x ∈ xs, 0 ≤ x ∧ x < 10000
end
section
open Go.RowKit
theorem WfD.nil : WfD [] := by intro x h; cases h
theorem WfD.cons {x : Int} {xs : List Int} (h : 0 ≤ x ∧ x < 10000) (hs : WfD xs) : WfD (x :: xs) := by
  intro y hy
  rcases List.mem_cons.1 hy with rfl | hy
  · exact h
  · exact hs y hy
theorem WfD.tail {x : Int} {xs : List Int} (h : WfD (x :: xs)) : WfD xs := fun y hy => h y (List.mem_cons_of_mem _ hy)
theorem WfD.head {x : Int} {xs : List Int} (h : WfD (x :: xs)) : 0 ≤ x ∧ x < 10000 := h x List.mem_cons_self
theorem WfD.append {xs ys : List Int} (h : WfD xs) (k : WfD ys) : WfD (xs ++ ys) := by
  intro x hx
  rcases List.mem_append.1 hx with hx | hx
  · exact h x hx
  · exact k x hx
theorem WfD.take {xs : List Int} (h : WfD xs) (n : Nat) : WfD (xs.take n) := fun x hx => h x (List.mem_of_mem_take hx)
theorem WfD.drop {xs : List Int} (h : WfD xs) (n : Nat) : WfD (xs.drop n) := fun x hx => h x (List.mem_of_mem_drop hx)
theorem WfD.getD {xs : List Int} (h : WfD xs) (i : Nat) : 0 ≤ xs.getD i 0 ∧ xs.getD i 0 < 10000 := by
  by_cases hi : i < xs.length
  · have : xs.getD i 0 = xs[i] := by simp [List.getD, hi]
    rw [this]
    exact h _ (List.getElem_mem hi)
  · have : xs.getD i 0 = 0 := by simp [List.getD, List.getElem?_eq_none (Nat.le_of_not_lt hi)]
    rw [this]; omega
theorem WfD.trim {xs : List Int} (h : WfD xs) : WfD (trim xs) := h.take _
/-- the number that limbs stand for -/
def valD : List Int → Int
  | [] => 0
  | x :: xs => x + 10000 * valD xs
theorem val_nonnegD {xs : List Int} (h : WfD xs) : 0 ≤ valD xs := by
  induction xs with
  | nil => simp [valD]
  | cons x xs ih => have := ih h.tail; have := h.head; simp only [valD]; omega
theorem val_appendD (xs ys : List Int) : valD (xs ++ ys) = valD xs + 10000 ^ xs.length * valD ys := by
  induction xs with
  | nil => simp [valD]
  | cons x xs ih => simp only [List.cons_append, valD, ih, List.length_cons, Int.pow_succ]; grind
theorem val_zerosD (n : Nat) : valD (List.replicate n 0) = 0 := by
  induction n with
  | zero => rfl
  | succ n ih => simp [List.replicate_succ, valD, ih]
theorem pow_posD (k : Nat) : (0 : Int) < 10000 ^ k := Int.pow_pos (by omega)
theorem val_take_succD (xs : List Int) (k : Nat) : valD (xs.take (k + 1)) = valD (xs.take k) + 10000 ^ k * xs.getD k 0 := by
  by_cases h : k < xs.length
  · rw [List.take_succ_eq_append_getElem h, val_appendD, List.length_take, Nat.min_eq_left (by omega)]
    simp [valD, h]
  · rw [List.take_of_length_le (by omega), List.take_of_length_le (by omega)]
    simp [List.getElem?_eq_none (Nat.le_of_not_lt h)]
theorem val_ltD {xs : List Int} (h : WfD xs) : valD xs < 10000 ^ xs.length := by
  induction xs with
  | nil => simp [valD]
  | cons x xs ih =>
    have h1 := ih h.tail
    have h2 := h.head
    simp only [valD, List.length_cons, Int.pow_succ]
    omega
theorem val_trimND (xs : List Int) (n : Nat) : valD (xs.take (trimN xs n)) = valD (xs.take n) := by
  induction n with
  | zero => rfl
  | succ n ih =>
    unfold trimN
    split
    · rename_i hz
      rw [val_take_succD, hz, ih]
      simp
    · rfl
theorem val_trimD (xs : List Int) : valD (trim xs) = valD xs := by
  unfold trim
  rw [val_trimND, List.take_length]
theorem val_take_geD (xs : List Int) (k : Nat) (h : trimN xs xs.length ≤ k) : valD (xs.take k) = valD xs := by
  induction k with
  | zero =>
    have h0 : trimN xs xs.length = 0 := by omega
    rw [← val_trimD xs]
    unfold trim
    rw [h0]
  | succ k ih =>
    by_cases hk : trimN xs xs.length ≤ k
    · rw [val_take_succD, ih hk]
      by_cases hl : k < xs.length
      · rw [getD_ge_trimN xs xs.length k hk hl]; simp
      · simp [List.getElem?_eq_none (Nat.le_of_not_lt hl)]
    · have e : trimN xs xs.length = k + 1 := by omega
      rw [← e]
      exact val_trimD xs
theorem trim_wfD {xs : List Int} (h : WfD xs) : WfD (trim xs) := h.trim
/-- numbers are told in one way -/
theorem getD_eq_of_valD {us vs : List Int} (hu : WfD us) (hv : WfD vs) (h : valD us = valD vs) : ∀ k, us.getD k 0 = vs.getD k 0 := by
  induction us generalizing vs with
  | nil =>
    induction vs with
    | nil => intro k; rfl
    | cons y ys ih =>
      have h1 := hv.head
      have h2 := val_nonnegD hv.tail
      simp only [valD] at h
      have hy : y = 0 := by omega
      have hys : valD [] = valD ys := by simp only [valD]; omega
      intro k
      cases k with
      | zero => simp [hy]
      | succ k => have := ih hv.tail hys k; simpa using this
  | cons x xs ih =>
    cases vs with
    | nil =>
      have h1 := hu.head
      have h2 := val_nonnegD hu.tail
      simp only [valD] at h
      have hx : x = 0 := by omega
      intro k
      cases k with
      | zero => simp [hx]
      | succ k => have := ih hu.tail WfD.nil (by simp only [valD]; omega) k; simpa using this
    | cons y ys =>
      have h1 := hu.head
      have h2 := hv.head
      simp only [valD] at h
      intro k
      cases k with
      | zero => simp; omega
      | succ k => have := ih hu.tail hv.tail (by omega) k; simpa using this
theorem canonD {us vs : List Int} (hu : WfD us) (hv : WfD vs) (fu : trimN us us.length = us.length) (fv : trimN vs vs.length = vs.length) (h : valD us = valD vs) : us = vs := by
  have hd := getD_eq_of_valD hu hv h
  have lu := trimN_last us us.length
  have lv := trimN_last vs vs.length
  rw [fu] at lu
  rw [fv] at lv
  have hl : us.length = vs.length := by
    rcases Nat.lt_trichotomy us.length vs.length with h1 | h1 | h1
    · exfalso
      refine lv (by omega) ?_
      rw [← hd]
      simp [List.getElem?_eq_none (show us.length ≤ vs.length - 1 by omega)]
    · exact h1
    · exfalso
      refine lu (by omega) ?_
      rw [hd]
      simp [List.getElem?_eq_none (show vs.length ≤ us.length - 1 by omega)]
  apply List.ext_getElem hl
  intro i h1 h2
  have := hd i
  simpa [h1, h2] using this
theorem full_geD {us : List Int} (hu : WfD us) (f : trimN us us.length = us.length) (j : Nat) (hj : us.length = j + 1) : 10000 ^ j ≤ valD us := by
  have h1 := trimN_last us us.length (by omega)
  rw [f, hj, Nat.add_sub_cancel] at h1
  have h2 := hu.getD j
  have h3 := val_take_succD us j
  rw [← hj, List.take_length] at h3
  have h4 := val_nonnegD (hu.take j)
  have h5 : (10000 : Int) ^ j * 1 ≤ 10000 ^ j * us.getD j 0 := Int.mul_le_mul_of_nonneg_left (by omega) (Int.le_of_lt (pow_posD j))
  omega
theorem len_ltD {us vs : List Int} (hu : WfD us) (hv : WfD vs) (fv : trimN vs vs.length = vs.length) (h : us.length < vs.length) : valD us < valD vs := by
  obtain ⟨j, hj⟩ : ∃ j, vs.length = j + 1 := ⟨vs.length - 1, by omega⟩
  have h1 := full_geD hv fv j hj
  have h2 := val_ltD hu
  have h3 : (10000 : Int) ^ us.length ≤ 10000 ^ j := by
    rw [show j = us.length + (j - us.length) from by omega, Int.pow_add]
    have h4 : (10000 : Int) ^ us.length * 1 ≤ 10000 ^ us.length * 10000 ^ (j - us.length) := Int.mul_le_mul_of_nonneg_left (by have := pow_posD (j - us.length); omega) (Int.le_of_lt (pow_posD _))
    omega
  omega
theorem take_aboveD (us vs : List Int) (i : Nat) (n : Nat) (h : ∀ j, i < j → j < n → us.getD j 0 = vs.getD j 0) (k : Nat) (hk : i + 1 ≤ k) (hn : k ≤ n) :
    valD (us.take k) - valD (vs.take k) = valD (us.take (i + 1)) - valD (vs.take (i + 1)) := by
  induction k with
  | zero => omega
  | succ k ih =>
    by_cases e : k = i
    · subst e; rfl
    · rw [val_take_succD us k, val_take_succD vs k, h k (by omega) (by omega)]
      have := ih (by omega) (by omega)
      omega
theorem top_ltD {us vs : List Int} (hu : WfD us) (hv : WfD vs) (i : Nat) (h : us.getD i 0 < vs.getD i 0) : valD (us.take (i + 1)) < valD (vs.take (i + 1)) := by
  rw [val_take_succD, val_take_succD]
  have h1 := val_ltD (hu.take i)
  have h2 := val_nonnegD (hv.take i)
  have h3 : (10000 : Int) ^ (us.take i).length ≤ 10000 ^ i := by
    rw [List.length_take]
    rw [show i = min i us.length + (i - min i us.length) from by omega, Int.pow_add]
    rw [show min (min i us.length + (i - min i us.length)) us.length = min i us.length from by omega]
    have h4 : (10000 : Int) ^ min i us.length * 1 ≤ 10000 ^ min i us.length * 10000 ^ (i - min i us.length) := Int.mul_le_mul_of_nonneg_left (by have := pow_posD (i - min i us.length); omega) (Int.le_of_lt (pow_posD _))
    omega
  have h5 : (10000 : Int) ^ i * (us.getD i 0 + 1) ≤ 10000 ^ i * vs.getD i 0 := Int.mul_le_mul_of_nonneg_left (by omega) (Int.le_of_lt (pow_posD i))
  rw [Int.mul_add, Int.mul_one] at h5
  omega
theorem cmp_valD {us vs : List Int} {r : Int} (hu : WfD us) (hv : WfD vs) (fu : trimN us us.length = us.length) (fv : trimN vs vs.length = vs.length) (h : CmpT us vs r) :
    r = sign (valD us) (valD vs) ∧ (0 ≤ r → vs.length ≤ us.length) := by
  rcases h with ⟨hne, rfl⟩ | ⟨hl, he, rfl⟩ | ⟨hl, i, hi, hne, ha, rfl⟩
  · rcases Nat.lt_or_gt_of_ne hne with h1 | h1
    · rw [sign_lt (show ((us.length : Int) < vs.length) by omega), sign_lt (len_ltD hu hv fv h1)]
      exact ⟨rfl, fun h => by omega⟩
    · rw [sign_gt (show ((vs.length : Int) < us.length) by omega), sign_gt (len_ltD hv hu fu h1)]
      exact ⟨rfl, fun _ => by omega⟩
  · have e : us = vs := by
      apply List.ext_getElem hl
      intro j h1 h2
      have := he j h1
      simpa [h1, h2] using this
    rw [e, sign_self]
    exact ⟨rfl, fun _ => Nat.le_refl _⟩
  · have h1 := take_aboveD us vs i us.length ha us.length (by omega) (Nat.le_refl _)
    rw [List.take_length] at h1
    rw [hl, List.take_length] at h1
    refine ⟨?_, fun _ => by omega⟩
    have hne' : us.getD i 0 ≠ vs.getD i 0 := hne
    rcases Int.lt_or_gt_of_ne hne' with h2 | h2
    · have h3 := top_ltD hu hv i h2
      rw [sign_lt (show valD us < valD vs by omega)]
      exact sign_lt h2
    · have h3 := top_ltD hv hu i h2
      rw [sign_gt (show valD vs < valD us by omega)]
      exact sign_gt h2
end
section
open Go.RowKit
theorem infoInt : (Tryz.prog.info? 3).map (fun i => (i.zero, i.size, i.bytes)) = some (some (.int .i64 0), 1, 8) := by kernel_rfl
theorem getD_wfD {xs : List Int} (h : WfD xs) (k : Nat) : 0 ≤ xs.getD k 0 ∧ xs.getD k 0 < 10000 := h.getD k
set_option maxHeartbeats 400000 in
theorem digit_any (ad : Option Addr) (xs : List Int) (cap k : Nat) (x : Int) (w : World) (hl : LimI w ad xs) (hm : xs.length ≤ 1099511627776) (hx : xs.getD k 0 = x) :
    Calls Tryz.prog 131 #[.slice ad xs.length cap, .int .i64 k] w fun e w' => e = .returned (.int .i64 x) ∧ w = w' := by
  subst hx
  by_cases hk : k < xs.length
  · rcases hl with rfl | ⟨b, off, rfl, hc⟩
    · simp at hk
    · have hck := hc k hk
      clear hc
      go_enter Tryz.func131, Tryz.ntmps131
      go_wp2
      go_ret
      refine ⟨?_, rfl⟩
      simp [hk]
  · go_enter Tryz.func131, Tryz.ntmps131
    go_wp2
    go_ret
    refine ⟨?_, rfl⟩
    simp [List.getElem?_eq_none (Nat.le_of_not_lt hk)]
set_option maxHeartbeats 400000 in
theorem trimD_any (ad : Option Addr) (xs : List Int) (cap : Nat) (w : World) (hl : LimI w ad xs) (hm : xs.length ≤ 1099511627776) (hcap : xs.length ≤ cap) :
    Calls Tryz.prog 132 #[.slice ad xs.length cap] w fun e w' => e = .returned (.slice ad (trimN xs xs.length) cap) ∧ w = w' := by
  go_enter Tryz.func132, Tryz.ntmps132
  go_wp2
  go_loop [3] (fun n => ∃ j : Nat, j ≤ xs.length ∧ n = .int .i64 j ∧ trimN xs j = trimN xs xs.length) (fun n => (intOf n).toNat)
  case atStart => exact ⟨xs.length, Nat.le_refl _, rfl, rfl⟩
  case round =>
    obtain ⟨j, hj, rfl, ht⟩ := hrel
    have HT := Lib.hid ht
    clear ht
    rcases j with _ | m
    · have h0 : trimN xs xs.length = 0 := HT.out.symm
      go_wp2
      go_ret
      exact ⟨rfl, rfl⟩
    · rcases hl with rfl | ⟨b, off, rfl, hc⟩
      · simp at hj
      · have hck := hc m (by omega)
        clear hc
        go_wp2
        · have hz : xs.getD m 0 = 0 := by
            have h : (xs[m]?.getD 0 == 0) = true := by assumption
            simpa using h
          go_round
          case rel => exact ⟨m, by omega, by go_num, by rw [← HT.out]; simp only [trimN]; rw [if_pos hz]⟩
          case measure => simp [intOf]
        · have hz : xs.getD m 0 ≠ 0 := by
            have h : (xs[m]?.getD 0 == 0) = false := by assumption
            simpa using h
          have ht : trimN xs xs.length = m + 1 := by rw [← HT.out]; simp only [trimN]; rw [if_neg hz]
          go_ret
          exact ⟨by rw [ht]; simp, rfl⟩
theorem trimD_num {base : Nat} {v : Value} {xs : List Int} {w : World} (h : NumI base w v xs) (hm : xs.length ≤ 1099511627776) :
    Calls Tryz.prog 132 #[v] w fun e w' => ∃ u, e = .returned u ∧ NumI base w u (trim xs) ∧ w = w' := by
  obtain ⟨ad, cap, rfl, hl, hc, _, _⟩ := h.read
  exact (trimD_any ad xs cap w hl hm hc).mono fun e w' ⟨he, hw⟩ => ⟨_, he, h.cut, hw⟩
theorem push_num {base : Nat} {w wr w1 : World} {v v' : Value} {ds : List Int} {d : Int} {o : Obj} (hb : Below base w wr) (hbase : base ≤ wr.heap.size) (hown : NumI base wr v ds)
    (hown' : w1.ownsRow base 3 1 v' (ds.length + 1) (ds.map (Value.int .i64) ++ [Value.int .i64 d])) (hgrow : (wr.alloc o).grownBy w1 v.ownBlock) : NumI base w1 v' (ds ++ [d]) ∧ Below base w w1 := by
  refine ⟨?_, (hb.alloc hbase o).grown hgrow (by simp; omega) (fun k hk => (hown.lt k hk).1)⟩
  unfold NumI
  rw [List.length_append, List.map_append]
  exact hown'
theorem full_snoc (l : List Int) {x : Int} (h : x ≠ 0) : trimN (l ++ [x]) (l ++ [x]).length = (l ++ [x]).length := by
  rw [List.length_append]
  show trimN (l ++ [x]) (l.length + 1) = l.length + 1
  unfold trimN
  rw [if_neg]
  simpa using h
theorem valD_snoc (l : List Int) (x : Int) : valD (l ++ [x]) = valD l + 10000 ^ l.length * x := by
  rw [val_appendD]
  simp [valD]
theorem WfD.snoc {l : List Int} (h : WfD l) {x : Int} (hx : 0 ≤ x ∧ x < 10000) : WfD (l ++ [x]) := h.append (WfD.cons hx WfD.nil)
/-- how far Small has come -/
def SmallI (len : Nat) (m : Int) : Prop := (len = 0 ∧ m < 1000000000000) ∨ (len = 1 ∧ m < 100000000) ∨ (len = 2 ∧ m < 10000) ∨ (len = 3 ∧ m = 0)
/-- a result of the reference: the number n, told in its one way -/
structure ResD (base : Nat) (w : World) (u : Value) (zs : List Int) (n : Int) : Prop where
  num : NumI base w u zs
  wf : WfD zs
  full : trimN zs zs.length = zs.length
  eq : valD zs = n
theorem ResD.later {base : Nat} {w w' : World} {u : Value} {zs : List Int} {n : Int} (h : ResD base w u zs n) (hb : Below w.heap.size w w') : ResD base w' u zs n := ⟨h.num.later hb, h.wf, h.full, h.eq⟩
theorem ResD.unique {base base' : Nat} {w w' : World} {u u' : Value} {zs zs' : List Int} {n : Int} (h : ResD base w u zs n) (h' : ResD base' w' u' zs' n) : zs = zs' :=
  canonD h.wf h'.wf h.full h'.full (h.eq.trans h'.eq.symm)
set_option maxHeartbeats 1000000 in
theorem small_any (N : Int) (w : World) (hN : 0 ≤ N) (hN2 : N < 1000000000000) :
    Calls Tryz.prog 100 #[.int .i64 N] w fun e w' => ∃ u, e = .returned u ∧ ∃ zs, ResD w.heap.size w' u zs N ∧ zs.length ≤ 3 ∧ Below w.heap.size w w' := by
  obtain ⟨i0, hi, hz0, hz1, hz2⟩ := info_parts infoInt
  go_enter Tryz.func100, Tryz.ntmps100
  go_wp2
  go_loopw [0, 3] (fun n s wr => ∃ (m : Int) (ds : List Int) (v : Value), n = .int .i64 m ∧ v = s ∧ 0 ≤ m ∧ SmallI ds.length m ∧ NumI w.heap.size wr v ds ∧ WfD ds ∧ valD ds + 10000 ^ ds.length * m = N ∧ (m = 0 → trimN ds ds.length = ds.length) ∧ Below w.heap.size w wr) (fun n _ _ => (intOf n).toNat)
  case atStart => exact ⟨N, [], _, rfl, rfl, hN, .inl ⟨rfl, hN2⟩, World.ownsRow_nil _ _ _ _, WfD.nil, by simp [valD], fun _ => rfl, Below.refl _ _⟩
  case round =>
    obtain ⟨m, ds, v, rfl, rfl, hm, hs, hown, hwf, hval, hfull, hb⟩ := hrel
    have hsz := hb.size
    have HV := Lib.hid hval
    have HF := Lib.hid hfull
    have HS := Lib.hid hs
    have HO := Lib.hid hown
    have hrow : wr.ownsRow w.heap.size 3 1 v ds.length (ds.map (Value.int .i64)) := hown
    have hlen : ds.length ≤ 3 := by rcases hs with h | h | h | h <;> omega
    have hm2 : m < 1000000000000 := by rcases hs with h | h | h | h <;> omega
    clear hval hfull hs hown
    by_cases hpos : 0 < m
    · go_wp2_with (at_builtin; refine wpList_append_own _ rfl _ _ 48 rfl w.heap.size 3 i0 (.int .i64 0) 1 8 Tryz.underlying48 hi hz0 hz1 hz2 rfl (by decide) _ _ _ rfl (hrow.alloc _) ⟨wr.heap.size, 0, none⟩ 1 1 [.int .i64 (m % 10000)] rfl rfl (cell_one_new _ _ _) (by simp [Value.oneCell']) (by unfold maxLen; omega) (by omega) (by simp; omega) ?_; intro v' w1 hown' hgrow _)
      go_roundw
      case rel =>
        obtain ⟨hn, hbw⟩ := push_num hb hsz HO.out hown' hgrow
        refine ⟨m / 10000, ds ++ [m % 10000], v', rfl, rfl, by omega, ?_, hn, hwf.snoc (by omega), ?_, fun h0 => full_snoc ds (by omega), hbw⟩
        · rw [List.length_append, List.length_singleton]
          rcases HS.out with h | h | h | h
          · exact .inr (.inl ⟨by omega, by omega⟩)
          · exact .inr (.inr (.inl ⟨by omega, by omega⟩))
          · exact .inr (.inr (.inr ⟨by omega, by omega⟩))
          · omega
        · rw [valD_snoc, List.length_append, List.length_singleton, Int.pow_succ]
          have h1 := HV.out
          have h2 : m % 10000 + 10000 * (m / 10000) = m := by omega
          generalize m % 10000 = r at *
          generalize m / 10000 = q at *
          generalize (10000 : Int) ^ ds.length = P at *
          grind
      case measure => simp [intOf]; omega
    · have h0 : m = 0 := by omega
      subst h0
      go_wp2
      go_ret
      exact ⟨_, rfl, ds, ⟨HO.out, hwf, (by have h := HF.out; simpa using h), by have := HV.out; simpa using this⟩, hlen, hb⟩
end
section
open Go.RowKit
/-- an argument of the reference: the digits xs -/
structure ArgD (w : World) (u : Value) (xs : List Int) (ad : Option Addr) (cap : Nat) : Prop where
  is : u = .slice ad xs.length cap
  lim : LimI w ad xs
  le : xs.length ≤ cap
  wf : WfD xs
  full : trimN xs xs.length = xs.length
theorem ArgD.later {w w' : World} {u : Value} {xs : List Int} {ad : Option Addr} {cap : Nat} (h : ArgD w u xs ad cap) (hb : Below w.heap.size w w') : ArgD w' u xs ad cap := ⟨h.is, h.lim.later hb, h.le, h.wf, h.full⟩
theorem ResD.arg {base : Nat} {w : World} {u : Value} {zs : List Int} {n : Int} (h : ResD base w u zs n) : ∃ ad cap, ArgD w u zs ad cap := by
  obtain ⟨ad, cap, h1, h2, h3, _, _⟩ := h.num.read
  exact ⟨ad, cap, h1, h2, h3, h.wf, h.full⟩
theorem mod_divD (s : Int) : s % 10000 + 10000 * (s / 10000) = s := by omega
def addToD (xs ys : List Int) : Nat → List Int × Int
  | 0 => ([], 0)
  | k + 1 => ((addToD xs ys k).1 ++ [(xs.getD k 0 + ys.getD k 0 + (addToD xs ys k).2) % 10000], (xs.getD k 0 + ys.getD k 0 + (addToD xs ys k).2) / 10000)
theorem addToD_length (xs ys : List Int) (k : Nat) : (addToD xs ys k).1.length = k := by
  induction k with
  | zero => rfl
  | succ k ih => simp [addToD, ih]
theorem addToD_carry (xs ys : List Int) (hx : WfD xs) (hy : WfD ys) (k : Nat) : 0 ≤ (addToD xs ys k).2 ∧ (addToD xs ys k).2 ≤ 1 := by
  induction k with
  | zero => simp [addToD]
  | succ k ih => have h1 := hx.getD k; have h2 := hy.getD k; simp only [addToD]; omega
theorem addToD_wf (xs ys : List Int) (k : Nat) : WfD (addToD xs ys k).1 := by
  induction k with
  | zero => exact WfD.nil
  | succ k ih => exact ih.append (WfD.cons (by omega) WfD.nil)
theorem val_addToD (xs ys : List Int) (k : Nat) : valD (addToD xs ys k).1 + 10000 ^ k * (addToD xs ys k).2 = valD (xs.take k) + valD (ys.take k) := by
  induction k with
  | zero => simp [addToD, valD]
  | succ k ih =>
    rw [val_take_succD, val_take_succD]
    simp only [addToD]
    rw [valD_snoc, addToD_length]
    simp only [Int.pow_succ]
    have hm := mod_divD (xs.getD k 0 + ys.getD k 0 + (addToD xs ys k).2)
    generalize (addToD xs ys k).2 = c at *
    generalize ((xs.getD k 0 + ys.getD k 0 + c) % 10000) = r at *
    generalize ((xs.getD k 0 + ys.getD k 0 + c) / 10000) = q at *
    generalize (10000 : Int) ^ k = P at *
    grind
theorem beyond {xs : List Int} {k : Nat} (h : xs.length ≤ k) : xs.getD k 0 = 0 := by simp [List.getElem?_eq_none h]
theorem top_pos {xs : List Int} {j : Nat} (hx : WfD xs) (fx : trimN xs xs.length = xs.length) (hj : xs.length = j + 1) : 0 < xs.getD j 0 := by
  have h1 := trimN_last xs xs.length (by omega)
  rw [fx, hj, Nat.add_sub_cancel] at h1
  have h2 := hx.getD j
  omega
theorem addD_full {xs ys : List Int} (hx : WfD xs) (hy : WfD ys) (fx : trimN xs xs.length = xs.length) (fy : trimN ys ys.length = ys.length) (k : Nat) (h1 : max xs.length ys.length ≤ k) (h2 : k ≤ max xs.length ys.length + 1)
    (h3 : max xs.length ys.length < k → 0 < (addToD xs ys (k - 1)).2) (h4 : (addToD xs ys k).2 = 0) : trimN (addToD xs ys k).1 (addToD xs ys k).1.length = (addToD xs ys k).1.length := by
  cases k with
  | zero => rfl
  | succ j =>
    simp only [addToD] at h4 ⊢
    have hc := addToD_carry xs ys hx hy j
    have bx := hx.getD j
    have by' := hy.getD j
    refine full_snoc _ ?_
    rw [Nat.add_sub_cancel] at h3
    rcases Nat.lt_or_ge j (max xs.length ys.length) with h | h
    · have hm : max xs.length ys.length = j + 1 := by omega
      rcases (show xs.length = j + 1 ∨ ys.length = j + 1 by omega) with e | e
      · have := top_pos hx fx e; omega
      · have := top_pos hy fy e; omega
    · have := h3 (by omega); omega
set_option maxHeartbeats 1000000 in
theorem addD_any {u v : Value} {xs ys : List Int} {a b : Option Addr} {capa capb : Nat} {w : World} (h1 : ArgD w u xs a capa) (h2 : ArgD w v ys b capb) (hx : xs.length ≤ 68719476736) (hy : ys.length ≤ 68719476736) :
    Calls Tryz.prog 98 #[u, v] w fun e w' => ∃ r, e = .returned r ∧ ∃ zs, ResD w.heap.size w' r zs (valD xs + valD ys) ∧ zs.length ≤ max xs.length ys.length + 1 ∧ Below w.heap.size w w' := by
  obtain ⟨i0, hi, hz0, hz1, hz2⟩ := info_parts infoInt
  obtain ⟨rfl, lx, _, wx, fx⟩ := h1
  obtain ⟨rfl, ly, _, wy, fy⟩ := h2
  have FX := Lib.hid fx
  have FY := Lib.hid fy
  clear fx fy
  go_enter Tryz.func98, Tryz.ntmps98
  go_wp2
  go_loopw [5, 6, 7, 8] (fun s c i _ wr => ∃ (k : Nat) (q : Value), k ≤ max xs.length ys.length + 1 ∧ q = s ∧ c = .int .i64 (addToD xs ys k).2 ∧ i = .int .i64 k ∧ NumI w.heap.size wr q (addToD xs ys k).1 ∧
      (max xs.length ys.length < k → 0 < (addToD xs ys (k - 1)).2) ∧ Below w.heap.size w wr) (fun _ _ i _ _ => max xs.length ys.length + 2 - (intOf i).toNat)
  case atStart => exact ⟨0, _, Nat.zero_le _, rfl, rfl, rfl, World.ownsRow_nil _ _ _ _, fun h => by omega, Below.refl _ _⟩
  case round =>
    obtain ⟨k, q, hk, rfl, rfl, rfl, hown, hprev, hb⟩ := hrel
    have hsz := hb.size
    obtain ⟨c, hck⟩ : ∃ c, (addToD xs ys k).2 = c := ⟨_, rfl⟩
    have bc := addToD_carry xs ys wx wy k
    rw [hck] at bc ⊢
    obtain ⟨bc0, bc1⟩ := bc
    have hrow : wr.ownsRow w.heap.size 3 1 q k ((addToD xs ys k).1.map (Value.int .i64)) := by
      have h := hown; unfold NumI at h; rw [addToD_length] at h; exact h
    have HO := Lib.hid hown
    have HP := Lib.hid hprev
    have HC := Lib.hid hck
    have HK := Lib.hid hk
    clear hown hprev hck
    by_cases hgo : k < max xs.length ys.length ∨ 0 < c
    · obtain ⟨x, hxk⟩ : ∃ x, xs.getD k 0 = x := ⟨_, rfl⟩
      obtain ⟨y, hyk⟩ : ∃ y, ys.getD k 0 = y := ⟨_, rfl⟩
      obtain ⟨bx0, bx1⟩ : 0 ≤ x ∧ x < 10000 := hxk ▸ wx.getD k
      obtain ⟨by0, by1⟩ : 0 ≤ y ∧ y < 10000 := hyk ▸ wy.getD k
      have hk1 : k ≤ max xs.length ys.length := by
        rcases hgo with h | h
        · omega
        · rcases Nat.lt_or_ge (max xs.length ys.length) k with h5 | h5
          · exfalso
            have e : k = max xs.length ys.length + 1 := by omega
            have h6 := HC.out
            rw [e] at h6
            simp only [addToD] at h6
            rw [beyond (Nat.le_max_left _ _), beyond (Nat.le_max_right _ _)] at h6
            have h7 := addToD_carry xs ys wx wy (max xs.length ys.length)
            omega
          · exact h5
      have HX := Lib.hid hxk
      have HY := Lib.hid hyk
      have HG := Lib.hid hgo
      have lx' := lx.later hb
      have ly' := ly.later hb
      clear hxk hyk
      have done : ∀ (w1 : World) (v' : Value) (o : Obj), w1.ownsRow w.heap.size 3 1 v' (k + 1) ((addToD xs ys k).1.map (Value.int .i64) ++ [Value.int .i64 ((x + y + c) % 10000)]) → (wr.alloc o).grownBy w1 q.ownBlock →
          ∃ (j : Nat) (p : Value), j ≤ max xs.length ys.length + 1 ∧ p = v' ∧ Value.int .i64 ((x + y + c) / 10000) = .int .i64 (addToD xs ys j).2 ∧ Value.int .i64 ((k : Int) + 1) = .int .i64 j ∧ NumI w.heap.size w1 p (addToD xs ys j).1 ∧
            (max xs.length ys.length < j → 0 < (addToD xs ys (j - 1)).2) ∧ Below w.heap.size w w1 := fun w1 v' o ho hg => by
        have hown' : w1.ownsRow w.heap.size 3 1 v' ((addToD xs ys k).1.length + 1) ((addToD xs ys k).1.map (Value.int .i64) ++ [Value.int .i64 ((x + y + c) % 10000)]) := by rw [addToD_length]; exact ho
        obtain ⟨hn, hbw⟩ := push_num hb hsz HO.out hown' hg
        refine ⟨k + 1, v', by omega, rfl, by simp only [addToD]; rw [HX.out, HY.out, HC.out], by go_num, by simp only [addToD]; rw [HX.out, HY.out, HC.out]; exact hn, fun h => ?_, hbw⟩
        rw [Nat.add_sub_cancel, HC.out]
        rcases HG.out with h5 | h5
        · omega
        · exact h5
      have DONE := Lib.hid done
      clear done hgo
      by_cases hx1 : k < xs.length
      · go_wp2_with (first | (go_at_call 131; first | ((with_reducible refine (digit_any a xs capa k x _ lx' (by omega) HX.out).mono ?_); rintro e w' ⟨rfl, rfl⟩) | ((with_reducible refine (digit_any b ys capb k y _ ly' (by omega) HY.out).mono ?_); rintro e w' ⟨rfl, rfl⟩)) | (at_builtin; refine wpList_append_own _ rfl _ _ 48 rfl w.heap.size 3 i0 (.int .i64 0) 1 8 Tryz.underlying48 hi hz0 hz1 hz2 rfl (by decide) _ _ _ rfl (hrow.alloc _) ⟨wr.heap.size, 0, none⟩ 1 1 [.int .i64 ((x + y + c) % 10000)] rfl rfl (cell_one_new _ _ _) (by simp [Value.oneCell']) (by unfold maxLen; omega) (by omega) (by simp; omega) ?_; intro v' w1 hown' hgrow _))
        go_roundw
        case rel => exact DONE.out _ _ _ hown' hgrow
        case measure => simp [intOf]; omega
      · by_cases hy1 : k < ys.length
        · go_wp2_with (first | (go_at_call 131; first | ((with_reducible refine (digit_any a xs capa k x _ lx' (by omega) HX.out).mono ?_); rintro e w' ⟨rfl, rfl⟩) | ((with_reducible refine (digit_any b ys capb k y _ ly' (by omega) HY.out).mono ?_); rintro e w' ⟨rfl, rfl⟩)) | (at_builtin; refine wpList_append_own _ rfl _ _ 48 rfl w.heap.size 3 i0 (.int .i64 0) 1 8 Tryz.underlying48 hi hz0 hz1 hz2 rfl (by decide) _ _ _ rfl (hrow.alloc _) ⟨wr.heap.size, 0, none⟩ 1 1 [.int .i64 ((x + y + c) % 10000)] rfl rfl (cell_one_new _ _ _) (by simp [Value.oneCell']) (by unfold maxLen; omega) (by omega) (by simp; omega) ?_; intro v' w1 hown' hgrow _))
          go_roundw
          case rel => exact DONE.out _ _ _ hown' hgrow
          case measure => simp [intOf]; omega
        · have hcp : 0 < c := by rcases HG.out with h5 | h5; (· omega); exact h5
          go_wp2_with (first | (go_at_call 131; first | ((with_reducible refine (digit_any a xs capa k x _ lx' (by omega) HX.out).mono ?_); rintro e w' ⟨rfl, rfl⟩) | ((with_reducible refine (digit_any b ys capb k y _ ly' (by omega) HY.out).mono ?_); rintro e w' ⟨rfl, rfl⟩)) | (at_builtin; refine wpList_append_own _ rfl _ _ 48 rfl w.heap.size 3 i0 (.int .i64 0) 1 8 Tryz.underlying48 hi hz0 hz1 hz2 rfl (by decide) _ _ _ rfl (hrow.alloc _) ⟨wr.heap.size, 0, none⟩ 1 1 [.int .i64 ((x + y + c) % 10000)] rfl rfl (cell_one_new _ _ _) (by simp [Value.oneCell']) (by unfold maxLen; omega) (by omega) (by simp; omega) ?_; intro v' w1 hown' hgrow _))
          go_roundw
          case rel => exact DONE.out _ _ _ hown' hgrow
          case measure => simp [intOf]; omega
    · have hx1 : ¬ k < xs.length := by omega
      have hy1 : ¬ k < ys.length := by omega
      have hc0 : c = 0 := by omega
      subst hc0
      clear hgo
      go_wp2
      go_ret
      have hv := val_addToD xs ys k
      rw [List.take_of_length_le (by omega), List.take_of_length_le (by omega)] at hv
      have h6 : (addToD xs ys k).2 = 0 := (by have h := HC.out; simpa using h)
      rw [h6] at hv
      have hk2 : k ≤ max xs.length ys.length + 1 := HK.out
      exact ⟨_, rfl, (addToD xs ys k).1, ⟨HO.out, addToD_wf xs ys k, addD_full wx wy FX.out FY.out k (by omega) hk2 HP.out h6, by simpa using hv⟩, by rw [addToD_length]; exact hk2, hb⟩
def timesTo (xs : List Int) (d : Int) : Nat → List Int × Int
  | 0 => ([], 0)
  | k + 1 => ((timesTo xs d k).1 ++ [(xs.getD k 0 * d + (timesTo xs d k).2) % 10000], (xs.getD k 0 * d + (timesTo xs d k).2) / 10000)
theorem timesTo_length (xs : List Int) (d : Int) (k : Nat) : (timesTo xs d k).1.length = k := by
  induction k with
  | zero => rfl
  | succ k ih => simp [timesTo, ih]
theorem digit_prod {x d : Int} (hx : 0 ≤ x ∧ x < 10000) (hd : 0 ≤ d ∧ d ≤ 65536) : 0 ≤ x * d ∧ x * d ≤ 9999 * d := by
  constructor
  · exact Int.mul_nonneg hx.1 hd.1
  · exact Int.mul_le_mul_of_nonneg_right (by omega) hd.1
theorem timesTo_carry (xs : List Int) (d : Int) (hx : WfD xs) (hd : 0 ≤ d ∧ d ≤ 65536) (k : Nat) : 0 ≤ (timesTo xs d k).2 ∧ (timesTo xs d k).2 ≤ d := by
  induction k with
  | zero => simp [timesTo]; omega
  | succ k ih => have h1 := digit_prod (hx.getD k) hd; simp only [timesTo]; omega
theorem timesTo_wf (xs : List Int) (d : Int) (k : Nat) : WfD (timesTo xs d k).1 := by
  induction k with
  | zero => exact WfD.nil
  | succ k ih => exact ih.append (WfD.cons (by omega) WfD.nil)
theorem val_timesTo (xs : List Int) (d : Int) (k : Nat) : valD (timesTo xs d k).1 + 10000 ^ k * (timesTo xs d k).2 = valD (xs.take k) * d := by
  induction k with
  | zero => simp [timesTo, valD]
  | succ k ih =>
    rw [val_take_succD]
    simp only [timesTo]
    rw [valD_snoc, timesTo_length]
    simp only [Int.pow_succ]
    have hm := mod_divD (xs.getD k 0 * d + (timesTo xs d k).2)
    generalize (timesTo xs d k).2 = c at *
    generalize ((xs.getD k 0 * d + c) % 10000) = r at *
    generalize ((xs.getD k 0 * d + c) / 10000) = q at *
    generalize (10000 : Int) ^ k = P at *
    grind
theorem timesTo_far (xs : List Int) (d : Int) (hx : WfD xs) (hd : 0 ≤ d ∧ d ≤ 65536) : (timesTo xs d (xs.length + 1)).2 ≤ 6 ∧ (timesTo xs d (xs.length + 2)).2 = 0 := by
  have h0 := timesTo_carry xs d hx hd xs.length
  have h1 : (timesTo xs d (xs.length + 1)).2 = (timesTo xs d xs.length).2 / 10000 := by simp only [timesTo]; rw [beyond (Nat.le_refl _)]; simp
  have h2 : (timesTo xs d (xs.length + 2)).2 = (timesTo xs d (xs.length + 1)).2 / 10000 := by
    show (xs.getD (xs.length + 1) 0 * d + (timesTo xs d (xs.length + 1)).2) / 10000 = _
    rw [beyond (Nat.le_succ _)]; simp
  omega
set_option maxHeartbeats 1000000 in
theorem times_any {u : Value} {xs : List Int} {a : Option Addr} {capa : Nat} {w : World} (d : Int) (h1 : ArgD w u xs a capa) (hx : xs.length ≤ 68719476736) (hd : 0 ≤ d ∧ d ≤ 65536) :
    Calls Tryz.prog 99 #[u, .int .i64 d] w fun e w' => ∃ r, e = .returned r ∧ ∃ zs, ResD w.heap.size w' r zs (valD xs * d) ∧ zs.length ≤ xs.length + 2 ∧ Below w.heap.size w w' := by
  obtain ⟨i0, hi, hz0, hz1, hz2⟩ := info_parts infoInt
  obtain ⟨rfl, lx, _, wx, _⟩ := h1
  have hd2 := hd
  obtain ⟨hd0, hd1⟩ := hd
  go_enter Tryz.func99, Tryz.ntmps99
  go_wp2
  go_loopw [5, 6, 7, 8] (fun s c i _ wr => ∃ (k : Nat) (q : Value), k ≤ xs.length + 2 ∧ q = s ∧ c = .int .i64 (timesTo xs d k).2 ∧ i = .int .i64 k ∧ NumI w.heap.size wr q (timesTo xs d k).1 ∧ Below w.heap.size w wr) (fun _ _ i _ _ => xs.length + 3 - (intOf i).toNat)
  case atStart => exact ⟨0, _, Nat.zero_le _, rfl, rfl, rfl, World.ownsRow_nil _ _ _ _, Below.refl _ _⟩
  case round =>
    obtain ⟨k, q, hk, rfl, rfl, rfl, hown, hb⟩ := hrel
    have hsz := hb.size
    obtain ⟨c, hck⟩ : ∃ c, (timesTo xs d k).2 = c := ⟨_, rfl⟩
    have bc := timesTo_carry xs d wx hd2 k
    rw [hck] at bc ⊢
    obtain ⟨bc0, bc1⟩ := bc
    have hrow : wr.ownsRow w.heap.size 3 1 q k ((timesTo xs d k).1.map (Value.int .i64)) := by
      have h := hown; unfold NumI at h; rw [timesTo_length] at h; exact h
    have HO := Lib.hid hown
    have HC := Lib.hid hck
    have HK := Lib.hid hk
    clear hown hck
    by_cases hgo : k < xs.length ∨ 0 < c
    · obtain ⟨x, hxk⟩ : ∃ x, xs.getD k 0 = x := ⟨_, rfl⟩
      have bx := hxk ▸ wx.getD k
      have bp := digit_prod bx hd2
      obtain ⟨bp0, bp1⟩ := bp
      have bp2 : x * d ≤ 655294464 := by omega
      obtain ⟨bx0, bx1⟩ := bx
      have hk1 : k ≤ xs.length + 1 := by
        rcases hgo with h | h
        · omega
        · rcases Nat.lt_or_ge (xs.length + 1) k with h5 | h5
          · exfalso
            have e : k = xs.length + 2 := by omega
            have h6 := HC.out
            rw [e, (timesTo_far xs d wx hd2).2] at h6
            omega
          · exact h5
      have HX := Lib.hid hxk
      have lx' := lx.later hb
      clear hxk
      have done : ∀ (w1 : World) (v' : Value) (o : Obj), w1.ownsRow w.heap.size 3 1 v' (k + 1) ((timesTo xs d k).1.map (Value.int .i64) ++ [Value.int .i64 ((x * d + c) % 10000)]) → (wr.alloc o).grownBy w1 q.ownBlock →
          ∃ (j : Nat) (p : Value), j ≤ xs.length + 2 ∧ p = v' ∧ Value.int .i64 ((x * d + c) / 10000) = .int .i64 (timesTo xs d j).2 ∧ Value.int .i64 ((k : Int) + 1) = .int .i64 j ∧ NumI w.heap.size w1 p (timesTo xs d j).1 ∧ Below w.heap.size w w1 := fun w1 v' o ho hg => by
        have hown' : w1.ownsRow w.heap.size 3 1 v' ((timesTo xs d k).1.length + 1) ((timesTo xs d k).1.map (Value.int .i64) ++ [Value.int .i64 ((x * d + c) % 10000)]) := by rw [timesTo_length]; exact ho
        obtain ⟨hn, hbw⟩ := push_num hb hsz HO.out hown' hg
        exact ⟨k + 1, v', by omega, rfl, by simp only [timesTo]; rw [HX.out, HC.out], by go_num, by simp only [timesTo]; rw [HX.out, HC.out]; exact hn, hbw⟩
      have DONE := Lib.hid done
      have HG := Lib.hid hgo
      clear done hgo hd2
      by_cases hx1 : k < xs.length
      · go_wp2_with (first | (go_at_call 131; refine (digit_any a xs capa k x _ lx' (by omega) HX.out).mono ?_; rintro e w' ⟨rfl, rfl⟩) | (at_builtin; refine wpList_append_own _ rfl _ _ 48 rfl w.heap.size 3 i0 (.int .i64 0) 1 8 Tryz.underlying48 hi hz0 hz1 hz2 rfl (by decide) _ _ _ rfl (hrow.alloc _) ⟨wr.heap.size, 0, none⟩ 1 1 [.int .i64 ((x * d + c) % 10000)] rfl rfl (cell_one_new _ _ _) (by simp [Value.oneCell']) (by unfold maxLen; omega) (by omega) (by simp; omega) ?_; intro v' w1 hown' hgrow _))
        go_roundw
        case rel => exact DONE.out _ _ _ hown' hgrow
        case measure => simp [intOf]; omega
      · have hcp : 0 < c := by rcases HG.out with h5 | h5; (· omega); exact h5
        go_wp2_with (first | (go_at_call 131; refine (digit_any a xs capa k x _ lx' (by omega) HX.out).mono ?_; rintro e w' ⟨rfl, rfl⟩) | (at_builtin; refine wpList_append_own _ rfl _ _ 48 rfl w.heap.size 3 i0 (.int .i64 0) 1 8 Tryz.underlying48 hi hz0 hz1 hz2 rfl (by decide) _ _ _ rfl (hrow.alloc _) ⟨wr.heap.size, 0, none⟩ 1 1 [.int .i64 ((x * d + c) % 10000)] rfl rfl (cell_one_new _ _ _) (by simp [Value.oneCell']) (by unfold maxLen; omega) (by omega) (by simp; omega) ?_; intro v' w1 hown' hgrow _))
        go_roundw
        case rel => exact DONE.out _ _ _ hown' hgrow
        case measure => simp [intOf]; omega
    · have hx1 : ¬ k < xs.length := by omega
      have hc0 : c = 0 := by omega
      subst hc0
      clear hgo
      have hv := val_timesTo xs d k
      rw [List.take_of_length_le (by omega)] at hv
      have h6 : (timesTo xs d k).2 = 0 := (by have h := HC.out; simpa using h)
      rw [h6] at hv
      have hk2 : k ≤ xs.length + 2 := HK.out
      have HVL := Lib.hid hv
      clear hv h6
      go_wp2_with fail
      refine (trimD_num HO.out (by rw [timesTo_length]; omega)).mono ?_
      rintro e w' ⟨r, rfl, hr, rfl⟩
      go_wp2_with fail
      go_ret
      have hlen : (trim (timesTo xs d k).1).length ≤ k := by have h := Nat.le_trans (Nat.le_of_eq (trim_length _)) (trim_le (timesTo xs d k).1); rw [timesTo_length] at h; exact h
      exact ⟨_, rfl, trim (timesTo xs d k).1, ⟨hr, (timesTo_wf xs d k).trim, trim_full _, by rw [val_trimD]; have h := HVL.out; simpa using h⟩, Nat.le_trans hlen hk2, hb⟩
end
section
open Go.RowKit
theorem val_drop (xs : List Int) (j : Nat) (h : j < xs.length) : val (xs.drop j) = xs.getD j 0 + 4294967296 * val (xs.drop (j + 1)) := by
  rw [List.drop_eq_getElem_cons h]
  simp [val, h]
set_option maxHeartbeats 2000000 in
theorem of_any {u : Value} {xs : List Int} {a : Option Addr} {capa : Nat} {w : World} (h1 : Arg w u xs a capa) (hx : xs.length ≤ 134217728) :
    Calls Tryz.prog 61 #[u] w fun e w' => ∃ r, e = .returned r ∧ ∃ zs, ResD w.heap.size w' r zs (val xs) ∧ zs.length ≤ 5 * xs.length ∧ Below w.heap.size w w' := by
  obtain ⟨rfl, lx, _, wx⟩ := h1
  go_enter Tryz.func61, Tryz.ntmps61
  go_wp2
  go_loopw [3, 4] (fun s i wr => ∃ (k : Nat) (q : Value) (ds : List Int), k ≤ xs.length ∧ q = s ∧ i = .int .i64 ((xs.length : Int) - 1 - k) ∧ ResD w.heap.size wr q ds (val (xs.drop (xs.length - k))) ∧ ds.length ≤ 5 * k ∧ Below w.heap.size w wr) (fun _ i _ => (intOf i + 1).toNat)
  case atStart => exact ⟨0, _, [], Nat.zero_le _, rfl, by simp, ⟨World.ownsRow_nil _ _ _ _, WfD.nil, rfl, by simp [val, valD]⟩, by simp, Below.refl _ _⟩
  case round =>
    obtain ⟨k, q, ds, hk, rfl, rfl, hres, hlen, hb⟩ := hrel
    have hsz := hb.size
    by_cases hlt : k < xs.length
    · rcases lx with rfl | ⟨b, off, rfl, hc⟩
      · simp at hlt
      · obtain ⟨j, hj⟩ : ∃ j, j + k + 1 = xs.length := ⟨xs.length - k - 1, by omega⟩
        have hji : ((xs.length : Int) - 1 - k) = (j : Int) := by omega
        obtain ⟨x, hxk⟩ : ∃ x, xs.getD j 0 = x := ⟨_, rfl⟩
        obtain ⟨bx0, bx1⟩ : 0 ≤ x ∧ x < 4294967296 := hxk ▸ wx.getD j
        have hjl : j < xs.length := by omega
        have hcj := hc j hjl
        rw [hxk] at hcj
        have hc0 : wr.drew.cell? ⟨b, off + j, none⟩ = some (.int .u32 x) := (hb.cell (p := ⟨b, off + j, none⟩) (World.block_lt_of_cell? w _ hcj)).trans hcj
        have hc00 : wr.cell? ⟨b, off + j, none⟩ = some (.int .u32 x) := hc0
        rw [hji]
        obtain ⟨ad0, cap0, A0'⟩ := hres.arg
        have A0 : ArgD wr.drew q ds ad0 cap0 := A0'.later ((Below.refl wr.heap.size wr).drew)
        have hval : val (xs.drop (xs.length - (k + 1))) = valD ds * 65536 * 65536 + x := by
          rw [show xs.length - (k + 1) = j from by omega, val_drop xs j hjl, hxk, hres.eq, show xs.length - k = j + 1 from by omega]
          omega
        have hwx : IntKind.i64.wrap x = x := IntWalk.i64_in _ (by omega)
        have HV := Lib.hid hval
        have HJ := Lib.hid hj
        clear hj hxk hc hcj hji hval A0'
        have hge : (0 : Int) ≤ (j : Int) := by omega
        go_wp2_with fail
        go_region_held3 (fun w' => w'.cell? ⟨b, off + j, none⟩ = some (.int .u32 x)) (first | exact hc4 | exact hc3 | exact hc2 | exact hc1 | exact hc0 | go_keep)
          (first
            | (go_at_call 98; refine (addD_any A2s A3 (by omega) (by omega)).mono ?_; rintro e w4 ⟨r4, rfl, z4, q4, n4, hb4⟩; have hc4 := (hb4.cell (p := ⟨b, off + j, none⟩) (World.block_lt_of_cell? w3 _ hc3)).trans hc3)
            | (go_at_call 100; refine (small_any x _ bx0 (by omega)).mono ?_; rintro e w3 ⟨r3, rfl, z3, q3, n3, hb3⟩; obtain ⟨ad3, cap3, A3⟩ := q3.arg; have A2s := A2.later hb3; have hc3 := (hb3.cell (p := ⟨b, off + j, none⟩) (World.block_lt_of_cell? w2 _ hc2)).trans hc2)
            | (go_at_call 99; first
                | (refine (times_any 65536 A1 (by omega) (by omega)).mono ?_; rintro e w2 ⟨r2, rfl, z2, q2, n2, hb2⟩; obtain ⟨ad2, cap2, A2⟩ := q2.arg; have hc2 := (hb2.cell (p := ⟨b, off + j, none⟩) (World.block_lt_of_cell? w1 _ hc1)).trans hc1)
                | (refine (times_any 65536 A0 (by omega) (by omega)).mono ?_; rintro e w1 ⟨r1, rfl, z1, q1, n1, hb1⟩; obtain ⟨ad1, cap1, A1⟩ := q1.arg; have hc1 := (hb1.cell (p := ⟨b, off + j, none⟩) (World.block_lt_of_cell? _ _ hc0)).trans hc0)))
        have hs1 : wr.heap.size ≤ w1.heap.size := hb1.size
        have hs2 := hb2.size
        have hs3 := hb3.size
        have hB4 : Below w.heap.size w w4 := (((hb.trans (Below.mono (show Below wr.heap.size wr w1 from ⟨hb1.os, hb1.tape, hb1.output, hb1.size, hb1.block⟩) hsz)).trans (hb2.mono (by omega))).trans (hb3.mono (by omega))).trans (hb4.mono (by omega))
        have hv4 : valD z4 = val (xs.drop (xs.length - (k + 1))) := by rw [q4.eq, q2.eq, q1.eq, q3.eq, HV.out]
        have HV4 := Lib.hid hv4
        clear hv4
        go_wp2
        go_roundw
        case rel => exact ⟨k + 1, r4, z4, by omega, rfl, by have := HJ.out; congr 1; omega, ⟨q4.num.mono (by omega), q4.wf, q4.full, HV4.out⟩, by omega, hB4⟩
        case measure => simp [intOf]
    · obtain rfl : k = xs.length := by omega
      have hji : ((xs.length : Int) - 1 - xs.length) = -1 := by omega
      rw [hji]
      clear hji
      have hv : valD ds = val xs := by have h := hres.eq; rwa [Nat.sub_self, List.drop_zero] at h
      go_wp2
      go_ret
      exact ⟨_, rfl, ds, ⟨hres.num, hres.wf, hres.full, hv⟩, hlen, hb⟩
set_option maxHeartbeats 1000000 in
theorem cmpD_any {u v : Value} {us vs : List Int} {a b : Option Addr} {capa capb : Nat} {w : World} (h1 : ArgD w u us a capa) (h2 : ArgD w v vs b capb) (hx : us.length ≤ 68719476736) (hy : vs.length ≤ 68719476736) :
    Calls Tryz.prog 75 #[u, v] w fun e w' => e = .returned (.int .i64 (sign (valD us) (valD vs))) ∧ Below w.heap.size w w' := by
  obtain ⟨rfl, lx, _, wx, fx⟩ := h1
  obtain ⟨rfl, ly, _, wy, fy⟩ := h2
  have key : ∀ r, CmpT us vs r → r = sign (valD us) (valD vs) := fun r h => (cmp_valD wx wy fx fy h).1
  have KEY := Lib.hid key
  clear key fx fy
  by_cases hne : us.length = vs.length
  · have hne2 : ((us.length : Int) != (vs.length : Int)) = false := by simp; omega
    have HE := Lib.hid hne
    clear hne
    go_enter Tryz.func75, Tryz.ntmps75
    go_wp2
    go_loopw [5] (fun i wr => ∃ k : Nat, k ≤ us.length ∧ i = .int .i64 ((us.length : Int) - 1 - k) ∧ (∀ j, us.length - k ≤ j → j < us.length → us.getD j 0 = vs.getD j 0) ∧ Below w.heap.size w wr) (fun i _ => (intOf i + 1).toNat)
    case atStart => exact ⟨0, Nat.zero_le _, by simp, fun j h1 h2 => by omega, Below.refl _ _⟩
    case round =>
      obtain ⟨k, hk, rfl, hall, hb⟩ := hrel
      have hE := HE.out
      by_cases hlt : k < us.length
      · rcases lx with rfl | ⟨ba, offa, rfl, hca⟩
        · simp at hlt
        rcases ly with rfl | ⟨bb, offb, rfl, hcb⟩
        · simp only [List.length_nil] at hE; omega
        obtain ⟨j, hj⟩ : ∃ j, j + k + 1 = us.length := ⟨us.length - k - 1, by omega⟩
        have hji : ((us.length : Int) - 1 - k) = (j : Int) := by omega
        obtain ⟨x, hxk⟩ : ∃ x, us.getD j 0 = x := ⟨_, rfl⟩
        obtain ⟨y, hyk⟩ : ∃ y, vs.getD j 0 = y := ⟨_, rfl⟩
        have cx := hca j (by omega)
        have cy := hcb j (by omega)
        rw [hxk] at cx
        rw [hyk] at cy
        have cx0 := (hb.cell (p := ⟨ba, offa + j, none⟩) (World.block_lt_of_cell? w _ cx)).trans cx
        have cy0 := (hb.cell (p := ⟨bb, offb + j, none⟩) (World.block_lt_of_cell? w _ cy)).trans cy
        have hju : (j : Int) < (us.length : Int) := by omega
        have hjv : (j : Int) < (vs.length : Int) := by omega
        have hj0 : (0 : Int) ≤ (j : Int) := by omega
        rw [hji]
        have HJ := Lib.hid hj
        have HX := Lib.hid hxk
        have HY := Lib.hid hyk
        have HA := Lib.hid hall
        clear hj hji hxk hyk hall hca hcb cx cy hE hlt hk
        have dif : x ≠ y → CmpT us vs (sign x y) := fun h => by
          refine .inr (.inr ⟨HE.out, j, by omega, ?_, fun i hi1 hi2 => HA.out i (by have := HJ.out; omega) hi2, ?_⟩)
          · show us.getD j 0 ≠ vs.getD j 0
            rw [HX.out, HY.out]; exact h
          · show _ = sign (us.getD j 0) (vs.getD j 0)
            rw [HX.out, HY.out]
        have DIF := Lib.hid dif
        clear dif
        rcases Int.lt_trichotomy x y with h | h | h
        · have hd : decide (x < y) = true := by simp [h]
          go_wp2
          go_quiet (fail)
          go_wp2
          go_ret
          refine ⟨?_, ?_⟩
          · rw [← KEY.out _ (DIF.out (by omega)), sign_lt h]; rfl
          · exact ⟨hb.os, hb.tape, hb.output, hb.size, hb.block⟩
        · subst h
          have hd : decide (x < x) = false := by simp
          go_wp2
          go_quiet (fail)
          go_wp2
          go_quiet (fail)
          go_wp2
          go_roundw
          case rel =>
            refine ⟨k + 1, by have := HJ.out; omega, by have := HJ.out; congr 1; omega, fun i hi1 hi2 => ?_, ⟨hb.os, hb.tape, hb.output, hb.size, hb.block⟩⟩
            by_cases e : i = j
            · subst e; rw [HX.out, HY.out]
            · exact HA.out i (by have := HJ.out; omega) hi2
          case measure => simp [intOf]
        · have hd : decide (x < y) = false := by simp; omega
          have hd2 : decide (y < x) = true := by simp [h]
          go_wp2
          go_quiet (fail)
          go_wp2
          go_quiet (fail)
          go_wp2
          go_ret
          refine ⟨?_, ⟨hb.os, hb.tape, hb.output, hb.size, hb.block⟩⟩
          rw [← KEY.out _ (DIF.out (by omega)), sign_gt h]; rfl
      · obtain rfl : k = us.length := by omega
        have hji : ((us.length : Int) - 1 - us.length) = -1 := by omega
        rw [hji]
        clear hji
        have HA := Lib.hid hall
        clear hall hE
        go_wp2
        go_ret
        refine ⟨?_, hb⟩
        rw [← KEY.out 0 (.inr (.inl ⟨HE.out, fun i hi => HA.out i (by omega) hi, rfl⟩))]
        rfl
  · have hne2 : ((us.length : Int) != (vs.length : Int)) = true := by simp; omega
    have HN := Lib.hid hne
    by_cases h : us.length < vs.length
    · have hd : (us.length : Int) < (vs.length : Int) := by omega
      clear hne
      go_enter Tryz.func75, Tryz.ntmps75
      go_wp2
      go_ret
      refine ⟨?_, Below.refl _ _⟩
      rw [← KEY.out _ (.inl ⟨HN.out, rfl⟩), sign_lt hd]; rfl
    · have hd : (vs.length : Int) < (us.length : Int) := by omega
      clear hne h
      go_enter Tryz.func75, Tryz.ntmps75
      go_wp2
      go_ret
      refine ⟨?_, Below.refl _ _⟩
      rw [← KEY.out _ (.inl ⟨HN.out, rfl⟩), sign_gt hd]; rfl
end
end Go.Proofs.YtnhfjacifajdlaaGreat
