/-
  Contracts of package nat: Sub.
-/
import Derived.Test.YteinfanfhgpciaaCmp
import Derived.Laws.EntriesVeiled
namespace Go.Proofs.Yteinfanfhgpciaa
open Go.RowKit Go.Shelf
attribute [local go_sem] Oper.semAt_some

/-- one round of a difference: the limbs, the carry -/
def subStep (xs ys : List Int) (s : List Int × Int) (k : Nat) : List Int × Int :=
  (s.1.set k ((s.2 + xs.getD k 0 + (4294967295 - ys.getD k 0)) % 4294967296), (s.2 + xs.getD k 0 + (4294967295 - ys.getD k 0)) / 4294967296)
def subOf (xs ys : List Int) (m : Nat) (ks : List Nat) : List Int × Int := ks.foldl (subStep xs ys) (List.replicate m 0, 1)
/-- the difference's limbs -/
def subL (xs ys : List Int) : List Int := (subOf xs ys (trimN xs xs.length) (List.range (trimN xs xs.length))).1

theorem subOf_snoc (xs ys : List Int) (m : Nat) (ks : List Nat) (k : Nat) : subOf xs ys m (ks ++ [k]) = subStep xs ys (subOf xs ys m ks) k := by simp [subOf]
theorem subOf_ok (xs ys : List Int) (m : Nat) (hx : Wf xs) (hy : Wf ys) (ks : List Nat) : (subOf xs ys m ks).1.length = m ∧ 0 ≤ (subOf xs ys m ks).2 ∧ (subOf xs ys m ks).2 < 4294967296 := by
  suffices h : ∀ s : List Int × Int, s.1.length = m ∧ 0 ≤ s.2 ∧ s.2 < 4294967296 → ((ks.foldl (subStep xs ys) s).1.length = m ∧ 0 ≤ (ks.foldl (subStep xs ys) s).2 ∧ (ks.foldl (subStep xs ys) s).2 < 4294967296) from
    h _ ⟨by simp, by simp, by simp⟩
  induction ks with
  | nil => exact fun s h => h
  | cons k ks ih =>
    intro s h
    refine ih _ ?_
    have h1 := hx.getD k
    have h2 := hy.getD k
    simp only [subStep, List.length_set]
    omega

theorem blk_own {β : Type} (g : Nat) (f : β → List Int) : Own (fun s W => Blk W g (f s)) := fun s X Y row hs hg hrow =>
  hs.grown hg (fun e' => by obtain ⟨o, ho, hc⟩ := hrow g e'.symm; rw [show X.heap[g]? = _ from hs] at ho; cases ho; cases hc)
theorem Boxed.far {W : World} {B : Nat} {t : TypeId} {v : Value} (h : Boxed W B t v) {p : Addr} (hne : B ≠ p.block) (u : Value) : Boxed (W.setCell p u) B t v := (Below.heap_setCell _ _ _ _ hne).trans h
theorem Own.and2 {β : Type} {I J : β → World → Prop} (h : Own I) (k : Own J) : Own (fun s W => I s W ∧ J s W) := fun s X Y row hs hg hr => ⟨h s X Y row hs.1 hg hr, k s X Y row hs.2 hg hr⟩

set_option maxRecDepth 100000 in
set_option maxHeartbeats 4000000 in
set_option linter.unusedSimpArgs false in
theorem sub_any (a b : Option Addr) (xs ys : List Int) (capa capb : Nat) (w : World) (hla : Lim w a xs) (hlb : Lim w b ys) (hma : xs.length ≤ 35184372088832) (hmb : ys.length ≤ 35184372088832)
    (hca : xs.length ≤ capa) (hcb : ys.length ≤ capb) (hwa : Wf xs) (hwb : Wf ys) :
    Calls Try.prog 29 #[.slice a xs.length capa, .slice b ys.length capb] w fun e w' => ∃ r, CmpT (trim xs) (trim ys) r ∧ Below w.heap.size w w' ∧
      (r < 0 → e = .returned (.tuple #[.slice none 0 0, .int .i64 20])) ∧ (0 ≤ r → ∃ v, e = .returned (.tuple #[v, .int .i64 0]) ∧ Num w.heap.size w' v (trim (subL xs ys))) := by
  have hta := trim_le xs
  obtain ⟨n, hn⟩ : ∃ n : Nat, Hid (3 ≤ n) := ⟨3, Nat.le_refl 3⟩
  refine (callsIn_wide (n := n)).1 ?_
  refine callsIn_of_wp_marks Try.func29 rfl trivial ?_ rfl
  simp only [Try.ntmps29, List.size_toArray, List.length_cons, List.length_nil, Nat.reduceAdd, Nat.reduceSub, Array.replicate_succ, Array.replicate_zero, List.push_toArray, List.append_toArray, List.nil_append, List.cons_append]
  gi_wp2_with fail
  have bB0 := Boxed.new w 24 (.slice b ys.length capb)
  have hB0 : Below w.heap.size w (w.alloc (.cells #[.slice b ys.length capb] 24)) := (Below.refl _ w).alloc (Nat.le_refl _) _
  have hla0 := hla.later hB0
  have hlb0 := hlb.later hB0
  have hs0 : (w.alloc (.cells #[.slice b ys.length capb] 24)).heap.size = w.heap.size + 1 := by simp
  refine wideCall ((cmp_any a b xs ys capa capb _ hla0 hlb0 hma hmb hca hcb).mono ?_)
  rintro e V ⟨r, rfl, hr, hBV⟩
  rw [hs0] at hBV
  have bB : Boxed V w.heap.size 24 (.slice b ys.length capb) := (hBV.block _ (by omega)).trans bB0
  have hV : Below w.heap.size w V := hB0.trans (hBV.mono (by omega))
  have hlaV := hla.later hV
  have hlbV := hlb.later hV
  have hsV : w.heap.size + 1 ≤ V.heap.size := by have := hBV.size; omega
  clear hBV hla0 hlb0 hB0 bB0 hs0
  by_cases hneg : r < 0
  · gi_wp2_with fail
    refine ⟨_, results_tmp2 rfl _ _ _, r, hr, hV, fun _ => rfl, fun h => by omega⟩
  · have hneg2 : 0 ≤ r := by omega
    have hdec : decide (r < 0) = false := decide_eq_false hneg
    have HR := Lib.hid hr
    clear hr hneg
    gi_wp2_with fail
    refine wideCall ((cut_any a xs capa _ hlaV (by unfold maxLen; omega) hca).mono ?_)
    rintro e w' ⟨rfl, rfl⟩
    obtain ⟨m, hmm⟩ : ∃ m, trimN xs xs.length = m := ⟨_, rfl⟩
    have hmk := make_runN m m (Nat.le_refl _) (by omega)
    rw [hmm]
    rw [hmm] at hta
    have HM := Lib.hid hmm
    clear hmm
    gi_wp2_with fail
    refine wideCall ((carrier_any _ _).mono ?_)
    rintro e w' ⟨rfl, rfl⟩
    have k1 := (((Blk.made V m).alloc (Obj.cells #[Value.slice (some ⟨V.heap.size, 0, none⟩) m m] 24)).alloc (Obj.cells #[Value.int .u64 1] 22))
    have k2 := (Boxed.new (V.alloc (Obj.cells (madeCells #[Value.int .u32 0] m) 56)) 24 (Value.slice (some ⟨V.heap.size, 0, none⟩) m m)).alloc (Obj.cells #[Value.int .u64 1] 22)
    have k3 := Boxed.new ((V.alloc (Obj.cells (madeCells #[Value.int .u32 0] m) 56)).alloc (Obj.cells #[Value.slice (some ⟨V.heap.size, 0, none⟩) m m] 24)) 22 (.int .u64 1)
    have k4 : Below V.heap.size V (((V.alloc (Obj.cells (madeCells #[Value.int .u32 0] m) 56)).alloc (Obj.cells #[Value.slice (some ⟨V.heap.size, 0, none⟩) m m] 24)).alloc (Obj.cells #[Value.int .u64 1] 22)) :=
      (((Below.refl _ V).alloc (Nat.le_refl _) _).alloc (by simp) _).alloc (by simp; omega) _
    have k5 : (((V.alloc (Obj.cells (madeCells #[Value.int .u32 0] m) 56)).alloc (Obj.cells #[Value.slice (some ⟨V.heap.size, 0, none⟩) m m] 24)).alloc (Obj.cells #[Value.int .u64 1] 22)).heap.size = V.heap.size + 1 + 1 + 1 := by simp
    simp only [World.size_alloc] at k2 k3
    simp only [World.size_alloc]
    generalize (((V.alloc (Obj.cells (madeCells #[Value.int .u32 0] m) 56)).alloc (Obj.cells #[Value.slice (some ⟨V.heap.size, 0, none⟩) m m] 24)).alloc (Obj.cells #[Value.int .u64 1] 22)) = W3 at *
    have k6 := Boxed.new W3 65 .nilFunc
    rw [k5] at k6
    have k6c := k6.cell
    have k6f := k6.frozen
    have K5 := Lib.hid k5
    have k5' := k5
    clear k5
    gi_wp2_with fail
    refine wideCall ((limbs_any a xs.length capa _).mono ?_)
    rintro e w' ⟨rfl, rfl⟩
    gi_wp2_with fail
    have j1 := (k1.alloc (Obj.cells #[Value.func (.func 56) #[] #[.pointer (some ⟨V.heap.size + 1 + 1, 0, none⟩)]] 65)).alloc (Obj.cells #[Value.slice a xs.length capa] 24)
    have j2 := (k2.alloc (Obj.cells #[Value.func (.func 56) #[] #[.pointer (some ⟨V.heap.size + 1 + 1, 0, none⟩)]] 65)).alloc (Obj.cells #[Value.slice a xs.length capa] 24)
    have j3 := (k3.alloc (Obj.cells #[Value.func (.func 56) #[] #[.pointer (some ⟨V.heap.size + 1 + 1, 0, none⟩)]] 65)).alloc (Obj.cells #[Value.slice a xs.length capa] 24)
    have j4 := (Boxed.new W3 65 (Value.func (.func 56) #[] #[.pointer (some ⟨V.heap.size + 1 + 1, 0, none⟩)])).alloc (Obj.cells #[Value.slice a xs.length capa] 24)
    have j5 := Boxed.new (W3.alloc (Obj.cells #[Value.func (.func 56) #[] #[.pointer (some ⟨V.heap.size + 1 + 1, 0, none⟩)]] 65)) 24 (Value.slice a xs.length capa)
    have j6 : Below V.heap.size V ((W3.alloc (Obj.cells #[Value.func (.func 56) #[] #[.pointer (some ⟨V.heap.size + 1 + 1, 0, none⟩)]] 65)).alloc (Obj.cells #[Value.slice a xs.length capa] 24)) :=
      (k4.alloc (by omega) _).alloc (by simp; omega) _
    have j7 : ((W3.alloc (Obj.cells #[Value.func (.func 56) #[] #[.pointer (some ⟨V.heap.size + 1 + 1, 0, none⟩)]] 65)).alloc (Obj.cells #[Value.slice a xs.length capa] 24)).heap.size = V.heap.size + 5 := by simp; omega
    rw [k5'] at j4
    rw [World.size_alloc, k5'] at j5
    generalize ((W3.alloc (Obj.cells #[Value.func (.func 56) #[] #[.pointer (some ⟨V.heap.size + 1 + 1, 0, none⟩)]] 65)).alloc (Obj.cells #[Value.slice a xs.length capa] 24)) = W5 at *
    clear k1 k2 k3 k4 k6 k6c k6f K5 k5' hmk hneg2
    have h3 : 3 ≤ n := hn
    refine wpIn_rangeFunc_ownF rfl (by omega) (gf := 52) (lb := #[.pointer (some ⟨V.heap.size + 1 + 1 + 1 + 1, 0, none⟩)]) rfl trivial (enters_of Try.func52 (by kernel_rfl) rfl)
      (limbs_stops (n - 1) (V.heap.size + 1 + 1 + 1 + 1) V.heap.size a xs capa hma hca hlaV.lt _ (by omega) j5.cell (hlaV.later j6)) belowK_t (belowK_b (by omega)) (Below.refl _ _) (fun _ => rfl)
      (fun (pre : List (Fin (trimN xs xs.length))) X => (((Blk X V.heap.size (subOf xs ys m (pre.map Fin.val)).1 ∧ Boxed X (V.heap.size + 1) 24 (.slice (some ⟨V.heap.size, 0, none⟩) m m)) ∧ Boxed X (V.heap.size + 1 + 1) 22 (.int .u64 (subOf xs ys m (pre.map Fin.val)).2)) ∧
        Boxed X (V.heap.size + 1 + 1 + 1) 65 (Value.func (.func 56) #[] #[.pointer (some ⟨V.heap.size + 1 + 1, 0, none⟩)])) ∧ Below V.heap.size V X)
      (fun _ _ _ => False)
      (OwnFrom.and (Own.from (Own.and2 (Own.and2 (Own.and2 (blk_own _ _) (boxed_own _ _ _)) (boxed_own _ _ _)) (boxed_own _ _ _)) _) (ownFrom_below (Nat.le_refl _) (by omega)))
      (fun _ _ _ _ _ hs _ _ => hs)
      ⟨⟨⟨⟨j1, j2⟩, j3⟩, j4⟩, j6⟩
      (fun (x : Fin (trimN xs xs.length)) => { tmps := #[.slice a xs.length capa, .slice b ys.length capb, undef, .pointer (some ⟨w.heap.size, 0, none⟩), .slice none 0 0, .int .i64 0, .pointer (some ⟨V.heap.size + 1, 0, none⟩), .pointer (some ⟨V.heap.size + 1 + 1 + 1, 0, none⟩), .int .i64 (x.val : Int), .int .u32 (xs[x.val]?.getD 0),
        .slice a xs.length capa, .slice b ys.length capb, .int .i64 r, .bool false, .slice a xs.length capa, .slice a m capa, .int .i64 m, .slice (some ⟨V.heap.size, 0, none⟩) m m, .func (.func 56) #[] #[.pointer (some ⟨V.heap.size + 1 + 1, 0, none⟩)],
        .slice a xs.length capa, .func (.func 52) #[] #[.pointer (some ⟨V.heap.size + 1 + 1 + 1 + 1, 0, none⟩)], .int .i64 (x.val : Int), .int .u32 (xs[x.val]?.getD 0), undef, undef, undef, undef, undef, undef, undef, undef, undef, undef, undef, undef, undef, undef, undef], defers := [] }) ?assign ?body ?done ?stop
    case assign =>
      intro l x X K hK
      simp only [limbAt]
      gi_wp2
      exact hK
    case body =>
      rintro l pre ⟨k, hk⟩ X ⟨⟨⟨⟨hblk, q1⟩, q2⟩, q3⟩, hB⟩ hlt
      have hkm : k < m := by have := HM.out; omega
      obtain ⟨ok1, ok2, ok3⟩ := subOf_ok xs ys m hwa hwb (pre.map Fin.val)
      obtain ⟨st, hst⟩ : ∃ st, subOf xs ys m (pre.map Fin.val) = st := ⟨_, rfl⟩
      rw [hst] at hblk q2 ok1 ok2 ok3
      obtain ⟨zs, c⟩ := st
      obtain ⟨x, hxk⟩ : ∃ x, xs.getD k 0 = x := ⟨_, rfl⟩
      obtain ⟨y, hyk⟩ : ∃ y, ys.getD k 0 = y := ⟨_, rfl⟩
      have bx : 0 ≤ x ∧ x < 4294967296 := hxk ▸ hwa.getD k
      have by' : 0 ≤ y ∧ y < 4294967296 := hyk ▸ hwb.getD k
      obtain ⟨bx0, bx1⟩ := bx
      obtain ⟨by0, by1⟩ := by'
      have hxk2 : xs[k]?.getD 0 = x := hxk
      simp only [hxk2]
      have HX := Lib.hid hxk
      have HY := Lib.hid hyk
      have HS := Lib.hid hst
      clear hxk hyk hxk2 hst
      simp only at hblk q2 ok1 ok2 ok3
      have hlbX := (hlbV.later hB).later (show Below X.heap.size X X.drew from (Below.refl _ _).drew)
      have c1 := q1.cell
      have c3 := q3.cell
      have bX : Boxed X w.heap.size 24 (.slice b ys.length capb) := (hB.block w.heap.size (by omega)).trans bB
      have c0 := bX.cell
      have hsX := hB.size
      refine wpIn_block ?_
      refine region_round (fun X' => X'.cell? ⟨V.heap.size + 1, 0, none⟩ = some (.slice (some ⟨V.heap.size, 0, none⟩) m m) ∧ X'.cell? ⟨V.heap.size + 1 + 1 + 1, 0, none⟩ = some (Value.func (.func 56) #[] #[.pointer (some ⟨V.heap.size + 1 + 1, 0, none⟩)]) ∧ X'.cell? ⟨w.heap.size, 0, none⟩ = some (.slice b ys.length capb))
        (by kernel_rfl) (by kernel_rfl) (by rintro ⟨a', w', h⟩; exact h) ⟨c1, c3, c0⟩ (fun hHeld => ?_)
      refine wpAnyH_take (i := 0) (v := ?va0) rfl (by kernel_rfl) (by kernel_rfl) (by kernel_rfl) (fun _ _ _ h => h) (Or.inl ⟨by rfl, ?ha0⟩) (by assumption) ?ra0
      case ha0 =>
        intro w hSw
        try dsimp only at hSw
        go_simp
        try with_reducible rfl
      try simp only [Act.put, List.setIfInBounds_toArray, List.set_cons_zero, List.set_cons_succ]
      refine wpAnyH_take (i := 1) (v := ?va1) rfl (by kernel_rfl) (by kernel_rfl) (by kernel_rfl) (fun _ _ _ h => h) (Or.inl ⟨by rfl, ?ha1⟩) (by assumption) ?ra1
      case ha1 =>
        intro w hSw
        try dsimp only at hSw
        go_simp
        try with_reducible rfl
      try simp only [Act.put, List.setIfInBounds_toArray, List.set_cons_zero, List.set_cons_succ]
      refine wpAnyH_take (i := 2) (v := ?va2) rfl (by kernel_rfl) (by kernel_rfl) (by kernel_rfl) (fun _ _ _ h => h) (Or.inl ⟨by rfl, ?ha2⟩) (by assumption) ?ra2
      case ha2 =>
        intro w hSw
        try dsimp only at hSw
        go_simp
        try with_reducible rfl
      try simp only [Act.put, List.setIfInBounds_toArray, List.set_cons_zero, List.set_cons_succ]
      refine wpAnyH_take (i := 3) (v := ?va3) rfl (by kernel_rfl) (by kernel_rfl) (by kernel_rfl) (fun _ _ _ h => h) (Or.inl ⟨by rfl, ?ha3⟩) (by assumption) ?ra3
      case ha3 =>
        intro w hSw
        try dsimp only at hSw
        go_simp
        try with_reducible rfl
      try simp only [Act.put, List.setIfInBounds_toArray, List.set_cons_zero, List.set_cons_succ]
      refine wpAnyH_take (i := 4) (v := ?va4) rfl (by kernel_rfl) (by kernel_rfl) (by kernel_rfl) (fun _ _ _ h => h) (Or.inl ⟨by rfl, ?ha4⟩) (by assumption) ?ra4
      case ha4 =>
        intro w hSw
        try dsimp only at hSw
        go_simp
        try with_reducible rfl
      try simp only [Act.put, List.setIfInBounds_toArray, List.set_cons_zero, List.set_cons_succ]
      refine wpAnyH_take (i := 5) (v := ?va5) rfl (by kernel_rfl) (by kernel_rfl) (by kernel_rfl) (fun _ _ _ h => h) (Or.inl ⟨by rfl, ?ha5⟩) (by assumption) ?ra5
      case ha5 =>
        intro w hSw
        try dsimp only at hSw
        go_simp
        try with_reducible rfl
      try simp only [Act.put, List.setIfInBounds_toArray, List.set_cons_zero, List.set_cons_succ]
      refine wpAnyH_take (i := 6) (v := ?va6) rfl (by kernel_rfl) (by kernel_rfl) (by kernel_rfl) (fun _ _ _ h => h) (Or.inl ⟨by rfl, ?ha6⟩) (by assumption) ?ra6
      case ha6 =>
        intro w hSw
        try dsimp only at hSw
        go_simp
        try with_reducible rfl
      try simp only [Act.put, List.setIfInBounds_toArray, List.set_cons_zero, List.set_cons_succ]
      refine wpAnyH_ready (rs := [7]) (by kernel_rfl) (by simp) ?_
      refine AllReadyH.cons rfl (fun K hK => ?sb7) AllReadyH.nil
      go_simp
      refine (at_nat b ys capb k y _ hlbX (by unfold maxLen; omega) HY.out).mono ?_
      rintro e w' ⟨rfl, rfl⟩
      go_simp
      refine hK.out _ _ ?kb7 (fun hHeld => ?mb7)
      case kb7 =>
        try dsimp only
        exact hHeld
      clear hK K
      try simp only [Act.put, List.setIfInBounds_toArray, List.set_cons_zero, List.set_cons_succ]
      refine wpAnyH_take (i := 8) (v := ?va8) rfl (by kernel_rfl) (by kernel_rfl) (by kernel_rfl) (fun _ _ _ h => h) (Or.inl ⟨by rfl, ?ha8⟩) (by assumption) ?ra8
      case ha8 =>
        intro w hSw
        try dsimp only at hSw
        go_simp
        try with_reducible rfl
      try simp only [Act.put, List.setIfInBounds_toArray, List.set_cons_zero, List.set_cons_succ]
      refine wpAnyH_take (i := 9) (v := ?va9) rfl (by kernel_rfl) (by kernel_rfl) (by kernel_rfl) (fun _ _ _ h => h) (Or.inl ⟨by rfl, ?ha9⟩) (by assumption) ?ra9
      case ha9 =>
        intro w hSw
        try dsimp only at hSw
        go_simp
        try with_reducible rfl
      try simp only [Act.put, List.setIfInBounds_toArray, List.set_cons_zero, List.set_cons_succ]
      refine wpAnyH_ready (rs := [10]) (by kernel_rfl) (by simp) ?_
      refine AllReadyH.cons rfl (fun K hK => ?sb10) AllReadyH.nil
      go_simp
      refine hK.out _ _ ?kb10 (fun hHeld => ?mb10)
      case kb10 =>
        try dsimp only
        simp [*, World.cell?_alloc_some]
      clear hK K
      try simp only [Act.put, List.setIfInBounds_toArray, List.set_cons_zero, List.set_cons_succ]
      refine wpAnyH_ready (rs := [11]) (by kernel_rfl) (by simp) ?_
      refine AllReadyH.cons rfl (fun K hK => ?sb11) AllReadyH.nil
      go_simp
      rw [wrap_u64 bx0 (by omega), not_limb ⟨by0, by1⟩]
      refine (carry2 c x (4294967295 - y) (V.heap.size + 1 + 1) X.drew ok2 bx0 (by omega) (by omega) q2).mono ?_
      rintro e w2 ⟨rfl, hcar2, hgr⟩
      go_simp
      refine hK.out _ _ ?kb11 (fun hHeld => ?mb11)
      case kb11 =>
        try dsimp only
        exact ⟨hgr.cell c1 (by simp <;> omega), hgr.cell c3 (by simp <;> omega), hgr.cell c0 (by simp <;> omega)⟩
      clear hK K
      try simp only [Act.put, List.setIfInBounds_toArray, List.set_cons_zero, List.set_cons_succ]
      have hblk2 : Blk w2 V.heap.size zs := Blk.grown (w := X.drew) hblk hgr (by simp <;> omega)
      have hcell2 := hblk2.cell k (by omega)
      have hfree2 := hblk2.free k
      refine wpAnyH_take (i := 12) (v := ?va12) rfl (by kernel_rfl) (by kernel_rfl) (by kernel_rfl) (fun _ _ _ h => h) (Or.inl ⟨by rfl, ?ha12⟩) (by assumption) ?ra12
      case ha12 =>
        intro w hSw
        try dsimp only at hSw
        go_simp
        try with_reducible rfl
      try simp only [Act.put, List.setIfInBounds_toArray, List.set_cons_zero, List.set_cons_succ]
      refine wpAnyH_ready (rs := [13]) (by kernel_rfl) (by simp) ?_
      refine AllReadyH.cons rfl (fun K hK => ?sb13) AllReadyH.nil
      go_simp
      refine hK.out _ _ ?kb13 (fun hHeld => ?mb13)
      case kb13 =>
        try dsimp only
        exact ⟨(World.cell?_setCell_far _ _ _ _ (by simp)).trans hHeld.1, (World.cell?_setCell_far _ _ _ _ (by simp <;> omega)).trans hHeld.2.1, (World.cell?_setCell_far _ _ _ _ (by simp <;> omega)).trans hHeld.2.2⟩
      clear hK K
      try simp only [Act.put, List.setIfInBounds_toArray, List.set_cons_zero, List.set_cons_succ]
      refine wpAnyH_done (by kernel_rfl) ?_ _
      have hko : KeepsOthers X w2 := (KeepsOthers.drew X).trans (KeepsOthers.of_grownBy hgr (fun j o ej hj => by cases ej; rw [show X.drew.heap[V.heap.size + 1 + 1]? = _ from q2] at hj; cases hj; rfl))
      have hbo : Below V.heap.size X w2 := (Below.refl _ X).drew.grown hgr hsX (fun j ej => by cases ej; omega)
      have u1 : Boxed w2 (V.heap.size + 1) _ _ := Boxed.kept (W := X.drew) q1 hgr (by simp <;> omega)
      have u3 : Boxed w2 (V.heap.size + 1 + 1 + 1) _ _ := Boxed.kept (W := X.drew) q3 hgr (by simp <;> omega)
      have ub := hblk2.set k ((c + x + (4294967295 - y)) % 4294967296)
      have es : subOf xs ys m ((pre ++ [(⟨k, hk⟩ : Fin (trimN xs xs.length))]).map Fin.val) = (zs.set k ((c + x + (4294967295 - y)) % 4294967296), (c + x + (4294967295 - y)) / 4294967296) := by
        rw [List.map_append, List.map_cons, List.map_nil, subOf_snoc, HS.out]
        simp only [subStep, HX.out, HY.out]
      refine ⟨hko.trans (KeepsOthers.setCell _ _ _), hbo.setCell (p := ⟨V.heap.size, k, none⟩) (Nat.le_refl _) _, ?_, (hB.trans hbo).setCell (p := ⟨V.heap.size, k, none⟩) (Nat.le_refl _) _⟩
      rw [es]
      exact ⟨⟨⟨ub, Boxed.far u1 (by simp) _⟩, Boxed.far (t := 22) hcar2 (by simp <;> omega) _⟩, Boxed.far u3 (by simp <;> omega) _⟩
    case done =>
      rintro D ks X hD hup ⟨⟨⟨⟨hblk, q1⟩, q2⟩, q3⟩, hB⟩ hK
      have ok1 := (subOf_ok xs ys m hwa hwb (ks.map Fin.val)).1
      have hnum := Num.ofBlk hblk (Nat.le_refl _) m (by omega) (by rw [ok1]; unfold maxLen; omega)
      rw [ok1, List.take_of_length_le (by omega)] at hnum
      have es : subL xs ys = (subOf xs ys m (ks.map Fin.val)).1 := by unfold subL; rw [hup, HM.out]
      rw [← es] at hnum
      have c1 := q1.cell
      gi_wp2_with fail
      refine wideCall ((cut_num hnum).mono ?_)
      rintro e w' ⟨u, rfl, hu, rfl⟩
      gi_wp2_with fail
      refine ⟨by simp, .inl ⟨_, _, rfl, run_takeDeferred hK, ?_⟩⟩
      refine ⟨_, results_tmp2 rfl _ _ _, r, HR.out, (hV.trans (hB.mono (by omega))).trans (belowK_b (w := w) (Nat.le_refl _) X D _ _ (by omega) hK rfl rfl), fun h => by simp at hdec; omega, fun _ => ⟨u, rfl, ?_⟩⟩
      exact ownsRow_putObj (hu.mono (by omega)) (.deferred none) hK rfl
    case stop =>
      rintro D c pre X _ _ h _
      exact h.elim
end Go.Proofs.Yteinfanfhgpciaa
