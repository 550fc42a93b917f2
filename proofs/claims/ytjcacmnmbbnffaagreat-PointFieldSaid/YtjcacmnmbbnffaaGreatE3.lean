/-
  Contracts of package rat: plain, Norm.
-/
import Derived.Test.YtjcacmnmbbnffaaGreatE2
import Derived.WalkMore
namespace Go.Proofs.YtjcacmnmbbnffaaGreat
set_option maxRecDepth 100000
section
open Go.RowKit Go.Shelf
set_option linter.unusedVariables false
set_option linter.unusedSimpArgs false
attribute [local go_sem] Oper.semAt_some
/-- quotient and rest by one limb, from the highest limb on -/
def shortW (d : Int) : List Int → List Int × Int
  | [] => ([], 0)
  | x :: l => (((shortW d l).2 * 4294967296 + x) / d :: (shortW d l).1, ((shortW d l).2 * 4294967296 + x) % d)
theorem shortW_length (d : Int) (xs : List Int) : (shortW d xs).1.length = xs.length := by
  induction xs with
  | nil => rfl
  | cons x xs ih => simp [shortW, ih]
theorem shortW_rest {d : Int} (hd : 0 < d) (xs : List Int) : 0 ≤ (shortW d xs).2 ∧ (shortW d xs).2 < d := by
  cases xs with
  | nil => exact ⟨Int.le_refl _, hd⟩
  | cons x xs => exact ⟨Int.emod_nonneg _ (by omega), Int.emod_lt_of_pos _ hd⟩
theorem shortW_limb {d r x : Int} (hd : 0 < d) (hr : 0 ≤ r ∧ r < d) (hx : 0 ≤ x ∧ x < 4294967296) : 0 ≤ (r * 4294967296 + x) / d ∧ (r * 4294967296 + x) / d < 4294967296 := by
  refine ⟨Int.ediv_nonneg (by omega) (by omega), ?_⟩
  rw [Int.ediv_lt_iff_lt_mul hd]
  have h := mul_le_r (a := r + 1) (b := d) (c := 4294967296) (by omega) (by omega)
  rw [Int.mul_comm 4294967296 d]
  omega
theorem shortW_wf {d : Int} (hd : 0 < d) {xs : List Int} (hx : Wf xs) : Wf (shortW d xs).1 := by
  induction xs with
  | nil => exact Wf.nil
  | cons x xs ih => exact Wf.cons (shortW_limb hd (shortW_rest hd xs) hx.head) (ih hx.tail)
theorem val_shortW (d : Int) (xs : List Int) : val (shortW d xs).1 * d + (shortW d xs).2 = val xs := by
  induction xs with
  | nil => simp [shortW, val]
  | cons x xs ih =>
    simp only [shortW, val]
    have h := Int.emod_add_mul_ediv ((shortW d xs).2 * 4294967296 + x) d
    generalize ((shortW d xs).2 * 4294967296 + x) / d = q at *
    generalize ((shortW d xs).2 * 4294967296 + x) % d = r at *
    grind
/-- what lies in memory where k limbs are still to come -/
def shortM (d : Int) (zs : List Int) (k : Nat) : List Int := zs.take k ++ (shortW d (zs.drop k)).1
theorem shortM_length (d : Int) (zs : List Int) (k : Nat) (hk : k ≤ zs.length) : (shortM d zs k).length = zs.length := by
  unfold shortM
  rw [List.length_append, shortW_length, List.length_take, List.length_drop]
  omega
theorem shortM_top (d : Int) (zs : List Int) : shortM d zs zs.length = zs := by simp [shortM, shortW]
theorem shortW_drop (d : Int) (zs : List Int) (k : Nat) (hk : k < zs.length) : shortW d (zs.drop k) = (((shortW d (zs.drop (k + 1))).2 * 4294967296 + zs.getD k 0) / d :: (shortW d (zs.drop (k + 1))).1, ((shortW d (zs.drop (k + 1))).2 * 4294967296 + zs.getD k 0) % d) := by
  rw [List.drop_eq_getElem_cons hk]
  simp only [shortW]
  rw [show zs[k] = zs.getD k 0 by simp [hk]]
theorem shortM_step (d : Int) (zs : List Int) (k : Nat) (hk : k < zs.length) : (shortM d zs (k + 1)).set k (((shortW d (zs.drop (k + 1))).2 * 4294967296 + zs.getD k 0) / d) = shortM d zs k := by
  unfold shortM
  rw [shortW_drop d zs k hk, List.take_succ_eq_append_getElem hk, List.append_assoc, List.set_append_right _ _ (by rw [List.length_take]; omega)]
  rw [List.length_take, Nat.min_eq_left (by omega), Nat.sub_self]
  simp
theorem shortM_low (d : Int) (zs : List Int) (k i : Nat) (hk : k ≤ zs.length) (hi : i < k) : (shortM d zs k).getD i 0 = zs.getD i 0 := by
  unfold shortM
  simp only [List.getD]
  rw [List.getElem?_append_left (by rw [List.length_take]; omega), List.getElem?_take_of_lt hi]
theorem or_u64' {x y : Int} (hx : 0 ≤ x ∧ x < 4294967296) (hy : 0 ≤ y ∧ y < 4294967296) : bits .or .u64 (x * 4294967296) y = x * 4294967296 + y := by rw [or_u64 hx hy]; omega
/-- how far a walk from above has come -/
structure Down (N : Nat) (pre : List (Fin N)) : Prop where
  on : Downto pre pre.length
  le : pre.length ≤ N
theorem Down.snoc {N : Nat} {pre : List (Fin N)} (h : Down N pre) (x : Fin N) (hx : x.val + pre.length + 1 = N) : Down N (pre ++ [x]) := by
  have e : (pre ++ [x]).length = pre.length + 1 := by simp
  exact ⟨by rw [e]; exact h.on.snoc x hx, by rw [e]; omega⟩
set_option maxRecDepth 100000 in
set_option maxHeartbeats 4000000 in
theorem short1_any {u : Value} {w : World} {xs : List Int} {a : Option Addr} {cap : Nat} (d : Int) (h1 : Arg w u xs a cap) (hx : xs.length ≤ 35184372088832) (hd : 0 < d ∧ d < 4294967296) :
    Calls Tryz.prog 147 #[u, .int .u32 d] w fun e w' => ∃ r, e = .returned (.tuple #[r, .int .u32 (val xs % d), .int .i64 0]) ∧ ∃ zs, Res w.heap.size w' r zs (val xs / d) ∧ zs.length ≤ xs.length ∧ Below w.heap.size w w' := by
  obtain ⟨hd0, hd1⟩ := hd
  obtain ⟨n, hn⟩ : ∃ n : Nat, Hid (3 ≤ n) := ⟨3, Nat.le_refl 3⟩
  refine (callsIn_wide (n := n)).1 ?_
  refine callsIn_of_wp_marks Tryz.func147 rfl trivial ?_ rfl
  simp only [Tryz.ntmps147, List.size_toArray, List.length_cons, List.length_nil, Nat.reduceAdd, Nat.reduceSub, Array.replicate_succ, Array.replicate_zero, List.push_toArray, List.append_toArray, List.nil_append, List.cons_append]
  have hdz : (d == 0) = false := by simp; omega
  gi_wp2_with fail
  have A1 := h1.later ((Below.refl _ w).alloc (Nat.le_refl _) (Obj.cells #[Value.int IntKind.u32 d] 64))
  refine wideCall ((trim_res A1 hx).mono ?_)
  rintro e w1 ⟨r1, zs, rfl, q1, n1, hb1⟩
  rw [World.size_alloc] at q1 hb1
  have k1 : Boxed w1 w.heap.size 64 (.int .u32 d) := (hb1.block _ (Nat.lt_succ_self _)).trans (Boxed.new w 64 (.int .u32 d))
  have hB1 : Below w.heap.size w w1 := ((Below.refl _ w).alloc (Nat.le_refl _) _).trans (hb1.mono (Nat.le_succ _))
  have hs1 : w.heap.size + 1 ≤ w1.heap.size := by have := hb1.size; rw [World.size_alloc] at this; exact this
  obtain ⟨ad, cp, rfl, _, _, _, _⟩ := q1.num.read
  gi_wp2_with fail
  refine wideCall ((back_any _ _ _ _).mono ?_)
  rintro e w' ⟨rfl, rfl⟩
  gi_wp2_with fail
  have h3 : 3 ≤ n := hn
  obtain ⟨N, hN⟩ : ∃ N, zs.length = N := ⟨_, rfl⟩
  rw [hN]
  have nq0 := q1.num
  rw [hN] at nq0
  have j7 := ((Boxed.new w1 49 (.slice ad N cp)).alloc (Obj.cells #[Value.int IntKind.u64 0] 152)).alloc (Obj.cells #[Value.slice ad N cp] 49)
  have j8 := (Boxed.new (w1.alloc (Obj.cells #[Value.slice ad N cp] 49)) 152 (.int .u64 0)).alloc (Obj.cells #[Value.slice ad N cp] 49)
  have j9 := Boxed.new ((w1.alloc (Obj.cells #[Value.slice ad N cp] 49)).alloc (Obj.cells #[Value.int IntKind.u64 0] 152)) 49 (.slice ad N cp)
  have j3 := ((k1.alloc (Obj.cells #[Value.slice ad N cp] 49)).alloc (Obj.cells #[Value.int IntKind.u64 0] 152)).alloc (Obj.cells #[Value.slice ad N cp] 49)
  have jb : Below w1.heap.size w1 (((w1.alloc (Obj.cells #[Value.slice ad N cp] 49)).alloc (Obj.cells #[Value.int IntKind.u64 0] 152)).alloc (Obj.cells #[Value.slice ad N cp] 49)) :=
    (((Below.refl _ w1).alloc (Nat.le_refl _) _).alloc (by simp) _).alloc (by simp; omega) _
  have js : (((w1.alloc (Obj.cells #[Value.slice ad N cp] 49)).alloc (Obj.cells #[Value.int IntKind.u64 0] 152)).alloc (Obj.cells #[Value.slice ad N cp] 49)).heap.size = w1.heap.size + 3 := by simp
  have jq := nq0.later jb
  have jB := hB1.trans (jb.mono (Nat.le_trans (Nat.le_succ _) hs1))
  simp only [World.size_alloc] at j8 j9
  generalize ((w1.alloc (Obj.cells #[Value.slice ad N cp] 49)).alloc (Obj.cells #[Value.int IntKind.u64 0] 152)).alloc (Obj.cells #[Value.slice ad N cp] 49) = W0 at *
  have hNw : N ≤ 35184372088832 := by omega
  have wz := q1.wf
  have hqe := q1.eq
  have hglt : ∀ g, ad = some ⟨g, 0, none⟩ → g < w1.heap.size := fun g e => (nq0.lt g (by rw [e]; rfl)).2
  have HN := Lib.hid hN
  have HQE := Lib.hid hqe
  have hn1 : N ≤ xs.length := by omega
  have jq2 : Num (w.heap.size + 1) W0 (.slice ad N cp) (shortM d zs N) := by rw [← hN, shortM_top, hN]; exact jq
  clear q1 nq0 k1 hB1 hb1 A1 jb h1 hN hqe n1
  refine range_seen (gf := 170) (lb := #[.pointer (some ⟨w1.heap.size + 1 + 1, 0, none⟩)]) rfl (enters_of Tryz.func170 (by kernel_rfl) rfl) (encs := limbAt zs (n := N)) (fun _ => rfl)
    (fun (pre : List (Fin N)) X => Down N pre ∧ ((((Num (w.heap.size + 1) X (.slice ad N cp) (shortM d zs (N - pre.length)) ∧ Boxed X w.heap.size 64 (.int .u32 d)) ∧ Boxed X w1.heap.size 49 (.slice ad N cp)) ∧
      Boxed X (w1.heap.size + 1) 152 (.int .u64 (shortW d (zs.drop (N - pre.length))).2)) ∧ Boxed X (w1.heap.size + 1 + 1) 49 (.slice ad N cp)) ∧ Below w.heap.size w X)
    (fun pre x => Downto pre pre.length ∧ x.val + pre.length + 1 = N) (fun ys => Downto ys N)
    (OwnFrom.and (ownFrom_pure _ _) (OwnFrom.and (Own.from (Own.and2 (Own.and2 (Own.and2 (Own.and2 (Num.own _ _ _) (boxed_own _ _ _)) (boxed_own _ _ _)) (boxed_own _ _ _)) (boxed_own _ _ _)) _) (ownFrom_below (by omega) (by omega))))
    ?start (fun (x : Fin N) => { tmps := #[u, .int .u32 d, undef, .pointer (some ⟨w.heap.size, 0, none⟩), .slice none 0 0, .int .u32 0, .int .i64 0, .pointer (some ⟨w1.heap.size, 0, none⟩), .pointer (some ⟨w1.heap.size + 1, 0, none⟩), .int .i64 (x.val : Int), .int .u32 (zs[x.val]?.getD 0), .int .u32 d,
      .bool false, u, .slice ad N cp, .slice ad N cp, .func (.func 170) #[] #[.pointer (some ⟨w1.heap.size + 1 + 1, 0, none⟩)], .int .i64 (x.val : Int), .int .u32 (zs[x.val]?.getD 0),
      undef, undef, undef, undef, undef, undef, undef, undef, undef, undef, undef, undef, undef, undef, undef, undef, undef, undef, undef, undef, undef], defers := [] }) ?seq ?assign ?body ?done
  case start =>
    refine ⟨⟨Downto.nil, Nat.zero_le _⟩, ⟨⟨⟨⟨?_, j3⟩, j7⟩, ?_⟩, j9⟩, jB⟩
    · exact jq2
    · rw [List.length_nil, Nat.sub_zero, ← HN.out, List.drop_length]; exact j8
  case seq =>
    intro l J hJ hY W hJ0
    obtain ⟨g, hg⟩ : ∃ g, 0 < N → ad = some ⟨g, 0, none⟩ := by
      rcases ad with _ | ad
      · exact ⟨0, fun h => by have h2 := jq.nil_slice; rw [h2.2.1] at h; exact absurd h (Nat.lt_irrefl 0)⟩
      · obtain ⟨g, rfl, _⟩ := jq.some_slice
        exact ⟨g, fun _ => rfl⟩
    refine back_seen (n - 1) (w1.heap.size + 1 + 1) g N cp ad hg hNw zs HN.out _ (fun pre X h => ⟨h.2.1.2.cell, fun i hi => ?_⟩) l J hJ hY W hJ0
    have hq := h.2.1.1.1.1.1
    rw [hg (by omega)] at hq
    obtain ⟨g', e, _, _, _, hp⟩ := hq.some_slice
    cases e
    have hl := HN.out
    have hc := hp.cell i (by rw [shortM_length _ _ _ (by omega)]; omega)
    rw [shortM_low _ _ _ _ (by omega) (by omega)] at hc
    exact hc
  case assign =>
    intro l x X K hK
    simp only [limbAt]
    gi_wp2
    exact hK
  case body =>
    rintro l pre ⟨j, hj⟩ X ⟨hdn, ⟨⟨⟨⟨nq, b3⟩, b7⟩, b8⟩, b9⟩, hB⟩ ⟨_, hnx⟩
    simp only at hnx
    have hl := HN.out
    have ejp : N - pre.length = j + 1 := by omega
    have ejp2 : N - (pre ++ [(⟨j, hj⟩ : Fin N)]).length = j := by simp; omega
    rw [ejp] at nq b8
    rw [ejp2]
    have hdn' : Down N (pre ++ [(⟨j, hj⟩ : Fin N)]) := hdn.snoc ⟨j, hj⟩ hnx
    have HDN := Lib.hid hdn'
    clear hdn'
    obtain ⟨br0, br1⟩ := shortW_rest hd0 (zs.drop (j + 1))
    obtain ⟨bx0, bx1⟩ := wz.getD j
    obtain ⟨bq0, bq1⟩ := shortW_limb hd0 ⟨br0, br1⟩ ⟨bx0, bx1⟩
    have hstep := shortM_step d zs j (by omega)
    have hdrop := shortW_drop d zs j (by omega)
    obtain ⟨x, hx⟩ : ∃ x, zs.getD j 0 = x := ⟨_, rfl⟩
    obtain ⟨r, hr⟩ : ∃ r, (shortW d (zs.drop (j + 1))).2 = r := ⟨_, rfl⟩
    rw [hx] at bx0 bx1 bq0 bq1 hstep hdrop
    rw [hr] at br0 br1 b8 bq0 bq1 hstep hdrop
    have hx' : zs[j]?.getD 0 = x := hx
    simp only [hx']
    rw [hdrop]
    have hor : bits .or .u64 (r * 4294967296) x = r * 4294967296 + x := or_u64' ⟨br0, by omega⟩ ⟨bx0, bx1⟩
    obtain ⟨q, hq⟩ : ∃ q, (r * 4294967296 + x) / d = q := ⟨_, rfl⟩
    obtain ⟨m, hm⟩ : ∃ m, (r * 4294967296 + x) % d = m := ⟨_, rfl⟩
    rw [hq] at bq0 bq1 hstep
    have htd : Int.tdiv (r * 4294967296 + x) d = q := by rw [Int.tdiv_eq_ediv_of_nonneg (by omega), hq]
    have htm : Int.tmod (r * 4294967296 + x) d = m := by rw [Int.tmod_eq_emod_of_nonneg (by omega), hm]
    have hm0 : 0 ≤ m := by rw [← hm]; exact Int.emod_nonneg _ (by omega)
    have hm1 : m < d := by rw [← hm]; exact Int.emod_lt_of_pos _ hd0
    obtain ⟨g, rfl, hg, hp⟩ : ∃ g, ad = some ⟨g, 0, none⟩ ∧ w.heap.size + 1 ≤ g ∧ Part X g cp (shortM d zs (j + 1)) := by
      rcases ad with _ | ad
      · have h2 := nq.nil_slice; omega
      · obtain ⟨g, rfl, h1, _, _, h2⟩ := nq.some_slice
        exact ⟨g, rfl, h1, h2⟩
    have hgw := hglt g rfl
    have hle : cp ≤ maxLen := by obtain ⟨g', e, _, _, h, _⟩ := nq.some_slice; exact h
    have hlen : (shortM d zs (j + 1)).length = N := by rw [shortM_length _ _ _ (by omega), hl]
    have c8 := b8.cell
    have f8 := b8.frozen
    have c7 := b7.cell
    have c3 := b3.cell
    have hsX := hB.size
    have HST := Lib.hid hstep
    have HM := Lib.hid hm
    have hjN : (j : Int) < (N : Int) := by omega
    clear hstep hdrop hq hm hx hr hx' hl hlen nq
    gi_wp2_with fail
    have p8 : Boxed (X.setCell ⟨w1.heap.size + 1, 0, none⟩ (.int .u64 (r * 4294967296 + x))) (w1.heap.size + 1) 152 (.int .u64 (r * 4294967296 + x)) := b8.set _
    have p7 : Boxed (X.setCell ⟨w1.heap.size + 1, 0, none⟩ (.int .u64 (r * 4294967296 + x))) w1.heap.size 49 (.slice (some ⟨g, 0, none⟩) N cp) := Boxed.far b7 (by simp) _
    have p9 : Boxed (X.setCell ⟨w1.heap.size + 1, 0, none⟩ (.int .u64 (r * 4294967296 + x))) (w1.heap.size + 1 + 1) 49 (.slice (some ⟨g, 0, none⟩) N cp) := Boxed.far b9 (by simp) _
    have p3 : Boxed (X.setCell ⟨w1.heap.size + 1, 0, none⟩ (.int .u64 (r * 4294967296 + x))) w.heap.size 64 (.int .u32 d) := Boxed.far b3 (by simp; omega) _
    have pp := hp.far (p := ⟨w1.heap.size + 1, 0, none⟩) (by simp; omega) (.int .u64 (r * 4294967296 + x))
    have pB : Below w.heap.size w (X.setCell ⟨w1.heap.size + 1, 0, none⟩ (.int .u64 (r * 4294967296 + x))) := hB.setCell (p := ⟨w1.heap.size + 1, 0, none⟩) (by simp; omega) _
    have pK : KeepsOthers X (X.setCell ⟨w1.heap.size + 1, 0, none⟩ (.int .u64 (r * 4294967296 + x))) := KeepsOthers.setCell _ _ _
    clear b8 b7 b9 b3 hp hB c8 f8 c7 c3
    generalize (X.setCell ⟨w1.heap.size + 1, 0, none⟩ (.int .u64 (r * 4294967296 + x))) = Y at *
    have c8 := p8.cell
    have c7 := p7.cell
    have c3 := p3.cell
    have hwd : IntKind.u64.wrap d = d := wrap_u64 (by omega) (by omega)
    have hwq : IntKind.u64.wrap q = q := wrap_u64 (by omega) (by omega)
    have hwq2 : IntKind.u32.wrap q = q := by rw [wrap_u32]; exact Int.emod_eq_of_lt bq0 bq1
    have hdne : d ≠ 0 := by omega
    have cg := pp.cell j (by rw [shortM_length _ _ _ (by have := HN.out; omega)]; have := HN.out; omega)
    have fg := pp.free j
    refine region_round (fun X' => X'.cell? ⟨w1.heap.size, 0, none⟩ = some (.slice (some ⟨g, 0, none⟩) N cp) ∧ X'.cell? ⟨w1.heap.size + 1, 0, none⟩ = some (.int .u64 (r * 4294967296 + x)) ∧ X'.cell? ⟨w.heap.size, 0, none⟩ = some (.int .u32 d))
      (by kernel_rfl) (by kernel_rfl) (by rintro ⟨a', w', h⟩; exact absurd (show Exit.outgrown = Exit.normal from h.1) (by simp)) ⟨c7, c8, c3⟩ (fun hHeld => ?_)
    refine wpAnyH_take (i := 0) (v := ?va0) rfl (by kernel_rfl) (by kernel_rfl) (by kernel_rfl) (fun _ _ _ h => h) (Or.inl ⟨by rfl, ?ha0⟩) (by assumption) ?ra0
    case ha0 =>
      intro w hSw
      try dsimp only at hSw
      go_simp
      try with_reducible rfl
    try simp only [Act.put, List.setIfInBounds_toArray, List.set_cons_zero, List.set_cons_succ]
    refine wpAnyH_take (i := 1) (v := ?va1) rfl (by kernel_rfl) (by kernel_rfl) (by kernel_rfl) (fun _ _ _ h => h) (Or.inl ⟨by rfl, ?ha1⟩) (by assumption) ?ra1
    case ha1 =>
      intro w hSw
      try dsimp only at hSw
      go_simp
      try with_reducible rfl
    try simp only [Act.put, List.setIfInBounds_toArray, List.set_cons_zero, List.set_cons_succ]
    refine wpAnyH_take (i := 2) (v := ?va2) rfl (by kernel_rfl) (by kernel_rfl) (by kernel_rfl) (fun _ _ _ h => h) (Or.inl ⟨by rfl, ?ha2⟩) (by assumption) ?ra2
    case ha2 =>
      intro w hSw
      try dsimp only at hSw
      go_simp
      try with_reducible rfl
    try simp only [Act.put, List.setIfInBounds_toArray, List.set_cons_zero, List.set_cons_succ]
    refine wpAnyH_take (i := 3) (v := ?va3) rfl (by kernel_rfl) (by kernel_rfl) (by kernel_rfl) (fun _ _ _ h => h) (Or.inl ⟨by rfl, ?ha3⟩) (by assumption) ?ra3
    case ha3 =>
      intro w hSw
      try dsimp only at hSw
      go_simp
      try with_reducible rfl
    try simp only [Act.put, List.setIfInBounds_toArray, List.set_cons_zero, List.set_cons_succ]
    refine wpAnyH_take (i := 4) (v := ?va4) rfl (by kernel_rfl) (by kernel_rfl) (by kernel_rfl) (fun _ _ _ h => h) (Or.inl ⟨by rfl, ?ha4⟩) (by assumption) ?ra4
    case ha4 =>
      intro w hSw
      try dsimp only at hSw
      go_simp
      try with_reducible rfl
    try simp only [Act.put, List.setIfInBounds_toArray, List.set_cons_zero, List.set_cons_succ]
    refine wpAnyH_take (i := 5) (v := ?va5) rfl (by kernel_rfl) (by kernel_rfl) (by kernel_rfl) (fun _ _ _ h => h) (Or.inl ⟨by rfl, ?ha5⟩) (by assumption) ?ra5
    case ha5 =>
      intro w hSw
      try dsimp only at hSw
      go_simp
      try with_reducible rfl
    try simp only [Act.put, List.setIfInBounds_toArray, List.set_cons_zero, List.set_cons_succ]
    refine wpAnyH_take (i := 6) (v := ?va6) rfl (by kernel_rfl) (by kernel_rfl) (by kernel_rfl) (fun _ _ _ h => h) (Or.inl ⟨by rfl, ?ha6⟩) (by assumption) ?ra6
    case ha6 =>
      intro w hSw
      try dsimp only at hSw
      go_simp
      try with_reducible rfl
    try simp only [Act.put, List.setIfInBounds_toArray, List.set_cons_zero, List.set_cons_succ]
    refine wpAnyH_take (i := 7) (v := ?va7) rfl (by kernel_rfl) (by kernel_rfl) (by kernel_rfl) (fun _ _ _ h => h) (Or.inl ⟨by rfl, ?ha7⟩) (by assumption) ?ra7
    case ha7 =>
      intro w hSw
      try dsimp only at hSw
      go_simp
      try with_reducible rfl
    try simp only [Act.put, List.setIfInBounds_toArray, List.set_cons_zero, List.set_cons_succ]
    refine wpAnyH_ready (rs := [8]) (by kernel_rfl) (by simp) ?_
    refine AllReadyH.cons rfl (fun K hK => ?sb8) AllReadyH.nil
    go_simp
    refine hK.out _ _ ?kb8 (fun hHeld => ?mb8)
    case kb8 =>
      try dsimp only
      exact ⟨(World.cell?_setCell_far _ _ _ _ (by simp <;> omega)).trans hHeld.1, (World.cell?_setCell_far _ _ _ _ (by simp <;> omega)).trans hHeld.2.1, (World.cell?_setCell_far _ _ _ _ (by simp <;> omega)).trans hHeld.2.2⟩
    clear hK K
    try simp only [Act.put, List.setIfInBounds_toArray, List.set_cons_zero, List.set_cons_succ]
    refine wpAnyH_done (by kernel_rfl) ?_ _
    have hj' : (shortM d zs j).length = N := shortM_length _ _ _ (by have := HN.out; omega) |>.trans HN.out
    have hz1 : (shortM d zs (j + 1)).length = N := shortM_length _ _ _ (by have := HN.out; omega) |>.trans HN.out
    have t8 : Boxed (Y.setCell ⟨g, j, none⟩ (.int .u32 q)).drew (w1.heap.size + 1) 152 (.int .u64 (r * 4294967296 + x)) := Boxed.far p8 (by simp; omega) _
    have t7 : Boxed (Y.setCell ⟨g, j, none⟩ (.int .u32 q)).drew w1.heap.size 49 (.slice (some ⟨g, 0, none⟩) N cp) := Boxed.far p7 (by simp; omega) _
    have t9 : Boxed (Y.setCell ⟨g, j, none⟩ (.int .u32 q)).drew (w1.heap.size + 1 + 1) 49 (.slice (some ⟨g, 0, none⟩) N cp) := Boxed.far p9 (by simp; omega) _
    have t3 : Boxed (Y.setCell ⟨g, j, none⟩ (.int .u32 q)).drew w.heap.size 64 (.int .u32 d) := Boxed.far p3 (by simp; omega) _
    have tp : Part (Y.setCell ⟨g, j, none⟩ (.int .u32 q)).drew g cp (shortM d zs j) := by
      have h := pp.set j (by omega) q
      rw [HST.out] at h
      exact h
    have tB : Below w.heap.size w (Y.setCell ⟨g, j, none⟩ (.int .u32 q)).drew := (pB.setCell (p := ⟨g, j, none⟩) (by simp; omega) _).drew
    have tK : KeepsOthers X (Y.setCell ⟨g, j, none⟩ (.int .u32 q)).drew := (pK.trans (KeepsOthers.setCell _ _ _)).trans (KeepsOthers.drew _)
    clear hHeld p8 p7 p9 p3 pp pB pK c8 c7 c3 cg fg
    generalize (Y.setCell ⟨g, j, none⟩ (.int .u32 q)).drew = Z at *
    have d8 := t8.cell
    have f8 := t8.frozen
    have d3 := t3.cell
    gi_wp2_with fail
    refine ⟨(tK.trans (KeepsOthers.setCell _ _ _)).from _, HDN.out, ⟨⟨⟨⟨?_, Boxed.far t3 (by simp; omega) _⟩, Boxed.far t7 (by simp) _⟩, ?_⟩, Boxed.far t9 (by simp) _⟩, tB.setCell (p := ⟨w1.heap.size + 1, 0, none⟩) (by simp; omega) _⟩
    · have h := (tp.far (p := ⟨w1.heap.size + 1, 0, none⟩) (by simp; omega) (.int .u64 m)).num hg hle
      rw [hj'] at h
      exact h
    · rw [HM.out]
      exact t8.set _
  case done =>
    rintro D ys X hD hdn ⟨_, ⟨⟨⟨⟨nq, b3⟩, b7⟩, b8⟩, b9⟩, hB⟩ hK
    have hyl : ys.length = N := hdn.1
    rw [hyl, Nat.sub_self] at nq b8
    have e1 : shortM d zs 0 = (shortW d zs).1 := by simp [shortM]
    rw [e1] at nq
    rw [List.drop_zero] at b8
    have hsX := hB.size
    have hl := HN.out
    obtain ⟨br0, br1⟩ := shortW_rest hd0 zs
    have hv := val_shortW d zs
    obtain ⟨e2, e3⟩ := quo_eq (show 0 < d by omega) hv ⟨br0, br1⟩
    rw [HQE.out] at e2 e3
    have wq := shortW_wf hd0 wz
    obtain ⟨r, hr⟩ : ∃ r, (shortW d zs).2 = r := ⟨_, rfl⟩
    have hln : (shortW d zs).1.length = N := by rw [shortW_length, hl]
    rw [hr] at b8 br0 br1 e3
    have hwr : IntKind.u32.wrap r = r := by rw [wrap_u32]; exact Int.emod_eq_of_lt br0 (by omega)
    have c8 := b8.cell
    have c7 := b7.cell
    have E2 := Lib.hid e2
    have E3 := Lib.hid e3
    obtain ⟨qs, hqs⟩ : ∃ qs, (shortW d zs).1 = qs := ⟨_, rfl⟩
    rw [hqs] at nq wq hln
    have E4 := Lib.hid hqs
    obtain ⟨adq, capq, hq1, hq2, hq3, _, _⟩ := nq.read
    rw [hln] at hq1
    simp only [Value.slice.injEq, true_and] at hq1
    obtain ⟨rfl, rfl⟩ := hq1
    have Aq : Arg X.drew (.slice ad N cp) qs ad cp := ⟨by rw [hln], hq2.later ((Below.refl X.heap.size X).drew), hq3, wq⟩
    clear hv e1 e2 e3 hqs hr nq hq2 hq3 jq jq2 j3 j7 j8 j9
    gi_wp2_with fail
    refine wpIn_wide.2 ?_
    go_region_held3 (fun X' => X'.cell? ⟨w1.heap.size, 0, none⟩ = some (.slice ad N cp) ∧ X'.cell? ⟨w1.heap.size + 1, 0, none⟩ = some (.int .u64 r))
      (first | exact ⟨(hb2.cell (p := ⟨w1.heap.size, 0, none⟩) (World.block_lt_of_cell? X _ c7)).trans c7, (hb2.cell (p := ⟨w1.heap.size + 1, 0, none⟩) (World.block_lt_of_cell? X _ c8)).trans c8⟩ | go_keep)
      (first | (go_at_call 145; refine (trim_res Aq (by omega)).mono ?_; rintro e w2 ⟨r2, z2, rfl, q2, n2, hb2⟩))
    gi_wp2_with fail
    have hDX : D < X.heap.size := (Array.getElem?_eq_some_iff.1 hK).1
    have hK2 : w2.heap[D]? = some (.deferred (some [])) := (hb2.block D hDX).trans hK
    refine ⟨by simp, .inl ⟨_, _, rfl, run_takeDeferred hK2, ?_⟩⟩
    have hs2 : X.heap.size ≤ w2.heap.size := hb2.size
    have ev : val qs = val xs / d := by rw [← E4.out, E2.out]
    refine ⟨.tuple #[r2, .int .u32 r, .int .i64 0], by simp [results, Tryz.f147, go_sem], r2, by rw [← E3.out], z2, ⟨ownsRow_putObj (q2.num.mono (show w.heap.size ≤ X.drew.heap.size from hsX)) (.deferred none) hK2 rfl, q2.wf, q2.full, q2.eq.trans ev⟩, by omega, ?_⟩
    have hb2' : Below w.heap.size X w2 := Below.mono (show Below X.heap.size X w2 from ⟨hb2.os, hb2.tape, hb2.output, hb2.size, hb2.block⟩) hsX
    exact (hB.trans hb2').trans (belowK_b (w := w) (Nat.le_refl _) w2 D _ _ (by omega) hK2 rfl rfl)
end
section
open Go.RowKit
set_option linter.unusedVariables false
set_option linter.unusedSimpArgs false
theorem est_of {ps ys : List Int} (n : Nat) (hp : Wf ps) (hy : Wf ys) (lp : ps.length = n + 3) (ly : ys.length = n + 2) (ht : 2147483648 ≤ ys.getD (n + 1) 0) (hlt : val ps < 4294967296 * val ys) :
    Est (val ps) (val ys) (ps.getD (n + 2) 0 * 4294967296 + ps.getD (n + 1) 0) (ps.getD n 0) (ys.getD (n + 1) 0) (ys.getD n 0) (4294967296 ^ n) (val (ps.take n)) (val (ys.take n)) := by
  have hU : val ps = (ps.getD (n + 2) 0 * 4294967296 + ps.getD (n + 1) 0) * (4294967296 * 4294967296 ^ n) + ps.getD n 0 * 4294967296 ^ n + val (ps.take n) := by
    have h := val_take_succ ps (n + 2)
    have e2 : (4294967296 : Int) ^ (n + 2) = 4294967296 * (4294967296 * 4294967296 ^ n) := by rw [Int.pow_succ, Int.pow_succ, Int.mul_comm, Int.mul_comm (4294967296 ^ n)]
    have e1 : (4294967296 : Int) ^ (n + 1) = 4294967296 * 4294967296 ^ n := by rw [Int.pow_succ, Int.mul_comm]
    rw [List.take_of_length_le (by omega), val_take_succ ps (n + 1), val_take_succ ps n, e2, e1] at h
    rw [h]
    generalize (4294967296 : Int) ^ n = P
    generalize ps.getD (n + 2) 0 = x
    generalize ps.getD (n + 1) 0 = y
    generalize ps.getD n 0 = z
    generalize val (ps.take n) = t
    clear h hp hy lp ly ht hlt e1 e2
    grind
  have hV : val ys = ys.getD (n + 1) 0 * (4294967296 * 4294967296 ^ n) + ys.getD n 0 * 4294967296 ^ n + val (ys.take n) := by
    have h := val_take_succ ys (n + 1)
    rw [List.take_of_length_le (by omega), val_take_succ ys n, Int.pow_succ] at h
    rw [h]
    generalize (4294967296 : Int) ^ n = P
    grind
  have b1 := hp.getD (n + 2)
  have b2 := hp.getD (n + 1)
  have b3 := hp.getD n
  have b4 := hy.getD (n + 1)
  have b5 := hy.getD n
  have l1 := val_lt (hp.take n)
  have l2 := val_lt (hy.take n)
  rw [List.length_take, Nat.min_eq_left (by omega)] at l1 l2
  exact ⟨hU, hV, by have := pow_pos' n; omega, val_nonneg (hp.take n), l1, val_nonneg (hy.take n), l2, ht, b4.2, b5.1, b5.2, b3.1, b3.2, by omega, hlt⟩
set_option maxRecDepth 100000 in
set_option maxHeartbeats 4000000 in
theorem estimate_any {pg po bg bo : Nat} {ps ys : List Int} {capp capb : Nat} {w : World} (n : Nat) (hp : Wf ps) (hy : Wf ys) (lp : ps.length = n + 3) (ly : ys.length = n + 2) (hm : n ≤ 1099511627776)
    (cp : ∀ i, i < ps.length → w.cell? ⟨pg, po + i, none⟩ = some (.int .u32 (ps.getD i 0))) (cy : ∀ i, i < ys.length → w.cell? ⟨bg, bo + i, none⟩ = some (.int .u32 (ys.getD i 0)))
    (ht : 2147483648 ≤ ys.getD (n + 1) 0) (hlt : val ps < 4294967296 * val ys) :
    Calls Tryz.prog 174 #[.slice (some ⟨pg, po, none⟩) ps.length capp, .slice (some ⟨bg, bo, none⟩) ys.length capb] w fun e w' =>
      ∃ q : Int, e = .returned (.int .u64 q) ∧ 0 ≤ q ∧ q ≤ 4294967295 ∧ 0 ≤ val ps - q * val ys + val ys ∧ val ps < (q + 1) * val ys ∧ Below w.heap.size w w' := by
  have E := est_of n hp hy lp ly ht hlt
  have c2 := cp (n + 2) (by omega)
  have c1 := cp (n + 1) (by omega)
  have c0 := cp n (by omega)
  have d1 := cy (n + 1) (by omega)
  have d0 := cy n (by omega)
  obtain ⟨bp0, bp1⟩ := hp.getD (n + 2)
  obtain ⟨bq0, bq1⟩ := hp.getD (n + 1)
  obtain ⟨u2, h2⟩ : ∃ u, ps.getD (n + 2) 0 = u := ⟨_, rfl⟩
  obtain ⟨u1, h1⟩ : ∃ u, ps.getD (n + 1) 0 = u := ⟨_, rfl⟩
  obtain ⟨u0, h0⟩ : ∃ u, ps.getD n 0 = u := ⟨_, rfl⟩
  obtain ⟨v1, g1⟩ : ∃ u, ys.getD (n + 1) 0 = u := ⟨_, rfl⟩
  obtain ⟨v0, g0⟩ : ∃ u, ys.getD n 0 = u := ⟨_, rfl⟩
  rw [h2] at E c2 bp0 bp1
  rw [h1] at E c1 bq0 bq1
  rw [h0] at E c0
  rw [g1] at E d1
  rw [g0] at E d0
  obtain ⟨N, hN⟩ : ∃ N, ps.length = N := ⟨_, rfl⟩
  obtain ⟨m, hm'⟩ : ∃ m, ys.length = m := ⟨_, rfl⟩
  obtain ⟨j1, hj1⟩ : ∃ j1, n + 1 = j1 := ⟨_, rfl⟩
  rw [hN, hm']
  rw [show n + 2 = m by omega] at c2
  rw [hj1] at c1 d1
  have e1 : (m : Int) - 1 = (j1 : Int) := by omega
  have e0 : (m : Int) - 2 = (n : Int) := by omega
  have i1 : (j1 : Int) < m := by omega
  have i0 : (n : Int) < m := by omega
  have i2 : (m : Int) < N := by omega
  have i3 : (j1 : Int) < N := by omega
  have i4 : (n : Int) < N := by omega
  have i5 : m ≤ 1099511627778 := by omega
  clear cp cy h2 h1 h0 g1 g0 ht hlt hp hy lp ly hN hm' hj1
  generalize val ps = U at *
  generalize val ys = V at *
  obtain ⟨high, hh⟩ : ∃ high, u2 * 4294967296 + u1 = high := ⟨_, rfl⟩
  have hor : bits .or .u64 (u2 * 4294967296) u1 = high := by rw [or_u64 ⟨bp0, bp1⟩ ⟨bq0, bq1⟩]; omega
  rw [hh] at E
  have a0 := E.a0
  have a1 := E.a1
  have b0 := E.b0
  have b1 := E.b1
  have l0 := E.l0
  have l1 := E.l1
  have hh0 := E.h0
  have hhm : high < 18446744073709551616 := by omega
  obtain ⟨q0, hq0⟩ : ∃ q, high / v1 = q := ⟨_, rfl⟩
  obtain ⟨r0, hr0⟩ : ∃ r, high % v1 = r := ⟨_, rfl⟩
  have htd : Int.tdiv high v1 = q0 := by rw [Int.tdiv_eq_ediv_of_nonneg hh0, hq0]
  have htm : Int.tmod high v1 = r0 := by rw [Int.tmod_eq_emod_of_nonneg hh0, hr0]
  have hqr : q0 * v1 + r0 = high := by have h := Int.mul_ediv_add_emod high v1; rw [hq0, hr0, Int.mul_comm] at h; exact h
  have br0 : 0 ≤ r0 := by rw [← hr0]; exact Int.emod_nonneg _ (by omega)
  have br1 : r0 < v1 := by rw [← hr0]; exact Int.emod_lt_of_pos _ (by omega)
  have bq2 : 0 ≤ q0 := by rw [← hq0]; exact Int.ediv_nonneg hh0 (by omega)
  have bq3 : q0 ≤ 8589934592 := by
    have h1 := mul_le_l (a := 2147483648) (b := v1) bq2 a0
    omega
  have hfirst : U < (q0 + 1) * V := by rw [← hq0]; exact E.first
  have hv1 : v1 ≠ 0 := by omega
  have hwq : IntKind.u64.wrap q0 = q0 := wrap_u64 (by omega) (by omega)
  have hwr : IntKind.u64.wrap r0 = r0 := wrap_u64 (by omega) (by omega)
  have hww : IntKind.u64.wrap v1 = v1 := wrap_u64 (by omega) (by omega)
  have HQR := Lib.hid hqr
  have HF := Lib.hid hfirst
  clear hq0 hr0 hqr hfirst
  have HH := Lib.hid hh
  have HE := Lib.hid E
  clear hh E
  go_enter Tryz.func174, Tryz.ntmps174
  go_wp2
  go_step3
  go_wp2
  go_quiet (fail)
  go_wp2
  go_quiet (fail)
  go_wp2
  go_quiet (fail)
  go_wp2
  go_step3
  go_wp2
  go_loopw [10, 11] (fun q r wr => ∃ Q R : Int, q = .int .u64 Q ∧ r = .int .u64 R ∧ Q * v1 + R = high ∧ 0 ≤ Q ∧ Q ≤ 8589934592 ∧ 0 ≤ R ∧ R < 4294967296 + v1 ∧ U < (Q + 1) * V ∧ Below w.heap.size w wr) (fun q _ _ => (intOf q).toNat)
  case atStart => exact ⟨q0, r0, rfl, rfl, HQR.out, bq2, bq3, br0, by omega, HF.out, ⟨rfl, rfl, rfl, Nat.le_refl _, fun _ _ => rfl⟩⟩
  case round =>
    obtain ⟨Q, R, rfl, rfl, hQR, hQ0, hQ1, hR0, hR1, hU, hb⟩ := hrel
    have hsz := hb.size
    have HQR := Lib.hid hQR
    have HU := Lib.hid hU
    have E := HE.out
    clear hwq hwr htd htm br0 br1 bq2 bq3 hor e1 e0 i1 i0 i2 i3 i4 c2 c1 c0 d1 d0 hQR hU
    by_cases hR : R ≤ 4294967295
    · by_cases hQ : 4294967295 < Q
      · have hu := E.step HQR.out hQ0 (.inl hQ)
        have hq1 : (Q - 1) * v1 + (R + v1) = high := by have h := HQR.out; rw [Int.sub_mul, Int.one_mul]; omega
        have HU2 := Lib.hid hu
        have HQ2 := Lib.hid hq1
        clear hu hq1 E
        go_wp2
        go_roundw
        case rel => exact ⟨Q - 1, R + v1, rfl, rfl, HQ2.out, by omega, by omega, by omega, by omega, HU2.out, hb⟩
        case measure => simp [intOf]; omega
      · obtain ⟨p, hp⟩ : ∃ p, Q * v0 = p := ⟨_, rfl⟩
        have hpb := limb_prod (q := Q) (y := v0) ⟨hQ0, by omega⟩ ⟨b0, b1⟩
        rw [hp] at hpb
        obtain ⟨hp0, hp1⟩ := hpb
        have hor2 : bits .or .u64 (R * 4294967296) u0 = R * 4294967296 + u0 := or_u64' ⟨hR0, by omega⟩ ⟨l0, l1⟩
        by_cases hgt : R * 4294967296 + u0 < p
        · have hQ2 : 0 < Q := by
            rcases Int.lt_or_le 0 Q with h | h
            · exact h
            · have h0 : Q = 0 := by omega
              rw [h0, Int.zero_mul] at hp
              omega
          have hu := E.step HQR.out hQ0 (.inr (by rw [hp]; exact hgt))
          have hq1 : (Q - 1) * v1 + (R + v1) = high := by have h := HQR.out; rw [Int.sub_mul, Int.one_mul]; omega
          have HU2 := Lib.hid hu
          have HQ2 := Lib.hid hq1
          clear hu hq1 E
          go_wp2
          go_roundw
          case rel => exact ⟨Q - 1, R + v1, rfl, rfl, HQ2.out, by omega, by omega, by omega, by omega, HU2.out, hb⟩
          case measure => simp [intOf]; omega
        · have hd := E.done HQR.out hQ0 hR0 (.inr ⟨by omega, by rw [hp]; omega⟩)
          have HD := Lib.hid hd
          clear hd E
          go_wp2
          go_ret
          exact ⟨Q, rfl, hQ0, HD.out.1, HD.out.2, HU.out, hb⟩
    · have hd := E.done HQR.out hQ0 hR0 (.inl (by omega))
      have HD := Lib.hid hd
      clear hd E
      go_wp2
      go_ret
      exact ⟨Q, rfl, hQ0, HD.out.1, HD.out.2, HU.out, hb⟩
end
section
open Go.RowKit
set_option linter.unusedVariables false
set_option linter.unusedSimpArgs false
/-- the row zs, from i on k limbs replaced by ls -/
def putAt (zs : List Int) (i : Nat) (ls : List Int) : List Int := zs.take i ++ ls ++ zs.drop (i + ls.length)
theorem putAt_length (zs ls : List Int) (i : Nat) (h : i + ls.length ≤ zs.length) : (putAt zs i ls).length = zs.length := by
  unfold putAt; simp only [List.length_append, List.length_take, List.length_drop]; omega
theorem putAt_nil (zs : List Int) (i : Nat) : putAt zs i [] = zs := by simp [putAt]
theorem putAt_far (zs ls : List Int) (i k : Nat) (h : i + ls.length ≤ zs.length) (hk : i + ls.length ≤ k) : (putAt zs i ls).getD k 0 = zs.getD k 0 := by
  unfold putAt
  simp only [List.getD]
  rw [List.getElem?_append_right (by simp only [List.length_append, List.length_take]; omega), List.getElem?_drop]
  congr 2
  simp only [List.length_append, List.length_take]
  omega
theorem putAt_snoc (zs ls : List Int) (i : Nat) (x : Int) (h : i + ls.length < zs.length) : (putAt zs i ls).set (i + ls.length) x = putAt zs i (ls ++ [x]) := by
  unfold putAt
  have hl : (zs.take i ++ ls).length = i + ls.length := by simp only [List.length_append, List.length_take]; omega
  rw [List.set_append_right _ _ (by omega), hl, Nat.sub_self, List.drop_eq_getElem_cons h, List.set_cons_zero]
  simp [List.append_assoc, Nat.add_assoc]
theorem putAt_take (zs ls : List Int) (i : Nat) (h : i + ls.length ≤ zs.length) : (putAt zs i ls).take i = zs.take i := by
  unfold putAt
  rw [List.append_assoc, List.take_append_of_le_length (by rw [List.length_take]; omega), List.take_take]
  congr 1; omega
theorem putAt_mid (zs ls : List Int) (i : Nat) (h : i + ls.length ≤ zs.length) : ((putAt zs i ls).drop i).take ls.length = ls := by
  unfold putAt
  rw [List.append_assoc, List.drop_left' (by rw [List.length_take]; omega), List.take_left' rfl]
theorem putAt_drop (zs ls : List Int) (i : Nat) (h : i + ls.length ≤ zs.length) : (putAt zs i ls).drop (i + ls.length) = zs.drop (i + ls.length) := by
  unfold putAt
  rw [List.drop_left' (by simp only [List.length_append, List.length_take]; omega)]
theorem putAt_wf {zs ls : List Int} (i : Nat) (hz : Wf zs) (hl : Wf ls) : Wf (putAt zs i ls) := ((hz.take i).append hl).append (hz.drop _)
/-- m limbs from i on -/
def sub (zs : List Int) (i m : Nat) : List Int := (zs.drop i).take m
theorem sub_getD (zs : List Int) (i m k : Nat) (h : k < m) : (sub zs i m).getD k 0 = zs.getD (i + k) 0 := by
  unfold sub
  simp only [List.getD]
  rw [List.getElem?_take_of_lt h, List.getElem?_drop]
theorem sub_length (zs : List Int) (i m : Nat) (h : i + m ≤ zs.length) : (sub zs i m).length = m := by unfold sub; rw [List.length_take, List.length_drop]; omega
theorem sub_wf {zs : List Int} (i m : Nat) (h : Wf zs) : Wf (sub zs i m) := (h.drop i).take m
theorem sub_putAt (zs ls : List Int) (i m : Nat) (hm : ls.length = m) (h : i + m ≤ zs.length) : sub (putAt zs i ls) i m = ls := by unfold sub; rw [← hm]; exact putAt_mid _ _ _ (by omega)
theorem putAt_twice (zs ls ks : List Int) (i : Nat) (h : i + ls.length ≤ zs.length) (hk : ks.length = ls.length) : putAt (putAt zs i ls) i ks = putAt zs i ks := by
  have h1 := putAt_take zs ls i h
  have h2 := putAt_drop zs ls i h
  unfold putAt at *
  rw [hk, h1, h2]
/-- what takeAway leaves, of n + 1 limbs, and whether they were less -/
def takeL (ps ys : List Int) (q : Int) : List Int := (takeTo ps ys q ys.length).1 ++ [(ps.getD ys.length 0 - (takeTo ps ys q ys.length).2 % 4294967296) % 4294967296]
def takeB (ps ys : List Int) (q : Int) : Bool := decide (ps.getD ys.length 0 < (takeTo ps ys q ys.length).2)
theorem takeL_length (ps ys : List Int) (q : Int) : (takeL ps ys q).length = ys.length + 1 := by simp [takeL, takeTo_length]
theorem takeL_wf (ps ys : List Int) (q : Int) : Wf (takeL ps ys q) := (takeTo_wf _ _ _ _).append (Wf.cons (by omega) Wf.nil)
theorem val_takeL {ps ys : List Int} {q : Int} (hp : Wf ps) (hy : Wf ys) (hq : 0 ≤ q ∧ q ≤ 4294967295) (hl : ps.length = ys.length + 1) :
    val (takeL ps ys q) = val ps - q * val ys + (if takeB ps ys q then 4294967296 ^ (ys.length + 1) else 0) := by
  have h1 := val_takeTo ps ys q hp ys.length
  have h2 := takeTo_owed ps ys q hy hq ys.length
  have h3 := val_take_succ ps ys.length
  rw [← hl, List.take_of_length_le (Nat.le_refl _)] at h3
  rw [List.take_of_length_le (Nat.le_refl ys.length)] at h1
  have hb := hp.getD ys.length
  unfold takeL takeB
  rw [val_append, takeTo_length]
  simp only [val, Int.mul_zero, Int.add_zero]
  generalize (takeTo ps ys q ys.length).2 = o at *
  generalize ps.getD ys.length 0 = p at *
  rw [Int.pow_succ]
  generalize (4294967296 : Int) ^ ys.length = P at *
  have hs : (p - o % 4294967296) % 4294967296 = p - o + (if decide (p < o) = true then 4294967296 else 0) := by
    by_cases h : p < o
    · rw [if_pos (decide_eq_true h)]; omega
    · rw [if_neg (by simpa using h)]; omega
  rw [hs, h3]
  by_cases h : p < o
  · rw [if_pos (decide_eq_true h), if_pos (decide_eq_true h)]
    have e : P * (p - o + 4294967296) = P * p - P * o + P * 4294967296 := by rw [Int.mul_add, Int.mul_sub]
    omega
  · rw [if_neg (by simpa using h), if_neg (by simpa using h)]
    have e : P * (p - o + 0) = P * p - P * o := by rw [Int.add_zero, Int.mul_sub]
    omega
set_option maxRecDepth 100000 in
set_option maxHeartbeats 4000000 in
theorem take_any {g cap capp i : Nat} {bg bo capb : Nat} {zs ys : List Int} {w : World} (q : Int) (hz : Part w g cap zs) (hwz : Wf zs) (hwy : Wf ys) (hq : 0 ≤ q ∧ q ≤ 4294967295) (hi : i + ys.length < zs.length) (hm : zs.length ≤ 1099511627776)
    (cy : ∀ j, j < ys.length → w.cell? ⟨bg, bo + j, none⟩ = some (.int .u32 (ys.getD j 0))) (hbg : bg ≠ g) :
    Calls Tryz.prog 175 #[.slice (some ⟨g, i, none⟩) (ys.length + 1 : Nat) capp, .int .u64 q, .slice (some ⟨bg, bo, none⟩) ys.length capb] w fun e w' =>
      e = .returned (.bool (takeB (sub zs i (ys.length + 1)) ys q)) ∧ Part w' g cap (putAt zs i (takeL (sub zs i (ys.length + 1)) ys q)) ∧ Only g w w' := by
  obtain ⟨N, hN⟩ : ∃ N, ys.length + 1 = N := ⟨_, rfl⟩
  rw [hN]
  obtain ⟨hq0, hq1⟩ := hq
  go_enter Tryz.func175, Tryz.ntmps175
  go_wp2
  go_loopw [7, 8, 9, 10, 15] (fun o _ _ _ k wr => ∃ k' : Nat, k' ≤ ys.length ∧ k = .int .i64 k' ∧ o = .int .u64 (takeTo (sub zs i N) ys q k').2 ∧ Part wr g cap (putAt zs i (takeTo (sub zs i N) ys q k').1) ∧ Only g w wr) (fun _ _ _ _ k _ => ys.length - (intOf k).toNat)
  case atStart => exact ⟨0, Nat.zero_le _, rfl, rfl, by simp only [takeTo, putAt_nil]; exact hz, Only.refl _ _⟩
  case round =>
    obtain ⟨k, hk, rfl, rfl, hpart, ho⟩ := hrel
    obtain ⟨o, hok⟩ : ∃ o, (takeTo (sub zs i N) ys q k).2 = o := ⟨_, rfl⟩
    obtain ⟨bo0, bo1⟩ : 0 ≤ o ∧ o ≤ 4294967296 := hok ▸ takeTo_owed (sub zs i N) ys q hwy ⟨hq0, hq1⟩ k
    have hll := takeTo_length (sub zs i N) ys q k
    rw [hok]
    by_cases hlt : k < ys.length
    · obtain ⟨y, hyk⟩ : ∃ y, ys.getD k 0 = y := ⟨_, rfl⟩
      obtain ⟨by0, by1⟩ : 0 ≤ y ∧ y < 4294967296 := hyk ▸ hwy.getD k
      obtain ⟨p, hpk⟩ : ∃ p, zs.getD (i + k) 0 = p := ⟨_, rfl⟩
      have hpk2 : (sub zs i N).getD k 0 = p := by rw [← hpk]; exact sub_getD _ _ _ _ (by omega)
      obtain ⟨bp0, bp1⟩ : 0 ≤ p ∧ p < 4294967296 := hpk ▸ hwz.getD (i + k)
      have cY := (ho.cell (p := ⟨bg, bo + k, none⟩) hbg).trans (cy k hlt)
      rw [hyk] at cY
      have hpl : (putAt zs i (takeTo (sub zs i N) ys q k).1).length = zs.length := putAt_length _ _ _ (by omega)
      have cZ := hpart.cell (i + k) (by omega)
      rw [putAt_far _ _ _ _ (by omega) (by omega), hpk] at cZ
      have fZ := hpart.free (i + k)
      have hpr := limb_prod (q := q) (y := y) ⟨hq0, hq1⟩ ⟨by0, by1⟩
      obtain ⟨s, hs⟩ : ∃ s, q * y = s := ⟨_, rfl⟩
      rw [hs] at hpr
      obtain ⟨bs0, bs1⟩ := hpr
      have hkN : (k : Int) < (N : Int) := by omega
      have hset := hpart.set (i + k) (by omega) ((p - (o + s) % 4294967296) % 4294967296)
      have e1 : takeTo (sub zs i N) ys q (k + 1) = ((takeTo (sub zs i N) ys q k).1 ++ [(p - (o + s) % 4294967296) % 4294967296], (o + s) / 4294967296 + (if p < (o + s) % 4294967296 then 1 else 0)) := by
        simp only [takeTo]; rw [hpk2, hyk, hok, hs]
      rw [show i + k = i + (takeTo (sub zs i N) ys q k).1.length by omega, putAt_snoc _ _ _ _ (by omega), hll] at hset
      have e2 : (p - (o + s) % 4294967296) % 4294967296 = (p - (o + s)) % 4294967296 := by omega
      rw [e2] at e1 hset
      have H1 := Lib.hid e1
      have hsv : ∀ v, v = (p - (o + s)) % 4294967296 → Part (wr.setCell ⟨g, i + k, none⟩ (.int .u32 v)) g cap (putAt zs i ((takeTo (sub zs i N) ys q k).1 ++ [(p - (o + s)) % 4294967296])) := fun v hv => by rw [hv]; exact hset
      have HSET := Lib.hid hsv
      clear hsv
      have HSS := Lib.hid hs
      clear hpart cy hyk hpk hpk2 e1 e2 hset hok hll hpl hN
      have hO : ∀ v, Only g w (wr.setCell ⟨g, i + k, none⟩ v) := fun v => ho.trans (Only.set _ _ _ _)
      have HO := Lib.hid hO
      clear hO
      by_cases hb : p < (o + s) % 4294967296
      · have e3 : takeTo (sub zs i N) ys q (k + 1) = ((takeTo (sub zs i N) ys q k).1 ++ [(p - (o + s)) % 4294967296], (o + s) / 4294967296 + 1) := by rw [H1.out, if_pos hb]
        have H3 := Lib.hid e3
        clear e3
        go_wp2
        go_roundw
        case rel => exact ⟨k + 1, by omega, by go_num, by rw [H3.out], by rw [H3.out]; exact HSET.out _ (by omega), HO.out _⟩
        case measure => simp [intOf]; omega
      · have e3 : takeTo (sub zs i N) ys q (k + 1) = ((takeTo (sub zs i N) ys q k).1 ++ [(p - (o + s)) % 4294967296], (o + s) / 4294967296) := by rw [H1.out, if_neg hb, Int.add_zero]
        have H3 := Lib.hid e3
        clear e3
        go_wp2
        go_roundw
        case rel => exact ⟨k + 1, by omega, by go_num, by rw [H3.out], by rw [H3.out]; exact HSET.out _ (by omega), HO.out _⟩
        case measure => simp [intOf]; omega
    · obtain rfl : k = ys.length := by omega
      obtain ⟨p, hpk⟩ : ∃ p, zs.getD (i + ys.length) 0 = p := ⟨_, rfl⟩
      have hpk2 : (sub zs i N).getD ys.length 0 = p := by rw [← hpk]; exact sub_getD _ _ _ _ (by omega)
      obtain ⟨bp0, bp1⟩ : 0 ≤ p ∧ p < 4294967296 := hpk ▸ hwz.getD (i + ys.length)
      have hpl : (putAt zs i (takeTo (sub zs i N) ys q ys.length).1).length = zs.length := putAt_length _ _ _ (by omega)
      have cZ := hpart.cell (i + ys.length) (by omega)
      rw [putAt_far _ _ _ _ (by omega) (by omega), hpk] at cZ
      have fZ := hpart.free (i + ys.length)
      have hmN : (ys.length : Int) < (N : Int) := by omega
      have hset := hpart.set (i + ys.length) (by omega) ((p - o % 4294967296) % 4294967296)
      have eL : takeL (sub zs i N) ys q = (takeTo (sub zs i N) ys q ys.length).1 ++ [(p - o % 4294967296) % 4294967296] := by unfold takeL; rw [hpk2, hok]
      have eB : takeB (sub zs i N) ys q = decide (p < o) := by unfold takeB; rw [hpk2, hok]
      rw [show i + ys.length = i + (takeTo (sub zs i N) ys q ys.length).1.length by omega, putAt_snoc _ _ _ _ (by omega), hll, ← eL] at hset
      have e2 : (p - o % 4294967296) % 4294967296 = (p - o) % 4294967296 := by omega
      rw [e2] at hset
      have HB := Lib.hid eB
      have hsv : ∀ v, v = (p - o) % 4294967296 → Part (wr.setCell ⟨g, i + ys.length, none⟩ (.int .u32 v)) g cap (putAt zs i (takeL (sub zs i N) ys q)) ∧ Only g w (wr.setCell ⟨g, i + ys.length, none⟩ (.int .u32 v)) := fun v hv => by rw [hv]; exact ⟨hset, ho.trans (Only.set _ _ _ _)⟩
      have HSET := Lib.hid hsv
      clear hsv
      clear hpart cy hpk hpk2 e2 hset hok hll hpl hN eL eB ho
      go_wp2
      go_ret
      exact ⟨by rw [HB.out]; rfl, HSET.out _ (by omega)⟩
/-- what giveBack leaves -/
def giveL (ps ys : List Int) : List Int := (addTo ps ys ys.length).1 ++ [(ps.getD ys.length 0 + (addTo ps ys ys.length).2) % 4294967296]
theorem giveL_length (ps ys : List Int) : (giveL ps ys).length = ys.length + 1 := by simp [giveL, addTo_length]
theorem giveL_wf (ps ys : List Int) : Wf (giveL ps ys) := (addTo_wf _ _ _).append (Wf.cons (by omega) Wf.nil)
theorem val_giveL {ps ys : List Int} (hp : Wf ps) (hy : Wf ys) (hl : ps.length = ys.length + 1) :
    val (giveL ps ys) = val ps + val ys ∨ val (giveL ps ys) = val ps + val ys - 4294967296 ^ (ys.length + 1) := by
  have h1 := val_addTo ps ys ys.length
  have h2 := addTo_carry ps ys hp hy ys.length
  have h3 := val_take_succ ps ys.length
  rw [← hl, List.take_of_length_le (Nat.le_refl _)] at h3
  rw [List.take_of_length_le (Nat.le_refl ys.length)] at h1
  have hb := hp.getD ys.length
  unfold giveL
  rw [val_append, addTo_length]
  simp only [val, Int.mul_zero, Int.add_zero]
  generalize (addTo ps ys ys.length).2 = o at *
  generalize ps.getD ys.length 0 = p at *
  rw [Int.pow_succ]
  generalize (4294967296 : Int) ^ ys.length = P at *
  rw [h3]
  by_cases h : p + o < 4294967296
  · left
    have e : P * ((p + o) % 4294967296) = P * p + P * o := by rw [Int.emod_eq_of_lt (by omega) h, Int.mul_add]
    omega
  · right
    have e1 : (p + o) % 4294967296 = p + o - 4294967296 := by omega
    have e : P * ((p + o) % 4294967296) = P * p + P * o - P * 4294967296 := by rw [e1, Int.mul_sub, Int.mul_add]
    omega
set_option maxRecDepth 100000 in
set_option maxHeartbeats 4000000 in
theorem give_any {g cap capp i : Nat} {bg bo capb : Nat} {zs ys : List Int} {w : World} (hz : Part w g cap zs) (hwz : Wf zs) (hwy : Wf ys) (hi : i + ys.length < zs.length) (hm : zs.length ≤ 1099511627776)
    (cy : ∀ j, j < ys.length → w.cell? ⟨bg, bo + j, none⟩ = some (.int .u32 (ys.getD j 0))) (hbg : bg ≠ g) :
    Calls Tryz.prog 176 #[.slice (some ⟨g, i, none⟩) (ys.length + 1 : Nat) capp, .slice (some ⟨bg, bo, none⟩) ys.length capb] w fun e w' =>
      e = .returned (.tuple #[]) ∧ Part w' g cap (putAt zs i (giveL (sub zs i (ys.length + 1)) ys)) ∧ Only g w w' := by
  obtain ⟨N, hN⟩ : ∃ N, ys.length + 1 = N := ⟨_, rfl⟩
  rw [hN]
  have hws := sub_wf i N hwz
  go_enter Tryz.func176, Tryz.ntmps176
  go_wp2
  go_loopw [4, 5, 6, 9] (fun o _ _ k wr => ∃ k' : Nat, k' ≤ ys.length ∧ k = .int .i64 k' ∧ o = .int .u64 (addTo (sub zs i N) ys k').2 ∧ Part wr g cap (putAt zs i (addTo (sub zs i N) ys k').1) ∧ Only g w wr) (fun _ _ _ k _ => ys.length - (intOf k).toNat)
  case atStart => exact ⟨0, Nat.zero_le _, rfl, rfl, by simp only [addTo, putAt_nil]; exact hz, Only.refl _ _⟩
  case round =>
    obtain ⟨k, hk, rfl, rfl, hpart, ho⟩ := hrel
    obtain ⟨o, hok⟩ : ∃ o, (addTo (sub zs i N) ys k).2 = o := ⟨_, rfl⟩
    obtain ⟨bo0, bo1⟩ : 0 ≤ o ∧ o ≤ 1 := hok ▸ addTo_carry (sub zs i N) ys hws hwy k
    have hll := addTo_length (sub zs i N) ys k
    rw [hok]
    obtain ⟨p, hpk⟩ : ∃ p, zs.getD (i + k) 0 = p := ⟨_, rfl⟩
    have hpk2 : (sub zs i N).getD k 0 = p := by rw [← hpk]; exact sub_getD _ _ _ _ (by omega)
    obtain ⟨bp0, bp1⟩ : 0 ≤ p ∧ p < 4294967296 := hpk ▸ hwz.getD (i + k)
    have hpl : (putAt zs i (addTo (sub zs i N) ys k).1).length = zs.length := putAt_length _ _ _ (by omega)
    have cZ := hpart.cell (i + k) (by omega)
    rw [putAt_far _ _ _ _ (by omega) (by omega), hpk] at cZ
    have fZ := hpart.free (i + k)
    have hkN : (k : Int) < (N : Int) := by omega
    by_cases hlt : k < ys.length
    · obtain ⟨y, hyk⟩ : ∃ y, ys.getD k 0 = y := ⟨_, rfl⟩
      obtain ⟨by0, by1⟩ : 0 ≤ y ∧ y < 4294967296 := hyk ▸ hwy.getD k
      have cY := (ho.cell (p := ⟨bg, bo + k, none⟩) hbg).trans (cy k hlt)
      rw [hyk] at cY
      have hset := hpart.set (i + k) (by omega) ((o + p + y) % 4294967296)
      have e1 : addTo (sub zs i N) ys (k + 1) = ((addTo (sub zs i N) ys k).1 ++ [(o + p + y) % 4294967296], (o + p + y) / 4294967296) := by
        simp only [addTo]; rw [hpk2, hyk, hok]
      rw [show i + k = i + (addTo (sub zs i N) ys k).1.length by omega, putAt_snoc _ _ _ _ (by omega), hll] at hset
      have hsv : ∀ v, v = (o + p + y) % 4294967296 → Part (wr.setCell ⟨g, i + k, none⟩ (.int .u32 v)) g cap (putAt zs i ((addTo (sub zs i N) ys k).1 ++ [(o + p + y) % 4294967296])) ∧ Only g w (wr.setCell ⟨g, i + k, none⟩ (.int .u32 v)) := fun v hv => by rw [hv]; exact ⟨hset, ho.trans (Only.set _ _ _ _)⟩
      have HSET := Lib.hid hsv
      have H1 := Lib.hid e1
      clear hsv hpart cy hyk hpk hpk2 e1 hset hok hll hpl hN ho
      go_wp2
      go_roundw
      case rel => exact ⟨k + 1, by omega, by go_num, by rw [H1.out]; congr 1; omega, by rw [H1.out]; exact (HSET.out _ (by omega)).1, (HSET.out _ (by omega)).2⟩
      case measure => simp [intOf]; omega
    · obtain rfl : k = ys.length := by omega
      have hset := hpart.set (i + ys.length) (by omega) ((p + o) % 4294967296)
      have eL : giveL (sub zs i N) ys = (addTo (sub zs i N) ys ys.length).1 ++ [(p + o) % 4294967296] := by unfold giveL; rw [hpk2, hok]
      rw [show i + ys.length = i + (addTo (sub zs i N) ys ys.length).1.length by omega, putAt_snoc _ _ _ _ (by omega), hll, ← eL] at hset
      have hsv : ∀ v, v = (p + o) % 4294967296 → Part (wr.setCell ⟨g, i + ys.length, none⟩ (.int .u32 v)) g cap (putAt zs i (giveL (sub zs i N) ys)) ∧ Only g w (wr.setCell ⟨g, i + ys.length, none⟩ (.int .u32 v)) := fun v hv => by rw [hv]; exact ⟨hset, ho.trans (Only.set _ _ _ _)⟩
      have HSET := Lib.hid hsv
      clear hsv hpart cy hpk hpk2 hset hok hll hpl hN eL ho
      go_wp2
      go_end0
      exact ⟨rfl, HSET.out _ (by omega)⟩
end
section
open Go.RowKit
set_option linter.unusedVariables false
set_option linter.unusedSimpArgs false
theorem Only.grownBy {b : Nat} {w w' : World} (h : Only b w w') : w.grownBy w' (some b) := h.grown
theorem Below.thenOnly {b : Nat} {w v w' : World} (h : Below w.heap.size w v) (k : Only b v w') : w.grownBy w' (some b) :=
  ⟨k.os.trans h.os, k.tape.trans h.tape, k.output.trans h.output, by rw [k.size]; exact h.size, fun i hi hb => (k.block i (fun e => hb (by rw [e]))).trans (h.block i hi)⟩
set_option maxRecDepth 100000 in
set_option maxHeartbeats 4000000 in
theorem divide_any {g cap capp i : Nat} {bg bo capb : Nat} {zs ys : List Int} {w : World} (n : Nat) (hz : Part w g cap zs) (hwz : Wf zs) (hwy : Wf ys) (hn : ys.length = n + 2) (hi : i + ys.length < zs.length) (hm : zs.length ≤ 1099511627776)
    (cy : ∀ j, j < ys.length → w.cell? ⟨bg, bo + j, none⟩ = some (.int .u32 (ys.getD j 0))) (hbg : bg ≠ g) (ht : 2147483648 ≤ ys.getD (n + 1) 0) (hlt : val (sub zs i (ys.length + 1)) < 4294967296 * val ys) :
    Calls Tryz.prog 166 #[.slice (some ⟨g, i, none⟩) (ys.length + 1 : Nat) capp, .slice (some ⟨bg, bo, none⟩) ys.length capb] w fun e w' =>
      ∃ (q : Int) (ls : List Int), e = .returned (.int .u32 q) ∧ 0 ≤ q ∧ q < 4294967296 ∧ ls.length = ys.length + 1 ∧ Wf ls ∧ Part w' g cap (putAt zs i ls) ∧ val ls = val (sub zs i (ys.length + 1)) - q * val ys ∧ val ls < val ys ∧ w.grownBy w' (some g) := by
  have hws := sub_wf i (ys.length + 1) hwz
  have hsl := sub_length zs i (ys.length + 1) (by omega)
  have hbl : bg < w.heap.size := World.block_lt_of_cell? w _ (cy 0 (by omega))
  have est := estimate_any (pg := g) (po := i) (bg := bg) (bo := bo) (capp := capp) (capb := capb) (w := w) n hws hwy (by omega) hn (by omega) (fun j hj => by rw [sub_getD _ _ _ _ (by omega)]; exact hz.cell (i + j) (by omega)) cy ht hlt
  rw [hsl] at est
  have hU0 := val_nonneg hws
  have hV0 := val_nonneg hwy
  obtain ⟨U, hU⟩ : ∃ U, val (sub zs i (ys.length + 1)) = U := ⟨_, rfl⟩
  obtain ⟨V, hV⟩ : ∃ V, val ys = V := ⟨_, rfl⟩
  rw [hU, hV] at est hlt
  rw [hU] at hU0 ⊢
  rw [hV] at hV0 ⊢
  obtain ⟨N, hN⟩ : ∃ N, ys.length + 1 = N := ⟨_, rfl⟩
  have tk := fun (w : World) (q : Int) hz hq cy => take_any (g := g) (cap := cap) (capp := capp) (i := i) (bg := bg) (bo := bo) (capb := capb) (zs := zs) (ys := ys) (w := w) q hz hwz hwy hq hi hm cy hbg
  rw [hN] at est tk ⊢
  have TK := Lib.hid tk
  have HU := Lib.hid hU
  have HV := Lib.hid hV
  have HN := Lib.hid hN
  have hln : 0 < ys.length := by omega
  clear tk hU hV hN hlt hn ht
  go_enter Tryz.func166, Tryz.ntmps166
  go_wp2_with fail
  refine est.mono ?_
  rintro e w1 ⟨q, rfl, hq0, hq1, hlo, hhi, hb1⟩
  have hz1 := hz.later hb1
  have cy1 : ∀ j, j < ys.length → w1.cell? ⟨bg, bo + j, none⟩ = some (.int .u32 (ys.getD j 0)) := fun j hj => (hb1.cell (p := ⟨bg, bo + j, none⟩) hbl).trans (cy j hj)
  have hvt := val_takeL (q := q) hws hwy ⟨hq0, hq1⟩ hsl
  rw [HU.out, HV.out] at hvt
  have hlt1 := val_lt (takeL_wf (sub zs i (ys.length + 1)) ys q)
  have hnn1 := val_nonneg (takeL_wf (sub zs i (ys.length + 1)) ys q)
  rw [takeL_length] at hlt1
  have hhi2 : U < q * V + V := by rw [Int.add_mul, Int.one_mul] at hhi; exact hhi
  clear est cy hz hhi
  go_wp2_with fail
  refine (TK.out w1 q hz1 ⟨hq0, hq1⟩ cy1).mono ?_
  rintro e w2 ⟨rfl, hp2, ho2⟩
  have hg2 := Below.thenOnly hb1 ho2
  rw [← HN.out] at hp2 ⊢
  obtain ⟨t, htb⟩ : ∃ t, takeB (sub zs i (ys.length + 1)) ys q = t := ⟨_, rfl⟩
  rw [htb] at hvt ⊢
  have hlsl := takeL_length (sub zs i (ys.length + 1)) ys q
  have hlsw := takeL_wf (sub zs i (ys.length + 1)) ys q
  obtain ⟨ls, hls⟩ : ∃ ls, takeL (sub zs i (ys.length + 1)) ys q = ls := ⟨_, rfl⟩
  rw [hls] at hvt hlt1 hnn1 hp2 hlsl hlsw
  clear hls htb
  cases t with
  | false =>
    simp only [Bool.false_eq_true, if_false, Int.add_zero] at hvt
    have hqw : IntKind.u32.wrap q = q := by rw [wrap_u32]; exact Int.emod_eq_of_lt hq0 (by omega)
    have HP := Lib.hid hp2
    have HVT := Lib.hid hvt
    have h2 : val ls < V := by omega
    have H2 := Lib.hid h2
    clear hp2 hvt h2 hlt1 hnn1 hlo hhi2
    go_wp2
    go_ret
    exact ⟨q, ls, rfl, hq0, by omega, hlsl.trans HN.out, hlsw, HP.out, HVT.out, H2.out, hg2⟩
  | true =>
    simp only [if_true] at hvt
    have hneg : U < q * V := by omega
    have hqp : 0 < q := by
      rcases Int.lt_or_le 0 q with h | h
      · exact h
      · have h0 : q = 0 := by omega
        rw [h0, Int.zero_mul] at hneg
        omega
    have cy2 : ∀ j, j < ys.length → w2.cell? ⟨bg, bo + j, none⟩ = some (.int .u32 (ys.getD j 0)) := fun j hj => (ho2.cell (p := ⟨bg, bo + j, none⟩) hbg).trans (cy1 j hj)
    have hpl := putAt_length zs ls i (by omega)
    have gv := give_any (g := g) (cap := cap) (capp := capp) (i := i) (bg := bg) (bo := bo) (capb := capb) (zs := putAt zs i ls) (ys := ys) (w := w2) hp2 (putAt_wf i hwz hlsw) hwy (by omega) (by omega) cy2 hbg
    rw [sub_putAt zs ls i (ys.length + 1) hlsl (by omega), putAt_twice zs ls _ i (by omega) (by rw [giveL_length, hlsl])] at gv
    have hgl := giveL_length ls ys
    have hgw := giveL_wf ls ys
    have hg0 := val_nonneg hgw
    have hg1 := val_lt hgw
    rw [hgl] at hg1
    have hfin : val (giveL ls ys) = U - (q - 1) * V := by
      have e : (q - 1) * V = q * V - V := by rw [Int.sub_mul, Int.one_mul]
      rcases val_giveL hlsw hwy (by omega) with h | h
      · rw [HV.out] at h; omega
      · rw [HV.out] at h; omega
    have hfin2 : val (giveL ls ys) < V := by
      have e : (q - 1) * V = q * V - V := by rw [Int.sub_mul, Int.one_mul]
      omega
    have HFIN := Lib.hid hfin
    have HFIN2 := Lib.hid hfin2
    rw [HN.out] at gv ⊢
    have hqw : IntKind.u32.wrap (q - 1) = q - 1 := by rw [wrap_u32]; exact Int.emod_eq_of_lt (by omega) (by omega)
    clear hvt hlt1 hnn1 hlo hhi2 hfin hfin2 hg0 hg1 hneg hp2 cy1 cy2
    go_wp2_with fail
    refine gv.mono ?_
    rintro e w3 ⟨rfl, hp3, ho3⟩
    have HP := Lib.hid hp3
    have hg3 : w.grownBy w3 (some g) := ⟨ho3.os.trans hg2.os, ho3.tape.trans hg2.tape, ho3.output.trans hg2.output, by rw [ho3.size]; exact hg2.size, fun i hi hb => (ho3.block i (fun e => hb (by rw [e]))).trans (hg2.block i hi hb)⟩
    clear hp3 gv
    go_wp2
    go_ret
    exact ⟨q - 1, _, rfl, by omega, by omega, by rw [← HN.out]; exact hgl, hgw, HP.out, HFIN.out, HFIN2.out, hg3⟩
end
section
open Go.RowKit
set_option linter.unusedVariables false
set_option linter.unusedSimpArgs false
/-- the divisor, shifted till the highest bit of its last limb is 1 -/
theorem norm_ok {ys bs : List Int} {s : Nat} (hy : Wf ys) (hb : Wf bs) (fb : trimN bs bs.length = bs.length) (h2 : 2 ≤ trimN ys ys.length) (hs : s + bitsN ys = trimN ys ys.length * 32) (hv : val bs = val ys * 2 ^ s) :
    ∃ n, bs.length = n + 2 ∧ n + 2 = trimN ys ys.length ∧ 2147483648 ≤ bs.getD (n + 1) 0 := by
  obtain ⟨n, hn⟩ : ∃ n, trimN ys ys.length = n + 2 := ⟨trimN ys ys.length - 2, by omega⟩
  rcases bitsN_is hy with ⟨h0, _⟩ | ⟨j, hj, h3, h4⟩
  · exfalso; have := (bitsN_count hy).2.1; omega
  have e1 : s + j + 1 = (n + 2) * 32 := by omega
  have l1 : (2 : Int) ^ (s + j) ≤ val bs := by
    rw [hv, Nat.add_comm, Int.pow_add]
    exact mul_le_r (Int.le_of_lt (two_pos s)) h3
  have l2 : val bs < 2 ^ (s + j + 1) := by
    rw [hv, Nat.add_assoc, Nat.add_comm s, Int.pow_add]
    exact Int.mul_lt_mul_of_pos_right h4 (two_pos s)
  rw [e1, ← pow_limb] at l2
  have e2 : (2 : Int) ^ (s + j) = 4294967296 ^ (n + 1) * 2147483648 := by
    rw [pow_limb, show s + j = (n + 1) * 32 + 31 by omega, Int.pow_add]
    rfl
  rw [e2] at l1
  have hlen : bs.length = n + 2 := by
    rcases Nat.lt_trichotomy bs.length (n + 2) with h | h | h
    · exfalso
      have k1 := val_lt hb
      have k2 : (4294967296 : Int) ^ bs.length ≤ 4294967296 ^ (n + 1) := by rw [pow_limb, pow_limb]; exact two_mono (by omega)
      have k3 := pow_pos' (n + 1)
      omega
    · exact h
    · exfalso
      have k1 := full_ge hb fb (bs.length - 1) (by omega)
      have k2 : (4294967296 : Int) ^ (n + 2) ≤ 4294967296 ^ (bs.length - 1) := by rw [pow_limb, pow_limb]; exact two_mono (by omega)
      omega
  refine ⟨n, hlen, hn.symm, ?_⟩
  have k1 := val_take_succ bs (n + 1)
  rw [List.take_of_length_le (by omega)] at k1
  have k2 := val_lt (hb.take (n + 1))
  rw [List.length_take, Nat.min_eq_left (by omega)] at k2
  rcases Int.lt_or_le (bs.getD (n + 1) 0) 2147483648 with h | h
  · exfalso
    have k3 := mul_le_l (a := bs.getD (n + 1) 0) (b := 2147483647) (c := 4294967296 ^ (n + 1)) (Int.le_of_lt (pow_pos' _)) (by omega)
    omega
  · exact h
/-- a limb of the quotient -/
theorem long_step {zs ls : List Int} {i t : Nat} {q V : Int} (hz : Wf zs) (hl : Wf ls) (hll : ls.length = t + 1) (hi : i + t < zs.length) (hV0 : 0 ≤ V) (hV : V < 4294967296 ^ t) (hlt : val zs < 4294967296 ^ (i + 1) * V) :
    val (sub zs i (t + 1)) < 4294967296 * V ∧ (val ls = val (sub zs i (t + 1)) - q * V → val ls < V → val (putAt zs i ls) = val zs - 4294967296 ^ i * (q * V) ∧ val (putAt zs i ls) < 4294967296 ^ i * V) := by
  have hp := pow_pos' i
  have hd0 : val (zs.drop (i + 1 + t)) = 0 := by
    refine val_drop0 hz _ ?_
    rw [Int.pow_add]
    have h1 := mul_le_l (a := V) (b := 4294967296 ^ t) (c := 4294967296 ^ (i + 1)) (Int.le_of_lt (pow_pos' _)) (Int.le_of_lt hV)
    omega
  have h1 := val_split (xs := zs) i (by omega)
  have h2 := val_split (xs := zs.drop i) (t + 1) (by rw [List.length_drop]; omega)
  rw [List.drop_drop, show i + (t + 1) = i + 1 + t by omega, hd0, Int.mul_zero, Int.add_zero] at h2
  have h3 := val_nonneg (hz.take i)
  have h4 := val_lt (hz.take i)
  rw [List.length_take, Nat.min_eq_left (by omega)] at h4
  have hput : val (putAt zs i ls) = val (zs.take i) + 4294967296 ^ i * val ls := by
    unfold putAt
    rw [val_cat3, hll, show i + (t + 1) = i + 1 + t by omega, hd0, List.length_take, Nat.min_eq_left (by omega), Int.mul_zero, Int.add_zero]
  have hU : val (zs.drop i) = val (sub zs i (t + 1)) := h2
  rw [hU] at h1
  generalize val (sub zs i (t + 1)) = U at *
  rw [Int.pow_succ] at hlt
  generalize (4294967296 : Int) ^ i = P at *
  refine ⟨?_, fun e1 e2 => ⟨?_, ?_⟩⟩
  · rcases Int.lt_or_le U (4294967296 * V) with h | h
    · exact h
    · exfalso
      have h5 := mul_le_l (c := P) (by omega) h
      rw [← Int.mul_assoc] at h5
      omega
  · rw [hput, h1, e1, Int.mul_sub]; omega
  · rw [hput]
    have h5 := mul_le_l (a := val ls) (b := V - 1) (c := P) (by omega) (by omega)
    rw [Int.mul_sub, Int.mul_one] at h5
    omega
theorem long_alg (Z P V q Q : Int) : Z + V * (P * 4294967296 * Q) = Z - P * (q * V) + V * (P * (q + 4294967296 * Q)) := by grind
/-- what is left, shifted back -/
theorem long_end {A B Q R s : Int} (hs : 0 < s) (h : A * s = R + B * s * Q) (h0 : 0 ≤ R) (h1 : R < B * s) : Q = A / B ∧ R / s = A % B := by
  have hB : 0 < B := by
    rcases Int.lt_or_le 0 B with k | k
    · exact k
    · exfalso
      have := mul_le_r (a := B) (b := 0) (c := s) (by omega) k
      omega
  have e : R = (A - B * Q) * s := by rw [Int.sub_mul]; have : B * Q * s = B * s * Q := by rw [Int.mul_assoc, Int.mul_comm Q, ← Int.mul_assoc]; 
                                     omega
  have hr : R / s = A - B * Q := by rw [e]; exact Int.mul_ediv_cancel _ (by omega)
  have r0 : 0 ≤ A - B * Q := by rw [← hr]; exact Int.ediv_nonneg h0 (by omega)
  have r1 : A - B * Q < B := by
    rw [← hr]
    exact Int.ediv_lt_of_lt_mul hs h1
  obtain ⟨q1, q2⟩ := quo_eq (V := Q) (d := B) (r := A - B * Q) (N := A) hB (by rw [Int.mul_comm]; omega) ⟨r0, r1⟩
  exact ⟨q1, by rw [hr]; exact q2⟩
theorem Lim.grown {w w' : World} {ad : Option Addr} {xs : List Int} {row : Option Nat} (h : Lim w ad xs) (k : w.grownBy w' row) (hne : ∀ a, ad = some a → some a.block ≠ row) : Lim w' ad xs := by
  rcases h with rfl | ⟨b, off, rfl, hc⟩
  · exact .inl rfl
  · exact .inr ⟨b, off, rfl, fun i hi => k.cell (hc i hi) (show some b ≠ row from hne ⟨b, off, none⟩ rfl)⟩
set_option maxRecDepth 100000 in
set_option maxHeartbeats 4000000 in
theorem long_any {u v : Value} {xs ys : List Int} {a b : Option Addr} {capa capb : Nat} {w : World} (h1 : Arg w u xs a capa) (h2 : Arg w v ys b capb) (hx : xs.length ≤ 134217728) (hy : ys.length ≤ 134217728) (h2y : 2 ≤ trimN ys ys.length) (hle : val ys ≤ val xs) :
    Calls Tryz.prog 148 #[u, v] w fun e w' => ∃ r t, e = .returned (.tuple #[r, t]) ∧ Below w.heap.size w w' ∧ (∃ zs, Res w.heap.size w' r zs (val xs / val ys) ∧ zs.length ≤ xs.length + 2) ∧ (∃ zs, Res w.heap.size w' t zs (val xs % val ys) ∧ zs.length ≤ xs.length + 2) := by
  obtain ⟨c1, c2, c3⟩ := bitsN_count h2.wf
  have hty := trim_le ys
  have hcount := count_any h2 (by omega)
  have hbits := bits_res h2 (by omega) (bitsN_is h2.wf)
  obtain ⟨s, hs⟩ : ∃ s, s + bitsN ys = trimN ys ys.length * 32 := ⟨trimN ys ys.length * 32 - bitsN ys, by omega⟩
  obtain ⟨t, ht⟩ : ∃ t, trimN ys ys.length = t := ⟨_, rfl⟩
  obtain ⟨kb, hkb⟩ : ∃ kb, bitsN ys = kb := ⟨_, rfl⟩
  have hnorm := fun (bs : List Int) hb fb hv => norm_ok (ys := ys) (bs := bs) (s := s) h2.wf hb fb h2y hs hv
  rw [hkb] at hbits c2 c3 hs
  rw [ht] at hcount hs c2 c3 hnorm hty h2y
  have hsub : ((t : Int) * 32 - (kb : Int)) = (s : Int) := by omega
  have hs32 : s ≤ 31 := by omega
  have hxw := h1.wf
  have hyw := h2.wf
  have HS := Lib.hid hs
  have HNORM := Lib.hid hnorm
  clear c1 c2 c3 hs hnorm ht hkb
  obtain ⟨i0, hi, hz0, hz1, hz2⟩ := info_parts infoLimb
  go_enter Tryz.func148, Tryz.ntmps148
  go_wp2_with fail
  refine hcount.mono ?_
  rintro e w' ⟨rfl, rfl⟩
  go_wp2_with fail
  refine hbits.mono ?_
  rintro e w' ⟨rfl, rfl⟩
  clear hcount hbits
  go_wp2_with fail
  refine (shl_any s h2 (by omega) (by omega) (by omega)).mono ?_
  rintro e w1 ⟨r1, bs, rfl, q1, n1, hb1⟩
  have A1 := h1.later hb1
  rw [Int.toNat_natCast] at q1 n1
  go_wp2_with fail
  refine (shl_any s A1 (by omega) (by omega) (by omega)).mono ?_
  rintro e w2 ⟨r2, cs, rfl, q2, n2, hb2⟩
  rw [Int.toNat_natCast] at q2 n2
  obtain ⟨n, ebl, _, etop⟩ := HNORM.out bs q1.wf q1.full q1.eq
  have hs1 := hb1.size
  have hs2 := hb2.size
  have hB2 : Below w.heap.size w w2 := hb1.trans (hb2.mono hs1)
  have hcl : bs.length ≤ cs.length := by
    rcases Nat.lt_or_ge cs.length bs.length with k | k
    · exfalso
      have := len_lt q2.wf q1.wf q1.full k
      rw [q1.eq, q2.eq] at this
      have := mul_le_r (Int.le_of_lt (two_pos s)) hle
      omega
    · exact k
  have hV0 : 0 < val bs := by
    have h1 := full_ge q1.wf q1.full (n + 1) (by omega)
    have h2 := pow_pos' (n + 1)
    omega
  have hV1 := val_lt q1.wf
  -- b lies below what comes
  obtain ⟨bg, bo, capb1, hbv, hbcell, hbg⟩ : ∃ bg bo cp, r1 = .slice (some ⟨bg, bo, none⟩) bs.length cp ∧ (∀ j, j < bs.length → w2.cell? ⟨bg, bo + j, none⟩ = some (.int .u32 (bs.getD j 0))) ∧ bg < w1.heap.size := by
    obtain ⟨ad, cp, e1, e2, _, _, e5⟩ := q1.num.read
    have e2' := e2.later hb2
    rcases e2' with e | ⟨bg, bo, rfl, hc⟩
    · rw [e] at ebl; simp at ebl
    · exact ⟨bg, bo, cp, e1, hc, (e5 _ rfl).2⟩
  subst hbv
  have hwb := q1.wf
  have HFB := Lib.hid q1.full
  have q1eq := q1.eq
  have hrow := q2.num
  unfold Num at hrow
  have hcsw := q2.wf
  have hcse := q2.eq
  have hxl : cs.length ≤ 134217730 := by omega
  have hcx : cs.length ≤ xs.length + 1 := by omega
  have hN := Lib.hid q2.num
  have HEB := Lib.hid ebl
  have HTOP := Lib.hid etop
  have HC := Lib.hid hbcell
  have HQ1 := Lib.hid q1eq
  have HQ2 := Lib.hid hcse
  have hn1 : bs.length ≤ 134217730 := by omega
  obtain ⟨M, hM⟩ : ∃ M, M + bs.length = cs.length + 1 := ⟨cs.length + 1 - bs.length, by omega⟩
  have hMi : ((cs.length : Int) + 1 - (bs.length : Int)) = (M : Int) := by omega
  have hmk := make_runN M M (Nat.le_refl _) (by omega)
  have HM := Lib.hid hM
  clear hM
  clear q1 q2 hb1 A1 h1 h2 n1 n2 HNORM ebl etop hbcell q1eq hcse hle
  go_wp2_with (at_builtin; refine wpList_append_own _ rfl _ _ 49 rfl w1.heap.size 64 i0 (.int .u32 0) 1 4 Tryz.underlying49 hi hz0 hz1 hz2 rfl (by decide) _ _ _ rfl (hrow.alloc _) ⟨w2.heap.size, 0, none⟩ 1 1 [.int .u32 0] rfl rfl (cell_one_new _ _ _) (by simp [Value.oneCell']) (by unfold maxLen; omega) (by omega) (by simp; omega) ?_; intro v' w3 hown' hgrow _; have hnum : Num w1.heap.size w3 v' (cs ++ [0]) := (by unfold Num; rw [List.length_append, List.map_append]; exact hown'); obtain ⟨g, cap, rfl, hg, hcapm, hpart⟩ : ∃ g cap, v' = .slice (some ⟨g, 0, none⟩) (cs ++ [0]).length cap ∧ w1.heap.size ≤ g ∧ cap ≤ maxLen ∧ Part w3 g cap (cs ++ [0]) := hnum.parts.resolve_left (fun h => by have := h.2; simp at this))
  have hw3 : Below w.heap.size w w3 := (hB2.alloc (by omega) _).grown hgrow (by simp; omega) (fun k hk => Nat.le_trans hs1 (hN.out.lt k hk).1)
  have hs3 : w2.heap.size ≤ w3.heap.size := by have := hgrow.size; simp at this; omega
  have hlimb : Lim w3 (some ⟨bg, bo, none⟩) bs := by
    have h1 : Lim w2 (some ⟨bg, bo, none⟩) bs := .inr ⟨bg, bo, rfl, HC.out⟩
    refine Lim.grown (h1.later ((Below.refl w2.heap.size w2).alloc (Nat.le_refl _) _)) hgrow (fun a e => ?_)
    cases e
    intro e2
    have := (hN.out.lt bg e2.symm).1
    omega
  have hglt := hpart.lt
  obtain ⟨L, hL⟩ : ∃ L, (cs ++ [0]).length = L := ⟨_, rfl⟩
  have hLc : L = cs.length + 1 := by rw [← hL]; simp
  have hV := HQ1.out
  have hwz0 : Wf (cs ++ [0]) := hcsw.append (wf1 (by omega))
  have hv0 : val (cs ++ [0]) = val cs := by rw [val_append]; simp [val]
  have HL := Lib.hid hL
  have HLC := Lib.hid hLc
  have HV := Lib.hid hV
  have hpart0 := hpart.alloc (.cells (madeCells #[.int .u32 0] M) 64)
  have hblk0 := Blk.made w3 M
  have hlim0 := hlimb.later ((Below.refl w3.heap.size w3).alloc (Nat.le_refl _) (.cells (madeCells #[.int .u32 0] M) 64))
  have hw4 : Below w.heap.size w (w3.alloc (.cells (madeCells #[.int .u32 0] M) 64)) := hw3.alloc (by omega) _
  have hvstart : val (cs ++ [0]) < 4294967296 ^ M * val bs := by
    rw [hv0]
    have h1 := val_lt hcsw
    have hbl := HEB.out
    have h3 := full_ge (us := bs) hwb HFB.out (n + 1) (by omega)
    have h2 := mul_le_l (a := 4294967296 ^ (n + 1)) (b := val bs) (c := 4294967296 ^ M) (Int.le_of_lt (pow_pos' _)) h3
    rw [← Int.pow_add, show M + (n + 1) = cs.length by have := HM.out; omega] at h2
    omega
  have HBG := Lib.hid (show bg < g by omega)
  clear hpart hown' hgrow hnum hlimb hL hLc hV hrow hbg
  go_loopw [9] (fun i wr => ∃ (k : Nat) (zs qs : List Int), k ≤ M ∧ i = .int .i64 ((k : Int) - 1) ∧ zs.length = L ∧ Wf zs ∧ Part wr g cap zs ∧ Blk wr w3.heap.size (List.replicate k 0 ++ qs) ∧ qs.length + k = M ∧ Wf qs ∧
      val zs < 4294967296 ^ k * val bs ∧ val cs = val zs + val bs * (4294967296 ^ k * val qs) ∧ Lim wr (some ⟨bg, bo, none⟩) bs ∧ Below w.heap.size w wr) (fun i _ => (intOf i + 1).toNat)
  case atStart =>
    refine ⟨M, cs ++ [0], [], Nat.le_refl _, by simp, HL.out, hwz0, hpart0, by simpa using hblk0, by simp, Wf.nil, hvstart, by rw [hv0]; simp [val], hlim0, hw4⟩
  case round =>
    obtain ⟨k, zs, qs, hk, rfl, hzl, hzw, hpart, hblk, hql, hqw, hlt, hval, hlim, hb⟩ := hrel
    have hsz := hb.size
    have hM := HM.out
    have hLc := HLC.out
    clear hpart0 hblk0 hlim0 hw4 hvstart hwz0 hv0 hw3 hB2
    by_cases hgo : 0 < k
    · obtain ⟨j, rfl⟩ : ∃ j, k = j + 1 := ⟨k - 1, by omega⟩
      have hji : (((j + 1 : Nat) : Int) - 1) = (j : Int) := by omega
      rw [hji]
      have hcapL := hpart.le
      have hVn : 0 ≤ val bs := by omega
      obtain ⟨hU, _⟩ := long_step (zs := zs) (ls := List.replicate (bs.length + 1) 0) (i := j) (t := bs.length) (q := 0) (V := val bs) hzw (Wf.zeros _) (by simp) (by omega) hVn hV1 hlt
      have hcy : ∀ i, i < bs.length → wr.cell? ⟨bg, bo + i, none⟩ = some (.int .u32 (bs.getD i 0)) := by
        rcases hlim with e | ⟨b', o', e, hc⟩
        · rw [e]; intro i h; simp at h
        · cases e; exact hc
      have hbgg : bg ≠ g := by
        have := HBG.out
        omega
      have hdiv := divide_any (g := g) (cap := cap) (capp := cap - j) (i := j) (bg := bg) (bo := bo) (capb := capb1) (zs := zs) (ys := bs) (w := wr) n hpart hzw hwb HEB.out (by omega) (by omega) hcy hbgg HTOP.out hU
      have s1 : (0 : Int) ≤ (j : Int) := by omega
      have s2 : (j : Int) + (bs.length : Int) + 1 ≤ (cap : Int) := by omega
      have s3 : (j : Int) < (M : Int) := by omega
      have HK := Lib.hid hk
      have HZL := Lib.hid hzl
      have HQL := Lib.hid hql
      have HLT := Lib.hid hlt
      have HVAL := Lib.hid hval
      clear hk hzl hql hlt hval hLc hM hcy hgo
      go_wp2_with fail
      rw [show j + bs.length + 1 - j = bs.length + 1 from by omega]
      refine hdiv.mono ?_
      rintro e w5 ⟨q, ls, rfl, q0, q1, hll, hlw, hp5, hvl, hvlt, hg5⟩
      have hne : w3.heap.size ≠ g := by omega
      have hblk5 := hblk.grown hg5 (fun e => hne (Option.some.inj e))
      have hlim5 := Lim.grown hlim hg5 (fun a e => by cases e; intro e2; exact hbgg (Option.some.inj e2))
      have hb5 : Below w.heap.size w w5 := hb.grown hg5 hsz (fun k hk => by cases hk; omega)
      have hlz : (List.replicate (j + 1) 0 ++ qs).length = M := by rw [List.length_append, List.length_replicate]; have := HQL.out; omega
      have hcell := hblk5.cell j (by omega)
      have hfree := hblk5.free j
      have hset := hblk5.set j q
      rw [set_front] at hset
      have hzl := HZL.out
      obtain ⟨_, hst⟩ := long_step (zs := zs) (ls := ls) (i := j) (t := bs.length) (q := q) (V := val bs) hzw hlw hll (by have := HLC.out; have := HM.out; have := HK.out; omega) hVn hV1 HLT.out
      obtain ⟨st1, st2⟩ := hst hvl hvlt
      have hpl := putAt_length zs ls j (by rw [hll, hzl]; have := HLC.out; have := HM.out; have := HK.out; omega)
      have fin : ∃ (k' : Nat) (zs' qs' : List Int), k' ≤ M ∧ Value.int .i64 ((j : Int) - 1) = .int .i64 ((k' : Int) - 1) ∧ zs'.length = L ∧ Wf zs' ∧ Part (w5.setCell ⟨w3.heap.size, j, none⟩ (.int .u32 q)) g cap zs' ∧ Blk (w5.setCell ⟨w3.heap.size, j, none⟩ (.int .u32 q)) w3.heap.size (List.replicate k' 0 ++ qs') ∧ qs'.length + k' = M ∧ Wf qs' ∧
          val zs' < 4294967296 ^ k' * val bs ∧ val cs = val zs' + val bs * (4294967296 ^ k' * val qs') ∧ Lim (w5.setCell ⟨w3.heap.size, j, none⟩ (.int .u32 q)) (some ⟨bg, bo, none⟩) bs ∧ Below w.heap.size w (w5.setCell ⟨w3.heap.size, j, none⟩ (.int .u32 q)) := by
        have hO : Only w3.heap.size w5 (w5.setCell ⟨w3.heap.size, j, none⟩ (.int .u32 q)) := Only.set _ _ _ _
        refine ⟨j, putAt zs j ls, q :: qs, by have := HK.out; omega, rfl, hpl.trans hzl, putAt_wf _ hzw hlw, hp5.far (p := ⟨w3.heap.size, j, none⟩) (Ne.symm hne) _, hset, by rw [List.length_cons]; have := HQL.out; omega, Wf.cons ⟨q0, q1⟩ hqw, st2, ?_, Lim.grown hlim5 hO.grown (fun a e => by cases e; intro e2; have e3 : bg = w3.heap.size := Option.some.inj e2; have := HBG.out; omega), hb5.setCell (p := ⟨w3.heap.size, j, none⟩) (by simp; omega) _⟩
        rw [HVAL.out, st1]
        simp only [val]
        rw [Int.pow_succ]
        exact long_alg _ _ _ _ _
      have FIN := Lib.hid fin
      clear fin hset hp5 hblk5 hlim5 hb5 hg5 hvl hvlt st1 st2 hst hpl hlz hdiv hU
      go_wp2
      go_roundw
      case rel => exact FIN.out
      case measure => simp [intOf]
    · obtain rfl : k = 0 := by omega
      have hji : (((0 : Nat) : Int) - 1) = -1 := by omega
      rw [hji]
      rw [List.replicate_zero, List.nil_append] at hblk
      rw [Int.pow_zero, Int.one_mul] at hlt hval
      rw [HQ2.out, HV.out] at hval
      rw [HV.out] at hlt
      have hz0 := val_nonneg hzw
      obtain ⟨e1, e2⟩ := long_end (A := val xs) (B := val ys) (Q := val qs) (R := val zs) (s := 2 ^ s) (two_pos s) hval hz0 hlt
      have hql' : qs.length = M := by omega
      have Aq : Arg wr (.slice (some ⟨w3.heap.size, 0, none⟩) M M) qs (some ⟨w3.heap.size, 0, none⟩) M := ⟨by rw [hql'], hblk.lim, by omega, hqw⟩
      have Az : Arg wr (.slice (some ⟨g, 0, none⟩) (cs.length + 1) cap) zs (some ⟨g, 0, none⟩) cap := ⟨by rw [hzl, hLc], hpart.lim, hpart.le, hzw⟩
      have E1 := Lib.hid e1
      have E2 := Lib.hid e2
      have hzl2 : zs.length ≤ xs.length + 2 := by omega
      have HX := Lib.hid (show M ≤ xs.length + 2 by omega)
      clear hpart hblk hlt hval hlim e1 e2 hz0 hV0
      go_wp2_with fail
      refine (trim_res Aq (by omega)).mono ?_
      rintro e w6 ⟨r6, l6, rfl, q6, n6, hb6⟩
      have Az6 := Az.later hb6
      have hs6 := hb6.size
      go_wp2_with fail
      refine (shr_any s Az6 (by omega) (by omega) (by omega)).mono ?_
      rintro e w7 ⟨r7, l7, rfl, q7, n7, hb7⟩
      have q6' := q6.later hb7
      rw [Int.toNat_natCast] at q7
      have hB7 : Below w.heap.size w w7 := (hb.trans (hb6.mono hsz)).trans (hb7.mono (by omega))
      have hX := HX.out
      go_wp2_with fail
      go_ret2
      exact ⟨r6, r7, rfl, hB7, ⟨l6, ⟨q6'.num.mono hsz, q6'.wf, q6'.full, q6'.eq.trans E1.out⟩, by omega⟩, ⟨l7, ⟨q7.num.mono (by omega), q7.wf, q7.full, q7.eq.trans E2.out⟩, by omega⟩⟩
end
section
open Go.RowKit
set_option linter.unusedVariables false
set_option linter.unusedSimpArgs false
theorem full_len {zs : List Int} {m : Nat} (hw : Wf zs) (hf : trimN zs zs.length = zs.length) (h : val zs < 4294967296 ^ m) : zs.length ≤ m := by
  rcases Nat.lt_or_ge m zs.length with k | k
  · exfalso
    have h1 := full_ge hw hf (zs.length - 1) (by omega)
    have h2 : (4294967296 : Int) ^ m ≤ 4294967296 ^ (zs.length - 1) := by rw [pow_limb, pow_limb]; exact two_mono (by omega)
    omega
  · exact k
theorem Res.lenLe {base : Nat} {w : World} {u : Value} {zs xs : List Int} {n : Int} (h : Res base w u zs n) (hx : Wf xs) (hle : n ≤ val xs) : zs.length ≤ xs.length := by
  have := val_lt hx
  exact full_len h.wf h.full (by rw [h.eq]; omega)
theorem Res.nil (base : Nat) (w : World) : Res base w (.slice none 0 0) [] 0 := ⟨⟨rfl, .inl ⟨rfl, rfl⟩⟩, Wf.nil, rfl, rfl⟩
theorem ediv_le {a b : Int} (ha : 0 ≤ a) (hb : 0 < b) : a / b ≤ a := Int.ediv_le_self b ha
theorem emod_le {a b : Int} (ha : 0 ≤ a) (hb : 0 < b) : a % b ≤ a := by
  have h1 := Int.emod_add_mul_ediv a b
  have h2 := Int.mul_nonneg (show 0 ≤ b by omega) (Int.ediv_nonneg ha (show 0 ≤ b by omega))
  omega
theorem val_zero {xs : List Int} (h : Wf xs) : val xs = 0 ↔ trimN xs xs.length = 0 := by
  constructor
  · intro h0
    rcases Nat.eq_zero_or_pos (trimN xs xs.length) with k | k
    · exact k
    · exfalso
      have h1 := full_ge h.trim (trim_full xs) (trimN xs xs.length - 1) (by rw [trim_length]; omega)
      rw [val_trim] at h1
      have := pow_pos' (trimN xs xs.length - 1)
      omega
  · intro h0
    rw [← val_trim xs]
    unfold trim
    rw [h0]
    rfl
set_option maxRecDepth 100000 in
set_option maxHeartbeats 1000000 in
theorem div_any {u v : Value} {xs ys : List Int} {a b : Option Addr} {capa capb : Nat} {w : World} (h1 : Arg w u xs a capa) (h2 : Arg w v ys b capb) (hx : xs.length ≤ 134217728) (hy : ys.length ≤ 134217728) (h0 : 0 < val ys) :
    Calls Tryz.prog 114 #[u, v] w fun e w' => ∃ r t, e = .returned (.tuple #[r, t, .int .i64 0]) ∧ Below w.heap.size w w' ∧ (∃ zs, Res w.heap.size w' r zs (val xs / val ys) ∧ zs.length ≤ xs.length) ∧
      (∃ zs, Res w.heap.size w' t zs (val xs % val ys) ∧ zs.length ≤ xs.length ∧ zs.length ≤ ys.length) := by
  have hc := count_any h2 (by omega)
  have hx0 := val_nonneg h1.wf
  have hq := ediv_le hx0 h0
  have hr := emod_le hx0 h0
  have hr2 := Int.emod_lt_of_pos (val xs) h0
  obtain ⟨t, ht⟩ : ∃ t, trimN ys ys.length = t := ⟨_, rfl⟩
  have htp : t ≠ 0 := by
    intro e
    have := (val_zero h2.wf).2 (ht.trans e)
    omega
  rw [ht] at hc
  have hd0 : ((t : Int) == 0) = false := by simp; omega
  have HQ := Lib.hid hq
  have HR := Lib.hid hr
  have HR2 := Lib.hid hr2
  clear hq hr hr2
  by_cases ht1 : t = 1
  · subst ht1
    have hd1 : (((1 : Nat) : Int) == 1) = true := by decide
    have hv1 := val_take_ge ys 1 (by omega)
    rw [val_take_succ] at hv1
    simp only [List.take_zero, val, Int.pow_zero, Int.one_mul, Int.zero_add] at hv1
    have hb := h2.wf.getD 0
    obtain ⟨bx, hbx⟩ : ∃ bx, ys.getD 0 0 = bx := ⟨_, rfl⟩
    rw [hbx] at hv1 hb
    have hl1 := trim_le ys
    rw [ht] at hl1
    obtain ⟨rfl, ly, hle, wy⟩ := h2
    rcases ly with rfl | ⟨bb, off, rfl, hcell⟩
    · simp at hl1
    have hc0 := hcell 0 (by omega)
    rw [hbx, Nat.add_zero] at hc0
    have hlt : (0 : Int) < (ys.length : Int) := by omega
    have HV := Lib.hid hv1
    have HY := Lib.hid wy
    clear hcell ht hbx hv1 hd0 htp
    go_enter Tryz.func114, Tryz.ntmps114
    go_wp2_with fail
    refine hc.mono ?_
    rintro e w' ⟨rfl, rfl⟩
    clear hc
    go_wp2_with fail
    refine (short1_any bx h1 (by omega) ⟨by rw [HV.out]; exact h0, hb.2⟩).mono ?_
    rintro e w2 ⟨r2, rfl, z2, q2, n2, hb2⟩
    have hm0 : 0 ≤ val xs % bx := Int.emod_nonneg _ (by rw [HV.out]; omega)
    have hm1 : val xs % bx < 18446744073709551616 := by have := HR2.out; rw [← HV.out] at this; omega
    have hwm : IntKind.u64.wrap (val xs % bx) = val xs % bx := wrap_u64 hm0 hm1
    go_wp2_with fail
    refine (ofN_any (val xs % bx) _ hm0 hm1).mono ?_
    rintro e w3 ⟨r3, z3, rfl, q3, n3, hb3⟩
    have hs2 := hb2.size
    have q2' := q2.later hb3
    have hB : Below w.heap.size w w3 := hb2.trans (hb3.mono hs2)
    rw [HV.out] at q2' q3
    have l2 := q3.lenLe h1.wf HR.out
    have l3 := q3.lenLe HY.out (Int.le_of_lt HR2.out)
    go_wp2_with fail
    go_ret3
    exact ⟨r2, r3, rfl, hB, ⟨z2, q2', n2⟩, ⟨z3, ⟨q3.num.mono hs2, q3.wf, q3.full, q3.eq⟩, l2, l3⟩⟩
  · have hd1 : ((t : Int) == 1) = false := by simp; omega
    have hcmp := cmp_res h1 h2 (by omega) (by omega)
    by_cases hlt : val xs < val ys
    · rw [sign_lt hlt] at hcmp
      have hn : decide ((-1 : Int) < 0) = true := by decide
      go_enter Tryz.func114, Tryz.ntmps114
      go_wp2_with fail
      refine hc.mono ?_
      rintro e w' ⟨rfl, rfl⟩
      clear hc
      go_wp2_with fail
      refine hcmp.mono ?_
      rintro e w2 ⟨rfl, hb2⟩
      clear hcmp
      have A1 := h1.later hb2
      have hs2 := hb2.size
      go_wp2_with fail
      refine (trim_res A1 (by omega)).mono ?_
      rintro e w3 ⟨r3, z3, rfl, q3, n3, hb3⟩
      have hB : Below w.heap.size w w3 := hb2.trans (hb3.mono hs2)
      have e1 : val xs / val ys = 0 := Int.ediv_eq_zero_of_lt hx0 hlt
      have e2 : val xs % val ys = val xs := Int.emod_eq_of_lt hx0 hlt
      have l3 := q3.lenLe h2.wf (Int.le_of_lt hlt)
      have E1 := Lib.hid e1
      have E2 := Lib.hid e2
      clear e1 e2
      go_wp2_with fail
      go_ret3
      exact ⟨_, r3, rfl, hB, ⟨[], by rw [E1.out]; exact Res.nil _ _, by simp⟩, ⟨z3, ⟨q3.num.mono hs2, q3.wf, q3.full, q3.eq.trans E2.out.symm⟩, n3, l3⟩⟩
    · have hn : decide (sign (val xs) (val ys) < 0) = false := decide_eq_false (by unfold sign; rw [if_neg hlt]; split <;> omega)
      go_enter Tryz.func114, Tryz.ntmps114
      go_wp2_with fail
      refine hc.mono ?_
      rintro e w' ⟨rfl, rfl⟩
      clear hc
      go_wp2_with fail
      refine hcmp.mono ?_
      rintro e w2 ⟨rfl, hb2⟩
      clear hcmp
      have A1 := h1.later hb2
      have A2 := h2.later hb2
      have hs2 := hb2.size
      go_wp2_with fail
      refine (long_any A1 A2 (by omega) (by omega) (by omega) (by omega)).mono ?_
      rintro e w3 ⟨r3, t3, rfl, hb3, ⟨z3, q3, _⟩, ⟨z4, q4, _⟩⟩
      have hB : Below w.heap.size w w3 := hb2.trans (hb3.mono hs2)
      have l1 := q3.lenLe h1.wf HQ.out
      have l2 := q4.lenLe h1.wf HR.out
      have l3 := q4.lenLe h2.wf (Int.le_of_lt HR2.out)
      go_wp2_with fail
      go_ret3
      exact ⟨r3, t3, rfl, hB, ⟨z3, ⟨q3.num.mono hs2, q3.wf, q3.full, q3.eq⟩, l1⟩, ⟨z4, ⟨q4.num.mono hs2, q4.wf, q4.full, q4.eq⟩, l2, l3⟩⟩
end
section
open Go.RowKit
set_option linter.unusedVariables false
set_option linter.unusedSimpArgs false
set_option maxRecDepth 100000 in
set_option maxHeartbeats 1000000 in
theorem shortGcd_any (x y : Int) (w : World) (hx : 0 ≤ x ∧ x < 18446744073709551616) (hy : 0 ≤ y ∧ y < 18446744073709551616) :
    Calls Tryz.prog 144 #[.int .u64 x, .int .u64 y] w fun e w' => e = .returned (.int .u64 (Int.gcd x y : Int)) ∧ Below w.heap.size w w' := by
  obtain ⟨hx0, hx1⟩ := hx
  obtain ⟨hy0, hy1⟩ := hy
  go_enter Tryz.func144, Tryz.ntmps144
  go_wp2
  go_loopw [0, 1] (fun p q wr => ∃ P Q : Int, p = .int .u64 P ∧ q = .int .u64 Q ∧ 0 ≤ P ∧ P < 18446744073709551616 ∧ 0 ≤ Q ∧ Q < 18446744073709551616 ∧ Int.gcd P Q = Int.gcd x y ∧ Below w.heap.size w wr) (fun _ q _ => (intOf q).toNat)
  case atStart => exact ⟨x, y, rfl, rfl, hx0, hx1, hy0, hy1, rfl, Below.refl _ _⟩
  case round =>
    obtain ⟨P, Q, rfl, rfl, hP0, hP1, hQ0, hQ1, hg, hb⟩ := hrel
    have hsz := hb.size
    have HG := Lib.hid hg
    clear hg
    by_cases hgo : 0 < Q
    · obtain ⟨m, hm⟩ : ∃ m, P % Q = m := ⟨_, rfl⟩
      have htm : Int.tmod P Q = m := by rw [Int.tmod_eq_emod_of_nonneg hP0, hm]
      have hm0 : 0 ≤ m := by rw [← hm]; exact Int.emod_nonneg _ (by omega)
      have hm1 : m < Q := by rw [← hm]; exact Int.emod_lt_of_pos _ hgo
      have hwm : IntKind.u64.wrap m = m := wrap_u64 (by omega) (by omega)
      have hq0 : Q ≠ 0 := by omega
      have hg2 : Int.gcd Q m = Int.gcd x y := by rw [← hm, gcd_step]; exact HG.out
      have HG2 := Lib.hid hg2
      clear hg2 hm
      go_wp2
      go_quiet (fail)
      go_wp2
      go_roundw
      case rel => exact ⟨Q, m, rfl, rfl, hQ0, hQ1, hm0, by omega, HG2.out, ⟨hb.os, hb.tape, hb.output, hb.size, hb.block⟩⟩
      case measure => simp [intOf]; omega
    · obtain rfl : Q = 0 := by omega
      have hfin : P = (Int.gcd x y : Int) := by rw [← HG.out]; exact (gcd_end hP0).symm
      have HF := Lib.hid hfin
      clear hfin
      go_wp2
      go_ret
      exact ⟨by rw [← HF.out]; rfl, hb⟩
/-- loops over pairs: how much is left -/
def leftN (w : World) (v : Value) : Nat := (val (readV w v)).toNat
theorem Arg.left {w : World} {u : Value} {xs : List Int} {a : Option Addr} {cap : Nat} (h : Arg w u xs a cap) : leftN w u = (val xs).toNat := by unfold leftN; rw [h.read]
theorem bits_pos {xs : List Int} (h : Wf xs) : 0 < val xs ↔ 0 < bitsN xs := by
  rcases bitsN_is h with ⟨h1, h2⟩ | ⟨j, h1, h2, _⟩
  · omega
  · have := two_pos j; omega
theorem uint_gen {u : Value} {xs : List Int} {a : Option Addr} {capa : Nat} {w : World} (h1 : Arg w u xs a capa) (hx : xs.length ≤ 35184372088832) :
    Calls Tryz.prog 143 #[u] w fun e w' => (∃ X : Int, e = .returned (.tuple #[.int .u64 X, .bool (decide (val xs < 18446744073709551616))])) ∧ w = w' := by
  by_cases h : val xs < 18446744073709551616
  · rw [decide_eq_true h]
    exact (uint_small h1 hx h).mono fun e w' ⟨he, hw⟩ => ⟨⟨_, he⟩, hw⟩
  · rw [decide_eq_false h]
    exact (uint_big h1 hx (by omega)).mono fun e w' ⟨he, hw⟩ => ⟨⟨_, he⟩, hw⟩
set_option maxRecDepth 100000 in
set_option maxHeartbeats 2000000 in
theorem gcd_any {u v : Value} {xs ys : List Int} {a b : Option Addr} {capa capb : Nat} {w : World} (h1 : Arg w u xs a capa) (h2 : Arg w v ys b capb) (hx : xs.length ≤ 134217728) (hy : ys.length ≤ 134217728) :
    Calls Tryz.prog 112 #[u, v] w fun e w' => ∃ r zs, e = .returned r ∧ Res w.heap.size w' r zs (Int.gcd (val xs) (val ys) : Int) ∧ zs.length ≤ max xs.length ys.length + 2 ∧ Below w.heap.size w w' := by
  obtain ⟨m, hm⟩ : ∃ m, max xs.length ys.length = m := ⟨_, rfl⟩
  have hm2 : m ≤ 134217728 := by omega
  have hmx : xs.length ≤ m := by omega
  have hmy : ys.length ≤ m := by omega
  rw [hm]
  clear hm hx hy
  go_enter Tryz.func112, Tryz.ntmps112
  go_wp2
  go_loopw [0, 1, 5, 6, 7, 8, 9, 10, 11] (fun p q _ _ _ _ _ _ _ wr => ∃ (p' q' : Value) (us vs : List Int) (ad bd : Option Addr) (cp cq : Nat), p' = p ∧ q' = q ∧ Arg wr p' us ad cp ∧ Arg wr q' vs bd cq ∧ us.length ≤ m ∧ vs.length ≤ m ∧ Int.gcd (val us) (val vs) = Int.gcd (val xs) (val ys) ∧ Below w.heap.size w wr) (fun _ q _ _ _ _ _ _ _ wr => leftN wr q)
  case atStart => exact ⟨u, v, xs, ys, a, b, capa, capb, rfl, rfl, h1, h2, hmx, hmy, rfl, Below.refl _ _⟩
  case round =>
    obtain ⟨p, q, us, vs, ad, bd, cp, cq, rfl, rfl, A1, A2, hu, hv, hg, hb⟩ := hrel
    have hsz := hb.size
    have HG := Lib.hid hg
    clear hg h1 h2
    have hbits := bits_res A2 (by omega) (bitsN_is A2.wf)
    obtain ⟨nb, hnb⟩ : ∃ nb, bitsN vs = nb := ⟨_, rfl⟩
    have hbp := bits_pos A2.wf
    rw [hnb] at hbits hbp
    have hu0 := val_nonneg A1.wf
    have hv0 := val_nonneg A2.wf
    clear hnb
    by_cases hgo : 0 < nb
    · have hpos := hbp.2 hgo
      have hgo2 : (0 : Int) < (nb : Int) := by omega
      by_cases hs : val us < 18446744073709551616 ∧ val vs < 18446744073709551616
      · obtain ⟨hs1, hs2⟩ := hs
        go_wp2_with fail
        refine hbits.mono ?_
        rintro e w' ⟨rfl, rfl⟩
        clear hbits
        go_wp2_with fail
        refine (uint_small A1 (by omega) hs1).mono ?_
        rintro e w' ⟨rfl, rfl⟩
        go_wp2_with fail
        refine (uint_small A2 (by omega) hs2).mono ?_
        rintro e w' ⟨rfl, rfl⟩
        go_wp2_with fail
        refine (shortGcd_any (val us) (val vs) _ ⟨hu0, hs1⟩ ⟨hv0, hs2⟩).mono ?_
        rintro e w2 ⟨rfl, hb2⟩
        have hgl : (Int.gcd (val us) (val vs) : Int) < 18446744073709551616 := by
          have h3 : Int.gcd (val us) (val vs) ∣ (val vs).natAbs := Int.gcd_dvd_natAbs_right _ _
          have h4 := Nat.le_of_dvd (by omega) h3
          omega
        have hs3 := hb2.size
        go_wp2_with fail
        refine (ofN_any _ _ (Int.natCast_nonneg _) hgl).mono ?_
        rintro e w3 ⟨r3, z3, rfl, q3, n3, hb3⟩
        have hB := (hb.trans (hb2.mono hsz)).trans (hb3.mono (by omega))
        have q3e := q3.eq
        rw [HG.out] at q3e
        have HE := Lib.hid q3e
        clear q3e hgl hs1 hs2 hgo2 hpos hbp
        go_wp2_with fail
        go_ret
        exact ⟨r3, z3, rfl, ⟨q3.num.mono (by omega), q3.wf, q3.full, HE.out⟩, by omega, hB⟩
      · by_cases hs1 : val us < 18446744073709551616
        · have hs2 : ¬ val vs < 18446744073709551616 := fun h => hs ⟨hs1, h⟩
          have d1 : decide (val us < 18446744073709551616) = true := decide_eq_true hs1
          have d2 : decide (val vs < 18446744073709551616) = false := decide_eq_false hs2
          have u1 := uint_gen A1 (by omega)
          have u2 := uint_gen A2 (by omega)
          rw [d1] at u1
          rw [d2] at u2
          clear d1 d2
          go_wp2_with fail
          refine hbits.mono ?_
          rintro e w' ⟨rfl, rfl⟩
          clear hbits
          go_wp2_with fail
          refine u1.mono ?_
          rintro e w' ⟨⟨X, rfl⟩, rfl⟩
          go_wp2_with fail
          refine u2.mono ?_
          rintro e w' ⟨⟨Y, rfl⟩, rfl⟩
          go_wp2_with fail
          refine (div_any A1 A2 (by omega) (by omega) hpos).mono ?_
          rintro e w2 ⟨r2, s2, rfl, hb2, _, ⟨z2, q2, n2, n2'⟩⟩
          obtain ⟨ad2, cap2, A3⟩ := q2.arg
          have A2' := A2.later hb2
          have hB2 := hb.trans (hb2.mono hsz)
          have hl2 := A3.left
          have hleft := A2.left
          have hr1 := Int.emod_lt_of_pos (val us) hpos
          have hr2 := Int.emod_nonneg (val us) (show val vs ≠ 0 by omega)
          have hm3 : leftN w2 s2 < leftN wr q := by rw [hleft, hl2, q2.eq]; omega
          have hg3 : Int.gcd (val vs) (val z2) = Int.gcd (val xs) (val ys) := by rw [q2.eq, gcd_step]; exact HG.out
          have HG3 := Lib.hid hg3
          have HM3 := Lib.hid hm3
          clear hg3 hm3 hr1 hr2 hl2 hleft q2 A1 A2 hb2 hpos hbp hs
          go_wp2
          go_roundw
          case rel => exact ⟨_, _, vs, z2, bd, ad2, cq, cap2, rfl, rfl, A2', A3, hv, by omega, HG3.out, hB2⟩
          case measure => exact HM3.out
        · have d1 : decide (val us < 18446744073709551616) = false := decide_eq_false hs1
          have u1 := uint_gen A1 (by omega)
          have u2 := uint_gen A2 (by omega)
          rw [d1] at u1
          generalize decide (val vs < 18446744073709551616) = f2 at u2
          clear d1
          go_wp2_with fail
          refine hbits.mono ?_
          rintro e w' ⟨rfl, rfl⟩
          clear hbits
          go_wp2_with fail
          refine u1.mono ?_
          rintro e w' ⟨⟨X, rfl⟩, rfl⟩
          go_wp2_with fail
          refine u2.mono ?_
          rintro e w' ⟨⟨Y, rfl⟩, rfl⟩
          go_wp2_with fail
          refine (div_any A1 A2 (by omega) (by omega) hpos).mono ?_
          rintro e w2 ⟨r2, s2, rfl, hb2, _, ⟨z2, q2, n2, n2'⟩⟩
          obtain ⟨ad2, cap2, A3⟩ := q2.arg
          have A2' := A2.later hb2
          have hB2 := hb.trans (hb2.mono hsz)
          have hl2 := A3.left
          have hleft := A2.left
          have hr1 := Int.emod_lt_of_pos (val us) hpos
          have hr2 := Int.emod_nonneg (val us) (show val vs ≠ 0 by omega)
          have hm3 : leftN w2 s2 < leftN wr q := by rw [hleft, hl2, q2.eq]; omega
          have hg3 : Int.gcd (val vs) (val z2) = Int.gcd (val xs) (val ys) := by rw [q2.eq, gcd_step]; exact HG.out
          have HG3 := Lib.hid hg3
          have HM3 := Lib.hid hm3
          clear hg3 hm3 hr1 hr2 hl2 hleft q2 A1 A2 hb2 hpos hbp hs
          go_wp2
          go_roundw
          case rel => exact ⟨_, _, vs, z2, bd, ad2, cq, cap2, rfl, rfl, A2', A3, hv, by omega, HG3.out, hB2⟩
          case measure => exact HM3.out
    · have h0 : nb = 0 := by omega
      have hvz : val vs = 0 := by omega
      have hfin : val us = (Int.gcd (val xs) (val ys) : Int) := by rw [← HG.out, hvz]; exact (gcd_end hu0).symm
      have HF := Lib.hid hfin
      subst h0
      have hd : decide ((0 : Int) < ((0 : Nat) : Int)) = false := by decide
      clear hfin hvz hbp
      go_wp2_with fail
      refine hbits.mono ?_
      rintro e w' ⟨rfl, rfl⟩
      clear hbits
      go_wp2_with fail
      refine (trim_res A1 (by omega)).mono ?_
      rintro e w3 ⟨r3, z3, rfl, q3, n3, hb3⟩
      have hB := hb.trans (hb3.mono hsz)
      have HE := Lib.hid (q3.eq.trans HF.out)
      go_wp2_with fail
      go_ret
      exact ⟨r3, z3, rfl, ⟨q3.num.mono hsz, q3.wf, q3.full, HE.out⟩, by omega, hB⟩
end
section
open Go.RowKit
set_option linter.unusedVariables false
set_option linter.unusedSimpArgs false
set_option maxHeartbeats 4000000 in
set_option maxRecDepth 100000 in
theorem len64_any (x : Int) (w : World) (hx : 0 ≤ x ∧ x < 65536) :
    Calls Tryz.prog 163 #[.int .u64 x] w fun e w' => e = .returned (.int .i64 (Lib.bitLen x.toNat)) ∧ w = w' := by
  obtain ⟨h0, h1⟩ := hx
  have hsz : (Lib.len8tab.size : Int) = 256 := by rw [Lib.len8tab_size]; rfl
  go_enter Tryz.func163, Tryz.ntmps163
  go_wp2
  all_goals (go_ret; refine ⟨congrArg Ending.returned (congrArg (Value.int IntKind.i64) ?_), rfl⟩)
  · have e : (x / 256).toNat = x.toNat / 256 := by omega
    have t := tab_at (x / 256) (by omega) (by omega) (by rw [Lib.len8tab_size]; omega)
    have l := Lib.bitLen_le8' (x / 256) (by omega) (by omega)
    have s := Lib.bitLen_shift8 x.toNat (by omega) (by omega)
    rw [t, wrap2 _ _ (by omega) (by omega) l, e, s]
    omega
  · have t := tab_at x (by omega) (by omega) (by rw [Lib.len8tab_size]; omega)
    have l := Lib.bitLen_le8' x (by omega) (by omega)
    rw [t, wrap64_small (Lib.bitLen x.toNat) (by omega) (by omega), wrap64_small _ (by omega) (by omega)]
theorem lenU_any (x : Int) (w : World) (hx : 0 ≤ x ∧ x < 65536) :
    Calls Tryz.prog 142 #[.int .u64 x] w fun e w' => e = .returned (.int .i64 (Lib.bitLen x.toNat)) ∧ w = w' := by
  have h := len64_any x w hx
  obtain ⟨h0, h1⟩ := hx
  go_enter Tryz.func142, Tryz.ntmps142
  go_wp2_with fail
  refine h.mono ?_
  rintro e w' ⟨rfl, rfl⟩
  go_wp2_with fail
  go_ret
  exact ⟨rfl, rfl⟩
theorem pow_bound {xs : List Int} (h : Wf xs) (e : Nat) : 0 ≤ val xs ^ e ∧ val xs ^ e ≤ 4294967296 ^ (xs.length * e) := by
  have h0 := val_nonneg h
  have h1 := val_lt h
  induction e with
  | zero => simp
  | succ e ih =>
    obtain ⟨i0, i1⟩ := ih
    rw [Int.pow_succ, Nat.mul_succ, Int.pow_add]
    refine ⟨Int.mul_nonneg i0 h0, ?_⟩
    have a := mul_le_r (c := val xs) h0 i1
    have b := mul_le_l (a := val xs) (b := 4294967296 ^ xs.length) (c := 4294967296 ^ (xs.length * e)) (Int.le_of_lt (pow_pos' _)) (Int.le_of_lt h1)
    omega
theorem pow_len {xs ds : List Int} {e : Nat} (h : Wf xs) (hd : Wf ds) (fd : trimN ds ds.length = ds.length) (hv : val ds = val xs ^ e) : ds.length ≤ xs.length * e + 1 := by
  refine full_len hd fd ?_
  have h1 := (pow_bound h e).2
  have h2 : (4294967296 : Int) ^ (xs.length * e) < 4294967296 ^ (xs.length * e + 1) := by
    rw [Int.pow_succ]; have := pow_pos' (xs.length * e); omega
  omega
theorem and_one64 (x : Nat) (h : x < 2147483648) : bits .and .i64 (x : Int) 1 = ((x % 2 : Nat) : Int) := by
  show IntKind.i64.wrap ((BitVec.ofInt 64 (x : Int) &&& BitVec.ofInt 64 ((1 : Nat) : Int)).toNat : Int) = _
  rw [BitVec.toNat_and, ofInt_u64 x (by omega), ofInt_u64 1 (by omega), Nat.and_one_is_mod]
  exact IntWalk.i64_in _ (by omega)
theorem and_shift (N j b : Nat) (h : N < 2147483648) (hb : N / 2 ^ j % 2 = b) : bits .and .i64 ((N : Int) / 2 ^ j) 1 = (b : Int) := by
  have e : (N : Int) / 2 ^ j = ((N / 2 ^ j : Nat) : Int) := by simp
  rw [e, and_one64 _ (Nat.lt_of_le_of_lt (Nat.div_le_self _ _) h), hb]
theorem half_step (N j : Nat) : (N / 2 ^ j % 2 = 1 ∧ N / 2 ^ j = N / 2 ^ (j + 1) + N / 2 ^ (j + 1) + 1) ∨ (N / 2 ^ j % 2 = 0 ∧ N / 2 ^ j = N / 2 ^ (j + 1) + N / 2 ^ (j + 1)) := by
  have h : N / 2 ^ (j + 1) = N / 2 ^ j / 2 := by rw [Nat.pow_succ, Nat.div_div_eq_div_mul]
  rw [h]
  omega
end
section
open Go.RowKit Go.ChangeShapes Go.WideShapes Go.ChangeAt
set_option linter.unusedVariables false
set_option linter.unusedSimpArgs false
theorem cmp_lt {u v : Value} {xs ys : List Int} {a b : Option Addr} {capa capb : Nat} {w : World} (h1 : Arg w u xs a capa) (h2 : Arg w v ys b capb) (hx : xs.length ≤ 35184372088832) (hy : ys.length ≤ 35184372088832) (h : val xs < val ys) :
    Calls Tryz.prog 132 #[u, v] w fun e w' => e = .returned (.int .i64 (-1)) ∧ Below w.heap.size w w' := by
  have k := cmp_res h1 h2 hx hy
  rwa [sign_lt h] at k
theorem lenD_pos {ds : List Int} (h : 0 < valD ds) : ((ds.length : Int) == 0) = false := by
  cases ds with
  | nil => simp [valD] at h
  | cons x l => simp; omega
theorem lenD_zero {ds : List Int} (h : WfD ds) (f : trimN ds ds.length = ds.length) (e : valD ds = 0) : ((ds.length : Int) == 0) = true := by rw [valD_zero h f e]; rfl
theorem wf_i64 {i : Int} (h : (Lit.int .i64 i).wf = true) : -9223372036854775808 ≤ i ∧ i ≤ 9223372036854775807 := by simpa [Lit.wf, IntKind.min, IntKind.max, IntKind.signed, IntKind.bits] using h
end
section
open Go.RowKit
set_option linter.unusedVariables false
set_option linter.unusedSimpArgs false
/-- a natural number with a sign -/
def sgn (neg : Bool) (A : Int) : Int := if neg = true then -A else A
/-- the number of a sign and two natural numbers; 0, if one of them is 0 -/
def ratOf (neg : Bool) (A B : Int) : Rat := Rat.divInt (sgn neg A) B
theorem sgn_neg (A : Int) : sgn true A = -A := rfl
theorem sgn_pos (A : Int) : sgn false A = A := rfl
theorem sgn_zero (n : Bool) : sgn n 0 = 0 := by cases n <;> rfl
theorem sgn_mul (m n : Bool) (A B : Int) : sgn m A * sgn n B = sgn (m != n) (A * B) := by
  cases m <;> cases n <;> simp [sgn, Int.neg_mul, Int.mul_neg]
theorem ratOf_zero_left (n : Bool) (B : Int) : ratOf n 0 B = 0 := by unfold ratOf; rw [sgn_zero, Rat.zero_divInt]
theorem ratOf_zero_right (n : Bool) (A : Int) : ratOf n A 0 = 0 := by unfold ratOf; rw [Rat.divInt_zero]
theorem gcd_pos {A B : Int} (hA : 0 < A) : (0 : Int) < (Int.gcd A B : Int) := by
  have := Int.gcd_pos_of_ne_zero_left (a := A) B (by omega)
  omega
theorem gcd_pos_right {A B : Int} (hB : 0 < B) : (0 : Int) < (Int.gcd A B : Int) := by rw [Int.gcd_comm]; exact gcd_pos hB
/-- what the number's parts are: reduced -/
theorem ratOf_num {n : Bool} {A B : Int} (hA : 0 ≤ A) (hB : 0 < B) : (ratOf n A B).num = sgn n (A / (Int.gcd A B : Int)) := by
  unfold ratOf
  rw [Rat.num_divInt, Int.sign_eq_one_of_pos hB, Int.one_mul]
  cases n with
  | false => simp only [sgn_pos]; rw [Int.gcd_comm]
  | true =>
    simp only [sgn_neg]
    rw [Int.gcd_neg, Int.gcd_comm, Int.neg_ediv_of_dvd (Int.gcd_dvd_left _ _)]
theorem ratOf_den {n : Bool} {A B : Int} (hB : 0 < B) : ((ratOf n A B).den : Int) = B / (Int.gcd A B : Int) := by
  unfold ratOf
  rw [Rat.den_divInt, if_neg (by omega)]
  have e : Int.gcd B (sgn n A) = Int.gcd A B := by
    cases n with
    | false => rw [sgn_pos, Int.gcd_comm]
    | true => rw [sgn_neg, Int.gcd_neg, Int.gcd_comm]
  rw [e, Int.natCast_ediv, Int.natAbs_of_nonneg (by omega)]
theorem quo_pos {A g : Int} (hA : 0 < A) (hg : 0 < g) (hd : g ∣ A) : 0 < A / g := Int.ediv_pos_of_pos_of_dvd hA (by omega) hd
theorem ratOf_abs {n : Bool} {A B : Int} (hA : 0 ≤ A) (hB : 0 < B) : ((ratOf n A B).num.natAbs : Int) = A / (Int.gcd A B : Int) := by
  rw [ratOf_num hA hB]
  have h := Int.ediv_nonneg hA (Int.natCast_nonneg (Int.gcd A B))
  cases n with
  | false => rw [sgn_pos]; omega
  | true => rw [sgn_neg]; omega
theorem ratOf_lt {n : Bool} {A B : Int} (hA : 0 ≤ A) (hB : 0 < B) : decide ((ratOf n A B).num < 0) = (n && decide (A ≠ 0)) := by
  rw [ratOf_num hA hB]
  by_cases h : A = 0
  · subst h; cases n <;> simp [sgn]
  · have h2 := quo_pos (A := A) (g := (Int.gcd A B : Int)) (by omega) (gcd_pos (by omega)) (Int.gcd_dvd_left _ _)
    cases n with
    | false => simp only [sgn_pos, Bool.false_and]; exact decide_eq_false (by omega)
    | true =>
      have e1 : decide (sgn true (A / (Int.gcd A B : Int)) < 0) = true := decide_eq_true (by rw [sgn_neg]; omega)
      rw [e1, decide_eq_true h]; rfl
/-- a number is that of its own parts -/
theorem ratOf_self (x : Rat) : ratOf (decide (x.num < 0)) (x.num.natAbs : Int) (x.den : Int) = x := by
  unfold ratOf
  have e : sgn (decide (x.num < 0)) (x.num.natAbs : Int) = x.num := by
    by_cases h : x.num < 0
    · rw [decide_eq_true h, sgn_neg]; omega
    · rw [decide_eq_false h, sgn_pos]; omega
  rw [e, Rat.num_divInt_den]
theorem sgn_num (x : Rat) : sgn (decide (x.num < 0)) (x.num.natAbs : Int) = x.num := by
  by_cases h : x.num < 0
  · rw [decide_eq_true h, sgn_neg]; omega
  · rw [decide_eq_false h, sgn_pos]; omega
theorem den_pos' (x : Rat) : (0 : Int) < (x.den : Int) := by have := Rat.den_pos x; omega
theorem abs_zero (x : Rat) : (x.num.natAbs : Int) = 0 ↔ x = 0 := by
  rw [← Rat.num_eq_zero]; omega
theorem x_eq (x : Rat) : x = Rat.divInt x.num x.den := (Rat.num_divInt_den x).symm
theorem rat_mul (x y : Rat) : ratOf ((decide (x.num < 0)) != (decide (y.num < 0))) ((x.num.natAbs : Int) * (y.num.natAbs : Int)) ((x.den : Int) * (y.den : Int)) = x * y := by
  unfold ratOf
  rw [← sgn_mul, sgn_num, sgn_num]
  conv => rhs; rw [x_eq x, x_eq y]
  rw [Rat.divInt_mul_divInt]
theorem rat_add_same (x y : Rat) (h : decide (x.num < 0) = decide (y.num < 0)) :
    ratOf (decide (x.num < 0)) ((x.num.natAbs : Int) * (y.den : Int) + (y.num.natAbs : Int) * (x.den : Int)) ((x.den : Int) * (y.den : Int)) = x + y := by
  have e : sgn (decide (x.num < 0)) ((x.num.natAbs : Int) * (y.den : Int) + (y.num.natAbs : Int) * (x.den : Int)) = x.num * y.den + y.num * x.den := by
    have h1 := sgn_num x
    have h2 := sgn_num y
    rw [← h] at h2
    generalize decide (x.num < 0) = s at *
    generalize (x.num.natAbs : Int) = X at *
    generalize (y.num.natAbs : Int) = Y at *
    rw [← h1, ← h2]
    cases s
    · simp only [sgn_pos]
    · simp only [sgn_neg, Int.neg_mul]; omega
  unfold ratOf
  rw [e]
  conv => rhs; rw [x_eq x, x_eq y]
  rw [Rat.divInt_add_divInt _ _ (by have := den_pos' x; omega) (by have := den_pos' y; omega)]
theorem rat_add_left (x y : Rat) (h : decide (x.num < 0) ≠ decide (y.num < 0)) :
    ratOf (decide (x.num < 0)) ((x.num.natAbs : Int) * (y.den : Int) - (y.num.natAbs : Int) * (x.den : Int)) ((x.den : Int) * (y.den : Int)) = x + y := by
  have e : sgn (decide (x.num < 0)) ((x.num.natAbs : Int) * (y.den : Int) - (y.num.natAbs : Int) * (x.den : Int)) = x.num * y.den + y.num * x.den := by
    have h1 := sgn_num x
    have h2 := sgn_num y
    by_cases hx : x.num < 0
    · have hy : ¬ y.num < 0 := fun hy => h (by rw [decide_eq_true hx, decide_eq_true hy])
      rw [decide_eq_true hx, sgn_neg]
      rw [show x.num = -(x.num.natAbs : Int) by omega, show y.num = (y.num.natAbs : Int) by omega]
      simp only [Int.neg_mul, Int.natAbs_neg, Int.natAbs_natCast]; omega
    · have hy : y.num < 0 := by
        rcases Int.lt_or_le y.num 0 with k | k
        · exact k
        · exact absurd (by rw [decide_eq_false hx, decide_eq_false (by omega)]) h
      rw [decide_eq_false hx, sgn_pos]
      rw [show x.num = (x.num.natAbs : Int) by omega, show y.num = -(y.num.natAbs : Int) by omega]
      simp only [Int.neg_mul, Int.natAbs_neg, Int.natAbs_natCast]; omega
  unfold ratOf
  rw [e]
  conv => rhs; rw [x_eq x, x_eq y]
  rw [Rat.divInt_add_divInt _ _ (by have := den_pos' x; omega) (by have := den_pos' y; omega)]
theorem rat_add_right (x y : Rat) (h : decide (x.num < 0) ≠ decide (y.num < 0)) :
    ratOf (decide (y.num < 0)) ((y.num.natAbs : Int) * (x.den : Int) - (x.num.natAbs : Int) * (y.den : Int)) ((x.den : Int) * (y.den : Int)) = x + y := by
  rw [Rat.add_comm, Int.mul_comm (x.den : Int)]
  exact rat_add_left y x (Ne.symm h)
theorem rat_neg (x : Rat) : decide ((-x).num < 0) = (!decide (x.num < 0) && decide (x ≠ 0)) ∧ (-x).num.natAbs = x.num.natAbs ∧ (-x).den = x.den := by
  have hz := Rat.num_eq_zero (q := x)
  refine ⟨?_, by rw [Rat.neg_num, Int.natAbs_neg], rfl⟩
  rw [Rat.neg_num]
  by_cases h : x = 0
  · subst h; decide
  · have h2 : x.num ≠ 0 := fun e => h (hz.1 e)
    rw [decide_eq_true (show x ≠ 0 from h), Bool.and_true]
    by_cases hx : x.num < 0
    · rw [decide_eq_true hx, decide_eq_false (by omega)]; rfl
    · rw [decide_eq_false hx, decide_eq_true (by omega)]; rfl
theorem ratOf_neg {n : Bool} {A B : Int} (hA : 0 ≤ A) (hB : 0 < B) (h : A = 0 → n = false) : decide ((ratOf n A B).num < 0) = n := by
  rw [ratOf_lt hA hB]
  by_cases k : A = 0
  · rw [h k]; rfl
  · rw [decide_eq_true k, Bool.and_true]
theorem rat_sum {m n r : Bool} {A B C D S : Int} (hB : 0 < B) (hD : 0 < D) (h : sgn r S = sgn m (A * D) + sgn n (C * B)) : ratOf r S (B * D) = ratOf m A B + ratOf n C D := by
  unfold ratOf
  rw [h, Rat.divInt_add_divInt _ _ (by omega) (by omega)]
  have e : ∀ (m : Bool) (A D : Int), sgn m (A * D) = sgn m A * D := fun m A D => by cases m <;> simp [sgn, Int.neg_mul]
  rw [e, e]
theorem rat_diff {m n r : Bool} {A B C D S : Int} (hB : 0 < B) (hD : 0 < D) (h : sgn r S = sgn m (A * D) + sgn (!n) (C * B)) : ratOf r S (B * D) = ratOf m A B - ratOf n C D := by
  rw [rat_sum hB hD h, Rat.sub_eq_add_neg]
  congr 1
  unfold ratOf
  rw [Rat.neg_divInt]
  congr 1
  cases n <;> simp [sgn]
theorem rat_prod (m n : Bool) (A B C D : Int) : ratOf (m != n) (A * C) (B * D) = ratOf m A B * ratOf n C D := by
  unfold ratOf
  rw [← sgn_mul, Rat.divInt_mul_divInt]
theorem rat_turned (n : Bool) (A B : Int) : ratOf (!n) A B = -ratOf n A B := by
  unfold ratOf
  rw [Rat.neg_divInt]
  congr 1
  cases n <;> simp [sgn]
theorem rat_over (n : Bool) (C D : Int) (hC : 0 ≤ C) (hD : 0 ≤ D) : ratOf n D C = (ratOf n C D)⁻¹ := by
  by_cases h : C = 0
  · subst h
    rw [ratOf_zero_left, ratOf_zero_right, Rat.inv_zero]
  by_cases k : D = 0
  · subst k
    rw [ratOf_zero_left, ratOf_zero_right, Rat.inv_zero]
  unfold ratOf
  rw [Rat.inv_divInt]
  cases n with
  | false => rfl
  | true => rw [sgn_neg, sgn_neg, Rat.divInt_eq_divInt_iff (by omega) (by omega)]; simp [Int.neg_mul_neg]
/-- -1, 0, 1 -/
def sgR (x : Rat) : Int := x.num.sign
theorem sgR_zero (x : Rat) : sgR x = 0 ↔ x = 0 := by unfold sgR; rw [Int.sign_eq_zero_iff_zero, Rat.num_eq_zero]
theorem sgR_divInt (a : Int) {b : Int} (hb : 0 < b) : sgR (Rat.divInt a b) = a.sign := by
  unfold sgR
  rw [Rat.num_divInt, Int.sign_eq_one_of_pos hb, Int.one_mul]
  have hg : (0 : Int) < (Int.gcd b a : Int) := gcd_pos hb
  rcases Int.lt_trichotomy a 0 with h | h | h
  · rw [Int.sign_eq_neg_one_of_neg h]
    apply Int.sign_eq_neg_one_of_neg
    have h2 := quo_pos (A := -a) (g := (Int.gcd b a : Int)) (by omega) hg (Int.dvd_neg.2 (Int.gcd_dvd_right _ _))
    rw [Int.neg_ediv_of_dvd (Int.gcd_dvd_right _ _)] at h2
    omega
  · rw [h]; simp
  · rw [Int.sign_eq_one_of_pos h]
    exact Int.sign_eq_one_of_pos (quo_pos h hg (Int.gcd_dvd_right _ _))
theorem sgR_ratOf (n : Bool) (A : Int) {B : Int} (hB : 0 < B) : sgR (ratOf n A B) = (sgn n A).sign := sgR_divInt _ hB
theorem sgn_sign (n : Bool) {A : Int} (hA : 0 ≤ A) : (sgn n A).sign = if A = 0 then 0 else if n = true then -1 else 1 := by
  by_cases h : A = 0
  · rw [if_pos h, h, sgn_zero]; rfl
  · rw [if_neg h]
    cases n with
    | false => rw [sgn_pos]; exact Int.sign_eq_one_of_pos (by omega)
    | true => rw [sgn_neg, if_pos rfl]; exact Int.sign_eq_neg_one_of_neg (by omega)
end
section
open Go.RowKit
set_option linter.unusedVariables false
set_option linter.unusedSimpArgs false
/-- a rational number, as it came in: a sign, two rows of limbs -/
def ArgQ (w : World) (v : Value) (x : Rat) (n : Nat) : Prop :=
  ∃ (neg : Bool) (xs ys : List Int) (ad bd : Option Addr) (ca cb : Nat), v = .agg #[.bool neg, .slice ad xs.length ca, .slice bd ys.length cb] ∧
    Arg w (.slice ad xs.length ca) xs ad ca ∧ Arg w (.slice bd ys.length cb) ys bd cb ∧ ratOf neg (val xs) (val ys) = x ∧ xs.length ≤ n ∧ ys.length ≤ n
/-- the same, with a denominator above 0, and 0 without a sign -/
def PlainQ (w : World) (v : Value) (x : Rat) (n : Nat) : Prop :=
  ∃ (neg : Bool) (xs ys : List Int) (ad bd : Option Addr) (ca cb : Nat), v = .agg #[.bool neg, .slice ad xs.length ca, .slice bd ys.length cb] ∧
    Arg w (.slice ad xs.length ca) xs ad ca ∧ Arg w (.slice bd ys.length cb) ys bd cb ∧ ratOf neg (val xs) (val ys) = x ∧ xs.length ≤ n ∧ ys.length ≤ n ∧ 0 < val ys ∧ (val xs = 0 → neg = false)
/-- a rational number as it is answered: its parts, each in its one way, in new memory -/
def ResQ (base : Nat) (w : World) (v : Value) (x : Rat) (n : Nat) : Prop :=
  ∃ (zs ys : List Int) (ad bd : Option Addr) (ca cb : Nat), v = .agg #[.bool (decide (x.num < 0)), .slice ad zs.length ca, .slice bd ys.length cb] ∧
    Res base w (.slice ad zs.length ca) zs (x.num.natAbs : Int) ∧ Res base w (.slice bd ys.length cb) ys (x.den : Int) ∧ zs.length ≤ n ∧ ys.length ≤ n
/-- the reference's rational number: its parts, in digits -/
def ArgR (w : World) (v : Value) (x : Rat) (n : Nat) : Prop :=
  ∃ (zs ys : List Int) (ad bd : Option Addr) (ca cb : Nat), v = .agg #[.bool (decide (x.num < 0)), .slice ad zs.length ca, .slice bd ys.length cb] ∧
    ArgD w (.slice ad zs.length ca) zs ad ca ∧ ArgD w (.slice bd ys.length cb) ys bd cb ∧ valD zs = (x.num.natAbs : Int) ∧ valD ys = (x.den : Int) ∧ zs.length ≤ n ∧ ys.length ≤ n
/-- a whole number with a sign -/
def SgnQ (w : World) (v : Value) (S : Int) (n : Nat) : Prop :=
  ∃ (neg : Bool) (xs : List Int) (ad : Option Addr) (ca : Nat), v = .agg #[.bool neg, .slice ad xs.length ca] ∧ Arg w (.slice ad xs.length ca) xs ad ca ∧ sgn neg (val xs) = S ∧ xs.length ≤ n
theorem ArgQ.later {w w' : World} {v : Value} {x : Rat} {n : Nat} (h : ArgQ w v x n) (hb : Below w.heap.size w w') : ArgQ w' v x n := by
  obtain ⟨neg, xs, ys, ad, bd, ca, cb, rfl, A, B, h⟩ := h
  exact ⟨neg, xs, ys, ad, bd, ca, cb, rfl, A.later hb, B.later hb, h⟩
theorem PlainQ.later {w w' : World} {v : Value} {x : Rat} {n : Nat} (h : PlainQ w v x n) (hb : Below w.heap.size w w') : PlainQ w' v x n := by
  obtain ⟨neg, xs, ys, ad, bd, ca, cb, rfl, A, B, h⟩ := h
  exact ⟨neg, xs, ys, ad, bd, ca, cb, rfl, A.later hb, B.later hb, h⟩
theorem ResQ.later {base : Nat} {w w' : World} {v : Value} {x : Rat} {n : Nat} (h : ResQ base w v x n) (hb : Below w.heap.size w w') : ResQ base w' v x n := by
  obtain ⟨zs, ys, ad, bd, ca, cb, rfl, A, B, h⟩ := h
  exact ⟨zs, ys, ad, bd, ca, cb, rfl, A.later hb, B.later hb, h⟩
theorem ArgR.later {w w' : World} {v : Value} {x : Rat} {n : Nat} (h : ArgR w v x n) (hb : Below w.heap.size w w') : ArgR w' v x n := by
  obtain ⟨zs, ys, ad, bd, ca, cb, rfl, A, B, h⟩ := h
  exact ⟨zs, ys, ad, bd, ca, cb, rfl, A.later hb, B.later hb, h⟩
theorem SgnQ.later {w w' : World} {v : Value} {S : Int} {n : Nat} (h : SgnQ w v S n) (hb : Below w.heap.size w w') : SgnQ w' v S n := by
  obtain ⟨neg, xs, ad, ca, rfl, A, h⟩ := h
  exact ⟨neg, xs, ad, ca, rfl, A.later hb, h⟩
theorem ArgQ.more {w : World} {v : Value} {x : Rat} {n m : Nat} (h : ArgQ w v x n) (hm : n ≤ m) : ArgQ w v x m := by
  obtain ⟨neg, xs, ys, ad, bd, ca, cb, rfl, A, B, h, h1, h2⟩ := h
  exact ⟨neg, xs, ys, ad, bd, ca, cb, rfl, A, B, h, by omega, by omega⟩
theorem PlainQ.more {w : World} {v : Value} {x : Rat} {n m : Nat} (h : PlainQ w v x n) (hm : n ≤ m) : PlainQ w v x m := by
  obtain ⟨neg, xs, ys, ad, bd, ca, cb, rfl, A, B, h, h1, h2, h3⟩ := h
  exact ⟨neg, xs, ys, ad, bd, ca, cb, rfl, A, B, h, by omega, by omega, h3⟩
theorem ResQ.more {base : Nat} {w : World} {v : Value} {x : Rat} {n m : Nat} (h : ResQ base w v x n) (hm : n ≤ m) : ResQ base w v x m := by
  obtain ⟨zs, ys, ad, bd, ca, cb, rfl, A, B, h1, h2⟩ := h
  exact ⟨zs, ys, ad, bd, ca, cb, rfl, A, B, by omega, by omega⟩
theorem ArgR.more {w : World} {v : Value} {x : Rat} {n m : Nat} (h : ArgR w v x n) (hm : n ≤ m) : ArgR w v x m := by
  obtain ⟨zs, ys, ad, bd, ca, cb, rfl, A, B, h1, h2, h3, h4⟩ := h
  exact ⟨zs, ys, ad, bd, ca, cb, rfl, A, B, h1, h2, by omega, by omega⟩
theorem PlainQ.arg {w : World} {v : Value} {x : Rat} {n : Nat} (h : PlainQ w v x n) : ArgQ w v x n := by
  obtain ⟨neg, xs, ys, ad, bd, ca, cb, rfl, A, B, h, h1, h2, _⟩ := h
  exact ⟨neg, xs, ys, ad, bd, ca, cb, rfl, A, B, h, h1, h2⟩
theorem Res.at_ {base : Nat} {w : World} {ad : Option Addr} {n cap : Nat} {zs : List Int} {N : Int} (h : Res base w (.slice ad n cap) zs N) : n = zs.length ∧ Arg w (.slice ad n cap) zs ad cap := by
  obtain ⟨ad', cap', A⟩ := h.arg
  have e := A.is
  simp only [Value.slice.injEq] at e
  obtain ⟨rfl, rfl, rfl⟩ := e
  exact ⟨rfl, A⟩
theorem Res.slice {base : Nat} {w : World} {u : Value} {zs : List Int} {N : Int} (h : Res base w u zs N) : ∃ ad cap, u = .slice ad zs.length cap ∧ Res base w (.slice ad zs.length cap) zs N ∧ Arg w (.slice ad zs.length cap) zs ad cap := by
  obtain ⟨ad, cap, A⟩ := h.arg
  have e := A.is
  subst e
  exact ⟨ad, cap, rfl, h, A⟩
theorem ResD.slice {base : Nat} {w : World} {u : Value} {zs : List Int} {N : Int} (h : ResD base w u zs N) : ∃ ad cap, u = .slice ad zs.length cap ∧ ResD base w (.slice ad zs.length cap) zs N ∧ ArgD w (.slice ad zs.length cap) zs ad cap := by
  obtain ⟨ad, cap, A⟩ := h.arg
  have e := A.is
  subst e
  exact ⟨ad, cap, rfl, h, A⟩
theorem Res.mono {base base' : Nat} {w : World} {u : Value} {zs : List Int} {n : Int} (h : Res base w u zs n) (hb : base' ≤ base) : Res base' w u zs n := ⟨h.num.mono hb, h.wf, h.full, h.eq⟩
theorem ResQ.mono {base base' : Nat} {w : World} {v : Value} {x : Rat} {n : Nat} (h : ResQ base w v x n) (hb : base' ≤ base) : ResQ base' w v x n := by
  obtain ⟨zs, ys, ad, bd, ca, cb, rfl, A, B, h⟩ := h
  exact ⟨zs, ys, ad, bd, ca, cb, rfl, A.mono hb, B.mono hb, h⟩
theorem ResQ.arg {base : Nat} {w : World} {v : Value} {x : Rat} {n : Nat} (h : ResQ base w v x n) : ArgQ w v x n := by
  obtain ⟨zs, ys, ad, bd, ca, cb, rfl, A, B, h1, h2⟩ := h
  exact ⟨_, zs, ys, ad, bd, ca, cb, rfl, A.at_.2, B.at_.2, by rw [A.eq, B.eq, ratOf_self], h1, h2⟩
theorem ResQ.plain {base : Nat} {w : World} {v : Value} {x : Rat} {n : Nat} (h : ResQ base w v x n) : PlainQ w v x n := by
  obtain ⟨zs, ys, ad, bd, ca, cb, rfl, A, B, h1, h2⟩ := h
  exact ⟨_, zs, ys, ad, bd, ca, cb, rfl, A.at_.2, B.at_.2, by rw [A.eq, B.eq, ratOf_self], h1, h2, by rw [B.eq]; exact den_pos' x, fun h0 => decide_eq_false (by rw [A.eq] at h0; omega)⟩
/-- block g holds just the cells cs, of type t -/
def Row (w : World) (g : Nat) (t : TypeId) (cs : Array Value) : Prop := w.heap[g]? = some (.cells cs t (0, 0))
theorem Row.new (w : World) (t : TypeId) (cs : Array Value) : Row (w.alloc (.cells cs t)) w.heap.size t cs := heap_alloc_new w _
theorem Row.lt {w : World} {g : Nat} {t : TypeId} {cs : Array Value} (h : Row w g t cs) : g < w.heap.size := lt_of_block h
theorem Row.cell {w : World} {g : Nat} {t : TypeId} {cs : Array Value} (h : Row w g t cs) (i : Nat) : w.cell? ⟨g, i, none⟩ = cs[i]? := cell_of_row w g i cs t (0, 0) h
theorem Row.free {w : World} {g : Nat} {t : TypeId} {cs : Array Value} (h : Row w g t cs) (i : Nat) : w.frozen? ⟨g, i, none⟩ = false := frozen_of_row w g i cs t h
theorem Row.alloc {w : World} {g : Nat} {t : TypeId} {cs : Array Value} (h : Row w g t cs) (o : Obj) : Row (w.alloc o) g t cs := (Below.heap_alloc _ _ _ h.lt).trans h
theorem Row.drew {w : World} {g : Nat} {t : TypeId} {cs : Array Value} (h : Row w g t cs) : Row w.drew g t cs := h
theorem Row.below {w w' : World} {g B : Nat} {t : TypeId} {cs : Array Value} (h : Row w g t cs) (hb : Below B w w') (hg : g < B) : Row w' g t cs := (hb.block g hg).trans h
theorem Row.later {w w' : World} {g : Nat} {t : TypeId} {cs : Array Value} (h : Row w g t cs) (hb : Below w.heap.size w w') : Row w' g t cs := h.below hb h.lt
theorem Row.set {w : World} {g : Nat} {t : TypeId} {cs : Array Value} (h : Row w g t cs) (i : Nat) (u : Value) : Row (w.setCell ⟨g, i, none⟩ u) g t (cs.setIfInBounds i u) := heap_setCell_same w g i cs t u h
theorem Row.far {w : World} {g : Nat} {t : TypeId} {cs : Array Value} (h : Row w g t cs) {p : Addr} (hp : g ≠ p.block) (u : Value) : Row (w.setCell p u) g t cs := (Below.heap_setCell w p u g hp).trans h
theorem Row.two {w : World} {g : Nat} {t : TypeId} {a b : Value} (h : Row w g t #[a, b]) :
    w.cell? ⟨g, 0, none⟩ = some a ∧ w.cell? ⟨g, 1, none⟩ = some b ∧ w.frozen? ⟨g, 0, none⟩ = false ∧ w.frozen? ⟨g, 1, none⟩ = false := ⟨h.cell 0, h.cell 1, h.free 0, h.free 1⟩
theorem Row.three {w : World} {g : Nat} {t : TypeId} {a b c : Value} (h : Row w g t #[a, b, c]) :
    w.cell? ⟨g, 0, none⟩ = some a ∧ w.cell? ⟨g, 1, none⟩ = some b ∧ w.cell? ⟨g, 2, none⟩ = some c ∧ w.frozen? ⟨g, 0, none⟩ = false ∧ w.frozen? ⟨g, 1, none⟩ = false ∧ w.frozen? ⟨g, 2, none⟩ = false :=
  ⟨h.cell 0, h.cell 1, h.cell 2, h.free 0, h.free 1, h.free 2⟩
theorem Row.set2 {w : World} {g : Nat} {t : TypeId} {a b : Value} (h : Row w g t #[a, b]) (x y : Value) : Row ((w.setCell ⟨g, 0, none⟩ x).setCell ⟨g, 1, none⟩ y) g t #[x, y] := (h.set 0 x).set 1 y
theorem Row.set3 {w : World} {g : Nat} {t : TypeId} {a b c : Value} (h : Row w g t #[a, b, c]) (x y z : Value) : Row (((w.setCell ⟨g, 0, none⟩ x).setCell ⟨g, 1, none⟩ y).setCell ⟨g, 2, none⟩ z) g t #[x, y, z] := ((h.set 0 x).set 1 y).set 2 z
theorem below_set2 {B g : Nat} {w w' : World} (h : Below B w w') (hg : B ≤ g) (x y : Value) : Below B w ((w'.setCell ⟨g, 0, none⟩ x).setCell ⟨g, 1, none⟩ y) := (h.setCell hg x).setCell hg y
theorem below_set3 {B g : Nat} {w w' : World} (h : Below B w w') (hg : B ≤ g) (x y z : Value) : Below B w (((w'.setCell ⟨g, 0, none⟩ x).setCell ⟨g, 1, none⟩ y).setCell ⟨g, 2, none⟩ z) := ((h.setCell hg x).setCell hg y).setCell hg z
/-- a result, where only block g has been written to, which lies below what was made -/
theorem Res.kept {base g : Nat} {w w' : World} {u : Value} {zs : List Int} {n : Int} (h : Res base w u zs n) (hk : ∀ k, k ≠ g → w'.heap[k]? = w.heap[k]?) (hg : g < base) : Res base w' u zs n := by
  refine ⟨?_, h.wf, h.full, h.eq⟩
  obtain ⟨h1, h2⟩ := h.num
  refine ⟨h1, ?_⟩
  rcases h2 with h2 | ⟨k, cap, cur, rfl, hg0, hg', hc, hm, hs, ht⟩
  · exact .inl h2
  · exact .inr ⟨k, cap, cur, rfl, hg0, (hk k (by omega)).trans hg', hc, hm, hs, ht⟩
theorem kept3 {g : Nat} {w : World} (x y z : Value) : ∀ k, k ≠ g → (((w.setCell ⟨g, 0, none⟩ x).setCell ⟨g, 1, none⟩ y).setCell ⟨g, 2, none⟩ z).heap[k]? = w.heap[k]? := fun k hk =>
  ((Below.heap_setCell _ _ _ _ hk).trans (Below.heap_setCell _ _ _ _ hk)).trans (Below.heap_setCell _ _ _ _ hk)
theorem kept2 {g : Nat} {w : World} (x y : Value) : ∀ k, k ≠ g → ((w.setCell ⟨g, 0, none⟩ x).setCell ⟨g, 1, none⟩ y).heap[k]? = w.heap[k]? := fun k hk =>
  (Below.heap_setCell _ _ _ _ hk).trans (Below.heap_setCell _ _ _ _ hk)
/-- all blocks of w but g are in w' as they were -/
structure Kept (g : Nat) (w w' : World) : Prop where
  os : w'.os = w.os
  tape : w'.tape = w.tape
  output : w'.output = w.output
  size : w.heap.size ≤ w'.heap.size
  block : ∀ k, k < w.heap.size → k ≠ g → w'.heap[k]? = w.heap[k]?
theorem Kept.refl (g : Nat) (w : World) : Kept g w w := ⟨rfl, rfl, rfl, Nat.le_refl _, fun _ _ _ => rfl⟩
theorem Kept.drew {g : Nat} {a w : World} (h : Kept g a w) : Kept g a w.drew := ⟨h.os, h.tape, h.output, h.size, h.block⟩
theorem Kept.below {g : Nat} {a w w' : World} (h : Kept g a w) (hb : Below w.heap.size w w') : Kept g a w' :=
  ⟨hb.os.trans h.os, hb.tape.trans h.tape, hb.output.trans h.output, Nat.le_trans h.size hb.size, fun k hk hg => (hb.block k (Nat.lt_of_lt_of_le hk h.size)).trans (h.block k hk hg)⟩
theorem Kept.alloc {g : Nat} {a w : World} (h : Kept g a w) (o : Obj) : Kept g a (w.alloc o) := h.below ((Below.refl _ _).alloc (Nat.le_refl _) o)
theorem Kept.set {g : Nat} {a w : World} (h : Kept g a w) (i : Nat) (u : Value) : Kept g a (w.setCell ⟨g, i, none⟩ u) := by
  have hb := (Below.refl 0 w).setCell (Nat.zero_le (⟨g, i, none⟩ : Addr).block) u
  exact ⟨hb.os.trans h.os, hb.tape.trans h.tape, hb.output.trans h.output, Nat.le_trans h.size hb.size, fun k hk hg => (Below.heap_setCell w _ u k hg).trans (h.block k hk hg)⟩
theorem Kept.under {B g : Nat} {a w w' : World} (k : Kept g w w') (h : Below B a w) (hB : B ≤ w.heap.size) (hg : B ≤ g) : Below B a w' :=
  ⟨k.os.trans h.os, k.tape.trans h.tape, k.output.trans h.output, Nat.le_trans h.size k.size, fun j hj => (k.block j (by omega) (by omega)).trans (h.block j hj)⟩
theorem Row.kept {w w' : World} {g r : Nat} {t : TypeId} {cs : Array Value} (h : Row w g t cs) (k : Kept r w w') (hg : g ≠ r) : Row w' g t cs := (k.block g h.lt hg).trans h
/-- cells that are neither limbs nor digits -/
def NoInts (cs : Array Value) : Prop := ∀ (i : Nat) (k : IntKind) (x : Int), cs[i]? ≠ some (Value.int k x)
theorem noInts2 (p : Bool) (ad : Option Addr) (n cap : Nat) : NoInts #[.bool p, .slice ad n cap] := by
  intro i k x
  match i with
  | 0 => simp
  | 1 => simp
  | _ + 2 => simp
theorem noInts3 (p : Bool) (ad bd : Option Addr) (n cap m cbp : Nat) : NoInts #[.bool p, .slice ad n cap, .slice bd m cbp] := by
  intro i k x
  match i with
  | 0 => simp
  | 1 => simp
  | 2 => simp
  | _ + 3 => simp
theorem Lim.far {w w' : World} {ad : Option Addr} {xs : List Int} {g : Nat} {t : TypeId} {cs : Array Value} (h : Lim w ad xs) (R : Row w g t cs) (hn : NoInts cs) (hk : ∀ k, k ≠ g → w'.heap[k]? = w.heap[k]?) : Lim w' ad xs := by
  rcases h with rfl | ⟨b, off, rfl, hc⟩
  · exact .inl rfl
  · refine .inr ⟨b, off, rfl, fun i hi => ?_⟩
    by_cases hb : b = g
    · subst hb
      have h1 := hc i hi
      rw [R.cell] at h1
      exact absurd h1 (hn _ _ _)
    · rw [World.cell?_of_block (hk b hb)]
      exact hc i hi
theorem LimI.far {w w' : World} {ad : Option Addr} {xs : List Int} {g : Nat} {t : TypeId} {cs : Array Value} (h : LimI w ad xs) (R : Row w g t cs) (hn : NoInts cs) (hk : ∀ k, k ≠ g → w'.heap[k]? = w.heap[k]?) : LimI w' ad xs := by
  rcases h with rfl | ⟨b, off, rfl, hc⟩
  · exact .inl rfl
  · refine .inr ⟨b, off, rfl, fun i hi => ?_⟩
    by_cases hb : b = g
    · subst hb
      have h1 := hc i hi
      rw [R.cell] at h1
      exact absurd h1 (hn _ _ _)
    · rw [World.cell?_of_block (hk b hb)]
      exact hc i hi
theorem Arg.far {w w' : World} {u : Value} {ad : Option Addr} {xs : List Int} {cap g : Nat} {t : TypeId} {cs : Array Value} (h : Arg w u xs ad cap) (R : Row w g t cs) (hn : NoInts cs) (hk : ∀ k, k ≠ g → w'.heap[k]? = w.heap[k]?) : Arg w' u xs ad cap :=
  ⟨h.is, h.lim.far R hn hk, h.le, h.wf⟩
theorem ArgD.far {w w' : World} {u : Value} {ad : Option Addr} {xs : List Int} {cap g : Nat} {t : TypeId} {cs : Array Value} (h : ArgD w u xs ad cap) (R : Row w g t cs) (hn : NoInts cs) (hk : ∀ k, k ≠ g → w'.heap[k]? = w.heap[k]?) : ArgD w' u xs ad cap :=
  ⟨h.is, h.lim.far R hn hk, h.le, h.wf, h.full⟩
theorem Res.far {base : Nat} {w w' : World} {u : Value} {zs : List Int} {n : Int} {g : Nat} {t : TypeId} {cs : Array Value} (h : Res base w u zs n) (R : Row w g t cs) (ht : t ≠ 64) (hk : ∀ k, k ≠ g → w'.heap[k]? = w.heap[k]?) : Res base w' u zs n := by
  refine ⟨?_, h.wf, h.full, h.eq⟩
  obtain ⟨h1, h2⟩ := h.num
  refine ⟨h1, ?_⟩
  rcases h2 with h2 | ⟨k, cap, cur, rfl, hg0, hg', hc, hm, hs, ht'⟩
  · exact .inl h2
  · refine .inr ⟨k, cap, cur, rfl, hg0, (hk k ?_).trans hg', hc, hm, hs, ht'⟩
    rintro rfl
    have e := hg'.symm.trans R
    injection e with e
    injection e with _ e
    exact ht e.symm
theorem ArgQ.far {w w' : World} {v : Value} {x : Rat} {n : Nat} {g : Nat} {t : TypeId} {cs : Array Value} (h : ArgQ w v x n) (R : Row w g t cs) (hn : NoInts cs) (hk : ∀ k, k ≠ g → w'.heap[k]? = w.heap[k]?) : ArgQ w' v x n := by
  obtain ⟨neg, xs, ys, ad, bd, ca, cb, rfl, A, B, h⟩ := h
  exact ⟨neg, xs, ys, ad, bd, ca, cb, rfl, A.far R hn hk, B.far R hn hk, h⟩
theorem PlainQ.far {w w' : World} {v : Value} {x : Rat} {n : Nat} {g : Nat} {t : TypeId} {cs : Array Value} (h : PlainQ w v x n) (R : Row w g t cs) (hn : NoInts cs) (hk : ∀ k, k ≠ g → w'.heap[k]? = w.heap[k]?) : PlainQ w' v x n := by
  obtain ⟨neg, xs, ys, ad, bd, ca, cb, rfl, A, B, h⟩ := h
  exact ⟨neg, xs, ys, ad, bd, ca, cb, rfl, A.far R hn hk, B.far R hn hk, h⟩
theorem SgnQ.far {w w' : World} {v : Value} {X : Int} {n : Nat} {g : Nat} {t : TypeId} {cs : Array Value} (h : SgnQ w v X n) (R : Row w g t cs) (hn : NoInts cs) (hk : ∀ k, k ≠ g → w'.heap[k]? = w.heap[k]?) : SgnQ w' v X n := by
  obtain ⟨neg, xs, ad, ca, rfl, A, h⟩ := h
  exact ⟨neg, xs, ad, ca, rfl, A.far R hn hk, h⟩
theorem ResQ.far {base : Nat} {w w' : World} {v : Value} {x : Rat} {n : Nat} {g : Nat} {t : TypeId} {cs : Array Value} (h : ResQ base w v x n) (R : Row w g t cs) (ht : t ≠ 64) (hk : ∀ k, k ≠ g → w'.heap[k]? = w.heap[k]?) : ResQ base w' v x n := by
  obtain ⟨zs, ys, ad, bd, ca, cb, rfl, A, B, h⟩ := h
  exact ⟨zs, ys, ad, bd, ca, cb, rfl, A.far R ht hk, B.far R ht hk, h⟩
theorem ArgR.far {w w' : World} {v : Value} {x : Rat} {n : Nat} {g : Nat} {t : TypeId} {cs : Array Value} (h : ArgR w v x n) (R : Row w g t cs) (hn : NoInts cs) (hk : ∀ k, k ≠ g → w'.heap[k]? = w.heap[k]?) : ArgR w' v x n := by
  obtain ⟨zs, ys, ad, bd, ca, cb, rfl, A, B, h⟩ := h
  exact ⟨zs, ys, ad, bd, ca, cb, rfl, A.far R hn hk, B.far R hn hk, h⟩
theorem wrap_abs (a : Nat) (h : a ≤ 9223372036854775808) : IntKind.u64.wrap (wrap64 (a : Int)) = (a : Int) := by
  unfold wrap64
  simp only [IntKind.wrap, IntKind.signed, IntKind.bits]
  simp
  omega
theorem wrap_abs' (a : Nat) (h : a ≤ 9223372036854775808) : IntKind.u64.wrap (IntKind.i64.wrap (a : Int)) = (a : Int) := by
  simp only [IntKind.wrap, IntKind.signed, IntKind.bits]
  simp
  omega
set_option maxHeartbeats 1000000 in
theorem size_any (n : Int) (w : World) (h0 : -9223372036854775808 ≤ n) (h1 : n ≤ 9223372036854775807) :
    Calls Tryz.prog 139 #[.int .i64 n] w fun e w' => ∃ r zs, e = .returned r ∧ Res w.heap.size w' r zs (n.natAbs : Int) ∧ zs.length ≤ 2 ∧ Below w.heap.size w w' := by
  by_cases hn : n < 0
  · have hd : decide (n < 0) = true := decide_eq_true hn
    obtain ⟨a, ha⟩ : ∃ a, n.natAbs = a := ⟨_, rfl⟩
    have ha2 : n = -(a : Int) := by omega
    rw [ha]
    subst ha2
    have hc : IntKind.u64.wrap (wrap64 (a : Int)) = (a : Int) := wrap_abs a (by omega)
    have hc2 : IntKind.u64.wrap (IntKind.i64.wrap (a : Int)) = (a : Int) := wrap_abs' a (by omega)
    clear ha
    go_enter Tryz.func139, Tryz.ntmps139
    go_wp2_with fail
    refine (ofN_any (a : Int) _ (by omega) (by omega)).mono ?_
    rintro e w' ⟨r, z, rfl, q, nz, hb⟩
    go_wp2_with fail
    go_ret
    exact ⟨r, z, rfl, q, nz, hb⟩
  · have hd : decide (n < 0) = false := decide_eq_false hn
    obtain ⟨a, ha⟩ : ∃ a, n.natAbs = a := ⟨_, rfl⟩
    have ha2 : n = (a : Int) := by omega
    rw [ha]
    subst ha2
    have hc : IntKind.u64.wrap (a : Int) = (a : Int) := wrap_u64 (by omega) (by omega)
    clear ha
    go_enter Tryz.func139, Tryz.ntmps139
    go_wp2_with fail
    refine (ofN_any (a : Int) _ (by omega) (by omega)).mono ?_
    rintro e w' ⟨r, z, rfl, q, nz, hb⟩
    go_wp2_with fail
    go_ret
    exact ⟨r, z, rfl, q, nz, hb⟩
end
section
open Go.RowKit
set_option linter.unusedVariables false
set_option linter.unusedSimpArgs false
/-- a whole number -/
def intQ (n : Int) : Rat := ratOf (decide (n < 0)) (n.natAbs : Int) 1
theorem intQ_parts (n : Int) : decide ((intQ n).num < 0) = decide (n < 0) ∧ ((intQ n).num.natAbs : Int) = (n.natAbs : Int) ∧ ((intQ n).den : Int) = 1 := by
  unfold intQ
  have hg : (Int.gcd (n.natAbs : Int) 1 : Int) = 1 := by simp
  refine ⟨ratOf_neg (by omega) (by omega) fun h => decide_eq_false (by omega), ?_, ?_⟩
  · rw [ratOf_abs (by omega) (by omega), hg, Int.ediv_one]
  · rw [ratOf_den (by omega), hg]; rfl
theorem intQ_zero : intQ 0 = 0 := by unfold intQ; exact ratOf_zero_left _ _
set_option maxHeartbeats 1000000 in
theorem int_any (n : Int) (w : World) (h0 : -9223372036854775808 ≤ n) (h1 : n ≤ 9223372036854775807) :
    Calls Tryz.prog 105 #[.int .i64 n] w fun e w' => ∃ r, e = .returned r ∧ ResQ w.heap.size w' r (intQ n) 2 ∧ Below w.heap.size w w' := by
  obtain ⟨p1, p2, p3⟩ := intQ_parts n
  obtain ⟨d, hd⟩ : ∃ d, decide (n < 0) = d := ⟨_, rfl⟩
  rw [hd] at p1
  have P1 := Lib.hid p1
  have P2 := Lib.hid p2
  have P3 := Lib.hid p3
  clear p1 p2 p3
  have R := Row.new w 51 #[.bool false, .slice none 0 0, .slice none 0 0]
  have hB := (Below.refl w.heap.size w).alloc (Nat.le_refl _) (.cells #[.bool false, .slice none 0 0, .slice none 0 0] 51)
  go_enter Tryz.func105, Tryz.ntmps105
  go_wp2_with fail
  refine (size_any n _ h0 h1).mono ?_
  rintro e w1 ⟨r1, z1, rfl, q1, n1, hb1⟩
  obtain ⟨ad1, c1, rfl, q1, A1⟩ := q1.slice
  replace R := R.later hb1
  have hs0 : w.heap.size + 1 ≤ w1.heap.size := by have := hb1.size; simpa using this
  replace hB := hB.trans (hb1.mono (by simp))
  go_wp2_with fail
  refine (ofN_any 1 _ (by omega) (by omega)).mono ?_
  rintro e w2 ⟨r2, z2, rfl, q2, n2, hb2⟩
  obtain ⟨ad2, c2, rfl, q2, A2⟩ := q2.slice
  replace R := R.later hb2
  replace hB := hB.trans (hb2.mono (by omega))
  replace q1 := q1.later hb2
  obtain ⟨c0, c1', c2', f0, f1, f2⟩ := R.three
  go_wp2_with fail
  refine bodyPost_ret (v := .agg #[.bool d, .slice ad1 z1.length c1, .slice ad2 z2.length c2]) (by simp [results, Tryz.results105, go_sem, c0, c1', c2']) rfl ⟨_, rfl, ?_, below_set3 hB (Nat.le_refl _) _ _ _⟩
  refine ⟨z1, z2, ad1, ad2, c1, c2, by rw [P1.out], ?_, ?_, n1, n2⟩
  · rw [P2.out]
    exact (q1.kept (kept3 _ _ _) (by simp)).mono (by simp)
  · rw [P3.out]
    exact (q2.kept (kept3 _ _ _) (by omega)).mono (by omega)
end
section
open Go.RowKit
set_option linter.unusedVariables false
set_option linter.unusedSimpArgs false
/-- the product of the first k of two numbers -/
def prodK (X Y : Int) : Nat → Int
  | 0 => 1
  | 1 => X
  | _ => X * Y
set_option maxRecDepth 100000 in
set_option maxHeartbeats 2000000 in
theorem product_any {xs ys : List Int} {ad bd : Option Addr} {ca cb g m : Nat} {w : World} (R : Row w g 49 #[.slice ad xs.length ca, .slice bd ys.length cb])
    (A : Arg w (.slice ad xs.length ca) xs ad ca) (B : Arg w (.slice bd ys.length cb) ys bd cb) (hx : xs.length ≤ m) (hy : ys.length ≤ m) (hm : m ≤ 1073741824) :
    Calls Tryz.prog 103 #[.slice (some ⟨g, 0, none⟩) 2 2] w fun e w' => ∃ r zs, e = .returned r ∧ Res w.heap.size w' r zs (val xs * val ys) ∧ zs.length ≤ 2 * m + 2 ∧ Below w.heap.size w w' := by
  go_enter Tryz.func103, Tryz.ntmps103
  go_wp2_with fail
  refine (ofN_any 1 _ (by omega) (by omega)).mono ?_
  rintro e w0 ⟨r0, z0, rfl, q0, n0, hb0⟩
  go_wp2_with fail
  go_loopw [3, 5, 9] (fun p _ i wr => ∃ (k : Nat) (q : Value) (us : List Int), q = p ∧ i = .int .i64 k ∧ k ≤ 2 ∧ Res w.heap.size wr q us (prodK (val xs) (val ys) k) ∧ us.length ≤ k * m + 2 ∧ Below w.heap.size w wr) (fun _ _ i _ => 2 - (intOf i).toNat)
  case atStart => exact ⟨0, _, z0, rfl, rfl, by omega, q0, by omega, hb0⟩
  case round =>
    obtain ⟨k, q, us, rfl, rfl, hk, hq, hl, hb⟩ := hrel
    have hsz := hb.size
    clear q0 n0 hb0
    have R' := R.below hb R.lt
    obtain ⟨c0, c1, _, _⟩ := R'.two
    have A' := A.later hb
    have B' := B.later hb
    obtain ⟨adq, cq, rfl, hq, AQ⟩ := hq.slice
    match k, hk, hl, hq with
    | 0, _, hl, hq =>
      have hl0 : us.length ≤ 2 := by omega
      go_wp2_with fail
      refine (mul_res AQ A' (by omega) (by omega)).mono ?_
      rintro e w2 ⟨r2, z2, rfl, q2, n2, hb2⟩
      have hv : val us * val xs = prodK (val xs) (val ys) 1 := by rw [hq.eq]; show 1 * val xs = val xs; omega
      have HV := Lib.hid hv
      clear hv
      go_wp2_with fail
      go_roundw
      case rel => exact ⟨1, r2, z2, rfl, rfl, by omega, ⟨q2.num.mono hsz, q2.wf, q2.full, q2.eq.trans HV.out⟩, by omega, hb.trans (hb2.mono hsz)⟩
      case measure => simp [intOf]
    | 1, _, hl, hq =>
      go_wp2_with fail
      refine (mul_res AQ B' (by omega) (by omega)).mono ?_
      rintro e w2 ⟨r2, z2, rfl, q2, n2, hb2⟩
      have hv : val us * val ys = prodK (val xs) (val ys) 2 := by rw [hq.eq]; rfl
      have HV := Lib.hid hv
      clear hv
      go_wp2_with fail
      go_roundw
      case rel => exact ⟨2, r2, z2, rfl, rfl, by omega, ⟨q2.num.mono hsz, q2.wf, q2.full, q2.eq.trans HV.out⟩, by omega, hb.trans (hb2.mono hsz)⟩
      case measure => simp [intOf]
    | 2, _, hl, hq =>
      go_wp2_with fail
      go_ret
      exact ⟨_, us, rfl, hq, by omega, hb⟩
set_option maxRecDepth 100000 in
set_option maxHeartbeats 2000000 in
theorem over_any {m n2 n3 c1 c2 c3 c4 : Nat} {w : World} {neg neg' : Bool} {xs ys : List Int} {a1 a2 a3 a4 : Option Addr}
    (A : Arg w (.slice a1 xs.length c1) xs a1 c1) (B : Arg w (.slice a4 ys.length c4) ys a4 c4) (hx : xs.length ≤ m) (hy : ys.length ≤ m) (hm : m ≤ 1073741824) :
    Calls Tryz.prog 96 #[.agg #[.bool neg, .slice a1 xs.length c1, .slice a2 n2 c2], .agg #[.bool neg', .slice a3 n3 c3, .slice a4 ys.length c4]] w fun e w' =>
      ∃ r, e = .returned r ∧ SgnQ w' r (sgn neg (val xs * val ys)) (2 * m + 2) ∧ Below w.heap.size w w' := by
  obtain ⟨W, hW⟩ : ∃ W, (((w.alloc (.cells #[.bool neg, .slice a1 xs.length c1, .slice a2 n2 c2] 51)).alloc (.cells #[.bool neg', .slice a3 n3 c3, .slice a4 ys.length c4] 51)).alloc (.cells #[.bool false, .slice none 0 0] 114)) = W := ⟨_, rfl⟩
  have R0 : Row W (w.heap.size) 51 #[.bool neg, .slice a1 xs.length c1, .slice a2 n2 c2] := by rw [← hW]; exact (((Row.new _ _ _).alloc _).alloc _)
  have R1 : Row W (w.heap.size + 1) 51 #[.bool neg', .slice a3 n3 c3, .slice a4 ys.length c4] := by rw [← hW]; have h := (Row.new (w.alloc (.cells #[.bool neg, .slice a1 xs.length c1, .slice a2 n2 c2] 51)) 51 #[.bool neg', .slice a3 n3 c3, .slice a4 ys.length c4]); simp only [World.size_alloc] at h; exact (h.alloc _)
  have R2 : Row W (w.heap.size + 1 + 1) 114 #[.bool false, .slice none 0 0] := by rw [← hW]; have h := (Row.new ((w.alloc (.cells #[.bool neg, .slice a1 xs.length c1, .slice a2 n2 c2] 51)).alloc (.cells #[.bool neg', .slice a3 n3 c3, .slice a4 ys.length c4] 51)) 114 #[.bool false, .slice none 0 0]); simp only [World.size_alloc] at h; exact h
  have hBW : Below w.heap.size w W := by rw [← hW]; exact ((((Below.refl _ _).alloc (by (try simp) <;> omega) _).alloc (by (try simp) <;> omega) _).alloc (by (try simp) <;> omega) _)
  have hsW : w.heap.size + 1 + 1 + 1 ≤ W.heap.size := by rw [← hW]; simp
  have mkS : ∀ X, Below (w.heap.size + 1 + 1) W X → X.cell? ⟨w.heap.size, 0, none⟩ = some (.bool neg) ∧ X.cell? ⟨w.heap.size, 1, none⟩ = some (.slice a1 xs.length c1) ∧ X.cell? ⟨w.heap.size + 1, 2, none⟩ = some (.slice a4 ys.length c4) ∧ Below w.heap.size w X ∧ Below (w.heap.size + 1 + 1) W X := fun X h => ⟨(R0.below h (by omega)).cell 0, (R0.below h (by omega)).cell 1, (R1.below h (by omega)).cell 2, hBW.trans (h.mono (by omega)), h⟩
  go_enter Tryz.func96, Tryz.ntmps96
  go_wp2_with fail
  clear hW
  go_region_held3 (fun X => X.cell? ⟨w.heap.size, 0, none⟩ = some (.bool neg) ∧ X.cell? ⟨w.heap.size, 1, none⟩ = some (.slice a1 xs.length c1) ∧ X.cell? ⟨w.heap.size + 1, 2, none⟩ = some (.slice a4 ys.length c4) ∧ Below w.heap.size w X ∧ Below (w.heap.size + 1 + 1) W X)
    (((refine mkS _ ?_; (repeat' (first | exact Below.refl _ _ | refine Below.drew ?_ | refine Below.alloc ?_ (by (try simp) <;> omega) _ | refine below_set3 ?_ (by (try simp) <;> omega) _ _ _ | refine below_set2 ?_ (by (try simp) <;> omega) _ _ | refine Below.setCell ?_ (by (try simp) <;> omega) _ | refine Below.trans ?_ (Below.mono (by assumption) (by (try simp) <;> omega)))))))
    ((go_at_call 103; refine (product_any (by first | exact Row.new _ _ _ | exact (Row.new _ _ _).drew) (A.later (by (repeat' (first | exact Below.refl _ _ | exact hBW | refine Below.drew ?_ | refine Below.alloc ?_ (by (try simp) <;> omega) _ | refine below_set3 ?_ (by (try simp) <;> omega) _ _ _ | refine below_set2 ?_ (by (try simp) <;> omega) _ _ | refine Below.setCell ?_ (by (try simp) <;> omega) _ | refine Below.trans ?_ (Below.mono (by assumption) (by (try simp) <;> omega)))))) (B.later (by (repeat' (first | exact Below.refl _ _ | exact hBW | refine Below.drew ?_ | refine Below.alloc ?_ (by (try simp) <;> omega) _ | refine below_set3 ?_ (by (try simp) <;> omega) _ _ _ | refine below_set2 ?_ (by (try simp) <;> omega) _ _ | refine Below.setCell ?_ (by (try simp) <;> omega) _ | refine Below.trans ?_ (Below.mono (by assumption) (by (try simp) <;> omega)))))) hx hy hm).mono ?_; rintro e w2 ⟨r2, z2, rfl, q2, l2, hb2⟩; have hs2 := hb2.size; simp at hs2; obtain ⟨ad2, cp2, rfl, q2, A2⟩ := q2.slice; have R2' := R2.later (show Below W.heap.size W w2 by (repeat' (first | exact Below.refl _ _ | refine Below.drew ?_ | refine Below.alloc ?_ (by (try simp) <;> omega) _ | refine below_set3 ?_ (by (try simp) <;> omega) _ _ _ | refine below_set2 ?_ (by (try simp) <;> omega) _ _ | refine Below.setCell ?_ (by (try simp) <;> omega) _ | refine Below.trans ?_ (Below.mono (by assumption) (by (try simp) <;> omega))))); obtain ⟨u0, u1, g0, g1⟩ := R2'.two))
  go_wp2_with fail
  refine bodyPost_ret (v := .agg #[.bool neg, .slice ad2 z2.length cp2]) (by simp [results, Tryz.results96, go_sem, u0, u1]) rfl ⟨_, rfl, ?_, ?_⟩
  · exact ⟨neg, z2, ad2, cp2, rfl, (q2.kept (kept2 _ _) (by simp; omega)).at_.2, by rw [q2.eq], l2⟩
  · (repeat' (first | exact Below.refl _ _ | exact hBW | refine Below.drew ?_ | refine Below.alloc ?_ (by (try simp) <;> omega) _ | refine below_set3 ?_ (by (try simp) <;> omega) _ _ _ | refine below_set2 ?_ (by (try simp) <;> omega) _ _ | refine Below.setCell ?_ (by (try simp) <;> omega) _ | refine Below.trans ?_ (Below.mono (by assumption) (by (try simp) <;> omega))))
end
section
open Go.RowKit
set_option linter.unusedVariables false
set_option linter.unusedSimpArgs false
theorem sgn_add (p : Bool) (X Y : Int) : sgn p (X + Y) = sgn p X + sgn p Y := by cases p <;> simp [sgn] <;> omega
theorem sgn_sub {p q : Bool} (h : p ≠ q) (X Y : Int) : sgn p (X - Y) = sgn p X + sgn q Y := by cases p <;> cases q <;> simp_all [sgn] <;> omega
theorem cmp_geN {u v : Value} {xs ys : List Int} {a b : Option Addr} {capa capb : Nat} {w : World} (h1 : Arg w u xs a capa) (h2 : Arg w v ys b capb) (hx : xs.length ≤ 35184372088832) (hy : ys.length ≤ 35184372088832) (h : val ys ≤ val xs) :
    Calls Tryz.prog 132 #[u, v] w fun e w' => ∃ r : Int, e = .returned (.int .i64 r) ∧ decide (r < 0) = false ∧ Below w.heap.size w w' := by
  refine (cmp_res h1 h2 hx hy).mono fun e w' ⟨he, hb⟩ => ⟨_, he, decide_eq_false ?_, hb⟩
  unfold sign
  rw [if_neg (by omega)]
  split <;> omega
theorem sgn_not (q : Bool) (Y : Int) : sgn (!q) Y = -sgn q Y := by cases q <;> simp [sgn]
set_option maxRecDepth 100000 in
set_option maxHeartbeats 4000000 in
theorem plus_any {n : Nat} {w : World} {u v : Value} {X Y : Int} (hu : SgnQ w u X n) (hv : SgnQ w v Y n) (hn : n ≤ 2147483648) :
    Calls Tryz.prog 97 #[u, v] w fun e w' => ∃ r, e = .returned r ∧ SgnQ w' r (X + Y) (n + 1) ∧ Below w.heap.size w w' := by
  obtain ⟨p, xs, a1, c1, rfl, A, hX, hx⟩ := hu
  obtain ⟨q, ys, a2, c2, rfl, B, hY, hy⟩ := hv
  obtain ⟨W, hW⟩ : ∃ W, (((w.alloc (.cells #[.bool p, .slice a1 xs.length c1] 114)).alloc (.cells #[.bool q, .slice a2 ys.length c2] 114)).alloc (.cells #[.bool false, .slice none 0 0] 114)) = W := ⟨_, rfl⟩
  have R0 : Row W (w.heap.size) 114 #[.bool p, .slice a1 xs.length c1] := by rw [← hW]; exact (((Row.new _ _ _).alloc _).alloc _)
  have R1 : Row W (w.heap.size + 1) 114 #[.bool q, .slice a2 ys.length c2] := by rw [← hW]; have h := (Row.new (w.alloc (.cells #[.bool p, .slice a1 xs.length c1] 114)) 114 #[.bool q, .slice a2 ys.length c2]); simp only [World.size_alloc] at h; exact (h.alloc _)
  have R2 : Row W (w.heap.size + 1 + 1) 114 #[.bool false, .slice none 0 0] := by rw [← hW]; have h := (Row.new ((w.alloc (.cells #[.bool p, .slice a1 xs.length c1] 114)).alloc (.cells #[.bool q, .slice a2 ys.length c2] 114)) 114 #[.bool false, .slice none 0 0]); simp only [World.size_alloc] at h; exact h
  have hBW : Below w.heap.size w W := by rw [← hW]; exact ((((Below.refl _ _).alloc (by (try simp) <;> omega) _).alloc (by (try simp) <;> omega) _).alloc (by (try simp) <;> omega) _)
  have hsW : w.heap.size + 1 + 1 + 1 ≤ W.heap.size := by rw [← hW]; simp
  by_cases hpq : p = q
  · subst hpq
    have hfin : sgn p (val xs + val ys) = X + Y := by rw [sgn_add, hX, hY]
    have HF := Lib.hid hfin
    clear hX hY hfin
    have mkS : ∀ X, Below (w.heap.size + 1 + 1) W X → X.cell? ⟨w.heap.size, 0, none⟩ = some (.bool p) ∧ X.cell? ⟨w.heap.size, 1, none⟩ = some (.slice a1 xs.length c1) ∧ X.cell? ⟨w.heap.size + 1, 1, none⟩ = some (.slice a2 ys.length c2) ∧ Below w.heap.size w X ∧ Below (w.heap.size + 1 + 1) W X := fun X h => ⟨(R0.below h (by omega)).cell 0, (R0.below h (by omega)).cell 1, (R1.below h (by omega)).cell 1, hBW.trans (h.mono (by omega)), h⟩
    obtain ⟨e0, e1, _, _⟩ := R0.two
    obtain ⟨o0, o1, _, _⟩ := R1.two
    have hbb : (p == p) = true := by simp
    go_enter Tryz.func97, Tryz.ntmps97
    go_wp2_with fail
    clear hW e0 e1 o0 o1
    go_region_held3 (fun X => X.cell? ⟨w.heap.size, 0, none⟩ = some (.bool p) ∧ X.cell? ⟨w.heap.size, 1, none⟩ = some (.slice a1 xs.length c1) ∧ X.cell? ⟨w.heap.size + 1, 1, none⟩ = some (.slice a2 ys.length c2) ∧ Below w.heap.size w X ∧ Below (w.heap.size + 1 + 1) W X)
      (((refine mkS _ ?_; (repeat' (first | exact Below.refl _ _ | refine Below.drew ?_ | refine Below.alloc ?_ (by (try simp) <;> omega) _ | refine below_set3 ?_ (by (try simp) <;> omega) _ _ _ | refine below_set2 ?_ (by (try simp) <;> omega) _ _ | refine Below.setCell ?_ (by (try simp) <;> omega) _ | refine Below.trans ?_ (Below.mono (by assumption) (by (try simp) <;> omega)))))))
      ((go_at_call 131; refine (add_res (A.later (by (repeat' (first | exact Below.refl _ _ | exact hBW | refine Below.drew ?_ | refine Below.alloc ?_ (by (try simp) <;> omega) _ | refine below_set3 ?_ (by (try simp) <;> omega) _ _ _ | refine below_set2 ?_ (by (try simp) <;> omega) _ _ | refine Below.setCell ?_ (by (try simp) <;> omega) _ | refine Below.trans ?_ (Below.mono (by assumption) (by (try simp) <;> omega)))))) (B.later (by (repeat' (first | exact Below.refl _ _ | exact hBW | refine Below.drew ?_ | refine Below.alloc ?_ (by (try simp) <;> omega) _ | refine below_set3 ?_ (by (try simp) <;> omega) _ _ _ | refine below_set2 ?_ (by (try simp) <;> omega) _ _ | refine Below.setCell ?_ (by (try simp) <;> omega) _ | refine Below.trans ?_ (Below.mono (by assumption) (by (try simp) <;> omega)))))) (by omega) (by omega)).mono ?_; rintro e w2 ⟨r2, z2, rfl, q2, l2, hb2⟩; have hs2 := hb2.size; simp at hs2; obtain ⟨ad2, cp2, rfl, q2, A2⟩ := q2.slice; have R2' := R2.later (show Below W.heap.size W w2 by (repeat' (first | exact Below.refl _ _ | refine Below.drew ?_ | refine Below.alloc ?_ (by (try simp) <;> omega) _ | refine below_set3 ?_ (by (try simp) <;> omega) _ _ _ | refine below_set2 ?_ (by (try simp) <;> omega) _ _ | refine Below.setCell ?_ (by (try simp) <;> omega) _ | refine Below.trans ?_ (Below.mono (by assumption) (by (try simp) <;> omega))))); obtain ⟨u0, u1, g0, g1⟩ := R2'.two))
    go_wp2_with fail
    refine bodyPost_ret (v := .agg #[.bool p, .slice ad2 z2.length cp2]) (by simp [results, Tryz.results97, go_sem, u0, u1]) rfl ⟨_, rfl, ?_, ?_⟩
    · exact ⟨p, z2, ad2, cp2, rfl, (q2.kept (kept2 _ _) (by simp; omega)).at_.2, by rw [q2.eq, HF.out], by omega⟩
    · (repeat' (first | exact Below.refl _ _ | exact hBW | refine Below.drew ?_ | refine Below.alloc ?_ (by (try simp) <;> omega) _ | refine below_set3 ?_ (by (try simp) <;> omega) _ _ _ | refine below_set2 ?_ (by (try simp) <;> omega) _ _ | refine Below.setCell ?_ (by (try simp) <;> omega) _ | refine Below.trans ?_ (Below.mono (by assumption) (by (try simp) <;> omega))))
  · have hbb : (p == q) = false := by simpa using hpq
    have A' := A.later hBW
    have B' := B.later hBW
    obtain ⟨e0, e1, h0, h1⟩ := R0.two
    obtain ⟨o0, o1, i0, i1⟩ := R1.two
    by_cases hlt : val xs < val ys
    · have hfin : sgn q (val ys - val xs) = X + Y := by rw [sgn_sub (fun h => hpq h.symm), hX, hY, Int.add_comm]
      have HF := Lib.hid hfin
      clear hX hY hfin
      go_enter Tryz.func97, Tryz.ntmps97
      go_wp2_with fail
      refine (cmp_lt A' B' (by omega) (by omega) hlt).mono ?_
      rintro e w1 ⟨rfl, hb1⟩
      have hs1 := hb1.size
      have R0' := R0.later hb1
      have R1' := R1.later hb1
      have R2' := R2.later hb1
      have A1 := A'.later hb1
      have B1 := B'.later hb1
      clear e0 e1 h0 h1 o0 o1 i0 i1 hW R0 R1 R2 A' B'
      have hBW1 := hBW.trans (hb1.mono (by omega))
      obtain ⟨e0, e1, h0, h1⟩ := R0'.two
      obtain ⟨o0, o1, i0, i1⟩ := R1'.two
      obtain ⟨V, hV⟩ : ∃ V, (((w1.setCell ⟨w.heap.size, 0, none⟩ (.bool q)).setCell ⟨w.heap.size, 1, none⟩ (.slice a2 ys.length c2)).setCell ⟨w.heap.size + 1, 0, none⟩ (.bool p)).setCell ⟨w.heap.size + 1, 1, none⟩ (.slice a1 xs.length c1) = V := ⟨_, rfl⟩
      have hBV : Below w.heap.size w V := by rw [← hV]; exact below_set2 (below_set2 hBW1 (by omega) _ _) (by omega) _ _
      have hsV : V.heap.size = w1.heap.size := by rw [← hV]; simp
      have Q0 : Row V (w.heap.size) 114 #[.bool q, .slice a2 ys.length c2] := by rw [← hV]; exact ((R0'.set2 _ _).far (by simp <;> omega) _).far (by simp <;> omega) _
      have Q1 : Row V (w.heap.size + 1) 114 #[.bool p, .slice a1 xs.length c1] := by rw [← hV]; exact ((R1'.far (by simp <;> omega) _).far (by simp <;> omega) _).set2 _ _
      have Q2 : Row V (w.heap.size + 1 + 1) 114 #[.bool false, .slice none 0 0] := by rw [← hV]; exact (((R2'.far (by simp <;> omega) _).far (by simp <;> omega) _).far (by simp <;> omega) _).far (by simp <;> omega) _
      have AV := A.later hBV
      have BV := B.later hBV
      obtain ⟨j0, j1, _, _⟩ := Q0.two
      obtain ⟨k0, k1, _, _⟩ := Q1.two
      go_wp2_with fail
      refine (sub_res BV AV (by omega) (by omega) (by omega)).mono ?_
      rintro e w2 ⟨r2, z2, rfl, q2, l2, hb2⟩
      obtain ⟨ad2, cp2, rfl, q2, A2⟩ := q2.slice
      have hs2 := hb2.size
      clear e0 e1 h0 h1 o0 o1 i0 i1 j0 j1 k0 k1 hV
      obtain ⟨j0, j1, _, _⟩ := (Q0.later hb2).two
      obtain ⟨u0, u1, g0, g1⟩ := (Q2.later hb2).two
      go_wp2_with fail
      refine bodyPost_ret (v := .agg #[.bool q, .slice ad2 z2.length cp2]) (by simp [results, Tryz.results97, go_sem, u0, u1]) rfl ⟨_, rfl, ?_, ?_⟩
      · exact ⟨q, z2, ad2, cp2, rfl, (q2.kept (kept2 _ _) (by omega)).at_.2, by rw [q2.eq, HF.out], by omega⟩
      · exact below_set2 (hBV.trans (hb2.mono (by omega))) (by omega) _ _
    · have hfin : sgn p (val xs - val ys) = X + Y := by rw [sgn_sub hpq, hX, hY]
      have HF := Lib.hid hfin
      clear hX hY hfin
      go_enter Tryz.func97, Tryz.ntmps97
      go_wp2_with fail
      refine (cmp_geN A' B' (by omega) (by omega) (by omega)).mono ?_
      rintro e w1 ⟨r1, rfl, hr1, hb1⟩
      have hs1 := hb1.size
      have R0' := R0.later hb1
      have R1' := R1.later hb1
      have R2' := R2.later hb1
      have A1 := A'.later hb1
      have B1 := B'.later hb1
      clear e0 e1 h0 h1 o0 o1 i0 i1 hW R0 R1 R2 A' B'
      have hBW1 := hBW.trans (hb1.mono (by omega))
      obtain ⟨e0, e1, h0, h1⟩ := R0'.two
      obtain ⟨o0, o1, i0, i1⟩ := R1'.two
      go_wp2_with fail
      refine (sub_res A1 B1 (by omega) (by omega) (by omega)).mono ?_
      rintro e w2 ⟨r2, z2, rfl, q2, l2, hb2⟩
      obtain ⟨ad2, cp2, rfl, q2, A2⟩ := q2.slice
      have hs2 := hb2.size
      clear e0 e1 h0 h1 o0 o1 i0 i1
      obtain ⟨j0, j1, _, _⟩ := (R0'.later hb2).two
      obtain ⟨u0, u1, g0, g1⟩ := (R2'.later hb2).two
      go_wp2_with fail
      refine bodyPost_ret (v := .agg #[.bool p, .slice ad2 z2.length cp2]) (by simp [results, Tryz.results97, go_sem, u0, u1]) rfl ⟨_, rfl, ?_, ?_⟩
      · exact ⟨p, z2, ad2, cp2, rfl, (q2.kept (kept2 _ _) (by omega)).at_.2, by rw [q2.eq, HF.out], by omega⟩
      · exact below_set2 (hBW1.trans (hb2.mono (by omega))) (by omega) _ _
set_option maxRecDepth 100000 in
set_option maxHeartbeats 2000000 in
theorem minus_any {n : Nat} {w : World} {u v : Value} {X Y : Int} (hu : SgnQ w u X n) (hv : SgnQ w v Y n) (hn : n ≤ 2147483648) :
    Calls Tryz.prog 98 #[u, v] w fun e w' => ∃ r, e = .returned r ∧ SgnQ w' r (X - Y) (n + 1) ∧ Below w.heap.size w w' := by
  obtain ⟨p, xs, a1, c1, rfl, A, hX, hx⟩ := hu
  obtain ⟨q, ys, a2, c2, rfl, B, hY, hy⟩ := hv
  obtain ⟨W, hW⟩ : ∃ W, (((w.alloc (.cells #[.bool p, .slice a1 xs.length c1] 114)).alloc (.cells #[.bool q, .slice a2 ys.length c2] 114)).alloc (.cells #[.bool false, .slice none 0 0] 114)) = W := ⟨_, rfl⟩
  have R0 : Row W (w.heap.size) 114 #[.bool p, .slice a1 xs.length c1] := by rw [← hW]; exact (((Row.new _ _ _).alloc _).alloc _)
  have R1 : Row W (w.heap.size + 1) 114 #[.bool q, .slice a2 ys.length c2] := by rw [← hW]; have h := (Row.new (w.alloc (.cells #[.bool p, .slice a1 xs.length c1] 114)) 114 #[.bool q, .slice a2 ys.length c2]); simp only [World.size_alloc] at h; exact (h.alloc _)
  have R2 : Row W (w.heap.size + 1 + 1) 114 #[.bool false, .slice none 0 0] := by rw [← hW]; have h := (Row.new ((w.alloc (.cells #[.bool p, .slice a1 xs.length c1] 114)).alloc (.cells #[.bool q, .slice a2 ys.length c2] 114)) 114 #[.bool false, .slice none 0 0]); simp only [World.size_alloc] at h; exact h
  have hBW : Below w.heap.size w W := by rw [← hW]; exact ((((Below.refl _ _).alloc (by (try simp) <;> omega) _).alloc (by (try simp) <;> omega) _).alloc (by (try simp) <;> omega) _)
  have hsW : w.heap.size + 1 + 1 + 1 ≤ W.heap.size := by rw [← hW]; simp
  have U : SgnQ W (.agg #[.bool p, .slice a1 xs.length c1]) X n := ⟨p, xs, a1, c1, rfl, A.later hBW, hX, hx⟩
  have V : SgnQ W (.agg #[.bool !q, .slice a2 ys.length c2]) (-Y) n := ⟨!q, ys, a2, c2, rfl, B.later hBW, by rw [sgn_not, hY], hy⟩
  clear hX hY
  obtain ⟨e0, e1, _, _⟩ := R0.two
  obtain ⟨o0, o1, _, _⟩ := R1.two
  go_enter Tryz.func98, Tryz.ntmps98
  go_wp2_with fail
  refine (plus_any U V hn).mono ?_
  rintro e w2 ⟨r2, rfl, ⟨s, zs, a3, c3, rfl, A3, hZ, hz⟩, hb2⟩
  have hs2 := hb2.size
  have HZ := Lib.hid hZ
  clear e0 e1 o0 o1 hW hZ
  obtain ⟨u0, u1, g0, g1⟩ := (R2.later hb2).two
  go_wp2_with fail
  refine bodyPost_ret (v := .agg #[.bool s, .slice a3 zs.length c3]) (by simp [results, Tryz.results98, go_sem, u0, u1]) rfl ⟨_, rfl, ?_, ?_⟩
  · exact ⟨s, zs, a3, c3, rfl, A3.far (R2.later hb2) (noInts2 _ _ _ _) (kept2 _ _), by rw [HZ.out, Int.sub_eq_add_neg], hz⟩
  · exact below_set2 (hBW.trans (hb2.mono (by omega))) (by omega) _ _
set_option maxRecDepth 100000 in
set_option maxHeartbeats 1000000 in
theorem sign_any {n : Nat} {w : World} {u : Value} {X : Int} (hu : SgnQ w u X n) (hn : n ≤ 2147483648) :
    Calls Tryz.prog 138 #[u] w fun e w' => e = .returned (.int .i64 X.sign) ∧ Below w.heap.size w w' := by
  obtain ⟨p, xs, a1, c1, rfl, A, hX, hx⟩ := hu
  have hsg := sgn_sign p (val_nonneg A.wf)
  rw [hX] at hsg
  obtain ⟨W, hW⟩ : ∃ W, (w.alloc (.cells #[.bool p, .slice a1 xs.length c1] 114)) = W := ⟨_, rfl⟩
  have R0 : Row W (w.heap.size) 114 #[.bool p, .slice a1 xs.length c1] := by rw [← hW]; exact (Row.new _ _ _)
  have hBW : Below w.heap.size w W := by rw [← hW]; exact ((Below.refl _ _).alloc (by (try simp) <;> omega) _)
  have hsW : w.heap.size + 1 ≤ W.heap.size := by rw [← hW]; simp
  have A' := A.later hBW
  obtain ⟨e0, e1, _, _⟩ := R0.two
  have hbits := bits_res A' (by omega) (bitsN_is A.wf)
  have hbp := bits_pos A.wf
  have h0 := val_nonneg A.wf
  obtain ⟨nb, hnb⟩ : ∃ nb, bitsN xs = nb := ⟨_, rfl⟩
  rw [hnb] at hbits hbp
  clear hnb hX
  by_cases hz : val xs = 0
  · have hb0 : ((nb : Int) == 0) = true := by have : nb = 0 := by omega
                                              subst this; rfl
    rw [if_pos hz] at hsg
    have HS := Lib.hid hsg
    clear hsg hz hbp h0
    go_enter Tryz.func138, Tryz.ntmps138
    go_wp2_with fail
    refine hbits.mono ?_
    rintro e w' ⟨rfl, rfl⟩
    clear hbits
    go_wp2_with fail
    go_ret
    exact ⟨by rw [HS.out]; rfl, hBW⟩
  · have hb0 : ((nb : Int) == 0) = false := by simp; omega
    rw [if_neg hz] at hsg
    have HS := Lib.hid hsg
    clear hsg hz hbp h0
    cases p with
    | true =>
      go_enter Tryz.func138, Tryz.ntmps138
      go_wp2_with fail
      refine hbits.mono ?_
      rintro e w' ⟨rfl, rfl⟩
      clear hbits
      go_wp2_with fail
      go_ret
      exact ⟨by rw [HS.out]; rfl, hBW⟩
    | false =>
      go_enter Tryz.func138, Tryz.ntmps138
      go_wp2_with fail
      refine hbits.mono ?_
      rintro e w' ⟨rfl, rfl⟩
      clear hbits
      go_wp2_with fail
      go_ret
      exact ⟨by rw [HS.out]; rfl, hBW⟩
end
section
open Go.RowKit
set_option linter.unusedVariables false
set_option linter.unusedSimpArgs false
theorem ArgQ.box {w : World} {v : Value} {X : Rat} {n : Nat} (h : ArgQ w v X n) : ∃ (neg : Bool) (xs ys : List Int) (ad bd : Option Addr) (ca cb : Nat), v = .agg #[.bool neg, .slice ad xs.length ca, .slice bd ys.length cb] := by
  obtain ⟨neg, xs, ys, ad, bd, ca, cb, rfl, _⟩ := h
  exact ⟨neg, xs, ys, ad, bd, ca, cb, rfl⟩
set_option maxRecDepth 100000 in
set_option maxHeartbeats 2000000 in
theorem plain_any {n : Nat} {w : World} {v : Value} {X : Rat} (h : ArgQ w v X n) (hn : n ≤ 2147483648) :
    Calls Tryz.prog 94 #[v] w fun e w' => ∃ r, e = .returned r ∧ PlainQ w' r X (n + 2) ∧ Below w.heap.size w w' := by
  obtain ⟨neg, xs, ys, a1, a2, c1, c2, rfl, A, B, hX, hx, hy⟩ := h
  obtain ⟨W, hW⟩ : ∃ W, ((w.alloc (.cells #[.bool neg, .slice a1 xs.length c1, .slice a2 ys.length c2] 51)).alloc (.cells #[.bool false, .slice none 0 0, .slice none 0 0] 51)) = W := ⟨_, rfl⟩
  have R0 : Row W (w.heap.size) 51 #[.bool neg, .slice a1 xs.length c1, .slice a2 ys.length c2] := by rw [← hW]; exact ((Row.new _ _ _).alloc _)
  have R1 : Row W (w.heap.size + 1) 51 #[.bool false, .slice none 0 0, .slice none 0 0] := by rw [← hW]; have h := (Row.new (w.alloc (.cells #[.bool neg, .slice a1 xs.length c1, .slice a2 ys.length c2] 51)) 51 #[.bool false, .slice none 0 0, .slice none 0 0]); simp only [World.size_alloc] at h; exact h
  have hBW : Below w.heap.size w W := by rw [← hW]; exact (((Below.refl _ _).alloc (by (try simp) <;> omega) _).alloc (by (try simp) <;> omega) _)
  have hsW : w.heap.size + 1 + 1 ≤ W.heap.size := by rw [← hW]; simp
  have A' := A.later hBW
  have B' := B.later hBW
  obtain ⟨e0, e1, e2, _, _, _⟩ := R0.three
  have hb1 := bits_res A' (by omega) (bitsN_is A.wf)
  have hp1 := bits_pos A.wf
  have hb2 := bits_res B' (by omega) (bitsN_is B.wf)
  have hp2 := bits_pos B.wf
  have h01 := val_nonneg A.wf
  have h02 := val_nonneg B.wf
  obtain ⟨m1, hm1⟩ : ∃ m, bitsN xs = m := ⟨_, rfl⟩
  obtain ⟨m2, hm2⟩ : ∃ m, bitsN ys = m := ⟨_, rfl⟩
  rw [hm1] at hb1 hp1
  rw [hm2] at hb2 hp2
  clear hm1 hm2
  by_cases z1 : val xs = 0
  · have hX0 : X = 0 := by rw [← hX, z1]; exact ratOf_zero_left _ _
    have HX := Lib.hid hX0
    have d1 : ((m1 : Int) == 0) = true := by obtain rfl : m1 = 0 := by omega
                                             rfl
    clear hX hX0 z1 hp1 hp2 h01 h02
    go_enter Tryz.func94, Tryz.ntmps94
    go_wp2_with fail
    refine hb1.mono ?_
    rintro e w' ⟨rfl, rfl⟩
    clear hb1 hb2
    go_wp2_with fail
    refine (int_any 0 _ (by omega) (by omega)).mono ?_
    rintro e w2 ⟨r2, rfl, q2, hb2⟩
    have P2 := q2.plain
    obtain ⟨neg', us, vs, b1, b2, k1, k2, rfl⟩ := q2.arg.box
    have R1' := R1.later hb2
    clear e0 e1 e2 hW
    obtain ⟨u0, u1, u2, g0, g1, g2⟩ := R1'.three
    go_wp2_with fail
    refine bodyPost_ret (v := .agg #[.bool neg', .slice b1 us.length k1, .slice b2 vs.length k2]) (by simp [results, Tryz.results94, go_sem, u0, u1, u2]) rfl ⟨_, rfl, ?_, below_set3 (hBW.trans (hb2.mono (by omega))) (by omega) _ _ _⟩
    rw [HX.out, ← intQ_zero]
    exact (P2.far R1' (noInts3 _ _ _ _ _ _ _) (kept3 _ _ _)).more (by omega)
  · by_cases z2 : val ys = 0
    · have hX0 : X = 0 := by rw [← hX, z2]; exact ratOf_zero_right _ _
      have HX := Lib.hid hX0
      have d1 : ((m1 : Int) == 0) = false := by simp; omega
      have d2 : ((m2 : Int) == 0) = true := by obtain rfl : m2 = 0 := by omega
                                               rfl
      clear hX hX0 z1 z2 hp1 hp2 h01 h02
      go_enter Tryz.func94, Tryz.ntmps94
      go_wp2_with fail
      refine hb1.mono ?_
      rintro e w' ⟨rfl, rfl⟩
      clear hb1
      go_wp2_with fail
      refine hb2.mono ?_
      rintro e w' ⟨rfl, rfl⟩
      clear hb2
      go_wp2_with fail
      refine (int_any 0 _ (by omega) (by omega)).mono ?_
      rintro e w2 ⟨r2, rfl, q2, hb2⟩
      have P2 := q2.plain
      obtain ⟨neg', us, vs, b1, b2, k1, k2, rfl⟩ := q2.arg.box
      have R1' := R1.later hb2
      clear e0 e1 e2 hW
      obtain ⟨u0, u1, u2, g0, g1, g2⟩ := R1'.three
      go_wp2_with fail
      refine bodyPost_ret (v := .agg #[.bool neg', .slice b1 us.length k1, .slice b2 vs.length k2]) (by simp [results, Tryz.results94, go_sem, u0, u1, u2]) rfl ⟨_, rfl, ?_, below_set3 (hBW.trans (hb2.mono (by omega))) (by omega) _ _ _⟩
      rw [HX.out, ← intQ_zero]
      exact (P2.far R1' (noInts3 _ _ _ _ _ _ _) (kept3 _ _ _)).more (by omega)
    · have HX := Lib.hid hX
      have d1 : ((m1 : Int) == 0) = false := by simp; omega
      have d2 : ((m2 : Int) == 0) = false := by simp; omega
      have hpos : 0 < val ys := by omega
      have hn0 : val xs = 0 → neg = false := fun h => absurd h z1
      clear hX z1 z2 hp1 hp2 h01 h02
      obtain ⟨u0, u1, u2, g0, g1, g2⟩ := R1.three
      have HN := Lib.hid hn0
      clear hn0
      go_enter Tryz.func94, Tryz.ntmps94
      go_wp2_with fail
      refine hb1.mono ?_
      rintro e w' ⟨rfl, rfl⟩
      clear hb1
      go_wp2_with fail
      refine hb2.mono ?_
      rintro e w' ⟨rfl, rfl⟩
      clear hb2 hW
      go_wp2_with fail
      refine bodyPost_ret (v := .agg #[.bool neg, .slice a1 xs.length c1, .slice a2 ys.length c2]) (by simp [results, Tryz.results94, go_sem, u0, u1, u2]) rfl ⟨_, rfl, ?_, below_set3 hBW (by omega) _ _ _⟩
      exact ⟨neg, xs, ys, a1, a2, c1, c2, rfl, A'.far R1 (noInts3 _ _ _ _ _ _ _) (kept3 _ _ _), B'.far R1 (noInts3 _ _ _ _ _ _ _) (kept3 _ _ _), HX.out, by omega, by omega, hpos, HN.out⟩
set_option maxRecDepth 100000 in
set_option maxHeartbeats 1000000 in
theorem side_any {w : World} {g : Nat} {xs gs : List Int} {a1 gd : Option Addr} {c1 gc : Nat} (G : w.cell? ⟨g, 0, none⟩ = some (.slice gd gs.length gc)) (Ag : Arg w (.slice gd gs.length gc) gs gd gc)
    (A : Arg w (.slice a1 xs.length c1) xs a1 c1) (hpos : 0 < val gs) (hx : xs.length ≤ 134217728) (hg : gs.length ≤ 134217728) :
    Calls Tryz.prog 113 #[.slice a1 xs.length c1, .pointer (some ⟨g, 0, none⟩)] w fun e w' => ∃ r zs, e = .returned r ∧ Res w.heap.size w' r zs (val xs / val gs) ∧ zs.length ≤ xs.length ∧ Below w.heap.size w w' := by
  go_enter Tryz.func113, Tryz.ntmps113
  go_wp2_with fail
  refine (div_any A Ag hx hg hpos).mono ?_
  rintro e w2 ⟨r2, s2, rfl, hb2, ⟨z2, q2, l2⟩, _⟩
  clear G
  go_wp2_with fail
  go_ret
  exact ⟨r2, z2, rfl, q2, l2, hb2⟩
set_option maxRecDepth 100000 in
set_option maxHeartbeats 4000000 in
theorem bothNorm_any {w : World} {g : Nat} {neg : Bool} {xs ys gs : List Int} {a1 a2 gd : Option Addr} {c1 c2 gc : Nat} (G : w.cell? ⟨g, 0, none⟩ = some (.slice gd gs.length gc)) (Ag : Arg w (.slice gd gs.length gc) gs gd gc)
    (A : Arg w (.slice a1 xs.length c1) xs a1 c1) (B : Arg w (.slice a2 ys.length c2) ys a2 c2) (hpos : 0 < val gs) (hx : xs.length ≤ 134217728) (hy : ys.length ≤ 134217728) (hg : gs.length ≤ 134217728) :
    Calls Tryz.prog 109 #[.agg #[.bool neg, .slice a1 xs.length c1, .slice a2 ys.length c2], .func (.func 113) #[] #[.pointer (some ⟨g, 0, none⟩)]] w fun e w' => ∃ r, e = .returned r ∧ ∃ (us vs : List Int) (b1 b2 : Option Addr) (k1 k2 : Nat), r = .agg #[.bool neg, .slice b1 us.length k1, .slice b2 vs.length k2] ∧
      Res w.heap.size w' (.slice b1 us.length k1) us (val xs / val gs) ∧ Res w.heap.size w' (.slice b2 vs.length k2) vs (val ys / val gs) ∧ us.length ≤ xs.length ∧ vs.length ≤ ys.length ∧ Below w.heap.size w w' := by
  have hgl := World.block_lt_of_cell? w _ G
  obtain ⟨W, hW⟩ : ∃ W, ((w.alloc (.cells #[.bool neg, .slice a1 xs.length c1, .slice a2 ys.length c2] 51)).alloc (.cells #[.bool false, .slice none 0 0, .slice none 0 0] 51)) = W := ⟨_, rfl⟩
  have R0 : Row W (w.heap.size) 51 #[.bool neg, .slice a1 xs.length c1, .slice a2 ys.length c2] := by rw [← hW]; exact ((Row.new _ _ _).alloc _)
  have R1 : Row W (w.heap.size + 1) 51 #[.bool false, .slice none 0 0, .slice none 0 0] := by rw [← hW]; have h := (Row.new (w.alloc (.cells #[.bool neg, .slice a1 xs.length c1, .slice a2 ys.length c2] 51)) 51 #[.bool false, .slice none 0 0, .slice none 0 0]); simp only [World.size_alloc] at h; exact h
  have hBW : Below w.heap.size w W := by rw [← hW]; exact (((Below.refl _ _).alloc (by (try simp) <;> omega) _).alloc (by (try simp) <;> omega) _)
  have hsW : w.heap.size + 1 + 1 ≤ W.heap.size := by rw [← hW]; simp
  have mkS : ∀ X, Below (w.heap.size + 1) W X → X.cell? ⟨w.heap.size, 0, none⟩ = some (.bool neg) ∧ X.cell? ⟨w.heap.size, 1, none⟩ = some (.slice a1 xs.length c1) ∧ X.cell? ⟨w.heap.size, 2, none⟩ = some (.slice a2 ys.length c2) ∧ Below w.heap.size w X ∧ Below (w.heap.size + 1) W X := fun X h => ⟨(R0.below h (by omega)).cell 0, (R0.below h (by omega)).cell 1, (R0.below h (by omega)).cell 2, hBW.trans (h.mono (by omega)), h⟩
  go_enter Tryz.func109, Tryz.ntmps109
  go_wp2_with fail
  clear hW
  go_region_held3 (fun X => X.cell? ⟨w.heap.size, 0, none⟩ = some (.bool neg) ∧ X.cell? ⟨w.heap.size, 1, none⟩ = some (.slice a1 xs.length c1) ∧ X.cell? ⟨w.heap.size, 2, none⟩ = some (.slice a2 ys.length c2) ∧ Below w.heap.size w X ∧ Below (w.heap.size + 1) W X)
    (((refine mkS _ ?_; (repeat' (first | exact Below.refl _ _ | refine Below.drew ?_ | refine Below.alloc ?_ (by (try simp) <;> omega) _ | refine below_set3 ?_ (by (try simp) <;> omega) _ _ _ | refine below_set2 ?_ (by (try simp) <;> omega) _ _ | refine Below.setCell ?_ (by (try simp) <;> omega) _ | refine Below.trans ?_ (Below.mono (by assumption) (by (try simp) <;> omega)))))))
    ((first
      | (have HB : Below w.heap.size w _ := (‹_ ∧ _ ∧ _ ∧ Below w.heap.size w _ ∧ _›).2.2.2.1; go_at_call 113; first
        | ((with_reducible refine (side_any (((HB).cell (p := ⟨g, 0, none⟩) hgl).trans G) (Ag.later HB) (A.later HB) hpos (by omega) (by omega)).mono ?_); rintro e w2 ⟨r2, z2, rfl, q2, l2, hb2⟩; have hs2 := hb2.size; (try simp at hs2); obtain ⟨ad2, cp2, rfl, q2, A2⟩ := q2.slice; clear HB)
        | ((with_reducible refine (side_any (((HB).cell (p := ⟨g, 0, none⟩) hgl).trans G) (Ag.later HB) (B.later HB) hpos (by omega) (by omega)).mono ?_); rintro e w3 ⟨r3, z3, rfl, q3, l3, hb3⟩; clear HB; have hs3 := hb3.size; (try simp at hs3); obtain ⟨ad3, cp3, rfl, q3, A3⟩ := q3.slice; replace q2 := q2.later hb3; have R1' := R1.later (show Below W.heap.size W w3 by (repeat' (first | exact Below.refl _ _ | refine Below.drew ?_ | refine Below.alloc ?_ (by (try simp) <;> omega) _ | refine below_set3 ?_ (by (try simp) <;> omega) _ _ _ | refine below_set2 ?_ (by (try simp) <;> omega) _ _ | refine Below.setCell ?_ (by (try simp) <;> omega) _ | refine Below.trans ?_ (Below.mono (by assumption) (by (try simp) <;> omega))))); obtain ⟨u0, u1, u2, g0, g1, g2⟩ := R1'.three))))
  go_wp2_with fail
  refine bodyPost_ret (v := .agg #[.bool neg, .slice ad2 z2.length cp2, .slice ad3 z3.length cp3]) (by simp [results, Tryz.results109, go_sem, u0, u1, u2]) rfl ⟨_, rfl, z2, z3, ad2, ad3, cp2, cp3, rfl, ?_, ?_, l2, l3, ?_⟩
  · exact (q2.far R1' (by decide) (kept3 _ _ _)).mono (by (try simp) <;> omega)
  · exact (q3.far R1' (by decide) (kept3 _ _ _)).mono (by (try simp) <;> omega)
  · (repeat' (first | exact Below.refl _ _ | exact hBW | refine Below.drew ?_ | refine Below.alloc ?_ (by (try simp) <;> omega) _ | refine below_set3 ?_ (by (try simp) <;> omega) _ _ _ | refine below_set2 ?_ (by (try simp) <;> omega) _ _ | refine Below.setCell ?_ (by (try simp) <;> omega) _ | refine Below.trans ?_ (Below.mono (by assumption) (by (try simp) <;> omega))))
set_option maxRecDepth 100000 in
set_option maxHeartbeats 4000000 in
theorem norm_any {n : Nat} {w : World} {v : Value} {X : Rat} (h : ArgQ w v X n) (hn : n ≤ 67108864) :
    Calls Tryz.prog 74 #[v] w fun e w' => ∃ r, e = .returned r ∧ ResQ w.heap.size w' r X (n + 2) ∧ Below w.heap.size w w' := by
  obtain ⟨neg0, xs0, ys0, e1, e2, k1, k2, rfl⟩ := h.box
  obtain ⟨W, hW⟩ : ∃ W, ((w.alloc (.cells #[.bool neg0, .slice e1 xs0.length k1, .slice e2 ys0.length k2] 51)).alloc (.cells #[.bool false, .slice none 0 0, .slice none 0 0] 51)) = W := ⟨_, rfl⟩
  have R0 : Row W (w.heap.size) 51 #[.bool neg0, .slice e1 xs0.length k1, .slice e2 ys0.length k2] := by rw [← hW]; exact ((Row.new _ _ _).alloc _)
  have R1 : Row W (w.heap.size + 1) 51 #[.bool false, .slice none 0 0, .slice none 0 0] := by rw [← hW]; have h := (Row.new (w.alloc (.cells #[.bool neg0, .slice e1 xs0.length k1, .slice e2 ys0.length k2] 51)) 51 #[.bool false, .slice none 0 0, .slice none 0 0]); simp only [World.size_alloc] at h; exact h
  have hBW : Below w.heap.size w W := by rw [← hW]; exact (((Below.refl _ _).alloc (by (try simp) <;> omega) _).alloc (by (try simp) <;> omega) _)
  have hsW : w.heap.size + 1 + 1 ≤ W.heap.size := by rw [← hW]; simp
  have h' := h.later hBW
  obtain ⟨t0, t1, t2, f0, f1, f2⟩ := R0.three
  have hmf : ∀ (fn : Fn) (first cap : Array Value) (w : World), (Instr.makeFunc fn first cap).run Tryz.prog w = .ok (.func fn first cap) w := fun _ _ _ _ => rfl
  go_enter Tryz.func74, Tryz.ntmps74
  go_wp2_with fail
  refine (plain_any h' (by omega)).mono ?_
  rintro e w1 ⟨r1, rfl, hp, hb1⟩
  have hs1 := hb1.size
  replace R0 := R0.later hb1
  replace R1 := R1.later hb1
  clear t0 t1 t2 f0 f1 f2 hW h h'
  obtain ⟨neg, xs, ys, a1, a2, c1, c2, rfl, A, B, hX, hx, hy, hpos, hn0⟩ := hp
  obtain ⟨t0, t1, t2, f0, f1, f2⟩ := R0.three
  obtain ⟨V, hV⟩ : ∃ V, ((w1.setCell ⟨w.heap.size, 0, none⟩ (.bool neg)).setCell ⟨w.heap.size, 1, none⟩ (.slice a1 xs.length c1)).setCell ⟨w.heap.size, 2, none⟩ (.slice a2 ys.length c2) = V := ⟨_, rfl⟩
  have hBV : Below w.heap.size w V := by rw [← hV]; exact below_set3 (hBW.trans (hb1.mono (by omega))) (by omega) _ _ _
  have hsV : w.heap.size + 1 + 1 ≤ V.heap.size := by rw [← hV]; simp; omega
  have AV : Arg V (.slice a1 xs.length c1) xs a1 c1 := by rw [← hV]; exact A.far R0 (noInts3 _ _ _ _ _ _ _) (kept3 _ _ _)
  have BV : Arg V (.slice a2 ys.length c2) ys a2 c2 := by rw [← hV]; exact B.far R0 (noInts3 _ _ _ _ _ _ _) (kept3 _ _ _)
  have Q0 : Row V (w.heap.size) 51 #[.bool neg, .slice a1 xs.length c1, .slice a2 ys.length c2] := by rw [← hV]; exact R0.set3 _ _ _
  have Q1 : Row V (w.heap.size + 1) 51 #[.bool false, .slice none 0 0, .slice none 0 0] := by rw [← hV]; exact ((R1.far (by simp <;> omega) _).far (by simp <;> omega) _).far (by simp <;> omega) _
  obtain ⟨p0, p1, p2, _, _, _⟩ := Q0.three
  have h0 := val_nonneg A.wf
  have e1 := ratOf_neg h0 hpos hn0
  have e2 := ratOf_abs (n := neg) h0 hpos
  have e3 := ratOf_den (n := neg) (A := val xs) hpos
  have hgp : 0 < (Int.gcd (val xs) (val ys) : Int) := gcd_pos_right hpos
  rw [hX] at e1 e2 e3
  have E1 := Lib.hid e1
  have E2 := Lib.hid e2
  have E3 := Lib.hid e3
  clear e1 e2 e3 hX hn0 R0 R1 A B hb1 hs1
  go_wp2_with fail
  refine (gcd_any AV BV (by omega) (by omega)).mono ?_
  rintro e w2 ⟨r2, gs, rfl, q2, l2, hb2⟩
  have hs2 := hb2.size
  obtain ⟨gd, gc, rfl, q2, Ag⟩ := q2.slice
  have q2e := q2.eq
  have hgs : 0 < val gs := by rw [q2e]; exact hgp
  have QE := Lib.hid q2e
  clear q2e hgp t0 t1 t2 f0 f1 f2 hV p0 p1 p2
  obtain ⟨U, hU⟩ : ∃ U, (w2.alloc (.cells #[.slice none 0 0] 49)).setCell ⟨w2.heap.size, 0, none⟩ (.slice gd gs.length gc) = U := ⟨_, rfl⟩
  have hBU : Below w2.heap.size w2 U := by rw [← hU]; exact ((Below.refl _ _).alloc (by simp) _).setCell (by simp) _
  have hB2 : Below w.heap.size w U := (hBV.trans (hb2.mono (by omega))).trans (hBU.mono (by omega))
  have hsU : U.heap.size = w2.heap.size + 1 := by rw [← hU]; simp
  have G : U.cell? ⟨w2.heap.size, 0, none⟩ = some (.slice gd gs.length gc) := by
    rw [← hU]; exact ((Row.new w2 49 #[.slice none 0 0]).set 0 _).cell 0
  obtain ⟨p0, p1, p2, _, _, _⟩ := ((Q0.later hb2).later hBU).three
  replace Q1 := (Q1.later hb2).later hBU
  have AU := (AV.later hb2).later hBU
  have BU := (BV.later hb2).later hBU
  have AgU := Ag.later hBU
  obtain ⟨pa, pb, pc, _, _, _⟩ := (Q0.later hb2).three
  go_wp2_with fail
  refine (bothNorm_any G AgU AU BU hgs (by omega) (by omega) (by omega)).mono ?_
  rintro e w3 ⟨r3, rfl, us, vs, b1, b2, j1, j2, rfl, q3, q4, l3, l4, hb3⟩
  have hs3 := hb3.size
  replace Q1 := Q1.later hb3
  obtain ⟨u0, u1, u2, g0, g1, g2⟩ := Q1.three
  clear p0 p1 p2 pa pb pc G
  go_wp2_with fail
  refine bodyPost_ret (v := .agg #[.bool neg, .slice b1 us.length j1, .slice b2 vs.length j2]) (by simp [results, Tryz.results74, go_sem, u0, u1, u2]) rfl ⟨_, rfl, ⟨us, vs, b1, b2, j1, j2, by rw [E1.out], ?_, ?_, by omega, by omega⟩, below_set3 (hB2.trans (hb3.mono (by omega))) (by omega) _ _ _⟩
  · rw [E2.out, ← QE.out]
    exact (q3.far Q1 (by decide) (kept3 _ _ _)).mono (by omega)
  · rw [E3.out, ← QE.out]
    exact (q4.far Q1 (by decide) (kept3 _ _ _)).mono (by omega)
end
section
open Go.RowKit
set_option linter.unusedVariables false
set_option linter.unusedSimpArgs false
set_option maxRecDepth 100000 in
set_option maxHeartbeats 8000000 in
theorem joinedP_any {n : Nat} {w : World} {m1 m2 : Bool} {xs ds zs es : List Int} {a1 a2 a3 a4 : Option Addr} {c1 c2 c3 c4 : Nat} {recv : Value}
    (A : Arg w (.slice a1 xs.length c1) xs a1 c1) (B : Arg w (.slice a2 ds.length c2) ds a2 c2) (C : Arg w (.slice a3 zs.length c3) zs a3 c3) (D : Arg w (.slice a4 es.length c4) es a4 c4)
    (hx : xs.length ≤ n) (hd : ds.length ≤ n) (hz : zs.length ≤ n) (he : es.length ≤ n) (hn : n ≤ 16777216) (hB : 0 < val ds) (hD : 0 < val es)
    (hr : SgnQ w recv (sgn m1 (val xs * val es)) (2 * n + 2)) :
    Calls Tryz.prog 95 #[.agg #[.bool m1, .slice a1 xs.length c1, .slice a2 ds.length c2], .agg #[.bool m2, .slice a3 zs.length c3, .slice a4 es.length c4], .func (.func 97) #[recv] #[]] w fun e w' =>
      ∃ r, e = .returned r ∧ ResQ w.heap.size w' r (ratOf m1 (val xs) (val ds) + ratOf m2 (val zs) (val es)) (2 * n + 6) ∧ Below w.heap.size w w' := by
  obtain ⟨W, hW⟩ : ∃ W, (((w.alloc (.cells #[.bool m1, .slice a1 xs.length c1, .slice a2 ds.length c2] 51)).alloc (.cells #[.bool m2, .slice a3 zs.length c3, .slice a4 es.length c4] 51)).alloc (.cells #[.bool false, .slice none 0 0, .slice none 0 0] 51)) = W := ⟨_, rfl⟩
  have R0 : Row W (w.heap.size) 51 #[.bool m1, .slice a1 xs.length c1, .slice a2 ds.length c2] := by rw [← hW]; exact (((Row.new _ _ _).alloc _).alloc _)
  have R1 : Row W (w.heap.size + 1) 51 #[.bool m2, .slice a3 zs.length c3, .slice a4 es.length c4] := by rw [← hW]; have h := (Row.new (w.alloc (.cells #[.bool m1, .slice a1 xs.length c1, .slice a2 ds.length c2] 51)) 51 #[.bool m2, .slice a3 zs.length c3, .slice a4 es.length c4]); simp only [World.size_alloc] at h; exact (h.alloc _)
  have R2 : Row W (w.heap.size + 1 + 1) 51 #[.bool false, .slice none 0 0, .slice none 0 0] := by rw [← hW]; have h := (Row.new ((w.alloc (.cells #[.bool m1, .slice a1 xs.length c1, .slice a2 ds.length c2] 51)).alloc (.cells #[.bool m2, .slice a3 zs.length c3, .slice a4 es.length c4] 51)) 51 #[.bool false, .slice none 0 0, .slice none 0 0]); simp only [World.size_alloc] at h; exact h
  have hBW : Below w.heap.size w W := by rw [← hW]; exact ((((Below.refl _ _).alloc (by (try simp) <;> omega) _).alloc (by (try simp) <;> omega) _).alloc (by (try simp) <;> omega) _)
  have hsW : w.heap.size + 1 + 1 + 1 ≤ W.heap.size := by rw [← hW]; simp
  have A' := A.later hBW
  have B' := B.later hBW
  have C' := C.later hBW
  have D' := D.later hBW
  have hr' := hr.later hBW
  obtain ⟨p0, p1, p2, _, _, _⟩ := R0.three
  obtain ⟨o0, o1, o2, _, _, _⟩ := R1.three
  go_enter Tryz.func95, Tryz.ntmps95
  go_wp2_with fail
  refine (over_any (neg := m2) (neg' := m1) C' B' hz hd (by omega)).mono ?_
  rintro e w1 ⟨r1, rfl, h1, hb1⟩
  have hs1 := hb1.size
  go_wp2_with fail
  refine (plus_any (hr'.later hb1) h1 (by omega)).mono ?_
  rintro e w2 ⟨r2, rfl, ⟨rn, us, b1, k1, rfl, F, hS, hl⟩, hb2⟩
  have hs2 := hb2.size
  have hval : ratOf rn (val us) (val ds * val es) = ratOf m1 (val xs) (val ds) + ratOf m2 (val zs) (val es) := rat_sum hB hD (hS.trans rfl)
  have HV := Lib.hid hval
  clear hval hS hW h1 hr hr' p0 p1 p2 o0 o1 o2
  obtain ⟨U, hU⟩ : ∃ U, w2.alloc (.cells #[.bool rn, .slice b1 us.length k1] 114) = U := ⟨_, rfl⟩
  have hBU : Below w2.heap.size w2 U := by rw [← hU]; exact (Below.refl _ _).alloc (by simp) _
  have hsU : w2.heap.size + 1 ≤ U.heap.size := by rw [← hU]; simp
  have Q7 : Row U w2.heap.size 114 #[.bool rn, .slice b1 us.length k1] := by rw [← hU]; exact Row.new _ _ _
  have P0 := ((R0.later hb1).later hb2).later hBU
  have P1 := ((R1.later hb1).later hb2).later hBU
  have P2 := ((R2.later hb1).later hb2).later hBU
  have BU := ((B'.later hb1).later hb2).later hBU
  have DU := ((D'.later hb1).later hb2).later hBU
  have FU := F.later hBU
  have hB2 : Below w.heap.size w U := ((hBW.trans (hb1.mono (by omega))).trans (hb2.mono (by omega))).trans (hBU.mono (by omega))
  have mkS : ∀ X, Kept (w.heap.size + 1 + 1) U X → X.cell? ⟨w2.heap.size, 0, none⟩ = some (.bool rn) ∧ X.cell? ⟨w2.heap.size, 1, none⟩ = some (.slice b1 us.length k1) ∧ X.cell? ⟨w.heap.size, 2, none⟩ = some (.slice a2 ds.length c2) ∧ X.cell? ⟨w.heap.size + 1, 2, none⟩ = some (.slice a4 es.length c4) ∧ Kept (w.heap.size + 1 + 1) U X := fun X h => ⟨(Q7.kept h (by omega)).cell 0, (Q7.kept h (by omega)).cell 1, (P0.kept h (by omega)).cell 2, (P1.kept h (by omega)).cell 2, h⟩
  go_wp2_with fail
  clear hU R0 R1 R2 A B C D A' B' C' D' F hb1 hb2 hBU hBW
  go_region_held3 (fun X => X.cell? ⟨w2.heap.size, 0, none⟩ = some (.bool rn) ∧ X.cell? ⟨w2.heap.size, 1, none⟩ = some (.slice b1 us.length k1) ∧ X.cell? ⟨w.heap.size, 2, none⟩ = some (.slice a2 ds.length c2) ∧ X.cell? ⟨w.heap.size + 1, 2, none⟩ = some (.slice a4 es.length c4) ∧ Kept (w.heap.size + 1 + 1) U X)
    (((refine mkS _ ?_; (repeat' (first | exact Kept.refl _ _ | refine Kept.drew ?_ | refine Kept.alloc ?_ _ | refine Kept.set ?_ _ _ | refine Kept.below ?_ (by assumption))))))
    ((first
      | (go_at_call 74; refine (norm_any (n := 2 * n + 4) ⟨rn, us, z3, b1, ad3, k1, cp3, rfl, F3, A3, HV3.out, by omega, by omega⟩ (by omega)).mono ?_; rintro e w4 ⟨r4, rfl, q4, hb4⟩; obtain ⟨ng, fs, gs, f1, f2, j1, j2, rfl⟩ := q4.arg.box; have P4 := P3.later hb4; obtain ⟨u0, u1, u2, g0, g1, g2⟩ := P4.three)
      | (go_at_call 103; refine (product_any (by first | exact Row.new _ _ _ | exact (Row.new _ _ _).drew) (BU.later (by (repeat' (first | exact Below.refl _ _ | refine Below.drew ?_ | refine Below.alloc ?_ (by (try simp) <;> omega) _ | refine below_set3 ?_ (by (try simp) <;> omega) _ _ _ | refine below_set2 ?_ (by (try simp) <;> omega) _ _ | refine Below.setCell ?_ (by (try simp) <;> omega) _ | refine Below.trans ?_ (Below.mono (by assumption) (by (try simp) <;> omega)))))) (DU.later (by (repeat' (first | exact Below.refl _ _ | refine Below.drew ?_ | refine Below.alloc ?_ (by (try simp) <;> omega) _ | refine below_set3 ?_ (by (try simp) <;> omega) _ _ _ | refine below_set2 ?_ (by (try simp) <;> omega) _ _ | refine Below.setCell ?_ (by (try simp) <;> omega) _ | refine Below.trans ?_ (Below.mono (by assumption) (by (try simp) <;> omega)))))) hd he (by omega)).mono ?_; rintro e w3 ⟨r3, z3, rfl, q3, l3, hb3⟩; obtain ⟨ad3, cp3, rfl, q3, A3⟩ := q3.slice; have hb3' := (show Below U.heap.size U w3 by (repeat' (first | exact Below.refl _ _ | refine Below.drew ?_ | refine Below.alloc ?_ (by (try simp) <;> omega) _ | refine below_set3 ?_ (by (try simp) <;> omega) _ _ _ | refine below_set2 ?_ (by (try simp) <;> omega) _ _ | refine Below.setCell ?_ (by (try simp) <;> omega) _ | refine Below.trans ?_ (Below.mono (by assumption) (by (try simp) <;> omega))))); have F3 := FU.later hb3'; have P3 := P2.later hb3'; have HV3 := Lib.hid ((congrArg (ratOf rn (val us)) q3.eq).trans HV.out))))
  have hs4 := hb4.size
  have hs3 := hb3'.size
  go_wp2_with fail
  refine bodyPost_ret (v := .agg #[.bool ng, .slice f1 fs.length j1, .slice f2 gs.length j2]) (by simp [results, Tryz.results95, go_sem, u0, u1, u2]) rfl ⟨_, rfl, ?_, ?_⟩
  · exact ((q4.far P4 (by decide) (kept3 _ _ _)).mono (by omega)).more (by omega)
  · exact below_set3 ((hB2.trans (hb3'.mono (by omega))).trans (hb4.mono (by omega))) (by omega) _ _ _
set_option maxRecDepth 100000 in
set_option maxHeartbeats 8000000 in
theorem joinedM_any {n : Nat} {w : World} {m1 m2 : Bool} {xs ds zs es : List Int} {a1 a2 a3 a4 : Option Addr} {c1 c2 c3 c4 : Nat} {recv : Value}
    (A : Arg w (.slice a1 xs.length c1) xs a1 c1) (B : Arg w (.slice a2 ds.length c2) ds a2 c2) (C : Arg w (.slice a3 zs.length c3) zs a3 c3) (D : Arg w (.slice a4 es.length c4) es a4 c4)
    (hx : xs.length ≤ n) (hd : ds.length ≤ n) (hz : zs.length ≤ n) (he : es.length ≤ n) (hn : n ≤ 16777216) (hB : 0 < val ds) (hD : 0 < val es)
    (hr : SgnQ w recv (sgn m1 (val xs * val es)) (2 * n + 2)) :
    Calls Tryz.prog 95 #[.agg #[.bool m1, .slice a1 xs.length c1, .slice a2 ds.length c2], .agg #[.bool m2, .slice a3 zs.length c3, .slice a4 es.length c4], .func (.func 98) #[recv] #[]] w fun e w' =>
      ∃ r, e = .returned r ∧ ResQ w.heap.size w' r (ratOf m1 (val xs) (val ds) - ratOf m2 (val zs) (val es)) (2 * n + 6) ∧ Below w.heap.size w w' := by
  obtain ⟨W, hW⟩ : ∃ W, (((w.alloc (.cells #[.bool m1, .slice a1 xs.length c1, .slice a2 ds.length c2] 51)).alloc (.cells #[.bool m2, .slice a3 zs.length c3, .slice a4 es.length c4] 51)).alloc (.cells #[.bool false, .slice none 0 0, .slice none 0 0] 51)) = W := ⟨_, rfl⟩
  have R0 : Row W (w.heap.size) 51 #[.bool m1, .slice a1 xs.length c1, .slice a2 ds.length c2] := by rw [← hW]; exact (((Row.new _ _ _).alloc _).alloc _)
  have R1 : Row W (w.heap.size + 1) 51 #[.bool m2, .slice a3 zs.length c3, .slice a4 es.length c4] := by rw [← hW]; have h := (Row.new (w.alloc (.cells #[.bool m1, .slice a1 xs.length c1, .slice a2 ds.length c2] 51)) 51 #[.bool m2, .slice a3 zs.length c3, .slice a4 es.length c4]); simp only [World.size_alloc] at h; exact (h.alloc _)
  have R2 : Row W (w.heap.size + 1 + 1) 51 #[.bool false, .slice none 0 0, .slice none 0 0] := by rw [← hW]; have h := (Row.new ((w.alloc (.cells #[.bool m1, .slice a1 xs.length c1, .slice a2 ds.length c2] 51)).alloc (.cells #[.bool m2, .slice a3 zs.length c3, .slice a4 es.length c4] 51)) 51 #[.bool false, .slice none 0 0, .slice none 0 0]); simp only [World.size_alloc] at h; exact h
  have hBW : Below w.heap.size w W := by rw [← hW]; exact ((((Below.refl _ _).alloc (by (try simp) <;> omega) _).alloc (by (try simp) <;> omega) _).alloc (by (try simp) <;> omega) _)
  have hsW : w.heap.size + 1 + 1 + 1 ≤ W.heap.size := by rw [← hW]; simp
  have A' := A.later hBW
  have B' := B.later hBW
  have C' := C.later hBW
  have D' := D.later hBW
  have hr' := hr.later hBW
  obtain ⟨p0, p1, p2, _, _, _⟩ := R0.three
  obtain ⟨o0, o1, o2, _, _, _⟩ := R1.three
  go_enter Tryz.func95, Tryz.ntmps95
  go_wp2_with fail
  refine (over_any (neg := m2) (neg' := m1) C' B' hz hd (by omega)).mono ?_
  rintro e w1 ⟨r1, rfl, h1, hb1⟩
  have hs1 := hb1.size
  go_wp2_with fail
  refine (minus_any (hr'.later hb1) h1 (by omega)).mono ?_
  rintro e w2 ⟨r2, rfl, ⟨rn, us, b1, k1, rfl, F, hS, hl⟩, hb2⟩
  have hs2 := hb2.size
  have hval : ratOf rn (val us) (val ds * val es) = ratOf m1 (val xs) (val ds) - ratOf m2 (val zs) (val es) := rat_diff hB hD (hS.trans (by rw [sgn_not, Int.sub_eq_add_neg]))
  have HV := Lib.hid hval
  clear hval hS hW h1 hr hr' p0 p1 p2 o0 o1 o2
  obtain ⟨U, hU⟩ : ∃ U, w2.alloc (.cells #[.bool rn, .slice b1 us.length k1] 114) = U := ⟨_, rfl⟩
  have hBU : Below w2.heap.size w2 U := by rw [← hU]; exact (Below.refl _ _).alloc (by simp) _
  have hsU : w2.heap.size + 1 ≤ U.heap.size := by rw [← hU]; simp
  have Q7 : Row U w2.heap.size 114 #[.bool rn, .slice b1 us.length k1] := by rw [← hU]; exact Row.new _ _ _
  have P0 := ((R0.later hb1).later hb2).later hBU
  have P1 := ((R1.later hb1).later hb2).later hBU
  have P2 := ((R2.later hb1).later hb2).later hBU
  have BU := ((B'.later hb1).later hb2).later hBU
  have DU := ((D'.later hb1).later hb2).later hBU
  have FU := F.later hBU
  have hB2 : Below w.heap.size w U := ((hBW.trans (hb1.mono (by omega))).trans (hb2.mono (by omega))).trans (hBU.mono (by omega))
  have mkS : ∀ X, Kept (w.heap.size + 1 + 1) U X → X.cell? ⟨w2.heap.size, 0, none⟩ = some (.bool rn) ∧ X.cell? ⟨w2.heap.size, 1, none⟩ = some (.slice b1 us.length k1) ∧ X.cell? ⟨w.heap.size, 2, none⟩ = some (.slice a2 ds.length c2) ∧ X.cell? ⟨w.heap.size + 1, 2, none⟩ = some (.slice a4 es.length c4) ∧ Kept (w.heap.size + 1 + 1) U X := fun X h => ⟨(Q7.kept h (by omega)).cell 0, (Q7.kept h (by omega)).cell 1, (P0.kept h (by omega)).cell 2, (P1.kept h (by omega)).cell 2, h⟩
  go_wp2_with fail
  clear hU R0 R1 R2 A B C D A' B' C' D' F hb1 hb2 hBU hBW
  go_region_held3 (fun X => X.cell? ⟨w2.heap.size, 0, none⟩ = some (.bool rn) ∧ X.cell? ⟨w2.heap.size, 1, none⟩ = some (.slice b1 us.length k1) ∧ X.cell? ⟨w.heap.size, 2, none⟩ = some (.slice a2 ds.length c2) ∧ X.cell? ⟨w.heap.size + 1, 2, none⟩ = some (.slice a4 es.length c4) ∧ Kept (w.heap.size + 1 + 1) U X)
    (((refine mkS _ ?_; (repeat' (first | exact Kept.refl _ _ | refine Kept.drew ?_ | refine Kept.alloc ?_ _ | refine Kept.set ?_ _ _ | refine Kept.below ?_ (by assumption))))))
    ((first
      | (go_at_call 74; refine (norm_any (n := 2 * n + 4) ⟨rn, us, z3, b1, ad3, k1, cp3, rfl, F3, A3, HV3.out, by omega, by omega⟩ (by omega)).mono ?_; rintro e w4 ⟨r4, rfl, q4, hb4⟩; obtain ⟨ng, fs, gs, f1, f2, j1, j2, rfl⟩ := q4.arg.box; have P4 := P3.later hb4; obtain ⟨u0, u1, u2, g0, g1, g2⟩ := P4.three)
      | (go_at_call 103; refine (product_any (by first | exact Row.new _ _ _ | exact (Row.new _ _ _).drew) (BU.later (by (repeat' (first | exact Below.refl _ _ | refine Below.drew ?_ | refine Below.alloc ?_ (by (try simp) <;> omega) _ | refine below_set3 ?_ (by (try simp) <;> omega) _ _ _ | refine below_set2 ?_ (by (try simp) <;> omega) _ _ | refine Below.setCell ?_ (by (try simp) <;> omega) _ | refine Below.trans ?_ (Below.mono (by assumption) (by (try simp) <;> omega)))))) (DU.later (by (repeat' (first | exact Below.refl _ _ | refine Below.drew ?_ | refine Below.alloc ?_ (by (try simp) <;> omega) _ | refine below_set3 ?_ (by (try simp) <;> omega) _ _ _ | refine below_set2 ?_ (by (try simp) <;> omega) _ _ | refine Below.setCell ?_ (by (try simp) <;> omega) _ | refine Below.trans ?_ (Below.mono (by assumption) (by (try simp) <;> omega)))))) hd he (by omega)).mono ?_; rintro e w3 ⟨r3, z3, rfl, q3, l3, hb3⟩; obtain ⟨ad3, cp3, rfl, q3, A3⟩ := q3.slice; have hb3' := (show Below U.heap.size U w3 by (repeat' (first | exact Below.refl _ _ | refine Below.drew ?_ | refine Below.alloc ?_ (by (try simp) <;> omega) _ | refine below_set3 ?_ (by (try simp) <;> omega) _ _ _ | refine below_set2 ?_ (by (try simp) <;> omega) _ _ | refine Below.setCell ?_ (by (try simp) <;> omega) _ | refine Below.trans ?_ (Below.mono (by assumption) (by (try simp) <;> omega))))); have F3 := FU.later hb3'; have P3 := P2.later hb3'; have HV3 := Lib.hid ((congrArg (ratOf rn (val us)) q3.eq).trans HV.out))))
  have hs4 := hb4.size
  have hs3 := hb3'.size
  go_wp2_with fail
  refine bodyPost_ret (v := .agg #[.bool ng, .slice f1 fs.length j1, .slice f2 gs.length j2]) (by simp [results, Tryz.results95, go_sem, u0, u1, u2]) rfl ⟨_, rfl, ?_, ?_⟩
  · exact ((q4.far P4 (by decide) (kept3 _ _ _)).mono (by omega)).more (by omega)
  · exact below_set3 ((hB2.trans (hb3'.mono (by omega))).trans (hb4.mono (by omega))) (by omega) _ _ _
end
end Go.Proofs.YtjcacmnmbbnffaaGreat
