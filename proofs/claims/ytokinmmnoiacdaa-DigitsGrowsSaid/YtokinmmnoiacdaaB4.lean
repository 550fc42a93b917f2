/-
  Rational numbers, as Lean's own Rat, against a sign and two natural numbers: plain mathematics.
-/
import Derived.Test.YtokinmmnoiacdaaB3
import Derived.WalkMore
namespace Go.Proofs.Ytokinmmnoiacdaa
set_option maxRecDepth 100000
section
open Go.RowKit Go.Shelf
set_option linter.unusedVariables false
set_option linter.unusedSimpArgs false
attribute [local go_sem] Oper.semAt_some
/-- quotient and rest by one limb, from the highest limb on -/
def shortW (d : Int) : List Int → List Int × Int
  | [] => ([], 0)
  | x :: l => (((shortW d l).2 * 4294967296 + x) / d :: (shortW d l).1, ((shortW d l).2 * 4294967296 + x) % d)
theorem shortW_length (d : Int) (xs : List Int) : (shortW d xs).1.length = xs.length := by
  induction xs with
  | nil => rfl
  | cons x xs ih => simp [shortW, ih]
theorem shortW_rest {d : Int} (hd : 0 < d) (xs : List Int) : 0 ≤ (shortW d xs).2 ∧ (shortW d xs).2 < d := by
  cases xs with
  | nil => exact ⟨Int.le_refl _, hd⟩
  | cons x xs => exact ⟨Int.emod_nonneg _ (by omega), Int.emod_lt_of_pos _ hd⟩
theorem shortW_limb {d r x : Int} (hd : 0 < d) (hr : 0 ≤ r ∧ r < d) (hx : 0 ≤ x ∧ x < 4294967296) : 0 ≤ (r * 4294967296 + x) / d ∧ (r * 4294967296 + x) / d < 4294967296 := by
  refine ⟨Int.ediv_nonneg (by omega) (by omega), ?_⟩
  rw [Int.ediv_lt_iff_lt_mul hd]
  have h := mul_le_r (a := r + 1) (b := d) (c := 4294967296) (by omega) (by omega)
  rw [Int.mul_comm 4294967296 d]
  omega
theorem shortW_wf {d : Int} (hd : 0 < d) {xs : List Int} (hx : Wf xs) : Wf (shortW d xs).1 := by
  induction xs with
  | nil => exact Wf.nil
  | cons x xs ih => exact Wf.cons (shortW_limb hd (shortW_rest hd xs) hx.head) (ih hx.tail)
theorem val_shortW (d : Int) (xs : List Int) : val (shortW d xs).1 * d + (shortW d xs).2 = val xs := by
  induction xs with
  | nil => simp [shortW, val]
  | cons x xs ih =>
    simp only [shortW, val]
    have h := Int.emod_add_mul_ediv ((shortW d xs).2 * 4294967296 + x) d
    generalize ((shortW d xs).2 * 4294967296 + x) / d = q at *
    generalize ((shortW d xs).2 * 4294967296 + x) % d = r at *
    grind
/-- what lies in memory where k limbs are still to come -/
def shortM (d : Int) (zs : List Int) (k : Nat) : List Int := zs.take k ++ (shortW d (zs.drop k)).1
theorem shortM_length (d : Int) (zs : List Int) (k : Nat) (hk : k ≤ zs.length) : (shortM d zs k).length = zs.length := by
  unfold shortM
  rw [List.length_append, shortW_length, List.length_take, List.length_drop]
  omega
theorem shortM_top (d : Int) (zs : List Int) : shortM d zs zs.length = zs := by simp [shortM, shortW]
theorem shortW_drop (d : Int) (zs : List Int) (k : Nat) (hk : k < zs.length) : shortW d (zs.drop k) = (((shortW d (zs.drop (k + 1))).2 * 4294967296 + zs.getD k 0) / d :: (shortW d (zs.drop (k + 1))).1, ((shortW d (zs.drop (k + 1))).2 * 4294967296 + zs.getD k 0) % d) := by
  rw [List.drop_eq_getElem_cons hk]
  simp only [shortW]
  rw [show zs[k] = zs.getD k 0 by simp [hk]]
theorem shortM_step (d : Int) (zs : List Int) (k : Nat) (hk : k < zs.length) : (shortM d zs (k + 1)).set k (((shortW d (zs.drop (k + 1))).2 * 4294967296 + zs.getD k 0) / d) = shortM d zs k := by
  unfold shortM
  rw [shortW_drop d zs k hk, List.take_succ_eq_append_getElem hk, List.append_assoc, List.set_append_right _ _ (by rw [List.length_take]; omega)]
  rw [List.length_take, Nat.min_eq_left (by omega), Nat.sub_self]
  simp
theorem shortM_low (d : Int) (zs : List Int) (k i : Nat) (hk : k ≤ zs.length) (hi : i < k) : (shortM d zs k).getD i 0 = zs.getD i 0 := by
  unfold shortM
  simp only [List.getD]
  rw [List.getElem?_append_left (by rw [List.length_take]; omega), List.getElem?_take_of_lt hi]
theorem or_u64' {x y : Int} (hx : 0 ≤ x ∧ x < 4294967296) (hy : 0 ≤ y ∧ y < 4294967296) : bits .or .u64 (x * 4294967296) y = x * 4294967296 + y := by rw [or_u64 hx hy]; omega
set_option maxRecDepth 100000 in
set_option maxHeartbeats 4000000 in
theorem short0_any {u : Value} {w : World} :
    Calls Try.prog 64 #[u, .int .u32 0] w fun e w' => e = .returned (.tuple #[.slice none 0 0, .int .u32 0, .int .i64 17]) ∧ Below w.heap.size w w' := by
  obtain ⟨n, hn⟩ : ∃ n : Nat, Hid (3 ≤ n) := ⟨3, Nat.le_refl 3⟩
  refine (callsIn_wide (n := n)).1 ?_
  refine callsIn_of_wp_marks Try.func64 rfl trivial ?_ rfl
  simp only [Try.ntmps64, List.size_toArray, List.length_cons, List.length_nil, Nat.reduceAdd, Nat.reduceSub, Array.replicate_succ, Array.replicate_zero, List.push_toArray, List.append_toArray, List.nil_append, List.cons_append]
  gi_wp2_with fail
  refine ⟨_, by simp [results, Try.f64, go_sem], rfl, (Below.refl _ w).alloc (Nat.le_refl _) _⟩
/-- how far a walk from above has come -/
structure Down (N : Nat) (pre : List (Fin N)) : Prop where
  on : Downto pre pre.length
  le : pre.length ≤ N
theorem Down.snoc {N : Nat} {pre : List (Fin N)} (h : Down N pre) (x : Fin N) (hx : x.val + pre.length + 1 = N) : Down N (pre ++ [x]) := by
  have e : (pre ++ [x]).length = pre.length + 1 := by simp
  exact ⟨by rw [e]; exact h.on.snoc x hx, by rw [e]; omega⟩
set_option maxRecDepth 100000 in
set_option maxHeartbeats 4000000 in
theorem short1_any {u : Value} {w : World} {xs : List Int} {a : Option Addr} {cap : Nat} (d : Int) (h1 : Arg w u xs a cap) (hx : xs.length ≤ 35184372088832) (hd : 0 < d ∧ d < 4294967296) :
    Calls Try.prog 64 #[u, .int .u32 d] w fun e w' => ∃ r, e = .returned (.tuple #[r, .int .u32 (val xs % d), .int .i64 0]) ∧ ∃ zs, Res w.heap.size w' r zs (val xs / d) ∧ zs.length ≤ xs.length ∧ Below w.heap.size w w' := by
  obtain ⟨hd0, hd1⟩ := hd
  obtain ⟨n, hn⟩ : ∃ n : Nat, Hid (3 ≤ n) := ⟨3, Nat.le_refl 3⟩
  refine (callsIn_wide (n := n)).1 ?_
  refine callsIn_of_wp_marks Try.func64 rfl trivial ?_ rfl
  simp only [Try.ntmps64, List.size_toArray, List.length_cons, List.length_nil, Nat.reduceAdd, Nat.reduceSub, Array.replicate_succ, Array.replicate_zero, List.push_toArray, List.append_toArray, List.nil_append, List.cons_append]
  have hdz : (d == 0) = false := by simp; omega
  gi_wp2_with fail
  have A1 := h1.later ((Below.refl _ w).alloc (Nat.le_refl _) (Obj.cells #[Value.int IntKind.u32 d] 63))
  refine wideCall ((trim_res A1 hx).mono ?_)
  rintro e w1 ⟨r1, zs, rfl, q1, n1, hb1⟩
  rw [World.size_alloc] at q1 hb1
  have k1 : Boxed w1 w.heap.size 63 (.int .u32 d) := (hb1.block _ (Nat.lt_succ_self _)).trans (Boxed.new w 63 (.int .u32 d))
  have hB1 : Below w.heap.size w w1 := ((Below.refl _ w).alloc (Nat.le_refl _) _).trans (hb1.mono (Nat.le_succ _))
  have hs1 : w.heap.size + 1 ≤ w1.heap.size := by have := hb1.size; rw [World.size_alloc] at this; exact this
  obtain ⟨ad, cp, rfl, _, _, _, _⟩ := q1.num.read
  gi_wp2_with fail
  refine wideCall ((back_any _ _ _ _).mono ?_)
  rintro e w' ⟨rfl, rfl⟩
  gi_wp2_with fail
  have h3 : 3 ≤ n := hn
  obtain ⟨N, hN⟩ : ∃ N, zs.length = N := ⟨_, rfl⟩
  rw [hN]
  have nq0 := q1.num
  rw [hN] at nq0
  have j7 := ((Boxed.new w1 23 (.slice ad N cp)).alloc (Obj.cells #[Value.int IntKind.u64 0] 60)).alloc (Obj.cells #[Value.slice ad N cp] 23)
  have j8 := (Boxed.new (w1.alloc (Obj.cells #[Value.slice ad N cp] 23)) 60 (.int .u64 0)).alloc (Obj.cells #[Value.slice ad N cp] 23)
  have j9 := Boxed.new ((w1.alloc (Obj.cells #[Value.slice ad N cp] 23)).alloc (Obj.cells #[Value.int IntKind.u64 0] 60)) 23 (.slice ad N cp)
  have j3 := ((k1.alloc (Obj.cells #[Value.slice ad N cp] 23)).alloc (Obj.cells #[Value.int IntKind.u64 0] 60)).alloc (Obj.cells #[Value.slice ad N cp] 23)
  have jb : Below w1.heap.size w1 (((w1.alloc (Obj.cells #[Value.slice ad N cp] 23)).alloc (Obj.cells #[Value.int IntKind.u64 0] 60)).alloc (Obj.cells #[Value.slice ad N cp] 23)) :=
    (((Below.refl _ w1).alloc (Nat.le_refl _) _).alloc (by simp) _).alloc (by simp; omega) _
  have js : (((w1.alloc (Obj.cells #[Value.slice ad N cp] 23)).alloc (Obj.cells #[Value.int IntKind.u64 0] 60)).alloc (Obj.cells #[Value.slice ad N cp] 23)).heap.size = w1.heap.size + 3 := by simp
  have jq := nq0.later jb
  have jB := hB1.trans (jb.mono (Nat.le_trans (Nat.le_succ _) hs1))
  simp only [World.size_alloc] at j8 j9
  generalize ((w1.alloc (Obj.cells #[Value.slice ad N cp] 23)).alloc (Obj.cells #[Value.int IntKind.u64 0] 60)).alloc (Obj.cells #[Value.slice ad N cp] 23) = W0 at *
  have hNw : N ≤ 35184372088832 := by omega
  have wz := q1.wf
  have hqe := q1.eq
  have hglt : ∀ g, ad = some ⟨g, 0, none⟩ → g < w1.heap.size := fun g e => (nq0.lt g (by rw [e]; rfl)).2
  have HN := Lib.hid hN
  have HQE := Lib.hid hqe
  have hn1 : N ≤ xs.length := by omega
  have jq2 : Num (w.heap.size + 1) W0 (.slice ad N cp) (shortM d zs N) := by rw [← hN, shortM_top, hN]; exact jq
  clear q1 nq0 k1 hB1 hb1 A1 jb h1 hN hqe n1
  refine range_seen (gf := 78) (lb := #[.pointer (some ⟨w1.heap.size + 1 + 1, 0, none⟩)]) rfl (enters_of Try.func78 (by kernel_rfl) rfl) (encs := limbAt zs (n := N)) (fun _ => rfl)
    (fun (pre : List (Fin N)) X => Down N pre ∧ ((((Num (w.heap.size + 1) X (.slice ad N cp) (shortM d zs (N - pre.length)) ∧ Boxed X w.heap.size 63 (.int .u32 d)) ∧ Boxed X w1.heap.size 23 (.slice ad N cp)) ∧
      Boxed X (w1.heap.size + 1) 60 (.int .u64 (shortW d (zs.drop (N - pre.length))).2)) ∧ Boxed X (w1.heap.size + 1 + 1) 23 (.slice ad N cp)) ∧ Below w.heap.size w X)
    (fun pre x => Downto pre pre.length ∧ x.val + pre.length + 1 = N) (fun ys => Downto ys N)
    (OwnFrom.and (ownFrom_pure _ _) (OwnFrom.and (Own.from (Own.and2 (Own.and2 (Own.and2 (Own.and2 (Num.own _ _ _) (boxed_own _ _ _)) (boxed_own _ _ _)) (boxed_own _ _ _)) (boxed_own _ _ _)) _) (ownFrom_below (by omega) (by omega))))
    ?start (fun (x : Fin N) => { tmps := #[u, .int .u32 d, undef, .pointer (some ⟨w.heap.size, 0, none⟩), .slice none 0 0, .int .u32 0, .int .i64 0, .pointer (some ⟨w1.heap.size, 0, none⟩), .pointer (some ⟨w1.heap.size + 1, 0, none⟩), .int .i64 (x.val : Int), .int .u32 (zs[x.val]?.getD 0), .int .u32 d,
      .bool false, u, .slice ad N cp, .slice ad N cp, .func (.func 78) #[] #[.pointer (some ⟨w1.heap.size + 1 + 1, 0, none⟩)], .int .i64 (x.val : Int), .int .u32 (zs[x.val]?.getD 0),
      undef, undef, undef, undef, undef, undef, undef, undef, undef, undef, undef, undef, undef, undef, undef, undef, undef, undef, undef, undef, undef], defers := [] }) ?seq ?assign ?body ?done
  case start =>
    refine ⟨⟨Downto.nil, Nat.zero_le _⟩, ⟨⟨⟨⟨?_, j3⟩, j7⟩, ?_⟩, j9⟩, jB⟩
    · exact jq2
    · rw [List.length_nil, Nat.sub_zero, ← HN.out, List.drop_length]; exact j8
  case seq =>
    intro l J hJ hY W hJ0
    obtain ⟨g, hg⟩ : ∃ g, 0 < N → ad = some ⟨g, 0, none⟩ := by
      rcases ad with _ | ad
      · exact ⟨0, fun h => by have h2 := jq.nil_slice; rw [h2.2.1] at h; exact absurd h (Nat.lt_irrefl 0)⟩
      · obtain ⟨g, rfl, _⟩ := jq.some_slice
        exact ⟨g, fun _ => rfl⟩
    refine back_seen (n - 1) (w1.heap.size + 1 + 1) g N cp ad hg hNw zs HN.out _ (fun pre X h => ⟨h.2.1.2.cell, fun i hi => ?_⟩) l J hJ hY W hJ0
    have hq := h.2.1.1.1.1.1
    rw [hg (by omega)] at hq
    obtain ⟨g', e, _, _, _, hp⟩ := hq.some_slice
    cases e
    have hl := HN.out
    have hc := hp.cell i (by rw [shortM_length _ _ _ (by omega)]; omega)
    rw [shortM_low _ _ _ _ (by omega) (by omega)] at hc
    exact hc
  case assign =>
    intro l x X K hK
    simp only [limbAt]
    gi_wp2
    exact hK
  case body =>
    rintro l pre ⟨j, hj⟩ X ⟨hdn, ⟨⟨⟨⟨nq, b3⟩, b7⟩, b8⟩, b9⟩, hB⟩ ⟨_, hnx⟩
    simp only at hnx
    have hl := HN.out
    have ejp : N - pre.length = j + 1 := by omega
    have ejp2 : N - (pre ++ [(⟨j, hj⟩ : Fin N)]).length = j := by simp; omega
    rw [ejp] at nq b8
    rw [ejp2]
    have hdn' : Down N (pre ++ [(⟨j, hj⟩ : Fin N)]) := hdn.snoc ⟨j, hj⟩ hnx
    have HDN := Lib.hid hdn'
    clear hdn'
    obtain ⟨br0, br1⟩ := shortW_rest hd0 (zs.drop (j + 1))
    obtain ⟨bx0, bx1⟩ := wz.getD j
    obtain ⟨bq0, bq1⟩ := shortW_limb hd0 ⟨br0, br1⟩ ⟨bx0, bx1⟩
    have hstep := shortM_step d zs j (by omega)
    have hdrop := shortW_drop d zs j (by omega)
    obtain ⟨x, hx⟩ : ∃ x, zs.getD j 0 = x := ⟨_, rfl⟩
    obtain ⟨r, hr⟩ : ∃ r, (shortW d (zs.drop (j + 1))).2 = r := ⟨_, rfl⟩
    rw [hx] at bx0 bx1 bq0 bq1 hstep hdrop
    rw [hr] at br0 br1 b8 bq0 bq1 hstep hdrop
    have hx' : zs[j]?.getD 0 = x := hx
    simp only [hx']
    rw [hdrop]
    have hor : bits .or .u64 (r * 4294967296) x = r * 4294967296 + x := or_u64' ⟨br0, by omega⟩ ⟨bx0, bx1⟩
    obtain ⟨q, hq⟩ : ∃ q, (r * 4294967296 + x) / d = q := ⟨_, rfl⟩
    obtain ⟨m, hm⟩ : ∃ m, (r * 4294967296 + x) % d = m := ⟨_, rfl⟩
    rw [hq] at bq0 bq1 hstep
    have htd : Int.tdiv (r * 4294967296 + x) d = q := by rw [Int.tdiv_eq_ediv_of_nonneg (by omega), hq]
    have htm : Int.tmod (r * 4294967296 + x) d = m := by rw [Int.tmod_eq_emod_of_nonneg (by omega), hm]
    have hm0 : 0 ≤ m := by rw [← hm]; exact Int.emod_nonneg _ (by omega)
    have hm1 : m < d := by rw [← hm]; exact Int.emod_lt_of_pos _ hd0
    obtain ⟨g, rfl, hg, hp⟩ : ∃ g, ad = some ⟨g, 0, none⟩ ∧ w.heap.size + 1 ≤ g ∧ Part X g cp (shortM d zs (j + 1)) := by
      rcases ad with _ | ad
      · have h2 := nq.nil_slice; omega
      · obtain ⟨g, rfl, h1, _, _, h2⟩ := nq.some_slice
        exact ⟨g, rfl, h1, h2⟩
    have hgw := hglt g rfl
    have hle : cp ≤ maxLen := by obtain ⟨g', e, _, _, h, _⟩ := nq.some_slice; exact h
    have hlen : (shortM d zs (j + 1)).length = N := by rw [shortM_length _ _ _ (by omega), hl]
    have c8 := b8.cell
    have f8 := b8.frozen
    have c7 := b7.cell
    have c3 := b3.cell
    have hsX := hB.size
    have HST := Lib.hid hstep
    have HM := Lib.hid hm
    have hjN : (j : Int) < (N : Int) := by omega
    clear hstep hdrop hq hm hx hr hx' hl hlen nq
    gi_wp2_with fail
    have p8 : Boxed (X.setCell ⟨w1.heap.size + 1, 0, none⟩ (.int .u64 (r * 4294967296 + x))) (w1.heap.size + 1) 60 (.int .u64 (r * 4294967296 + x)) := b8.set _
    have p7 : Boxed (X.setCell ⟨w1.heap.size + 1, 0, none⟩ (.int .u64 (r * 4294967296 + x))) w1.heap.size 23 (.slice (some ⟨g, 0, none⟩) N cp) := Boxed.far b7 (by simp) _
    have p9 : Boxed (X.setCell ⟨w1.heap.size + 1, 0, none⟩ (.int .u64 (r * 4294967296 + x))) (w1.heap.size + 1 + 1) 23 (.slice (some ⟨g, 0, none⟩) N cp) := Boxed.far b9 (by simp) _
    have p3 : Boxed (X.setCell ⟨w1.heap.size + 1, 0, none⟩ (.int .u64 (r * 4294967296 + x))) w.heap.size 63 (.int .u32 d) := Boxed.far b3 (by simp; omega) _
    have pp := hp.far (p := ⟨w1.heap.size + 1, 0, none⟩) (by simp; omega) (.int .u64 (r * 4294967296 + x))
    have pB : Below w.heap.size w (X.setCell ⟨w1.heap.size + 1, 0, none⟩ (.int .u64 (r * 4294967296 + x))) := hB.setCell (p := ⟨w1.heap.size + 1, 0, none⟩) (by simp; omega) _
    have pK : KeepsOthers X (X.setCell ⟨w1.heap.size + 1, 0, none⟩ (.int .u64 (r * 4294967296 + x))) := KeepsOthers.setCell _ _ _
    clear b8 b7 b9 b3 hp hB c8 f8 c7 c3
    generalize (X.setCell ⟨w1.heap.size + 1, 0, none⟩ (.int .u64 (r * 4294967296 + x))) = Y at *
    have c8 := p8.cell
    have c7 := p7.cell
    have c3 := p3.cell
    have hwd : IntKind.u64.wrap d = d := wrap_u64 (by omega) (by omega)
    have hwq : IntKind.u64.wrap q = q := wrap_u64 (by omega) (by omega)
    have hwq2 : IntKind.u32.wrap q = q := by rw [wrap_u32]; exact Int.emod_eq_of_lt bq0 bq1
    have hdne : d ≠ 0 := by omega
    have cg := pp.cell j (by rw [shortM_length _ _ _ (by have := HN.out; omega)]; have := HN.out; omega)
    have fg := pp.free j
    refine region_round (fun X' => X'.cell? ⟨w1.heap.size, 0, none⟩ = some (.slice (some ⟨g, 0, none⟩) N cp) ∧ X'.cell? ⟨w1.heap.size + 1, 0, none⟩ = some (.int .u64 (r * 4294967296 + x)) ∧ X'.cell? ⟨w.heap.size, 0, none⟩ = some (.int .u32 d))
      (by kernel_rfl) (by kernel_rfl) (by rintro ⟨a', w', h⟩; exact absurd (show Exit.outgrown = Exit.normal from h.1) (by simp)) ⟨c7, c8, c3⟩ (fun hHeld => ?_)
    refine wpAnyH_take (i := 0) (v := ?va0) rfl (by kernel_rfl) (by kernel_rfl) (by kernel_rfl) (fun _ _ _ h => h) (Or.inl ⟨by rfl, ?ha0⟩) (by assumption) ?ra0
    case ha0 =>
      intro w hSw
      try dsimp only at hSw
      go_simp
      try with_reducible rfl
    try simp only [Act.put, List.setIfInBounds_toArray, List.set_cons_zero, List.set_cons_succ]
    refine wpAnyH_take (i := 1) (v := ?va1) rfl (by kernel_rfl) (by kernel_rfl) (by kernel_rfl) (fun _ _ _ h => h) (Or.inl ⟨by rfl, ?ha1⟩) (by assumption) ?ra1
    case ha1 =>
      intro w hSw
      try dsimp only at hSw
      go_simp
      try with_reducible rfl
    try simp only [Act.put, List.setIfInBounds_toArray, List.set_cons_zero, List.set_cons_succ]
    refine wpAnyH_take (i := 2) (v := ?va2) rfl (by kernel_rfl) (by kernel_rfl) (by kernel_rfl) (fun _ _ _ h => h) (Or.inl ⟨by rfl, ?ha2⟩) (by assumption) ?ra2
    case ha2 =>
      intro w hSw
      try dsimp only at hSw
      go_simp
      try with_reducible rfl
    try simp only [Act.put, List.setIfInBounds_toArray, List.set_cons_zero, List.set_cons_succ]
    refine wpAnyH_take (i := 3) (v := ?va3) rfl (by kernel_rfl) (by kernel_rfl) (by kernel_rfl) (fun _ _ _ h => h) (Or.inl ⟨by rfl, ?ha3⟩) (by assumption) ?ra3
    case ha3 =>
      intro w hSw
      try dsimp only at hSw
      go_simp
      try with_reducible rfl
    try simp only [Act.put, List.setIfInBounds_toArray, List.set_cons_zero, List.set_cons_succ]
    refine wpAnyH_take (i := 4) (v := ?va4) rfl (by kernel_rfl) (by kernel_rfl) (by kernel_rfl) (fun _ _ _ h => h) (Or.inl ⟨by rfl, ?ha4⟩) (by assumption) ?ra4
    case ha4 =>
      intro w hSw
      try dsimp only at hSw
      go_simp
      try with_reducible rfl
    try simp only [Act.put, List.setIfInBounds_toArray, List.set_cons_zero, List.set_cons_succ]
    refine wpAnyH_take (i := 5) (v := ?va5) rfl (by kernel_rfl) (by kernel_rfl) (by kernel_rfl) (fun _ _ _ h => h) (Or.inl ⟨by rfl, ?ha5⟩) (by assumption) ?ra5
    case ha5 =>
      intro w hSw
      try dsimp only at hSw
      go_simp
      try with_reducible rfl
    try simp only [Act.put, List.setIfInBounds_toArray, List.set_cons_zero, List.set_cons_succ]
    refine wpAnyH_take (i := 6) (v := ?va6) rfl (by kernel_rfl) (by kernel_rfl) (by kernel_rfl) (fun _ _ _ h => h) (Or.inl ⟨by rfl, ?ha6⟩) (by assumption) ?ra6
    case ha6 =>
      intro w hSw
      try dsimp only at hSw
      go_simp
      try with_reducible rfl
    try simp only [Act.put, List.setIfInBounds_toArray, List.set_cons_zero, List.set_cons_succ]
    refine wpAnyH_take (i := 7) (v := ?va7) rfl (by kernel_rfl) (by kernel_rfl) (by kernel_rfl) (fun _ _ _ h => h) (Or.inl ⟨by rfl, ?ha7⟩) (by assumption) ?ra7
    case ha7 =>
      intro w hSw
      try dsimp only at hSw
      go_simp
      try with_reducible rfl
    try simp only [Act.put, List.setIfInBounds_toArray, List.set_cons_zero, List.set_cons_succ]
    refine wpAnyH_ready (rs := [8]) (by kernel_rfl) (by simp) ?_
    refine AllReadyH.cons rfl (fun K hK => ?sb8) AllReadyH.nil
    go_simp
    refine hK.out _ _ ?kb8 (fun hHeld => ?mb8)
    case kb8 =>
      try dsimp only
      exact ⟨(World.cell?_setCell_far _ _ _ _ (by simp <;> omega)).trans hHeld.1, (World.cell?_setCell_far _ _ _ _ (by simp <;> omega)).trans hHeld.2.1, (World.cell?_setCell_far _ _ _ _ (by simp <;> omega)).trans hHeld.2.2⟩
    clear hK K
    try simp only [Act.put, List.setIfInBounds_toArray, List.set_cons_zero, List.set_cons_succ]
    refine wpAnyH_done (by kernel_rfl) ?_ _
    have hj' : (shortM d zs j).length = N := shortM_length _ _ _ (by have := HN.out; omega) |>.trans HN.out
    have hz1 : (shortM d zs (j + 1)).length = N := shortM_length _ _ _ (by have := HN.out; omega) |>.trans HN.out
    have t8 : Boxed (Y.setCell ⟨g, j, none⟩ (.int .u32 q)).drew (w1.heap.size + 1) 60 (.int .u64 (r * 4294967296 + x)) := Boxed.far p8 (by simp; omega) _
    have t7 : Boxed (Y.setCell ⟨g, j, none⟩ (.int .u32 q)).drew w1.heap.size 23 (.slice (some ⟨g, 0, none⟩) N cp) := Boxed.far p7 (by simp; omega) _
    have t9 : Boxed (Y.setCell ⟨g, j, none⟩ (.int .u32 q)).drew (w1.heap.size + 1 + 1) 23 (.slice (some ⟨g, 0, none⟩) N cp) := Boxed.far p9 (by simp; omega) _
    have t3 : Boxed (Y.setCell ⟨g, j, none⟩ (.int .u32 q)).drew w.heap.size 63 (.int .u32 d) := Boxed.far p3 (by simp; omega) _
    have tp : Part (Y.setCell ⟨g, j, none⟩ (.int .u32 q)).drew g cp (shortM d zs j) := by
      have h := pp.set j (by omega) q
      rw [HST.out] at h
      exact h
    have tB : Below w.heap.size w (Y.setCell ⟨g, j, none⟩ (.int .u32 q)).drew := (pB.setCell (p := ⟨g, j, none⟩) (by simp; omega) _).drew
    have tK : KeepsOthers X (Y.setCell ⟨g, j, none⟩ (.int .u32 q)).drew := (pK.trans (KeepsOthers.setCell _ _ _)).trans (KeepsOthers.drew _)
    clear hHeld p8 p7 p9 p3 pp pB pK c8 c7 c3 cg fg
    generalize (Y.setCell ⟨g, j, none⟩ (.int .u32 q)).drew = Z at *
    have d8 := t8.cell
    have f8 := t8.frozen
    have d3 := t3.cell
    gi_wp2_with fail
    refine ⟨(tK.trans (KeepsOthers.setCell _ _ _)).from _, HDN.out, ⟨⟨⟨⟨?_, Boxed.far t3 (by simp; omega) _⟩, Boxed.far t7 (by simp) _⟩, ?_⟩, Boxed.far t9 (by simp) _⟩, tB.setCell (p := ⟨w1.heap.size + 1, 0, none⟩) (by simp; omega) _⟩
    · have h := (tp.far (p := ⟨w1.heap.size + 1, 0, none⟩) (by simp; omega) (.int .u64 m)).num hg hle
      rw [hj'] at h
      exact h
    · rw [HM.out]
      exact t8.set _
  case done =>
    rintro D ys X hD hdn ⟨_, ⟨⟨⟨⟨nq, b3⟩, b7⟩, b8⟩, b9⟩, hB⟩ hK
    have hyl : ys.length = N := hdn.1
    rw [hyl, Nat.sub_self] at nq b8
    have e1 : shortM d zs 0 = (shortW d zs).1 := by simp [shortM]
    rw [e1] at nq
    rw [List.drop_zero] at b8
    have hsX := hB.size
    have hl := HN.out
    obtain ⟨br0, br1⟩ := shortW_rest hd0 zs
    have hv := val_shortW d zs
    obtain ⟨e2, e3⟩ := quo_eq (show 0 < d by omega) hv ⟨br0, br1⟩
    rw [HQE.out] at e2 e3
    have wq := shortW_wf hd0 wz
    obtain ⟨r, hr⟩ : ∃ r, (shortW d zs).2 = r := ⟨_, rfl⟩
    have hln : (shortW d zs).1.length = N := by rw [shortW_length, hl]
    rw [hr] at b8 br0 br1 e3
    have hwr : IntKind.u32.wrap r = r := by rw [wrap_u32]; exact Int.emod_eq_of_lt br0 (by omega)
    have c8 := b8.cell
    have c7 := b7.cell
    have E2 := Lib.hid e2
    have E3 := Lib.hid e3
    obtain ⟨qs, hqs⟩ : ∃ qs, (shortW d zs).1 = qs := ⟨_, rfl⟩
    rw [hqs] at nq wq hln
    have E4 := Lib.hid hqs
    obtain ⟨adq, capq, hq1, hq2, hq3, _, _⟩ := nq.read
    rw [hln] at hq1
    simp only [Value.slice.injEq, true_and] at hq1
    obtain ⟨rfl, rfl⟩ := hq1
    have Aq : Arg X.drew (.slice ad N cp) qs ad cp := ⟨by rw [hln], hq2.later ((Below.refl X.heap.size X).drew), hq3, wq⟩
    clear hv e1 e2 e3 hqs hr nq hq2 hq3 jq jq2 j3 j7 j8 j9
    gi_wp2_with fail
    refine wpIn_wide.2 ?_
    go_region_held3 (fun X' => X'.cell? ⟨w1.heap.size, 0, none⟩ = some (.slice ad N cp) ∧ X'.cell? ⟨w1.heap.size + 1, 0, none⟩ = some (.int .u64 r))
      (first | exact ⟨(hb2.cell (p := ⟨w1.heap.size, 0, none⟩) (World.block_lt_of_cell? X _ c7)).trans c7, (hb2.cell (p := ⟨w1.heap.size + 1, 0, none⟩) (World.block_lt_of_cell? X _ c8)).trans c8⟩ | go_keep)
      (first | (go_at_call 82; refine (trim_res Aq (by omega)).mono ?_; rintro e w2 ⟨r2, z2, rfl, q2, n2, hb2⟩))
    gi_wp2_with fail
    have hDX : D < X.heap.size := (Array.getElem?_eq_some_iff.1 hK).1
    have hK2 : w2.heap[D]? = some (.deferred (some [])) := (hb2.block D hDX).trans hK
    refine ⟨by simp, .inl ⟨_, _, rfl, run_takeDeferred hK2, ?_⟩⟩
    have hs2 : X.heap.size ≤ w2.heap.size := hb2.size
    have ev : val qs = val xs / d := by rw [← E4.out, E2.out]
    refine ⟨.tuple #[r2, .int .u32 r, .int .i64 0], by simp [results, Try.f64, go_sem], r2, by rw [← E3.out], z2, ⟨ownsRow_putObj (q2.num.mono (show w.heap.size ≤ X.drew.heap.size from hsX)) (.deferred none) hK2 rfl, q2.wf, q2.full, q2.eq.trans ev⟩, by omega, ?_⟩
    have hb2' : Below w.heap.size X w2 := Below.mono (show Below X.heap.size X w2 from ⟨hb2.os, hb2.tape, hb2.output, hb2.size, hb2.block⟩) hsX
    exact (hB.trans hb2').trans (belowK_b (w := w) (Nat.le_refl _) w2 D _ _ (by omega) hK2 rfl rfl)
end
section
open Go.RowKit
set_option linter.unusedVariables false
set_option linter.unusedSimpArgs false
theorem est_of {ps ys : List Int} (n : Nat) (hp : Wf ps) (hy : Wf ys) (lp : ps.length = n + 3) (ly : ys.length = n + 2) (ht : 2147483648 ≤ ys.getD (n + 1) 0) (hlt : val ps < 4294967296 * val ys) :
    Est (val ps) (val ys) (ps.getD (n + 2) 0 * 4294967296 + ps.getD (n + 1) 0) (ps.getD n 0) (ys.getD (n + 1) 0) (ys.getD n 0) (4294967296 ^ n) (val (ps.take n)) (val (ys.take n)) := by
  have hU : val ps = (ps.getD (n + 2) 0 * 4294967296 + ps.getD (n + 1) 0) * (4294967296 * 4294967296 ^ n) + ps.getD n 0 * 4294967296 ^ n + val (ps.take n) := by
    have h := val_take_succ ps (n + 2)
    have e2 : (4294967296 : Int) ^ (n + 2) = 4294967296 * (4294967296 * 4294967296 ^ n) := by rw [Int.pow_succ, Int.pow_succ, Int.mul_comm, Int.mul_comm (4294967296 ^ n)]
    have e1 : (4294967296 : Int) ^ (n + 1) = 4294967296 * 4294967296 ^ n := by rw [Int.pow_succ, Int.mul_comm]
    rw [List.take_of_length_le (by omega), val_take_succ ps (n + 1), val_take_succ ps n, e2, e1] at h
    rw [h]
    generalize (4294967296 : Int) ^ n = P
    generalize ps.getD (n + 2) 0 = x
    generalize ps.getD (n + 1) 0 = y
    generalize ps.getD n 0 = z
    generalize val (ps.take n) = t
    clear h hp hy lp ly ht hlt e1 e2
    grind
  have hV : val ys = ys.getD (n + 1) 0 * (4294967296 * 4294967296 ^ n) + ys.getD n 0 * 4294967296 ^ n + val (ys.take n) := by
    have h := val_take_succ ys (n + 1)
    rw [List.take_of_length_le (by omega), val_take_succ ys n, Int.pow_succ] at h
    rw [h]
    generalize (4294967296 : Int) ^ n = P
    grind
  have b1 := hp.getD (n + 2)
  have b2 := hp.getD (n + 1)
  have b3 := hp.getD n
  have b4 := hy.getD (n + 1)
  have b5 := hy.getD n
  have l1 := val_lt (hp.take n)
  have l2 := val_lt (hy.take n)
  rw [List.length_take, Nat.min_eq_left (by omega)] at l1 l2
  exact ⟨hU, hV, by have := pow_pos' n; omega, val_nonneg (hp.take n), l1, val_nonneg (hy.take n), l2, ht, b4.2, b5.1, b5.2, b3.1, b3.2, by omega, hlt⟩
set_option maxRecDepth 100000 in
set_option maxHeartbeats 4000000 in
theorem estimate_any {pg po bg bo : Nat} {ps ys : List Int} {capp capb : Nat} {w : World} (n : Nat) (hp : Wf ps) (hy : Wf ys) (lp : ps.length = n + 3) (ly : ys.length = n + 2) (hm : n ≤ 1099511627776)
    (cp : ∀ i, i < ps.length → w.cell? ⟨pg, po + i, none⟩ = some (.int .u32 (ps.getD i 0))) (cy : ∀ i, i < ys.length → w.cell? ⟨bg, bo + i, none⟩ = some (.int .u32 (ys.getD i 0)))
    (ht : 2147483648 ≤ ys.getD (n + 1) 0) (hlt : val ps < 4294967296 * val ys) :
    Calls Try.prog 105 #[.slice (some ⟨pg, po, none⟩) ps.length capp, .slice (some ⟨bg, bo, none⟩) ys.length capb] w fun e w' =>
      ∃ q : Int, e = .returned (.int .u64 q) ∧ 0 ≤ q ∧ q ≤ 4294967295 ∧ 0 ≤ val ps - q * val ys + val ys ∧ val ps < (q + 1) * val ys ∧ Below w.heap.size w w' := by
  have E := est_of n hp hy lp ly ht hlt
  have c2 := cp (n + 2) (by omega)
  have c1 := cp (n + 1) (by omega)
  have c0 := cp n (by omega)
  have d1 := cy (n + 1) (by omega)
  have d0 := cy n (by omega)
  obtain ⟨bp0, bp1⟩ := hp.getD (n + 2)
  obtain ⟨bq0, bq1⟩ := hp.getD (n + 1)
  obtain ⟨u2, h2⟩ : ∃ u, ps.getD (n + 2) 0 = u := ⟨_, rfl⟩
  obtain ⟨u1, h1⟩ : ∃ u, ps.getD (n + 1) 0 = u := ⟨_, rfl⟩
  obtain ⟨u0, h0⟩ : ∃ u, ps.getD n 0 = u := ⟨_, rfl⟩
  obtain ⟨v1, g1⟩ : ∃ u, ys.getD (n + 1) 0 = u := ⟨_, rfl⟩
  obtain ⟨v0, g0⟩ : ∃ u, ys.getD n 0 = u := ⟨_, rfl⟩
  rw [h2] at E c2 bp0 bp1
  rw [h1] at E c1 bq0 bq1
  rw [h0] at E c0
  rw [g1] at E d1
  rw [g0] at E d0
  obtain ⟨N, hN⟩ : ∃ N, ps.length = N := ⟨_, rfl⟩
  obtain ⟨m, hm'⟩ : ∃ m, ys.length = m := ⟨_, rfl⟩
  obtain ⟨j1, hj1⟩ : ∃ j1, n + 1 = j1 := ⟨_, rfl⟩
  rw [hN, hm']
  rw [show n + 2 = m by omega] at c2
  rw [hj1] at c1 d1
  have e1 : (m : Int) - 1 = (j1 : Int) := by omega
  have e0 : (m : Int) - 2 = (n : Int) := by omega
  have i1 : (j1 : Int) < m := by omega
  have i0 : (n : Int) < m := by omega
  have i2 : (m : Int) < N := by omega
  have i3 : (j1 : Int) < N := by omega
  have i4 : (n : Int) < N := by omega
  have i5 : m ≤ 1099511627778 := by omega
  clear cp cy h2 h1 h0 g1 g0 ht hlt hp hy lp ly hN hm' hj1
  generalize val ps = U at *
  generalize val ys = V at *
  obtain ⟨high, hh⟩ : ∃ high, u2 * 4294967296 + u1 = high := ⟨_, rfl⟩
  have hor : bits .or .u64 (u2 * 4294967296) u1 = high := by rw [or_u64 ⟨bp0, bp1⟩ ⟨bq0, bq1⟩]; omega
  rw [hh] at E
  have a0 := E.a0
  have a1 := E.a1
  have b0 := E.b0
  have b1 := E.b1
  have l0 := E.l0
  have l1 := E.l1
  have hh0 := E.h0
  have hhm : high < 18446744073709551616 := by omega
  obtain ⟨q0, hq0⟩ : ∃ q, high / v1 = q := ⟨_, rfl⟩
  obtain ⟨r0, hr0⟩ : ∃ r, high % v1 = r := ⟨_, rfl⟩
  have htd : Int.tdiv high v1 = q0 := by rw [Int.tdiv_eq_ediv_of_nonneg hh0, hq0]
  have htm : Int.tmod high v1 = r0 := by rw [Int.tmod_eq_emod_of_nonneg hh0, hr0]
  have hqr : q0 * v1 + r0 = high := by have h := Int.mul_ediv_add_emod high v1; rw [hq0, hr0, Int.mul_comm] at h; exact h
  have br0 : 0 ≤ r0 := by rw [← hr0]; exact Int.emod_nonneg _ (by omega)
  have br1 : r0 < v1 := by rw [← hr0]; exact Int.emod_lt_of_pos _ (by omega)
  have bq2 : 0 ≤ q0 := by rw [← hq0]; exact Int.ediv_nonneg hh0 (by omega)
  have bq3 : q0 ≤ 8589934592 := by
    have h1 := mul_le_l (a := 2147483648) (b := v1) bq2 a0
    omega
  have hfirst : U < (q0 + 1) * V := by rw [← hq0]; exact E.first
  have hv1 : v1 ≠ 0 := by omega
  have hwq : IntKind.u64.wrap q0 = q0 := wrap_u64 (by omega) (by omega)
  have hwr : IntKind.u64.wrap r0 = r0 := wrap_u64 (by omega) (by omega)
  have hww : IntKind.u64.wrap v1 = v1 := wrap_u64 (by omega) (by omega)
  have HQR := Lib.hid hqr
  have HF := Lib.hid hfirst
  clear hq0 hr0 hqr hfirst
  have HH := Lib.hid hh
  have HE := Lib.hid E
  clear hh E
  go_enter Try.func105, Try.ntmps105
  go_wp2
  go_step3
  go_wp2
  go_quiet (fail)
  go_wp2
  go_quiet (fail)
  go_wp2
  go_quiet (fail)
  go_wp2
  go_step3
  go_wp2
  go_loopw [10, 11] (fun q r wr => ∃ Q R : Int, q = .int .u64 Q ∧ r = .int .u64 R ∧ Q * v1 + R = high ∧ 0 ≤ Q ∧ Q ≤ 8589934592 ∧ 0 ≤ R ∧ R < 4294967296 + v1 ∧ U < (Q + 1) * V ∧ Below w.heap.size w wr) (fun q _ _ => (intOf q).toNat)
  case atStart => exact ⟨q0, r0, rfl, rfl, HQR.out, bq2, bq3, br0, by omega, HF.out, ⟨rfl, rfl, rfl, Nat.le_refl _, fun _ _ => rfl⟩⟩
  case round =>
    obtain ⟨Q, R, rfl, rfl, hQR, hQ0, hQ1, hR0, hR1, hU, hb⟩ := hrel
    have hsz := hb.size
    have HQR := Lib.hid hQR
    have HU := Lib.hid hU
    have E := HE.out
    clear hwq hwr htd htm br0 br1 bq2 bq3 hor e1 e0 i1 i0 i2 i3 i4 c2 c1 c0 d1 d0 hQR hU
    by_cases hR : R ≤ 4294967295
    · by_cases hQ : 4294967295 < Q
      · have hu := E.step HQR.out hQ0 (.inl hQ)
        have hq1 : (Q - 1) * v1 + (R + v1) = high := by have h := HQR.out; rw [Int.sub_mul, Int.one_mul]; omega
        have HU2 := Lib.hid hu
        have HQ2 := Lib.hid hq1
        clear hu hq1 E
        go_wp2
        go_roundw
        case rel => exact ⟨Q - 1, R + v1, rfl, rfl, HQ2.out, by omega, by omega, by omega, by omega, HU2.out, hb⟩
        case measure => simp [intOf]; omega
      · obtain ⟨p, hp⟩ : ∃ p, Q * v0 = p := ⟨_, rfl⟩
        have hpb := limb_prod (q := Q) (y := v0) ⟨hQ0, by omega⟩ ⟨b0, b1⟩
        rw [hp] at hpb
        obtain ⟨hp0, hp1⟩ := hpb
        have hor2 : bits .or .u64 (R * 4294967296) u0 = R * 4294967296 + u0 := or_u64' ⟨hR0, by omega⟩ ⟨l0, l1⟩
        by_cases hgt : R * 4294967296 + u0 < p
        · have hQ2 : 0 < Q := by
            rcases Int.lt_or_le 0 Q with h | h
            · exact h
            · have h0 : Q = 0 := by omega
              rw [h0, Int.zero_mul] at hp
              omega
          have hu := E.step HQR.out hQ0 (.inr (by rw [hp]; exact hgt))
          have hq1 : (Q - 1) * v1 + (R + v1) = high := by have h := HQR.out; rw [Int.sub_mul, Int.one_mul]; omega
          have HU2 := Lib.hid hu
          have HQ2 := Lib.hid hq1
          clear hu hq1 E
          go_wp2
          go_roundw
          case rel => exact ⟨Q - 1, R + v1, rfl, rfl, HQ2.out, by omega, by omega, by omega, by omega, HU2.out, hb⟩
          case measure => simp [intOf]; omega
        · have hd := E.done HQR.out hQ0 hR0 (.inr ⟨by omega, by rw [hp]; omega⟩)
          have HD := Lib.hid hd
          clear hd E
          go_wp2
          go_ret
          exact ⟨Q, rfl, hQ0, HD.out.1, HD.out.2, HU.out, hb⟩
    · have hd := E.done HQR.out hQ0 hR0 (.inl (by omega))
      have HD := Lib.hid hd
      clear hd E
      go_wp2
      go_ret
      exact ⟨Q, rfl, hQ0, HD.out.1, HD.out.2, HU.out, hb⟩
end
section
open Go.RowKit
set_option linter.unusedVariables false
set_option linter.unusedSimpArgs false
/-- the row zs, from i on k limbs replaced by ls -/
def putAt (zs : List Int) (i : Nat) (ls : List Int) : List Int := zs.take i ++ ls ++ zs.drop (i + ls.length)
theorem putAt_length (zs ls : List Int) (i : Nat) (h : i + ls.length ≤ zs.length) : (putAt zs i ls).length = zs.length := by
  unfold putAt; simp only [List.length_append, List.length_take, List.length_drop]; omega
theorem putAt_nil (zs : List Int) (i : Nat) : putAt zs i [] = zs := by simp [putAt]
theorem putAt_far (zs ls : List Int) (i k : Nat) (h : i + ls.length ≤ zs.length) (hk : i + ls.length ≤ k) : (putAt zs i ls).getD k 0 = zs.getD k 0 := by
  unfold putAt
  simp only [List.getD]
  rw [List.getElem?_append_right (by simp only [List.length_append, List.length_take]; omega), List.getElem?_drop]
  congr 2
  simp only [List.length_append, List.length_take]
  omega
theorem putAt_snoc (zs ls : List Int) (i : Nat) (x : Int) (h : i + ls.length < zs.length) : (putAt zs i ls).set (i + ls.length) x = putAt zs i (ls ++ [x]) := by
  unfold putAt
  have hl : (zs.take i ++ ls).length = i + ls.length := by simp only [List.length_append, List.length_take]; omega
  rw [List.set_append_right _ _ (by omega), hl, Nat.sub_self, List.drop_eq_getElem_cons h, List.set_cons_zero]
  simp [List.append_assoc, Nat.add_assoc]
theorem putAt_take (zs ls : List Int) (i : Nat) (h : i + ls.length ≤ zs.length) : (putAt zs i ls).take i = zs.take i := by
  unfold putAt
  rw [List.append_assoc, List.take_append_of_le_length (by rw [List.length_take]; omega), List.take_take]
  congr 1; omega
theorem putAt_mid (zs ls : List Int) (i : Nat) (h : i + ls.length ≤ zs.length) : ((putAt zs i ls).drop i).take ls.length = ls := by
  unfold putAt
  rw [List.append_assoc, List.drop_left' (by rw [List.length_take]; omega), List.take_left' rfl]
theorem putAt_drop (zs ls : List Int) (i : Nat) (h : i + ls.length ≤ zs.length) : (putAt zs i ls).drop (i + ls.length) = zs.drop (i + ls.length) := by
  unfold putAt
  rw [List.drop_left' (by simp only [List.length_append, List.length_take]; omega)]
theorem putAt_wf {zs ls : List Int} (i : Nat) (hz : Wf zs) (hl : Wf ls) : Wf (putAt zs i ls) := ((hz.take i).append hl).append (hz.drop _)
/-- m limbs from i on -/
def sub (zs : List Int) (i m : Nat) : List Int := (zs.drop i).take m
theorem sub_getD (zs : List Int) (i m k : Nat) (h : k < m) : (sub zs i m).getD k 0 = zs.getD (i + k) 0 := by
  unfold sub
  simp only [List.getD]
  rw [List.getElem?_take_of_lt h, List.getElem?_drop]
theorem sub_length (zs : List Int) (i m : Nat) (h : i + m ≤ zs.length) : (sub zs i m).length = m := by unfold sub; rw [List.length_take, List.length_drop]; omega
theorem sub_wf {zs : List Int} (i m : Nat) (h : Wf zs) : Wf (sub zs i m) := (h.drop i).take m
theorem sub_putAt (zs ls : List Int) (i m : Nat) (hm : ls.length = m) (h : i + m ≤ zs.length) : sub (putAt zs i ls) i m = ls := by unfold sub; rw [← hm]; exact putAt_mid _ _ _ (by omega)
theorem putAt_twice (zs ls ks : List Int) (i : Nat) (h : i + ls.length ≤ zs.length) (hk : ks.length = ls.length) : putAt (putAt zs i ls) i ks = putAt zs i ks := by
  have h1 := putAt_take zs ls i h
  have h2 := putAt_drop zs ls i h
  unfold putAt at *
  rw [hk, h1, h2]
/-- what takeAway leaves, of n + 1 limbs, and whether they were less -/
def takeL (ps ys : List Int) (q : Int) : List Int := (takeTo ps ys q ys.length).1 ++ [(ps.getD ys.length 0 - (takeTo ps ys q ys.length).2 % 4294967296) % 4294967296]
def takeB (ps ys : List Int) (q : Int) : Bool := decide (ps.getD ys.length 0 < (takeTo ps ys q ys.length).2)
theorem takeL_length (ps ys : List Int) (q : Int) : (takeL ps ys q).length = ys.length + 1 := by simp [takeL, takeTo_length]
theorem takeL_wf (ps ys : List Int) (q : Int) : Wf (takeL ps ys q) := (takeTo_wf _ _ _ _).append (Wf.cons (by omega) Wf.nil)
theorem val_takeL {ps ys : List Int} {q : Int} (hp : Wf ps) (hy : Wf ys) (hq : 0 ≤ q ∧ q ≤ 4294967295) (hl : ps.length = ys.length + 1) :
    val (takeL ps ys q) = val ps - q * val ys + (if takeB ps ys q then 4294967296 ^ (ys.length + 1) else 0) := by
  have h1 := val_takeTo ps ys q hp ys.length
  have h2 := takeTo_owed ps ys q hy hq ys.length
  have h3 := val_take_succ ps ys.length
  rw [← hl, List.take_of_length_le (Nat.le_refl _)] at h3
  rw [List.take_of_length_le (Nat.le_refl ys.length)] at h1
  have hb := hp.getD ys.length
  unfold takeL takeB
  rw [val_append, takeTo_length]
  simp only [val, Int.mul_zero, Int.add_zero]
  generalize (takeTo ps ys q ys.length).2 = o at *
  generalize ps.getD ys.length 0 = p at *
  rw [Int.pow_succ]
  generalize (4294967296 : Int) ^ ys.length = P at *
  have hs : (p - o % 4294967296) % 4294967296 = p - o + (if decide (p < o) = true then 4294967296 else 0) := by
    by_cases h : p < o
    · rw [if_pos (decide_eq_true h)]; omega
    · rw [if_neg (by simpa using h)]; omega
  rw [hs, h3]
  by_cases h : p < o
  · rw [if_pos (decide_eq_true h), if_pos (decide_eq_true h)]
    have e : P * (p - o + 4294967296) = P * p - P * o + P * 4294967296 := by rw [Int.mul_add, Int.mul_sub]
    omega
  · rw [if_neg (by simpa using h), if_neg (by simpa using h)]
    have e : P * (p - o + 0) = P * p - P * o := by rw [Int.add_zero, Int.mul_sub]
    omega
set_option maxRecDepth 100000 in
set_option maxHeartbeats 4000000 in
theorem take_any {g cap capp i : Nat} {bg bo capb : Nat} {zs ys : List Int} {w : World} (q : Int) (hz : Part w g cap zs) (hwz : Wf zs) (hwy : Wf ys) (hq : 0 ≤ q ∧ q ≤ 4294967295) (hi : i + ys.length < zs.length) (hm : zs.length ≤ 1099511627776)
    (cy : ∀ j, j < ys.length → w.cell? ⟨bg, bo + j, none⟩ = some (.int .u32 (ys.getD j 0))) (hbg : bg ≠ g) :
    Calls Try.prog 106 #[.slice (some ⟨g, i, none⟩) (ys.length + 1 : Nat) capp, .int .u64 q, .slice (some ⟨bg, bo, none⟩) ys.length capb] w fun e w' =>
      e = .returned (.bool (takeB (sub zs i (ys.length + 1)) ys q)) ∧ Part w' g cap (putAt zs i (takeL (sub zs i (ys.length + 1)) ys q)) ∧ Only g w w' := by
  obtain ⟨N, hN⟩ : ∃ N, ys.length + 1 = N := ⟨_, rfl⟩
  rw [hN]
  obtain ⟨hq0, hq1⟩ := hq
  go_enter Try.func106, Try.ntmps106
  go_wp2
  go_loopw [7, 8, 9, 10, 15] (fun o _ _ _ k wr => ∃ k' : Nat, k' ≤ ys.length ∧ k = .int .i64 k' ∧ o = .int .u64 (takeTo (sub zs i N) ys q k').2 ∧ Part wr g cap (putAt zs i (takeTo (sub zs i N) ys q k').1) ∧ Only g w wr) (fun _ _ _ _ k _ => ys.length - (intOf k).toNat)
  case atStart => exact ⟨0, Nat.zero_le _, rfl, rfl, by simp only [takeTo, putAt_nil]; exact hz, Only.refl _ _⟩
  case round =>
    obtain ⟨k, hk, rfl, rfl, hpart, ho⟩ := hrel
    obtain ⟨o, hok⟩ : ∃ o, (takeTo (sub zs i N) ys q k).2 = o := ⟨_, rfl⟩
    obtain ⟨bo0, bo1⟩ : 0 ≤ o ∧ o ≤ 4294967296 := hok ▸ takeTo_owed (sub zs i N) ys q hwy ⟨hq0, hq1⟩ k
    have hll := takeTo_length (sub zs i N) ys q k
    rw [hok]
    by_cases hlt : k < ys.length
    · obtain ⟨y, hyk⟩ : ∃ y, ys.getD k 0 = y := ⟨_, rfl⟩
      obtain ⟨by0, by1⟩ : 0 ≤ y ∧ y < 4294967296 := hyk ▸ hwy.getD k
      obtain ⟨p, hpk⟩ : ∃ p, zs.getD (i + k) 0 = p := ⟨_, rfl⟩
      have hpk2 : (sub zs i N).getD k 0 = p := by rw [← hpk]; exact sub_getD _ _ _ _ (by omega)
      obtain ⟨bp0, bp1⟩ : 0 ≤ p ∧ p < 4294967296 := hpk ▸ hwz.getD (i + k)
      have cY := (ho.cell (p := ⟨bg, bo + k, none⟩) hbg).trans (cy k hlt)
      rw [hyk] at cY
      have hpl : (putAt zs i (takeTo (sub zs i N) ys q k).1).length = zs.length := putAt_length _ _ _ (by omega)
      have cZ := hpart.cell (i + k) (by omega)
      rw [putAt_far _ _ _ _ (by omega) (by omega), hpk] at cZ
      have fZ := hpart.free (i + k)
      have hpr := limb_prod (q := q) (y := y) ⟨hq0, hq1⟩ ⟨by0, by1⟩
      obtain ⟨s, hs⟩ : ∃ s, q * y = s := ⟨_, rfl⟩
      rw [hs] at hpr
      obtain ⟨bs0, bs1⟩ := hpr
      have hkN : (k : Int) < (N : Int) := by omega
      have hset := hpart.set (i + k) (by omega) ((p - (o + s) % 4294967296) % 4294967296)
      have e1 : takeTo (sub zs i N) ys q (k + 1) = ((takeTo (sub zs i N) ys q k).1 ++ [(p - (o + s) % 4294967296) % 4294967296], (o + s) / 4294967296 + (if p < (o + s) % 4294967296 then 1 else 0)) := by
        simp only [takeTo]; rw [hpk2, hyk, hok, hs]
      rw [show i + k = i + (takeTo (sub zs i N) ys q k).1.length by omega, putAt_snoc _ _ _ _ (by omega), hll] at hset
      have e2 : (p - (o + s) % 4294967296) % 4294967296 = (p - (o + s)) % 4294967296 := by omega
      rw [e2] at e1 hset
      have H1 := Lib.hid e1
      have hsv : ∀ v, v = (p - (o + s)) % 4294967296 → Part (wr.setCell ⟨g, i + k, none⟩ (.int .u32 v)) g cap (putAt zs i ((takeTo (sub zs i N) ys q k).1 ++ [(p - (o + s)) % 4294967296])) := fun v hv => by rw [hv]; exact hset
      have HSET := Lib.hid hsv
      clear hsv
      have HSS := Lib.hid hs
      clear hpart cy hyk hpk hpk2 e1 e2 hset hok hll hpl hN
      have hO : ∀ v, Only g w (wr.setCell ⟨g, i + k, none⟩ v) := fun v => ho.trans (Only.set _ _ _ _)
      have HO := Lib.hid hO
      clear hO
      by_cases hb : p < (o + s) % 4294967296
      · have e3 : takeTo (sub zs i N) ys q (k + 1) = ((takeTo (sub zs i N) ys q k).1 ++ [(p - (o + s)) % 4294967296], (o + s) / 4294967296 + 1) := by rw [H1.out, if_pos hb]
        have H3 := Lib.hid e3
        clear e3
        go_wp2
        go_roundw
        case rel => exact ⟨k + 1, by omega, by go_num, by rw [H3.out], by rw [H3.out]; exact HSET.out _ (by omega), HO.out _⟩
        case measure => simp [intOf]; omega
      · have e3 : takeTo (sub zs i N) ys q (k + 1) = ((takeTo (sub zs i N) ys q k).1 ++ [(p - (o + s)) % 4294967296], (o + s) / 4294967296) := by rw [H1.out, if_neg hb, Int.add_zero]
        have H3 := Lib.hid e3
        clear e3
        go_wp2
        go_roundw
        case rel => exact ⟨k + 1, by omega, by go_num, by rw [H3.out], by rw [H3.out]; exact HSET.out _ (by omega), HO.out _⟩
        case measure => simp [intOf]; omega
    · obtain rfl : k = ys.length := by omega
      obtain ⟨p, hpk⟩ : ∃ p, zs.getD (i + ys.length) 0 = p := ⟨_, rfl⟩
      have hpk2 : (sub zs i N).getD ys.length 0 = p := by rw [← hpk]; exact sub_getD _ _ _ _ (by omega)
      obtain ⟨bp0, bp1⟩ : 0 ≤ p ∧ p < 4294967296 := hpk ▸ hwz.getD (i + ys.length)
      have hpl : (putAt zs i (takeTo (sub zs i N) ys q ys.length).1).length = zs.length := putAt_length _ _ _ (by omega)
      have cZ := hpart.cell (i + ys.length) (by omega)
      rw [putAt_far _ _ _ _ (by omega) (by omega), hpk] at cZ
      have fZ := hpart.free (i + ys.length)
      have hmN : (ys.length : Int) < (N : Int) := by omega
      have hset := hpart.set (i + ys.length) (by omega) ((p - o % 4294967296) % 4294967296)
      have eL : takeL (sub zs i N) ys q = (takeTo (sub zs i N) ys q ys.length).1 ++ [(p - o % 4294967296) % 4294967296] := by unfold takeL; rw [hpk2, hok]
      have eB : takeB (sub zs i N) ys q = decide (p < o) := by unfold takeB; rw [hpk2, hok]
      rw [show i + ys.length = i + (takeTo (sub zs i N) ys q ys.length).1.length by omega, putAt_snoc _ _ _ _ (by omega), hll, ← eL] at hset
      have e2 : (p - o % 4294967296) % 4294967296 = (p - o) % 4294967296 := by omega
      rw [e2] at hset
      have HB := Lib.hid eB
      have hsv : ∀ v, v = (p - o) % 4294967296 → Part (wr.setCell ⟨g, i + ys.length, none⟩ (.int .u32 v)) g cap (putAt zs i (takeL (sub zs i N) ys q)) ∧ Only g w (wr.setCell ⟨g, i + ys.length, none⟩ (.int .u32 v)) := fun v hv => by rw [hv]; exact ⟨hset, ho.trans (Only.set _ _ _ _)⟩
      have HSET := Lib.hid hsv
      clear hsv
      clear hpart cy hpk hpk2 e2 hset hok hll hpl hN eL eB ho
      go_wp2
      go_ret
      exact ⟨by rw [HB.out]; rfl, HSET.out _ (by omega)⟩
/-- what giveBack leaves -/
def giveL (ps ys : List Int) : List Int := (addTo ps ys ys.length).1 ++ [(ps.getD ys.length 0 + (addTo ps ys ys.length).2) % 4294967296]
theorem giveL_length (ps ys : List Int) : (giveL ps ys).length = ys.length + 1 := by simp [giveL, addTo_length]
theorem giveL_wf (ps ys : List Int) : Wf (giveL ps ys) := (addTo_wf _ _ _).append (Wf.cons (by omega) Wf.nil)
theorem val_giveL {ps ys : List Int} (hp : Wf ps) (hy : Wf ys) (hl : ps.length = ys.length + 1) :
    val (giveL ps ys) = val ps + val ys ∨ val (giveL ps ys) = val ps + val ys - 4294967296 ^ (ys.length + 1) := by
  have h1 := val_addTo ps ys ys.length
  have h2 := addTo_carry ps ys hp hy ys.length
  have h3 := val_take_succ ps ys.length
  rw [← hl, List.take_of_length_le (Nat.le_refl _)] at h3
  rw [List.take_of_length_le (Nat.le_refl ys.length)] at h1
  have hb := hp.getD ys.length
  unfold giveL
  rw [val_append, addTo_length]
  simp only [val, Int.mul_zero, Int.add_zero]
  generalize (addTo ps ys ys.length).2 = o at *
  generalize ps.getD ys.length 0 = p at *
  rw [Int.pow_succ]
  generalize (4294967296 : Int) ^ ys.length = P at *
  rw [h3]
  by_cases h : p + o < 4294967296
  · left
    have e : P * ((p + o) % 4294967296) = P * p + P * o := by rw [Int.emod_eq_of_lt (by omega) h, Int.mul_add]
    omega
  · right
    have e1 : (p + o) % 4294967296 = p + o - 4294967296 := by omega
    have e : P * ((p + o) % 4294967296) = P * p + P * o - P * 4294967296 := by rw [e1, Int.mul_sub, Int.mul_add]
    omega
set_option maxRecDepth 100000 in
set_option maxHeartbeats 4000000 in
theorem give_any {g cap capp i : Nat} {bg bo capb : Nat} {zs ys : List Int} {w : World} (hz : Part w g cap zs) (hwz : Wf zs) (hwy : Wf ys) (hi : i + ys.length < zs.length) (hm : zs.length ≤ 1099511627776)
    (cy : ∀ j, j < ys.length → w.cell? ⟨bg, bo + j, none⟩ = some (.int .u32 (ys.getD j 0))) (hbg : bg ≠ g) :
    Calls Try.prog 107 #[.slice (some ⟨g, i, none⟩) (ys.length + 1 : Nat) capp, .slice (some ⟨bg, bo, none⟩) ys.length capb] w fun e w' =>
      e = .returned (.tuple #[]) ∧ Part w' g cap (putAt zs i (giveL (sub zs i (ys.length + 1)) ys)) ∧ Only g w w' := by
  obtain ⟨N, hN⟩ : ∃ N, ys.length + 1 = N := ⟨_, rfl⟩
  rw [hN]
  have hws := sub_wf i N hwz
  go_enter Try.func107, Try.ntmps107
  go_wp2
  go_loopw [4, 5, 6, 9] (fun o _ _ k wr => ∃ k' : Nat, k' ≤ ys.length ∧ k = .int .i64 k' ∧ o = .int .u64 (addTo (sub zs i N) ys k').2 ∧ Part wr g cap (putAt zs i (addTo (sub zs i N) ys k').1) ∧ Only g w wr) (fun _ _ _ k _ => ys.length - (intOf k).toNat)
  case atStart => exact ⟨0, Nat.zero_le _, rfl, rfl, by simp only [addTo, putAt_nil]; exact hz, Only.refl _ _⟩
  case round =>
    obtain ⟨k, hk, rfl, rfl, hpart, ho⟩ := hrel
    obtain ⟨o, hok⟩ : ∃ o, (addTo (sub zs i N) ys k).2 = o := ⟨_, rfl⟩
    obtain ⟨bo0, bo1⟩ : 0 ≤ o ∧ o ≤ 1 := hok ▸ addTo_carry (sub zs i N) ys hws hwy k
    have hll := addTo_length (sub zs i N) ys k
    rw [hok]
    obtain ⟨p, hpk⟩ : ∃ p, zs.getD (i + k) 0 = p := ⟨_, rfl⟩
    have hpk2 : (sub zs i N).getD k 0 = p := by rw [← hpk]; exact sub_getD _ _ _ _ (by omega)
    obtain ⟨bp0, bp1⟩ : 0 ≤ p ∧ p < 4294967296 := hpk ▸ hwz.getD (i + k)
    have hpl : (putAt zs i (addTo (sub zs i N) ys k).1).length = zs.length := putAt_length _ _ _ (by omega)
    have cZ := hpart.cell (i + k) (by omega)
    rw [putAt_far _ _ _ _ (by omega) (by omega), hpk] at cZ
    have fZ := hpart.free (i + k)
    have hkN : (k : Int) < (N : Int) := by omega
    by_cases hlt : k < ys.length
    · obtain ⟨y, hyk⟩ : ∃ y, ys.getD k 0 = y := ⟨_, rfl⟩
      obtain ⟨by0, by1⟩ : 0 ≤ y ∧ y < 4294967296 := hyk ▸ hwy.getD k
      have cY := (ho.cell (p := ⟨bg, bo + k, none⟩) hbg).trans (cy k hlt)
      rw [hyk] at cY
      have hset := hpart.set (i + k) (by omega) ((o + p + y) % 4294967296)
      have e1 : addTo (sub zs i N) ys (k + 1) = ((addTo (sub zs i N) ys k).1 ++ [(o + p + y) % 4294967296], (o + p + y) / 4294967296) := by
        simp only [addTo]; rw [hpk2, hyk, hok]
      rw [show i + k = i + (addTo (sub zs i N) ys k).1.length by omega, putAt_snoc _ _ _ _ (by omega), hll] at hset
      have hsv : ∀ v, v = (o + p + y) % 4294967296 → Part (wr.setCell ⟨g, i + k, none⟩ (.int .u32 v)) g cap (putAt zs i ((addTo (sub zs i N) ys k).1 ++ [(o + p + y) % 4294967296])) ∧ Only g w (wr.setCell ⟨g, i + k, none⟩ (.int .u32 v)) := fun v hv => by rw [hv]; exact ⟨hset, ho.trans (Only.set _ _ _ _)⟩
      have HSET := Lib.hid hsv
      have H1 := Lib.hid e1
      clear hsv hpart cy hyk hpk hpk2 e1 hset hok hll hpl hN ho
      go_wp2
      go_roundw
      case rel => exact ⟨k + 1, by omega, by go_num, by rw [H1.out]; congr 1; omega, by rw [H1.out]; exact (HSET.out _ (by omega)).1, (HSET.out _ (by omega)).2⟩
      case measure => simp [intOf]; omega
    · obtain rfl : k = ys.length := by omega
      have hset := hpart.set (i + ys.length) (by omega) ((p + o) % 4294967296)
      have eL : giveL (sub zs i N) ys = (addTo (sub zs i N) ys ys.length).1 ++ [(p + o) % 4294967296] := by unfold giveL; rw [hpk2, hok]
      rw [show i + ys.length = i + (addTo (sub zs i N) ys ys.length).1.length by omega, putAt_snoc _ _ _ _ (by omega), hll, ← eL] at hset
      have hsv : ∀ v, v = (p + o) % 4294967296 → Part (wr.setCell ⟨g, i + ys.length, none⟩ (.int .u32 v)) g cap (putAt zs i (giveL (sub zs i N) ys)) ∧ Only g w (wr.setCell ⟨g, i + ys.length, none⟩ (.int .u32 v)) := fun v hv => by rw [hv]; exact ⟨hset, ho.trans (Only.set _ _ _ _)⟩
      have HSET := Lib.hid hsv
      clear hsv hpart cy hpk hpk2 hset hok hll hpl hN eL ho
      go_wp2
      go_end0
      exact ⟨rfl, HSET.out _ (by omega)⟩
end
section
open Go.RowKit
set_option linter.unusedVariables false
set_option linter.unusedSimpArgs false
theorem Only.grownBy {b : Nat} {w w' : World} (h : Only b w w') : w.grownBy w' (some b) := h.grown
theorem Below.thenOnly {b : Nat} {w v w' : World} (h : Below w.heap.size w v) (k : Only b v w') : w.grownBy w' (some b) :=
  ⟨k.os.trans h.os, k.tape.trans h.tape, k.output.trans h.output, by rw [k.size]; exact h.size, fun i hi hb => (k.block i (fun e => hb (by rw [e]))).trans (h.block i hi)⟩
set_option maxRecDepth 100000 in
set_option maxHeartbeats 4000000 in
theorem divide_any {g cap capp i : Nat} {bg bo capb : Nat} {zs ys : List Int} {w : World} (n : Nat) (hz : Part w g cap zs) (hwz : Wf zs) (hwy : Wf ys) (hn : ys.length = n + 2) (hi : i + ys.length < zs.length) (hm : zs.length ≤ 1099511627776)
    (cy : ∀ j, j < ys.length → w.cell? ⟨bg, bo + j, none⟩ = some (.int .u32 (ys.getD j 0))) (hbg : bg ≠ g) (ht : 2147483648 ≤ ys.getD (n + 1) 0) (hlt : val (sub zs i (ys.length + 1)) < 4294967296 * val ys) :
    Calls Try.prog 98 #[.slice (some ⟨g, i, none⟩) (ys.length + 1 : Nat) capp, .slice (some ⟨bg, bo, none⟩) ys.length capb] w fun e w' =>
      ∃ (q : Int) (ls : List Int), e = .returned (.int .u32 q) ∧ 0 ≤ q ∧ q < 4294967296 ∧ ls.length = ys.length + 1 ∧ Wf ls ∧ Part w' g cap (putAt zs i ls) ∧ val ls = val (sub zs i (ys.length + 1)) - q * val ys ∧ val ls < val ys ∧ w.grownBy w' (some g) := by
  have hws := sub_wf i (ys.length + 1) hwz
  have hsl := sub_length zs i (ys.length + 1) (by omega)
  have hbl : bg < w.heap.size := World.block_lt_of_cell? w _ (cy 0 (by omega))
  have est := estimate_any (pg := g) (po := i) (bg := bg) (bo := bo) (capp := capp) (capb := capb) (w := w) n hws hwy (by omega) hn (by omega) (fun j hj => by rw [sub_getD _ _ _ _ (by omega)]; exact hz.cell (i + j) (by omega)) cy ht hlt
  rw [hsl] at est
  have hU0 := val_nonneg hws
  have hV0 := val_nonneg hwy
  obtain ⟨U, hU⟩ : ∃ U, val (sub zs i (ys.length + 1)) = U := ⟨_, rfl⟩
  obtain ⟨V, hV⟩ : ∃ V, val ys = V := ⟨_, rfl⟩
  rw [hU, hV] at est hlt
  rw [hU] at hU0 ⊢
  rw [hV] at hV0 ⊢
  obtain ⟨N, hN⟩ : ∃ N, ys.length + 1 = N := ⟨_, rfl⟩
  have tk := fun (w : World) (q : Int) hz hq cy => take_any (g := g) (cap := cap) (capp := capp) (i := i) (bg := bg) (bo := bo) (capb := capb) (zs := zs) (ys := ys) (w := w) q hz hwz hwy hq hi hm cy hbg
  rw [hN] at est tk ⊢
  have TK := Lib.hid tk
  have HU := Lib.hid hU
  have HV := Lib.hid hV
  have HN := Lib.hid hN
  have hln : 0 < ys.length := by omega
  clear tk hU hV hN hlt hn ht
  go_enter Try.func98, Try.ntmps98
  go_wp2_with fail
  refine est.mono ?_
  rintro e w1 ⟨q, rfl, hq0, hq1, hlo, hhi, hb1⟩
  have hz1 := hz.later hb1
  have cy1 : ∀ j, j < ys.length → w1.cell? ⟨bg, bo + j, none⟩ = some (.int .u32 (ys.getD j 0)) := fun j hj => (hb1.cell (p := ⟨bg, bo + j, none⟩) hbl).trans (cy j hj)
  have hvt := val_takeL (q := q) hws hwy ⟨hq0, hq1⟩ hsl
  rw [HU.out, HV.out] at hvt
  have hlt1 := val_lt (takeL_wf (sub zs i (ys.length + 1)) ys q)
  have hnn1 := val_nonneg (takeL_wf (sub zs i (ys.length + 1)) ys q)
  rw [takeL_length] at hlt1
  have hhi2 : U < q * V + V := by rw [Int.add_mul, Int.one_mul] at hhi; exact hhi
  clear est cy hz hhi
  go_wp2_with fail
  refine (TK.out w1 q hz1 ⟨hq0, hq1⟩ cy1).mono ?_
  rintro e w2 ⟨rfl, hp2, ho2⟩
  have hg2 := Below.thenOnly hb1 ho2
  rw [← HN.out] at hp2 ⊢
  obtain ⟨t, htb⟩ : ∃ t, takeB (sub zs i (ys.length + 1)) ys q = t := ⟨_, rfl⟩
  rw [htb] at hvt ⊢
  have hlsl := takeL_length (sub zs i (ys.length + 1)) ys q
  have hlsw := takeL_wf (sub zs i (ys.length + 1)) ys q
  obtain ⟨ls, hls⟩ : ∃ ls, takeL (sub zs i (ys.length + 1)) ys q = ls := ⟨_, rfl⟩
  rw [hls] at hvt hlt1 hnn1 hp2 hlsl hlsw
  clear hls htb
  cases t with
  | false =>
    simp only [Bool.false_eq_true, if_false, Int.add_zero] at hvt
    have hqw : IntKind.u32.wrap q = q := by rw [wrap_u32]; exact Int.emod_eq_of_lt hq0 (by omega)
    have HP := Lib.hid hp2
    have HVT := Lib.hid hvt
    have h2 : val ls < V := by omega
    have H2 := Lib.hid h2
    clear hp2 hvt h2 hlt1 hnn1 hlo hhi2
    go_wp2
    go_ret
    exact ⟨q, ls, rfl, hq0, by omega, hlsl.trans HN.out, hlsw, HP.out, HVT.out, H2.out, hg2⟩
  | true =>
    simp only [if_true] at hvt
    have hneg : U < q * V := by omega
    have hqp : 0 < q := by
      rcases Int.lt_or_le 0 q with h | h
      · exact h
      · have h0 : q = 0 := by omega
        rw [h0, Int.zero_mul] at hneg
        omega
    have cy2 : ∀ j, j < ys.length → w2.cell? ⟨bg, bo + j, none⟩ = some (.int .u32 (ys.getD j 0)) := fun j hj => (ho2.cell (p := ⟨bg, bo + j, none⟩) hbg).trans (cy1 j hj)
    have hpl := putAt_length zs ls i (by omega)
    have gv := give_any (g := g) (cap := cap) (capp := capp) (i := i) (bg := bg) (bo := bo) (capb := capb) (zs := putAt zs i ls) (ys := ys) (w := w2) hp2 (putAt_wf i hwz hlsw) hwy (by omega) (by omega) cy2 hbg
    rw [sub_putAt zs ls i (ys.length + 1) hlsl (by omega), putAt_twice zs ls _ i (by omega) (by rw [giveL_length, hlsl])] at gv
    have hgl := giveL_length ls ys
    have hgw := giveL_wf ls ys
    have hg0 := val_nonneg hgw
    have hg1 := val_lt hgw
    rw [hgl] at hg1
    have hfin : val (giveL ls ys) = U - (q - 1) * V := by
      have e : (q - 1) * V = q * V - V := by rw [Int.sub_mul, Int.one_mul]
      rcases val_giveL hlsw hwy (by omega) with h | h
      · rw [HV.out] at h; omega
      · rw [HV.out] at h; omega
    have hfin2 : val (giveL ls ys) < V := by
      have e : (q - 1) * V = q * V - V := by rw [Int.sub_mul, Int.one_mul]
      omega
    have HFIN := Lib.hid hfin
    have HFIN2 := Lib.hid hfin2
    rw [HN.out] at gv ⊢
    have hqw : IntKind.u32.wrap (q - 1) = q - 1 := by rw [wrap_u32]; exact Int.emod_eq_of_lt (by omega) (by omega)
    clear hvt hlt1 hnn1 hlo hhi2 hfin hfin2 hg0 hg1 hneg hp2 cy1 cy2
    go_wp2_with fail
    refine gv.mono ?_
    rintro e w3 ⟨rfl, hp3, ho3⟩
    have HP := Lib.hid hp3
    have hg3 : w.grownBy w3 (some g) := ⟨ho3.os.trans hg2.os, ho3.tape.trans hg2.tape, ho3.output.trans hg2.output, by rw [ho3.size]; exact hg2.size, fun i hi hb => (ho3.block i (fun e => hb (by rw [e]))).trans (hg2.block i hi hb)⟩
    clear hp3 gv
    go_wp2
    go_ret
    exact ⟨q - 1, _, rfl, by omega, by omega, by rw [← HN.out]; exact hgl, hgw, HP.out, HFIN.out, HFIN2.out, hg3⟩
end
section
open Go.RowKit
set_option linter.unusedVariables false
set_option linter.unusedSimpArgs false
/-- the divisor, shifted till the highest bit of its last limb is 1 -/
theorem norm_ok {ys bs : List Int} {s : Nat} (hy : Wf ys) (hb : Wf bs) (fb : trimN bs bs.length = bs.length) (h2 : 2 ≤ trimN ys ys.length) (hs : s + bitsN ys = trimN ys ys.length * 32) (hv : val bs = val ys * 2 ^ s) :
    ∃ n, bs.length = n + 2 ∧ n + 2 = trimN ys ys.length ∧ 2147483648 ≤ bs.getD (n + 1) 0 := by
  obtain ⟨n, hn⟩ : ∃ n, trimN ys ys.length = n + 2 := ⟨trimN ys ys.length - 2, by omega⟩
  rcases bitsN_is hy with ⟨h0, _⟩ | ⟨j, hj, h3, h4⟩
  · exfalso; have := (bitsN_count hy).2.1; omega
  have e1 : s + j + 1 = (n + 2) * 32 := by omega
  have l1 : (2 : Int) ^ (s + j) ≤ val bs := by
    rw [hv, Nat.add_comm, Int.pow_add]
    exact mul_le_r (Int.le_of_lt (two_pos s)) h3
  have l2 : val bs < 2 ^ (s + j + 1) := by
    rw [hv, Nat.add_assoc, Nat.add_comm s, Int.pow_add]
    exact Int.mul_lt_mul_of_pos_right h4 (two_pos s)
  rw [e1, ← pow_limb] at l2
  have e2 : (2 : Int) ^ (s + j) = 4294967296 ^ (n + 1) * 2147483648 := by
    rw [pow_limb, show s + j = (n + 1) * 32 + 31 by omega, Int.pow_add]
    rfl
  rw [e2] at l1
  have hlen : bs.length = n + 2 := by
    rcases Nat.lt_trichotomy bs.length (n + 2) with h | h | h
    · exfalso
      have k1 := val_lt hb
      have k2 : (4294967296 : Int) ^ bs.length ≤ 4294967296 ^ (n + 1) := by rw [pow_limb, pow_limb]; exact two_mono (by omega)
      have k3 := pow_pos' (n + 1)
      omega
    · exact h
    · exfalso
      have k1 := full_ge hb fb (bs.length - 1) (by omega)
      have k2 : (4294967296 : Int) ^ (n + 2) ≤ 4294967296 ^ (bs.length - 1) := by rw [pow_limb, pow_limb]; exact two_mono (by omega)
      omega
  refine ⟨n, hlen, hn.symm, ?_⟩
  have k1 := val_take_succ bs (n + 1)
  rw [List.take_of_length_le (by omega)] at k1
  have k2 := val_lt (hb.take (n + 1))
  rw [List.length_take, Nat.min_eq_left (by omega)] at k2
  rcases Int.lt_or_le (bs.getD (n + 1) 0) 2147483648 with h | h
  · exfalso
    have k3 := mul_le_l (a := bs.getD (n + 1) 0) (b := 2147483647) (c := 4294967296 ^ (n + 1)) (Int.le_of_lt (pow_pos' _)) (by omega)
    omega
  · exact h
/-- a limb of the quotient -/
theorem long_step {zs ls : List Int} {i t : Nat} {q V : Int} (hz : Wf zs) (hl : Wf ls) (hll : ls.length = t + 1) (hi : i + t < zs.length) (hV0 : 0 ≤ V) (hV : V < 4294967296 ^ t) (hlt : val zs < 4294967296 ^ (i + 1) * V) :
    val (sub zs i (t + 1)) < 4294967296 * V ∧ (val ls = val (sub zs i (t + 1)) - q * V → val ls < V → val (putAt zs i ls) = val zs - 4294967296 ^ i * (q * V) ∧ val (putAt zs i ls) < 4294967296 ^ i * V) := by
  have hp := pow_pos' i
  have hd0 : val (zs.drop (i + 1 + t)) = 0 := by
    refine val_drop0 hz _ ?_
    rw [Int.pow_add]
    have h1 := mul_le_l (a := V) (b := 4294967296 ^ t) (c := 4294967296 ^ (i + 1)) (Int.le_of_lt (pow_pos' _)) (Int.le_of_lt hV)
    omega
  have h1 := val_split (xs := zs) i (by omega)
  have h2 := val_split (xs := zs.drop i) (t + 1) (by rw [List.length_drop]; omega)
  rw [List.drop_drop, show i + (t + 1) = i + 1 + t by omega, hd0, Int.mul_zero, Int.add_zero] at h2
  have h3 := val_nonneg (hz.take i)
  have h4 := val_lt (hz.take i)
  rw [List.length_take, Nat.min_eq_left (by omega)] at h4
  have hput : val (putAt zs i ls) = val (zs.take i) + 4294967296 ^ i * val ls := by
    unfold putAt
    rw [val_cat3, hll, show i + (t + 1) = i + 1 + t by omega, hd0, List.length_take, Nat.min_eq_left (by omega), Int.mul_zero, Int.add_zero]
  have hU : val (zs.drop i) = val (sub zs i (t + 1)) := h2
  rw [hU] at h1
  generalize val (sub zs i (t + 1)) = U at *
  rw [Int.pow_succ] at hlt
  generalize (4294967296 : Int) ^ i = P at *
  refine ⟨?_, fun e1 e2 => ⟨?_, ?_⟩⟩
  · rcases Int.lt_or_le U (4294967296 * V) with h | h
    · exact h
    · exfalso
      have h5 := mul_le_l (c := P) (by omega) h
      rw [← Int.mul_assoc] at h5
      omega
  · rw [hput, h1, e1, Int.mul_sub]; omega
  · rw [hput]
    have h5 := mul_le_l (a := val ls) (b := V - 1) (c := P) (by omega) (by omega)
    rw [Int.mul_sub, Int.mul_one] at h5
    omega
theorem long_alg (Z P V q Q : Int) : Z + V * (P * 4294967296 * Q) = Z - P * (q * V) + V * (P * (q + 4294967296 * Q)) := by grind
/-- what is left, shifted back -/
theorem long_end {A B Q R s : Int} (hs : 0 < s) (h : A * s = R + B * s * Q) (h0 : 0 ≤ R) (h1 : R < B * s) : Q = A / B ∧ R / s = A % B := by
  have hB : 0 < B := by
    rcases Int.lt_or_le 0 B with k | k
    · exact k
    · exfalso
      have := mul_le_r (a := B) (b := 0) (c := s) (by omega) k
      omega
  have e : R = (A - B * Q) * s := by rw [Int.sub_mul]; have : B * Q * s = B * s * Q := by rw [Int.mul_assoc, Int.mul_comm Q, ← Int.mul_assoc]; 
                                     omega
  have hr : R / s = A - B * Q := by rw [e]; exact Int.mul_ediv_cancel _ (by omega)
  have r0 : 0 ≤ A - B * Q := by rw [← hr]; exact Int.ediv_nonneg h0 (by omega)
  have r1 : A - B * Q < B := by
    rw [← hr]
    exact Int.ediv_lt_of_lt_mul hs h1
  obtain ⟨q1, q2⟩ := quo_eq (V := Q) (d := B) (r := A - B * Q) (N := A) hB (by rw [Int.mul_comm]; omega) ⟨r0, r1⟩
  exact ⟨q1, by rw [hr]; exact q2⟩
theorem Lim.grown {w w' : World} {ad : Option Addr} {xs : List Int} {row : Option Nat} (h : Lim w ad xs) (k : w.grownBy w' row) (hne : ∀ a, ad = some a → some a.block ≠ row) : Lim w' ad xs := by
  rcases h with rfl | ⟨b, off, rfl, hc⟩
  · exact .inl rfl
  · exact .inr ⟨b, off, rfl, fun i hi => k.cell (hc i hi) (show some b ≠ row from hne ⟨b, off, none⟩ rfl)⟩
set_option maxRecDepth 100000 in
set_option maxHeartbeats 4000000 in
theorem long_any {u v : Value} {xs ys : List Int} {a b : Option Addr} {capa capb : Nat} {w : World} (h1 : Arg w u xs a capa) (h2 : Arg w v ys b capb) (hx : xs.length ≤ 134217728) (hy : ys.length ≤ 134217728) (h2y : 2 ≤ trimN ys ys.length) (hle : val ys ≤ val xs) :
    Calls Try.prog 88 #[u, v] w fun e w' => ∃ r t, e = .returned (.tuple #[r, t]) ∧ Below w.heap.size w w' ∧ (∃ zs, Res w.heap.size w' r zs (val xs / val ys) ∧ zs.length ≤ xs.length + 2) ∧ (∃ zs, Res w.heap.size w' t zs (val xs % val ys) ∧ zs.length ≤ xs.length + 2) := by
  obtain ⟨c1, c2, c3⟩ := bitsN_count h2.wf
  have hty := trim_le ys
  have hcount := count_any h2 (by omega)
  have hbits := bits_res h2 (by omega) (bitsN_is h2.wf)
  obtain ⟨s, hs⟩ : ∃ s, s + bitsN ys = trimN ys ys.length * 32 := ⟨trimN ys ys.length * 32 - bitsN ys, by omega⟩
  obtain ⟨t, ht⟩ : ∃ t, trimN ys ys.length = t := ⟨_, rfl⟩
  obtain ⟨kb, hkb⟩ : ∃ kb, bitsN ys = kb := ⟨_, rfl⟩
  have hnorm := fun (bs : List Int) hb fb hv => norm_ok (ys := ys) (bs := bs) (s := s) h2.wf hb fb h2y hs hv
  rw [hkb] at hbits c2 c3 hs
  rw [ht] at hcount hs c2 c3 hnorm hty h2y
  have hsub : ((t : Int) * 32 - (kb : Int)) = (s : Int) := by omega
  have hs32 : s ≤ 31 := by omega
  have hxw := h1.wf
  have hyw := h2.wf
  have HS := Lib.hid hs
  have HNORM := Lib.hid hnorm
  clear c1 c2 c3 hs hnorm ht hkb
  obtain ⟨i0, hi, hz0, hz1, hz2⟩ := info_parts infoLimb
  go_enter Try.func88, Try.ntmps88
  go_wp2_with fail
  refine hcount.mono ?_
  rintro e w' ⟨rfl, rfl⟩
  go_wp2_with fail
  refine hbits.mono ?_
  rintro e w' ⟨rfl, rfl⟩
  clear hcount hbits
  go_wp2_with fail
  refine (shl_any s h2 (by omega) (by omega) (by omega)).mono ?_
  rintro e w1 ⟨r1, bs, rfl, q1, n1, hb1⟩
  have A1 := h1.later hb1
  rw [Int.toNat_natCast] at q1 n1
  go_wp2_with fail
  refine (shl_any s A1 (by omega) (by omega) (by omega)).mono ?_
  rintro e w2 ⟨r2, cs, rfl, q2, n2, hb2⟩
  rw [Int.toNat_natCast] at q2 n2
  obtain ⟨n, ebl, _, etop⟩ := HNORM.out bs q1.wf q1.full q1.eq
  have hs1 := hb1.size
  have hs2 := hb2.size
  have hB2 : Below w.heap.size w w2 := hb1.trans (hb2.mono hs1)
  have hcl : bs.length ≤ cs.length := by
    rcases Nat.lt_or_ge cs.length bs.length with k | k
    · exfalso
      have := len_lt q2.wf q1.wf q1.full k
      rw [q1.eq, q2.eq] at this
      have := mul_le_r (Int.le_of_lt (two_pos s)) hle
      omega
    · exact k
  have hV0 : 0 < val bs := by
    have h1 := full_ge q1.wf q1.full (n + 1) (by omega)
    have h2 := pow_pos' (n + 1)
    omega
  have hV1 := val_lt q1.wf
  -- b lies below what comes
  obtain ⟨bg, bo, capb1, hbv, hbcell, hbg⟩ : ∃ bg bo cp, r1 = .slice (some ⟨bg, bo, none⟩) bs.length cp ∧ (∀ j, j < bs.length → w2.cell? ⟨bg, bo + j, none⟩ = some (.int .u32 (bs.getD j 0))) ∧ bg < w1.heap.size := by
    obtain ⟨ad, cp, e1, e2, _, _, e5⟩ := q1.num.read
    have e2' := e2.later hb2
    rcases e2' with e | ⟨bg, bo, rfl, hc⟩
    · rw [e] at ebl; simp at ebl
    · exact ⟨bg, bo, cp, e1, hc, (e5 _ rfl).2⟩
  subst hbv
  have hwb := q1.wf
  have HFB := Lib.hid q1.full
  have q1eq := q1.eq
  have hrow := q2.num
  unfold Num at hrow
  have hcsw := q2.wf
  have hcse := q2.eq
  have hxl : cs.length ≤ 134217730 := by omega
  have hcx : cs.length ≤ xs.length + 1 := by omega
  have hN := Lib.hid q2.num
  have HEB := Lib.hid ebl
  have HTOP := Lib.hid etop
  have HC := Lib.hid hbcell
  have HQ1 := Lib.hid q1eq
  have HQ2 := Lib.hid hcse
  have hn1 : bs.length ≤ 134217730 := by omega
  obtain ⟨M, hM⟩ : ∃ M, M + bs.length = cs.length + 1 := ⟨cs.length + 1 - bs.length, by omega⟩
  have hMi : ((cs.length : Int) + 1 - (bs.length : Int)) = (M : Int) := by omega
  have hmk := make_runN M M (Nat.le_refl _) (by omega)
  have HM := Lib.hid hM
  clear hM
  clear q1 q2 hb1 A1 h1 h2 n1 n2 HNORM ebl etop hbcell q1eq hcse hle
  go_wp2_with (at_builtin; refine wpList_append_own _ rfl _ _ 23 rfl w1.heap.size 63 i0 (.int .u32 0) 1 4 Try.underlying23 hi hz0 hz1 hz2 rfl (by decide) _ _ _ rfl (hrow.alloc _) ⟨w2.heap.size, 0, none⟩ 1 1 [.int .u32 0] rfl rfl (cell_one_new _ _ _) (by simp [Value.oneCell']) (by unfold maxLen; omega) (by omega) (by simp; omega) ?_; intro v' w3 hown' hgrow _; have hnum : Num w1.heap.size w3 v' (cs ++ [0]) := (by unfold Num; rw [List.length_append, List.map_append]; exact hown'); obtain ⟨g, cap, rfl, hg, hcapm, hpart⟩ : ∃ g cap, v' = .slice (some ⟨g, 0, none⟩) (cs ++ [0]).length cap ∧ w1.heap.size ≤ g ∧ cap ≤ maxLen ∧ Part w3 g cap (cs ++ [0]) := hnum.parts.resolve_left (fun h => by have := h.2; simp at this))
  have hw3 : Below w.heap.size w w3 := (hB2.alloc (by omega) _).grown hgrow (by simp; omega) (fun k hk => Nat.le_trans hs1 (hN.out.lt k hk).1)
  have hs3 : w2.heap.size ≤ w3.heap.size := by have := hgrow.size; simp at this; omega
  have hlimb : Lim w3 (some ⟨bg, bo, none⟩) bs := by
    have h1 : Lim w2 (some ⟨bg, bo, none⟩) bs := .inr ⟨bg, bo, rfl, HC.out⟩
    refine Lim.grown (h1.later ((Below.refl w2.heap.size w2).alloc (Nat.le_refl _) _)) hgrow (fun a e => ?_)
    cases e
    intro e2
    have := (hN.out.lt bg e2.symm).1
    omega
  have hglt := hpart.lt
  obtain ⟨L, hL⟩ : ∃ L, (cs ++ [0]).length = L := ⟨_, rfl⟩
  have hLc : L = cs.length + 1 := by rw [← hL]; simp
  have hV := HQ1.out
  have hwz0 : Wf (cs ++ [0]) := hcsw.append (wf1 (by omega))
  have hv0 : val (cs ++ [0]) = val cs := by rw [val_append]; simp [val]
  have HL := Lib.hid hL
  have HLC := Lib.hid hLc
  have HV := Lib.hid hV
  have hpart0 := hpart.alloc (.cells (madeCells #[.int .u32 0] M) 63)
  have hblk0 := Blk.made w3 M
  have hlim0 := hlimb.later ((Below.refl w3.heap.size w3).alloc (Nat.le_refl _) (.cells (madeCells #[.int .u32 0] M) 63))
  have hw4 : Below w.heap.size w (w3.alloc (.cells (madeCells #[.int .u32 0] M) 63)) := hw3.alloc (by omega) _
  have hvstart : val (cs ++ [0]) < 4294967296 ^ M * val bs := by
    rw [hv0]
    have h1 := val_lt hcsw
    have hbl := HEB.out
    have h3 := full_ge (us := bs) hwb HFB.out (n + 1) (by omega)
    have h2 := mul_le_l (a := 4294967296 ^ (n + 1)) (b := val bs) (c := 4294967296 ^ M) (Int.le_of_lt (pow_pos' _)) h3
    rw [← Int.pow_add, show M + (n + 1) = cs.length by have := HM.out; omega] at h2
    omega
  have HBG := Lib.hid (show bg < g by omega)
  clear hpart hown' hgrow hnum hlimb hL hLc hV hrow hbg
  go_loopw [9] (fun i wr => ∃ (k : Nat) (zs qs : List Int), k ≤ M ∧ i = .int .i64 ((k : Int) - 1) ∧ zs.length = L ∧ Wf zs ∧ Part wr g cap zs ∧ Blk wr w3.heap.size (List.replicate k 0 ++ qs) ∧ qs.length + k = M ∧ Wf qs ∧
      val zs < 4294967296 ^ k * val bs ∧ val cs = val zs + val bs * (4294967296 ^ k * val qs) ∧ Lim wr (some ⟨bg, bo, none⟩) bs ∧ Below w.heap.size w wr) (fun i _ => (intOf i + 1).toNat)
  case atStart =>
    refine ⟨M, cs ++ [0], [], Nat.le_refl _, by simp, HL.out, hwz0, hpart0, by simpa using hblk0, by simp, Wf.nil, hvstart, by rw [hv0]; simp [val], hlim0, hw4⟩
  case round =>
    obtain ⟨k, zs, qs, hk, rfl, hzl, hzw, hpart, hblk, hql, hqw, hlt, hval, hlim, hb⟩ := hrel
    have hsz := hb.size
    have hM := HM.out
    have hLc := HLC.out
    clear hpart0 hblk0 hlim0 hw4 hvstart hwz0 hv0 hw3 hB2
    by_cases hgo : 0 < k
    · obtain ⟨j, rfl⟩ : ∃ j, k = j + 1 := ⟨k - 1, by omega⟩
      have hji : (((j + 1 : Nat) : Int) - 1) = (j : Int) := by omega
      rw [hji]
      have hcapL := hpart.le
      have hVn : 0 ≤ val bs := by omega
      obtain ⟨hU, _⟩ := long_step (zs := zs) (ls := List.replicate (bs.length + 1) 0) (i := j) (t := bs.length) (q := 0) (V := val bs) hzw (Wf.zeros _) (by simp) (by omega) hVn hV1 hlt
      have hcy : ∀ i, i < bs.length → wr.cell? ⟨bg, bo + i, none⟩ = some (.int .u32 (bs.getD i 0)) := by
        rcases hlim with e | ⟨b', o', e, hc⟩
        · rw [e]; intro i h; simp at h
        · cases e; exact hc
      have hbgg : bg ≠ g := by
        have := HBG.out
        omega
      have hdiv := divide_any (g := g) (cap := cap) (capp := cap - j) (i := j) (bg := bg) (bo := bo) (capb := capb1) (zs := zs) (ys := bs) (w := wr) n hpart hzw hwb HEB.out (by omega) (by omega) hcy hbgg HTOP.out hU
      have s1 : (0 : Int) ≤ (j : Int) := by omega
      have s2 : (j : Int) + (bs.length : Int) + 1 ≤ (cap : Int) := by omega
      have s3 : (j : Int) < (M : Int) := by omega
      have HK := Lib.hid hk
      have HZL := Lib.hid hzl
      have HQL := Lib.hid hql
      have HLT := Lib.hid hlt
      have HVAL := Lib.hid hval
      clear hk hzl hql hlt hval hLc hM hcy hgo
      go_wp2_with fail
      rw [show j + bs.length + 1 - j = bs.length + 1 from by omega]
      refine hdiv.mono ?_
      rintro e w5 ⟨q, ls, rfl, q0, q1, hll, hlw, hp5, hvl, hvlt, hg5⟩
      have hne : w3.heap.size ≠ g := by omega
      have hblk5 := hblk.grown hg5 (fun e => hne (Option.some.inj e))
      have hlim5 := Lim.grown hlim hg5 (fun a e => by cases e; intro e2; exact hbgg (Option.some.inj e2))
      have hb5 : Below w.heap.size w w5 := hb.grown hg5 hsz (fun k hk => by cases hk; omega)
      have hlz : (List.replicate (j + 1) 0 ++ qs).length = M := by rw [List.length_append, List.length_replicate]; have := HQL.out; omega
      have hcell := hblk5.cell j (by omega)
      have hfree := hblk5.free j
      have hset := hblk5.set j q
      rw [set_front] at hset
      have hzl := HZL.out
      obtain ⟨_, hst⟩ := long_step (zs := zs) (ls := ls) (i := j) (t := bs.length) (q := q) (V := val bs) hzw hlw hll (by have := HLC.out; have := HM.out; have := HK.out; omega) hVn hV1 HLT.out
      obtain ⟨st1, st2⟩ := hst hvl hvlt
      have hpl := putAt_length zs ls j (by rw [hll, hzl]; have := HLC.out; have := HM.out; have := HK.out; omega)
      have fin : ∃ (k' : Nat) (zs' qs' : List Int), k' ≤ M ∧ Value.int .i64 ((j : Int) - 1) = .int .i64 ((k' : Int) - 1) ∧ zs'.length = L ∧ Wf zs' ∧ Part (w5.setCell ⟨w3.heap.size, j, none⟩ (.int .u32 q)) g cap zs' ∧ Blk (w5.setCell ⟨w3.heap.size, j, none⟩ (.int .u32 q)) w3.heap.size (List.replicate k' 0 ++ qs') ∧ qs'.length + k' = M ∧ Wf qs' ∧
          val zs' < 4294967296 ^ k' * val bs ∧ val cs = val zs' + val bs * (4294967296 ^ k' * val qs') ∧ Lim (w5.setCell ⟨w3.heap.size, j, none⟩ (.int .u32 q)) (some ⟨bg, bo, none⟩) bs ∧ Below w.heap.size w (w5.setCell ⟨w3.heap.size, j, none⟩ (.int .u32 q)) := by
        have hO : Only w3.heap.size w5 (w5.setCell ⟨w3.heap.size, j, none⟩ (.int .u32 q)) := Only.set _ _ _ _
        refine ⟨j, putAt zs j ls, q :: qs, by have := HK.out; omega, rfl, hpl.trans hzl, putAt_wf _ hzw hlw, hp5.far (p := ⟨w3.heap.size, j, none⟩) (Ne.symm hne) _, hset, by rw [List.length_cons]; have := HQL.out; omega, Wf.cons ⟨q0, q1⟩ hqw, st2, ?_, Lim.grown hlim5 hO.grown (fun a e => by cases e; intro e2; have e3 : bg = w3.heap.size := Option.some.inj e2; have := HBG.out; omega), hb5.setCell (p := ⟨w3.heap.size, j, none⟩) (by simp; omega) _⟩
        rw [HVAL.out, st1]
        simp only [val]
        rw [Int.pow_succ]
        exact long_alg _ _ _ _ _
      have FIN := Lib.hid fin
      clear fin hset hp5 hblk5 hlim5 hb5 hg5 hvl hvlt st1 st2 hst hpl hlz hdiv hU
      go_wp2
      go_roundw
      case rel => exact FIN.out
      case measure => simp [intOf]
    · obtain rfl : k = 0 := by omega
      have hji : (((0 : Nat) : Int) - 1) = -1 := by omega
      rw [hji]
      rw [List.replicate_zero, List.nil_append] at hblk
      rw [Int.pow_zero, Int.one_mul] at hlt hval
      rw [HQ2.out, HV.out] at hval
      rw [HV.out] at hlt
      have hz0 := val_nonneg hzw
      obtain ⟨e1, e2⟩ := long_end (A := val xs) (B := val ys) (Q := val qs) (R := val zs) (s := 2 ^ s) (two_pos s) hval hz0 hlt
      have hql' : qs.length = M := by omega
      have Aq : Arg wr (.slice (some ⟨w3.heap.size, 0, none⟩) M M) qs (some ⟨w3.heap.size, 0, none⟩) M := ⟨by rw [hql'], hblk.lim, by omega, hqw⟩
      have Az : Arg wr (.slice (some ⟨g, 0, none⟩) (cs.length + 1) cap) zs (some ⟨g, 0, none⟩) cap := ⟨by rw [hzl, hLc], hpart.lim, hpart.le, hzw⟩
      have E1 := Lib.hid e1
      have E2 := Lib.hid e2
      have hzl2 : zs.length ≤ xs.length + 2 := by omega
      have HX := Lib.hid (show M ≤ xs.length + 2 by omega)
      clear hpart hblk hlt hval hlim e1 e2 hz0 hV0
      go_wp2_with fail
      refine (trim_res Aq (by omega)).mono ?_
      rintro e w6 ⟨r6, l6, rfl, q6, n6, hb6⟩
      have Az6 := Az.later hb6
      have hs6 := hb6.size
      go_wp2_with fail
      refine (shr_any s Az6 (by omega) (by omega) (by omega)).mono ?_
      rintro e w7 ⟨r7, l7, rfl, q7, n7, hb7⟩
      have q6' := q6.later hb7
      rw [Int.toNat_natCast] at q7
      have hB7 : Below w.heap.size w w7 := (hb.trans (hb6.mono hsz)).trans (hb7.mono (by omega))
      have hX := HX.out
      go_wp2_with fail
      go_ret2
      exact ⟨r6, r7, rfl, hB7, ⟨l6, ⟨q6'.num.mono hsz, q6'.wf, q6'.full, q6'.eq.trans E1.out⟩, by omega⟩, ⟨l7, ⟨q7.num.mono (by omega), q7.wf, q7.full, q7.eq.trans E2.out⟩, by omega⟩⟩
end
section
open Go.RowKit
set_option linter.unusedVariables false
set_option linter.unusedSimpArgs false
theorem full_len {zs : List Int} {m : Nat} (hw : Wf zs) (hf : trimN zs zs.length = zs.length) (h : val zs < 4294967296 ^ m) : zs.length ≤ m := by
  rcases Nat.lt_or_ge m zs.length with k | k
  · exfalso
    have h1 := full_ge hw hf (zs.length - 1) (by omega)
    have h2 : (4294967296 : Int) ^ m ≤ 4294967296 ^ (zs.length - 1) := by rw [pow_limb, pow_limb]; exact two_mono (by omega)
    omega
  · exact k
theorem Res.lenLe {base : Nat} {w : World} {u : Value} {zs xs : List Int} {n : Int} (h : Res base w u zs n) (hx : Wf xs) (hle : n ≤ val xs) : zs.length ≤ xs.length := by
  have := val_lt hx
  exact full_len h.wf h.full (by rw [h.eq]; omega)
theorem Res.nil (base : Nat) (w : World) : Res base w (.slice none 0 0) [] 0 := ⟨⟨rfl, .inl ⟨rfl, rfl⟩⟩, Wf.nil, rfl, rfl⟩
theorem ediv_le {a b : Int} (ha : 0 ≤ a) (hb : 0 < b) : a / b ≤ a := Int.ediv_le_self b ha
theorem emod_le {a b : Int} (ha : 0 ≤ a) (hb : 0 < b) : a % b ≤ a := by
  have h1 := Int.emod_add_mul_ediv a b
  have h2 := Int.mul_nonneg (show 0 ≤ b by omega) (Int.ediv_nonneg ha (show 0 ≤ b by omega))
  omega
theorem val_zero {xs : List Int} (h : Wf xs) : val xs = 0 ↔ trimN xs xs.length = 0 := by
  constructor
  · intro h0
    rcases Nat.eq_zero_or_pos (trimN xs xs.length) with k | k
    · exact k
    · exfalso
      have h1 := full_ge h.trim (trim_full xs) (trimN xs xs.length - 1) (by rw [trim_length]; omega)
      rw [val_trim] at h1
      have := pow_pos' (trimN xs xs.length - 1)
      omega
  · intro h0
    rw [← val_trim xs]
    unfold trim
    rw [h0]
    rfl
set_option maxRecDepth 100000 in
set_option maxHeartbeats 1000000 in
theorem div_zero {u v : Value} {xs ys : List Int} {a b : Option Addr} {capa capb : Nat} {w : World} (h1 : Arg w u xs a capa) (h2 : Arg w v ys b capb) (hy : ys.length ≤ 134217728) (h0 : val ys = 0) :
    Calls Try.prog 71 #[u, v] w fun e w' => e = .returned (.tuple #[.slice none 0 0, .slice none 0 0, .int .i64 17]) ∧ Below w.heap.size w w' := by
  have hc := count_any h2 (by omega)
  rw [(val_zero h2.wf).1 h0] at hc
  have hd : (((0 : Nat) : Int) == 0) = true := by simp
  go_enter Try.func71, Try.ntmps71
  go_wp2_with fail
  refine hc.mono ?_
  rintro e w' ⟨rfl, rfl⟩
  go_wp2_with fail
  go_ret3
  exact ⟨rfl, Below.refl _ _⟩
set_option maxRecDepth 100000 in
set_option maxHeartbeats 1000000 in
theorem div_any {u v : Value} {xs ys : List Int} {a b : Option Addr} {capa capb : Nat} {w : World} (h1 : Arg w u xs a capa) (h2 : Arg w v ys b capb) (hx : xs.length ≤ 134217728) (hy : ys.length ≤ 134217728) (h0 : 0 < val ys) :
    Calls Try.prog 71 #[u, v] w fun e w' => ∃ r t, e = .returned (.tuple #[r, t, .int .i64 0]) ∧ Below w.heap.size w w' ∧ (∃ zs, Res w.heap.size w' r zs (val xs / val ys) ∧ zs.length ≤ xs.length) ∧
      (∃ zs, Res w.heap.size w' t zs (val xs % val ys) ∧ zs.length ≤ xs.length ∧ zs.length ≤ ys.length) := by
  have hc := count_any h2 (by omega)
  have hx0 := val_nonneg h1.wf
  have hq := ediv_le hx0 h0
  have hr := emod_le hx0 h0
  have hr2 := Int.emod_lt_of_pos (val xs) h0
  obtain ⟨t, ht⟩ : ∃ t, trimN ys ys.length = t := ⟨_, rfl⟩
  have htp : t ≠ 0 := by
    intro e
    have := (val_zero h2.wf).2 (ht.trans e)
    omega
  rw [ht] at hc
  have hd0 : ((t : Int) == 0) = false := by simp; omega
  have HQ := Lib.hid hq
  have HR := Lib.hid hr
  have HR2 := Lib.hid hr2
  clear hq hr hr2
  by_cases ht1 : t = 1
  · subst ht1
    have hd1 : (((1 : Nat) : Int) == 1) = true := by decide
    have hv1 := val_take_ge ys 1 (by omega)
    rw [val_take_succ] at hv1
    simp only [List.take_zero, val, Int.pow_zero, Int.one_mul, Int.zero_add] at hv1
    have hb := h2.wf.getD 0
    obtain ⟨bx, hbx⟩ : ∃ bx, ys.getD 0 0 = bx := ⟨_, rfl⟩
    rw [hbx] at hv1 hb
    have hl1 := trim_le ys
    rw [ht] at hl1
    obtain ⟨rfl, ly, hle, wy⟩ := h2
    rcases ly with rfl | ⟨bb, off, rfl, hcell⟩
    · simp at hl1
    have hc0 := hcell 0 (by omega)
    rw [hbx, Nat.add_zero] at hc0
    have hlt : (0 : Int) < (ys.length : Int) := by omega
    have HV := Lib.hid hv1
    have HY := Lib.hid wy
    clear hcell ht hbx hv1 hd0 htp
    go_enter Try.func71, Try.ntmps71
    go_wp2_with fail
    refine hc.mono ?_
    rintro e w' ⟨rfl, rfl⟩
    clear hc
    go_wp2_with fail
    refine (short1_any bx h1 (by omega) ⟨by rw [HV.out]; exact h0, hb.2⟩).mono ?_
    rintro e w2 ⟨r2, rfl, z2, q2, n2, hb2⟩
    have hm0 : 0 ≤ val xs % bx := Int.emod_nonneg _ (by rw [HV.out]; omega)
    have hm1 : val xs % bx < 18446744073709551616 := by have := HR2.out; rw [← HV.out] at this; omega
    have hwm : IntKind.u64.wrap (val xs % bx) = val xs % bx := wrap_u64 hm0 hm1
    go_wp2_with fail
    refine (ofN_any (val xs % bx) _ hm0 hm1).mono ?_
    rintro e w3 ⟨r3, z3, rfl, q3, n3, hb3⟩
    have hs2 := hb2.size
    have q2' := q2.later hb3
    have hB : Below w.heap.size w w3 := hb2.trans (hb3.mono hs2)
    rw [HV.out] at q2' q3
    have l2 := q3.lenLe h1.wf HR.out
    have l3 := q3.lenLe HY.out (Int.le_of_lt HR2.out)
    go_wp2_with fail
    go_ret3
    exact ⟨r2, r3, rfl, hB, ⟨z2, q2', n2⟩, ⟨z3, ⟨q3.num.mono hs2, q3.wf, q3.full, q3.eq⟩, l2, l3⟩⟩
  · have hd1 : ((t : Int) == 1) = false := by simp; omega
    have hcmp := cmp_res h1 h2 (by omega) (by omega)
    by_cases hlt : val xs < val ys
    · rw [sign_lt hlt] at hcmp
      have hn : decide ((-1 : Int) < 0) = true := by decide
      go_enter Try.func71, Try.ntmps71
      go_wp2_with fail
      refine hc.mono ?_
      rintro e w' ⟨rfl, rfl⟩
      clear hc
      go_wp2_with fail
      refine hcmp.mono ?_
      rintro e w2 ⟨rfl, hb2⟩
      clear hcmp
      have A1 := h1.later hb2
      have hs2 := hb2.size
      go_wp2_with fail
      refine (trim_res A1 (by omega)).mono ?_
      rintro e w3 ⟨r3, z3, rfl, q3, n3, hb3⟩
      have hB : Below w.heap.size w w3 := hb2.trans (hb3.mono hs2)
      have e1 : val xs / val ys = 0 := Int.ediv_eq_zero_of_lt hx0 hlt
      have e2 : val xs % val ys = val xs := Int.emod_eq_of_lt hx0 hlt
      have l3 := q3.lenLe h2.wf (Int.le_of_lt hlt)
      have E1 := Lib.hid e1
      have E2 := Lib.hid e2
      clear e1 e2
      go_wp2_with fail
      go_ret3
      exact ⟨_, r3, rfl, hB, ⟨[], by rw [E1.out]; exact Res.nil _ _, by simp⟩, ⟨z3, ⟨q3.num.mono hs2, q3.wf, q3.full, q3.eq.trans E2.out.symm⟩, n3, l3⟩⟩
    · have hn : decide (sign (val xs) (val ys) < 0) = false := decide_eq_false (by unfold sign; rw [if_neg hlt]; split <;> omega)
      go_enter Try.func71, Try.ntmps71
      go_wp2_with fail
      refine hc.mono ?_
      rintro e w' ⟨rfl, rfl⟩
      clear hc
      go_wp2_with fail
      refine hcmp.mono ?_
      rintro e w2 ⟨rfl, hb2⟩
      clear hcmp
      have A1 := h1.later hb2
      have A2 := h2.later hb2
      have hs2 := hb2.size
      go_wp2_with fail
      refine (long_any A1 A2 (by omega) (by omega) (by omega) (by omega)).mono ?_
      rintro e w3 ⟨r3, t3, rfl, hb3, ⟨z3, q3, _⟩, ⟨z4, q4, _⟩⟩
      have hB : Below w.heap.size w w3 := hb2.trans (hb3.mono hs2)
      have l1 := q3.lenLe h1.wf HQ.out
      have l2 := q4.lenLe h1.wf HR.out
      have l3 := q4.lenLe h2.wf (Int.le_of_lt HR2.out)
      go_wp2_with fail
      go_ret3
      exact ⟨r3, t3, rfl, hB, ⟨z3, ⟨q3.num.mono hs2, q3.wf, q3.full, q3.eq⟩, l1⟩, ⟨z4, ⟨q4.num.mono hs2, q4.wf, q4.full, q4.eq⟩, l2, l3⟩⟩
end
section
open Go.RowKit
set_option linter.unusedVariables false
set_option linter.unusedSimpArgs false
set_option maxRecDepth 100000 in
set_option maxHeartbeats 1000000 in
theorem shortGcd_any (x y : Int) (w : World) (hx : 0 ≤ x ∧ x < 18446744073709551616) (hy : 0 ≤ y ∧ y < 18446744073709551616) :
    Calls Try.prog 86 #[.int .u64 x, .int .u64 y] w fun e w' => e = .returned (.int .u64 (Int.gcd x y : Int)) ∧ Below w.heap.size w w' := by
  obtain ⟨hx0, hx1⟩ := hx
  obtain ⟨hy0, hy1⟩ := hy
  go_enter Try.func86, Try.ntmps86
  go_wp2
  go_loopw [0, 1] (fun p q wr => ∃ P Q : Int, p = .int .u64 P ∧ q = .int .u64 Q ∧ 0 ≤ P ∧ P < 18446744073709551616 ∧ 0 ≤ Q ∧ Q < 18446744073709551616 ∧ Int.gcd P Q = Int.gcd x y ∧ Below w.heap.size w wr) (fun _ q _ => (intOf q).toNat)
  case atStart => exact ⟨x, y, rfl, rfl, hx0, hx1, hy0, hy1, rfl, Below.refl _ _⟩
  case round =>
    obtain ⟨P, Q, rfl, rfl, hP0, hP1, hQ0, hQ1, hg, hb⟩ := hrel
    have hsz := hb.size
    have HG := Lib.hid hg
    clear hg
    by_cases hgo : 0 < Q
    · obtain ⟨m, hm⟩ : ∃ m, P % Q = m := ⟨_, rfl⟩
      have htm : Int.tmod P Q = m := by rw [Int.tmod_eq_emod_of_nonneg hP0, hm]
      have hm0 : 0 ≤ m := by rw [← hm]; exact Int.emod_nonneg _ (by omega)
      have hm1 : m < Q := by rw [← hm]; exact Int.emod_lt_of_pos _ hgo
      have hwm : IntKind.u64.wrap m = m := wrap_u64 (by omega) (by omega)
      have hq0 : Q ≠ 0 := by omega
      have hg2 : Int.gcd Q m = Int.gcd x y := by rw [← hm, gcd_step]; exact HG.out
      have HG2 := Lib.hid hg2
      clear hg2 hm
      go_wp2
      go_quiet (fail)
      go_wp2
      go_roundw
      case rel => exact ⟨Q, m, rfl, rfl, hQ0, hQ1, hm0, by omega, HG2.out, ⟨hb.os, hb.tape, hb.output, hb.size, hb.block⟩⟩
      case measure => simp [intOf]; omega
    · obtain rfl : Q = 0 := by omega
      have hfin : P = (Int.gcd x y : Int) := by rw [← HG.out]; exact (gcd_end hP0).symm
      have HF := Lib.hid hfin
      clear hfin
      go_wp2
      go_ret
      exact ⟨by rw [← HF.out]; rfl, hb⟩
/-- loops over pairs: how much is left -/
def leftN (w : World) (v : Value) : Nat := (val (readV w v)).toNat
theorem Arg.left {w : World} {u : Value} {xs : List Int} {a : Option Addr} {cap : Nat} (h : Arg w u xs a cap) : leftN w u = (val xs).toNat := by unfold leftN; rw [h.read]
theorem bits_pos {xs : List Int} (h : Wf xs) : 0 < val xs ↔ 0 < bitsN xs := by
  rcases bitsN_is h with ⟨h1, h2⟩ | ⟨j, h1, h2, _⟩
  · omega
  · have := two_pos j; omega
theorem uint_gen {u : Value} {xs : List Int} {a : Option Addr} {capa : Nat} {w : World} (h1 : Arg w u xs a capa) (hx : xs.length ≤ 35184372088832) :
    Calls Try.prog 85 #[u] w fun e w' => (∃ X : Int, e = .returned (.tuple #[.int .u64 X, .bool (decide (val xs < 18446744073709551616))])) ∧ w = w' := by
  by_cases h : val xs < 18446744073709551616
  · rw [decide_eq_true h]
    exact (uint_small h1 hx h).mono fun e w' ⟨he, hw⟩ => ⟨⟨_, he⟩, hw⟩
  · rw [decide_eq_false h]
    exact (uint_big h1 hx (by omega)).mono fun e w' ⟨he, hw⟩ => ⟨⟨_, he⟩, hw⟩
set_option maxRecDepth 100000 in
set_option maxHeartbeats 2000000 in
theorem gcd_any {u v : Value} {xs ys : List Int} {a b : Option Addr} {capa capb : Nat} {w : World} (h1 : Arg w u xs a capa) (h2 : Arg w v ys b capb) (hx : xs.length ≤ 134217728) (hy : ys.length ≤ 134217728) :
    Calls Try.prog 68 #[u, v] w fun e w' => ∃ r zs, e = .returned r ∧ Res w.heap.size w' r zs (Int.gcd (val xs) (val ys) : Int) ∧ zs.length ≤ max xs.length ys.length + 2 ∧ Below w.heap.size w w' := by
  obtain ⟨m, hm⟩ : ∃ m, max xs.length ys.length = m := ⟨_, rfl⟩
  have hm2 : m ≤ 134217728 := by omega
  have hmx : xs.length ≤ m := by omega
  have hmy : ys.length ≤ m := by omega
  rw [hm]
  clear hm hx hy
  go_enter Try.func68, Try.ntmps68
  go_wp2
  go_loopw [0, 1, 5, 6, 7, 8, 9, 10, 11] (fun p q _ _ _ _ _ _ _ wr => ∃ (p' q' : Value) (us vs : List Int) (ad bd : Option Addr) (cp cq : Nat), p' = p ∧ q' = q ∧ Arg wr p' us ad cp ∧ Arg wr q' vs bd cq ∧ us.length ≤ m ∧ vs.length ≤ m ∧ Int.gcd (val us) (val vs) = Int.gcd (val xs) (val ys) ∧ Below w.heap.size w wr) (fun _ q _ _ _ _ _ _ _ wr => leftN wr q)
  case atStart => exact ⟨u, v, xs, ys, a, b, capa, capb, rfl, rfl, h1, h2, hmx, hmy, rfl, Below.refl _ _⟩
  case round =>
    obtain ⟨p, q, us, vs, ad, bd, cp, cq, rfl, rfl, A1, A2, hu, hv, hg, hb⟩ := hrel
    have hsz := hb.size
    have HG := Lib.hid hg
    clear hg h1 h2
    have hbits := bits_res A2 (by omega) (bitsN_is A2.wf)
    obtain ⟨nb, hnb⟩ : ∃ nb, bitsN vs = nb := ⟨_, rfl⟩
    have hbp := bits_pos A2.wf
    rw [hnb] at hbits hbp
    have hu0 := val_nonneg A1.wf
    have hv0 := val_nonneg A2.wf
    clear hnb
    by_cases hgo : 0 < nb
    · have hpos := hbp.2 hgo
      have hgo2 : (0 : Int) < (nb : Int) := by omega
      by_cases hs : val us < 18446744073709551616 ∧ val vs < 18446744073709551616
      · obtain ⟨hs1, hs2⟩ := hs
        go_wp2_with fail
        refine hbits.mono ?_
        rintro e w' ⟨rfl, rfl⟩
        clear hbits
        go_wp2_with fail
        refine (uint_small A1 (by omega) hs1).mono ?_
        rintro e w' ⟨rfl, rfl⟩
        go_wp2_with fail
        refine (uint_small A2 (by omega) hs2).mono ?_
        rintro e w' ⟨rfl, rfl⟩
        go_wp2_with fail
        refine (shortGcd_any (val us) (val vs) _ ⟨hu0, hs1⟩ ⟨hv0, hs2⟩).mono ?_
        rintro e w2 ⟨rfl, hb2⟩
        have hgl : (Int.gcd (val us) (val vs) : Int) < 18446744073709551616 := by
          have h3 : Int.gcd (val us) (val vs) ∣ (val vs).natAbs := Int.gcd_dvd_natAbs_right _ _
          have h4 := Nat.le_of_dvd (by omega) h3
          omega
        have hs3 := hb2.size
        go_wp2_with fail
        refine (ofN_any _ _ (Int.natCast_nonneg _) hgl).mono ?_
        rintro e w3 ⟨r3, z3, rfl, q3, n3, hb3⟩
        have hB := (hb.trans (hb2.mono hsz)).trans (hb3.mono (by omega))
        have q3e := q3.eq
        rw [HG.out] at q3e
        have HE := Lib.hid q3e
        clear q3e hgl hs1 hs2 hgo2 hpos hbp
        go_wp2_with fail
        go_ret
        exact ⟨r3, z3, rfl, ⟨q3.num.mono (by omega), q3.wf, q3.full, HE.out⟩, by omega, hB⟩
      · by_cases hs1 : val us < 18446744073709551616
        · have hs2 : ¬ val vs < 18446744073709551616 := fun h => hs ⟨hs1, h⟩
          have d1 : decide (val us < 18446744073709551616) = true := decide_eq_true hs1
          have d2 : decide (val vs < 18446744073709551616) = false := decide_eq_false hs2
          have u1 := uint_gen A1 (by omega)
          have u2 := uint_gen A2 (by omega)
          rw [d1] at u1
          rw [d2] at u2
          clear d1 d2
          go_wp2_with fail
          refine hbits.mono ?_
          rintro e w' ⟨rfl, rfl⟩
          clear hbits
          go_wp2_with fail
          refine u1.mono ?_
          rintro e w' ⟨⟨X, rfl⟩, rfl⟩
          go_wp2_with fail
          refine u2.mono ?_
          rintro e w' ⟨⟨Y, rfl⟩, rfl⟩
          go_wp2_with fail
          refine (div_any A1 A2 (by omega) (by omega) hpos).mono ?_
          rintro e w2 ⟨r2, s2, rfl, hb2, _, ⟨z2, q2, n2, n2'⟩⟩
          obtain ⟨ad2, cap2, A3⟩ := q2.arg
          have A2' := A2.later hb2
          have hB2 := hb.trans (hb2.mono hsz)
          have hl2 := A3.left
          have hleft := A2.left
          have hr1 := Int.emod_lt_of_pos (val us) hpos
          have hr2 := Int.emod_nonneg (val us) (show val vs ≠ 0 by omega)
          have hm3 : leftN w2 s2 < leftN wr q := by rw [hleft, hl2, q2.eq]; omega
          have hg3 : Int.gcd (val vs) (val z2) = Int.gcd (val xs) (val ys) := by rw [q2.eq, gcd_step]; exact HG.out
          have HG3 := Lib.hid hg3
          have HM3 := Lib.hid hm3
          clear hg3 hm3 hr1 hr2 hl2 hleft q2 A1 A2 hb2 hpos hbp hs
          go_wp2
          go_roundw
          case rel => exact ⟨_, _, vs, z2, bd, ad2, cq, cap2, rfl, rfl, A2', A3, hv, by omega, HG3.out, hB2⟩
          case measure => exact HM3.out
        · have d1 : decide (val us < 18446744073709551616) = false := decide_eq_false hs1
          have u1 := uint_gen A1 (by omega)
          have u2 := uint_gen A2 (by omega)
          rw [d1] at u1
          generalize decide (val vs < 18446744073709551616) = f2 at u2
          clear d1
          go_wp2_with fail
          refine hbits.mono ?_
          rintro e w' ⟨rfl, rfl⟩
          clear hbits
          go_wp2_with fail
          refine u1.mono ?_
          rintro e w' ⟨⟨X, rfl⟩, rfl⟩
          go_wp2_with fail
          refine u2.mono ?_
          rintro e w' ⟨⟨Y, rfl⟩, rfl⟩
          go_wp2_with fail
          refine (div_any A1 A2 (by omega) (by omega) hpos).mono ?_
          rintro e w2 ⟨r2, s2, rfl, hb2, _, ⟨z2, q2, n2, n2'⟩⟩
          obtain ⟨ad2, cap2, A3⟩ := q2.arg
          have A2' := A2.later hb2
          have hB2 := hb.trans (hb2.mono hsz)
          have hl2 := A3.left
          have hleft := A2.left
          have hr1 := Int.emod_lt_of_pos (val us) hpos
          have hr2 := Int.emod_nonneg (val us) (show val vs ≠ 0 by omega)
          have hm3 : leftN w2 s2 < leftN wr q := by rw [hleft, hl2, q2.eq]; omega
          have hg3 : Int.gcd (val vs) (val z2) = Int.gcd (val xs) (val ys) := by rw [q2.eq, gcd_step]; exact HG.out
          have HG3 := Lib.hid hg3
          have HM3 := Lib.hid hm3
          clear hg3 hm3 hr1 hr2 hl2 hleft q2 A1 A2 hb2 hpos hbp hs
          go_wp2
          go_roundw
          case rel => exact ⟨_, _, vs, z2, bd, ad2, cq, cap2, rfl, rfl, A2', A3, hv, by omega, HG3.out, hB2⟩
          case measure => exact HM3.out
    · have h0 : nb = 0 := by omega
      have hvz : val vs = 0 := by omega
      have hfin : val us = (Int.gcd (val xs) (val ys) : Int) := by rw [← HG.out, hvz]; exact (gcd_end hu0).symm
      have HF := Lib.hid hfin
      subst h0
      have hd : decide ((0 : Int) < ((0 : Nat) : Int)) = false := by decide
      clear hfin hvz hbp
      go_wp2_with fail
      refine hbits.mono ?_
      rintro e w' ⟨rfl, rfl⟩
      clear hbits
      go_wp2_with fail
      refine (trim_res A1 (by omega)).mono ?_
      rintro e w3 ⟨r3, z3, rfl, q3, n3, hb3⟩
      have hB := hb.trans (hb3.mono hsz)
      have HE := Lib.hid (q3.eq.trans HF.out)
      go_wp2_with fail
      go_ret
      exact ⟨r3, z3, rfl, ⟨q3.num.mono hsz, q3.wf, q3.full, HE.out⟩, by omega, hB⟩
end
section
open Go.RowKit
set_option linter.unusedVariables false
set_option linter.unusedSimpArgs false
theorem wrap3 (c : Int) (n : Nat) (h0 : 0 ≤ c) (h1 : c ≤ 56) (hn : n ≤ 8) : wrap64 (c + wrap64 (n : Int)) = c + n := by unfold wrap64; omega
theorem pow_bound {xs : List Int} (h : Wf xs) (e : Nat) : 0 ≤ val xs ^ e ∧ val xs ^ e ≤ 4294967296 ^ (xs.length * e) := by
  have h0 := val_nonneg h
  have h1 := val_lt h
  induction e with
  | zero => simp
  | succ e ih =>
    obtain ⟨i0, i1⟩ := ih
    rw [Int.pow_succ, Nat.mul_succ, Int.pow_add]
    refine ⟨Int.mul_nonneg i0 h0, ?_⟩
    have a := mul_le_r (c := val xs) h0 i1
    have b := mul_le_l (a := val xs) (b := 4294967296 ^ xs.length) (c := 4294967296 ^ (xs.length * e)) (Int.le_of_lt (pow_pos' _)) (Int.le_of_lt h1)
    omega
theorem pow_len {xs ds : List Int} {e : Nat} (h : Wf xs) (hd : Wf ds) (fd : trimN ds ds.length = ds.length) (hv : val ds = val xs ^ e) : ds.length ≤ xs.length * e + 1 := by
  refine full_len hd fd ?_
  have h1 := (pow_bound h e).2
  have h2 : (4294967296 : Int) ^ (xs.length * e) < 4294967296 ^ (xs.length * e + 1) := by
    rw [Int.pow_succ]; have := pow_pos' (xs.length * e); omega
  omega
theorem and_one64 (x : Nat) (h : x < 2147483648) : bits .and .i64 (x : Int) 1 = ((x % 2 : Nat) : Int) := by
  show IntKind.i64.wrap ((BitVec.ofInt 64 (x : Int) &&& BitVec.ofInt 64 ((1 : Nat) : Int)).toNat : Int) = _
  rw [BitVec.toNat_and, ofInt_u64 x (by omega), ofInt_u64 1 (by omega), Nat.and_one_is_mod]
  exact IntWalk.i64_in _ (by omega)
theorem and_shift (N j b : Nat) (h : N < 2147483648) (hb : N / 2 ^ j % 2 = b) : bits .and .i64 ((N : Int) / 2 ^ j) 1 = (b : Int) := by
  have e : (N : Int) / 2 ^ j = ((N / 2 ^ j : Nat) : Int) := by simp
  rw [e, and_one64 _ (Nat.lt_of_le_of_lt (Nat.div_le_self _ _) h), hb]
theorem half_step (N j : Nat) : (N / 2 ^ j % 2 = 1 ∧ N / 2 ^ j = N / 2 ^ (j + 1) + N / 2 ^ (j + 1) + 1) ∨ (N / 2 ^ j % 2 = 0 ∧ N / 2 ^ j = N / 2 ^ (j + 1) + N / 2 ^ (j + 1)) := by
  have h : N / 2 ^ (j + 1) = N / 2 ^ j / 2 := by rw [Nat.pow_succ, Nat.div_div_eq_div_mul]
  rw [h]
  omega
end
section
open Go.RowKit
set_option linter.unusedVariables false
set_option linter.unusedSimpArgs false
theorem nil_arg (w : World) : Arg w (.slice none 0 0) [] none 0 := ⟨rfl, .inl rfl, Nat.le_refl _, Wf.nil⟩
end
section
open Go.RowKit Go.ChangeShapes Go.WideShapes Go.ChangeAt
set_option linter.unusedVariables false
set_option linter.unusedSimpArgs false
/-- a slice of limbs, as it came in, of whatever size -/
theorem open_nat3 {H : Type} {enc : TypeId × Value → H} {W : World} {v : Value} {d : DataW H} {p : List MemPlace}
    (hv : ∃ ad n cap, v = .slice ad n cap) (h : DataW.Trod enc Try.prog W 0 (fun _ => true) true 23 v d p) : ∃ ad xs cap, Arg W v xs ad cap ∧ (ad = none → cap = 0) := by
  obtain ⟨ad, n, cap, rfl⟩ := hv
  obtain ⟨fuel, hf⟩ := h
  rcases open_ints Try.underlying23 Try.underlying63 cellsLimb hf with ⟨hcs, hx⟩ | ⟨a, len', cap', zs, hcs, _, hl, hm, hz, hx, hcell, hwz⟩
  · simp [Value.cells] at hcs
    obtain ⟨rfl, rfl, rfl⟩ := hcs
    exact ⟨none, [], 0, ⟨rfl, .inl rfl, Nat.le_refl _, Wf.nil⟩, fun _ => rfl⟩
  · simp [Value.cells] at hcs
    obtain ⟨rfl, rfl, rfl⟩ := hcs
    simp only [if_true] at hz
    have hlen : (zs.take n).length = n := by rw [List.length_take]; omega
    refine ⟨some a, zs.take n, cap, ⟨by rw [hlen], ?_, by rw [hlen]; exact hl, fun x hx => wf_limb (hwz x (List.mem_of_mem_take hx))⟩, fun h => by cases h⟩
    by_cases h0 : n = 0
    · exact .inl (by simp [h0])
    · obtain ⟨b, off, rfl, hc⟩ := ints_at hcell (by omega)
      refine .inr ⟨b, off, rfl, fun i hi => ?_⟩
      rw [hlen] at hi
      rw [hc i (by omega)]
      simp [hi]
theorem cmp_lt {u v : Value} {xs ys : List Int} {a b : Option Addr} {capa capb : Nat} {w : World} (h1 : Arg w u xs a capa) (h2 : Arg w v ys b capb) (hx : xs.length ≤ 35184372088832) (hy : ys.length ≤ 35184372088832) (h : val xs < val ys) :
    Calls Try.prog 30 #[u, v] w fun e w' => e = .returned (.int .i64 (-1)) ∧ Below w.heap.size w w' := by
  have k := cmp_res h1 h2 hx hy
  rwa [sign_lt h] at k
theorem cmp_eq {u v : Value} {xs ys : List Int} {a b : Option Addr} {capa capb : Nat} {w : World} (h1 : Arg w u xs a capa) (h2 : Arg w v ys b capb) (hx : xs.length ≤ 35184372088832) (hy : ys.length ≤ 35184372088832) (h : val xs = val ys) :
    Calls Try.prog 30 #[u, v] w fun e w' => e = .returned (.int .i64 0) ∧ Below w.heap.size w w' := by
  have k := cmp_res h1 h2 hx hy
  rwa [h, sign_self] at k
theorem cmp_ge {u v : Value} {xs ys : List Int} {a b : Option Addr} {capa capb : Nat} {w : World} (h1 : Arg w u xs a capa) (h2 : Arg w v ys b capb) (hx : xs.length ≤ 35184372088832) (hy : ys.length ≤ 35184372088832) (h : val ys ≤ val xs) :
    Calls Try.prog 30 #[u, v] w fun e w' => ∃ r : Int, e = .returned (.int .i64 r) ∧ decide (0 ≤ r) = true ∧ Below w.heap.size w w' := by
  refine (cmp_res h1 h2 hx hy).mono fun e w' ⟨he, hb⟩ => ⟨_, he, decide_eq_true ?_, hb⟩
  unfold sign
  rw [if_neg (by omega)]
  split <;> omega
theorem cmpD_eq {u v : Value} {xs ys : List Int} {a b : Option Addr} {capa capb : Nat} {w : World} (h1 : ArgD w u xs a capa) (h2 : ArgD w v ys b capb) (hx : xs.length ≤ 68719476736) (hy : ys.length ≤ 68719476736) (h : valD xs = valD ys) :
    Calls Try.prog 29 #[u, v] w fun e w' => e = .returned (.int .i64 0) ∧ Below w.heap.size w w' := by
  have k := cmpD_any h1 h2 hx hy
  rwa [h, sign_self] at k
theorem div_back {A B C : Int} (h0 : 0 ≤ C) (h1 : C < B) : (A * B + C) / B = A ∧ (A * B + C) % B = C := by
  obtain ⟨e1, e2⟩ := quo_eq (V := A) (d := B) (r := C) (N := A * B + C) (by omega) rfl ⟨h0, h1⟩
  exact ⟨e1.symm, e2.symm⟩
theorem parts_eq (a b : Int) : a / b * b + a % b = a := by rw [Int.mul_comm]; exact Int.mul_ediv_add_emod a b
theorem lenD_pos {ds : List Int} (h : 0 < valD ds) : ((ds.length : Int) == 0) = false := by
  cases ds with
  | nil => simp [valD] at h
  | cons x l => simp; omega
theorem lenD_zero {ds : List Int} (h : WfD ds) (f : trimN ds ds.length = ds.length) (e : valD ds = 0) : ((ds.length : Int) == 0) = true := by rw [valD_zero h f e]; rfl
theorem wf_i64 {i : Int} (h : (Lit.int .i64 i).wf = true) : -9223372036854775808 ≤ i ∧ i ≤ 9223372036854775807 := by simpa [Lit.wf, IntKind.min, IntKind.max, IntKind.signed, IntKind.bits] using h
end
section
open Go.RowKit
set_option linter.unusedVariables false
set_option linter.unusedSimpArgs false
theorem step_copy {ops : Array Oper} {rest : List Oper} {o : Oper} {a : Act} {w : World} {Q : Exit → Act → World → Prop} (hg : o.guard = none) (t : Nat)
    (hop : o.op = Op.call { callee := Callee.builtin Builtin.append, args := #[Operand.const (.slice none 0 0), Operand.tmp t], argTypes := #[23, 23] }) {xs : List Int} {ad : Option Addr} {cap : Nat} {u : Value} (hx : a.eval (.tmp t) = u)
    (hA : Arg w u xs ad cap) (hn : ad = none → cap = 0) (hl : xs.length ≤ 134217728)
    (h : ∀ v' w1, Num w.heap.size w1 v' xs → Below w.heap.size w w1 → wpList Try.prog ops Q rest (a.put o.dst v') w1) : wpList Try.prog ops Q (o :: rest) a w := by
  obtain ⟨i0, hi, hz0, hz1, hz2⟩ := info_parts infoLimb
  have hnil := World.ownsRow_nil w w.heap.size 63 1
  obtain ⟨rfl, lx, hle, wx⟩ := hA
  cases ad with
  | none =>
    have hc := hn rfl
    subst hc
    have hxs : xs = [] := List.eq_nil_of_length_eq_zero (by omega)
    subst hxs
    have hrun := fun ty => run_append_owned_none (P := Try.prog) w w.heap.size 23 ty 63 i0 1 Try.underlying23 hi (.slice none 0 0) 0 [] hnil
    refine wpList_plain hg fun K hK => ?_
    have h' := hK _ _ (h _ _ hnil (Below.refl _ _))
    obtain ⟨dst, op, type, pos, after, guard⟩ := o
    simp only at hop hg h' ⊢
    subst hop
    subst hg
    simp only [List.length_nil] at hx
    have hx' : a.tmps[t]?.getD undef = .slice none 0 0 := by simpa [go_sem] using hx
    unfold Oper.wp
    simp [go_sem, hx', hrun]
    exact h'
  | some ad =>
    have hcells : ∀ j u, (xs.map (Value.int .u32))[j]? = some u → w.cell? (ad.add j) = some u := by
      intro j u hj
      rcases lx with rfl | ⟨b, off, e, hc⟩
      · simp at hj
      · cases e
        rw [List.getElem?_map] at hj
        have hjl : j < xs.length := by
          rcases Nat.lt_or_ge j xs.length with h | h
          · exact h
          · rw [List.getElem?_eq_none h] at hj; cases hj
        rw [show (⟨b, off, none⟩ : Addr).add j = ⟨b, off + j, none⟩ from (by unfold Addr.add; split <;> simp_all), hc j hjl, ← hj]
        simp [hjl]
    refine wpList_append_own w hg (.const (.slice none 0 0)) (.tmp t) 23 hop w.heap.size 63 i0 (.int .u32 0) 1 4 Try.underlying23 hi hz0 hz1 hz2 rfl (by decide) (.slice none 0 0) 0 [] rfl hnil ad xs.length cap (xs.map (Value.int .u32)) hx (by simp) hcells (ints_oneCell _ _) (by unfold maxLen; omega) (by omega) (Nat.le_refl _) ?_
    intro v' w1 hown hgrow _
    refine h v' w1 ?_ ((Below.refl _ w).grown hgrow (Nat.le_refl _) (fun k hk => by cases hk))
    unfold Num
    simpa using hown
end
section
open Go.RowKit
set_option linter.unusedVariables false
set_option linter.unusedSimpArgs false
/-- a natural number with a sign -/
def sgn (neg : Bool) (A : Int) : Int := if neg = true then -A else A
/-- the number of a sign and two natural numbers; 0, if one of them is 0 -/
def ratOf (neg : Bool) (A B : Int) : Rat := Rat.divInt (sgn neg A) B
theorem sgn_neg (A : Int) : sgn true A = -A := rfl
theorem sgn_pos (A : Int) : sgn false A = A := rfl
theorem sgn_zero (n : Bool) : sgn n 0 = 0 := by cases n <;> rfl
theorem sgn_mul (m n : Bool) (A B : Int) : sgn m A * sgn n B = sgn (m != n) (A * B) := by
  cases m <;> cases n <;> simp [sgn, Int.neg_mul, Int.mul_neg]
theorem ratOf_zero_left (n : Bool) (B : Int) : ratOf n 0 B = 0 := by unfold ratOf; rw [sgn_zero, Rat.zero_divInt]
theorem ratOf_zero_right (n : Bool) (A : Int) : ratOf n A 0 = 0 := by unfold ratOf; rw [Rat.divInt_zero]
theorem gcd_pos {A B : Int} (hA : 0 < A) : (0 : Int) < (Int.gcd A B : Int) := by
  have := Int.gcd_pos_of_ne_zero_left (a := A) B (by omega)
  omega
theorem gcd_pos_right {A B : Int} (hB : 0 < B) : (0 : Int) < (Int.gcd A B : Int) := by rw [Int.gcd_comm]; exact gcd_pos hB
/-- what the number's parts are: reduced -/
theorem ratOf_num {n : Bool} {A B : Int} (hA : 0 ≤ A) (hB : 0 < B) : (ratOf n A B).num = sgn n (A / (Int.gcd A B : Int)) := by
  unfold ratOf
  rw [Rat.num_divInt, Int.sign_eq_one_of_pos hB, Int.one_mul]
  cases n with
  | false => simp only [sgn_pos]; rw [Int.gcd_comm]
  | true =>
    simp only [sgn_neg]
    rw [Int.gcd_neg, Int.gcd_comm, Int.neg_ediv_of_dvd (Int.gcd_dvd_left _ _)]
theorem ratOf_den {n : Bool} {A B : Int} (hB : 0 < B) : ((ratOf n A B).den : Int) = B / (Int.gcd A B : Int) := by
  unfold ratOf
  rw [Rat.den_divInt, if_neg (by omega)]
  have e : Int.gcd B (sgn n A) = Int.gcd A B := by
    cases n with
    | false => rw [sgn_pos, Int.gcd_comm]
    | true => rw [sgn_neg, Int.gcd_neg, Int.gcd_comm]
  rw [e, Int.natCast_ediv, Int.natAbs_of_nonneg (by omega)]
theorem quo_pos {A g : Int} (hA : 0 < A) (hg : 0 < g) (hd : g ∣ A) : 0 < A / g := Int.ediv_pos_of_pos_of_dvd hA (by omega) hd
theorem ratOf_abs {n : Bool} {A B : Int} (hA : 0 ≤ A) (hB : 0 < B) : ((ratOf n A B).num.natAbs : Int) = A / (Int.gcd A B : Int) := by
  rw [ratOf_num hA hB]
  have h := Int.ediv_nonneg hA (Int.natCast_nonneg (Int.gcd A B))
  cases n with
  | false => rw [sgn_pos]; omega
  | true => rw [sgn_neg]; omega
theorem ratOf_lt {n : Bool} {A B : Int} (hA : 0 ≤ A) (hB : 0 < B) : decide ((ratOf n A B).num < 0) = (n && decide (A ≠ 0)) := by
  rw [ratOf_num hA hB]
  by_cases h : A = 0
  · subst h; cases n <;> simp [sgn]
  · have h2 := quo_pos (A := A) (g := (Int.gcd A B : Int)) (by omega) (gcd_pos (by omega)) (Int.gcd_dvd_left _ _)
    cases n with
    | false => simp only [sgn_pos, Bool.false_and]; exact decide_eq_false (by omega)
    | true =>
      have e1 : decide (sgn true (A / (Int.gcd A B : Int)) < 0) = true := decide_eq_true (by rw [sgn_neg]; omega)
      rw [e1, decide_eq_true h]; rfl
/-- a number is that of its own parts -/
theorem ratOf_self (x : Rat) : ratOf (decide (x.num < 0)) (x.num.natAbs : Int) (x.den : Int) = x := by
  unfold ratOf
  have e : sgn (decide (x.num < 0)) (x.num.natAbs : Int) = x.num := by
    by_cases h : x.num < 0
    · rw [decide_eq_true h, sgn_neg]; omega
    · rw [decide_eq_false h, sgn_pos]; omega
  rw [e, Rat.num_divInt_den]
theorem sgn_num (x : Rat) : sgn (decide (x.num < 0)) (x.num.natAbs : Int) = x.num := by
  by_cases h : x.num < 0
  · rw [decide_eq_true h, sgn_neg]; omega
  · rw [decide_eq_false h, sgn_pos]; omega
theorem den_pos' (x : Rat) : (0 : Int) < (x.den : Int) := by have := Rat.den_pos x; omega
theorem abs_zero (x : Rat) : (x.num.natAbs : Int) = 0 ↔ x = 0 := by
  rw [← Rat.num_eq_zero]; omega
theorem x_eq (x : Rat) : x = Rat.divInt x.num x.den := (Rat.num_divInt_den x).symm
theorem rat_mul (x y : Rat) : ratOf ((decide (x.num < 0)) != (decide (y.num < 0))) ((x.num.natAbs : Int) * (y.num.natAbs : Int)) ((x.den : Int) * (y.den : Int)) = x * y := by
  unfold ratOf
  rw [← sgn_mul, sgn_num, sgn_num]
  conv => rhs; rw [x_eq x, x_eq y]
  rw [Rat.divInt_mul_divInt]
theorem rat_add_same (x y : Rat) (h : decide (x.num < 0) = decide (y.num < 0)) :
    ratOf (decide (x.num < 0)) ((x.num.natAbs : Int) * (y.den : Int) + (y.num.natAbs : Int) * (x.den : Int)) ((x.den : Int) * (y.den : Int)) = x + y := by
  have e : sgn (decide (x.num < 0)) ((x.num.natAbs : Int) * (y.den : Int) + (y.num.natAbs : Int) * (x.den : Int)) = x.num * y.den + y.num * x.den := by
    have h1 := sgn_num x
    have h2 := sgn_num y
    rw [← h] at h2
    generalize decide (x.num < 0) = s at *
    generalize (x.num.natAbs : Int) = X at *
    generalize (y.num.natAbs : Int) = Y at *
    rw [← h1, ← h2]
    cases s
    · simp only [sgn_pos]
    · simp only [sgn_neg, Int.neg_mul]; omega
  unfold ratOf
  rw [e]
  conv => rhs; rw [x_eq x, x_eq y]
  rw [Rat.divInt_add_divInt _ _ (by have := den_pos' x; omega) (by have := den_pos' y; omega)]
theorem rat_add_left (x y : Rat) (h : decide (x.num < 0) ≠ decide (y.num < 0)) :
    ratOf (decide (x.num < 0)) ((x.num.natAbs : Int) * (y.den : Int) - (y.num.natAbs : Int) * (x.den : Int)) ((x.den : Int) * (y.den : Int)) = x + y := by
  have e : sgn (decide (x.num < 0)) ((x.num.natAbs : Int) * (y.den : Int) - (y.num.natAbs : Int) * (x.den : Int)) = x.num * y.den + y.num * x.den := by
    have h1 := sgn_num x
    have h2 := sgn_num y
    by_cases hx : x.num < 0
    · have hy : ¬ y.num < 0 := fun hy => h (by rw [decide_eq_true hx, decide_eq_true hy])
      rw [decide_eq_true hx, sgn_neg]
      rw [show x.num = -(x.num.natAbs : Int) by omega, show y.num = (y.num.natAbs : Int) by omega]
      simp only [Int.neg_mul, Int.natAbs_neg, Int.natAbs_natCast]; omega
    · have hy : y.num < 0 := by
        rcases Int.lt_or_le y.num 0 with k | k
        · exact k
        · exact absurd (by rw [decide_eq_false hx, decide_eq_false (by omega)]) h
      rw [decide_eq_false hx, sgn_pos]
      rw [show x.num = (x.num.natAbs : Int) by omega, show y.num = -(y.num.natAbs : Int) by omega]
      simp only [Int.neg_mul, Int.natAbs_neg, Int.natAbs_natCast]; omega
  unfold ratOf
  rw [e]
  conv => rhs; rw [x_eq x, x_eq y]
  rw [Rat.divInt_add_divInt _ _ (by have := den_pos' x; omega) (by have := den_pos' y; omega)]
theorem rat_add_right (x y : Rat) (h : decide (x.num < 0) ≠ decide (y.num < 0)) :
    ratOf (decide (y.num < 0)) ((y.num.natAbs : Int) * (x.den : Int) - (x.num.natAbs : Int) * (y.den : Int)) ((x.den : Int) * (y.den : Int)) = x + y := by
  rw [Rat.add_comm, Int.mul_comm (x.den : Int)]
  exact rat_add_left y x (Ne.symm h)
theorem rat_neg (x : Rat) : decide ((-x).num < 0) = (!decide (x.num < 0) && decide (x ≠ 0)) ∧ (-x).num.natAbs = x.num.natAbs ∧ (-x).den = x.den := by
  have hz := Rat.num_eq_zero (q := x)
  refine ⟨?_, by rw [Rat.neg_num, Int.natAbs_neg], rfl⟩
  rw [Rat.neg_num]
  by_cases h : x = 0
  · subst h; decide
  · have h2 : x.num ≠ 0 := fun e => h (hz.1 e)
    rw [decide_eq_true (show x ≠ 0 from h), Bool.and_true]
    by_cases hx : x.num < 0
    · rw [decide_eq_true hx, decide_eq_false (by omega)]; rfl
    · rw [decide_eq_false hx, decide_eq_true (by omega)]; rfl
theorem rat_inv (y : Rat) (h : y ≠ 0) : ratOf (decide (y.num < 0)) (y.den : Int) (y.num.natAbs : Int) = y⁻¹ := by
  unfold ratOf
  rw [Rat.inv_def]
  have h2 : y.num ≠ 0 := fun e => h (Rat.num_eq_zero.1 e)
  by_cases hy : y.num < 0
  · rw [decide_eq_true hy, sgn_neg]
    have e : Rat.divInt (-(y.den : Int)) (y.num.natAbs : Int) = Rat.divInt (y.den : Int) y.num := by
      rw [Rat.divInt_eq_divInt_iff (by omega) h2, show y.num = -(y.num.natAbs : Int) by omega]
      simp [Int.natAbs_neg, Int.neg_mul_neg]
    exact e
  · rw [decide_eq_false hy, sgn_pos, show ((y.num.natAbs : Nat) : Int) = y.num by omega]
theorem ratOf_neg {n : Bool} {A B : Int} (hA : 0 ≤ A) (hB : 0 < B) (h : A = 0 → n = false) : decide ((ratOf n A B).num < 0) = n := by
  rw [ratOf_lt hA hB]
  by_cases k : A = 0
  · rw [h k]; rfl
  · rw [decide_eq_true k, Bool.and_true]
theorem rat_sum {m n r : Bool} {A B C D S : Int} (hB : 0 < B) (hD : 0 < D) (h : sgn r S = sgn m (A * D) + sgn n (C * B)) : ratOf r S (B * D) = ratOf m A B + ratOf n C D := by
  unfold ratOf
  rw [h, Rat.divInt_add_divInt _ _ (by omega) (by omega)]
  have e : ∀ (m : Bool) (A D : Int), sgn m (A * D) = sgn m A * D := fun m A D => by cases m <;> simp [sgn, Int.neg_mul]
  rw [e, e]
theorem rat_diff {m n r : Bool} {A B C D S : Int} (hB : 0 < B) (hD : 0 < D) (h : sgn r S = sgn m (A * D) + sgn (!n) (C * B)) : ratOf r S (B * D) = ratOf m A B - ratOf n C D := by
  rw [rat_sum hB hD h, Rat.sub_eq_add_neg]
  congr 1
  unfold ratOf
  rw [Rat.neg_divInt]
  congr 1
  cases n <;> simp [sgn]
theorem rat_prod (m n : Bool) (A B C D : Int) : ratOf (m != n) (A * C) (B * D) = ratOf m A B * ratOf n C D := by
  unfold ratOf
  rw [← sgn_mul, Rat.divInt_mul_divInt]
theorem rat_turned (n : Bool) (A B : Int) : ratOf (!n) A B = -ratOf n A B := by
  unfold ratOf
  rw [Rat.neg_divInt]
  congr 1
  cases n <;> simp [sgn]
theorem rat_over (n : Bool) (C D : Int) (hC : 0 ≤ C) (hD : 0 ≤ D) : ratOf n D C = (ratOf n C D)⁻¹ := by
  by_cases h : C = 0
  · subst h
    rw [ratOf_zero_left, ratOf_zero_right, Rat.inv_zero]
  by_cases k : D = 0
  · subst k
    rw [ratOf_zero_left, ratOf_zero_right, Rat.inv_zero]
  unfold ratOf
  rw [Rat.inv_divInt]
  cases n with
  | false => rfl
  | true => rw [sgn_neg, sgn_neg, Rat.divInt_eq_divInt_iff (by omega) (by omega)]; simp [Int.neg_mul_neg]
/-- -1, 0, 1 -/
def sgR (x : Rat) : Int := x.num.sign
theorem sgR_zero (x : Rat) : sgR x = 0 ↔ x = 0 := by unfold sgR; rw [Int.sign_eq_zero_iff_zero, Rat.num_eq_zero]
theorem sgR_divInt (a : Int) {b : Int} (hb : 0 < b) : sgR (Rat.divInt a b) = a.sign := by
  unfold sgR
  rw [Rat.num_divInt, Int.sign_eq_one_of_pos hb, Int.one_mul]
  have hg : (0 : Int) < (Int.gcd b a : Int) := gcd_pos hb
  rcases Int.lt_trichotomy a 0 with h | h | h
  · rw [Int.sign_eq_neg_one_of_neg h]
    apply Int.sign_eq_neg_one_of_neg
    have h2 := quo_pos (A := -a) (g := (Int.gcd b a : Int)) (by omega) hg (Int.dvd_neg.2 (Int.gcd_dvd_right _ _))
    rw [Int.neg_ediv_of_dvd (Int.gcd_dvd_right _ _)] at h2
    omega
  · rw [h]; simp
  · rw [Int.sign_eq_one_of_pos h]
    exact Int.sign_eq_one_of_pos (quo_pos h hg (Int.gcd_dvd_right _ _))
theorem sgR_ratOf (n : Bool) (A : Int) {B : Int} (hB : 0 < B) : sgR (ratOf n A B) = (sgn n A).sign := sgR_divInt _ hB
theorem ratOf_zero {n : Bool} {A B : Int} (hB : 0 < B) : ratOf n A B = 0 ↔ A = 0 := by
  rw [← sgR_zero, sgR_ratOf n A hB, Int.sign_eq_zero_iff_zero]
  cases n <;> simp [sgn]
theorem sgR_neg (x : Rat) : sgR (-x) = -sgR x := by unfold sgR; rw [Rat.neg_num, Int.sign_neg]
theorem sgR_mul (x y : Rat) : sgR (x * y) = sgR x * sgR y := by
  have e : x * y = Rat.divInt (x.num * y.num) (x.den * y.den) := by
    conv => lhs; rw [x_eq x, x_eq y]
    rw [Rat.divInt_mul_divInt]
  rw [e, sgR_divInt _ (Int.mul_pos (den_pos' x) (den_pos' y)), Int.sign_mul]
  rfl
theorem sgR_swap (x y : Rat) : sgR (y - x) = -sgR (x - y) := by rw [← sgR_neg]; congr 1; grind
theorem sgR_both (x y z : Rat) : sgR ((x + z) - (y + z)) = sgR (x - y) := by congr 1; grind
theorem sgR_times (x y z : Rat) : sgR (x * z - y * z) = sgR (x - y) * sgR z := by rw [← sgR_mul]; congr 1; grind
theorem sgR_range (x : Rat) : sgR x = -1 ∨ sgR x = 0 ∨ sgR x = 1 := by
  unfold sgR
  rcases Int.lt_trichotomy x.num 0 with h | h | h
  · exact .inl (Int.sign_eq_neg_one_of_neg h)
  · exact .inr (.inl (by rw [h]; rfl))
  · exact .inr (.inr (Int.sign_eq_one_of_pos h))
theorem sgn_sign (n : Bool) {A : Int} (hA : 0 ≤ A) : (sgn n A).sign = if A = 0 then 0 else if n = true then -1 else 1 := by
  by_cases h : A = 0
  · rw [if_pos h, h, sgn_zero]; rfl
  · rw [if_neg h]
    cases n with
    | false => rw [sgn_pos]; exact Int.sign_eq_one_of_pos (by omega)
    | true => rw [sgn_neg, if_pos rfl]; exact Int.sign_eq_neg_one_of_neg (by omega)
theorem rat_back (x y : Rat) : x + y - y = x := by grind
theorem rat_away (x : Rat) : x + -x = 0 := by grind
theorem rat_divided (x y : Rat) (h : y ≠ 0) : x * y / y = x := by grind
theorem rat_ext {x y : Rat} (h1 : decide (x.num < 0) = decide (y.num < 0)) (h2 : x.num.natAbs = y.num.natAbs) (h3 : x.den = y.den) : x = y := by
  apply Rat.ext _ h3
  have e := decide_eq_decide.1 h1
  omega
end
end Go.Proofs.Ytokinmmnoiacdaa
