/-
  Contracts of package quo: Short.
-/
import Derived.Test.YtdcdaielfkikhaaQPart
import Derived.Test.YtdcdaielfkikhaaB3
import Derived.RangeFuncBox
namespace Go.Proofs.Ytdcdaielfkikhaa
open Go.RowKit Go.Shelf
set_option linter.unusedVariables false
set_option linter.unusedSimpArgs false
attribute [local go_sem] Oper.semAt_some

/-- quotient and rest by one limb, from the highest limb on -/
def shortW (d : Int) : List Int → List Int × Int
  | [] => ([], 0)
  | x :: l => (((shortW d l).2 * 4294967296 + x) / d :: (shortW d l).1, ((shortW d l).2 * 4294967296 + x) % d)
theorem shortW_length (d : Int) (xs : List Int) : (shortW d xs).1.length = xs.length := by
  induction xs with
  | nil => rfl
  | cons x xs ih => simp [shortW, ih]
theorem shortW_rest {d : Int} (hd : 0 < d) (xs : List Int) : 0 ≤ (shortW d xs).2 ∧ (shortW d xs).2 < d := by
  cases xs with
  | nil => exact ⟨Int.le_refl _, hd⟩
  | cons x xs => exact ⟨Int.emod_nonneg _ (by omega), Int.emod_lt_of_pos _ hd⟩
theorem shortW_limb {d r x : Int} (hd : 0 < d) (hr : 0 ≤ r ∧ r < d) (hx : 0 ≤ x ∧ x < 4294967296) : 0 ≤ (r * 4294967296 + x) / d ∧ (r * 4294967296 + x) / d < 4294967296 := by
  refine ⟨Int.ediv_nonneg (by omega) (by omega), ?_⟩
  rw [Int.ediv_lt_iff_lt_mul hd]
  have h := mul_le_r (a := r + 1) (b := d) (c := 4294967296) (by omega) (by omega)
  rw [Int.mul_comm 4294967296 d]
  omega
theorem shortW_wf {d : Int} (hd : 0 < d) {xs : List Int} (hx : Wf xs) : Wf (shortW d xs).1 := by
  induction xs with
  | nil => exact Wf.nil
  | cons x xs ih => exact Wf.cons (shortW_limb hd (shortW_rest hd xs) hx.head) (ih hx.tail)
theorem val_shortW (d : Int) (xs : List Int) : val (shortW d xs).1 * d + (shortW d xs).2 = val xs := by
  induction xs with
  | nil => simp [shortW, val]
  | cons x xs ih =>
    simp only [shortW, val]
    have h := Int.emod_add_mul_ediv ((shortW d xs).2 * 4294967296 + x) d
    generalize ((shortW d xs).2 * 4294967296 + x) / d = q at *
    generalize ((shortW d xs).2 * 4294967296 + x) % d = r at *
    grind
/-- what lies in memory where k limbs are still to come -/
def shortM (d : Int) (zs : List Int) (k : Nat) : List Int := zs.take k ++ (shortW d (zs.drop k)).1
theorem shortM_length (d : Int) (zs : List Int) (k : Nat) (hk : k ≤ zs.length) : (shortM d zs k).length = zs.length := by
  unfold shortM
  rw [List.length_append, shortW_length, List.length_take, List.length_drop]
  omega
theorem shortM_top (d : Int) (zs : List Int) : shortM d zs zs.length = zs := by simp [shortM, shortW]
theorem shortW_drop (d : Int) (zs : List Int) (k : Nat) (hk : k < zs.length) : shortW d (zs.drop k) = (((shortW d (zs.drop (k + 1))).2 * 4294967296 + zs.getD k 0) / d :: (shortW d (zs.drop (k + 1))).1, ((shortW d (zs.drop (k + 1))).2 * 4294967296 + zs.getD k 0) % d) := by
  rw [List.drop_eq_getElem_cons hk]
  simp only [shortW]
  rw [show zs[k] = zs.getD k 0 by simp [hk]]
theorem shortM_step (d : Int) (zs : List Int) (k : Nat) (hk : k < zs.length) : (shortM d zs (k + 1)).set k (((shortW d (zs.drop (k + 1))).2 * 4294967296 + zs.getD k 0) / d) = shortM d zs k := by
  unfold shortM
  rw [shortW_drop d zs k hk, List.take_succ_eq_append_getElem hk, List.append_assoc, List.set_append_right _ _ (by rw [List.length_take]; omega)]
  rw [List.length_take, Nat.min_eq_left (by omega), Nat.sub_self]
  simp
theorem shortM_low (d : Int) (zs : List Int) (k i : Nat) (hk : k ≤ zs.length) (hi : i < k) : (shortM d zs k).getD i 0 = zs.getD i 0 := by
  unfold shortM
  simp only [List.getD]
  rw [List.getElem?_append_left (by rw [List.length_take]; omega), List.getElem?_take_of_lt hi]
theorem or_u64' {x y : Int} (hx : 0 ≤ x ∧ x < 4294967296) (hy : 0 ≤ y ∧ y < 4294967296) : bits .or .u64 (x * 4294967296) y = x * 4294967296 + y := by rw [or_u64 hx hy]; omega

set_option maxRecDepth 100000 in
set_option maxHeartbeats 4000000 in
theorem short0_any {u : Value} {w : World} :
    Calls Try.prog 22 #[u, .int .u32 0] w fun e w' => e = .returned (.tuple #[.slice none 0 0, .int .u32 0, .int .i64 17]) ∧ Below w.heap.size w w' := by
  obtain ⟨n, hn⟩ : ∃ n : Nat, Hid (3 ≤ n) := ⟨3, Nat.le_refl 3⟩
  refine (callsIn_wide (n := n)).1 ?_
  refine callsIn_of_wp_marks Try.func22 rfl trivial ?_ rfl
  simp only [Try.ntmps22, List.size_toArray, List.length_cons, List.length_nil, Nat.reduceAdd, Nat.reduceSub, Array.replicate_succ, Array.replicate_zero, List.push_toArray, List.append_toArray, List.nil_append, List.cons_append]
  gi_wp2_with fail
  refine ⟨_, by simp [results, Try.f22, go_sem], rfl, (Below.refl _ w).alloc (Nat.le_refl _) _⟩

/-- how far a walk from above has come -/
structure Down (N : Nat) (pre : List (Fin N)) : Prop where
  on : Downto pre pre.length
  le : pre.length ≤ N
theorem Down.snoc {N : Nat} {pre : List (Fin N)} (h : Down N pre) (x : Fin N) (hx : x.val + pre.length + 1 = N) : Down N (pre ++ [x]) := by
  have e : (pre ++ [x]).length = pre.length + 1 := by simp
  exact ⟨by rw [e]; exact h.on.snoc x hx, by rw [e]; omega⟩

set_option maxRecDepth 100000 in
set_option maxHeartbeats 4000000 in
theorem short1_any {u : Value} {w : World} {xs : List Int} {a : Option Addr} {cap : Nat} (d : Int) (h1 : Arg w u xs a cap) (hx : xs.length ≤ 35184372088832) (hd : 0 < d ∧ d < 4294967296) :
    Calls Try.prog 22 #[u, .int .u32 d] w fun e w' => ∃ r, e = .returned (.tuple #[r, .int .u32 (val xs % d), .int .i64 0]) ∧ ∃ zs, Res w.heap.size w' r zs (val xs / d) ∧ zs.length ≤ xs.length ∧ Below w.heap.size w w' := by
  obtain ⟨hd0, hd1⟩ := hd
  obtain ⟨n, hn⟩ : ∃ n : Nat, Hid (3 ≤ n) := ⟨3, Nat.le_refl 3⟩
  refine (callsIn_wide (n := n)).1 ?_
  refine callsIn_of_wp_marks Try.func22 rfl trivial ?_ rfl
  simp only [Try.ntmps22, List.size_toArray, List.length_cons, List.length_nil, Nat.reduceAdd, Nat.reduceSub, Array.replicate_succ, Array.replicate_zero, List.push_toArray, List.append_toArray, List.nil_append, List.cons_append]
  have hdz : (d == 0) = false := by simp; omega
  gi_wp2_with fail
  have A1 := h1.later ((Below.refl _ w).alloc (Nat.le_refl _) (Obj.cells #[Value.int IntKind.u32 d] 38))
  refine wideCall ((trim_res A1 hx).mono ?_)
  rintro e w1 ⟨r1, zs, rfl, q1, n1, hb1⟩
  rw [World.size_alloc] at q1 hb1
  have k1 : Boxed w1 w.heap.size 38 (.int .u32 d) := (hb1.block _ (Nat.lt_succ_self _)).trans (Boxed.new w 38 (.int .u32 d))
  have hB1 : Below w.heap.size w w1 := ((Below.refl _ w).alloc (Nat.le_refl _) _).trans (hb1.mono (Nat.le_succ _))
  have hs1 : w.heap.size + 1 ≤ w1.heap.size := by have := hb1.size; rw [World.size_alloc] at this; exact this
  obtain ⟨ad, cp, rfl, _, _, _, _⟩ := q1.num.read
  gi_wp2_with fail
  refine wideCall ((back_any _ _ _ _).mono ?_)
  rintro e w' ⟨rfl, rfl⟩
  gi_wp2_with fail
  have h3 : 3 ≤ n := hn
  obtain ⟨N, hN⟩ : ∃ N, zs.length = N := ⟨_, rfl⟩
  rw [hN]
  have nq0 := q1.num
  rw [hN] at nq0
  have j7 := ((Boxed.new w1 23 (.slice ad N cp)).alloc (Obj.cells #[Value.int IntKind.u64 0] 51)).alloc (Obj.cells #[Value.slice ad N cp] 23)
  have j8 := (Boxed.new (w1.alloc (Obj.cells #[Value.slice ad N cp] 23)) 51 (.int .u64 0)).alloc (Obj.cells #[Value.slice ad N cp] 23)
  have j9 := Boxed.new ((w1.alloc (Obj.cells #[Value.slice ad N cp] 23)).alloc (Obj.cells #[Value.int IntKind.u64 0] 51)) 23 (.slice ad N cp)
  have j3 := ((k1.alloc (Obj.cells #[Value.slice ad N cp] 23)).alloc (Obj.cells #[Value.int IntKind.u64 0] 51)).alloc (Obj.cells #[Value.slice ad N cp] 23)
  have jb : Below w1.heap.size w1 (((w1.alloc (Obj.cells #[Value.slice ad N cp] 23)).alloc (Obj.cells #[Value.int IntKind.u64 0] 51)).alloc (Obj.cells #[Value.slice ad N cp] 23)) :=
    (((Below.refl _ w1).alloc (Nat.le_refl _) _).alloc (by simp) _).alloc (by simp; omega) _
  have js : (((w1.alloc (Obj.cells #[Value.slice ad N cp] 23)).alloc (Obj.cells #[Value.int IntKind.u64 0] 51)).alloc (Obj.cells #[Value.slice ad N cp] 23)).heap.size = w1.heap.size + 3 := by simp
  have jq := nq0.later jb
  have jB := hB1.trans (jb.mono (Nat.le_trans (Nat.le_succ _) hs1))
  simp only [World.size_alloc] at j8 j9
  generalize ((w1.alloc (Obj.cells #[Value.slice ad N cp] 23)).alloc (Obj.cells #[Value.int IntKind.u64 0] 51)).alloc (Obj.cells #[Value.slice ad N cp] 23) = W0 at *
  have hNw : N ≤ 35184372088832 := by omega
  have wz := q1.wf
  have hqe := q1.eq
  have hglt : ∀ g, ad = some ⟨g, 0, none⟩ → g < w1.heap.size := fun g e => (nq0.lt g (by rw [e]; rfl)).2
  have HN := Lib.hid hN
  have HQE := Lib.hid hqe
  have hn1 : N ≤ xs.length := by omega
  have jq2 : Num (w.heap.size + 1) W0 (.slice ad N cp) (shortM d zs N) := by rw [← hN, shortM_top, hN]; exact jq
  clear q1 nq0 k1 hB1 hb1 A1 jb h1 hN hqe n1
  refine range_seen (gf := 59) (lb := #[.pointer (some ⟨w1.heap.size + 1 + 1, 0, none⟩)]) rfl (enters_of Try.func59 (by kernel_rfl) rfl) (encs := limbAt zs (n := N)) (fun _ => rfl)
    (fun (pre : List (Fin N)) X => Down N pre ∧ ((((Num (w.heap.size + 1) X (.slice ad N cp) (shortM d zs (N - pre.length)) ∧ Boxed X w.heap.size 38 (.int .u32 d)) ∧ Boxed X w1.heap.size 23 (.slice ad N cp)) ∧
      Boxed X (w1.heap.size + 1) 51 (.int .u64 (shortW d (zs.drop (N - pre.length))).2)) ∧ Boxed X (w1.heap.size + 1 + 1) 23 (.slice ad N cp)) ∧ Below w.heap.size w X)
    (fun pre x => Downto pre pre.length ∧ x.val + pre.length + 1 = N) (fun ys => Downto ys N)
    (OwnFrom.and (ownFrom_pure _ _) (OwnFrom.and (Own.from (Own.and2 (Own.and2 (Own.and2 (Own.and2 (Num.own _ _ _) (boxed_own _ _ _)) (boxed_own _ _ _)) (boxed_own _ _ _)) (boxed_own _ _ _)) _) (ownFrom_below (by omega) (by omega))))
    ?start (fun (x : Fin N) => { tmps := #[u, .int .u32 d, undef, .pointer (some ⟨w.heap.size, 0, none⟩), .slice none 0 0, .int .u32 0, .int .i64 0, .pointer (some ⟨w1.heap.size, 0, none⟩), .pointer (some ⟨w1.heap.size + 1, 0, none⟩), .int .i64 (x.val : Int), .int .u32 (zs[x.val]?.getD 0), .int .u32 d,
      .bool false, u, .slice ad N cp, .slice ad N cp, .func (.func 59) #[] #[.pointer (some ⟨w1.heap.size + 1 + 1, 0, none⟩)], .int .i64 (x.val : Int), .int .u32 (zs[x.val]?.getD 0),
      undef, undef, undef, undef, undef, undef, undef, undef, undef, undef, undef, undef, undef, undef, undef, undef, undef, undef, undef, undef, undef], defers := [] }) ?seq ?assign ?body ?done
  case start =>
    refine ⟨⟨Downto.nil, Nat.zero_le _⟩, ⟨⟨⟨⟨?_, j3⟩, j7⟩, ?_⟩, j9⟩, jB⟩
    · exact jq2
    · rw [List.length_nil, Nat.sub_zero, ← HN.out, List.drop_length]; exact j8
  case seq =>
    intro l J hJ hY W hJ0
    obtain ⟨g, hg⟩ : ∃ g, 0 < N → ad = some ⟨g, 0, none⟩ := by
      rcases ad with _ | ad
      · exact ⟨0, fun h => by have h2 := jq.nil_slice; rw [h2.2.1] at h; exact absurd h (Nat.lt_irrefl 0)⟩
      · obtain ⟨g, rfl, _⟩ := jq.some_slice
        exact ⟨g, fun _ => rfl⟩
    refine back_seen (n - 1) (w1.heap.size + 1 + 1) g N cp ad hg hNw zs HN.out _ (fun pre X h => ⟨h.2.1.2.cell, fun i hi => ?_⟩) l J hJ hY W hJ0
    have hq := h.2.1.1.1.1.1
    rw [hg (by omega)] at hq
    obtain ⟨g', e, _, _, _, hp⟩ := hq.some_slice
    cases e
    have hl := HN.out
    have hc := hp.cell i (by rw [shortM_length _ _ _ (by omega)]; omega)
    rw [shortM_low _ _ _ _ (by omega) (by omega)] at hc
    exact hc
  case assign =>
    intro l x X K hK
    simp only [limbAt]
    gi_wp2
    exact hK
  case body =>
    rintro l pre ⟨j, hj⟩ X ⟨hdn, ⟨⟨⟨⟨nq, b3⟩, b7⟩, b8⟩, b9⟩, hB⟩ ⟨_, hnx⟩
    simp only at hnx
    have hl := HN.out
    have ejp : N - pre.length = j + 1 := by omega
    have ejp2 : N - (pre ++ [(⟨j, hj⟩ : Fin N)]).length = j := by simp; omega
    rw [ejp] at nq b8
    rw [ejp2]
    have hdn' : Down N (pre ++ [(⟨j, hj⟩ : Fin N)]) := hdn.snoc ⟨j, hj⟩ hnx
    have HDN := Lib.hid hdn'
    clear hdn'
    obtain ⟨br0, br1⟩ := shortW_rest hd0 (zs.drop (j + 1))
    obtain ⟨bx0, bx1⟩ := wz.getD j
    obtain ⟨bq0, bq1⟩ := shortW_limb hd0 ⟨br0, br1⟩ ⟨bx0, bx1⟩
    have hstep := shortM_step d zs j (by omega)
    have hdrop := shortW_drop d zs j (by omega)
    obtain ⟨x, hx⟩ : ∃ x, zs.getD j 0 = x := ⟨_, rfl⟩
    obtain ⟨r, hr⟩ : ∃ r, (shortW d (zs.drop (j + 1))).2 = r := ⟨_, rfl⟩
    rw [hx] at bx0 bx1 bq0 bq1 hstep hdrop
    rw [hr] at br0 br1 b8 bq0 bq1 hstep hdrop
    have hx' : zs[j]?.getD 0 = x := hx
    simp only [hx']
    rw [hdrop]
    have hor : bits .or .u64 (r * 4294967296) x = r * 4294967296 + x := or_u64' ⟨br0, by omega⟩ ⟨bx0, bx1⟩
    obtain ⟨q, hq⟩ : ∃ q, (r * 4294967296 + x) / d = q := ⟨_, rfl⟩
    obtain ⟨m, hm⟩ : ∃ m, (r * 4294967296 + x) % d = m := ⟨_, rfl⟩
    rw [hq] at bq0 bq1 hstep
    have htd : Int.tdiv (r * 4294967296 + x) d = q := by rw [Int.tdiv_eq_ediv_of_nonneg (by omega), hq]
    have htm : Int.tmod (r * 4294967296 + x) d = m := by rw [Int.tmod_eq_emod_of_nonneg (by omega), hm]
    have hm0 : 0 ≤ m := by rw [← hm]; exact Int.emod_nonneg _ (by omega)
    have hm1 : m < d := by rw [← hm]; exact Int.emod_lt_of_pos _ hd0
    obtain ⟨g, rfl, hg, hp⟩ : ∃ g, ad = some ⟨g, 0, none⟩ ∧ w.heap.size + 1 ≤ g ∧ Part X g cp (shortM d zs (j + 1)) := by
      rcases ad with _ | ad
      · have h2 := nq.nil_slice; omega
      · obtain ⟨g, rfl, h1, _, _, h2⟩ := nq.some_slice
        exact ⟨g, rfl, h1, h2⟩
    have hgw := hglt g rfl
    have hle : cp ≤ maxLen := by obtain ⟨g', e, _, _, h, _⟩ := nq.some_slice; exact h
    have hlen : (shortM d zs (j + 1)).length = N := by rw [shortM_length _ _ _ (by omega), hl]
    have c8 := b8.cell
    have f8 := b8.frozen
    have c7 := b7.cell
    have c3 := b3.cell
    have hsX := hB.size
    have HST := Lib.hid hstep
    have HM := Lib.hid hm
    have hjN : (j : Int) < (N : Int) := by omega
    clear hstep hdrop hq hm hx hr hx' hl hlen nq
    gi_wp2_with fail
    have p8 : Boxed (X.setCell ⟨w1.heap.size + 1, 0, none⟩ (.int .u64 (r * 4294967296 + x))) (w1.heap.size + 1) 51 (.int .u64 (r * 4294967296 + x)) := b8.set _
    have p7 : Boxed (X.setCell ⟨w1.heap.size + 1, 0, none⟩ (.int .u64 (r * 4294967296 + x))) w1.heap.size 23 (.slice (some ⟨g, 0, none⟩) N cp) := Boxed.far b7 (by simp) _
    have p9 : Boxed (X.setCell ⟨w1.heap.size + 1, 0, none⟩ (.int .u64 (r * 4294967296 + x))) (w1.heap.size + 1 + 1) 23 (.slice (some ⟨g, 0, none⟩) N cp) := Boxed.far b9 (by simp) _
    have p3 : Boxed (X.setCell ⟨w1.heap.size + 1, 0, none⟩ (.int .u64 (r * 4294967296 + x))) w.heap.size 38 (.int .u32 d) := Boxed.far b3 (by simp; omega) _
    have pp := hp.far (p := ⟨w1.heap.size + 1, 0, none⟩) (by simp; omega) (.int .u64 (r * 4294967296 + x))
    have pB : Below w.heap.size w (X.setCell ⟨w1.heap.size + 1, 0, none⟩ (.int .u64 (r * 4294967296 + x))) := hB.setCell (p := ⟨w1.heap.size + 1, 0, none⟩) (by simp; omega) _
    have pK : KeepsOthers X (X.setCell ⟨w1.heap.size + 1, 0, none⟩ (.int .u64 (r * 4294967296 + x))) := KeepsOthers.setCell _ _ _
    clear b8 b7 b9 b3 hp hB c8 f8 c7 c3
    generalize (X.setCell ⟨w1.heap.size + 1, 0, none⟩ (.int .u64 (r * 4294967296 + x))) = Y at *
    have c8 := p8.cell
    have c7 := p7.cell
    have c3 := p3.cell
    have hwd : IntKind.u64.wrap d = d := wrap_u64 (by omega) (by omega)
    have hwq : IntKind.u64.wrap q = q := wrap_u64 (by omega) (by omega)
    have hwq2 : IntKind.u32.wrap q = q := by rw [wrap_u32]; exact Int.emod_eq_of_lt bq0 bq1
    have hdne : d ≠ 0 := by omega
    have cg := pp.cell j (by rw [shortM_length _ _ _ (by have := HN.out; omega)]; have := HN.out; omega)
    have fg := pp.free j
    refine region_round (fun X' => X'.cell? ⟨w1.heap.size, 0, none⟩ = some (.slice (some ⟨g, 0, none⟩) N cp) ∧ X'.cell? ⟨w1.heap.size + 1, 0, none⟩ = some (.int .u64 (r * 4294967296 + x)) ∧ X'.cell? ⟨w.heap.size, 0, none⟩ = some (.int .u32 d))
      (by kernel_rfl) (by kernel_rfl) (by rintro ⟨a', w', h⟩; exact absurd (show Exit.outgrown = Exit.normal from h.1) (by simp)) ⟨c7, c8, c3⟩ (fun hHeld => ?_)
    refine wpAnyH_take (i := 0) (v := ?va0) rfl (by kernel_rfl) (by kernel_rfl) (by kernel_rfl) (fun _ _ _ h => h) (Or.inl ⟨by rfl, ?ha0⟩) (by assumption) ?ra0
    case ha0 =>
      intro w hSw
      try dsimp only at hSw
      go_simp
      try with_reducible rfl
    try simp only [Act.put, List.setIfInBounds_toArray, List.set_cons_zero, List.set_cons_succ]
    refine wpAnyH_take (i := 1) (v := ?va1) rfl (by kernel_rfl) (by kernel_rfl) (by kernel_rfl) (fun _ _ _ h => h) (Or.inl ⟨by rfl, ?ha1⟩) (by assumption) ?ra1
    case ha1 =>
      intro w hSw
      try dsimp only at hSw
      go_simp
      try with_reducible rfl
    try simp only [Act.put, List.setIfInBounds_toArray, List.set_cons_zero, List.set_cons_succ]
    refine wpAnyH_take (i := 2) (v := ?va2) rfl (by kernel_rfl) (by kernel_rfl) (by kernel_rfl) (fun _ _ _ h => h) (Or.inl ⟨by rfl, ?ha2⟩) (by assumption) ?ra2
    case ha2 =>
      intro w hSw
      try dsimp only at hSw
      go_simp
      try with_reducible rfl
    try simp only [Act.put, List.setIfInBounds_toArray, List.set_cons_zero, List.set_cons_succ]
    refine wpAnyH_take (i := 3) (v := ?va3) rfl (by kernel_rfl) (by kernel_rfl) (by kernel_rfl) (fun _ _ _ h => h) (Or.inl ⟨by rfl, ?ha3⟩) (by assumption) ?ra3
    case ha3 =>
      intro w hSw
      try dsimp only at hSw
      go_simp
      try with_reducible rfl
    try simp only [Act.put, List.setIfInBounds_toArray, List.set_cons_zero, List.set_cons_succ]
    refine wpAnyH_take (i := 4) (v := ?va4) rfl (by kernel_rfl) (by kernel_rfl) (by kernel_rfl) (fun _ _ _ h => h) (Or.inl ⟨by rfl, ?ha4⟩) (by assumption) ?ra4
    case ha4 =>
      intro w hSw
      try dsimp only at hSw
      go_simp
      try with_reducible rfl
    try simp only [Act.put, List.setIfInBounds_toArray, List.set_cons_zero, List.set_cons_succ]
    refine wpAnyH_take (i := 5) (v := ?va5) rfl (by kernel_rfl) (by kernel_rfl) (by kernel_rfl) (fun _ _ _ h => h) (Or.inl ⟨by rfl, ?ha5⟩) (by assumption) ?ra5
    case ha5 =>
      intro w hSw
      try dsimp only at hSw
      go_simp
      try with_reducible rfl
    try simp only [Act.put, List.setIfInBounds_toArray, List.set_cons_zero, List.set_cons_succ]
    refine wpAnyH_take (i := 6) (v := ?va6) rfl (by kernel_rfl) (by kernel_rfl) (by kernel_rfl) (fun _ _ _ h => h) (Or.inl ⟨by rfl, ?ha6⟩) (by assumption) ?ra6
    case ha6 =>
      intro w hSw
      try dsimp only at hSw
      go_simp
      try with_reducible rfl
    try simp only [Act.put, List.setIfInBounds_toArray, List.set_cons_zero, List.set_cons_succ]
    refine wpAnyH_take (i := 7) (v := ?va7) rfl (by kernel_rfl) (by kernel_rfl) (by kernel_rfl) (fun _ _ _ h => h) (Or.inl ⟨by rfl, ?ha7⟩) (by assumption) ?ra7
    case ha7 =>
      intro w hSw
      try dsimp only at hSw
      go_simp
      try with_reducible rfl
    try simp only [Act.put, List.setIfInBounds_toArray, List.set_cons_zero, List.set_cons_succ]
    refine wpAnyH_ready (rs := [8]) (by kernel_rfl) (by simp) ?_
    refine AllReadyH.cons rfl (fun K hK => ?sb8) AllReadyH.nil
    go_simp
    refine hK.out _ _ ?kb8 (fun hHeld => ?mb8)
    case kb8 =>
      try dsimp only
      exact ⟨(World.cell?_setCell_far _ _ _ _ (by simp <;> omega)).trans hHeld.1, (World.cell?_setCell_far _ _ _ _ (by simp <;> omega)).trans hHeld.2.1, (World.cell?_setCell_far _ _ _ _ (by simp <;> omega)).trans hHeld.2.2⟩
    clear hK K
    try simp only [Act.put, List.setIfInBounds_toArray, List.set_cons_zero, List.set_cons_succ]
    refine wpAnyH_done (by kernel_rfl) ?_ _
    have hj' : (shortM d zs j).length = N := shortM_length _ _ _ (by have := HN.out; omega) |>.trans HN.out
    have hz1 : (shortM d zs (j + 1)).length = N := shortM_length _ _ _ (by have := HN.out; omega) |>.trans HN.out
    have t8 : Boxed (Y.setCell ⟨g, j, none⟩ (.int .u32 q)).drew (w1.heap.size + 1) 51 (.int .u64 (r * 4294967296 + x)) := Boxed.far p8 (by simp; omega) _
    have t7 : Boxed (Y.setCell ⟨g, j, none⟩ (.int .u32 q)).drew w1.heap.size 23 (.slice (some ⟨g, 0, none⟩) N cp) := Boxed.far p7 (by simp; omega) _
    have t9 : Boxed (Y.setCell ⟨g, j, none⟩ (.int .u32 q)).drew (w1.heap.size + 1 + 1) 23 (.slice (some ⟨g, 0, none⟩) N cp) := Boxed.far p9 (by simp; omega) _
    have t3 : Boxed (Y.setCell ⟨g, j, none⟩ (.int .u32 q)).drew w.heap.size 38 (.int .u32 d) := Boxed.far p3 (by simp; omega) _
    have tp : Part (Y.setCell ⟨g, j, none⟩ (.int .u32 q)).drew g cp (shortM d zs j) := by
      have h := pp.set j (by omega) q
      rw [HST.out] at h
      exact h
    have tB : Below w.heap.size w (Y.setCell ⟨g, j, none⟩ (.int .u32 q)).drew := (pB.setCell (p := ⟨g, j, none⟩) (by simp; omega) _).drew
    have tK : KeepsOthers X (Y.setCell ⟨g, j, none⟩ (.int .u32 q)).drew := (pK.trans (KeepsOthers.setCell _ _ _)).trans (KeepsOthers.drew _)
    clear hHeld p8 p7 p9 p3 pp pB pK c8 c7 c3 cg fg
    generalize (Y.setCell ⟨g, j, none⟩ (.int .u32 q)).drew = Z at *
    have d8 := t8.cell
    have f8 := t8.frozen
    have d3 := t3.cell
    gi_wp2_with fail
    refine ⟨(tK.trans (KeepsOthers.setCell _ _ _)).from _, HDN.out, ⟨⟨⟨⟨?_, Boxed.far t3 (by simp; omega) _⟩, Boxed.far t7 (by simp) _⟩, ?_⟩, Boxed.far t9 (by simp) _⟩, tB.setCell (p := ⟨w1.heap.size + 1, 0, none⟩) (by simp; omega) _⟩
    · have h := (tp.far (p := ⟨w1.heap.size + 1, 0, none⟩) (by simp; omega) (.int .u64 m)).num hg hle
      rw [hj'] at h
      exact h
    · rw [HM.out]
      exact t8.set _
  case done =>
    rintro D ys X hD hdn ⟨_, ⟨⟨⟨⟨nq, b3⟩, b7⟩, b8⟩, b9⟩, hB⟩ hK
    have hyl : ys.length = N := hdn.1
    rw [hyl, Nat.sub_self] at nq b8
    have e1 : shortM d zs 0 = (shortW d zs).1 := by simp [shortM]
    rw [e1] at nq
    rw [List.drop_zero] at b8
    have hsX := hB.size
    have hl := HN.out
    obtain ⟨br0, br1⟩ := shortW_rest hd0 zs
    have hv := val_shortW d zs
    obtain ⟨e2, e3⟩ := quo_eq (show 0 < d by omega) hv ⟨br0, br1⟩
    rw [HQE.out] at e2 e3
    have wq := shortW_wf hd0 wz
    obtain ⟨r, hr⟩ : ∃ r, (shortW d zs).2 = r := ⟨_, rfl⟩
    have hln : (shortW d zs).1.length = N := by rw [shortW_length, hl]
    rw [hr] at b8 br0 br1 e3
    have hwr : IntKind.u32.wrap r = r := by rw [wrap_u32]; exact Int.emod_eq_of_lt br0 (by omega)
    have c8 := b8.cell
    have c7 := b7.cell
    have E2 := Lib.hid e2
    have E3 := Lib.hid e3
    obtain ⟨qs, hqs⟩ : ∃ qs, (shortW d zs).1 = qs := ⟨_, rfl⟩
    rw [hqs] at nq wq hln
    have E4 := Lib.hid hqs
    obtain ⟨adq, capq, hq1, hq2, hq3, _, _⟩ := nq.read
    rw [hln] at hq1
    simp only [Value.slice.injEq, true_and] at hq1
    obtain ⟨rfl, rfl⟩ := hq1
    have Aq : Arg X.drew (.slice ad N cp) qs ad cp := ⟨by rw [hln], hq2.later ((Below.refl X.heap.size X).drew), hq3, wq⟩
    clear hv e1 e2 e3 hqs hr nq hq2 hq3 jq jq2 j3 j7 j8 j9
    gi_wp2_with fail
    refine wpIn_wide.2 ?_
    go_region_held3 (fun X' => X'.cell? ⟨w1.heap.size, 0, none⟩ = some (.slice ad N cp) ∧ X'.cell? ⟨w1.heap.size + 1, 0, none⟩ = some (.int .u64 r))
      (first | exact ⟨(hb2.cell (p := ⟨w1.heap.size, 0, none⟩) (World.block_lt_of_cell? X _ c7)).trans c7, (hb2.cell (p := ⟨w1.heap.size + 1, 0, none⟩) (World.block_lt_of_cell? X _ c8)).trans c8⟩ | go_keep)
      (first | (go_at_call 32; refine (trim_res Aq (by omega)).mono ?_; rintro e w2 ⟨r2, z2, rfl, q2, n2, hb2⟩))
    gi_wp2_with fail
    have hDX : D < X.heap.size := (Array.getElem?_eq_some_iff.1 hK).1
    have hK2 : w2.heap[D]? = some (.deferred (some [])) := (hb2.block D hDX).trans hK
    refine ⟨by simp, .inl ⟨_, _, rfl, run_takeDeferred hK2, ?_⟩⟩
    have hs2 : X.heap.size ≤ w2.heap.size := hb2.size
    have ev : val qs = val xs / d := by rw [← E4.out, E2.out]
    refine ⟨.tuple #[r2, .int .u32 r, .int .i64 0], by simp [results, Try.f22, go_sem], r2, by rw [← E3.out], z2, ⟨ownsRow_putObj (q2.num.mono (show w.heap.size ≤ X.drew.heap.size from hsX)) (.deferred none) hK2 rfl, q2.wf, q2.full, q2.eq.trans ev⟩, by omega, ?_⟩
    have hb2' : Below w.heap.size X w2 := Below.mono (show Below X.heap.size X w2 from ⟨hb2.os, hb2.tape, hb2.output, hb2.size, hb2.block⟩) hsX
    exact (hB.trans hb2').trans (belowK_b (w := w) (Nat.le_refl _) w2 D _ _ (by omega) hK2 rfl rfl)
end Go.Proofs.Ytdcdaielfkikhaa
