/-
  Package shape as it landed: Strides.
-/
import Derived.Test.YthlohkehacnolaaSIter
import Derived.Laws.EntriesVeiled
namespace Go.Proofs.Ythlohkehacnolaa
open Go.RowKit Go.Shelf
attribute [local go_sem] Oper.semAt_some
set_option linter.unusedVariables false
set_option linter.unusedSimpArgs false

/-- one round of Strides: the row, the stride -/
def strStep (s : List Int) (t : List Int × Int) (i : Nat) : List Int × Int := (t.1.set i t.2, wrap64 (t.2 * s.getD i 0))
def strOf (s : List Int) (ks : List Nat) : List Int × Int := ks.foldl (strStep s) (List.replicate s.length 0, 1)
theorem strOf_snoc (s : List Int) (ks : List Nat) (k : Nat) : strOf s (ks ++ [k]) = strStep s (strOf s ks) k := by simp [strOf]
theorem strOf_len (s : List Int) (ks : List Nat) : (strOf s ks).1.length = s.length := by
  suffices h : ∀ t : List Int × Int, t.1.length = s.length → (ks.foldl (strStep s) t).1.length = s.length from h _ (by simp)
  induction ks with
  | nil => exact fun t h => h
  | cons k ks ih => exact fun t h => ih _ (by simp only [strStep, List.length_set]; exact h)
theorem strOf_downs {s : List Int} (ok : OkS s) {k : Nat} (hk : k ≤ s.length) : strOf s (downs s.length k) = (List.replicate (s.length - k) 0 ++ (strideL s).drop (s.length - k), prodS (s.drop (s.length - k))) := by
  induction k with
  | zero => simp [strOf, downs, strideL_length, prodS]
  | succ k ih =>
    rw [downs_next, strOf_snoc, ih (by omega)]
    obtain ⟨j, hj⟩ : ∃ j, s.length - (k + 1) = j := ⟨_, rfl⟩
    have hjl : j < s.length := by omega
    rw [show s.length - k = j + 1 by omega, show s.length - 1 - k = j by omega, hj]
    unfold strStep
    have e1 : prodS (s.drop (j + 1)) * s.getD j 0 = prodS (s.drop j) := by rw [prodS_drop hjl, Int.mul_comm]
    have e2 := prodS_drop_le ok.pos j
    have e3 := prodS_pos (ok.pos.drop j)
    have e4 := ok.few
    have e5 : wrap64 (prodS (s.drop j)) = prodS (s.drop j) := by unfold wrap64; omega
    have hl : j < (strideL s).length := by rw [strideL_length]; exact hjl
    refine Prod.ext ?_ (by show wrap64 _ = _; rw [e1, e5])
    show (List.replicate (j + 1) 0 ++ (strideL s).drop (j + 1)).set j (prodS (s.drop (j + 1))) = List.replicate j 0 ++ (strideL s).drop j
    rw [List.drop_eq_getElem_cons hl, ← getD_elem hl, strideL_at s hjl, List.replicate_succ', List.append_assoc, List.set_append_right _ _ (by simp), List.length_replicate, Nat.sub_self]
    rfl
theorem strOf_all {s : List Int} (ok : OkS s) : strOf s (downs s.length s.length) = (strideL s, prodS s) := by
  rw [strOf_downs ok (Nat.le_refl _), Nat.sub_self]
  simp
theorem strideL_wid {s : List Int} (ok : OkS s) : Wid (strideL s) := by
  intro x hx
  unfold strideL at hx
  rw [List.mem_map] at hx
  obtain ⟨i, _, rfl⟩ := hx
  have e2 := prodS_drop_le ok.pos (i + 1)
  have e3 := prodS_pos (ok.pos.drop (i + 1))
  have e4 := ok.few
  omega

set_option maxRecDepth 100000 in
set_option maxHeartbeats 4000000 in
theorem stridesS_any {u : Value} {xs : List Int} {a : Option Addr} {ca : Nat} {w : World} (A : ArgS w u xs a ca) (ha : a = none → ca = 0) (hx : xs.length ≤ 17592186044416) :
    Calls Try.prog 19 #[u] w fun e w' => ∃ r, e = .returned r ∧ ResS w.heap.size w' r (strideS xs) ∧ Below w.heap.size w w' := by
  have hm := mayS_eq A
  have HA := Lib.hid A
  have hAl := A.lim
  have hle := A.le
  obtain rfl := A.is
  by_cases h0 : mayC xs = 0
  · have ok := mayC_zero.1 h0
    have HO := Lib.hid ok
    have h4 := ok.rank
    rw [h0] at hm
    have hr : strideS xs = strideL xs := strideS_ok h0
    rw [hr]
    have hmk := make_runS xs.length (by omega)
    clear A ha hr h0 ok
    obtain ⟨n, hn⟩ : ∃ n : Nat, Hid (3 ≤ n) := ⟨3, Nat.le_refl 3⟩
    refine (callsIn_wide (n := n)).1 ?_
    refine callsIn_of_wp_marks Try.func19 rfl trivial ?_ rfl
    simp only [Try.ntmps19, List.size_toArray, List.length_cons, List.length_nil, Nat.reduceAdd, Nat.reduceSub, Array.replicate_succ, Array.replicate_zero, List.push_toArray, List.append_toArray, List.nil_append, List.cons_append]
    gi_wp2_with fail
    refine wideCallS (hm.mono ?_)
    rintro e w' ⟨rfl, rfl⟩
    gi_wp2_with fail
    have k1 := (((BlkS.made w xs.length).alloc (.cells #[.slice (some ⟨w.heap.size, 0, none⟩) xs.length xs.length] 22)).alloc (.cells #[.int .i64 1] 3))
    have k2 := (Boxed.new (w.alloc (.cells (madeCells #[.int .i64 0] xs.length) 3)) 22 (.slice (some ⟨w.heap.size, 0, none⟩) xs.length xs.length)).alloc (.cells #[.int .i64 1] 3)
    have k3 := Boxed.new ((w.alloc (.cells (madeCells #[.int .i64 0] xs.length) 3)).alloc (.cells #[.slice (some ⟨w.heap.size, 0, none⟩) xs.length xs.length] 22)) 3 (.int .i64 1)
    have k4 : Below w.heap.size w (((w.alloc (.cells (madeCells #[.int .i64 0] xs.length) 3)).alloc (.cells #[.slice (some ⟨w.heap.size, 0, none⟩) xs.length xs.length] 22)).alloc (.cells #[.int .i64 1] 3)) :=
      (((Below.refl _ w).alloc (Nat.le_refl _) _).alloc (by simp) _).alloc (by simp; omega) _
    have k5 : (((w.alloc (.cells (madeCells #[.int .i64 0] xs.length) 3)).alloc (.cells #[.slice (some ⟨w.heap.size, 0, none⟩) xs.length xs.length] 22)).alloc (.cells #[.int .i64 1] 3)).heap.size = w.heap.size + 1 + 1 + 1 := by simp
    simp only [World.size_alloc] at k2 k3
    generalize (((w.alloc (.cells (madeCells #[.int .i64 0] xs.length) 3)).alloc (.cells #[.slice (some ⟨w.heap.size, 0, none⟩) xs.length xs.length] 22)).alloc (.cells #[.int .i64 1] 3)) = V at *
    refine wideCallS ((backI_any _ _ _ _).mono ?_)
    rintro e w' ⟨rfl, rfl⟩
    gi_wp2_with fail
    have bN := Boxed.new V 23 (.slice a xs.length ca)
    have j1 := k1.alloc (.cells #[.slice a xs.length ca] 23)
    have j2 := k2.alloc (.cells #[.slice a xs.length ca] 23)
    have j3 := k3.alloc (.cells #[.slice a xs.length ca] 23)
    have j4 := k4.alloc (by omega) (.cells #[.slice a xs.length ca] 23)
    have j5 : (V.alloc (.cells #[.slice a xs.length ca] 23)).heap.size = w.heap.size + 1 + 1 + 1 + 1 := by simp; omega
    rw [k5] at bN
    (try rw [k5])
    generalize (V.alloc (.cells #[.slice a xs.length ca] 23)) = W5 at *
    clear k1 k2 k3 k4 k5 hmk
    have h3 : 3 ≤ n := hn
    have hlt0 : ∀ x, xs ≠ [] → a = some x → x.block < w.heap.size := fun x h1 h2 => hAl.lt h1 x h2
    refine wpIn_rangeFunc_ownF rfl (by omega) (gf := 49) (lb := #[.pointer (some ⟨w.heap.size + 1 + 1 + 1, 0, none⟩)]) rfl trivial (enters_of Try.func49 (by kernel_rfl) rfl)
      (backI_stops (n - 1) (w.heap.size + 1 + 1 + 1) w.heap.size a xs ca (by omega) (fun h x hx => hlt0 x h hx) _ (by omega) bN.cell (hAl.later j4)) KpS.trans (KpS.b (by omega) (by omega)) (Below.refl _ _) (fun _ => rfl)
      (fun (pre : List (Fin xs.length)) X => ((BlkS X w.heap.size (strOf xs (pre.map Fin.val)).1 ∧ Boxed X (w.heap.size + 1) 22 (.slice (some ⟨w.heap.size, 0, none⟩) xs.length xs.length)) ∧ Boxed X (w.heap.size + 1 + 1) 3 (.int .i64 (strOf xs (pre.map Fin.val)).2)) ∧ Below w.heap.size w X)
      (fun _ _ _ => False)
      (OwnFrom.and (Own.from (ownS_and2 (ownS_and2 (blkS_own _ _) (boxed_own _ _ _)) (boxed_own _ _ _)) _) (ownFrom_below (Nat.le_refl _) (by omega)))
      (fun _ _ _ _ _ hs _ _ => hs)
      ⟨⟨⟨j1, j2⟩, j3⟩, j4⟩
      (fun (x : Fin xs.length) => { tmps := #[.slice a xs.length ca, undef, .slice none 0 0, .pointer (some ⟨w.heap.size + 1, 0, none⟩), .pointer (some ⟨w.heap.size + 1 + 1, 0, none⟩), .int .i64 (x.val : Int), .int .i64 (xs[x.val]?.getD 0),
        .slice a xs.length ca, .int .i64 0, .bool false, .slice a xs.length ca, .int .i64 xs.length, .slice (some ⟨w.heap.size, 0, none⟩) xs.length xs.length, .slice a xs.length ca,
        .func (.func 49) #[] #[.pointer (some ⟨w.heap.size + 1 + 1 + 1, 0, none⟩)], .int .i64 (x.val : Int), .int .i64 (xs[x.val]?.getD 0), undef, undef, undef, undef, undef, undef, undef, undef], defers := [] }) ?assign ?body ?done ?stop
    case assign =>
      intro l x X K hK
      simp only [numAt]
      rw [show xs[x.val]?.getD 0 = xs[x.val] by simp] at hK
      gi_wp2
      exact hK
    case body =>
      rintro l pre ⟨k, hk⟩ X ⟨⟨⟨hblk, q1⟩, q2⟩, hB⟩ hlt
      have hl := strOf_len xs (pre.map Fin.val)
      obtain ⟨st, hst⟩ : ∃ st, strOf xs (pre.map Fin.val) = st := ⟨_, rfl⟩
      rw [hst] at hblk q2 hl
      have HS := Lib.hid hst
      obtain ⟨zs, c⟩ := st
      simp only at hblk q2 hl
      have c1 := q1.cell
      have c2 := q2.cell
      have hck := hblk.cell k (by omega)
      have hfk := hblk.free k
      obtain ⟨x, hxk⟩ : ∃ x, xs.getD k 0 = x := ⟨_, rfl⟩
      have hxk2 : xs[k]?.getD 0 = x := hxk
      simp only [hxk2]
      have HX := Lib.hid hxk
      have r2 := boxS_far q2 (p := ⟨w.heap.size, k, none⟩) (by show w.heap.size + 1 + 1 ≠ w.heap.size; omega) (.int .i64 c)
      have r1 := boxS_far q1 (p := ⟨w.heap.size, k, none⟩) (by show w.heap.size + 1 ≠ w.heap.size; omega) (.int .i64 c)
      have d2 := r2.cell
      have f2 := r2.frozen
      have HBK := Lib.hid hblk
      have HL := Lib.hid hl
      clear hst hxk hxk2 hblk hl
      gi_wp2_with fail
      refine ⟨(KeepsOthers.setCell _ _ _).trans (KeepsOthers.setCell _ _ _), ⟨((Below.refl _ X).setCell (p := ⟨w.heap.size, k, none⟩) (Nat.le_refl _) _).setCell (p := ⟨w.heap.size + 1 + 1, 0, none⟩) (by show w.heap.size ≤ w.heap.size + 1 + 1; omega) _, ?_⟩, ?_, (hB.setCell (p := ⟨w.heap.size, k, none⟩) (Nat.le_refl _) _).setCell (p := ⟨w.heap.size + 1 + 1, 0, none⟩) (by show w.heap.size ≤ w.heap.size + 1 + 1; omega) _⟩
      · rw [Below.heap_setCell _ _ _ _ (by show w.heap.size + 1 + 1 + 1 ≠ w.heap.size + 1 + 1; omega), Below.heap_setCell _ _ _ _ (by show w.heap.size + 1 + 1 + 1 ≠ w.heap.size; omega)]
      · rw [List.map_append, List.map_cons, List.map_nil, strOf_snoc, HS.out]
        simp only [strStep, HX.out]
        exact ⟨⟨(HBK.out.set k c).far (by show w.heap.size ≠ w.heap.size + 1 + 1; omega) _, boxS_far r1 (by show w.heap.size + 1 ≠ w.heap.size + 1 + 1; omega) _⟩, r2.set _⟩
    case done =>
      rintro D ks X hD hdn ⟨⟨⟨hblk, q1⟩, q2⟩, hB⟩ hK
      have hl := strOf_len xs (ks.map Fin.val)
      rw [hdn.downs, strOf_all HO.out] at hblk q2 hl
      have c1 := q1.cell
      gi_wp2_with fail
      refine ⟨by simp, .inl ⟨_, _, rfl, run_takeDeferred hK, ?_⟩⟩
      have hn := NumS.ofBlk hblk (Nat.le_refl w.heap.size) xs.length (by rw [strideL_length]; exact Nat.le_refl _) (by rw [strideL_length]; unfold maxLen; omega)
      rw [strideL_length, take_all (strideL_length xs)] at hn
      refine ⟨_, results_tmp rfl _ _ _, _, rfl, ⟨?_, ?_⟩, hB.trans (belowK_b (w := w) (Nat.le_refl _) X D _ _ (by omega) hK rfl rfl)⟩
      · exact ownsRow_putObj hn (.deferred none) hK rfl
      · exact strideL_wid HO.out
    case stop =>
      rintro D c pre X _ _ h _
      exact h.elim
  · obtain ⟨m, hmm⟩ : ∃ m, mayC xs = m := ⟨_, rfl⟩
    have hr : strideS xs = [] := strideS_bad h0
    rw [hmm] at hm h0
    rw [hr]
    have hne : (m != 0) = true := by simpa using h0
    obtain ⟨n, hn⟩ : ∃ n : Nat, Hid (3 ≤ n) := ⟨3, Nat.le_refl 3⟩
    refine (callsIn_wide (n := n)).1 ?_
    refine callsIn_of_wp_marks Try.func19 rfl trivial ?_ rfl
    simp only [Try.ntmps19, List.size_toArray, List.length_cons, List.length_nil, Nat.reduceAdd, Nat.reduceSub, Array.replicate_succ, Array.replicate_zero, List.push_toArray, List.append_toArray, List.nil_append, List.cons_append]
    clear A ha hr h0 hmm
    gi_wp2_with fail
    refine wideCallS (hm.mono ?_)
    rintro e w' ⟨rfl, rfl⟩
    gi_wp2_with fail
    exact ⟨_, results_tmp rfl _ _ _, _, rfl, ResS.nil _ _, Below.refl _ _⟩
end Go.Proofs.Ythlohkehacnolaa
