/-
  Blocks of digits. (Made out of the texts for limbs by wip/gen/gen_digb.py.)
-/
import Derived.Test.YtooglnhlhgmhdaaGreatZ1
import Derived.Test.YtooglnhlhgmhdaaGreatZ2
import Derived.WalkKit
import Derived.Test.YtooglnhlhgmhdaaGreatRows
import Derived.BigQuiet
import Derived.Deep.QuietTactic
import Derived.Lib.Hide
import Derived.Lib.Small
import Derived.Lib.Walk
import Derived.Lib.BitFns
import Derived.Maps.AppendAt
import Derived.RangeFuncNested
import Derived.RangeFuncBound
import Derived.RangeFuncCalls
import Derived.RangeFuncLeaves
import Derived.Shelf.Abstract
import Derived.OwnWalkIn
import Derived.TacticsInMore
import Derived.LoopNIn
import Derived.LoopIn
import Derived.RangeFuncBox
import Derived.Deep.RegionHeld3
import Derived.OrdersIn
import Derived.StillTailTactics
import Derived.RangeFuncFrom
import Derived.Laws.EntriesVeiled
import Derived.ProofKit
import Derived.OpenShut
import Derived.JoinedCond
import Derived.Carry
import Derived.Laws.AppendOwnNone
namespace Go.Proofs.YtooglnhlhgmhdaaGreat
set_option maxRecDepth 100000
section
open Go.RowKit
theorem infoLimb : (Tryz.prog.info? 63).map (fun i => (i.zero, i.size, i.bytes)) = some (some (.int .u32 0), 1, 4) := by kernel_rfl
/-- make([]limb, n, c) -/
theorem make_run (n c : Int) (h0 : 0 ≤ n) (hnc : n ≤ c) (hc : c ≤ 70368744177664) (w : World) :
    (Instr.makeSlice 56 (.int .i64 n) (.int .i64 c)).run Tryz.prog w = .ok (.slice (some ⟨w.heap.size, 0, none⟩) n.toNat c.toNat) (w.alloc (.cells (madeCells #[.int .u32 0] c.toNat) 63)) := by
  obtain ⟨i0, hi, hz0, hz1, hz2⟩ := info_parts infoLimb
  have h := run_make (P := Tryz.prog) w 56 63 i0 (.int .u32 0) Tryz.underlying56 hi hz0 .i64 .i64 n c h0 hnc (by rw [hz2]; omega) (by omega)
  simpa [hz1, Value.cells] using h
theorem make_runN (n c : Nat) (hnc : n ≤ c) (hc : c ≤ 70368744177664) (w : World) :
    (Instr.makeSlice 56 (.int .i64 n) (.int .i64 c)).run Tryz.prog w = .ok (.slice (some ⟨w.heap.size, 0, none⟩) n c) (w.alloc (.cells (madeCells #[.int .u32 0] c) 63)) := by
  simpa using make_run n c (by omega) (by omega) (by omega) w
theorem make_run0 (c : Nat) (hc : c ≤ 70368744177664) (w : World) :
    (Instr.makeSlice 56 (.int .i64 0) (.int .i64 c)).run Tryz.prog w = .ok (.slice (some ⟨w.heap.size, 0, none⟩) 0 c) (w.alloc (.cells (madeCells #[.int .u32 0] c) 63)) := by
  simpa using make_run 0 c (by omega) (by omega) (by omega) w
/-- the state behind k limbs of a sum: the limbs, the carry -/
def addTo (xs ys : List Int) : Nat → List Int × Int
  | 0 => ([], 0)
  | k + 1 => ((addTo xs ys k).1 ++ [((addTo xs ys k).2 + xs.getD k 0 + ys.getD k 0) % 4294967296], ((addTo xs ys k).2 + xs.getD k 0 + ys.getD k 0) / 4294967296)
theorem addTo_length (xs ys : List Int) (k : Nat) : (addTo xs ys k).1.length = k := by
  induction k with
  | zero => rfl
  | succ k ih => simp [addTo, ih]
theorem addTo_carry (xs ys : List Int) (hx : Wf xs) (hy : Wf ys) (k : Nat) : 0 ≤ (addTo xs ys k).2 ∧ (addTo xs ys k).2 ≤ 1 := by
  induction k with
  | zero => simp [addTo]
  | succ k ih => have h1 := hx.getD k; have h2 := hy.getD k; simp only [addTo]; omega
theorem addTo_wf (xs ys : List Int) (k : Nat) : Wf (addTo xs ys k).1 := by
  induction k with
  | zero => exact Wf.nil
  | succ k ih => exact ih.append (Wf.cons (by omega) Wf.nil)
end
section
open Go.RowKit Go.Shelf
attribute [local go_sem] Oper.semAt_some
set_option maxRecDepth 100000 in
set_option maxHeartbeats 2000000 in
theorem trim_any (ad : Option Addr) (xs : List Int) (cap : Nat) (w : World) (hl : Lim w ad xs) (hm : xs.length ≤ 35184372088832) (hcap : xs.length ≤ cap) :
    Calls Tryz.prog 138 #[.slice ad xs.length cap] w fun e w' => ∃ v, e = .returned v ∧ Num w.heap.size w' v (trim xs) ∧ Below w.heap.size w w' := by
  have hle := trim_le xs
  obtain ⟨i0, hi, hz0, hz1, hz2⟩ := info_parts infoLimb
  obtain ⟨n, hn⟩ : ∃ n : Nat, Hid (3 ≤ n) := ⟨3, Nat.le_refl 3⟩
  refine (callsIn_wide (n := n)).1 ?_
  refine callsIn_of_wp_marks Tryz.func138 rfl trivial ?_ rfl
  simp only [Tryz.ntmps138, List.size_toArray, List.length_cons, List.length_nil, Nat.reduceAdd, Nat.reduceSub, Array.replicate_succ, Array.replicate_zero, List.push_toArray, List.append_toArray, List.nil_append, List.cons_append]
  gi_wp2_with fail
  refine wideCall ((cut_any ad xs cap _ hl (by unfold maxLen; omega) hcap).mono ?_)
  rintro e w' ⟨rfl, rfl⟩
  obtain ⟨m, hmm⟩ : ∃ m, trimN xs xs.length = m := ⟨_, rfl⟩
  have hmk := make_run0 m (by omega)
  rw [hmm]
  rw [hmm] at hle
  have HM := Lib.hid hmm
  clear hmm
  gi_wp2_with fail
  refine wideCall ((limbs_any ad xs.length cap _).mono ?_)
  rintro e w' ⟨rfl, rfl⟩
  gi_wp2_with fail
  have h3 : 3 ≤ n := hn
  have bO := Boxed.new (w.alloc (Obj.cells (madeCells #[Value.int IntKind.u32 0] m) 63)) 56 (Value.slice (some ⟨w.heap.size, 0, none⟩) 0 m)
  have bN := Boxed.new ((w.alloc (Obj.cells (madeCells #[Value.int IntKind.u32 0] m) 63)).alloc (Obj.cells #[Value.slice (some ⟨w.heap.size, 0, none⟩) 0 m] 56)) 56 (Value.slice ad xs.length cap)
  have hown : ((w.alloc (Obj.cells (madeCells #[Value.int IntKind.u32 0] m) 63))).ownsRow w.heap.size 63 1 (Value.slice (some ⟨w.heap.size, 0, none⟩) 0 m) 0 [] :=
    ⟨rfl, .inr ⟨w.heap.size, m, _, rfl, Nat.le_refl _, heap_alloc_new w _, Nat.zero_le _, by unfold maxLen; omega, by simp [madeCells], by simp⟩⟩
  simp only [World.size_alloc] at bO bN
  have hB0 : Below w.heap.size w (((w.alloc (Obj.cells (madeCells #[Value.int IntKind.u32 0] m) 63)).alloc (Obj.cells #[Value.slice (some ⟨w.heap.size, 0, none⟩) 0 m] 56)).alloc (Obj.cells #[Value.slice ad xs.length cap] 56)) :=
    (((Below.refl _ w).alloc (Nat.le_refl _) _).alloc (by simp) _).alloc (by simp; omega) _
  refine wpIn_rangeFunc_ownG rfl (by omega) (gf := 160) (lb := #[.pointer (some ⟨w.heap.size + 1 + 1, 0, none⟩)]) rfl trivial (enters_of Tryz.func160 (by kernel_rfl) rfl)
    (limbs_stops (n - 1) (w.heap.size + 1 + 1) w.heap.size ad xs cap hm hcap hl.lt _ (by simp) bN.cell (hl.later hB0)) belowK_t (belowK_b (by simp; omega)) (Below.refl _ _) (fun _ => rfl)
    (fun (pre : List (Fin (trimN xs xs.length))) W => (∃ v, Boxed W (w.heap.size + 1) 56 v ∧ W.ownsRow w.heap.size 63 1 v pre.length (pre.map fun x => Value.int .u32 (xs[x.val]?.getD 0)) ∧ True) ∧ Below w.heap.size w W)
    (fun _ _ _ => False)
    (OwnFrom.and (Own.from (holdsRow_own w.heap.size (w.heap.size + 1) 56 63 1 (fun pre : List (Fin (trimN xs xs.length)) => pre.length) (fun pre => pre.map fun x => Value.int .u32 (xs[x.val]?.getD 0)) (fun _ _ => True)) _) (ownFrom_below (Nat.le_refl _) (by simp; omega)))
    (fun _ _ _ _ _ hs _ _ => hs)
    ⟨⟨_, bO.alloc _, (hown.alloc _).alloc _, trivial⟩, hB0⟩
    (fun (x : Fin (trimN xs xs.length)) => { tmps := #[.slice ad xs.length cap, undef, .slice none 0 0, .pointer (some ⟨w.heap.size + 1, 0, none⟩), undef, .int .u32 (xs[x.val]?.getD 0), .slice ad xs.length cap, .slice ad m cap, .int .i64 m, .slice (some ⟨w.heap.size, 0, none⟩) 0 m, .slice ad xs.length cap,
      .func (.func 160) #[] #[.pointer (some ⟨w.heap.size + 1 + 1, 0, none⟩)], .int .i64 (x.val : Int), .int .u32 (xs[x.val]?.getD 0), undef, undef, undef, undef, undef], defers := [] }) ?assign ?body ?done ?stop
  case assign =>
    intro l x W K hK
    simp only [limbAt]
    gi_wp2
    exact hK
  case body =>
    rintro l pre x W ⟨⟨v, hv, hrow, _⟩, hB⟩ hlt
    have hc := hv.cell
    have hpl : pre.length + 1 ≤ 35184372088832 := by have := HM.out; omega
    have hbs := hB.size
    gi_wp2_with (gi_at_builtin; refine wpListIn_append_own _ rfl _ _ 56 rfl w.heap.size 63 i0 (.int .u32 0) 1 4 Tryz.underlying56 hi hz0 hz1 hz2 rfl (by decide) _ _ _ rfl (hrow.alloc _) ⟨W.heap.size, 0, none⟩ 1 1 [.int .u32 (xs[x.val]?.getD 0)] rfl rfl (cell_one_new _ _ _) (by simp [Value.oneCell']) (by unfold maxLen; omega) (by omega) (by simp; omega) ?_; intro v' w1 hown' hgrow _; obtain ⟨g', cap', rfl⟩ := ownsRow_succ hown'; obtain ⟨hv1, hv2, hr2, hk2, hb2⟩ := hv.appended (by decide) hrow hB.size (Nat.le_succ _) hown' hgrow; have hc1 := hv1.cell; have hf1 := hv1.frozen)
    exact ⟨hk2.from _, hb2, ⟨_, hv2, by simpa using hr2, trivial⟩, hB.trans hb2⟩
  case done =>
    rintro D ys W hD hup ⟨⟨v, hv, hrow, _⟩, hB⟩ hK
    have hc := hv.cell
    gi_wp2
    refine ⟨by simp, .inl ⟨_, _, rfl, run_takeDeferred hK, ?_⟩⟩
    refine ⟨_, results_tmp rfl _ _ _, v, rfl, ?_, hB.trans (belowK_b (w := w) (Nat.le_refl _) W D _ _ (by simp at hD; omega) hK rfl rfl)⟩
    have h2 := ownsRow_putObj hrow (.deferred none) hK rfl
    have e : trim xs = ys.map (fun x => xs[x.val]?.getD 0) := (hup.limbs (trim_le xs)).symm
    unfold Num
    rw [e, List.length_map, List.map_map]
    exact h2
  case stop =>
    rintro D c pre W _ _ h _
    exact h.elim
end
section
open Go.RowKit Go.Shelf
attribute [local go_sem] Oper.semAt_some
theorem blk_own {β : Type} (g : Nat) (f : β → List Int) : Own (fun s W => Blk W g (f s)) := fun s X Y row hs hg hrow =>
  hs.grown hg (fun e' => by obtain ⟨o, ho, hc⟩ := hrow g e'.symm; rw [show X.heap[g]? = _ from hs] at ho; cases ho; cases hc)
theorem Boxed.far {W : World} {B : Nat} {t : TypeId} {v : Value} (h : Boxed W B t v) {p : Addr} (hne : B ≠ p.block) (u : Value) : Boxed (W.setCell p u) B t v := (Below.heap_setCell _ _ _ _ hne).trans h
theorem Own.and2 {β : Type} {I J : β → World → Prop} (h : Own I) (k : Own J) : Own (fun s W => I s W ∧ J s W) := fun s X Y row hs hg hr => ⟨h s X Y row hs.1 hg hr, k s X Y row hs.2 hg hr⟩
end
section
open Go.RowKit Go.Shelf
attribute [local go_sem] Oper.semAt_some
theorem Wf.set {xs : List Int} (h : Wf xs) (k : Nat) {x : Int} (hx : 0 ≤ x ∧ x < 4294967296) : Wf (xs.set k x) := by
  intro y hy
  rcases List.mem_or_eq_of_mem_set hy with hy | rfl
  · exact h y hy
  · exact hx
theorem Below.grownBy {B : Nat} {a b : World} (h : Below B a b) (hB : a.heap.size ≤ B) (row : Option Nat) : a.grownBy b row := ⟨h.os, h.tape, h.output, h.size, fun k hk _ => h.block k (by omega)⟩
end
section
open Go.RowKit Go.Shelf
attribute [local go_sem] Oper.semAt_some
theorem trimN_last (xs : List Int) (n : Nat) (h : 0 < trimN xs n) : xs.getD (trimN xs n - 1) 0 ≠ 0 := by
  induction n with
  | zero => simp [trimN] at h
  | succ n ih =>
    unfold trimN at h ⊢
    split
    · rename_i hz; rw [if_pos hz] at h; exact ih h
    · rename_i hz; simpa using hz
theorem trim_full (xs : List Int) : trimN (trim xs) (trim xs).length = (trim xs).length := by
  rw [trim_length]
  have hl := trimN_last xs xs.length
  have hle := trim_le xs
  unfold trim
  generalize trimN xs xs.length = m at *
  cases m with
  | zero => rfl
  | succ j =>
    have h := hl (by omega)
    simp only [Nat.add_sub_cancel] at h
    unfold trimN
    rw [if_neg]
    simpa [List.getD, List.getElem?_take] using h
theorem Wf.zeros (n : Nat) : Wf (List.replicate n 0) := fun x hx => by rw [List.eq_of_mem_replicate hx]; omega
end
section
open Go.RowKit
theorem pow_pos' (k : Nat) : (0 : Int) < 4294967296 ^ k := Int.pow_pos (by omega)
theorem val_take_succ (xs : List Int) (k : Nat) : val (xs.take (k + 1)) = val (xs.take k) + 4294967296 ^ k * xs.getD k 0 := by
  by_cases h : k < xs.length
  · rw [List.take_succ_eq_append_getElem h, val_append, List.length_take, Nat.min_eq_left (by omega)]
    simp [val, h]
  · rw [List.take_of_length_le (by omega), List.take_of_length_le (by omega)]
    simp [List.getElem?_eq_none (Nat.le_of_not_lt h)]
theorem val_lt {xs : List Int} (h : Wf xs) : val xs < 4294967296 ^ xs.length := by
  induction xs with
  | nil => simp [val]
  | cons x xs ih =>
    have h1 := ih h.tail
    have h2 := h.head
    simp only [val, List.length_cons, Int.pow_succ]
    omega
theorem val_trimN (xs : List Int) (n : Nat) : val (xs.take (trimN xs n)) = val (xs.take n) := by
  induction n with
  | zero => rfl
  | succ n ih =>
    unfold trimN
    split
    · rename_i hz
      rw [val_take_succ, hz, ih]
      simp
    · rfl
theorem val_trim (xs : List Int) : val (trim xs) = val xs := by
  unfold trim
  rw [val_trimN, List.take_length]
theorem getD_ge_trimN (xs : List Int) (n k : Nat) (h1 : trimN xs n ≤ k) (h2 : k < n) : xs.getD k 0 = 0 := by
  induction n with
  | zero => omega
  | succ n ih =>
    unfold trimN at h1
    split at h1
    · rename_i hz
      by_cases e : k = n
      · rw [e]; exact hz
      · exact ih h1 (by omega)
    · omega
theorem val_take_ge (xs : List Int) (k : Nat) (h : trimN xs xs.length ≤ k) : val (xs.take k) = val xs := by
  induction k with
  | zero =>
    have h0 : trimN xs xs.length = 0 := by omega
    rw [← val_trim xs]
    unfold trim
    rw [h0]
  | succ k ih =>
    by_cases hk : trimN xs xs.length ≤ k
    · rw [val_take_succ, ih hk]
      by_cases hl : k < xs.length
      · rw [getD_ge_trimN xs xs.length k hk hl]; simp
      · simp [List.getElem?_eq_none (Nat.le_of_not_lt hl)]
    · have e : trimN xs xs.length = k + 1 := by omega
      rw [← e]
      exact val_trim xs
/-- numbers are told in one way -/
theorem getD_eq_of_val {us vs : List Int} (hu : Wf us) (hv : Wf vs) (h : val us = val vs) : ∀ k, us.getD k 0 = vs.getD k 0 := by
  induction us generalizing vs with
  | nil =>
    induction vs with
    | nil => intro k; rfl
    | cons y ys ih =>
      have h1 := hv.head
      have h2 := val_nonneg hv.tail
      simp only [val] at h
      have hy : y = 0 := by omega
      have hys : val [] = val ys := by simp only [val]; omega
      intro k
      cases k with
      | zero => simp [hy]
      | succ k => have := ih hv.tail hys k; simpa using this
  | cons x xs ih =>
    cases vs with
    | nil =>
      have h1 := hu.head
      have h2 := val_nonneg hu.tail
      simp only [val] at h
      have hx : x = 0 := by omega
      intro k
      cases k with
      | zero => simp [hx]
      | succ k => have := ih hu.tail Wf.nil (by simp only [val]; omega) k; simpa using this
    | cons y ys =>
      have h1 := hu.head
      have h2 := hv.head
      simp only [val] at h
      intro k
      cases k with
      | zero => simp; omega
      | succ k => have := ih hu.tail hv.tail (by omega) k; simpa using this
theorem canon {us vs : List Int} (hu : Wf us) (hv : Wf vs) (fu : trimN us us.length = us.length) (fv : trimN vs vs.length = vs.length) (h : val us = val vs) : us = vs := by
  have hd := getD_eq_of_val hu hv h
  have lu := trimN_last us us.length
  have lv := trimN_last vs vs.length
  rw [fu] at lu
  rw [fv] at lv
  have hl : us.length = vs.length := by
    rcases Nat.lt_trichotomy us.length vs.length with h1 | h1 | h1
    · exfalso
      refine lv (by omega) ?_
      rw [← hd]
      simp [List.getElem?_eq_none (show us.length ≤ vs.length - 1 by omega)]
    · exact h1
    · exfalso
      refine lu (by omega) ?_
      rw [hd]
      simp [List.getElem?_eq_none (show vs.length ≤ us.length - 1 by omega)]
  apply List.ext_getElem hl
  intro i h1 h2
  have := hd i
  simpa [h1, h2] using this
theorem mod_div (s : Int) : s % 4294967296 + 4294967296 * (s / 4294967296) = s := by omega
theorem val_addTo (xs ys : List Int) (k : Nat) : val (addTo xs ys k).1 + 4294967296 ^ k * (addTo xs ys k).2 = val (xs.take k) + val (ys.take k) := by
  induction k with
  | zero => simp [addTo, val]
  | succ k ih =>
    rw [val_take_succ, val_take_succ]
    simp only [addTo]
    rw [val_append, addTo_length]
    simp only [val, Int.pow_succ]
    have hm := mod_div ((addTo xs ys k).2 + xs.getD k 0 + ys.getD k 0)
    generalize (addTo xs ys k).2 = c at *
    generalize ((c + xs.getD k 0 + ys.getD k 0) % 4294967296) = r at *
    generalize ((c + xs.getD k 0 + ys.getD k 0) / 4294967296) = q at *
    generalize (4294967296 : Int) ^ k = P at *
    grind
theorem full_ge {us : List Int} (hu : Wf us) (f : trimN us us.length = us.length) (j : Nat) (hj : us.length = j + 1) : 4294967296 ^ j ≤ val us := by
  have h1 := trimN_last us us.length (by omega)
  rw [f, hj, Nat.add_sub_cancel] at h1
  have h2 := hu.getD j
  have h3 := val_take_succ us j
  rw [← hj, List.take_length] at h3
  have h4 := val_nonneg (hu.take j)
  have h5 : (4294967296 : Int) ^ j * 1 ≤ 4294967296 ^ j * us.getD j 0 := Int.mul_le_mul_of_nonneg_left (by omega) (Int.le_of_lt (pow_pos' j))
  omega
theorem len_lt {us vs : List Int} (hu : Wf us) (hv : Wf vs) (fv : trimN vs vs.length = vs.length) (h : us.length < vs.length) : val us < val vs := by
  obtain ⟨j, hj⟩ : ∃ j, vs.length = j + 1 := ⟨vs.length - 1, by omega⟩
  have h1 := full_ge hv fv j hj
  have h2 := val_lt hu
  have h3 : (4294967296 : Int) ^ us.length ≤ 4294967296 ^ j := by
    rw [show j = us.length + (j - us.length) from by omega, Int.pow_add]
    have h4 : (4294967296 : Int) ^ us.length * 1 ≤ 4294967296 ^ us.length * 4294967296 ^ (j - us.length) := Int.mul_le_mul_of_nonneg_left (by have := pow_pos' (j - us.length); omega) (Int.le_of_lt (pow_pos' _))
    omega
  omega
theorem take_above (us vs : List Int) (i : Nat) (n : Nat) (h : ∀ j, i < j → j < n → us.getD j 0 = vs.getD j 0) (k : Nat) (hk : i + 1 ≤ k) (hn : k ≤ n) :
    val (us.take k) - val (vs.take k) = val (us.take (i + 1)) - val (vs.take (i + 1)) := by
  induction k with
  | zero => omega
  | succ k ih =>
    by_cases e : k = i
    · subst e; rfl
    · rw [val_take_succ us k, val_take_succ vs k, h k (by omega) (by omega)]
      have := ih (by omega) (by omega)
      omega
theorem top_lt {us vs : List Int} (hu : Wf us) (hv : Wf vs) (i : Nat) (h : us.getD i 0 < vs.getD i 0) : val (us.take (i + 1)) < val (vs.take (i + 1)) := by
  rw [val_take_succ, val_take_succ]
  have h1 := val_lt (hu.take i)
  have h2 := val_nonneg (hv.take i)
  have h3 : (4294967296 : Int) ^ (us.take i).length ≤ 4294967296 ^ i := by
    rw [List.length_take]
    rw [show i = min i us.length + (i - min i us.length) from by omega, Int.pow_add]
    rw [show min (min i us.length + (i - min i us.length)) us.length = min i us.length from by omega]
    have h4 : (4294967296 : Int) ^ min i us.length * 1 ≤ 4294967296 ^ min i us.length * 4294967296 ^ (i - min i us.length) := Int.mul_le_mul_of_nonneg_left (by have := pow_pos' (i - min i us.length); omega) (Int.le_of_lt (pow_pos' _))
    omega
  have h5 : (4294967296 : Int) ^ i * (us.getD i 0 + 1) ≤ 4294967296 ^ i * vs.getD i 0 := Int.mul_le_mul_of_nonneg_left (by omega) (Int.le_of_lt (pow_pos' i))
  rw [Int.mul_add, Int.mul_one] at h5
  omega
theorem sign_lt {a b : Int} (h : a < b) : sign a b = -1 := if_pos h
theorem sign_gt {a b : Int} (h : b < a) : sign a b = 1 := by unfold sign; rw [if_neg (by omega), if_pos h]
theorem sign_self (a : Int) : sign a a = 0 := by unfold sign; rw [if_neg (by omega), if_neg (by omega)]
theorem cmp_val {us vs : List Int} {r : Int} (hu : Wf us) (hv : Wf vs) (fu : trimN us us.length = us.length) (fv : trimN vs vs.length = vs.length) (h : CmpT us vs r) :
    r = sign (val us) (val vs) ∧ (0 ≤ r → vs.length ≤ us.length) := by
  rcases h with ⟨hne, rfl⟩ | ⟨hl, he, rfl⟩ | ⟨hl, i, hi, hne, ha, rfl⟩
  · rcases Nat.lt_or_gt_of_ne hne with h1 | h1
    · rw [sign_lt (show ((us.length : Int) < vs.length) by omega), sign_lt (len_lt hu hv fv h1)]
      exact ⟨rfl, fun h => by omega⟩
    · rw [sign_gt (show ((vs.length : Int) < us.length) by omega), sign_gt (len_lt hv hu fu h1)]
      exact ⟨rfl, fun _ => by omega⟩
  · have e : us = vs := by
      apply List.ext_getElem hl
      intro j h1 h2
      have := he j h1
      simpa [h1, h2] using this
    rw [e, sign_self]
    exact ⟨rfl, fun _ => Nat.le_refl _⟩
  · have h1 := take_above us vs i us.length ha us.length (by omega) (Nat.le_refl _)
    rw [List.take_length] at h1
    rw [hl, List.take_length] at h1
    refine ⟨?_, fun _ => by omega⟩
    have hne' : us.getD i 0 ≠ vs.getD i 0 := hne
    rcases Int.lt_or_gt_of_ne hne' with h2 | h2
    · have h3 := top_lt hu hv i h2
      rw [sign_lt (show val us < val vs by omega)]
      exact sign_lt h2
    · have h3 := top_lt hv hu i h2
      rw [sign_gt (show val vs < val us by omega)]
      exact sign_gt h2
end
section
open Go.RowKit
theorem Blk.lit (w : World) (zs : List Int) : Blk (w.alloc (.cells (zs.map (Value.int .u32)).toArray 63)) w.heap.size zs := heap_alloc_new w _
theorem Blk.lim {w : World} {g : Nat} {zs : List Int} (h : Blk w g zs) : Lim w (some ⟨g, 0, none⟩) zs := .inr ⟨g, 0, rfl, fun i hi => by rw [Nat.zero_add]; exact h.cell i hi⟩
/-- a result: the number n, told in its one way -/
structure Res (base : Nat) (w : World) (u : Value) (zs : List Int) (n : Int) : Prop where
  num : Num base w u zs
  wf : Wf zs
  full : trimN zs zs.length = zs.length
  eq : val zs = n
theorem Res.later {base : Nat} {w w' : World} {u : Value} {zs : List Int} {n : Int} (h : Res base w u zs n) (hb : Below w.heap.size w w') : Res base w' u zs n := ⟨h.num.later hb, h.wf, h.full, h.eq⟩
theorem Res.unique {base base' : Nat} {w w' : World} {u u' : Value} {zs zs' : List Int} {n : Int} (h : Res base w u zs n) (h' : Res base' w' u' zs' n) : zs = zs' :=
  canon h.wf h'.wf h.full h'.full (h.eq.trans h'.eq.symm)
/-- an argument: the limbs xs -/
structure Arg (w : World) (u : Value) (xs : List Int) (ad : Option Addr) (cap : Nat) : Prop where
  is : u = .slice ad xs.length cap
  lim : Lim w ad xs
  le : xs.length ≤ cap
  wf : Wf xs
theorem Arg.later {w w' : World} {u : Value} {xs : List Int} {ad : Option Addr} {cap : Nat} (h : Arg w u xs ad cap) (hb : Below w.heap.size w w') : Arg w' u xs ad cap := ⟨h.is, h.lim.later hb, h.le, h.wf⟩
theorem Res.arg {base : Nat} {w : World} {u : Value} {zs : List Int} {n : Int} (h : Res base w u zs n) : ∃ ad cap, Arg w u zs ad cap := by
  obtain ⟨ad, cap, h1, h2, h3, _, _⟩ := h.num.read
  exact ⟨ad, cap, h1, h2, h3, h.wf⟩
theorem wf1 {x : Int} (h : 0 ≤ x ∧ x < 4294967296) : Wf [x] := Wf.cons h Wf.nil
theorem wf2 {x y : Int} (h : 0 ≤ x ∧ x < 4294967296) (k : 0 ≤ y ∧ y < 4294967296) : Wf [x, y] := Wf.cons h (wf1 k)
theorem trim_len_le (xs : List Int) : (trim xs).length ≤ xs.length := by rw [trim_length]; exact trim_le xs
theorem trim_res {u : Value} {xs : List Int} {a : Option Addr} {capa : Nat} {w : World} (h1 : Arg w u xs a capa) (hx : xs.length ≤ 35184372088832) :
    Calls Tryz.prog 138 #[u] w fun e w' => ∃ r zs, e = .returned r ∧ Res w.heap.size w' r zs (val xs) ∧ zs.length ≤ xs.length ∧ Below w.heap.size w w' := by
  rw [h1.is]
  exact (trim_any a xs capa w h1.lim hx h1.le).mono fun e w' ⟨r, he, hn, hb⟩ => ⟨r, _, he, ⟨hn, h1.wf.trim, trim_full _, val_trim xs⟩, trim_len_le xs, hb⟩
end
section
open Go.RowKit
/-- the limbs xs lie from the address ad on -/
def LimI (w : World) (ad : Option Addr) (xs : List Int) : Prop :=
  xs = [] ∨ ∃ b off, ad = some ⟨b, off, none⟩ ∧ ∀ i, i < xs.length → w.cell? ⟨b, off + i, none⟩ = some (.int .i64 (xs.getD i 0))
theorem LimI.nil (w : World) (ad : Option Addr) : LimI w ad [] := .inl rfl
theorem LimI.below {w w' : World} {ad : Option Addr} {xs : List Int} {B : Nat} (h : LimI w ad xs) (hb : Below B w w') (hB : ∀ a, ad = some a → a.block < B) : LimI w' ad xs := by
  rcases h with rfl | ⟨b, off, rfl, hc⟩
  · exact .inl rfl
  · exact .inr ⟨b, off, rfl, fun i hi => (hb.cell (p := ⟨b, off + i, none⟩) (hB ⟨b, off, none⟩ rfl)).trans (hc i hi)⟩
theorem LimI.later {w w' : World} {ad : Option Addr} {xs : List Int} (h : LimI w ad xs) (hb : Below w.heap.size w w') : LimI w' ad xs := by
  rcases h with rfl | ⟨b, off, rfl, hc⟩
  · exact .inl rfl
  · refine .inr ⟨b, off, rfl, fun i hi => ?_⟩
    have hlt := World.block_lt_of_cell? w _ (hc i hi)
    exact (hb.cell (p := ⟨b, off + i, none⟩) hlt).trans (hc i hi)
theorem LimI.take {w : World} {ad : Option Addr} {xs : List Int} (h : LimI w ad xs) (n : Nat) : LimI w ad (xs.take n) := by
  rcases h with rfl | ⟨b, off, rfl, hc⟩
  · exact .inl (by simp)
  · refine .inr ⟨b, off, rfl, fun i hi => ?_⟩
    rw [List.length_take] at hi
    rw [hc i (by omega)]
    simp [show i < n by omega]
theorem LimI.lt {w : World} {ad : Option Addr} {xs : List Int} (h : LimI w ad xs) (hn : xs ≠ []) : ∀ a, ad = some a → a.block < w.heap.size := by
  rcases h with rfl | ⟨b, off, rfl, hc⟩
  · exact absurd rfl hn
  · intro a ha
    cases ha
    exact World.block_lt_of_cell? w _ (hc 0 (List.length_pos_iff.2 hn))
/-- v is a slice of the call's own limbs xs -/
def NumI (base : Nat) (w : World) (v : Value) (xs : List Int) : Prop := w.ownsRow base 3 1 v xs.length (xs.map (Value.int .i64))
theorem NumI.read {base : Nat} {w : World} {v : Value} {xs : List Int} (h : NumI base w v xs) : ∃ ad cap, v = .slice ad xs.length cap ∧ LimI w ad xs ∧ xs.length ≤ cap ∧ cap ≤ maxLen ∧ (∀ a, ad = some a → base ≤ a.block ∧ a.block < w.heap.size) := by
  obtain ⟨h1, h2⟩ := h
  rcases h2 with ⟨rfl, hn⟩ | ⟨g, cap, cur, rfl, hb, hg, hc, hm, hs, ht⟩
  · obtain rfl := List.eq_nil_of_length_eq_zero hn
    exact ⟨none, 0, rfl, .inl rfl, Nat.le_refl _, by unfold maxLen; omega, fun a ha => by cases ha⟩
  · refine ⟨_, cap, rfl, .inr ⟨g, 0, rfl, fun i hi => ?_⟩, hc, hm, fun a ha => by cases ha; exact ⟨hb, lt_of_block hg⟩⟩
    have hj := World.ownsRow.cellAt (w := w) (base := base) (e := 3) (size := 1) (g := g) (n := xs.length) (cap := cap) (xs := xs.map (Value.int .i64)) ⟨h1, .inr ⟨g, cap, cur, rfl, hb, hg, hc, hm, hs, ht⟩⟩ i (by omega)
    rw [Nat.zero_add, hj]
    simp [hi]
theorem NumI.cut {base : Nat} {w : World} {ad : Option Addr} {xs : List Int} {n cap : Nat} (h : NumI base w (.slice ad n cap) xs) : NumI base w (.slice ad (trimN xs xs.length) cap) (trim xs) := by
  have hl := trim_le xs
  unfold NumI at *
  rw [trim_length]
  obtain ⟨h1, h2⟩ := h
  rcases h2 with ⟨hv, hn⟩ | ⟨g, cap', cur, hv, hb, hg, hc, hm, hs, ht⟩
  · obtain rfl := List.eq_nil_of_length_eq_zero hn
    cases hv
    exact ⟨rfl, .inl ⟨rfl, rfl⟩⟩
  · cases hv
    refine ⟨by rw [List.length_map, trim_length, Nat.mul_one], .inr ⟨g, cap, cur, rfl, hb, hg, by omega, hm, hs, ?_⟩⟩
    unfold trim
    rw [List.map_take, ← ht, List.take_take]
    congr 1
    omega
theorem NumI.lt {base : Nat} {w : World} {v : Value} {xs : List Int} (h : NumI base w v xs) : ∀ k, v.ownBlock = some k → base ≤ k ∧ k < w.heap.size := World.ownsRow.lt h
theorem NumI.kept {base B : Nat} {w w' : World} {v : Value} {xs : List Int} (h : NumI base w v xs) (hb : Below B w w') (hB : ∀ k, v.ownBlock = some k → k < B) : NumI base w' v xs := by
  obtain ⟨h1, h2⟩ := h
  refine ⟨h1, ?_⟩
  rcases h2 with h2 | ⟨g, cap, cur, rfl, hg0, hg, hc, hm, hs, ht⟩
  · exact .inl h2
  · exact .inr ⟨g, cap, cur, rfl, hg0, (hb.block g (hB g rfl)).trans hg, hc, hm, hs, ht⟩
theorem NumI.later {base : Nat} {w w' : World} {v : Value} {xs : List Int} (h : NumI base w v xs) (hb : Below w.heap.size w w') : NumI base w' v xs := h.kept hb fun k hk => (h.lt k hk).2
theorem NumI.mono {base base' : Nat} {w : World} {v : Value} {xs : List Int} (h : NumI base w v xs) (hb : base' ≤ base) : NumI base' w v xs := by
  obtain ⟨h1, h2⟩ := h
  refine ⟨h1, ?_⟩
  rcases h2 with h2 | ⟨g, cap, cur, rfl, hg0, hg, hc, hm, hs, ht⟩
  · exact .inl h2
  · exact .inr ⟨g, cap, cur, rfl, Nat.le_trans hb hg0, hg, hc, hm, hs, ht⟩
/-- all are digits -/
def WfD (xs : List Int) : Prop := ∀ x ∈ xs, 0 ≤ x ∧ x < 10000
end
section
open Go.RowKit
theorem WfD.nil : WfD [] := by intro x h; cases h
theorem WfD.cons {x : Int} {xs : List Int} (h : 0 ≤ x ∧ x < 10000) (hs : WfD xs) : WfD (x :: xs) := by
  intro y hy
  rcases List.mem_cons.1 hy with rfl | hy
  · exact h
  · exact hs y hy
theorem WfD.tail {x : Int} {xs : List Int} (h : WfD (x :: xs)) : WfD xs := fun y hy => h y (List.mem_cons_of_mem _ hy)
theorem WfD.head {x : Int} {xs : List Int} (h : WfD (x :: xs)) : 0 ≤ x ∧ x < 10000 := h x List.mem_cons_self
theorem WfD.append {xs ys : List Int} (h : WfD xs) (k : WfD ys) : WfD (xs ++ ys) := by
  intro x hx
  rcases List.mem_append.1 hx with hx | hx
  · exact h x hx
  · exact k x hx
theorem WfD.take {xs : List Int} (h : WfD xs) (n : Nat) : WfD (xs.take n) := fun x hx => h x (List.mem_of_mem_take hx)
theorem WfD.drop {xs : List Int} (h : WfD xs) (n : Nat) : WfD (xs.drop n) := fun x hx => h x (List.mem_of_mem_drop hx)
theorem WfD.getD {xs : List Int} (h : WfD xs) (i : Nat) : 0 ≤ xs.getD i 0 ∧ xs.getD i 0 < 10000 := by
  by_cases hi : i < xs.length
  · have : xs.getD i 0 = xs[i] := by simp [List.getD, hi]
    rw [this]
    exact h _ (List.getElem_mem hi)
  · have : xs.getD i 0 = 0 := by simp [List.getD, List.getElem?_eq_none (Nat.le_of_not_lt hi)]
    rw [this]; omega
theorem WfD.trim {xs : List Int} (h : WfD xs) : WfD (trim xs) := h.take _
/-- the number that limbs stand for -/
def valD : List Int → Int
  | [] => 0
  | x :: xs => x + 10000 * valD xs
theorem val_nonnegD {xs : List Int} (h : WfD xs) : 0 ≤ valD xs := by
  induction xs with
  | nil => simp [valD]
  | cons x xs ih => have := ih h.tail; have := h.head; simp only [valD]; omega
theorem val_appendD (xs ys : List Int) : valD (xs ++ ys) = valD xs + 10000 ^ xs.length * valD ys := by
  induction xs with
  | nil => simp [valD]
  | cons x xs ih => simp only [List.cons_append, valD, ih, List.length_cons, Int.pow_succ]; grind
theorem pow_posD (k : Nat) : (0 : Int) < 10000 ^ k := Int.pow_pos (by omega)
theorem val_take_succD (xs : List Int) (k : Nat) : valD (xs.take (k + 1)) = valD (xs.take k) + 10000 ^ k * xs.getD k 0 := by
  by_cases h : k < xs.length
  · rw [List.take_succ_eq_append_getElem h, val_appendD, List.length_take, Nat.min_eq_left (by omega)]
    simp [valD, h]
  · rw [List.take_of_length_le (by omega), List.take_of_length_le (by omega)]
    simp [List.getElem?_eq_none (Nat.le_of_not_lt h)]
theorem val_ltD {xs : List Int} (h : WfD xs) : valD xs < 10000 ^ xs.length := by
  induction xs with
  | nil => simp [valD]
  | cons x xs ih =>
    have h1 := ih h.tail
    have h2 := h.head
    simp only [valD, List.length_cons, Int.pow_succ]
    omega
theorem val_trimND (xs : List Int) (n : Nat) : valD (xs.take (trimN xs n)) = valD (xs.take n) := by
  induction n with
  | zero => rfl
  | succ n ih =>
    unfold trimN
    split
    · rename_i hz
      rw [val_take_succD, hz, ih]
      simp
    · rfl
theorem val_trimD (xs : List Int) : valD (trim xs) = valD xs := by
  unfold trim
  rw [val_trimND, List.take_length]
/-- numbers are told in one way -/
theorem getD_eq_of_valD {us vs : List Int} (hu : WfD us) (hv : WfD vs) (h : valD us = valD vs) : ∀ k, us.getD k 0 = vs.getD k 0 := by
  induction us generalizing vs with
  | nil =>
    induction vs with
    | nil => intro k; rfl
    | cons y ys ih =>
      have h1 := hv.head
      have h2 := val_nonnegD hv.tail
      simp only [valD] at h
      have hy : y = 0 := by omega
      have hys : valD [] = valD ys := by simp only [valD]; omega
      intro k
      cases k with
      | zero => simp [hy]
      | succ k => have := ih hv.tail hys k; simpa using this
  | cons x xs ih =>
    cases vs with
    | nil =>
      have h1 := hu.head
      have h2 := val_nonnegD hu.tail
      simp only [valD] at h
      have hx : x = 0 := by omega
      intro k
      cases k with
      | zero => simp [hx]
      | succ k => have := ih hu.tail WfD.nil (by simp only [valD]; omega) k; simpa using this
    | cons y ys =>
      have h1 := hu.head
      have h2 := hv.head
      simp only [valD] at h
      intro k
      cases k with
      | zero => simp; omega
      | succ k => have := ih hu.tail hv.tail (by omega) k; simpa using this
theorem canonD {us vs : List Int} (hu : WfD us) (hv : WfD vs) (fu : trimN us us.length = us.length) (fv : trimN vs vs.length = vs.length) (h : valD us = valD vs) : us = vs := by
  have hd := getD_eq_of_valD hu hv h
  have lu := trimN_last us us.length
  have lv := trimN_last vs vs.length
  rw [fu] at lu
  rw [fv] at lv
  have hl : us.length = vs.length := by
    rcases Nat.lt_trichotomy us.length vs.length with h1 | h1 | h1
    · exfalso
      refine lv (by omega) ?_
      rw [← hd]
      simp [List.getElem?_eq_none (show us.length ≤ vs.length - 1 by omega)]
    · exact h1
    · exfalso
      refine lu (by omega) ?_
      rw [hd]
      simp [List.getElem?_eq_none (show vs.length ≤ us.length - 1 by omega)]
  apply List.ext_getElem hl
  intro i h1 h2
  have := hd i
  simpa [h1, h2] using this
theorem full_geD {us : List Int} (hu : WfD us) (f : trimN us us.length = us.length) (j : Nat) (hj : us.length = j + 1) : 10000 ^ j ≤ valD us := by
  have h1 := trimN_last us us.length (by omega)
  rw [f, hj, Nat.add_sub_cancel] at h1
  have h2 := hu.getD j
  have h3 := val_take_succD us j
  rw [← hj, List.take_length] at h3
  have h4 := val_nonnegD (hu.take j)
  have h5 : (10000 : Int) ^ j * 1 ≤ 10000 ^ j * us.getD j 0 := Int.mul_le_mul_of_nonneg_left (by omega) (Int.le_of_lt (pow_posD j))
  omega
theorem len_ltD {us vs : List Int} (hu : WfD us) (hv : WfD vs) (fv : trimN vs vs.length = vs.length) (h : us.length < vs.length) : valD us < valD vs := by
  obtain ⟨j, hj⟩ : ∃ j, vs.length = j + 1 := ⟨vs.length - 1, by omega⟩
  have h1 := full_geD hv fv j hj
  have h2 := val_ltD hu
  have h3 : (10000 : Int) ^ us.length ≤ 10000 ^ j := by
    rw [show j = us.length + (j - us.length) from by omega, Int.pow_add]
    have h4 : (10000 : Int) ^ us.length * 1 ≤ 10000 ^ us.length * 10000 ^ (j - us.length) := Int.mul_le_mul_of_nonneg_left (by have := pow_posD (j - us.length); omega) (Int.le_of_lt (pow_posD _))
    omega
  omega
theorem take_aboveD (us vs : List Int) (i : Nat) (n : Nat) (h : ∀ j, i < j → j < n → us.getD j 0 = vs.getD j 0) (k : Nat) (hk : i + 1 ≤ k) (hn : k ≤ n) :
    valD (us.take k) - valD (vs.take k) = valD (us.take (i + 1)) - valD (vs.take (i + 1)) := by
  induction k with
  | zero => omega
  | succ k ih =>
    by_cases e : k = i
    · subst e; rfl
    · rw [val_take_succD us k, val_take_succD vs k, h k (by omega) (by omega)]
      have := ih (by omega) (by omega)
      omega
theorem top_ltD {us vs : List Int} (hu : WfD us) (hv : WfD vs) (i : Nat) (h : us.getD i 0 < vs.getD i 0) : valD (us.take (i + 1)) < valD (vs.take (i + 1)) := by
  rw [val_take_succD, val_take_succD]
  have h1 := val_ltD (hu.take i)
  have h2 := val_nonnegD (hv.take i)
  have h3 : (10000 : Int) ^ (us.take i).length ≤ 10000 ^ i := by
    rw [List.length_take]
    rw [show i = min i us.length + (i - min i us.length) from by omega, Int.pow_add]
    rw [show min (min i us.length + (i - min i us.length)) us.length = min i us.length from by omega]
    have h4 : (10000 : Int) ^ min i us.length * 1 ≤ 10000 ^ min i us.length * 10000 ^ (i - min i us.length) := Int.mul_le_mul_of_nonneg_left (by have := pow_posD (i - min i us.length); omega) (Int.le_of_lt (pow_posD _))
    omega
  have h5 : (10000 : Int) ^ i * (us.getD i 0 + 1) ≤ 10000 ^ i * vs.getD i 0 := Int.mul_le_mul_of_nonneg_left (by omega) (Int.le_of_lt (pow_posD i))
  rw [Int.mul_add, Int.mul_one] at h5
  omega
theorem cmp_valD {us vs : List Int} {r : Int} (hu : WfD us) (hv : WfD vs) (fu : trimN us us.length = us.length) (fv : trimN vs vs.length = vs.length) (h : CmpT us vs r) :
    r = sign (valD us) (valD vs) ∧ (0 ≤ r → vs.length ≤ us.length) := by
  rcases h with ⟨hne, rfl⟩ | ⟨hl, he, rfl⟩ | ⟨hl, i, hi, hne, ha, rfl⟩
  · rcases Nat.lt_or_gt_of_ne hne with h1 | h1
    · rw [sign_lt (show ((us.length : Int) < vs.length) by omega), sign_lt (len_ltD hu hv fv h1)]
      exact ⟨rfl, fun h => by omega⟩
    · rw [sign_gt (show ((vs.length : Int) < us.length) by omega), sign_gt (len_ltD hv hu fu h1)]
      exact ⟨rfl, fun _ => by omega⟩
  · have e : us = vs := by
      apply List.ext_getElem hl
      intro j h1 h2
      have := he j h1
      simpa [h1, h2] using this
    rw [e, sign_self]
    exact ⟨rfl, fun _ => Nat.le_refl _⟩
  · have h1 := take_aboveD us vs i us.length ha us.length (by omega) (Nat.le_refl _)
    rw [List.take_length] at h1
    rw [hl, List.take_length] at h1
    refine ⟨?_, fun _ => by omega⟩
    have hne' : us.getD i 0 ≠ vs.getD i 0 := hne
    rcases Int.lt_or_gt_of_ne hne' with h2 | h2
    · have h3 := top_ltD hu hv i h2
      rw [sign_lt (show valD us < valD vs by omega)]
      exact sign_lt h2
    · have h3 := top_ltD hv hu i h2
      rw [sign_gt (show valD vs < valD us by omega)]
      exact sign_gt h2
end
section
open Go.RowKit
theorem infoInt : (Tryz.prog.info? 3).map (fun i => (i.zero, i.size, i.bytes)) = some (some (.int .i64 0), 1, 8) := by kernel_rfl
set_option maxHeartbeats 400000 in
theorem digit_any (ad : Option Addr) (xs : List Int) (cap k : Nat) (x : Int) (w : World) (hl : LimI w ad xs) (hm : xs.length ≤ 1099511627776) (hx : xs.getD k 0 = x) :
    Calls Tryz.prog 133 #[.slice ad xs.length cap, .int .i64 k] w fun e w' => e = .returned (.int .i64 x) ∧ w = w' := by
  subst hx
  by_cases hk : k < xs.length
  · rcases hl with rfl | ⟨b, off, rfl, hc⟩
    · simp at hk
    · have hck := hc k hk
      clear hc
      go_enter Tryz.func133, Tryz.ntmps133
      go_wp2
      go_ret
      refine ⟨?_, rfl⟩
      simp [hk]
  · go_enter Tryz.func133, Tryz.ntmps133
    go_wp2
    go_ret
    refine ⟨?_, rfl⟩
    simp [List.getElem?_eq_none (Nat.le_of_not_lt hk)]
set_option maxHeartbeats 400000 in
theorem trimD_any (ad : Option Addr) (xs : List Int) (cap : Nat) (w : World) (hl : LimI w ad xs) (hm : xs.length ≤ 1099511627776) (hcap : xs.length ≤ cap) :
    Calls Tryz.prog 153 #[.slice ad xs.length cap] w fun e w' => e = .returned (.slice ad (trimN xs xs.length) cap) ∧ w = w' := by
  go_enter Tryz.func153, Tryz.ntmps153
  go_wp2
  go_loop [3] (fun n => ∃ j : Nat, j ≤ xs.length ∧ n = .int .i64 j ∧ trimN xs j = trimN xs xs.length) (fun n => (intOf n).toNat)
  case atStart => exact ⟨xs.length, Nat.le_refl _, rfl, rfl⟩
  case round =>
    obtain ⟨j, hj, rfl, ht⟩ := hrel
    have HT := Lib.hid ht
    clear ht
    rcases j with _ | m
    · have h0 : trimN xs xs.length = 0 := HT.out.symm
      go_wp2
      go_ret
      exact ⟨rfl, rfl⟩
    · rcases hl with rfl | ⟨b, off, rfl, hc⟩
      · simp at hj
      · have hck := hc m (by omega)
        clear hc
        go_wp2
        · have hz : xs.getD m 0 = 0 := by
            have h : (xs[m]?.getD 0 == 0) = true := by assumption
            simpa using h
          go_round
          case rel => exact ⟨m, by omega, by go_num, by rw [← HT.out]; simp only [trimN]; rw [if_pos hz]⟩
          case measure => simp [intOf]
        · have hz : xs.getD m 0 ≠ 0 := by
            have h : (xs[m]?.getD 0 == 0) = false := by assumption
            simpa using h
          have ht : trimN xs xs.length = m + 1 := by rw [← HT.out]; simp only [trimN]; rw [if_neg hz]
          go_ret
          exact ⟨by rw [ht]; simp, rfl⟩
theorem trimD_num {base : Nat} {v : Value} {xs : List Int} {w : World} (h : NumI base w v xs) (hm : xs.length ≤ 1099511627776) :
    Calls Tryz.prog 153 #[v] w fun e w' => ∃ u, e = .returned u ∧ NumI base w u (trim xs) ∧ w = w' := by
  obtain ⟨ad, cap, rfl, hl, hc, _, _⟩ := h.read
  exact (trimD_any ad xs cap w hl hm hc).mono fun e w' ⟨he, hw⟩ => ⟨_, he, h.cut, hw⟩
theorem push_num {base : Nat} {w wr w1 : World} {v v' : Value} {ds : List Int} {d : Int} {o : Obj} (hb : Below base w wr) (hbase : base ≤ wr.heap.size) (hown : NumI base wr v ds)
    (hown' : w1.ownsRow base 3 1 v' (ds.length + 1) (ds.map (Value.int .i64) ++ [Value.int .i64 d])) (hgrow : (wr.alloc o).grownBy w1 v.ownBlock) : NumI base w1 v' (ds ++ [d]) ∧ Below base w w1 := by
  refine ⟨?_, (hb.alloc hbase o).grown hgrow (by simp; omega) (fun k hk => (hown.lt k hk).1)⟩
  unfold NumI
  rw [List.length_append, List.map_append]
  exact hown'
theorem full_snoc (l : List Int) {x : Int} (h : x ≠ 0) : trimN (l ++ [x]) (l ++ [x]).length = (l ++ [x]).length := by
  rw [List.length_append]
  show trimN (l ++ [x]) (l.length + 1) = l.length + 1
  unfold trimN
  rw [if_neg]
  simpa using h
theorem valD_snoc (l : List Int) (x : Int) : valD (l ++ [x]) = valD l + 10000 ^ l.length * x := by
  rw [val_appendD]
  simp [valD]
theorem WfD.snoc {l : List Int} (h : WfD l) {x : Int} (hx : 0 ≤ x ∧ x < 10000) : WfD (l ++ [x]) := h.append (WfD.cons hx WfD.nil)
/-- how far Small has come -/
def SmallI (len : Nat) (m : Int) : Prop := (len = 0 ∧ m < 1000000000000) ∨ (len = 1 ∧ m < 100000000) ∨ (len = 2 ∧ m < 10000) ∨ (len = 3 ∧ m = 0)
/-- a result of the reference: the number n, told in its one way -/
structure ResD (base : Nat) (w : World) (u : Value) (zs : List Int) (n : Int) : Prop where
  num : NumI base w u zs
  wf : WfD zs
  full : trimN zs zs.length = zs.length
  eq : valD zs = n
theorem ResD.later {base : Nat} {w w' : World} {u : Value} {zs : List Int} {n : Int} (h : ResD base w u zs n) (hb : Below w.heap.size w w') : ResD base w' u zs n := ⟨h.num.later hb, h.wf, h.full, h.eq⟩
theorem ResD.unique {base base' : Nat} {w w' : World} {u u' : Value} {zs zs' : List Int} {n : Int} (h : ResD base w u zs n) (h' : ResD base' w' u' zs' n) : zs = zs' :=
  canonD h.wf h'.wf h.full h'.full (h.eq.trans h'.eq.symm)
set_option maxHeartbeats 1000000 in
theorem small_any (N : Int) (w : World) (hN : 0 ≤ N) (hN2 : N < 1000000000000) :
    Calls Tryz.prog 115 #[.int .i64 N] w fun e w' => ∃ u, e = .returned u ∧ ∃ zs, ResD w.heap.size w' u zs N ∧ zs.length ≤ 3 ∧ Below w.heap.size w w' := by
  obtain ⟨i0, hi, hz0, hz1, hz2⟩ := info_parts infoInt
  go_enter Tryz.func115, Tryz.ntmps115
  go_wp2
  go_loopw [0, 3] (fun n s wr => ∃ (m : Int) (ds : List Int) (v : Value), n = .int .i64 m ∧ v = s ∧ 0 ≤ m ∧ SmallI ds.length m ∧ NumI w.heap.size wr v ds ∧ WfD ds ∧ valD ds + 10000 ^ ds.length * m = N ∧ (m = 0 → trimN ds ds.length = ds.length) ∧ Below w.heap.size w wr) (fun n _ _ => (intOf n).toNat)
  case atStart => exact ⟨N, [], _, rfl, rfl, hN, .inl ⟨rfl, hN2⟩, World.ownsRow_nil _ _ _ _, WfD.nil, by simp [valD], fun _ => rfl, Below.refl _ _⟩
  case round =>
    obtain ⟨m, ds, v, rfl, rfl, hm, hs, hown, hwf, hval, hfull, hb⟩ := hrel
    have hsz := hb.size
    have HV := Lib.hid hval
    have HF := Lib.hid hfull
    have HS := Lib.hid hs
    have HO := Lib.hid hown
    have hrow : wr.ownsRow w.heap.size 3 1 v ds.length (ds.map (Value.int .i64)) := hown
    have hlen : ds.length ≤ 3 := by rcases hs with h | h | h | h <;> omega
    have hm2 : m < 1000000000000 := by rcases hs with h | h | h | h <;> omega
    clear hval hfull hs hown
    by_cases hpos : 0 < m
    · go_wp2_with (at_builtin; refine wpList_append_own _ rfl _ _ 73 rfl w.heap.size 3 i0 (.int .i64 0) 1 8 Tryz.underlying73 hi hz0 hz1 hz2 rfl (by decide) _ _ _ rfl (hrow.alloc _) ⟨wr.heap.size, 0, none⟩ 1 1 [.int .i64 (m % 10000)] rfl rfl (cell_one_new _ _ _) (by simp [Value.oneCell']) (by unfold maxLen; omega) (by omega) (by simp; omega) ?_; intro v' w1 hown' hgrow _)
      go_roundw
      case rel =>
        obtain ⟨hn, hbw⟩ := push_num hb hsz HO.out hown' hgrow
        refine ⟨m / 10000, ds ++ [m % 10000], v', rfl, rfl, by omega, ?_, hn, hwf.snoc (by omega), ?_, fun h0 => full_snoc ds (by omega), hbw⟩
        · rw [List.length_append, List.length_singleton]
          rcases HS.out with h | h | h | h
          · exact .inr (.inl ⟨by omega, by omega⟩)
          · exact .inr (.inr (.inl ⟨by omega, by omega⟩))
          · exact .inr (.inr (.inr ⟨by omega, by omega⟩))
          · omega
        · rw [valD_snoc, List.length_append, List.length_singleton, Int.pow_succ]
          have h1 := HV.out
          have h2 : m % 10000 + 10000 * (m / 10000) = m := by omega
          generalize m % 10000 = r at *
          generalize m / 10000 = q at *
          generalize (10000 : Int) ^ ds.length = P at *
          grind
      case measure => simp [intOf]; omega
    · have h0 : m = 0 := by omega
      subst h0
      go_wp2
      go_ret
      exact ⟨_, rfl, ds, ⟨HO.out, hwf, (by have h := HF.out; simpa using h), by have := HV.out; simpa using this⟩, hlen, hb⟩
end
section
open Go.RowKit
theorem NumI.lit {base : Nat} {w : World} (h : base ≤ w.heap.size) (zs : List Int) (hm : zs.length ≤ maxLen) :
    NumI base (w.alloc (.cells (zs.map (Value.int .i64)).toArray 3)) (.slice (some ⟨w.heap.size, 0, none⟩) zs.length zs.length) zs := by
  unfold NumI
  exact ⟨by simp, .inr ⟨w.heap.size, zs.length, _, rfl, h, heap_alloc_new w _, Nat.le_refl _, hm, by simp, by simp [List.take_of_length_le]⟩⟩
theorem LimI.news {w : World} {ad : Addr} {xs : List Int} (h : LimI w (some ad) xs) : ∀ j u, (xs.map (Value.int .i64))[j]? = some u → w.cell? (ad.add j) = some u := by
  intro j u hj
  rcases h with rfl | ⟨b, off, e, hc⟩
  · simp at hj
  · cases e
    rw [List.getElem?_map] at hj
    have hjl : j < xs.length := by
      rcases Nat.lt_or_ge j xs.length with h | h
      · exact h
      · rw [List.getElem?_eq_none h] at hj; cases hj
    rw [show (⟨b, off, none⟩ : Addr).add j = ⟨b, off + j, none⟩ from (by unfold Addr.add; split <;> simp_all), hc j hjl, ← hj]
    simp [hjl]
theorem valD_drop (xs : List Int) (j : Nat) (h : j < xs.length) : valD (xs.drop j) = xs.getD j 0 + 10000 * valD (xs.drop (j + 1)) := by
  rw [List.drop_eq_getElem_cons h]
  simp [valD, h]
end
section
open Go.RowKit
/-- a block of limbs, known whole -/
def BlkI (w : World) (g : Nat) (zs : List Int) : Prop := w.heap[g]? = some (.cells (zs.map (Value.int .i64)).toArray 3 (0, 0))
theorem BlkI.cell {w : World} {g : Nat} {zs : List Int} (h : BlkI w g zs) (i : Nat) (hi : i < zs.length) : w.cell? ⟨g, i, none⟩ = some (.int .i64 (zs.getD i 0)) := by
  have e : w.cell? ⟨g, i, none⟩ = ((zs.map (Value.int .i64)).toArray)[i]? := cell_of_row w g i _ 3 (0, 0) h
  rw [e]; simp [hi]
theorem BlkI.free {w : World} {g : Nat} {zs : List Int} (h : BlkI w g zs) (i : Nat) : w.frozen? ⟨g, i, none⟩ = false := by
  exact frozen_of_row w g i _ 3 h
theorem BlkI.lt {w : World} {g : Nat} {zs : List Int} (h : BlkI w g zs) : g < w.heap.size := lt_of_block h
theorem BlkI.same {w w' : World} {g : Nat} {zs : List Int} (h : BlkI w g zs) (e : w'.heap[g]? = w.heap[g]?) : BlkI w' g zs := e.trans h
theorem BlkI.alloc {w : World} {g : Nat} {zs : List Int} (h : BlkI w g zs) (o : Obj) : BlkI (w.alloc o) g zs := h.same (Below.heap_alloc _ _ _ h.lt)
theorem BlkI.only {w w' : World} {g b : Nat} {zs : List Int} (h : BlkI w g zs) (k : Only b w w') (hb : g ≠ b) : BlkI w' g zs := h.same (k.block g hb)
theorem BlkI.below {w w' : World} {g B : Nat} {zs : List Int} (h : BlkI w g zs) (k : Below B w w') (hb : g < B) : BlkI w' g zs := h.same (k.block g hb)
theorem BlkI.set {w : World} {g : Nat} {zs : List Int} (h : BlkI w g zs) (i : Nat) (x : Int) : BlkI (w.setCell ⟨g, i, none⟩ (.int .i64 x)) g (zs.set i x) := by
  have hh := heap_setCell_same w g i _ 3 (.int .i64 x) h
  unfold BlkI
  rw [hh]
  congr 2
  simp [List.map_set]
theorem BlkI.made (w : World) (n : Nat) : BlkI (w.alloc (.cells (madeCells #[.int .i64 0] n) 3)) w.heap.size (List.replicate n 0) := by
  have h := heap_alloc_new w (.cells (madeCells #[.int .i64 0] n) 3)
  unfold BlkI
  rw [h]
  congr 2
  apply Array.ext
  · simp [madeCells]
  · intro i h1 h2
    simp [madeCells, Nat.mod_one]
theorem NumI.ofBlk {base g : Nat} {w : World} {zs : List Int} (h : BlkI w g zs) (hb : base ≤ g) (n : Nat) (hn : n ≤ zs.length) (hm : zs.length ≤ maxLen) : NumI base w (.slice (some ⟨g, 0, none⟩) n zs.length) (zs.take n) := by
  have e : (zs.take n).length = n := by rw [List.length_take]; omega
  unfold NumI
  rw [e]
  refine ⟨by rw [List.length_map, e, Nat.mul_one], .inr ⟨g, zs.length, _, rfl, hb, h, hn, hm, by simp, ?_⟩⟩
  simp [List.map_take]
theorem BlkI.grown {w w' : World} {g : Nat} {row : Option Nat} {zs : List Int} (h : BlkI w g zs) (k : w.grownBy w' row) (hb : some g ≠ row) : BlkI w' g zs := h.same (k.block g h.lt hb)
/-- make([]limb, n, c) -/
theorem makeI_run (n c : Int) (h0 : 0 ≤ n) (hnc : n ≤ c) (hc : c ≤ 17592186044416) (w : World) :
    (Instr.makeSlice 73 (.int .i64 n) (.int .i64 c)).run Tryz.prog w = .ok (.slice (some ⟨w.heap.size, 0, none⟩) n.toNat c.toNat) (w.alloc (.cells (madeCells #[.int .i64 0] c.toNat) 3)) := by
  obtain ⟨i0, hi, hz0, hz1, hz2⟩ := info_parts infoInt
  have h := run_make (P := Tryz.prog) w 73 3 i0 (.int .i64 0) Tryz.underlying73 hi hz0 .i64 .i64 n c h0 hnc (by rw [hz2]; omega) (by omega)
  simpa [hz1, Value.cells] using h
theorem makeI_runN (n c : Nat) (hnc : n ≤ c) (hc : c ≤ 17592186044416) (w : World) :
    (Instr.makeSlice 73 (.int .i64 n) (.int .i64 c)).run Tryz.prog w = .ok (.slice (some ⟨w.heap.size, 0, none⟩) n c) (w.alloc (.cells (madeCells #[.int .i64 0] c) 3)) := by
  simpa using makeI_run n c (by omega) (by omega) (by omega) w
end
end Go.Proofs.YtooglnhlhgmhdaaGreat
