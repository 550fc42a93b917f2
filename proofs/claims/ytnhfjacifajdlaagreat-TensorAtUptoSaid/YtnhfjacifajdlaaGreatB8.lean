/-
  Package shape as it landed: Index.
-/
import Derived.Test.YtnhfjacifajdlaaGreatB7
namespace Go.Proofs.YtnhfjacifajdlaaGreat
set_option maxRecDepth 100000
section
open Go.RowKit
set_option linter.unusedVariables false
set_option linter.unusedSimpArgs false
/-- block g has room for cap numbers, of which the first are zs -/
def PartS (w : World) (g cap : Nat) (zs : List Int) : Prop := ∃ cur : Array Value, w.heap[g]? = some (.cells cur 3 (0, 0)) ∧ cur.size = cap ∧ zs.length ≤ cap ∧ cur.toList.take zs.length = zs.map (Value.int .i64)
theorem PartS.cell {w : World} {g cap : Nat} {zs : List Int} (h : PartS w g cap zs) (i : Nat) (hi : i < zs.length) : w.cell? ⟨g, i, none⟩ = some (.int .i64 (zs.getD i 0)) := by
  obtain ⟨cur, hh, hs, hl, ht⟩ := h
  have e : w.cell? ⟨g, i, none⟩ = cur[i]? := cell_of_row w g i _ 3 (0, 0) hh
  rw [e]
  have h1 : (cur.toList.take zs.length)[i]? = cur[i]? := by rw [List.getElem?_take_of_lt hi]; simp
  rw [← h1, ht]
  simp [hi]
theorem PartS.free {w : World} {g cap : Nat} {zs : List Int} (h : PartS w g cap zs) (i : Nat) : w.frozen? ⟨g, i, none⟩ = false := by
  obtain ⟨cur, hh, _⟩ := h
  exact frozen_of_row w g i _ 3 hh
theorem PartS.lt {w : World} {g cap : Nat} {zs : List Int} (h : PartS w g cap zs) : g < w.heap.size := by obtain ⟨cur, hh, _⟩ := h; exact lt_of_block hh
theorem PartS.le {w : World} {g cap : Nat} {zs : List Int} (h : PartS w g cap zs) : zs.length ≤ cap := by obtain ⟨_, _, _, h, _⟩ := h; exact h
theorem PartS.same {w w' : World} {g cap : Nat} {zs : List Int} (h : PartS w g cap zs) (e : w'.heap[g]? = w.heap[g]?) : PartS w' g cap zs := by
  obtain ⟨cur, hh, r⟩ := h
  exact ⟨cur, e.trans hh, r⟩
theorem PartS.later {w w' : World} {g cap : Nat} {zs : List Int} (h : PartS w g cap zs) (k : Below w.heap.size w w') : PartS w' g cap zs := h.same (k.block g h.lt)
theorem PartS.far {w : World} {g cap : Nat} {zs : List Int} (h : PartS w g cap zs) {p : Addr} (hne : g ≠ p.block) (u : Value) : PartS (w.setCell p u) g cap zs := h.same (Below.heap_setCell _ _ _ _ hne)
theorem PartS.set {w : World} {g cap : Nat} {zs : List Int} (h : PartS w g cap zs) (i : Nat) (hi : i < zs.length) (x : Int) : PartS (w.setCell ⟨g, i, none⟩ (.int .i64 x)) g cap (zs.set i x) := by
  obtain ⟨cur, hh, hs, hl, ht⟩ := h
  refine ⟨cur.setIfInBounds i (.int .i64 x), ?_, by simpa using hs, by simpa using hl, ?_⟩
  · have e := heap_setCell_same w g i _ 3 (.int .i64 x) hh
    rw [e]
  · rw [List.length_set, Array.toList_setIfInBounds, List.take_set, ht, List.map_set]
theorem PartS.num {base g cap : Nat} {w : World} {zs : List Int} (h : PartS w g cap zs) (hb : base ≤ g) (hm : cap ≤ maxLen) : NumS base w (.slice (some ⟨g, 0, none⟩) zs.length cap) zs := by
  obtain ⟨cur, hh, hs, hl, ht⟩ := h
  exact ⟨by simp, .inr ⟨g, cap, cur, rfl, hb, hh, hl, hm, by simpa using hs, by simpa using ht⟩⟩
theorem NumS.partS {base : Nat} {w : World} {v : Value} {zs : List Int} (h : NumS base w v zs) (hz : zs ≠ []) :
    ∃ g cap, v = .slice (some ⟨g, 0, none⟩) zs.length cap ∧ base ≤ g ∧ cap ≤ maxLen ∧ PartS w g cap zs := by
  obtain ⟨h1, h2⟩ := h
  rcases h2 with ⟨hv, hn⟩ | ⟨g, cap, cur, hv, hb, hg, hc, hm, hs, ht⟩
  · exact absurd (List.eq_nil_of_length_eq_zero hn) hz
  · exact ⟨g, cap, hv, hb, hm, cur, hg, by simpa using hs, hc, by simpa using ht⟩
theorem infoSl : (Tryz.prog.info? 22).map (fun i => (i.zero, i.size, i.bytes)) = some (some (.slice none 0 0), 1, 24) := by kernel_rfl
theorem ResS.grown {base : Nat} {w w' : World} {u : Value} {xs : List Int} {row : Option Nat} (h : ResS base w u xs) (k : w.grownBy w' row) (hb : ∀ g, u.ownBlock = some g → some g ≠ row) : ResS base w' u xs := by
  refine ⟨?_, h.wf⟩
  obtain ⟨h1, h2⟩ := h.num
  refine ⟨h1, ?_⟩
  rcases h2 with h2 | ⟨r, cap, cur, rfl, hr, hh, hrest⟩
  · exact .inl h2
  · exact .inr ⟨r, cap, cur, rfl, hr, (k.block r (lt_of_block hh) (hb r rfl)).trans hh, hrest⟩
/-- a slice of slices of numbers, all of the call's own -/
def RowsS (base : Nat) (w : World) (v : Value) (L : List (List Int)) : Prop :=
  ∃ vals : List Value, w.ownsRow base 22 1 v vals.length vals ∧ vals.length = L.length ∧ ∀ i, i < L.length → ∃ u, vals[i]? = some u ∧ ResS base w u (L.getD i [])
theorem RowsS.later {base : Nat} {w w' : World} {v : Value} {L : List (List Int)} (h : RowsS base w v L) (hb : Below w.heap.size w w') : RowsS base w' v L := by
  obtain ⟨vals, h1, h2, h3⟩ := h
  refine ⟨vals, ?_, h2, fun i hi => ?_⟩
  · obtain ⟨m1, m2⟩ := h1
    refine ⟨m1, ?_⟩
    rcases m2 with m2 | ⟨r, cap, cur, rfl, hr, hh, hrest⟩
    · exact .inl m2
    · exact .inr ⟨r, cap, cur, rfl, hr, (hb.block r (lt_of_block hh)).trans hh, hrest⟩
  · obtain ⟨u, e, R⟩ := h3 i hi
    exact ⟨u, e, R.later hb⟩
theorem RowsS.slice {base : Nat} {w : World} {v : Value} {L : List (List Int)} (h : RowsS base w v L) (hn : L ≠ []) : ∃ g cap, v = .slice (some ⟨g, 0, none⟩) L.length cap ∧ base ≤ g ∧ L.length ≤ cap ∧ cap ≤ maxLen ∧
    ∀ i, i < L.length → ∃ u, w.cell? ⟨g, i, none⟩ = some u ∧ ResS base w u (L.getD i []) := by
  obtain ⟨vals, h1, h2, h3⟩ := h
  obtain ⟨m1, m2⟩ := h1
  rcases m2 with ⟨e, h0⟩ | ⟨r, cap, cur, rfl, hr, hh, hc, hm, hs, ht⟩
  · exact absurd (List.eq_nil_of_length_eq_zero (by omega)) hn
  · refine ⟨r, cap, by rw [h2], hr, by omega, hm, fun i hi => ?_⟩
    obtain ⟨u, e, R⟩ := h3 i hi
    refine ⟨u, ?_, R⟩
    have hj := World.ownsRow.cellAt (w := w) (base := base) (e := 22) (size := 1) (g := r) (n := vals.length) (cap := cap) (xs := vals) ⟨m1, .inr ⟨r, cap, cur, rfl, hr, hh, hc, hm, hs, ht⟩⟩ i (by omega)
    rw [hj, e]
theorem RowsS.apart {base : Nat} {w : World} {v u : Value} {vals : List Value} {n : Nat} {xs : List Int} (h : w.ownsRow base 22 1 v n vals) (R : ResS base w u xs) : ∀ g, u.ownBlock = some g → some g ≠ v.ownBlock := by
  intro g hg he
  obtain ⟨_, m2⟩ := h
  obtain ⟨_, r2⟩ := R.num
  rcases r2 with ⟨rfl, _⟩ | ⟨r, cap, cur, rfl, _, hh, _⟩
  · cases hg
  · simp [Value.ownBlock] at hg
    subst hg
    rcases m2 with ⟨rfl, _⟩ | ⟨q, cap2, cur2, rfl, _, hh2, _⟩
    · cases he
    · simp [Value.ownBlock] at he
      subst he
      have := hh.symm.trans hh2
      simp at this
theorem pushRow {base : Nat} {w wr w1 : World} {v v' u : Value} {L : List (List Int)} {vals : List Value} {xs : List Int} {o : Obj} (hb : Below base w wr) (hbase : base ≤ wr.heap.size) (hown : wr.ownsRow base 22 1 v vals.length vals) (hlen : vals.length = L.length) (hall : ∀ i, i < L.length → ∃ u, vals[i]? = some u ∧ ResS base wr u (L.getD i [])) (R : ResS base wr u xs)
    (hown' : w1.ownsRow base 22 1 v' (vals.length + 1) (vals ++ [u])) (hgrow : (wr.alloc o).grownBy w1 v.ownBlock) : RowsS base w1 v' (L ++ [xs]) ∧ Below base w w1 := by
  have hr : ∀ {x : Value} {zs : List Int}, ResS base wr x zs → ResS base w1 x zs := fun h => (h.later ((Below.refl wr.heap.size wr).alloc (Nat.le_refl _) o)).grown hgrow (RowsS.apart hown h)
  refine ⟨⟨vals ++ [u], by rw [List.length_append]; exact hown', by simp [hlen], fun i hi => ?_⟩, (hb.alloc hbase o).grown hgrow (by simp; omega) (fun k hk => (World.ownsRow.lt hown k hk).1)⟩
  rw [List.length_append] at hi
  simp only [List.length_cons, List.length_nil] at hi
  by_cases hlt : i < L.length
  · obtain ⟨x, e, hx⟩ := hall i hlt
    refine ⟨x, by rw [List.getElem?_append_left (by omega)]; exact e, ?_⟩
    rw [List.getD_eq_getElem?_getD, List.getElem?_append_left hlt, ← List.getD_eq_getElem?_getD]
    exact hr hx
  · obtain rfl : i = L.length := by omega
    refine ⟨u, by rw [List.getElem?_append_right (by omega), ← hlen]; simp, ?_⟩
    rw [List.getD_eq_getElem?_getD, List.getElem?_append_right (Nat.le_refl _)]
    simpa using hr R
end
section
open Go.RowKit
set_option linter.unusedVariables false
set_option linter.unusedSimpArgs false
/-- append(nil, b..) -/
theorem step_copyS {ops : Array Oper} {rest : List Oper} {o : Oper} {a : Act} {w : World} {Q : Exit → Act → World → Prop} (hg : o.guard = none) (t : Nat) (T : TypeId) (hT : Tryz.prog.underlying T = some (.slice 3))
    (hop : o.op = Op.call { callee := Callee.builtin Builtin.append, args := #[Operand.const (.slice none 0 0), Operand.tmp t], argTypes := #[T, T] }) {xs : List Int} {ad : Option Addr} {cap : Nat} {u : Value} (hx : a.eval (.tmp t) = u)
    (hA : ArgS w u xs ad cap) (hn : ad = none → cap = 0) (hl : xs.length ≤ 17592186044416)
    (h : ∀ v' w1, ResS w.heap.size w1 v' xs → Below w.heap.size w w1 → wpList Tryz.prog ops Q rest (a.put o.dst v') w1) : wpList Tryz.prog ops Q (o :: rest) a w := by
  obtain ⟨i0, hi, hz0, hz1, hz2⟩ := info_parts infoS
  have hnil := World.ownsRow_nil w w.heap.size 3 1
  obtain ⟨rfl, lx, hle, wx⟩ := hA
  cases ad with
  | none =>
    have hc := hn rfl
    subst hc
    have hxs : xs = [] := List.eq_nil_of_length_eq_zero (by omega)
    subst hxs
    exact wpList_append_own_none hg (.const (.slice none 0 0)) (.tmp t) T hop w.heap.size 3 i0 1 hT hi (.slice none 0 0) 0 [] rfl hnil hx (h _ _ ⟨hnil, wx⟩ (Below.refl _ _))
  | some ad =>
    refine wpList_append_own w hg (.const (.slice none 0 0)) (.tmp t) T hop w.heap.size 3 i0 (.int .i64 0) 1 8 hT hi hz0 hz1 hz2 rfl (by decide) (.slice none 0 0) 0 [] rfl hnil ad xs.length cap (xs.map (Value.int .i64)) hx (by simp) (cells_argS (cap := cap) lx) (ints_oneCell _ _) (by unfold maxLen; omega) (by omega) (Nat.le_refl _) ?_
    intro v' w1 hown hgrow _
    refine h v' w1 ⟨?_, wx⟩ ((Below.refl _ w).grown hgrow (Nat.le_refl _) (fun k hk => by cases hk))
    unfold NumS
    simpa using hown
theorem zeros_wid (n : Nat) : Wid (List.replicate n 0) := fun x hx => by rw [List.eq_of_mem_replicate hx]; omega
theorem inS_wid {s xs : List Int} (h : inS s xs) (hs : Wid s) : Wid xs := by
  intro x hx
  obtain ⟨i, hi, rfl⟩ := List.getElem_of_mem hx
  have hl := inS_length h
  have h1 := inS_at h (i := i) (by omega)
  have h2 := hs.getD i
  have e : xs.getD i 0 = xs[i] := by simp [hi]
  rw [e] at h1
  omega
/-- the list behind the rounds of Next -/
theorem back_at {xs : List Int} {L m : Nat} (hl : xs.length = L) (hm : m < L) : (xs.take (m + 1) ++ List.replicate (L - (m + 1)) 0).length = L ∧ (xs.take (m + 1) ++ List.replicate (L - (m + 1)) (0 : Int)).getD m 0 = xs.getD m 0 ∧
    ∀ y : Int, (xs.take (m + 1) ++ List.replicate (L - (m + 1)) (0 : Int)).set m y = xs.take m ++ (y :: List.replicate (L - (m + 1)) 0) := by
  have h1 : (xs.take (m + 1)).length = m + 1 := by rw [List.length_take]; omega
  refine ⟨by rw [List.length_append, h1, List.length_replicate]; omega, ?_, fun y => ?_⟩
  · rw [List.getD_eq_getElem?_getD, List.getElem?_append_left (by omega), List.getElem?_take, if_pos (by omega), List.getD_eq_getElem?_getD]
  · rw [take_next (by omega), List.append_assoc, List.set_append_right _ _ (by rw [List.length_take]; omega), List.length_take, Nat.min_eq_left (by omega), Nat.sub_self]
    rfl
/-- what Next answers -/
def NextP (base : Nat) (w : World) (s xs : List Int) (r : Value) (t : Bool) : Prop := (∃ ys, nextS s xs = some ys ∧ t = true ∧ ResS base w r ys) ∨ (nextS s xs = none ∧ t = false)
def NextA (base : Nat) (w : World) (s xs : List Int) (e : Ending) : Prop := ∃ r t, e = .returned (.tuple #[r, .bool t]) ∧ NextP base w s xs r t
set_option maxRecDepth 100000 in
set_option maxHeartbeats 4000000 in
theorem nextR_any {u v : Value} {s xs : List Int} {a b : Option Addr} {ca cb : Nat} {w : World} (A : ArgS w u s a ca) (B : ArgS w v xs b cb) (hn : b = none → cb = 0) (ok : OkS s) (hin : inS s xs) :
    Calls Tryz.prog 102 #[u, v] w fun e w' => NextA w.heap.size w' s xs e ∧ Below w.heap.size w w' := by
  have HA := Lib.hid A
  have HB := Lib.hid B
  have HO := Lib.hid ok
  have HI := Lib.hid hin
  have hlen := inS_length hin
  have HN := Lib.hid hn
  have B' := B
  obtain rfl := A.is
  obtain rfl := B.is
  obtain ⟨L, hL⟩ : ∃ L, s.length = L := ⟨_, rfl⟩
  have hL2 : xs.length = L := by rw [hlen]; exact hL
  have HL := Lib.hid hL
  have HL2 := Lib.hid hL2
  have h4 : L ≤ 4 := by rw [← hL]; exact ok.rank
  rw [hL2] at B'
  rw [hL, hL2]
  clear A B ok hin hlen hn hL hL2
  go_enter Tryz.func102, Tryz.ntmps102
  go_wp2_with (at_builtin; refine step_copyS rfl _ 22 Tryz.underlying22 rfl rfl B' HN.out (by have := HL2.out; omega) ?_; intro r w1 R1 hb1)
  have hs1 := hb1.size
  rcases Nat.eq_zero_or_pos L with h0 | hpos
  · subst h0
    have e1 : s = [] := List.eq_nil_of_length_eq_zero HL.out
    have e2 : xs = [] := List.eq_nil_of_length_eq_zero HL2.out
    subst e1
    subst e2
    have HR := Lib.hid R1
    clear R1 B'
    go_wp2
    go_loop [7] (fun i => i = .int .i64 (-1)) (fun _ => 0)
    case atStart => first | rfl | trivial
    case round =>
      subst hrel
      go_wp2
      go_ret2
      exact ⟨⟨_, _, rfl, .inr ⟨rfl, rfl⟩⟩, hb1⟩
  · have hne : xs ≠ [] := by intro e; rw [e] at HL2; have := HL2.out; simp at this; omega
    obtain ⟨g, cap, rfl, hg, hcap, hP⟩ := R1.num.partS hne
    have hLI : (1 : Int) ≤ (L : Int) := by omega
    have hL4 : (L : Int) ≤ 4 := by omega
    have HCP := Lib.hid hcap
    have HP0 := Lib.hid hP
    have hLcap : (xs.length : Nat) = L := HL2.out
    rw [hLcap]
    clear R1 B' hne hP hcap hLcap
    go_wp2
    go_loopw [7] (fun i wr => ∃ j : Nat, i = .int .i64 ((j : Int) - 1) ∧ j ≤ L ∧ PartS wr g cap (xs.take j ++ List.replicate (L - j) 0) ∧ nextS (s.drop j) (xs.drop j) = none ∧ Below w.heap.size w wr) (fun i _ => (intOf i + 1).toNat)
    case atStart =>
      refine ⟨L, by go_num, Nat.le_refl _, ?_, ?_, hb1⟩
      · rw [take_all HL2.out, Nat.sub_self]; simpa using HP0.out
      · rw [List.drop_of_length_le (by rw [HL.out]; exact Nat.le_refl _)]; rfl
    case round =>
      obtain ⟨j, rfl, hjL, hp, hnx, hb⟩ := hrel
      have hsz := hb.size
      have HNX := Lib.hid hnx
      clear hnx
      rcases Nat.eq_zero_or_pos j with h0 | hj
      · subst h0
        have hi : (((0 : Nat) : Int) - 1) = -1 := by omega
        rw [hi]
        have HNX2 := Lib.hid (show nextS s xs = none by have := HNX.out; simpa using this)
        clear hp
        go_wp2
        go_ret2
        exact ⟨⟨_, _, rfl, .inr ⟨HNX2.out, rfl⟩⟩, hb⟩
      · obtain ⟨m, rfl⟩ : ∃ m, j = m + 1 := ⟨j - 1, by omega⟩
        have hi : (((m + 1 : Nat) : Int) - 1) = (m : Int) := by omega
        rw [hi]
        obtain ⟨l1, l2, l3⟩ := back_at (xs := xs) (L := L) (m := m) HL2.out (by omega)
        have hc := hp.cell m (by omega)
        have hf := hp.free m
        rw [l2] at hc
        obtain ⟨b1, o1, rfl, hc1⟩ := (HA.out.later hb).at (i := m) (by rw [HL.out]; omega)
        have hx := inS_at HI.out (i := m) (by rw [HL.out]; omega)
        have hle := getD_le_prod HO.out.pos (k := m) (by rw [HL.out]; omega)
        have hfew := HO.out.few
        have hnd := next_drop (s := s) (xs := xs) (by rw [HL.out, HL2.out]) (i := m) (by rw [HL.out]; omega) HNX.out
        obtain ⟨x, hxe⟩ : ∃ x, xs.getD m 0 = x := ⟨_, rfl⟩
        obtain ⟨d, hde⟩ : ∃ d, s.getD m 0 = d := ⟨_, rfl⟩
        rw [hxe] at hc hx hnd
        rw [hde] at hc1 hx hle hnd
        rw [HL.out] at hnd
        obtain ⟨hx0, hx1⟩ := hx
        have hdI : d ≤ 1024 := by omega
        have hmL : 0 ≤ (m : Int) ∧ (m : Int) < (L : Int) := by omega
        have hm0 : (0 : Int) ≤ (m : Int) := by omega
        have hmLI : (m : Int) < (L : Int) := by omega
        have HPT := Lib.hid hp
        have HL3 := Lib.hid l3
        have HL1 := Lib.hid l1
        have HND := Lib.hid hnd
        clear hxe hde hle hfew hnd hp l1 l2 l3
        by_cases hlt : x + 1 < d
        · have hset := HPT.out.set m (by rw [HL1.out]; omega) (x + 1)
          rw [HL3.out] at hset
          have hnext : nextS s xs = some (xs.take m ++ ((x + 1) :: List.replicate (L - (m + 1)) 0)) := by
            refine next_some (by rw [HL.out, HL2.out]) (by rw [HL.out]; omega) ?_
            rw [HND.out, if_pos hlt]
          have HSET := Lib.hid hset
          have HNE := Lib.hid hnext
          clear hset hnext
          go_wp2
          go_quiet (fail)
          go_wp2
          go_ret2
          refine ⟨⟨_, _, rfl, .inl ⟨_, HNE.out, rfl, ?_⟩⟩, ?_⟩
          · have hq : PartS ((wr.drewN nq).setCell ⟨g, m, none⟩ (.int .i64 (x + 1))) g cap (xs.take m ++ ((x + 1) :: List.replicate (L - (m + 1)) 0)) := by
              have h1 : PartS (wr.drewN nq) g cap (xs.take (m + 1) ++ List.replicate (L - (m + 1)) 0) := HPT.out.same rfl
              have h2 := h1.set m (by rw [HL1.out]; omega) (x + 1)
              rwa [HL3.out] at h2
            have hlen : (xs.take m ++ ((x + 1) :: List.replicate (L - (m + 1)) 0)).length = L := by
              have := HL1.out
              have h3 := congrArg List.length (HL3.out (x + 1))
              rw [List.length_set] at h3
              omega
            have hnum := hq.num hg HCP.out
            rw [hlen] at hnum
            refine ⟨hnum, ?_⟩
            have hw1 : Wid xs := HB.out.wf
            refine (hw1.take m).append ?_
            intro y hy
            rcases List.mem_cons.1 hy with h | h
            · omega
            · exact zeros_wid _ y h
          · exact (hb.trans (belowS_drew _ _ _)).setCell (p := ⟨g, m, none⟩) hg _
        · have hset := HPT.out.set m (by rw [HL1.out]; omega) 0
          rw [HL3.out] at hset
          go_wp2
          go_quiet (fail)
          go_wp2
          go_roundw
          case rel =>
            refine ⟨m, by go_num, by omega, ?_, by rw [HND.out, if_neg (by omega)], (hb.trans (belowS_drew _ _ _)).setCell (p := ⟨g, m, none⟩) hg _⟩
            have h1 : PartS (wr.drewN nq) g cap (xs.take (m + 1) ++ List.replicate (L - (m + 1)) 0) := HPT.out.same rfl
            have h2 := h1.set m (by rw [HL1.out]; omega) 0
            rw [HL3.out] at h2
            rw [show L - m = (L - (m + 1)) + 1 by omega, List.replicate_succ]
            exact h2
          case measure => simp [intOf] <;> omega
end
section
open Go.RowKit
set_option linter.unusedVariables false
set_option linter.unusedSimpArgs false
theorem make_runS (n : Nat) (hc : n ≤ 17592186044416) (w : World) :
    (Instr.makeSlice 22 (.int .i64 (n : Int)) (.int .i64 (n : Int))).run Tryz.prog w = .ok (.slice (some ⟨w.heap.size, 0, none⟩) n n) (w.alloc (.cells (madeCells #[.int .i64 0] n) 3)) := by
  obtain ⟨i0, hi, hz0, hz1, hz2⟩ := info_parts infoS
  have h := run_make (P := Tryz.prog) w 22 3 i0 (.int .i64 0) Tryz.underlying22 hi hz0 .i64 .i64 n n (by omega) (by omega) (by rw [hz2]; omega) (by omega)
  simpa [hz1, Value.cells] using h
theorem zeroS (base : Nat) (w : World) (n : Nat) (hb : base ≤ w.heap.size) (hn : n ≤ 17592186044416) : ResS base (w.alloc (.cells (madeCells #[.int .i64 0] n) 3)) (.slice (some ⟨w.heap.size, 0, none⟩) n n) (List.replicate n 0) := by
  have := NumS.ofBlk (BlkS.made w n) hb n (by simp) (by simp; unfold maxLen; omega)
  rw [List.length_replicate, List.take_of_length_le (by simp)] at this
  exact ⟨this, zeros_wid n⟩
/-- the first k indexes -/
def allS (s : List Int) (k : Nat) : List (List Int) := (List.range k).map fun i : Nat => idxS s (i : Int)
theorem allS_length (s : List Int) (k : Nat) : (allS s k).length = k := by simp [allS]
theorem allS_at (s : List Int) {k i : Nat} (h : i < k) : (allS s k).getD i [] = idxS s (i : Int) := by
  unfold allS
  rw [List.getD_eq_getElem?_getD, List.getElem?_map, List.getElem?_range h]; rfl
theorem allS_next (s : List Int) (k : Nat) : allS s (k + 1) = allS s k ++ [idxS s (k : Int)] := by
  unfold allS
  rw [List.range_succ, List.map_append]; rfl
theorem rowsOne {base : Nat} {w : World} {u : Value} {xs : List Int} (R : ResS base w u xs) (hb : base ≤ w.heap.size) : RowsS base (w.alloc (.cells #[u] 22)) (.slice (some ⟨w.heap.size, 0, none⟩) 1 1) [xs] := by
  refine ⟨[u], ?_, rfl, fun i hi => ?_⟩
  · exact ⟨rfl, .inr ⟨w.heap.size, 1, #[u], rfl, hb, heap_alloc_new w _, Nat.le_refl _, by unfold maxLen; omega, by simp, by simp⟩⟩
  · simp only [List.length_cons, List.length_nil] at hi
    obtain rfl : i = 0 := by omega
    exact ⟨u, rfl, R.later ((Below.refl _ _).alloc (Nat.le_refl _) _)⟩
set_option maxRecDepth 100000 in
set_option maxHeartbeats 4000000 in
theorem indexesR_any {u : Value} {s : List Int} {a : Option Addr} {ca : Nat} {w : World} (A : ArgS w u s a ca) (ok : OkS s) :
    Calls Tryz.prog 64 #[u] w fun e w' => ∃ r, e = .returned r ∧ RowsS w.heap.size w' r (allS s (prodS s).toNat) ∧ Below w.heap.size w w' := by
  obtain ⟨i0, hi, hz0, hz1, hz2⟩ := info_parts infoSl
  have HA := Lib.hid A
  have HO := Lib.hid ok
  have h4 := ok.rank
  have hP1 := prodS_pos ok.pos
  have hP2 := ok.few
  obtain rfl := A.is
  obtain ⟨L, hL⟩ : ∃ L, s.length = L := ⟨_, rfl⟩
  have HL := Lib.hid hL
  obtain ⟨P, hP⟩ : ∃ P : Nat, (prodS s).toNat = P := ⟨_, rfl⟩
  have hPI : prodS s = (P : Int) := by omega
  have HPI := Lib.hid hPI
  have hP3 : 1 ≤ P := by omega
  have hP4 : P ≤ 1024 := by omega
  have hmk := make_runS L (by omega)
  rw [hL] at h4 ⊢
  rw [hP]
  have hz1 : ∀ h1 : i0.size = 1, True := fun _ => trivial
  have ok1 : RowsS w.heap.size ((w.alloc (.cells (madeCells #[.int .i64 0] L) 3)).alloc (.cells #[.slice (some ⟨w.heap.size, 0, none⟩) L L] 22)) (.slice (some ⟨w.heap.size + 1, 0, none⟩) 1 1) (allS s 1) := by
    have h := rowsOne (zeroS w.heap.size w L (Nat.le_refl _) (by omega)) (by simp)
    have e : allS s 1 = [List.replicate L 0] := by
      show [idxS s ((0 : Nat) : Int)] = _
      rw [show ((0 : Nat) : Int) = 0 from rfl, idx_zero, hL]
    rw [e]
    simpa using h
  have OK1 := Lib.hid ok1
  have hb1 : Below w.heap.size w ((w.alloc (.cells (madeCells #[.int .i64 0] L) 3)).alloc (.cells #[.slice (some ⟨w.heap.size, 0, none⟩) L L] 22)) := ((Below.refl _ w).alloc (Nat.le_refl _) _).alloc (by simp) _
  have HB1 := Lib.hid hb1
  clear A ok hL hP hPI hP1 hP2 hz1 ok1 hb1
  obtain ⟨i0, hi, hz0, hz1, hz2⟩ := info_parts infoSl
  go_enter Tryz.func64, Tryz.ntmps64
  go_wp2
  go_loopw [3] (fun v wr => ∃ k : Nat, 1 ≤ k ∧ k ≤ P ∧ RowsS w.heap.size wr v (allS s k) ∧ Below w.heap.size w wr) (fun v _ => P - (match v with | .slice _ n _ => n | _ => 0))
  case atStart => exact ⟨1, Nat.le_refl _, hP3, OK1.out, HB1.out⟩
  case round =>
    obtain ⟨k, hk1, hkP, R, hb⟩ := hrel
    have hsz := hb.size
    obtain ⟨g, cap, rfl, hg, hkc, hcap, hcells⟩ := R.slice (by intro e; have := congrArg List.length e; rw [allS_length] at this; simp at this; omega)
    rw [allS_length] at hkc hcells R ⊢
    obtain ⟨m, rfl⟩ : ∃ m, k = m + 1 := ⟨k - 1, by omega⟩
    obtain ⟨uv, hcu, RU⟩ := hcells m (by omega)
    rw [allS_at s (by omega)] at RU
    obtain ⟨bd, cb, rfl, RU', BU, hbn⟩ := RU.slice
    obtain ⟨hin, hpl⟩ := place_idx HO.out.pos (n := (m : Int)) (by omega) (by rw [HPI.out]; omega)
    have hnext := nextR_any (HA.out.later hb) BU hbn HO.out hin
    obtain ⟨n1, n2⟩ := next_idx hin
    rw [hpl, HPI.out] at n1 n2
    have hil : (idxS s (m : Int)).length = L := by rw [idx_length, HL.out]
    rw [hil] at hnext hcu
    rw [HL.out] at hnext
    have hmI : ((m + 1 : Nat) : Int) - 1 = (m : Int) := by omega
    have hmi2 : (m : Int) < ((m + 1 : Nat) : Int) := by omega
    have hm0 : (0 : Int) ≤ (m : Int) := by omega
    have HR := Lib.hid R
    have HN1 := Lib.hid n1
    have HN2 := Lib.hid n2
    clear R RU RU' BU hcells hpl hin n1 n2 hil hbn
    go_wp2_with fail
    refine hnext.mono ?_
    rintro e w2 ⟨⟨r2, t2, rfl, hnp⟩, hb2⟩
    have hB2 := hb.trans (hb2.mono hsz)
    have hs2 := hB2.size
    by_cases hlt : m + 1 < P
    · have hsome := HN1.out (by omega)
      have hr2 : t2 = true ∧ ResS w.heap.size w2 r2 (idxS s ((m + 1 : Nat) : Int)) := by
        rcases hnp with ⟨ys, h1, h2, h3⟩ | ⟨h1, _⟩
        · rw [hsome] at h1
          obtain rfl := Option.some.inj h1
          exact ⟨h2, by have := h3.mono hsz; simpa using this⟩
        · rw [hsome] at h1; cases h1
      obtain ⟨rfl, RR⟩ := hr2
      obtain ⟨bd2, cb2, rfl, RR', _, _⟩ := RR.slice
      obtain ⟨vals, v1, v2, v3⟩ := HR.out.later hb2
      have hvl : vals.length = m + 1 := by rw [v2, allS_length]
      rw [hvl] at v1
      have hl2 : (idxS s ((m + 1 : Nat) : Int)).length = L := by rw [idx_length, HL.out]
      rw [hl2] at RR'
      rw [hl2]
      have HV := Lib.hid (And.intro v1 (And.intro v2 v3))
      have HRR := Lib.hid RR'
      have hml : m + 1 ≤ 1024 := by omega
      clear hnp hsome RR v2 v3 hnext hl2 RR'
      go_wp2_with (at_builtin; refine wpList_append_own _ rfl _ _ 94 rfl w.heap.size 22 i0 (.slice none 0 0) 1 24 Tryz.underlying94 hi hz0 hz1 hz2 rfl (by decide) _ _ _ rfl (v1.alloc _) ⟨w2.heap.size, 0, none⟩ 1 1 [.slice bd2 L cb2] rfl rfl (cell_one_new _ _ _) (by simp [Value.oneCell']) (by unfold maxLen; omega) (by omega) (by simp; omega) ?_; intro v' w3 hown' hgrow _)
      obtain ⟨v1, v2, v3⟩ := HV.out
      have hpush := pushRow (xs := idxS s ((m + 1 : Nat) : Int)) hB2 hs2 (by rw [hvl]; exact v1) v2 v3 HRR.out (by rw [hvl]; exact hown') hgrow
      rw [← allS_next] at hpush
      obtain ⟨hrow, hb3⟩ := hpush
      obtain ⟨g3, c3, rfl, _⟩ := hrow.slice (by intro e; have := congrArg List.length e; rw [allS_length] at this; simp at this)
      rw [allS_length] at hrow ⊢
      go_roundw
      case rel => exact ⟨m + 1 + 1, by omega, by omega, hrow, hb3⟩
      case measure => simp; omega
    · have hnone := HN2.out (by omega)
      obtain rfl : t2 = false := by
        rcases hnp with ⟨ys, h1, _⟩ | ⟨_, h2⟩
        · rw [hnone] at h1; cases h1
        · exact h2
      obtain rfl : P = m + 1 := by omega
      have HQ := Lib.hid (HR.out.later hb2)
      clear hnp hnone hnext
      go_wp2
      go_ret
      exact ⟨_, rfl, HQ.out, hB2⟩
/-- why an index has no place: 0, or an error; its place -/
def offC (s xs : List Int) : Int := if mayC s ≠ 0 then mayC s else if xs.length ≠ s.length then 2 else if inS s xs then 0 else 21
def offV (s xs : List Int) : Int := if offC s xs = 0 then placeS s xs else 0
theorem offC_may {s xs : List Int} (h : mayC s ≠ 0) : offC s xs = mayC s := by unfold offC; rw [if_pos h]
theorem offC_arg {s xs : List Int} (h : mayC s = 0) (h2 : xs.length ≠ s.length) : offC s xs = 2 := by unfold offC; rw [if_neg (by rw [h]; simp), if_pos h2]
theorem offC_in {s xs : List Int} (h : mayC s = 0) (h3 : inS s xs) : offC s xs = 0 := by unfold offC; rw [if_neg (by rw [h]; simp), if_neg (by rw [inS_length h3]; simp), if_pos h3]
theorem offC_out {s xs : List Int} (h : mayC s = 0) (h2 : xs.length = s.length) (h3 : ¬ inS s xs) : offC s xs = 21 := by unfold offC; rw [if_neg (by rw [h]; simp), if_neg (by rw [h2]; simp), if_neg h3]
theorem offV_in {s xs : List Int} (h : mayC s = 0) (h3 : inS s xs) : offV s xs = placeS s xs := by unfold offV; rw [if_pos (offC_in h h3)]
theorem offV_bad {s xs : List Int} (h : offC s xs ≠ 0) : offV s xs = 0 := by unfold offV; rw [if_neg h]
theorem offC_zero {s xs : List Int} (h : offC s xs = 0) : OkS s ∧ inS s xs := by
  by_cases h1 : mayC s = 0
  · by_cases h2 : xs.length = s.length
    · by_cases h3 : inS s xs
      · exact ⟨mayC_zero.1 h1, h3⟩
      · rw [offC_out h1 h2 h3] at h; cases h
    · rw [offC_arg h1 h2] at h; cases h
  · rw [offC_may h1] at h; exact absurd h h1
set_option maxRecDepth 100000 in
set_option maxHeartbeats 4000000 in
theorem offsetR_any {u v : Value} {s xs : List Int} {a b : Option Addr} {ca cb : Nat} {w : World} (A : ArgS w u s a ca) (B : ArgS w v xs b cb) :
    Calls Tryz.prog 29 #[u, v] w fun e w' => e = .returned (.tuple #[.int .i64 (offV s xs), .int .i64 (offC s xs)]) ∧ Below w.heap.size w w' := by
  have hm := mayR6_any A
  by_cases h0 : mayC s = 0
  · have ok := mayC_zero.1 h0
    rw [h0] at hm
    by_cases hl : xs.length = s.length
    · have hix := indexesR_any A ok
      have hP1 := prodS_pos ok.pos
      have hP2 := ok.few
      obtain ⟨c, hc⟩ : ∃ c, offC s xs = c := ⟨_, rfl⟩
      obtain ⟨o, ho⟩ : ∃ o, offV s xs = o := ⟨_, rfl⟩
      have hin : inS s xs → c = 0 ∧ o = placeS s xs := fun h => ⟨by rw [← hc, offC_in h0 h], by rw [← ho, offV_in h0 h]⟩
      have hout : ¬ inS s xs → c = 21 ∧ o = 0 := fun h => by
        have e := offC_out h0 hl h
        exact ⟨by rw [← hc, e], by rw [← ho, offV_bad (by rw [e]; decide)]⟩
      have HIN := Lib.hid hin
      have HOUT := Lib.hid hout
      have HO := Lib.hid ok
      have HB := Lib.hid B
      rw [hc, ho]
      obtain rfl := A.is
      obtain rfl := B.is
      obtain ⟨L, hL⟩ : ∃ L, s.length = L := ⟨_, rfl⟩
      obtain ⟨P, hP⟩ : ∃ P : Nat, (prodS s).toNat = P := ⟨_, rfl⟩
      have HPI := Lib.hid (show prodS s = (P : Int) by omega)
      have hP3 : 1 ≤ P := by omega
      have hP4 : P ≤ 1024 := by omega
      have HXL := Lib.hid (show xs.length = L by rw [hl, hL])
      have HSL := Lib.hid hL
      have hL4 : L ≤ 4 := by rw [← hL]; exact ok.rank
      rw [hL] at hm hix
      rw [hP] at hix
      rw [hl, hL]
      clear A B ok hc ho hin hout hL hP hP1 hP2 h0 hl
      have hne : ((L : Int) != (L : Int)) = false := by simp
      go_enter Tryz.func29, Tryz.ntmps29
      go_wp2_with fail
      refine hm.mono ?_
      rintro e w1 ⟨rfl, rfl⟩
      clear hm
      go_wp2_with fail
      refine hix.mono ?_
      rintro e w2 ⟨r2, rfl, R, hb2⟩
      clear hix
      obtain ⟨g, cap, rfl, hg, hkc, hcap, hcells⟩ := R.slice (by intro e; have := congrArg List.length e; rw [allS_length] at this; simp at this; omega)
      rw [allS_length] at hkc hcells R ⊢
      have HR := Lib.hid R
      clear R hcells hcap hkc
      go_wp2
      go_loopw [8] (fun i wr => ∃ k : Nat, i = .int .i64 (k : Int) ∧ k ≤ P ∧ (∀ j, j < k → idxS s (j : Int) ≠ xs) ∧ Below w2.heap.size w2 wr) (fun i _ => P - (intOf i).toNat)
      case atStart => exact ⟨0, rfl, Nat.zero_le _, (fun j h => by omega), Below.refl _ _⟩
      case round =>
        obtain ⟨k, rfl, hkP, hp, hb⟩ := hrel
        have HP := Lib.hid hp
        have hB := hb2.trans (hb.mono hb2.size)
        clear hp
        by_cases hlt : k < P
        · obtain ⟨g', cap', e', _, _, _, hcells⟩ := (HR.out.later hb).slice (by intro e; have := congrArg List.length e; rw [allS_length] at this; simp at this; omega)
          simp only [Value.slice.injEq, Option.some.injEq, Addr.mk.injEq, and_true, true_and] at e'
          obtain ⟨rfl, hxx, rfl⟩ := e'
          clear hxx
          rw [allS_length] at hcells
          obtain ⟨uv, hcu, RU⟩ := hcells k hlt
          rw [allS_at s hlt] at RU
          obtain ⟨bd, cb2, rfl, RU', BU, hbn⟩ := RU.slice
          have hil : (idxS s (k : Int)).length = L := by rw [idx_length]; exact HSL.out
          have hsame := sameL_any BU (HB.out.later hB) (by rw [hil]; omega)
          rw [hil] at hsame hcu
          rw [HXL.out] at hsame
          have hltI : (k : Int) < (P : Int) := by omega
          have hk0 : (0 : Int) ≤ (k : Int) := by omega
          clear RU RU' BU hbn hcells hil
          by_cases heq : idxS s (k : Int) = xs
          · rw [decide_eq_true heq] at hsame
            obtain ⟨h1, h2⟩ := place_idx HO.out.pos (n := (k : Int)) (by omega) (by rw [HPI.out]; omega)
            rw [heq] at h1 h2
            obtain ⟨hc0, ho0⟩ := HIN.out h1
            rw [h2] at ho0
            subst hc0
            subst ho0
            clear heq h1 h2
            go_wp2_with (go_at_call 65; refine hsame.mono ?_; rintro e w3 ⟨rfl, hb3⟩)
            go_ret2
            exact ⟨rfl, hB.trans (hb3.mono hB.size)⟩
          · rw [decide_eq_false heq] at hsame
            have HNE := Lib.hid heq
            clear heq
            go_wp2_with (go_at_call 65; refine hsame.mono ?_; rintro e w3 ⟨rfl, hb3⟩)
            go_roundw
            case rel =>
              refine ⟨k + 1, by go_num, by omega, fun j hj => ?_, hb.trans (hb3.mono hb.size)⟩
              by_cases hjk : j = k
              · subst hjk; exact HNE.out
              · exact HP.out j (by omega)
            case measure => simp [intOf]; omega
        · obtain rfl : k = P := by omega
          have hno : ¬ inS s xs := by
            intro h
            obtain ⟨h1, h2⟩ := place_range h
            rw [HPI.out] at h2
            refine HP.out (placeS s xs).toNat (by omega) ?_
            rw [show (((placeS s xs).toNat : Nat) : Int) = placeS s xs by omega]
            exact idx_place h
          obtain ⟨rfl, rfl⟩ := HOUT.out hno
          have hltI : ¬ (k : Int) < (k : Int) := by omega
          clear hno
          go_wp2
          go_ret2
          exact ⟨rfl, hB⟩
    · have hc := offC_arg h0 hl
      have ho : offV s xs = 0 := offV_bad (by rw [hc]; decide)
      rw [hc, ho]
      obtain rfl := A.is
      obtain rfl := B.is
      obtain ⟨L, hL⟩ : ∃ L, s.length = L := ⟨_, rfl⟩
      obtain ⟨M, hM⟩ : ∃ M, xs.length = M := ⟨_, rfl⟩
      rw [hL, hM] at hl ⊢
      rw [hL] at hm
      have hne : ((M : Int) != (L : Int)) = true := by rw [bne_iff_ne]; omega
      clear A B ok hc ho hL hM h0
      go_enter Tryz.func29, Tryz.ntmps29
      go_wp2_with fail
      refine hm.mono ?_
      rintro e w1 ⟨rfl, rfl⟩
      clear hm
      go_wp2
      go_ret2
      exact ⟨rfl, Below.refl _ _⟩
  · have hc := offC_may (xs := xs) h0
    have ho : offV s xs = 0 := offV_bad (by rw [hc]; exact h0)
    rw [hc, ho]
    obtain ⟨c, hcc⟩ : ∃ c, mayC s = c := ⟨_, rfl⟩
    rw [hcc] at hm h0 ⊢
    have hne : (c != 0) = true := bne_iff_ne.2 h0
    clear hc ho hcc h0 A B
    go_enter Tryz.func29, Tryz.ntmps29
    go_wp2_with fail
    refine hm.mono ?_
    rintro e w1 ⟨rfl, rfl⟩
    clear hm
    go_wp2
    go_ret2
    exact ⟨rfl, Below.refl _ _⟩
end
section
set_option linter.unusedVariables false
set_option linter.unusedSimpArgs false
def strideL (s : List Int) : List Int := (List.range s.length).map fun i : Nat => prodS (s.drop (i + 1))
def strideS (s : List Int) : List Int := if mayC s = 0 then strideL s else []
theorem strideL_length (s : List Int) : (strideL s).length = s.length := by simp [strideL]
theorem strideL_at (s : List Int) {i : Nat} (h : i < s.length) : (strideL s).getD i 0 = prodS (s.drop (i + 1)) := by
  unfold strideL
  rw [List.getD_eq_getElem?_getD, List.getElem?_map, List.getElem?_range h]; rfl
theorem strideS_ok {s : List Int} (h : mayC s = 0) : strideS s = strideL s := by unfold strideS; rw [if_pos h]
theorem strideS_bad {s : List Int} (h : mayC s ≠ 0) : strideS s = [] := by unfold strideS; rw [if_neg h]
/-- why a place has no index: 0, or an error; its index -/
def idxC (s : List Int) (n : Int) : Int := if mayC s ≠ 0 then mayC s else if n < 0 ∨ countS s ≤ n then 21 else 0
def idxV (s : List Int) (n : Int) : List Int := if idxC s n = 0 then idxS s n else []
theorem idxC_may {s : List Int} {n : Int} (h : mayC s ≠ 0) : idxC s n = mayC s := by unfold idxC; rw [if_pos h]
theorem idxC_out {s : List Int} {n : Int} (h : mayC s = 0) (h2 : n < 0 ∨ countS s ≤ n) : idxC s n = 21 := by unfold idxC; rw [if_neg (by rw [h]; simp), if_pos h2]
theorem idxC_in {s : List Int} {n : Int} (h : mayC s = 0) (h2 : 0 ≤ n) (h3 : n < prodS s) : idxC s n = 0 := by
  unfold idxC
  rw [if_neg (by rw [h]; simp), if_neg (by rw [(mayC_zero.1 h).count]; omega)]
theorem idxV_in {s : List Int} {n : Int} (h : idxC s n = 0) : idxV s n = idxS s n := by unfold idxV; rw [if_pos h]
theorem idxV_bad {s : List Int} {n : Int} (h : idxC s n ≠ 0) : idxV s n = [] := by unfold idxV; rw [if_neg h]
def permC (p : List Int) (rank : Int) : Int := if permB p rank = true then 0 else 11
def invL (p : List Int) : List Int := (List.range p.length).map fun i : Nat => (p.idxOf (i : Int) : Int)
def invV (p : List Int) : List Int := if permB p p.length = true then invL p else []
def axesC (l : List Int) (rank : Int) : Int := if axesB l rank = true then 0 else 11
end
section
set_option linter.unusedVariables false
set_option linter.unusedSimpArgs false
theorem perm_of_all {p q : List Int} (hq : q.Nodup) (hs : ∀ x, x ∈ q → x ∈ p) (hl : p.length ≤ q.length) : p.Perm q := by
  induction q generalizing p with
  | nil =>
    obtain rfl := List.eq_nil_of_length_eq_zero (show p.length = 0 by simpa using hl)
    exact List.Perm.refl _
  | cons a q ih =>
    obtain ⟨l1, l2, rfl⟩ := List.append_of_mem (hs a (List.mem_cons_self ..))
    rw [List.nodup_cons] at hq
    have h2 := ih (p := l1 ++ l2) hq.2 (fun x hx => by
      have := hs x (List.mem_cons_of_mem _ hx)
      have hne : x ≠ a := fun e => hq.1 (e ▸ hx)
      rcases List.mem_append.1 this with h | h
      · exact List.mem_append.2 (.inl h)
      · rcases List.mem_cons.1 h with h | h
        · exact absurd h hne
        · exact List.mem_append.2 (.inr h)) (by simp only [List.length_append, List.length_cons] at hl ⊢; omega)
    exact (List.perm_middle).trans (List.Perm.cons a h2)
def upS (n : Nat) : List Int := (List.range n).map fun i : Nat => (i : Int)
theorem upS_length (n : Nat) : (upS n).length = n := by simp [upS]
theorem mem_upS {n : Nat} {x : Int} : x ∈ upS n ↔ 0 ≤ x ∧ x < n := by
  unfold upS
  rw [List.mem_map]
  constructor
  · rintro ⟨i, hi, rfl⟩
    rw [List.mem_range] at hi
    omega
  · intro h
    exact ⟨x.toNat, List.mem_range.2 (by omega), by omega⟩
theorem upS_nodup (n : Nat) : (upS n).Nodup := by
  unfold upS
  induction n with
  | zero => simp
  | succ n ih =>
    rw [List.range_succ, List.map_append, List.nodup_append]
    refine ⟨ih, by simp, fun a ha b hb => ?_⟩
    simp only [List.map_cons, List.map_nil, List.mem_singleton] at hb
    rw [List.mem_map] at ha
    obtain ⟨i, hi, rfl⟩ := ha
    rw [List.mem_range] at hi
    omega
structure IsPerm (p : List Int) : Prop where
  nodup : p.Nodup
  mem : ∀ x, x ∈ p ↔ 0 ≤ x ∧ x < p.length
theorem permB_is {p : List Int} {r : Int} (h : permB p r = true) : IsPerm p ∧ (p.length : Int) = max r 0 := by
  unfold permB at h
  rw [Bool.and_eq_true, decide_eq_true_iff, decide_eq_true_iff] at h
  have hp := perm_of_all (upS_nodup p.length) (fun x hx => by
    rw [mem_upS] at hx
    have := h.1 x.toNat (by omega)
    rwa [show ((x.toNat : Nat) : Int) = x by omega] at this) (by rw [upS_length]; exact Nat.le_refl _)
  exact ⟨⟨hp.nodup_iff.2 (upS_nodup _), fun x => by rw [hp.mem_iff, mem_upS]⟩, h.2⟩
theorem is_permB {p : List Int} (h : IsPerm p) : permB p p.length = true := by
  unfold permB
  rw [Bool.and_eq_true, decide_eq_true_iff, decide_eq_true_iff]
  exact ⟨fun n hn => (h.mem _).2 (by omega), by omega⟩
theorem invL_length (p : List Int) : (invL p).length = p.length := by simp [invL]
theorem invL_at (p : List Int) {i : Nat} (h : i < p.length) : (invL p).getD i 0 = (p.idxOf (i : Int) : Int) := by
  unfold invL
  rw [List.getD_eq_getElem?_getD, List.getElem?_map, List.getElem?_range h]; rfl
theorem getD_elem {p : List Int} {i : Nat} (h : i < p.length) : p.getD i 0 = p[i] := by simp [List.getD_eq_getElem?_getD, List.getElem?_eq_getElem h]
theorem IsPerm.back {p : List Int} (h : IsPerm p) {i : Nat} (hi : i < p.length) : (0 ≤ p.getD i 0 ∧ p.getD i 0 < p.length) ∧ (invL p).getD (p.getD i 0).toNat 0 = (i : Int) := by
  have hm := (h.mem (p.getD i 0)).1 (by rw [getD_elem hi]; exact List.getElem_mem hi)
  refine ⟨hm, ?_⟩
  rw [invL_at p (by omega), show (((p.getD i 0).toNat : Nat) : Int) = p.getD i 0 by omega, getD_elem hi, h.nodup.idxOf_getElem]
theorem IsPerm.inv {p : List Int} (h : IsPerm p) : IsPerm (invL p) := by
  have hall : ∀ x, x ∈ upS p.length → x ∈ invL p := fun x hx => by
    rw [mem_upS] at hx
    obtain ⟨h1, h2⟩ := h.back (i := x.toNat) (by omega)
    have hlt : (p.getD x.toNat 0).toNat < (invL p).length := by rw [invL_length]; omega
    have := List.getElem_mem hlt
    rw [← getD_elem hlt, h2] at this
    rwa [show ((x.toNat : Nat) : Int) = x by omega] at this
  have hp := perm_of_all (upS_nodup p.length) hall (by rw [upS_length, invL_length]; exact Nat.le_refl _)
  exact ⟨hp.nodup_iff.2 (upS_nodup _), fun x => by rw [hp.mem_iff, mem_upS, invL_length]⟩
theorem IsPerm.twice {p : List Int} (h : IsPerm p) : invL (invL p) = p := by
  apply List.ext_getElem
  · rw [invL_length, invL_length]
  · intro i h1 h2
    have hi : i < (invL p).length := by rw [invL_length]; exact h2
    rw [← getD_elem h1, ← getD_elem h2, invL_at (invL p) hi]
    obtain ⟨h3, h4⟩ := h.back h2
    have hlt : (p.getD i 0).toNat < (invL p).length := by rw [invL_length]; omega
    rw [getD_elem hlt] at h4
    rw [← h4, h.inv.nodup.idxOf_getElem]
    omega
theorem back_pos {s : List Int} (ok : OkS s) {k : Nat} (h1 : 1 ≤ k) (h2 : k ≤ s.length) : 1 ≤ backS s k := by
  unfold backS
  rw [if_neg (by omega)]
  exact ok.pos.getD (by omega)
theorem back_zero {s : List Int} {k : Nat} (h : s.length < k) : backS s k = 0 := by unfold backS; rw [if_pos h]
theorem fitC_is {f t : List Int} (h : fitC f t = 0) : OkS f ∧ OkS t ∧ fitU f t f.length := by
  by_cases h1 : mayC f = 0
  · by_cases h2 : mayC t = 0
    · by_cases h3 : fitU f t f.length
      · exact ⟨mayC_zero.1 h1, mayC_zero.1 h2, h3⟩
      · rw [fitC_bad h1 h2 h3] at h; cases h
    · rw [fitC_to h1 h2] at h; exact absurd h h2
  · rw [fitC_from h1] at h; exact absurd h h1
theorem fitC_of {f t : List Int} (h1 : OkS f) (h2 : OkS t) (h3 : fitU f t f.length) : fitC f t = 0 := fitC_ok (mayC_ok h1) (mayC_ok h2) h3
theorem fit_len {f t : List Int} (h : fitC f t = 0) : f.length ≤ t.length := by
  obtain ⟨o1, o2, hu⟩ := fitC_is h
  rcases Nat.lt_or_ge t.length f.length with g | g
  · have := (hu f.length (by omega) (Nat.le_refl _)).1
    rw [back_zero g] at this
    exact absurd rfl this
  · exact g
theorem fit_trans {a b c : List Int} (h1 : fitC a b = 0) (h2 : fitC b c = 0) : fitC a c = 0 := by
  obtain ⟨oa, ob, u1⟩ := fitC_is h1
  obtain ⟨_, oc, u2⟩ := fitC_is h2
  have l1 := fit_len h1
  refine fitC_of oa oc fun j j1 j2 => ?_
  obtain ⟨p1, p2⟩ := u1 j j1 j2
  obtain ⟨q1, q2⟩ := u2 j j1 (by omega)
  refine ⟨q1, ?_⟩
  rcases p2 with p2 | p2
  · exact .inl p2
  · rcases q2 with q2 | q2
    · exact .inl (p2.trans q2)
    · exact .inr (p2.trans q2)
theorem fit_self {a : List Int} (h : OkS a) : fitC a a = 0 := fitC_of h h fun j j1 j2 => ⟨by have := back_pos h j1 j2; omega, .inr rfl⟩
theorem fit_nil {a : List Int} (h : OkS a) : fitC [] a = 0 := fitC_of OkS.nil h fun j j1 j2 => by simp at j2; omega
theorem back_inj {a b : List Int} (hl : a.length = b.length) (h : ∀ k, 1 ≤ k → k ≤ a.length → backS a k = backS b k) : a = b := by
  apply List.ext_getElem hl
  intro i h1 h2
  have := h (a.length - i) (by omega) (by omega)
  unfold backS at this
  rw [if_neg (by omega), if_neg (by omega), show a.length - (a.length - i) = i by omega, show b.length - (a.length - i) = i by omega, getD_elem h1, getD_elem h2] at this
  exact this
theorem fit_both {a b : List Int} (h1 : fitC a b = 0) (h2 : fitC b a = 0) : a = b := by
  obtain ⟨oa, ob, u1⟩ := fitC_is h1
  obtain ⟨_, _, u2⟩ := fitC_is h2
  have l1 := fit_len h1
  have l2 := fit_len h2
  refine back_inj (by omega) fun k k1 k2 => ?_
  have p := (u1 k k1 k2).2
  have q := (u2 k k1 (by omega)).2
  omega
theorem grown_self {a : List Int} (h : OkS a) : grownS a a = [] := by
  unfold grownS
  rw [if_pos (fit_self h)]
  have : ∀ j, grownL a a j = [] := fun j => by
    induction j with
    | zero => rfl
    | succ j ih => simp only [grownL, ih, if_true, List.append_nil]
  exact this _
theorem grown_nil {a : List Int} (h : OkS a) : (grownS [] a).length = a.length := by
  unfold grownS
  rw [if_pos (fit_nil h)]
  have : ∀ j, j ≤ a.length → (grownL [] a j).length = j := fun j => by
    induction j with
    | zero => intro _; rfl
    | succ j ih =>
      intro hj
      have hb := back_pos h (k := a.length - j) (by omega) (by omega)
      have hz : backS [] (a.length - j) = 0 := back_zero (by simp; omega)
      simp only [grownL]
      rw [hz, if_neg (by omega), List.length_append, ih (by omega)]
      rfl
  exact this _ (Nat.le_refl _)
theorem ones_len (s axes : List Int) : (onesS s axes).length = s.length := onesL_len s axes s.length
theorem onesL_at (s axes : List Int) (j i : Nat) (h : i < j) : (onesL s axes j).getD i 0 = if (i : Int) ∈ axes then 1 else s.getD i 0 := by
  induction j with
  | zero => omega
  | succ j ih =>
    simp only [onesL]
    by_cases hij : i < j
    · rw [List.getD_eq_getElem?_getD, List.getElem?_append_left (by rw [onesL_len]; exact hij), ← List.getD_eq_getElem?_getD]
      exact ih hij
    · obtain rfl : i = j := by omega
      rw [List.getD_eq_getElem?_getD, List.getElem?_append_right (by rw [onesL_len]; exact Nat.le_refl _), onesL_len, Nat.sub_self]
      rfl
theorem ones_at (s axes : List Int) {i : Nat} (h : i < s.length) : (onesS s axes).getD i 0 = if (i : Int) ∈ axes then 1 else s.getD i 0 := onesL_at s axes s.length i h
theorem prod_two (s axes : List Int) (ps : posS s) (j : Nat) (hj : j ≤ s.length) : prodS (dropL s axes j) = prodS (onesL s axes j) ∧ prodS (onesL s axes j) ≤ prodS (s.take j) ∧ posS (onesL s axes j) ∧ posS (dropL s axes j) := by
  induction j with
  | zero => exact ⟨rfl, by simp [onesL, prodS], (fun x h => by simp [onesL] at h), (fun x h => by simp [dropL] at h)⟩
  | succ j ih =>
    obtain ⟨h1, h2, h3, h4⟩ := ih (by omega)
    have hx := ps.getD (i := j) (by omega)
    have p1 := prodS_pos h3
    simp only [onesL, dropL]
    rw [prodS_take (by omega), prodS_append, prodS_append]
    by_cases hm : (j : Int) ∈ axes
    · rw [if_pos hm, if_pos hm]
      simp only [prodS, Int.mul_one]
      have := Int.mul_le_mul_of_nonneg_left hx (show 0 ≤ prodS (s.take j) by have := prodS_pos (ps.take j); omega)
      refine ⟨h1, by omega, fun x h => ?_, fun x h => h4 x (by simpa using h)⟩
      rcases List.mem_append.1 h with h | h
      · exact h3 x h
      · rw [List.mem_singleton.1 h]; omega
    · rw [if_neg hm, if_neg hm]
      simp only [prodS, Int.mul_one]
      refine ⟨by rw [h1], Int.mul_le_mul_of_nonneg_right h2 (by omega), fun x h => ?_, fun x h => ?_⟩
      · rcases List.mem_append.1 h with h | h
        · exact h3 x h
        · rw [List.mem_singleton.1 h]; exact hx
      · rcases List.mem_append.1 h with h | h
        · exact h4 x h
        · rw [List.mem_singleton.1 h]; exact hx
theorem ones_ok {s : List Int} (axes : List Int) (h : OkS s) : OkS (onesS s axes) := by
  obtain ⟨h1, h2, h3, _⟩ := prod_two s axes h.pos s.length (Nat.le_refl _)
  rw [take_all rfl] at h2
  exact ⟨by rw [ones_len]; exact h.rank, h3, by have := h.few; unfold onesS; omega⟩
theorem drop_ok {s : List Int} (axes : List Int) (h : OkS s) : OkS (dropS s axes) := by
  obtain ⟨h1, h2, _, h4⟩ := prod_two s axes h.pos s.length (Nat.le_refl _)
  rw [take_all rfl] at h2
  exact ⟨by have := dropL_le s axes s.length; have := h.rank; unfold dropS; omega, h4, by have := h.few; unfold dropS; omega⟩
theorem count_two {s : List Int} (axes : List Int) (h : OkS s) : countS (dropS s axes) = countS (onesS s axes) := by
  rw [(ones_ok axes h).count, (drop_ok axes h).count]
  exact (prod_two s axes h.pos s.length (Nat.le_refl _)).1
theorem ones_fit {s : List Int} (axes : List Int) (h : OkS s) : fitC (onesS s axes) s = 0 := by
  refine fitC_of (ones_ok axes h) h fun j j1 j2 => ?_
  rw [ones_len] at j2
  refine ⟨by have := back_pos h j1 j2; omega, ?_⟩
  unfold backS
  rw [ones_len, if_neg (by omega), if_neg (by omega), ones_at s axes (by omega)]
  by_cases hm : ((s.length - j : Nat) : Int) ∈ axes
  · rw [if_pos hm]; exact .inl rfl
  · rw [if_neg hm]; exact .inr rfl
theorem inS_drop {s xs : List Int} (h : inS s xs) (k : Nat) : inS (s.drop k) (xs.drop k) := by
  have hl := inS_length h
  refine inS_of (by rw [List.length_drop, List.length_drop, hl]) fun i hi => ?_
  rw [List.length_drop] at hi
  have := inS_at h (i := k + i) (by omega)
  rw [List.getD_eq_getElem?_getD, List.getD_eq_getElem?_getD, List.getElem?_drop, List.getElem?_drop, ← List.getD_eq_getElem?_getD, ← List.getD_eq_getElem?_getD]
  exact this
theorem sum_range {s xs : List Int} (h : inS s xs) (ps : posS s) {k : Nat} (hk : k ≤ s.length) : 0 ≤ sumS s xs k ∧ sumS s xs k ≤ placeS s xs := by
  have h1 := sum_place (inS_length h) hk
  have h2 := (place_range (inS_drop h k)).1
  refine ⟨?_, by omega⟩
  clear h1 h2
  induction k with
  | zero => exact Int.le_refl _
  | succ k ih =>
    have h3 := ih (by omega)
    have h4 := (inS_at h (i := k) (by omega)).1
    have h5 := prodS_pos (ps.drop (k + 1))
    have h6 := Int.mul_nonneg h4 (show 0 ≤ prodS (s.drop (k + 1)) by omega)
    simp only [sumS]
    omega
end
section
open Go.RowKit
/-- a slice of numbers, in a block from lo on, that is not block g -/
def CellzS (lo g : Nat) (w : World) (v : Value) : Prop :=
  ∃ ad n cap, v = .slice ad n cap ∧ n ≤ maxLen ∧ (n = 0 ∨ ∃ b cur, ad = some ⟨b, 0, none⟩ ∧ lo ≤ b ∧ b < g ∧ w.heap[b]? = some (.cells cur 3 (0, 0)) ∧ ∀ k, k < n → ∃ z, cur[k]? = some (.int .i64 z))
theorem CellzS.nil (lo g : Nat) (w : World) : CellzS lo g w (.slice none 0 0) := ⟨none, 0, 0, rfl, by unfold maxLen; omega, .inl rfl⟩
theorem NumS.cellz {base lo : Nat} {w : World} {v : Value} {xs : List Int} (h : NumS base w v xs) (hl : lo ≤ base) : CellzS lo w.heap.size w v := by
  obtain ⟨h1, h2⟩ := h
  rcases h2 with ⟨rfl, hn⟩ | ⟨g, cap, cur, rfl, hb, hg, hc, hm, hs, ht⟩
  · exact CellzS.nil _ _ _
  · refine ⟨_, _, _, rfl, by omega, .inr ⟨g, cur, rfl, by omega, lt_of_block hg, hg, fun k hk => ⟨xs.getD k 0, ?_⟩⟩⟩
    have e : (cur.toList.take (xs.length * 1))[k]? = (xs.map (Value.int .i64))[k]? := by rw [ht]
    rw [List.getElem?_take, if_pos (by omega), List.getElem?_map] at e
    rw [← Array.getElem?_toList, e]
    simp [hk]
theorem CellzS.later {lo g : Nat} {w w' : World} {v : Value} (h : CellzS lo g w v) (hb : Below g w w') : CellzS lo g w' v := by
  obtain ⟨ad, n, cap, rfl, hm, h⟩ := h
  refine ⟨ad, n, cap, rfl, hm, ?_⟩
  rcases h with h | ⟨b, cur, rfl, h1, h2, h3, h4⟩
  · exact .inl h
  · exact .inr ⟨b, cur, rfl, h1, h2, (hb.block b h2).trans h3, h4⟩
theorem CellzS.mono {lo g g' : Nat} {w : World} {v : Value} (h : CellzS lo g w v) (hg : g ≤ g') : CellzS lo g' w v := by
  obtain ⟨ad, n, cap, rfl, hm, h⟩ := h
  refine ⟨ad, n, cap, rfl, hm, ?_⟩
  rcases h with h | ⟨b, cur, rfl, h1, h2, h3, h4⟩
  · exact .inl h
  · exact .inr ⟨b, cur, rfl, h1, by omega, h3, h4⟩
theorem CellzS.next {lo : Nat} {w w' : World} {v : Value} (h : CellzS lo w.heap.size w v) (hb : Below w.heap.size w w') : CellzS lo w'.heap.size w' v := (h.later hb).mono hb.size
theorem CellzS.set {lo g : Nat} {w : World} {v : Value} (h : CellzS lo g w v) (b' k' : Nat) (z' : Int) : CellzS lo g (w.setCell ⟨b', k', none⟩ (.int .i64 z')) v := by
  obtain ⟨ad, n, cap, rfl, hm, h⟩ := h
  refine ⟨ad, n, cap, rfl, hm, ?_⟩
  rcases h with h | ⟨b, cur, rfl, h1, h2, h3, h4⟩
  · exact .inl h
  · by_cases e : b = b'
    · subst e
      refine .inr ⟨b, _, rfl, h1, h2, heap_setCell_same w b k' cur 3 (.int .i64 z') h3, fun k hk => ?_⟩
      obtain ⟨z, hz⟩ := h4 k hk
      rw [Array.getElem?_setIfInBounds]
      by_cases ek : k' = k
      · subst ek
        rw [if_pos rfl, if_pos (Array.getElem?_eq_some_iff.1 hz).1]
        exact ⟨z', rfl⟩
      · rw [if_neg ek]
        exact ⟨z, hz⟩
    · exact .inr ⟨b, cur, rfl, h1, h2, (Below.heap_setCell _ _ _ _ e).trans h3, h4⟩
end
section
open Go.RowKit
set_option linter.unusedVariables false
set_option linter.unusedSimpArgs false
def belowB (n m : Int) : Bool := decide (0 ≤ n ∧ n < m)
theorem belowB_yes {n m : Int} (h : 0 ≤ n) (h2 : n < m) : belowB n m = true := decide_eq_true ⟨h, h2⟩
theorem belowB_no {n m : Int} (h : n < 0 ∨ m ≤ n) : belowB n m = false := decide_eq_false (by omega)
set_option maxRecDepth 100000 in
set_option maxHeartbeats 2000000 in
theorem below_any (n m : Int) (w : World) : Calls Tryz.prog 101 #[.int .i64 n, .int .i64 m] w fun e w' => e = .returned (.bool (belowB n m)) ∧ w = w' := by
  obtain ⟨b, hb⟩ : ∃ b, belowB n m = b := ⟨_, rfl⟩
  rw [hb]
  by_cases h0 : 0 ≤ n
  · by_cases h1 : n < m
    · obtain rfl : b = true := by rw [← hb, belowB_yes h0 h1]
      clear hb
      go_enter Tryz.func101, Tryz.ntmps101
      go_wp2
      go_ret
      exact ⟨rfl, rfl⟩
    · obtain rfl : b = false := by rw [← hb, belowB_no (by omega)]
      clear hb
      go_enter Tryz.func101, Tryz.ntmps101
      go_wp2
      go_ret
      exact ⟨rfl, rfl⟩
  · obtain rfl : b = false := by rw [← hb, belowB_no (by omega)]
    clear hb
    go_enter Tryz.func101, Tryz.ntmps101
    go_wp2
    go_ret
    exact ⟨rfl, rfl⟩
/-- what has been counted of the first k dimensions: the product, the error -/
def Cnt (s : List Int) (k : Nat) (n e : Int) : Prop := posS (s.take k) ∧ 1 ≤ n ∧ n ≤ 1024 ∧ (e = 0 ∧ n = prodS (s.take k) ∨ e = 14 ∧ 1024 < prodS (s.take k))
theorem Cnt.nil (s : List Int) : Cnt s 0 1 0 := ⟨(fun x h => by simp at h), by omega, by omega, .inl ⟨rfl, rfl⟩⟩
theorem quo_lt {d n : Int} (h1 : 1 ≤ n) : 1024 / n < d ↔ 1024 < n * d := by
  rw [Int.ediv_lt_iff_lt_mul (by omega), Int.mul_comm]
theorem take_pos {s : List Int} {k : Nat} {d : Int} (h : posS (s.take k)) (hd : s[k]? = some d) (h1 : 1 ≤ d) : posS (s.take (k + 1)) := by
  rw [List.take_add_one, hd, Option.toList_some]
  intro x hx
  rcases List.mem_append.1 hx with h2 | h2
  · exact h x h2
  · rw [List.mem_singleton.1 h2]; exact h1
theorem prod_next {s : List Int} {k : Nat} {d : Int} (hd : s[k]? = some d) : prodS (s.take (k + 1)) = prodS (s.take k) * d := by
  have hk : k < s.length := by
    rcases Nat.lt_or_ge k s.length with g | g
    · exact g
    · rw [List.getElem?_eq_none g] at hd; cases hd
  rw [prodS_take hk, List.getD_eq_getElem?_getD, hd]
  rfl
theorem Cnt.big {s : List Int} {k : Nat} {n e d : Int} (h : Cnt s k n e) (hd : s[k]? = some d) (h1 : 1 ≤ d) (h2 : 1024 / n < d) : Cnt s (k + 1) n 14 := by
  obtain ⟨hp, n1, n2, h3⟩ := h
  refine ⟨take_pos hp hd h1, n1, n2, .inr ⟨rfl, ?_⟩⟩
  rw [prod_next hd]
  rw [quo_lt n1] at h2
  rcases h3 with ⟨_, rfl⟩ | ⟨_, h4⟩
  · exact h2
  · have := Int.mul_le_mul_of_nonneg_left h1 (show 0 ≤ prodS (s.take k) by omega)
    omega
theorem Cnt.next {s : List Int} {k : Nat} {n e d : Int} (h : Cnt s k n e) (hd : s[k]? = some d) (h1 : 1 ≤ d) (h2 : ¬ 1024 / n < d) : Cnt s (k + 1) (n * d) e ∧ 1 ≤ n * d ∧ n * d ≤ 1024 := by
  obtain ⟨hp, n1, n2, h3⟩ := h
  rw [quo_lt n1] at h2
  have h5 : 1 * 1 ≤ n * d := Int.mul_le_mul n1 h1 (by omega) (by omega)
  refine ⟨⟨take_pos hp hd h1, by omega, by omega, ?_⟩, by omega, by omega⟩
  rw [prod_next hd]
  rcases h3 with ⟨h3, rfl⟩ | ⟨h3, h4⟩
  · exact .inl ⟨h3, rfl⟩
  · refine .inr ⟨h3, ?_⟩
    have := Int.mul_le_mul_of_nonneg_left h1 (show 0 ≤ prodS (s.take k) by omega)
    omega
set_option maxRecDepth 100000 in
set_option maxHeartbeats 2000000 in
theorem cnt_any {u : Value} {xs : List Int} {ad : Option Addr} {cap : Nat} {w : World} (A : ArgS w u xs ad cap) :
    Calls Tryz.prog 93 #[u] w fun e w' => e = .returned (.tuple #[.int .i64 (countS xs), .int .i64 (mayC xs)]) ∧ w = w' := by
  have HA := Lib.hid A
  obtain rfl := A.is
  obtain ⟨L, hL⟩ : ∃ L, xs.length = L := ⟨_, rfl⟩
  have HL := Lib.hid hL
  obtain ⟨c, hc⟩ : ∃ c, mayC xs = c := ⟨_, rfl⟩
  have HC := Lib.hid hc
  obtain ⟨t, ht⟩ : ∃ t, countS xs = t := ⟨_, rfl⟩
  have HT := Lib.hid ht
  rw [hL, hc, ht]
  clear A hL hc ht
  by_cases h4 : 4 < L
  · have hm : mayC xs = 14 := mayC_rank (by rw [HL.out]; exact h4)
    obtain rfl : c = 14 := by rw [← HC.out]; exact hm
    obtain rfl : t = 0 := by rw [← HT.out]; exact count_bad (by rw [hm]; decide)
    have h4I : (4 : Int) < (L : Int) := by omega
    clear hm
    go_enter Tryz.func93, Tryz.ntmps93
    go_wp2
    go_step3
    go_wp2
    rw [Exit.noGoto_ret]
    go_ret2
    exact ⟨rfl, rfl⟩
  · have h4I : ¬ (4 : Int) < (L : Int) := by omega
    go_enter Tryz.func93, Tryz.ntmps93
    go_wp2
    go_step3
    go_wp2
    go_step3
    go_wp2
    go_loop [4, 5, 13] (fun n e i => ∃ (k : Nat) (N E : Int), i = .int .i64 (k : Int) ∧ n = .int .i64 N ∧ e = .int .i64 E ∧ k ≤ L ∧ Cnt xs k N E) (fun _ _ i => L - (intOf i).toNat)
    case atStart => exact ⟨0, 1, 0, rfl, rfl, rfl, Nat.zero_le _, Cnt.nil _⟩
    case round =>
      obtain ⟨k, N, E, rfl, rfl, rfl, hkL, hI⟩ := hrel
      obtain ⟨hp, n1, n2, hE⟩ := hI
      by_cases hlt : k < L
      · obtain ⟨b, off, rfl, hc⟩ := HA.out.at (i := k) (by rw [HL.out]; exact hlt)
        have hx : xs[k]? = some (xs.getD k 0) := by rw [List.getD_eq_getElem?_getD, List.getElem?_eq_getElem (by rw [HL.out]; exact hlt)]; rfl
        obtain ⟨x, hxe⟩ : ∃ x, xs.getD k 0 = x := ⟨_, rfl⟩
        rw [hxe] at hc hx
        have HX := Lib.hid hx
        have hltI : (k : Int) < (L : Int) := by omega
        have HI : Hid (Cnt xs k N E) := Lib.hid ⟨hp, n1, n2, hE⟩
        clear hxe hx hp hE
        by_cases h1 : x < 1
        · have hm : mayC xs = 13 := by
            refine mayC_dim (by rw [HL.out]; omega) fun hp => ?_
            have := hp x (List.mem_of_getElem? HX.out)
            omega
          obtain rfl : c = 13 := by rw [← HC.out]; exact hm
          obtain rfl : t = 0 := by rw [← HT.out]; exact count_bad (by rw [hm]; decide)
          clear hm
          go_wp2
          go_ret2
          exact ⟨rfl, rfl⟩
        · by_cases h2 : 1024 / N < x
          · go_wp2
            go_round
            case rel => exact ⟨k + 1, N, 14, by go_num, rfl, rfl, by omega, HI.out.big HX.out (by omega) h2⟩
            case measure => simp [intOf]; omega
          · obtain ⟨hI, m1, m2⟩ := HI.out.next HX.out (by omega) h2
            have hw : wrap64 (N * x) = N * x := by unfold wrap64; omega
            have HJ := Lib.hid hI
            clear hI
            go_wp2
            go_round
            case rel => exact ⟨k + 1, _, E, by go_num, by first | rfl | rw [hw], rfl, by omega, HJ.out⟩
            case measure => simp [intOf]; omega
      · obtain rfl : k = L := by omega
        have hltI : ¬ (k : Int) < (k : Int) := by omega
        rw [List.take_of_length_le (by rw [HL.out]; exact Nat.le_refl _)] at hE hp
        rcases hE with ⟨rfl, hN⟩ | ⟨rfl, hN⟩
        · have ok : OkS xs := ⟨by rw [HL.out]; omega, hp, by omega⟩
          obtain rfl : c = 0 := by rw [← HC.out]; exact mayC_ok ok
          obtain rfl : t = N := by rw [← HT.out, ok.count]; exact hN.symm
          clear hN hp ok
          go_wp2
          go_ret2
          exact ⟨rfl, rfl⟩
        · have hm : mayC xs = 14 := mayC_count (by rw [HL.out]; omega) hp hN
          obtain rfl : c = 14 := by rw [← HC.out]; exact hm
          obtain rfl : t = 0 := by rw [← HT.out]; exact count_bad (by rw [hm]; decide)
          clear hN hp hm
          go_wp2
          go_ret2
          exact ⟨rfl, rfl⟩
set_option maxRecDepth 100000 in
set_option maxHeartbeats 2000000 in
theorem mayS_eq {u : Value} {xs : List Int} {ad : Option Addr} {cap : Nat} {w : World} (A : ArgS w u xs ad cap) :
    Calls Tryz.prog 55 #[u] w fun e w' => e = .returned (.int .i64 (mayC xs)) ∧ w = w' := by
  have h := cnt_any A
  obtain rfl := A.is
  obtain ⟨c, hc⟩ : ∃ c, mayC xs = c := ⟨_, rfl⟩
  obtain ⟨t, ht⟩ : ∃ t, countS xs = t := ⟨_, rfl⟩
  obtain ⟨L, hL⟩ : ∃ L, xs.length = L := ⟨_, rfl⟩
  rw [hc, ht, hL] at h
  rw [hc, hL]
  clear A hc ht hL
  go_enter Tryz.func55, Tryz.ntmps55
  go_wp2_with (go_at_call 93; refine h.mono ?_; rintro e w1 ⟨rfl, rfl⟩)
  go_ret
  exact ⟨rfl, rfl⟩
set_option maxRecDepth 100000 in
set_option maxHeartbeats 2000000 in
theorem countS_eq {u : Value} {xs : List Int} {ad : Option Addr} {cap : Nat} {w : World} (A : ArgS w u xs ad cap) :
    Calls Tryz.prog 57 #[u] w fun e w' => e = .returned (.int .i64 (countS xs)) ∧ w = w' := by
  have h := cnt_any A
  obtain rfl := A.is
  obtain ⟨c, hc⟩ : ∃ c, mayC xs = c := ⟨_, rfl⟩
  obtain ⟨t, ht⟩ : ∃ t, countS xs = t := ⟨_, rfl⟩
  obtain ⟨L, hL⟩ : ∃ L, xs.length = L := ⟨_, rfl⟩
  rw [hc, ht, hL] at h
  rw [ht, hL]
  clear A hc ht hL
  go_enter Tryz.func57, Tryz.ntmps57
  go_wp2_with (go_at_call 93; refine h.mono ?_; rintro e w1 ⟨rfl, rfl⟩)
  go_ret
  exact ⟨rfl, rfl⟩
theorem mayS_any {u : Value} {xs : List Int} {ad : Option Addr} {cap : Nat} {w : World} (A : ArgS w u xs ad cap) (hx : xs.length ≤ 17592186044416) :
    Calls Tryz.prog 55 #[u] w fun e w' => e = .returned (.int .i64 (mayC xs)) ∧ Below w.heap.size w w' :=
  (mayS_eq A).mono fun _ _ ⟨h1, h2⟩ => ⟨h1, h2 ▸ Below.refl _ _⟩
theorem countS_any {u : Value} {xs : List Int} {ad : Option Addr} {cap : Nat} {w : World} (A : ArgS w u xs ad cap) (hx : xs.length ≤ 17592186044416) :
    Calls Tryz.prog 57 #[u] w fun e w' => e = .returned (.int .i64 (countS xs)) ∧ Below w.heap.size w w' :=
  (countS_eq A).mono fun _ _ ⟨h1, h2⟩ => ⟨h1, h2 ▸ Below.refl _ _⟩
set_option maxRecDepth 100000 in
set_option maxHeartbeats 4000000 in
theorem eqI_any {w : World} {xs ys : List Int} {a b : Option Addr} {c d : Nat} (A : ArgS w (.slice a xs.length c) xs a c) (B : ArgS w (.slice b ys.length d) ys b d) (hx : xs.length ≤ 70368744177664) (hy : ys.length ≤ 70368744177664) :
    Calls Tryz.prog 104 #[.slice a xs.length c, .slice b ys.length d] w fun e w' => e = .returned (.bool (decide (xs = ys))) ∧ Below w.heap.size w w' := by
  by_cases hl : xs.length = ys.length
  case neg =>
    have hne : decide (xs = ys) = false := decide_eq_false (fun h => hl (by rw [h]))
    have hn1 : ((xs.length : Int) != (ys.length : Int)) = true := by simp; omega
    rw [hne]
    clear hl hne
    go_enter Tryz.func104, Tryz.ntmps104
    go_wp2_with fail
    go_ret
    exact ⟨rfl, Below.refl _ _⟩
  obtain ⟨m, hm⟩ : ∃ m, xs.length = m := ⟨_, rfl⟩
  have hm2 : ys.length = m := by omega
  have la := A.lim
  have lb := B.lim
  have hext : (∀ j, j < m → xs.getD j 0 = ys.getD j 0) → xs = ys := by
    intro h
    apply List.ext_getElem (by omega)
    intro i h1 h2
    have := h i (by omega)
    simpa [h1, h2] using this
  have HX := Lib.hid hext
  have hmm : ((m : Int) != (m : Int)) = false := by simp
  have HL1 := Lib.hid hm
  have HL2 := Lib.hid hm2
  rw [hm] at hx ⊢
  rw [hm2]
  clear hl hm hm2 hext A B hy
  go_enter Tryz.func104, Tryz.ntmps104
  go_wp2_with fail
  go_loopw [5, 13] (fun _ i wr => ∃ k : Nat, i = .int .i64 k ∧ k ≤ m ∧ (∀ j, j < k → xs.getD j 0 = ys.getD j 0) ∧ Below w.heap.size w wr) (fun _ i _ => m - (intOf i).toNat)
  case atStart => exact ⟨0, rfl, Nat.zero_le _, fun j hj => by omega, Below.refl _ _⟩
  case round =>
    obtain ⟨k, rfl, hk, hall, hb⟩ := hrel
    have HA := Lib.hid hall
    clear hall
    by_cases hlt : k < m
    · have HK := Lib.hid hlt
      obtain ⟨p, o, rfl, c1⟩ : ∃ p o, a = some ⟨p, o, none⟩ ∧ wr.cell? ⟨p, o + k, none⟩ = some (.int .i64 (xs.getD k 0)) := by
        rcases la.later hb with e | ⟨p, o, e, hc⟩
        · rw [e] at HL1; have := HL1.out; simp at this; omega
        · exact ⟨p, o, e, hc k (by rw [HL1.out]; exact hlt)⟩
      obtain ⟨p2, o2, rfl, c2⟩ : ∃ p o, b = some ⟨p, o, none⟩ ∧ wr.cell? ⟨p, o + k, none⟩ = some (.int .i64 (ys.getD k 0)) := by
        rcases lb.later hb with e | ⟨p, o, e, hc⟩
        · rw [e] at HL2; have := HL2.out; simp at this; omega
        · exact ⟨p, o, e, hc k (by rw [HL2.out]; exact hlt)⟩
      obtain ⟨x, hxk⟩ : ∃ x, xs.getD k 0 = x := ⟨_, rfl⟩
      obtain ⟨y, hyk⟩ : ∃ y, ys.getD k 0 = y := ⟨_, rfl⟩
      rw [hxk] at c1
      rw [hyk] at c2
      have HXK := Lib.hid hxk
      have HYK := Lib.hid hyk
      have hk0 : (0 : Int) ≤ (k : Int) := Int.natCast_nonneg _
      have hk1 : (k : Int) < (m : Int) := by omega
      clear hxk hyk la lb
      by_cases e : x = y
      · have hne : (x != y) = false := by simp [e]
        have fin : ∃ j : Nat, Value.int .i64 ((k : Int) + 1) = .int .i64 j ∧ j ≤ m ∧ (∀ i, i < j → xs.getD i 0 = ys.getD i 0) :=
          ⟨k + 1, by go_num, HK.out, fun i hi => by
            by_cases h : i = k
            · subst h; rw [HXK.out, HYK.out]; exact e
            · exact HA.out i (by omega)⟩
        have FIN := Lib.hid fin
        clear fin e
        go_wp2_with fail
        go_quiet (fail)
        go_wp2_with fail
        go_roundw
        case rel =>
          obtain ⟨j, h1, h2, h3⟩ := FIN.out
          exact ⟨j, h1, h2, h3, ⟨hb.os, hb.tape, hb.output, hb.size, hb.block⟩⟩
        case measure => have := HK.out; simp [intOf]; omega
      · have hne : (x != y) = true := by simp [e]
        have hd : decide (xs = ys) = false := decide_eq_false (fun h => e (by rw [← HXK.out, ← HYK.out, h]))
        have HD := Lib.hid hd
        clear e hd
        go_wp2_with fail
        go_quiet (fail)
        go_wp2_with fail
        go_ret
        exact ⟨by rw [HD.out]; rfl, ⟨hb.os, hb.tape, hb.output, hb.size, hb.block⟩⟩
    · obtain rfl : k = m := by omega
      have hd : decide (xs = ys) = true := decide_eq_true (HX.out HA.out)
      have HD := Lib.hid hd
      clear hd
      go_wp2_with fail
      go_ret
      exact ⟨by rw [HD.out]; rfl, hb⟩
set_option maxRecDepth 100000 in
set_option maxHeartbeats 2000000 in
theorem sameS_any {u v : Value} {xs ys : List Int} {a b : Option Addr} {ca cb : Nat} {w : World} (A : ArgS w u xs a ca) (B : ArgS w v ys b cb) (ha : a = none → ca = 0) (hb : b = none → cb = 0) (hx : xs.length ≤ 17592186044416) (hy : ys.length ≤ 17592186044416) :
    Calls Tryz.prog 67 #[u, v] w fun e w' => e = .returned (.bool (decide (xs = ys))) ∧ Below w.heap.size w w' := by
  obtain rfl := A.is
  obtain rfl := B.is
  have h := eqI_any A B (by omega) (by omega)
  obtain ⟨t, ht⟩ : ∃ t, decide (xs = ys) = t := ⟨_, rfl⟩
  obtain ⟨n, hn⟩ : ∃ n, xs.length = n := ⟨_, rfl⟩
  obtain ⟨m, hm⟩ : ∃ n, ys.length = n := ⟨_, rfl⟩
  rw [ht, hn, hm] at h
  rw [ht, hn, hm]
  clear A B ha hb hx hy ht hn hm
  go_enter Tryz.func67, Tryz.ntmps67
  go_wp2_with (go_at_call 104; refine h.mono ?_; rintro e w1 ⟨rfl, hb⟩)
  go_ret
  exact ⟨rfl, hb⟩
end
section
open Go.RowKit
set_option linter.unusedVariables false
set_option linter.unusedSimpArgs false
theorem place_snoc {s xs : List Int} (hl : xs.length = s.length) (d x : Int) : placeS (s ++ [d]) (xs ++ [x]) = placeS s xs * d + x := by
  induction s generalizing xs with
  | nil =>
    obtain rfl := List.eq_nil_of_length_eq_zero hl
    simp [placeS, prodS]
  | cons c cs ih => cases xs with
    | nil => simp at hl
    | cons y ys =>
      have := ih (xs := ys) (by simpa using hl)
      simp only [List.cons_append, placeS, this, prodS_append, prodS]
      rw [Int.add_mul, Int.mul_one, Int.mul_assoc]
      omega
theorem inS_snoc {s xs : List Int} (h : inS s xs) {d x : Int} (h0 : 0 ≤ x) (h1 : x < d) : inS (s ++ [d]) (xs ++ [x]) := by
  induction s generalizing xs with
  | nil =>
    obtain rfl := List.eq_nil_of_length_eq_zero (inS_length h)
    exact ⟨⟨h0, h1⟩, trivial⟩
  | cons c cs ih => cases xs with
    | nil => exact h.elim
    | cons y ys => exact ⟨h.1, ih h.2⟩
theorem inS_next {s xs : List Int} {k : Nat} {d x : Int} (h : inS (s.take k) (xs.take k)) (hd : s[k]? = some d) (hx : xs[k]? = some x) (h0 : 0 ≤ x) (h1 : x < d) : inS (s.take (k + 1)) (xs.take (k + 1)) := by
  rw [List.take_add_one, List.take_add_one, hd, hx]
  exact inS_snoc h h0 h1
theorem place_next {s xs : List Int} {k : Nat} {d x : Int} (h : inS (s.take k) (xs.take k)) (hd : s[k]? = some d) (hx : xs[k]? = some x) : placeS (s.take (k + 1)) (xs.take (k + 1)) = placeS (s.take k) (xs.take k) * d + x := by
  rw [List.take_add_one, List.take_add_one, hd, hx]
  exact place_snoc (inS_length h) d x
theorem place_small {s xs : List Int} {k : Nat} (ok : OkS s) (h : inS (s.take k) (xs.take k)) : 0 ≤ placeS (s.take k) (xs.take k) ∧ placeS (s.take k) (xs.take k) < 1024 := by
  have h1 := place_range h
  have h2 := prodS_take_le ok.pos k
  have h3 := ok.few
  omega
set_option maxRecDepth 100000 in
set_option maxHeartbeats 2000000 in
theorem offsetS_any {u v : Value} {s xs : List Int} {a b : Option Addr} {ca cb : Nat} {w : World} (A : ArgS w u s a ca) (B : ArgS w v xs b cb) (ha : a = none → ca = 0) (hb : b = none → cb = 0) (hx : s.length ≤ 17592186044416) (hy : xs.length ≤ 17592186044416) :
    Calls Tryz.prog 63 #[u, v] w fun e w' => e = .returned (.tuple #[.int .i64 (offV s xs), .int .i64 (offC s xs)]) ∧ Below w.heap.size w w' := by
  refine Calls.mono (R := fun e w' => e = .returned (.tuple #[.int .i64 (offV s xs), .int .i64 (offC s xs)]) ∧ w = w') ?_ (fun _ _ ⟨h1, h2⟩ => ⟨h1, h2 ▸ Below.refl _ _⟩)
  have hm := mayS_eq A
  have HA := Lib.hid A
  have HB := Lib.hid B
  obtain rfl := A.is
  obtain rfl := B.is
  obtain ⟨c, hc⟩ : ∃ c, offC s xs = c := ⟨_, rfl⟩
  obtain ⟨t, ht⟩ : ∃ t, offV s xs = t := ⟨_, rfl⟩
  obtain ⟨m, hmc⟩ : ∃ m, mayC s = m := ⟨_, rfl⟩
  obtain ⟨L, hL⟩ : ∃ L, s.length = L := ⟨_, rfl⟩
  obtain ⟨M, hM⟩ : ∃ M, xs.length = M := ⟨_, rfl⟩
  rw [hmc, hL] at hm
  rw [hc, ht, hL, hM]
  have HC := Lib.hid hc
  have HT := Lib.hid ht
  have HM := Lib.hid hM
  have HL := Lib.hid hL
  have HMC := Lib.hid hmc
  rw [hL] at hx
  rw [hM] at hy
  clear A B ha hb hc ht hmc hL hM
  by_cases h0 : m = 0
  · subst h0
    by_cases hl : M = L
    · subst hl
      have hlI : ((M : Int) != (M : Int)) = false := by simp
      have ok := mayC_zero.1 HMC.out
      have hM4 : M ≤ 4 := by rw [← HL.out]; exact ok.rank
      have HO := Lib.hid ok
      clear ok
      go_enter Tryz.func63, Tryz.ntmps63
      go_wp2_with (go_at_call 55; refine hm.mono ?_; rintro e w1 ⟨rfl, rfl⟩)
      clear hm
      go_loop [7, 8, 9, 22] (fun p _ _ i => ∃ (k : Nat) (P : Int), i = .int .i64 (k : Int) ∧ p = .int .i64 P ∧ k ≤ M ∧ inS (s.take k) (xs.take k) ∧ P = placeS (s.take k) (xs.take k)) (fun _ _ _ i => M - (intOf i).toNat)
      case atStart => exact ⟨0, 0, rfl, rfl, Nat.zero_le _, trivial, rfl⟩
      case round =>
        obtain ⟨k, P, rfl, rfl, hk, hin, hP⟩ := hrel
        have hsm := place_small HO.out hin
        rw [← hP] at hsm
        obtain ⟨hP0, hP1⟩ := hsm
        have HIN := Lib.hid hin
        have HP := Lib.hid hP
        clear hin hP
        by_cases hlt : k < M
        · obtain ⟨b1, o1, rfl, c1⟩ := HA.out.at (i := k) (by rw [HL.out]; exact hlt)
          obtain ⟨b2, o2, rfl, c2⟩ := HB.out.at (i := k) (by rw [HM.out]; exact hlt)
          have hd := getD_some (xs := s) (k := k) (by rw [HL.out]; exact hlt)
          have hxx := getD_some (xs := xs) (k := k) (by rw [HM.out]; exact hlt)
          have hd1 := HO.out.pos.getD (i := k) (by rw [HL.out]; exact hlt)
          have hd2 := getD_le_prod HO.out.pos (k := k) (by rw [HL.out]; exact hlt)
          have hf := HO.out.few
          obtain ⟨d, hde⟩ : ∃ d, s.getD k 0 = d := ⟨_, rfl⟩
          obtain ⟨x, hxe⟩ : ∃ x, xs.getD k 0 = x := ⟨_, rfl⟩
          rw [hde] at c1 hd hd1 hd2
          rw [hxe] at c2 hxx
          have HD := Lib.hid hd
          have HX := Lib.hid hxx
          have HDE := Lib.hid hde
          have HXE := Lib.hid hxe
          have hbw := below_any x d w
          have hltI : (k : Int) < (M : Int) := by omega
          have hd3 : d ≤ 1024 := by omega
          clear hd hxx hd2 hf hde hxe
          by_cases hg : 0 ≤ x ∧ x < d
          · obtain ⟨g0, g1⟩ := hg
            rw [belowB_yes g0 g1] at hbw
            have hn := inS_next HIN.out HD.out HX.out g0 g1
            have hp := place_next HIN.out HD.out HX.out
            have hs := place_small HO.out hn
            rw [hp, ← HP.out] at hs
            have e0 : 0 ≤ P * d := Int.mul_nonneg hP0 (by omega)
            have e1 : P * d ≤ 1024 * 1024 := Int.mul_le_mul (by omega) hd3 (by omega) (by omega)
            have w1 : wrap64 (P * d) = P * d := by unfold wrap64; omega
            have w2 : wrap64 (P * d + x) = P * d + x := by unfold wrap64; omega
            have HN := Lib.hid hn
            have HPN := Lib.hid hp
            clear hn hp hs
            go_wp2_with (go_at_call 101; refine hbw.mono ?_; rintro e w1 ⟨rfl, rfl⟩)
            go_round
            case rel => exact ⟨k + 1, _, by go_num, rfl, by omega, HN.out, by rw [HPN.out, ← HP.out] <;> first | exact w2 | rw [w1, w2]⟩
            case measure => simp [intOf]; omega
          · rw [belowB_no (by omega)] at hbw
            have hno : ¬ inS s xs := fun h => by
              have := inS_at h (i := k) (by rw [HL.out]; exact hlt)
              rw [HDE.out, HXE.out] at this
              exact hg this
            have hcc := offC_out HMC.out (by rw [HM.out, HL.out]) hno
            obtain rfl : c = 21 := by rw [← HC.out]; exact hcc
            obtain rfl : t = 0 := by rw [← HT.out]; exact offV_bad (by rw [hcc]; decide)
            clear hcc hno hg
            go_wp2_with (go_at_call 101; refine hbw.mono ?_; rintro e w1 ⟨rfl, rfl⟩)
            go_ret2
            exact ⟨rfl, rfl⟩
        · obtain rfl : k = M := by omega
          have hin := HIN.out
          have hP := HP.out
          rw [take_all HL.out, take_all HM.out] at hin hP
          obtain rfl : c = 0 := by rw [← HC.out]; exact offC_in HMC.out hin
          obtain rfl : t = P := by rw [← HT.out, offV_in HMC.out hin]; exact hP.symm
          have hltI : ¬ (k : Int) < (k : Int) := by omega
          clear hin hP
          go_wp2
          go_ret2
          exact ⟨rfl, rfl⟩
    · have hcc := offC_arg HMC.out (by rw [HM.out, HL.out]; exact hl)
      obtain rfl : c = 2 := by rw [← HC.out]; exact hcc
      obtain rfl : t = 0 := by rw [← HT.out]; exact offV_bad (by rw [hcc]; decide)
      have hlI : ((M : Int) != (L : Int)) = true := by simp; omega
      clear hcc
      go_enter Tryz.func63, Tryz.ntmps63
      go_wp2_with (go_at_call 55; refine hm.mono ?_; rintro e w1 ⟨rfl, rfl⟩)
      go_ret2
      exact ⟨rfl, rfl⟩
  · have hcc := offC_may (s := s) (xs := xs) (by rw [HMC.out]; exact h0)
    obtain rfl : c = m := by rw [← HC.out, hcc]; exact HMC.out
    obtain rfl : t = 0 := by rw [← HT.out]; exact offV_bad (by rw [HC.out]; exact h0)
    have hne : (c != 0) = true := by simpa using h0
    clear hcc
    go_enter Tryz.func63, Tryz.ntmps63
    go_wp2_with (go_at_call 55; refine hm.mono ?_; rintro e w1 ⟨rfl, rfl⟩)
    go_ret2
    exact ⟨rfl, rfl⟩
/-- the first k numbers are axes; the last one of them -/
def axU (l : List Int) (rank : Int) (k : Nat) : Prop := ∀ i, i < k → (0 ≤ l.getD i 0 ∧ l.getD i 0 < rank) ∧ (0 < i → l.getD (i - 1) 0 < l.getD i 0)
def lastS (l : List Int) : Nat → Int
  | 0 => -1
  | k + 1 => l.getD k 0
theorem axU.next {l : List Int} {rank : Int} {k : Nat} (h : axU l rank k) (h0 : lastS l k < l.getD k 0) (h1 : 0 ≤ l.getD k 0) (h2 : l.getD k 0 < rank) : axU l rank (k + 1) := by
  intro i hi
  by_cases e : i = k
  · subst e
    refine ⟨⟨h1, h2⟩, fun hp => ?_⟩
    obtain ⟨j, rfl⟩ : ∃ j, i = j + 1 := ⟨i - 1, by omega⟩
    exact h0
  · exact h i (by omega)
theorem axU.not {l : List Int} {rank : Int} {k : Nat} (hk : k < l.length) (h : axU l rank l.length) : (0 ≤ l.getD k 0 ∧ l.getD k 0 < rank) ∧ lastS l k < l.getD k 0 := by
  obtain ⟨h1, h2⟩ := h k hk
  refine ⟨h1, ?_⟩
  cases k with
  | zero => show (-1 : Int) < _; omega
  | succ j => exact h2 (by omega)
end
section
open Go.RowKit
set_option linter.unusedVariables false
set_option linter.unusedSimpArgs false
theorem back_to {t : List Int} {k : Nat} (h : k < t.length) : backS t (t.length - k) = t.getD k 0 := by
  unfold backS
  rw [if_neg (by omega), show t.length - (t.length - k) = k by omega]
theorem back_ahead {f t : List Int} {k : Nat} (h : k < t.length - f.length) : backS f (t.length - k) = 0 := by
  unfold backS
  rw [if_pos (by omega)]
theorem back_in {f t : List Int} {k : Nat} (hl : f.length ≤ t.length) (hk : k < t.length) (h : t.length - f.length ≤ k) : backS f (t.length - k) = f.getD (k - (t.length - f.length)) 0 := by
  unfold backS
  rw [if_neg (by omega), show f.length - (t.length - k) = k - (t.length - f.length) by omega]
/-- the first k dimensions of the other one fit -/
def fitP (f t : List Int) (k : Nat) : Prop := ∀ i, i < k → t.length - f.length ≤ i → f.getD (i - (t.length - f.length)) 0 = t.getD i 0 ∨ f.getD (i - (t.length - f.length)) 0 = 1
theorem fitP.next {f t : List Int} {k : Nat} (h : fitP f t k) (h2 : t.length - f.length ≤ k → f.getD (k - (t.length - f.length)) 0 = t.getD k 0 ∨ f.getD (k - (t.length - f.length)) 0 = 1) : fitP f t (k + 1) := by
  intro i hi h3
  by_cases e : i = k
  · subst e; exact h2 h3
  · exact h i (by omega) h3
theorem fitP.all {f t : List Int} (ok : OkS t) (hl : f.length ≤ t.length) (h : fitP f t t.length) : fitU f t f.length := by
  intro j j1 j2
  refine ⟨by have := back_pos ok j1 (by omega); omega, ?_⟩
  have h3 := h (t.length - j) (by omega) (by omega)
  have e1 : backS f j = f.getD (t.length - j - (t.length - f.length)) 0 := by
    rw [← back_in hl (by omega) (by omega)]; congr 1; omega
  have e2 : backS t j = t.getD (t.length - j) 0 := by
    rw [← back_to (by omega)]; congr 1; omega
  rw [e1, e2]
  omega
theorem fitU.at {f t : List Int} (hl : f.length ≤ t.length) (h : fitU f t f.length) {k : Nat} (hk : k < t.length) (h2 : t.length - f.length ≤ k) : f.getD (k - (t.length - f.length)) 0 = t.getD k 0 ∨ f.getD (k - (t.length - f.length)) 0 = 1 := by
  have h3 := (h (t.length - k) (by omega) (by omega)).2
  rw [back_in hl hk h2, back_to hk] at h3
  omega
theorem fit_far {f t : List Int} (o1 : OkS f) (o2 : OkS t) (h : t.length < f.length) : fitC f t = 13 := by
  refine fitC_bad (mayC_ok o1) (mayC_ok o2) fun hu => ?_
  have := (hu f.length (by omega) (Nat.le_refl _)).1
  rw [back_zero h] at this
  exact this rfl
theorem grownS_bad {f t : List Int} (h : fitC f t ≠ 0) : grownS f t = [] := by unfold grownS; rw [if_neg h]
theorem grownS_ok {f t : List Int} (h : fitC f t = 0) : grownS f t = grownL f t t.length := by unfold grownS; rw [if_pos h]
end
section
open Go.RowKit
set_option linter.unusedVariables false
set_option linter.unusedSimpArgs false
/-- a block of marks, known whole -/
def MrkS (w : World) (g : Nat) (zs : List Bool) : Prop := w.heap[g]? = some (.cells (zs.map Value.bool).toArray 4 (0, 0))
theorem MrkS.cell {w : World} {g : Nat} {zs : List Bool} (h : MrkS w g zs) (i : Nat) (hi : i < zs.length) : w.cell? ⟨g, i, none⟩ = some (.bool (zs.getD i false)) := by
  have e : w.cell? ⟨g, i, none⟩ = ((zs.map Value.bool).toArray)[i]? := cell_of_row w g i _ 4 (0, 0) h
  rw [e]; simp [hi]
theorem MrkS.free {w : World} {g : Nat} {zs : List Bool} (h : MrkS w g zs) (i : Nat) : w.frozen? ⟨g, i, none⟩ = false := frozen_of_row w g i _ 4 h
theorem MrkS.lt {w : World} {g : Nat} {zs : List Bool} (h : MrkS w g zs) : g < w.heap.size := lt_of_block h
theorem MrkS.same {w w' : World} {g : Nat} {zs : List Bool} (h : MrkS w g zs) (e : w'.heap[g]? = w.heap[g]?) : MrkS w' g zs := e.trans h
theorem MrkS.alloc {w : World} {g : Nat} {zs : List Bool} (h : MrkS w g zs) (o : Obj) : MrkS (w.alloc o) g zs := h.same (Below.heap_alloc _ _ _ h.lt)
theorem MrkS.below {w w' : World} {g B : Nat} {zs : List Bool} (h : MrkS w g zs) (k : Below B w w') (hb : g < B) : MrkS w' g zs := h.same (k.block g hb)
theorem MrkS.far {w : World} {g : Nat} {zs : List Bool} (h : MrkS w g zs) {p : Addr} (hne : g ≠ p.block) (u : Value) : MrkS (w.setCell p u) g zs := h.same (Below.heap_setCell _ _ _ _ hne)
theorem MrkS.set {w : World} {g : Nat} {zs : List Bool} (h : MrkS w g zs) (i : Nat) (x : Bool) : MrkS (w.setCell ⟨g, i, none⟩ (.bool x)) g (zs.set i x) := by
  have hh := heap_setCell_same w g i _ 4 (.bool x) h
  unfold MrkS
  rw [hh]
  congr 2
  simp [List.map_set]
theorem MrkS.made (w : World) (n : Nat) : MrkS (w.alloc (.cells (madeCells #[.bool false] n) 4)) w.heap.size (List.replicate n false) := by
  have h := heap_alloc_new w (.cells (madeCells #[.bool false] n) 4)
  unfold MrkS
  rw [h]
  congr 2
  apply Array.ext
  · simp [madeCells]
  · intro i h1 h2
    simp [madeCells, Nat.mod_one]
theorem infoM : (Tryz.prog.info? 4).map (fun i => (i.zero, i.size, i.bytes)) = some (some (.bool false), 1, 1) := by kernel_rfl
theorem make_runH (n m : Nat) (hm : n ≤ m) (hc : m ≤ 17592186044416) (w : World) :
    (Instr.makeSlice 23 (.int .i64 (n : Int)) (.int .i64 (m : Int))).run Tryz.prog w = .ok (.slice (some ⟨w.heap.size, 0, none⟩) n m) (w.alloc (.cells (madeCells #[.int .i64 0] m) 3)) := by
  obtain ⟨i0, hi, hz0, hz1, hz2⟩ := info_parts infoS
  have h := run_make (P := Tryz.prog) w 23 3 i0 (.int .i64 0) Tryz.underlying23 hi hz0 .i64 .i64 n m (by omega) (by omega) (by rw [hz2]; omega) (by omega)
  simpa [hz1, Value.cells] using h
/-- a list's numbers are marked, below n -/
def MarkS (w : World) (p n : Nat) (l : List Int) : Prop := ∃ g, w.cell? ⟨p, 0, none⟩ = some (.slice (some ⟨g, 0, none⟩) n n) ∧ ∀ i, i < n → w.cell? ⟨g, i, none⟩ = some (.bool (decide ((i : Int) ∈ l)))
theorem MarkS.later {w w' : World} {p n : Nat} {l : List Int} (h : MarkS w p n l) (hb : Below w.heap.size w w') : MarkS w' p n l := by
  obtain ⟨g, h1, h2⟩ := h
  exact ⟨g, (hb.cell (World.block_lt_of_cell? w _ h1)).trans h1, fun i hi => (hb.cell (World.block_lt_of_cell? w _ (h2 i hi))).trans (h2 i hi)⟩
/-- the marks, when the first k numbers have been seen -/
def SeenM (l : List Int) (n k : Nat) (M : List Bool) : Prop := M.length = n ∧ ∀ i, i < n → M.getD i false = decide ((i : Int) ∈ l.take k)
theorem SeenM.nil (l : List Int) (n : Nat) : SeenM l n 0 (List.replicate n false) := ⟨by simp, fun i hi => by simp [List.getD_eq_getElem?_getD, hi]⟩
theorem mem_next {l : List Int} {k : Nat} {x y : Int} (hx : l[k]? = some x) : y ∈ l.take (k + 1) ↔ y ∈ l.take k ∨ y = x := by
  rw [List.take_add_one, hx, Option.toList_some, List.mem_append, List.mem_singleton]
theorem SeenM.skip {l : List Int} {n k : Nat} {M : List Bool} {x : Int} (h : SeenM l n k M) (hx : l[k]? = some x) (ho : x < 0 ∨ (n : Int) ≤ x) : SeenM l n (k + 1) M := by
  refine ⟨h.1, fun i hi => ?_⟩
  rw [h.2 i hi]
  apply decide_eq_decide.2
  rw [mem_next hx]
  exact ⟨.inl, fun h => h.elim id fun e => by omega⟩
theorem SeenM.mark {l : List Int} {n k j : Nat} {M : List Bool} (h : SeenM l n k M) (hx : l[k]? = some (j : Int)) (hj : j < n) : SeenM l n (k + 1) (M.set j true) := by
  refine ⟨by rw [List.length_set]; exact h.1, fun i hi => ?_⟩
  by_cases e : i = j
  · subst e
    rw [List.getD_eq_getElem?_getD, List.getElem?_set_self (by rw [h.1]; exact hi)]
    exact (decide_eq_true ((mem_next hx).2 (.inr rfl))).symm
  · rw [List.getD_eq_getElem?_getD, List.getElem?_set_ne (by omega), ← List.getD_eq_getElem?_getD, h.2 i hi]
    apply decide_eq_decide.2
    rw [mem_next hx]
    exact ⟨.inl, fun h => h.elim id fun e2 => by omega⟩
theorem set_midS {A : List Int} {L k : Nat} (h : A.length = k) (hk : k < L) (x : Int) : (A ++ List.replicate (L - k) 0).set k x = A ++ [x] ++ List.replicate (L - (k + 1)) 0 := by
  rw [show L - k = (L - (k + 1)) + 1 by omega, List.replicate_succ, List.set_append_right _ _ (by omega), h, Nat.sub_self, List.set_cons_zero, List.append_assoc]
  rfl
theorem onesL_wid {xs : List Int} (ys : List Int) (h : Wid xs) (j : Nat) : Wid (onesL xs ys j) := by
  induction j with
  | zero => exact Wid.nil
  | succ j ih =>
    simp only [onesL]
    refine ih.append (Wid.one ?_)
    by_cases hm : (j : Int) ∈ ys
    · rw [if_pos hm]; omega
    · rw [if_neg hm]; exact h.getD j
end
section
open Go.RowKit
set_option linter.unusedVariables false
set_option linter.unusedSimpArgs false
/-- the first k numbers of a list are different ones, below L; each one's place is told -/
def SeenP (p : List Int) (L k : Nat) (zs : List Int) : Prop := zs.length = L ∧ (p.take k).Nodup ∧ (∀ x, x ∈ p.take k → 0 ≤ x ∧ x < L) ∧ ∀ j, j < k → zs.getD (p.getD j 0).toNat 0 = (j : Int)
theorem SeenP.nil (p : List Int) (L : Nat) : SeenP p L 0 (List.replicate L 0) := ⟨by simp, by simp, fun x h => by simp at h, fun j hj => by omega⟩
theorem mem_takeS {p : List Int} {j k : Nat} (hj : j < k) (hl : j < p.length) : p.getD j 0 ∈ p.take k := by
  rw [getD_elem hl, List.mem_take_iff_getElem]
  exact ⟨j, by omega, rfl⟩
theorem SeenP.next {p : List Int} {L k m : Nat} {zs : List Int} (h : SeenP p L k zs) (hk : k < p.length) (hx : p[k]? = some (m : Int)) (hm : m < L) (hn : ¬ (m : Int) ∈ p.take k) : SeenP p L (k + 1) (zs.set m (k : Int)) := by
  obtain ⟨h1, h2, h3, h4⟩ := h
  have ht : p.take (k + 1) = p.take k ++ [(m : Int)] := by rw [List.take_add_one, hx]; rfl
  refine ⟨by rw [List.length_set]; exact h1, ?_, fun x hx2 => ?_, fun j hj => ?_⟩
  · rw [ht, List.nodup_append]
    refine ⟨h2, by simp, fun a ha b hb e => ?_⟩
    rw [List.mem_singleton] at hb
    subst hb
    subst e
    exact hn ha
  · rw [ht, List.mem_append, List.mem_singleton] at hx2
    rcases hx2 with g | g
    · exact h3 x g
    · omega
  · by_cases e : j = k
    · subst e
      have e2 : p.getD j 0 = (m : Int) := by rw [List.getD_eq_getElem?_getD, hx]; rfl
      rw [e2, List.getD_eq_getElem?_getD, show (m : Int).toNat = m by omega, List.getElem?_set_self (by omega)]
      rfl
    · have hmem := mem_takeS (p := p) (j := j) (k := k) (by omega) (by omega)
      have hr := h3 _ hmem
      have hne : m ≠ (p.getD j 0).toNat := fun e2 => hn (by rw [e2, show (((p.getD j 0).toNat : Nat) : Int) = p.getD j 0 by omega]; exact hmem)
      rw [List.getD_eq_getElem?_getD, List.getElem?_set_ne hne, ← List.getD_eq_getElem?_getD]
      exact h4 j (by omega)
theorem SeenP.full {p : List Int} {L : Nat} {zs : List Int} (h : SeenP p L L zs) (hL : p.length = L) : IsPerm p ∧ zs = invL p := by
  obtain ⟨h1, h2, h3, h4⟩ := h
  rw [take_all hL] at h2 h3
  have hp := perm_of_all (p := upS L) (q := p) h2 (fun x hx => mem_upS.2 (h3 x hx)) (by rw [upS_length, hL]; exact Nat.le_refl _)
  have ip : IsPerm p := ⟨h2, fun x => by rw [← hp.mem_iff, mem_upS, hL]⟩
  refine ⟨ip, ?_⟩
  apply List.ext_getElem
  · rw [h1, invL_length, hL]
  · intro i g1 g2
    rw [← getD_elem g1, ← getD_elem g2, invL_at p (by omega)]
    have hmem := (ip.mem (i : Int)).2 (by omega)
    have hlt := List.idxOf_lt_length_of_mem hmem
    have hget := List.getElem_idxOf hlt
    have h5 := h4 (p.idxOf (i : Int)) (by omega)
    rw [getD_elem hlt, hget, show ((i : Nat) : Int).toNat = i by omega] at h5
    exact h5
theorem permC_no {p : List Int} (h : ¬ IsPerm p) (r : Int) : permC p r = 11 := by
  unfold permC
  rw [if_neg]
  exact fun e => h (permB_is e).1
theorem permC_yes {p : List Int} (h : IsPerm p) : permC p p.length = 0 := by unfold permC; rw [if_pos (is_permB h)]
theorem invV_no {p : List Int} (h : ¬ IsPerm p) : invV p = [] := by
  unfold invV
  rw [if_neg]
  exact fun e => h (permB_is e).1
theorem invV_yes {p : List Int} (h : IsPerm p) : invV p = invL p := by unfold invV; rw [if_pos (is_permB h)]
theorem not_twice {p : List Int} {k : Nat} (hk : k < p.length) (h : p.getD k 0 ∈ p.take k) : ¬ IsPerm p := by
  intro ip
  have hn := ip.nodup
  rw [← List.take_append_drop k p, List.nodup_append] at hn
  refine hn.2.2 _ h (p.getD k 0) ?_ rfl
  rw [List.drop_eq_getElem_cons hk, getD_elem hk]
  exact List.mem_cons_self ..
end
section
open Go.RowKit Go.Shelf
attribute [local go_sem] Oper.semAt_some
set_option linter.unusedVariables false
set_option linter.unusedSimpArgs false
theorem wideCallS {n : Nat} {P : Program} {f : FuncId} {args : Array Value} {w : World} {R : Ending → World → Prop} (h : Calls P f args w R) :
    Fence.wide.fn f ∧ (Fence.wide.depth.isSome = true → 1 ≤ n) ∧ CallsIn Fence.wide (n - 1) P f args w R := ⟨trivial, (fun h => by cases h), callsIn_wide.2 h⟩
theorem roundCallS {n l : Nat} {P : Program} {f : FuncId} {args : Array Value} {w : World} {R : Ending → World → Prop} (h : Calls P f args w R) :
    (Fence.wide.inRound l).fn f ∧ ((Fence.wide.inRound l).depth.isSome = true → 1 ≤ n) ∧ CallsIn (Fence.wide.inRound l) (n - 1) P f args w R := ⟨trivial, (fun h => by cases h), CallsIn.inRound l (callsIn_wide.2 h)⟩
/-- what a round is handed: the place, the number -/
def numAt (xs : List Int) {n : Nat} (x : Fin n) : Array Value := #[.int .i64 (x.val : Int), .int .i64 (xs[x.val]?.getD 0)]
/-- the last k places, from above -/
def DowntoS {n : Nat} (pre : List (Fin n)) (k : Nat) : Prop := pre.length = k ∧ ∀ i (h : i < pre.length), (pre[i]).val + i + 1 = n
theorem DowntoS.nil {n : Nat} : DowntoS ([] : List (Fin n)) 0 := ⟨rfl, fun i h => by simp at h⟩
theorem DowntoS.snoc {n k : Nat} {pre : List (Fin n)} (h : DowntoS pre k) (x : Fin n) (hx : x.val + k + 1 = n) : DowntoS (pre ++ [x]) (k + 1) := by
  obtain ⟨h1, h2⟩ := h
  refine ⟨by simp [h1], fun i hi => ?_⟩
  by_cases hlt : i < pre.length
  · rw [List.getElem_append_left hlt]; exact h2 i hlt
  · have : i = k := by simp at hi; omega
    subst this
    rw [List.getElem_append_right (by omega)]
    simp [h1, hx]
/-- nothing below G has changed, nor block Bs -/
structure KpS (G Bs : Nat) (W W' : World) : Prop where
  below : Below G W W'
  box : W'.heap[Bs]? = W.heap[Bs]?
theorem KpS.refl (G Bs : Nat) (W : World) : KpS G Bs W W := ⟨Below.refl _ _, rfl⟩
theorem KpS.trans {G Bs : Nat} {A B C : World} (h : KpS G Bs A B) (k : KpS G Bs B C) : KpS G Bs A C := ⟨h.below.trans k.below, k.box.trans h.box⟩
theorem KpS.b {G Bs : Nat} {w : World} (hg : G ≤ w.heap.size) (hn : Bs < w.heap.size) (W : World) (l : Nat) (o o' : Obj) (hl : w.heap.size ≤ l) (h : W.heap[l]? = some o) (h1 : o.isCells = false) (h2 : o.isWalk = false) : KpS G Bs W (W.putObj l o') :=
  ⟨belowK_b hg W l o o' hl h h1 h2, World.putObj_heap_other (by omega)⟩
theorem blkS_own {β : Type} (g : Nat) (f : β → List Int) : Own (fun s W => BlkS W g (f s)) := fun s X Y row hs hg hrow =>
  hs.grown hg (fun e' => by obtain ⟨o, ho, hc⟩ := hrow g e'.symm; rw [show X.heap[g]? = _ from hs] at ho; cases ho; cases hc)
theorem boxS_far {W : World} {B : Nat} {t : TypeId} {v : Value} (h : Boxed W B t v) {p : Addr} (hne : B ≠ p.block) (u : Value) : Boxed (W.setCell p u) B t v := (Below.heap_setCell _ _ _ _ hne).trans h
theorem ownS_and2 {β : Type} {I J : β → World → Prop} (h : Own I) (k : Own J) : Own (fun s W => I s W ∧ J s W) := fun s X Y row hs hg hr => ⟨h s X Y row hs.1 hg hr, k s X Y row hs.2 hg hr⟩
theorem BlkS.far {w : World} {g : Nat} {zs : List Int} (h : BlkS w g zs) {p : Addr} (hne : g ≠ p.block) (u : Value) : BlkS (w.setCell p u) g zs := h.same (Below.heap_setCell _ _ _ _ hne)
/-- the last k places, from above -/
def downs (L k : Nat) : List Nat := (List.range k).map fun i => L - 1 - i
theorem downs_next (L k : Nat) : downs L (k + 1) = downs L k ++ [L - 1 - k] := by
  unfold downs
  rw [List.range_succ, List.map_append]; rfl
theorem DowntoS.downs {n k : Nat} {pre : List (Fin n)} (h : DowntoS pre k) : pre.map Fin.val = downs n k := by
  obtain ⟨h1, h2⟩ := h
  apply List.ext_getElem
  · simp [Proofs.YtnhfjacifajdlaaGreat.downs, h1]
  · intro i g1 g2
    have h3 := h2 i (by simpa using g1)
    simp only [List.getElem_map, Proofs.YtnhfjacifajdlaaGreat.downs, List.getElem_range]
    omega
end
section
open Go.RowKit Go.Shelf
attribute [local go_sem] Oper.semAt_some
set_option linter.unusedVariables false
set_option linter.unusedSimpArgs false
/-- one round of Strides: the row, the stride -/
def strStep (s : List Int) (t : List Int × Int) (i : Nat) : List Int × Int := (t.1.set i t.2, wrap64 (t.2 * s.getD i 0))
def strOf (s : List Int) (ks : List Nat) : List Int × Int := ks.foldl (strStep s) (List.replicate s.length 0, 1)
theorem strOf_snoc (s : List Int) (ks : List Nat) (k : Nat) : strOf s (ks ++ [k]) = strStep s (strOf s ks) k := by simp [strOf]
theorem strOf_len (s : List Int) (ks : List Nat) : (strOf s ks).1.length = s.length := by
  suffices h : ∀ t : List Int × Int, t.1.length = s.length → (ks.foldl (strStep s) t).1.length = s.length from h _ (by simp)
  induction ks with
  | nil => exact fun t h => h
  | cons k ks ih => exact fun t h => ih _ (by simp only [strStep, List.length_set]; exact h)
theorem strOf_downs {s : List Int} (ok : OkS s) {k : Nat} (hk : k ≤ s.length) : strOf s (downs s.length k) = (List.replicate (s.length - k) 0 ++ (strideL s).drop (s.length - k), prodS (s.drop (s.length - k))) := by
  induction k with
  | zero => simp [strOf, downs, strideL_length, prodS]
  | succ k ih =>
    rw [downs_next, strOf_snoc, ih (by omega)]
    obtain ⟨j, hj⟩ : ∃ j, s.length - (k + 1) = j := ⟨_, rfl⟩
    have hjl : j < s.length := by omega
    rw [show s.length - k = j + 1 by omega, show s.length - 1 - k = j by omega, hj]
    unfold strStep
    have e1 : prodS (s.drop (j + 1)) * s.getD j 0 = prodS (s.drop j) := by rw [prodS_drop hjl, Int.mul_comm]
    have e2 := prodS_drop_le ok.pos j
    have e3 := prodS_pos (ok.pos.drop j)
    have e4 := ok.few
    have e5 : wrap64 (prodS (s.drop j)) = prodS (s.drop j) := by unfold wrap64; omega
    have hl : j < (strideL s).length := by rw [strideL_length]; exact hjl
    refine Prod.ext ?_ (by show wrap64 _ = _; rw [e1, e5])
    show (List.replicate (j + 1) 0 ++ (strideL s).drop (j + 1)).set j (prodS (s.drop (j + 1))) = List.replicate j 0 ++ (strideL s).drop j
    rw [List.drop_eq_getElem_cons hl, ← getD_elem hl, strideL_at s hjl, List.replicate_succ', List.append_assoc, List.set_append_right _ _ (by simp), List.length_replicate, Nat.sub_self]
    rfl
theorem strOf_all {s : List Int} (ok : OkS s) : strOf s (downs s.length s.length) = (strideL s, prodS s) := by
  rw [strOf_downs ok (Nat.le_refl _), Nat.sub_self]
  simp
theorem strideL_wid {s : List Int} (ok : OkS s) : Wid (strideL s) := by
  intro x hx
  unfold strideL at hx
  rw [List.mem_map] at hx
  obtain ⟨i, _, rfl⟩ := hx
  have e2 := prodS_drop_le ok.pos (i + 1)
  have e3 := prodS_pos (ok.pos.drop (i + 1))
  have e4 := ok.few
  omega
end
section
open Go.RowKit Go.Shelf
attribute [local go_sem] Oper.semAt_some
set_option linter.unusedVariables false
set_option linter.unusedSimpArgs false
/-- one round of Index: the row, what is left of the place -/
def idxStep (s : List Int) (t : List Int × Int) (i : Nat) : List Int × Int := (t.1.set i (t.2 % s.getD i 0), t.2 / s.getD i 0)
def idxOf (s : List Int) (n : Int) (ks : List Nat) : List Int × Int := ks.foldl (idxStep s) (List.replicate s.length 0, n)
theorem idxOf_snoc (s : List Int) (n : Int) (ks : List Nat) (k : Nat) : idxOf s n (ks ++ [k]) = idxStep s (idxOf s n ks) k := by simp [idxOf]
theorem idxOf_len {s : List Int} {n : Int} (ok : OkS s) (h0 : 0 ≤ n) (h1 : n < 1024) (ks : List Nat) (hk : ∀ k ∈ ks, k < s.length) : (idxOf s n ks).1.length = s.length ∧ 0 ≤ (idxOf s n ks).2 ∧ (idxOf s n ks).2 < 1024 := by
  suffices h : ∀ t : List Int × Int, t.1.length = s.length ∧ 0 ≤ t.2 ∧ t.2 < 1024 → (ks.foldl (idxStep s) t).1.length = s.length ∧ 0 ≤ (ks.foldl (idxStep s) t).2 ∧ (ks.foldl (idxStep s) t).2 < 1024 from h _ ⟨by simp, h0, h1⟩
  induction ks with
  | nil => exact fun t h => h
  | cons k ks ih =>
    intro t ⟨h1, h2, h3⟩
    have hd := ok.pos.getD (hk k (List.mem_cons_self ..))
    refine ih (fun j hj => hk j (List.mem_cons_of_mem _ hj)) _ ⟨by simp only [idxStep, List.length_set]; exact h1, ?_, ?_⟩
    · exact Int.ediv_nonneg h2 (by omega)
    · have := Int.ediv_le_self (s.getD k 0) h2
      simp only [idxStep]
      omega
theorem mod_divS {n d p : Int} (h0 : 0 ≤ n) (hd : 1 ≤ d) (hp : 1 ≤ p) : n % (d * p) / p = n / p % d := by
  obtain ⟨N, rfl⟩ : ∃ N : Nat, n = (N : Int) := ⟨n.toNat, by omega⟩
  obtain ⟨D, rfl⟩ : ∃ N : Nat, d = (N : Int) := ⟨d.toNat, by omega⟩
  obtain ⟨P, rfl⟩ : ∃ N : Nat, p = (N : Int) := ⟨p.toNat, by omega⟩
  have := Nat.mod_mul_left_div_self N P D
  rw [← Int.natCast_mul, ← Int.natCast_emod, ← Int.natCast_ediv, ← Int.natCast_ediv, ← Int.natCast_emod]
  rw [show D * P = D * P from rfl]
  exact congrArg Int.ofNat this
theorem idxS_drop {s : List Int} (hp : posS s) {n : Int} (h0 : 0 ≤ n) (j : Nat) : (idxS s n).drop j = idxS (s.drop j) (if j = 0 then n else n % prodS (s.drop j)) := by
  induction j generalizing s n with
  | zero => simp
  | succ j ih =>
    cases s with
    | nil => simp [idxS]
    | cons d ds =>
      simp only [idxS, List.drop_succ_cons]
      have hP := prodS_pos hp.tail
      rw [ih hp.tail (Int.emod_nonneg _ (by omega))]
      rw [if_neg (Nat.succ_ne_zero j)]
      by_cases hj : j = 0
      · subst hj; simp
      · rw [if_neg hj]
        congr 1
        rw [prodS_split ds j, Int.emod_emod_of_dvd _ (Int.dvd_mul_left _ _)]
theorem idxOf_downs {s : List Int} {n : Int} (ok : OkS s) (h0 : 0 ≤ n) (h1 : n < prodS s) {k : Nat} (hk : k ≤ s.length) : idxOf s n (downs s.length k) = (List.replicate (s.length - k) 0 ++ (idxS s n).drop (s.length - k), n / prodS (s.drop (s.length - k))) := by
  induction k with
  | zero =>
    have : (idxS s n).drop s.length = [] := List.drop_of_length_le (by rw [idx_length]; exact Nat.le_refl _)
    simp [idxOf, downs, this, prodS]
  | succ k ih =>
    rw [downs_next, idxOf_snoc, ih (by omega)]
    obtain ⟨j, hj⟩ : ∃ j, s.length - (k + 1) = j := ⟨_, rfl⟩
    have hjl : j < s.length := by omega
    rw [show s.length - k = j + 1 by omega, show s.length - 1 - k = j by omega, hj]
    unfold idxStep
    have e3 := prodS_pos (ok.pos.drop (j + 1))
    have hd := ok.pos.getD hjl
    have e1 := prodS_drop hjl
    refine Prod.ext ?_ ?_
    · show (List.replicate (j + 1) 0 ++ (idxS s n).drop (j + 1)).set j (n / prodS (s.drop (j + 1)) % s.getD j 0) = List.replicate j 0 ++ (idxS s n).drop j
      have hdr := idxS_drop ok.pos h0 j
      have ei : (idxS s n).drop j = (n / prodS (s.drop (j + 1)) % s.getD j 0) :: (idxS s n).drop (j + 1) := by
        have hl : j < (idxS s n).length := by rw [idx_length]; exact hjl
        rw [List.drop_eq_getElem_cons hl]
        congr 1
        have hm : (if j = 0 then n else n % prodS (s.drop j)) = n % prodS (s.drop j) := by
          by_cases hz : j = 0
          · subst hz
            rw [if_pos rfl, List.drop_zero, Int.emod_eq_of_lt h0 h1]
          · rw [if_neg hz]
        rw [hm, List.drop_eq_getElem_cons hl, List.drop_eq_getElem_cons hjl] at hdr
        simp only [idxS, List.cons.injEq] at hdr
        rw [hdr.1, ← mod_divS h0 hd e3]
        congr 2
        rw [getD_elem hjl]
        rfl
      rw [ei, List.replicate_succ', List.append_assoc, List.set_append_right _ _ (by simp), List.length_replicate, Nat.sub_self]
      rfl
    · show n / prodS (s.drop (j + 1)) / s.getD j 0 = n / prodS (s.drop j)
      rw [Int.ediv_ediv_of_nonneg (by omega), e1, Int.mul_comm]
theorem idxOf_all {s : List Int} {n : Int} (ok : OkS s) (h0 : 0 ≤ n) (h1 : n < prodS s) : idxOf s n (downs s.length s.length) = (idxS s n, n / prodS s) := by
  rw [idxOf_downs ok h0 h1 (Nat.le_refl _), Nat.sub_self]
  simp
end
end Go.Proofs.YtnhfjacifajdlaaGreat
