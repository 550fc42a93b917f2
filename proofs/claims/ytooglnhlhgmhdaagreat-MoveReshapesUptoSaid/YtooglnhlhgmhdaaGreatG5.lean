/-
  Package move as it landed: Transpose, Reshape, Broadcast, Pad. (Made by wip/gen/gen_mfuncs.py.)
-/
import Derived.Test.YtooglnhlhgmhdaaGreatG4
import Derived.Lib.SliceRun
namespace Go.Proofs.YtooglnhlhgmhdaaGreat
set_option maxRecDepth 100000
section
open Go.RowKit
set_option linter.unusedVariables false
set_option linter.unusedSimpArgs false
/-- what a row of this type holds -/
def kindT (t : TypeId) : IntKind := if t = 63 then .u32 else .i64
/-- only rows of limbs and of numbers from block G on were written to, and what was made since is new -/
def Loose (G : Nat) (X Y : World) : Prop := Below G X Y ∧ ∀ b, b < X.heap.size → Y.heap[b]? = X.heap[b]? ∨
  ∃ (c c' : Array Value) (t : TypeId), (t = 63 ∨ t = 3) ∧ X.heap[b]? = some (.cells c t (0, 0)) ∧ Y.heap[b]? = some (.cells c' t (0, 0)) ∧ ∀ (j : Nat) (z : Int), c[j]? = some (Value.int (kindT t) z) → ∃ z', c'[j]? = some (Value.int (kindT t) z')
theorem Loose.refl (G : Nat) (X : World) : Loose G X X := ⟨Below.refl _ _, fun _ _ => .inl rfl⟩
theorem Loose.of {G : Nat} {X Y : World} (h : Below X.heap.size X Y) (hG : G ≤ X.heap.size) : Loose G X Y := ⟨h.mono hG, fun b hb => .inl (h.block b hb)⟩
theorem Loose.trans {G : Nat} {X Y Z : World} (h : Loose G X Y) (k : Loose G Y Z) : Loose G X Z := by
  refine ⟨h.1.trans k.1, fun b hb => ?_⟩
  have hb2 : b < Y.heap.size := Nat.lt_of_lt_of_le hb h.1.size
  rcases h.2 b hb with e | ⟨c, c', t, ht, e1, e2, e3⟩
  · rcases k.2 b hb2 with f | ⟨d, d', s, hs, f1, f2, f3⟩
    · exact .inl (f.trans e)
    · exact .inr ⟨d, d', s, hs, e ▸ f1, f2, f3⟩
  · rcases k.2 b hb2 with f | ⟨d, d', s, hs, f1, f2, f3⟩
    · exact .inr ⟨c, c', t, ht, e1, f.trans e2, e3⟩
    · rw [e2] at f1
      cases f1
      refine .inr ⟨c, d', t, ht, e1, f2, fun j z hz => ?_⟩
      obtain ⟨z', hz'⟩ := e3 j z hz
      exact f3 j z' hz'
theorem Loose.set {G b k : Nat} {X : World} {t : TypeId} {cur : Array Value} {z : Int} (hb : G ≤ b) (h : X.heap[b]? = some (.cells cur t (0, 0))) (ht : t = 63 ∨ t = 3) : Loose G X (X.setCell ⟨b, k, none⟩ (.int (kindT t) z)) := by
  refine ⟨(Below.refl _ _).setCell (p := ⟨b, k, none⟩) hb _, fun i hi => ?_⟩
  by_cases e : i = b
  · subst e
    refine .inr ⟨cur, _, t, ht, h, heap_setCell_same X i k cur t (.int (kindT t) z) h, fun j y hj => ?_⟩
    rw [Array.getElem?_setIfInBounds]
    by_cases ek : k = j
    · subst ek
      rw [if_pos rfl, if_pos (Array.getElem?_eq_some_iff.1 hj).1]
      exact ⟨z, rfl⟩
    · rw [if_neg ek]
      exact ⟨y, hj⟩
  · exact .inl (Below.heap_setCell _ _ _ _ e)
theorem Loose.drew {G : Nat} {X Y : World} (h : Loose G X Y) : Loose G X Y.drew := ⟨h.1.drew, h.2⟩
theorem Loose.row {G g : Nat} {X Y : World} {t : TypeId} {cs : Array Value} (L : Loose G X Y) (R : Row X g t cs) (h1 : t ≠ 63) (h2 : t ≠ 3) : Row Y g t cs := by
  rcases L.2 g R.lt with e | ⟨c, c', s, hs, e1, _, _⟩
  · exact e.trans R
  · have := R.symm.trans e1
    cases this
    rcases hs with h | h
    · exact absurd h h1
    · exact absurd h h2
theorem Cellz.lowT {lo lo' g : Nat} {w : World} {v : Value} (h : Cellz lo g w v) (hl : lo' ≤ lo) : Cellz lo' g w v := by
  obtain ⟨ad, n, cap, rfl, hm, h⟩ := h
  refine ⟨ad, n, cap, rfl, hm, ?_⟩
  rcases h with h | ⟨b, cur, rfl, h1, h2, h3, h4⟩
  · exact .inl h
  · exact .inr ⟨b, cur, rfl, by omega, h2, h3, h4⟩
/-- the limbs of a number may be written to -/
def LootQ (G g : Nat) (w : World) (v : Value) : Prop := ∃ (p : Bool) (x y : Value), v = .agg #[.bool p, x, y] ∧ Cellz G g w x ∧ Cellz G g w y
theorem LootQ.mono {lo lo' g g' : Nat} {w : World} {v : Value} (h : LootQ lo g w v) (hl : lo' ≤ lo) (hg : g ≤ g') : LootQ lo' g' w v := by
  obtain ⟨p, x, y, rfl, h1, h2⟩ := h
  exact ⟨p, x, y, rfl, (h1.mono hg).lowT hl, (h2.mono hg).lowT hl⟩
end
section
open Go.RowKit
set_option linter.unusedVariables false
set_option linter.unusedSimpArgs false
/-- elements that may be written to -/
def LootE (G gl : Nat) (w : World) (v : Value) : Prop := ∃ (b : Option Addr) (m cap : Nat), v = .slice b m cap ∧ m ≤ maxLen ∧ (m = 0 ∨ ∃ (bb : Nat) (cs : Array Value), b = some ⟨bb, 0, none⟩ ∧ Row w bb 58 cs ∧
  ∀ k, k < m → ∃ x y, cs[k * 3 + 1]? = some x ∧ cs[k * 3 + 2]? = some y ∧ Cellz G gl w x ∧ Cellz G gl w y)
theorem LootE.mono {lo lo' g g' : Nat} {w : World} {v : Value} (h : LootE lo g w v) (hl : lo' ≤ lo) (hg : g ≤ g') : LootE lo' g' w v := by
  obtain ⟨b, m, cap, rfl, hm, h⟩ := h
  refine ⟨b, m, cap, rfl, hm, ?_⟩
  rcases h with h | ⟨bb, cs, rfl, R, hk⟩
  · exact .inl h
  · refine .inr ⟨bb, cs, rfl, R, fun k hlt => ?_⟩
    obtain ⟨x, y, h1, h2, h3, h4⟩ := hk k hlt
    exact ⟨x, y, h1, h2, (h3.mono hg).lowT hl, (h4.mono hg).lowT hl⟩
theorem CellzS.lowT {lo lo' g : Nat} {w : World} {v : Value} (h : CellzS lo g w v) (hl : lo' ≤ lo) : CellzS lo' g w v := by
  obtain ⟨ad, n, cap, rfl, hm, h⟩ := h
  refine ⟨ad, n, cap, rfl, hm, ?_⟩
  rcases h with h | ⟨b, cur, rfl, h1, h2, h3, h4⟩
  · exact .inl h
  · exact .inr ⟨b, cur, rfl, by omega, h2, h3, h4⟩
/-- a tensor that may be written to -/
def LootT (G gl : Nat) (w : World) (va vb : Value) : Prop := CellzS G gl w va ∧ LootE G gl w vb
theorem LootT.mono {lo lo' g g' : Nat} {w : World} {va vb : Value} (h : LootT lo g w va vb) (hl : lo' ≤ lo) (hg : g ≤ g') : LootT lo' g' w va vb := ⟨(h.1.mono hg).lowT hl, h.2.mono hl hg⟩
theorem LootT.kept {G gl gb : Nat} {w w' : World} {va vb : Value} {cs : Array Value} (h : LootT G gl w va vb) (K : Kept gb w w') (R : Row w gb 26 cs) : LootT G gl w' va vb := by
  have hne : ∀ {b : Nat} {t : TypeId} {c : Array Value}, w.heap[b]? = some (.cells c t (0, 0)) → t ≠ 26 → w'.heap[b]? = some (.cells c t (0, 0)) := fun {b t c} hb ht => by
    refine (K.block b (lt_of_block hb) fun e => ?_).trans hb
    subst e
    have := hb.symm.trans R
    simp only [Option.some.injEq, Obj.cells.injEq] at this
    exact ht this.2.1
  have hcz : ∀ {v : Value}, Cellz G gl w v → Cellz G gl w' v := fun {v} hv => by
    obtain ⟨ad, n, cap, rfl, hm, hv⟩ := hv
    refine ⟨ad, n, cap, rfl, hm, ?_⟩
    rcases hv with hv | ⟨b, cur, rfl, h1, h2, h3, h4⟩
    · exact .inl hv
    · exact .inr ⟨b, cur, rfl, h1, h2, hne h3 (by decide), h4⟩
  obtain ⟨hs, he⟩ := h
  constructor
  · obtain ⟨ad, n, cap, rfl, hm, hv⟩ := hs
    refine ⟨ad, n, cap, rfl, hm, ?_⟩
    rcases hv with hv | ⟨b, cur, rfl, h1, h2, h3, h4⟩
    · exact .inl hv
    · exact .inr ⟨b, cur, rfl, h1, h2, hne h3 (by decide), h4⟩
  · obtain ⟨b, m, cap, rfl, hm, he⟩ := he
    refine ⟨b, m, cap, rfl, hm, ?_⟩
    rcases he with he | ⟨bb, c, rfl, R2, hk⟩
    · exact .inl he
    · refine .inr ⟨bb, c, rfl, hne R2 (by decide), fun k hlt => ?_⟩
      obtain ⟨x, y, h1, h2, h3, h4⟩ := hk k hlt
      exact ⟨x, y, h1, h2, hcz h3, hcz h4⟩
/-- a list of tensors that may be written to -/
def Loots (G gl gb n : Nat) (w : World) (cs : Array Value) : Prop := Row w gb 26 cs ∧ ∀ i, i < n → ∃ va vb, cs[i * 2]? = some va ∧ cs[i * 2 + 1]? = some vb ∧ LootT G gl w va vb
theorem Loots.two {G gl : Nat} {w : World} {gb : Nat} {v0 v1 v2 v3 : Value} (R : Row w gb 26 #[v0, v1, v2, v3]) (h0 : LootT G gl w v0 v1) (h1 : LootT G gl w v2 v3) : Loots G gl gb 2 w #[v0, v1, v2, v3] :=
  ⟨R, fun i hi => by
    have hc : i = 0 ∨ i = 1 := by omega
    rcases hc with rfl | rfl
    · exact ⟨v0, v1, rfl, rfl, h0⟩
    · exact ⟨v2, v3, rfl, rfl, h1⟩⟩
theorem Loots.three {G gl B : Nat} {w : World} {v : Value} {v0 v1 v2 v3 v4 v5 : Value} (h : w.ownsRow B 26 2 v 3 [v0, v1, v2, v3, v4, v5]) (h0 : LootT G gl w v0 v1) (h1 : LootT G gl w v2 v3) (h2 : LootT G gl w v4 v5) :
    ∃ gb cap cs, v = .slice (some ⟨gb, 0, none⟩) 3 cap ∧ Loots G gl gb 3 w cs := by
  obtain ⟨_, hv⟩ := h
  rcases hv with ⟨_, hn⟩ | ⟨g, cap, cur, rfl, hb, hg, hc, hm, hs, ht⟩
  · cases hn
  · have hat : ∀ j, j < 6 → cur[j]? = [v0, v1, v2, v3, v4, v5][j]? := fun j hj => by
      have e1 : (cur.toList.take (3 * 2))[j]? = [v0, v1, v2, v3, v4, v5][j]? := by rw [ht]
      rw [List.getElem?_take, if_pos (by omega), Array.getElem?_toList] at e1
      exact e1
    refine ⟨g, cap, cur, rfl, hg, fun i hi => ?_⟩
    have hc : i = 0 ∨ i = 1 ∨ i = 2 := by omega
    rcases hc with rfl | rfl | rfl
    · exact ⟨v0, v1, hat 0 (by omega), hat 1 (by omega), h0⟩
    · exact ⟨v2, v3, hat 2 (by omega), hat 3 (by omega), h1⟩
    · exact ⟨v4, v5, hat 4 (by omega), hat 5 (by omega), h2⟩
end
section
open Go.RowKit
set_option linter.unusedVariables false
set_option linter.unusedSimpArgs false
theorem make_rowP (m : Nat) (hc : m ≤ 1000000000000) (w : World) :
    (Instr.makeSlice 24 (.int .i64 0) (.int .i64 (m : Int))).run Tryz.prog w = .ok (.slice (some ⟨w.heap.size, 0, none⟩) 0 m) (w.alloc (.cells (madeCells #[.bool false, .slice none 0 0, .slice none 0 0] (m * 3)) 58)) := by
  obtain ⟨i0, hi, hz0, hz1, hz2⟩ := info_parts infoQ
  have h := run_make (P := Tryz.prog) w 24 58 i0 (.agg #[.bool false, .slice none 0 0, .slice none 0 0]) Tryz.underlying24 hi hz0 .i64 .i64 0 m (by omega) (by omega) (by rw [hz2]; omega) (by omega)
  simpa [hz1, Value.cells] using h
theorem madeP_len (z : Array Value) (m : Nat) : (madeCells z m).size = m := by
  simp [madeCells]
theorem cells_argU {w : World} {ys : List Int} {ad : Addr} {cap : Nat} (lx : Lim w (some ad) ys) : ∀ j u, (ys.map (Value.int .u32))[j]? = some u → w.cell? (ad.add j) = some u := by
  intro j u hj
  rcases lx with rfl | ⟨b, off, e, hc⟩
  · simp at hj
  · cases e
    rw [List.getElem?_map] at hj
    have hjl : j < ys.length := by
      rcases Nat.lt_or_ge j ys.length with h | h
      · exact h
      · rw [List.getElem?_eq_none h] at hj; cases hj
    rw [show (⟨b, off, none⟩ : Addr).add j = ⟨b, off + j, none⟩ from (by unfold Addr.add; split <;> simp_all), hc j hjl, ← hj]
    simp [hjl]
set_option maxRecDepth 100000 in
set_option maxHeartbeats 2000000 in
theorem cloneN_any {u : Value} {xs : List Int} {ad : Option Addr} {cap : Nat} {w : World} (A : Arg w u xs ad cap) (hn : ad = none → cap = 0) (hx : xs.length ≤ 134217728) :
    Calls Tryz.prog 88 #[u] w fun e w' => ∃ r, e = .returned r ∧ Num w.heap.size w' r xs ∧ Below w.heap.size w w' := by
  obtain ⟨i0, hi, hz0, hz1, hz2⟩ := info_parts infoLimb
  have q22 : ∀ (w : World) (a : Option Addr) (n c n' c' : Nat), (binOp .eql 56 (.slice a n c) (.slice none n' c')).run Tryz.prog w = .ok (.bool a.isNone) w := fun w a n c n' c' => Lib.run_eql_slice_nil w _ _ a n c n' c' Tryz.underlying56
  obtain ⟨rfl, lx, hle, wx⟩ := A
  clear wx
  cases ad with
  | none =>
    have hc := hn rfl
    subst hc
    obtain rfl : xs = [] := List.eq_nil_of_length_eq_zero (by omega)
    clear lx hle hn hx
    go_enter Tryz.func88, Tryz.ntmps88
    go_wp2
    go_ret
    exact ⟨_, rfl, World.ownsRow_nil _ _ _ _, Below.refl _ _⟩
  | some a =>
    have HC := Lib.hid (cells_argU (cap := cap) (lx.later ((Below.refl w.heap.size w).alloc (Nat.le_refl _) (.cells #[] 63))))
    clear lx hn
    go_enter Tryz.func88, Tryz.ntmps88
    go_wp2_with (at_builtin; refine wpList_append_own _ rfl _ _ 56 rfl w.heap.size 63 i0 (.int .u32 0) 1 4 Tryz.underlying56 hi hz0 hz1 hz2 rfl (by decide) _ _ _ rfl (World.ownsRow_made w #[] 0 (Nat.le_refl _) (Nat.zero_le _) rfl) a xs.length cap (xs.map (Value.int .u32)) rfl ?qc1 HC.out (ints_oneCell _ _) ?qc4 ?qc5 ?qc6 ?_)
    case qc1 => simp
    case qc4 => unfold maxLen; omega
    case qc5 => omega
    case qc6 => simp
    intro v' w1 hown hgrow hnil
    go_wp2
    go_ret
    refine ⟨v', rfl, ?_, ?_⟩
    · unfold Num; simpa using hown
    · exact ((Below.refl _ w).alloc (Nat.le_refl _) _).grown hgrow (by simp) (by intro k hk; simp [Value.ownBlock] at hk; omega)
set_option maxRecDepth 100000 in
set_option maxHeartbeats 2000000 in
theorem cloneS_any {u : Value} {xs : List Int} {ad : Option Addr} {cap : Nat} {w : World} (A : ArgS w u xs ad cap) (hn : ad = none → cap = 0) (hx : xs.length ≤ 17592186044416) :
    Calls Tryz.prog 60 #[u] w fun e w' => ∃ r, e = .returned r ∧ ResS w.heap.size w' r xs ∧ Below w.heap.size w w' := by
  obtain ⟨i0, hi, hz0, hz1, hz2⟩ := info_parts infoS
  have q22 : ∀ (w : World) (a : Option Addr) (n c n' c' : Nat), (binOp .eql 23 (.slice a n c) (.slice none n' c')).run Tryz.prog w = .ok (.bool a.isNone) w := fun w a n c n' c' => Lib.run_eql_slice_nil w _ _ a n c n' c' Tryz.underlying23
  have HW := Lib.hid A.wf
  obtain ⟨rfl, lx, hle, wx⟩ := A
  clear wx
  cases ad with
  | none =>
    have hc := hn rfl
    subst hc
    obtain rfl : xs = [] := List.eq_nil_of_length_eq_zero (by omega)
    clear lx hle hn hx
    go_enter Tryz.func60, Tryz.ntmps60
    go_wp2
    go_ret
    exact ⟨_, rfl, ResS.nil _ _, Below.refl _ _⟩
  | some a =>
    have HC := Lib.hid (cells_argS (cap := cap) (lx.later ((Below.refl w.heap.size w).alloc (Nat.le_refl _) (.cells #[] 3))))
    clear lx hn
    go_enter Tryz.func60, Tryz.ntmps60
    go_wp2_with (at_builtin; refine wpList_append_own _ rfl _ _ 23 rfl w.heap.size 3 i0 (.int .i64 0) 1 8 Tryz.underlying23 hi hz0 hz1 hz2 rfl (by decide) _ _ _ rfl (World.ownsRow_made w #[] 0 (Nat.le_refl _) (Nat.zero_le _) rfl) a xs.length cap (xs.map (Value.int .i64)) rfl ?qc1 HC.out (ints_oneCell _ _) ?qc4 ?qc5 ?qc6 ?_)
    case qc1 => simp
    case qc4 => unfold maxLen; omega
    case qc5 => omega
    case qc6 => simp
    intro v' w1 hown hgrow hnil
    go_wp2
    go_ret
    refine ⟨v', rfl, ⟨?_, HW.out⟩, ?_⟩
    · unfold NumS; simpa using hown
    · exact ((Below.refl _ w).alloc (Nat.le_refl _) _).grown hgrow (by simp) (by intro k hk; simp [Value.ownBlock] at hk; omega)
/-- the first number that is not 0 -/
def orL : List Int → Int
  | [] => 0
  | x :: r => if x = 0 then orL r else x
theorem orL_nil {xs : List Int} (h : ∀ x ∈ xs, x = 0) : orL xs = 0 := by
  induction xs with
  | nil => rfl
  | cons x r ih =>
    unfold orL
    rw [if_pos (h x (by simp))]
    exact ih fun y hy => h y (by simp [hy])
theorem orL_at {xs : List Int} {k : Nat} {x : Int} (h : ∀ j, j < k → xs.getD j 0 = 0) (hk : xs[k]? = some x) (hx : x ≠ 0) : orL xs = x := by
  induction xs generalizing k with
  | nil => simp at hk
  | cons y r ih =>
    cases k with
    | zero =>
      simp at hk
      subst hk
      unfold orL
      rw [if_neg hx]
    | succ k =>
      have h0 := h 0 (by omega)
      simp at h0
      unfold orL
      rw [if_pos h0]
      exact ih (k := k) (fun j hj => by simpa using h (j + 1) (by omega)) (by simpa using hk)
set_option maxRecDepth 100000 in
set_option maxHeartbeats 2000000 in
theorem or_any {w : World} {xs : List Int} {b : Nat} {cap : Nat} (hc : ∀ k, k < xs.length → w.cell? ⟨b, k, none⟩ = some (.int .i64 (xs.getD k 0))) (hm : xs.length ≤ 1000000) :
    Calls Tryz.prog 39 #[.slice (some ⟨b, 0, none⟩) xs.length cap] w fun e w' => e = .returned (.int .i64 (orL xs)) ∧ w = w' := by
  obtain ⟨d, hd⟩ : ∃ d, orL xs = d := ⟨_, rfl⟩
  have HD := Lib.hid hd
  have HC := Lib.hid hc
  obtain ⟨m, hm2⟩ : ∃ m, xs.length = m := ⟨_, rfl⟩
  have HM := Lib.hid hm2
  rw [hd]
  rw [hm2] at hm ⊢
  clear hd hc hm2
  go_enter Tryz.func39, Tryz.ntmps39
  go_wp2_with fail
  go_loopw [5, 8] (fun _ i wr => ∃ k : Nat, i = .int .i64 k ∧ k ≤ m ∧ (∀ j, j < k → xs.getD j 0 = 0) ∧ w = wr) (fun _ i _ => m - (intOf i).toNat)
  case atStart => exact ⟨0, rfl, Nat.zero_le _, (fun j hj => by omega), by trivial⟩
  case round =>
    obtain ⟨k, rfl, hk, hall, rfl⟩ := hrel
    have HA := Lib.hid hall
    clear hall
    by_cases hlt : k < m
    · have c1 := HC.out k (by rw [HM.out]; exact hlt)
      obtain ⟨x, hx⟩ : ∃ x, xs.getD k 0 = x := ⟨_, rfl⟩
      rw [hx] at c1
      have HX := Lib.hid hx
      have hk0 : (0 : Int) ≤ (k : Int) := Int.natCast_nonneg _
      have hk1 : (k : Int) < (m : Int) := by omega
      clear hx
      by_cases e : x = 0
      · have hne : (x != 0) = false := by simp [e]
        go_wp2
        go_roundw
        case rel =>
          refine ⟨k + 1, by go_num, by omega, fun j hj => ?_, by trivial⟩
          by_cases h : j = k
          · rw [h, HX.out, e]
          · exact HA.out j (by omega)
        case measure => simp [intOf]; omega
      · have hne : (x != 0) = true := by simp [e]
        have hd : d = x := by
          rw [← HD.out]
          refine orL_at HA.out ?_ e
          have : k < xs.length := by rw [HM.out]; exact hlt
          rw [List.getElem?_eq_getElem this, ← HX.out]
          simp [this]
        subst hd
        go_wp2
        go_ret
        exact ⟨rfl, rfl⟩
    · obtain rfl : k = m := by omega
      have hk1 : ¬ (k : Int) < (k : Int) := by omega
      have hd : d = 0 := by
        rw [← HD.out]
        refine orL_nil fun x hx => ?_
        obtain ⟨j, hj, rfl⟩ := List.mem_iff_getElem.1 hx
        have h := HA.out j (by rw [← HM.out]; exact hj)
        simpa [hj] using h
      subst hd
      go_wp2
      go_ret
      exact ⟨rfl, rfl⟩
end
section
open Go.RowKit
set_option linter.unusedVariables false
set_option linter.unusedSimpArgs false
/-- limbs of a number that may be, copied -/
theorem copied_res {base n : Nat} {w : World} {q : Q3} {ad bd : Option Addr} {ca cb : Nat} (hok : okQ q = true) (A : Num base w (.slice ad q.num.length ca) q.num) (B : Num base w (.slice bd q.den.length cb) q.den) (wa : Wf q.num) (wb : Wf q.den) (h1 : q.num.length ≤ n) (h2 : q.den.length ≤ n) :
    ResQ base w (.agg #[.bool q.neg, .slice ad q.num.length ca, .slice bd q.den.length cb]) q.rat n := by
  unfold okQ validB isB at hok
  simp only [Bool.and_eq_true, decide_eq_true_eq, beq_iff_eq] at hok
  obtain ⟨e1, ⟨f1, v1⟩, f2, v2⟩ := hok
  exact ⟨q.num, q.den, ad, bd, ca, cb, by rw [e1], ⟨A, wa, f1, v1⟩, ⟨B, wb, f2, v2⟩, h1, h2⟩
end
section
open Go.RowKit
set_option linter.unusedVariables false
set_option linter.unusedSimpArgs false
/-- a number of the reference: in new memory, or in what was handed in -/
def ResA (base : Nat) (w0 W : World) (v : Value) (x : Rat) (n : Nat) : Prop := ResR base W v x n ∨ ArgR w0 v x n
theorem ResA.later {base n : Nat} {w0 W W' : World} {v : Value} {x : Rat} (h : ResA base w0 W v x n) (hb : Below W.heap.size W W') : ResA base w0 W' v x n := h.imp (fun h => h.later hb) id
theorem ResA.far {base n g : Nat} {w0 W W' : World} {v : Value} {x : Rat} {t : TypeId} {cs : Array Value} (h : ResA base w0 W v x n) (R : Row W g t cs) (ht : t ≠ 3) (hk : ∀ k, k ≠ g → W'.heap[k]? = W.heap[k]?) : ResA base w0 W' v x n := h.imp (fun h => h.far R ht hk) id
theorem ResA.apart {base base' n : Nat} {T : TypeId} {w0 w w' : World} {v u : Value} {es : List E3} {x : Rat} {o : Obj} (h : OwnE base T w v es) (hg : (w.alloc o).grownBy w' v.ownBlock) (hT : T ≠ 3) (k : ResA base' w0 w u x n) : ResA base' w0 w' u x n := k.imp (fun k => ResR.apart h hg hT k) id
theorem ResA.arg {base n : Nat} {w0 W : World} {v : Value} {x : Rat} (h : ResA base w0 W v x n) (hb : Below w0.heap.size w0 W) : ArgR W v x n := h.elim (fun h => h.arg) (fun h => h.later hb)
theorem ArgR.shape {w : World} {v : Value} {x : Rat} {n : Nat} (h : ArgR w v x n) : ∃ m a1 n1 c1 a2 n2 c2, v = .agg #[.bool m, .slice a1 n1 c1, .slice a2 n2 c2] := by
  obtain ⟨_, _, _, _, _, _, rfl, _⟩ := h
  exact ⟨_, _, _, _, _, _, _, rfl⟩
/-- a tensor of the reference, wherever it lies -/
def TenR (w : World) (v : Value) (s : List Int) (L : List Rat) (n : Nat) : Prop := ∃ a ca b cb, TensR w v s L n a ca b cb
theorem TenR.later {w w' : World} {v : Value} {s : List Int} {L : List Rat} {n : Nat} (h : TenR w v s L n) (hb : Below w.heap.size w w') : TenR w' v s L n := by
  obtain ⟨a, ca, b, cb, h⟩ := h
  exact ⟨a, ca, b, cb, h.later hb⟩
end
section
open Go.RowKit
set_option linter.unusedVariables false
set_option linter.unusedSimpArgs false
/-- what an operation on tensors answers: a tensor, or why there is none -/
def One (base : Nat) (w' : World) (e : Ending) (c : Int) (s : List Int) (L : List Rat) (N : Nat) : Prop :=
  (c = 0 ∧ ∃ r, e = .returned (.tuple #[r, .int .i64 0]) ∧ ResT base w' r s L N) ∨ (c ≠ 0 ∧ e = .returned (.tuple #[noTensor, .int .i64 c]))
theorem mayT_valid {s : List Int} {qs : List Q3} (h : mayT s qs = 0) : (qs.length : Int) = countS s ∧ ∀ q ∈ qs, okQ q = true := by
  unfold mayT at h
  split at h
  · rename_i h1; exact absurd h h1
  · split at h
    · cases h
    · rename_i h2
      split at h
      · rename_i h3
        exact ⟨by omega, List.all_eq_true.1 h3⟩
      · cases h
theorem mayT_rank {s : List Int} {qs : List Q3} (h : mayT s qs = 0) : mayC s = 0 := by
  unfold mayT at h
  split at h
  · rename_i h1; exact absurd h h1
  · rename_i h1; simpa using h1
end
section
set_option linter.unusedVariables false
set_option linter.unusedSimpArgs false
/-- the element at places; 0 where there are no such ones -/
def elV (s : List Int) (L : List Rat) (xs : List Int) : Rat := if inS s xs then L.getD (placeS s xs).toNat 0 else 0
/-- what a shape is filled with -/
def fillV (s : List Int) (F : List Int → Rat) : List Rat := (List.range (prodS s).toNat).map fun k : Nat => F (idxS s (k : Int))
theorem fillV_len (s : List Int) (F : List Int → Rat) : (fillV s F).length = (prodS s).toNat := by simp [fillV]
theorem elV_in {s xs : List Int} {L : List Rat} (h : inS s xs) : elV s L xs = L.getD (placeS s xs).toNat 0 := if_pos h
theorem elV_out {s xs : List Int} {L : List Rat} (h : ¬ inS s xs) : elV s L xs = 0 := if_neg h
theorem fillV_self {s : List Int} (hp : posS s) {L : List Rat} (hl : L.length = (prodS s).toNat) : fillV s (elV s L) = L := by
  apply List.ext_getElem
  · rw [fillV_len, hl]
  · intro i g1 g2
    simp only [fillV, List.getElem_map, List.getElem_range]
    obtain ⟨h1, h2⟩ := place_idx hp (n := (i : Int)) (by omega) (by omega)
    rw [elV_in h1, h2]
    simp [g2]
theorem posS.ok {s : List Int} (h : OkS s) : posS s := h.pos
/-- the list's numbers, each by its place -/
theorem getD_map_range {n : Nat} (f : Nat → Int) {i : Nat} (h : i < n) : ((List.range n).map f).getD i 0 = f i := by
  simp [List.getD_eq_getElem?_getD, h]
theorem list_eq_getD {a b : List Int} (hl : a.length = b.length) (h : ∀ i, i < a.length → a.getD i 0 = b.getD i 0) : a = b := by
  apply List.ext_getElem hl
  intro i g1 g2
  have := h i g1
  simpa [List.getD_eq_getElem?_getD, g1, g2] using this
def trS (s p : List Int) : List Int := p.map fun n => s.getD n.toNat 0
def trI (p xs : List Int) : List Int := (List.range p.length).map fun n : Nat => xs.getD (p.idxOf (n : Int)) 0
theorem trS_len (s p : List Int) : (trS s p).length = p.length := by simp [trS]
theorem trI_len (p xs : List Int) : (trI p xs).length = p.length := by simp [trI]
theorem trS_at (s p : List Int) {i : Nat} (h : i < p.length) : (trS s p).getD i 0 = s.getD (p.getD i 0).toNat 0 := by
  simp [trS, List.getD_eq_getElem?_getD, h]
theorem trI_at (p xs : List Int) {n : Nat} (h : n < p.length) : (trI p xs).getD n 0 = xs.getD (p.idxOf (n : Int)) 0 := getD_map_range _ h
theorem IsPerm.idx {p : List Int} (h : IsPerm p) {n : Nat} (hn : n < p.length) : p.idxOf (n : Int) < p.length ∧ p.getD (p.idxOf (n : Int)) 0 = (n : Int) := by
  have hm := (h.mem (n : Int)).2 (by omega)
  have hlt := List.idxOf_lt_length_of_mem hm
  exact ⟨hlt, by rw [getD_elem hlt]; exact List.getElem_idxOf hlt⟩
theorem IsPerm.low {p : List Int} (h : IsPerm p) {i : Nat} (hi : i < p.length) : 0 ≤ p.getD i 0 ∧ p.getD i 0 < p.length := (h.back hi).1
theorem IsPerm.idx_at {p : List Int} (h : IsPerm p) {i : Nat} (hi : i < p.length) : p.idxOf (p.getD i 0) = i := by
  have h2 := (h.back hi).2
  have h1 := h.low hi
  rw [invL_at p (by omega), show (((p.getD i 0).toNat : Nat) : Int) = p.getD i 0 by omega] at h2
  omega
/-- a list of numbers that was filled through a permutation -/
theorem trI_eq {p xs zs : List Int} (hp : IsPerm p) (hl : zs.length = p.length) (h : ∀ j, j < p.length → zs.getD (p.getD j 0).toNat 0 = xs.getD j 0) : zs = trI p xs := by
  refine list_eq_getD (by rw [hl, trI_len]) fun i hi => ?_
  obtain ⟨k1, k2⟩ := hp.idx (n := i) (by omega)
  rw [trI_at p xs (by omega), ← h _ k1, k2]
  rfl
/-- a row that is filled through a permutation, up to place k -/
def FillP (p xs zs : List Int) (k : Nat) : Prop := zs.length = p.length ∧ ∀ j, j < k → zs.getD (p.getD j 0).toNat 0 = xs.getD j 0
theorem FillP.nil (p xs : List Int) : FillP p xs (List.replicate p.length 0) 0 := ⟨by simp, fun j hj => by omega⟩
theorem getD_set_self (zs : List Int) (i : Nat) (x : Int) (h : i < zs.length) : (zs.set i x).getD i 0 = x := by
  simp [List.getD_eq_getElem?_getD, h]
theorem getD_set_ne (zs : List Int) {i j : Nat} (x : Int) (h : i ≠ j) : (zs.set i x).getD j 0 = zs.getD j 0 := by
  simp [List.getD_eq_getElem?_getD, h]
theorem FillP.next {p xs zs : List Int} {k : Nat} (hp : IsPerm p) (hk : k < p.length) (h : FillP p xs zs k) : FillP p xs (zs.set (p.getD k 0).toNat (xs.getD k 0)) (k + 1) := by
  obtain ⟨h1, h2⟩ := h
  have hl := hp.low hk
  refine ⟨by rw [List.length_set]; exact h1, fun j hj => ?_⟩
  by_cases e : j = k
  · subst e
    exact getD_set_self _ _ _ (by omega)
  · rw [getD_set_ne, h2 j (by omega)]
    intro e2
    have hj2 := hp.low (i := j) (by omega)
    have := hp.idx_at hk
    rw [show p.getD k 0 = p.getD j 0 by omega, hp.idx_at (by omega)] at this
    exact e this
theorem FillP.full {p xs zs : List Int} (hp : IsPerm p) (h : FillP p xs zs p.length) : zs = trI p xs := trI_eq hp h.1 h.2
theorem Wid.map_range {n : Nat} {f : Nat → Int} (h : ∀ i, i < n → -9223372036854775808 ≤ f i ∧ f i ≤ 9223372036854775807) : Wid ((List.range n).map f) := fun x hx => by
  obtain ⟨i, hi, rfl⟩ := List.mem_map.1 hx
  exact h i (List.mem_range.1 hi)
theorem trI_wid {p xs : List Int} (h : Wid xs) : Wid (trI p xs) := Wid.map_range fun i _ => h.getD _
theorem prod_perm {a b : List Int} (h : a.Perm b) : prodS a = prodS b := by
  induction h with
  | nil => rfl
  | cons x _ ih => simp only [prodS]; rw [ih]
  | swap x y l => simp only [prodS]; rw [← Int.mul_assoc, ← Int.mul_assoc, Int.mul_comm y x]
  | trans _ _ h1 h2 => rw [h1, h2]
theorem IsPerm.perm {p : List Int} (h : IsPerm p) : p.Perm (upS p.length) :=
  perm_of_all h.nodup (fun x hx => mem_upS.2 ((h.mem x).1 hx)) (by rw [upS_length]; exact Nat.le_refl _) |>.symm
theorem trS_up (s : List Int) : trS s (upS s.length) = s := by
  refine list_eq_getD (by rw [trS_len, upS_length]) fun i hi => ?_
  rw [trS_len, upS_length] at hi
  rw [trS_at _ _ (by rw [upS_length]; exact hi)]
  unfold upS
  rw [getD_map_range _ hi]
  rfl
theorem trS_ok {s p : List Int} (hp : IsPerm p) (hl : p.length = s.length) (h : OkS s) : OkS (trS s p) ∧ prodS (trS s p) = prodS s := by
  have hperm : (trS s p).Perm s := by
    have := hp.perm.map fun n => s.getD n.toNat 0
    rw [hl] at this
    exact this.trans (by rw [show (upS s.length).map (fun n => s.getD n.toNat 0) = trS s (upS s.length) from rfl, trS_up])
  have hpr := prod_perm hperm
  exact ⟨⟨by rw [trS_len, hl]; exact h.rank, fun x hx => h.pos x (hperm.mem_iff.1 hx), by rw [hpr]; exact h.few⟩, hpr⟩
def fstP (l : List Int) (i : Nat) : Int := l.getD (2 * i) 0
def sndP (l : List Int) (i : Nat) : Int := l.getD (2 * i + 1) 0
end
section
set_option linter.unusedVariables false
set_option linter.unusedSimpArgs false
def bcI (s : List Int) (k : Nat) (xs : List Int) : List Int := (List.range s.length).map fun i : Nat => (xs.getD (k + i) 0) % (s.getD i 0)
theorem bcI_len (s : List Int) (k : Nat) (xs : List Int) : (bcI s k xs).length = s.length := by simp [bcI]
theorem bcI_at (s : List Int) (k : Nat) (xs : List Int) {i : Nat} (h : i < s.length) : (bcI s k xs).getD i 0 = (xs.getD (k + i) 0) % (s.getD i 0) := getD_map_range _ h
/-- a pair that is none -/
def badCut (l : List Int) (i : Nat) : Prop := fstP l i < 0 ∨ sndP l i ≤ fstP l i
instance badCut.dec (l : List Int) (i : Nat) : Decidable (badCut l i) := inferInstanceAs (Decidable (_ ∨ _))
def slC (s cuts : List Int) : Int :=
  if cuts.length ≠ 2 * s.length then 11 else if ∃ i, i < s.length ∧ badCut cuts i then 11 else if ∃ i, i < s.length ∧ s.getD i 0 < sndP cuts i then 13 else 0
def slS (s cuts : List Int) : List Int := (List.range s.length).map fun i : Nat => sndP cuts i - fstP cuts i
theorem slC_len {s cuts : List Int} (h : cuts.length ≠ 2 * s.length) : slC s cuts = 11 := if_pos h
theorem slC_bad {s cuts : List Int} {i : Nat} (hi : i < s.length) (h : badCut cuts i) : slC s cuts = 11 := by
  unfold slC
  split
  · rfl
  · rw [if_pos ⟨i, hi, h⟩]
theorem slC_out {s cuts : List Int} (hl : cuts.length = 2 * s.length) (hg : ∀ i, i < s.length → ¬ badCut cuts i) {i : Nat} (hi : i < s.length) (h : s.getD i 0 < sndP cuts i) : slC s cuts = 13 := by
  unfold slC
  rw [if_neg (by omega), if_neg (fun ⟨j, hj, hb⟩ => hg j hj hb), if_pos ⟨i, hi, h⟩]
theorem slC_ok {s cuts : List Int} (hl : cuts.length = 2 * s.length) (hg : ∀ i, i < s.length → ¬ badCut cuts i) (h : ∀ i, i < s.length → ¬ s.getD i 0 < sndP cuts i) : slC s cuts = 0 := by
  unfold slC
  rw [if_neg (by omega), if_neg (fun ⟨j, hj, hb⟩ => hg j hj hb), if_neg (fun ⟨j, hj, hb⟩ => h j hj hb)]
theorem slC_is {s cuts : List Int} (h : slC s cuts = 0) : cuts.length = 2 * s.length ∧ ∀ i, i < s.length → 0 ≤ fstP cuts i ∧ fstP cuts i < sndP cuts i ∧ sndP cuts i ≤ s.getD i 0 := by
  unfold slC at h
  split at h
  · cases h
  · next h1 =>
    split at h
    · cases h
    · next h2 =>
      split at h
      · cases h
      · next h3 =>
        refine ⟨by omega, fun i hi => ?_⟩
        have a : ¬ badCut cuts i := fun hb => h2 ⟨i, hi, hb⟩
        have b : ¬ s.getD i 0 < sndP cuts i := fun hb => h3 ⟨i, hi, hb⟩
        unfold badCut at a
        omega
theorem slS_len (s cuts : List Int) : (slS s cuts).length = s.length := by simp [slS]
theorem slS_at (s cuts : List Int) {i : Nat} (h : i < s.length) : (slS s cuts).getD i 0 = sndP cuts i - fstP cuts i := getD_map_range _ h
theorem pos_of {s : List Int} (h : ∀ i, i < s.length → 1 ≤ s.getD i 0) : posS s := fun x hx => by
  obtain ⟨i, hi, rfl⟩ := List.mem_iff_getElem.1 hx
  rw [← getD_elem hi]
  exact h i hi
theorem prod_le {a b : List Int} (hl : a.length = b.length) (h : ∀ i, i < a.length → 1 ≤ a.getD i 0 ∧ a.getD i 0 ≤ b.getD i 0) : prodS a ≤ prodS b := by
  induction a generalizing b with
  | nil => cases b with
    | nil => exact Int.le_refl _
    | cons y b => simp at hl
  | cons x a ih => cases b with
    | nil => simp at hl
    | cons y b =>
      have h0 := h 0 (by simp)
      simp at h0
      have hi : ∀ i, i < a.length → 1 ≤ a.getD i 0 ∧ a.getD i 0 ≤ b.getD i 0 := fun i hi => by simpa using h (i + 1) (by simpa using hi)
      have h1 := ih (by simpa using hl) hi
      have h2 := prodS_pos (pos_of fun i k => (hi i k).1)
      simp only [prodS]
      exact Int.mul_le_mul h0.2 h1 (by omega) (by omega)
theorem slS_ok {s cuts : List Int} (h : slC s cuts = 0) (ok : OkS s) : OkS (slS s cuts) := by
  obtain ⟨_, h2⟩ := slC_is h
  have h3 : ∀ i, i < (slS s cuts).length → 1 ≤ (slS s cuts).getD i 0 ∧ (slS s cuts).getD i 0 ≤ s.getD i 0 := fun i hi => by
    rw [slS_len] at hi
    have := h2 i hi
    rw [slS_at _ _ hi]
    omega
  exact ⟨by rw [slS_len]; exact ok.rank, pos_of fun i hi => (h3 i hi).1, Int.le_trans (prod_le (slS_len _ _) h3) ok.few⟩
def badPad (l : List Int) (i : Nat) : Prop := fstP l i < 0 ∨ sndP l i < 0
instance badPad.dec (l : List Int) (i : Nat) : Decidable (badPad l i) := inferInstanceAs (Decidable (_ ∨ _))
end
section
open Go.RowKit
set_option linter.unusedVariables false
set_option linter.unusedSimpArgs false
set_option maxRecDepth 100000 in
set_option maxHeartbeats 4000000 in
theorem filled_any {N F : Nat} {cap : Array Value} {f : List Int → Rat} {w : World} {v : Value} {s : List Int} {a : Option Addr} {ca : Nat} (A : ArgS w v s a ca) (na : a = none → ca = 0) (ok : OkS s)
    (heF : ∀ args w, (callFunc F args).run Tryz.prog w = .ok (.enter F args) w)
    (hdo : ∀ (B : Nat) (W : World) (x : Value) (xs : List Int), inS s xs → w.heap.size ≤ B → B ≤ W.heap.size → Below w.heap.size w W → ResS B W x xs → Calls Tryz.prog F (#[x] ++ cap) W fun e w' => ∃ r, e = .returned r ∧ ResQ B w' r (f xs) N ∧ Below B W w') :
    Calls Tryz.prog 85 #[v, .func (.func F) #[] cap] w fun e w' => ∃ r, e = .returned r ∧ RowO w.heap.size 58 (fun W v x => ResQ w.heap.size W v x N) w' r (fillV s f) ∧ Below w.heap.size w w' := by
  obtain ⟨i0, hi, hz0, hz1, hz2⟩ := info_parts infoQ
  have HA := Lib.hid A
  have HDO := Lib.hid hdo
  have hcnt := countS_eq A
  have hpr := prodS_pos ok.pos
  have hfew := ok.few
  obtain ⟨M, hM⟩ : ∃ M : Nat, prodS s = (M : Int) := ⟨(prodS s).toNat, by omega⟩
  rw [ok.count, hM] at hcnt
  have hM1 : M ≤ 1024 := by omega
  have HM := Lib.hid hM
  have HF : Hid (fillV s f = (List.range M).map fun k : Nat => f (idxS s (k : Int))) := Lib.hid (by unfold fillV; rw [hM]; simp)
  have hmk := make_rowP M (by omega)
  have hrk : s.length ≤ 4 := ok.rank
  have HNA := Lib.hid na
  have HOK := Lib.hid ok
  obtain rfl := A.is
  clear A hdo na ok hM hpr hfew
  go_enter Tryz.func85, Tryz.ntmps85
  go_wp2_with (go_at_call 93; refine hcnt.mono ?_; rintro e w1 ⟨rfl, rfl⟩)
  obtain ⟨V, hV⟩ : ∃ V, w.alloc (.cells (madeCells #[.bool false, .slice none 0 0, .slice none 0 0] (M * 3)) 58) = V := ⟨_, rfl⟩
  have r2 : OwnE w.heap.size 58 V (.slice (some ⟨w.heap.size, 0, none⟩) 0 M) [] := by
    rw [← hV]
    exact (show OwnE w.heap.size 58 _ (.slice (some ⟨w.heap.size, 0, none⟩) 0 M) [] from World.ownsRow_made w _ M (Nat.le_refl _) (by unfold maxLen; omega) (madeP_len _ _))
  have hBV : Below w.heap.size w V := by rw [← hV]; exact (Below.refl _ _).alloc (Nat.le_refl _) _
  (try rw [hV])
  have H2 := Lib.hid r2
  have HB := Lib.hid hBV
  clear r2 hBV hmk hV hcnt
  go_loopw [6, 7, 8, 9, 15] (fun v _ _ _ i wr => ∃ (k : Nat), i = .int .i64 (k : Int) ∧ k ≤ M ∧
    RowO w.heap.size 58 (fun W v x => ResQ w.heap.size W v x N) wr v ((List.range k).map fun j : Nat => f (idxS s (j : Int))) ∧ Below w.heap.size w wr) (fun _ _ _ _ i _ => M - (intOf i).toNat)
  case atStart => exact ⟨0, rfl, Nat.zero_le _, ⟨[], H2.out, AllE.nil _⟩, HB.out⟩
  case round =>
    obtain ⟨k, rfl, hk, ⟨es, hown, hall⟩, hb⟩ := hrel
    have hsz := hb.size
    obtain ⟨av, cv, rfl⟩ := ownT_slice hown
    have hle : es.length = k := by rw [hall.1]; simp
    subst hle
    by_cases hlt : es.length < M
    · have hpl := place_idx HOK.out.pos (n := (es.length : Int)) (by omega) (by rw [HM.out]; omega)
      have hix := indexS_any (n := (es.length : Int)) (HA.out.later hb) HNA.out (by omega) (by omega) (by omega)
      rw [idxC_in (mayC_ok HOK.out) (by omega) (by rw [HM.out]; omega), idxV_in (idxC_in (mayC_ok HOK.out) (by omega) (by rw [HM.out]; omega))] at hix
      have HIN := Lib.hid hpl.1
      have hltI : (es.length : Int) < (M : Int) := by omega
      clear hpl
      go_wp2_with fail
      refine hix.mono ?_
      rintro e w3 ⟨r3, rfl, R3, hb3⟩
      have hsz3 := hb3.size
      have hcall := HDO.out wr.heap.size w3 r3 _ HIN.out hsz hb3.size (hb.trans (hb3.mono hsz)) R3
      clear R3
      go_wp2_with fail
      refine hcall.mono ?_
      rintro e w5 ⟨rv, rfl, qv, hb5⟩
      have Q5 := Lib.hid qv
      obtain ⟨m5, f1, l1, i1, f2, l2, i2, rfl⟩ := qv.shape
      clear qv
      have hb5w : Below wr.heap.size wr w5 := hb3.trans hb5
      have hown5 : OwnE w.heap.size 58 w5 (.slice av es.length cv) es := hown.later hb5w
      have hall5 : AllE (fun v x => ResQ w.heap.size w5 v x N) es ((List.range es.length).map fun j : Nat => f (idxS s (j : Int))) := hall.imp fun u x _ h => h.later hb5w
      have hB5 : Below w.heap.size w w5 := hb.trans (hb5w.mono hsz)
      have hsz5 := hB5.size
      have hx5 : ResQ w.heap.size w5 (E3.agg ⟨.bool m5, .slice f1 l1 i1, .slice f2 l2 i2⟩) (f (idxS s (es.length : Int))) N := Q5.out.mono hsz
      have HALL := Lib.hid hall5
      clear hall hall5 hown
      go_wp2_with (at_builtin; refine wpList_append_own _ rfl _ _ 24 rfl w.heap.size 58 i0 _ 3 56 Tryz.underlying24 hi hz0 hz1 hz2 rfl (by decide) _ es.length (flat3 es) rfl (hown5.later ((Below.refl _ _).alloc (Nat.le_refl _) _)) ⟨w5.heap.size, 0, none⟩ 1 1 [.bool m5, .slice f1 l1 i1, .slice f2 l2 i2] rfl rfl (cell_three_new _ _ _ _ _) (by simp [Value.oneCell']) (by unfold maxLen; omega) (by omega) (by simp; omega) ?_)
      intro v' w6 hown' hgrow _
      obtain ⟨av', cv', rfl⟩ := ownT_slice hown'
      go_wp2
      go_roundw
      case rel =>
        obtain ⟨hrow6, hb6⟩ := pushE (P := fun W v x => ResQ w.heap.size W v x N) (e := ⟨.bool m5, .slice f1 l1 i1, .slice f2 l2 i2⟩) hB5 hsz5 hown5 HALL.out hx5 (fun u y h => ResQ.apart hown5 hgrow (by decide) h) hown' hgrow
        refine ⟨es.length + 1, by go_num, by omega, ?_, hb6⟩
        rw [List.range_succ, List.map_append]
        exact hrow6
      case measure => simp [intOf]; omega
    · have hkl : es.length = M := by omega
      have hltI : ¬ (es.length : Int) < (M : Int) := by omega
      have hrow : RowO w.heap.size 58 (fun W v x => ResQ w.heap.size W v x N) wr (.slice av es.length cv) (fillV s f) := ⟨es, hown, by rw [HF.out, ← hkl]; exact hall⟩
      have HROW := Lib.hid hrow
      clear hown hall hkl hrow hlt
      go_wp2_with fail
      go_ret
      exact ⟨_, rfl, HROW.out, hb⟩
set_option maxRecDepth 100000 in
set_option maxHeartbeats 4000000 in
theorem built_any {N F : Nat} {cap : Array Value} {f : List Int → Rat} {w : World} {v : Value} {s : List Int} {a : Option Addr} {ca : Nat} (A : ArgS w v s a ca) (na : a = none → ca = 0) (ok : OkS s)
    (heF : ∀ args w, (callFunc F args).run Tryz.prog w = .ok (.enter F args) w)
    (hdo : ∀ (B : Nat) (W : World) (x : Value) (xs : List Int), inS s xs → w.heap.size ≤ B → B ≤ W.heap.size → Below w.heap.size w W → ResS B W x xs → Calls Tryz.prog F (#[x] ++ cap) W fun e w' => ∃ r, e = .returned r ∧ ResQ B w' r (f xs) N ∧ Below B W w') :
    Calls Tryz.prog 42 #[v, .func (.func F) #[] cap] w fun e w' => ∃ r, e = .returned r ∧ ResT w.heap.size w' r s (fillV s f) N ∧ Below w.heap.size w w' := by
  have hrk : s.length ≤ 4 := ok.rank
  have HA := Lib.hid A
  obtain rfl := A.is
  obtain ⟨W, hW⟩ : ∃ W, w.alloc (.cells #[.slice none 0 0, .slice none 0 0] 26) = W := ⟨_, rfl⟩
  have R0 : Row W w.heap.size 26 #[.slice none 0 0, .slice none 0 0] := by rw [← hW]; exact Row.new _ _ _
  have hBW : Below w.heap.size w W := by rw [← hW]; exact (Below.refl _ _).alloc (Nat.le_refl _) _
  have hs : W.heap.size = w.heap.size + 1 := by rw [← hW]; simp
  have hc := cloneS_any (A.later hBW) na (by omega)
  have hf := fun (X : World) (hX : Below W.heap.size W X) => filled_any (N := N) (F := F) (cap := cap) (f := f) (HA.out.later (hBW.trans (hX.mono hBW.size))) na ok heF
    (fun B Y x xs h1 h2 h3 h4 h5 => hdo B Y x xs h1 (by have := hX.size; omega) h3 (hBW.trans ((hX.trans (h4.mono hX.size)).mono hBW.size)) h5)
  have HFL := Lib.hid hf
  have HL := Lib.hid (fillV_len s f)
  obtain ⟨L, hL⟩ : ∃ L, fillV s f = L := ⟨_, rfl⟩
  rw [hL] at HFL ⊢
  clear A hdo na ok hf hL
  go_enter Tryz.func42, Tryz.ntmps42
  (try rw [hW])
  go_wp2_with (go_at_call 60; refine hc.mono ?_; rintro e w1 ⟨r, rfl, hr, hb⟩; obtain ⟨a', ca', rfl, hr, -, -⟩ := hr.slice)
  refine (HFL.out w1 hb).mono ?_
  rintro e w2 ⟨r2, rfl, RO, hb2⟩
  have P2 := (R0.later hb).later hb2
  have s1 := hb.size
  have s2 := hb2.size
  obtain ⟨es, hown, hall⟩ := RO
  obtain ⟨b', cb', rfl⟩ := ownT_slice hown
  have HRS := Lib.hid (hr.later hb2)
  have hlen : es.length = L.length := hall.1
  have HO : Hid (RowO w1.heap.size 58 (fun W v x => ResQ w1.heap.size W v x N) w2 (.slice b' es.length cb') L) := Lib.hid ⟨es, hown, hall⟩
  have HLEN := Lib.hid hlen
  clear hown hall hr hlen
  obtain ⟨u0, u1, g0, g1⟩ := P2.two
  go_wp2_with fail
  have P3 := P2.set2 (.slice a' s.length ca') (.slice b' es.length cb')
  obtain ⟨z0, z1, _, _⟩ := P3.two
  refine bodyPost_ret (v := .agg #[.slice a' s.length ca', .slice b' es.length cb']) (by simp [results, Tryz.results42, go_sem, z0, z1]) rfl ⟨_, rfl, ?_, below_set2 ((hBW.trans (hb.mono (by omega))).trans (hb2.mono (by omega))) (by omega) _ _⟩
  have hR : ResT w.heap.size w2 (.agg #[.slice a' s.length ca', .slice b' es.length cb']) s L N := ⟨a', b', ca', cb', by rw [HLEN.out], (HRS.out.mono (by omega)), by rw [← HLEN.out]; exact HO.out.mono (by omega) (fun v x h => h.mono (by omega))⟩
  exact hR.far P2 (by decide) (by decide) (by decide) (kept2 _ _)
set_option maxRecDepth 100000 in
set_option maxHeartbeats 4000000 in
theorem element_any {n : Nat} {w : World} {v u : Value} {s xs : List Int} {qs : List Q3} {a b ad : Option Addr} {ca cb cd : Nat} (T : TensQ w v s qs a ca b cb) (h0 : mayT s qs = 0) (B : ArgS w u xs ad cd) (nd : ad = none → cd = 0) (hx : xs.length ≤ 1000000) (hl : lensQ qs n) (hn : n ≤ 100000000) :
    Calls Tryz.prog 44 #[v, u] w fun e w' => ∃ r, e = .returned r ∧ ResQ w.heap.size w' r (elV s (qs.map Q3.rat) xs) (n + 2) ∧ Below w.heap.size w w' := by
  have HT := Lib.hid T
  obtain rfl := B.is
  obtain rfl := T.is
  have hm0 := mayT_rank h0
  have okS := mayC_zero.1 hm0
  have hrk : s.length ≤ 4 := okS.rank
  obtain ⟨W, hW⟩ : ∃ W, ((w.alloc (.cells #[.slice a s.length ca, .slice b qs.length cb] 26)).alloc (.cells #[.bool false, .slice none 0 0, .slice none 0 0] 58)) = W := ⟨_, rfl⟩
  have R0 : Row W (w.heap.size) 26 #[.slice a s.length ca, .slice b qs.length cb] := by rw [← hW]; have h := Row.new w 26 #[.slice a s.length ca, .slice b qs.length cb]; (try simp only [World.size_alloc] at h); exact (h.alloc _)
  have R1 : Row W (w.heap.size + 1) 58 #[.bool false, .slice none 0 0, .slice none 0 0] := by rw [← hW]; have h := Row.new (w.alloc (.cells #[.slice a s.length ca, .slice b qs.length cb] 26)) 58 #[.bool false, .slice none 0 0, .slice none 0 0]; (try simp only [World.size_alloc] at h); exact h
  have hBW : Below w.heap.size w W := by rw [← hW]; exact (((Below.refl _ _).alloc (by (try simp) <;> omega) _).alloc (by (try simp) <;> omega) _)
  have hsW : W.heap.size = w.heap.size + 1 + 1 := by rw [← hW]; simp
  have hof := offsetS_any (T.later hBW).sh (B.later hBW) T.nila nd (by omega) (by omega)
  obtain ⟨c0, c1, _, _⟩ := R0.two
  by_cases hin : inS s xs
  · have hoc : offC s xs = 0 := by unfold offC; rw [if_neg (by simp [hm0]), if_neg (by simp [inS_length hin]), if_pos hin]
    have hov : offV s xs = placeS s xs := by unfold offV; rw [if_pos hoc]
    obtain ⟨p0, p1⟩ := place_range hin
    obtain ⟨p, hp⟩ : ∃ p : Nat, placeS s xs = (p : Int) := ⟨(placeS s xs).toNat, by omega⟩
    have hcnt := (mayT_valid h0).1
    rw [okS.count] at hcnt
    have hpl : p < qs.length := by omega
    rw [hoc, hov, hp] at hof
    have hel : elV s (qs.map Q3.rat) xs = (qs[p]).rat := by
      rw [elV_in hin, hp, List.getD_eq_getElem?_getD]
      simp [hpl]
    rw [hel]
    have hokq := (mayT_valid h0).2 qs[p] (List.getElem_mem _)
    obtain ⟨hl1, hl2⟩ := hl qs[p] (List.getElem_mem _)
    obtain ⟨q, hq⟩ : ∃ q, qs[p] = q := ⟨_, rfl⟩
    rw [hq] at hokq hl1 hl2 ⊢
    have hq? : qs[p]? = some q := by rw [List.getElem?_eq_getElem hpl, hq]
    have hpI0 : (0 : Int) ≤ (p : Int) := by omega
    have hpI : (p : Int) < (qs.length : Int) := by omega
    have HX1 := Lib.hid hq?
    clear T B hel hq hcnt p0 p1 hin hoc hov hp h0 hm0 hl hq?
    go_enter Tryz.func44, Tryz.ntmps44
    (try rw [hW])
    go_wp2_with fail
    refine hof.mono ?_
    rintro e w1 ⟨rfl, hb1⟩
    have s1 := hb1.size
    have hBw1 : Below w.heap.size w w1 := hBW.trans (hb1.mono (by omega))
    obtain ⟨bb, o, x0, x1, x2, q', hbo, hqk, f0, f1, f2, hraw⟩ := HT.out.el.at hpl
    have e0 := (hBw1.cell (World.block_lt_of_cell? _ _ f0)).trans f0
    have e1 := (hBw1.cell (World.block_lt_of_cell? _ _ f1)).trans f1
    have e2 := (hBw1.cell (World.block_lt_of_cell? _ _ f2)).trans f2
    subst hbo
    obtain rfl : q' = q := by rw [HX1.out] at hqk; exact (Option.some.inj hqk).symm
    obtain ⟨ad2, bd, ca2, cb2, hraw', A, D, na, nb⟩ := hraw
    simp only [Value.agg.injEq, Array.mk.injEq, List.cons.injEq, and_true] at hraw'
    obtain ⟨rfl, rfl, rfl⟩ := hraw'
    have RX0 := R0.later hb1
    have RX1 := R1.later hb1
    obtain ⟨k0, k1, _, _⟩ := RX0.two
    obtain ⟨V, hV⟩ : ∃ V, w1.alloc (.cells #[.bool q'.neg, .slice ad2 q'.num.length ca2, .slice bd q'.den.length cb2] 58) = V := ⟨_, rfl⟩
    have R2 : Row V w1.heap.size 58 #[.bool q'.neg, .slice ad2 q'.num.length ca2, .slice bd q'.den.length cb2] := by rw [← hV]; exact Row.new _ _ _
    have RV1 : Row V (w.heap.size + 1) 58 #[.bool false, .slice none 0 0, .slice none 0 0] := by rw [← hV]; exact RX1.alloc _
    have hBV1 : Below w1.heap.size w1 V := by rw [← hV]; exact (Below.refl _ _).alloc (Nat.le_refl _) _
    have hBV : Below w.heap.size w V := hBw1.trans (hBV1.mono (by omega))
    have hsV : V.heap.size = w1.heap.size + 1 := by rw [← hV]; simp
    have mkS : ∀ X, Kept (w.heap.size + 1) V X → X.cell? ⟨w1.heap.size, 0, none⟩ = some (.bool q'.neg) ∧ X.cell? ⟨w1.heap.size, 1, none⟩ = some (.slice ad2 q'.num.length ca2) ∧ X.cell? ⟨w1.heap.size, 2, none⟩ = some (.slice bd q'.den.length cb2) ∧ Kept (w.heap.size + 1) V X := fun X h => ⟨(R2.kept h (by omega)).cell 0, (R2.kept h (by omega)).cell 1, (R2.kept h (by omega)).cell 2, h⟩
    have HA := Lib.hid A
    have HB := Lib.hid D
    have HD := Lib.hid na
    have HE := Lib.hid nb
    have HOKQ := Lib.hid hokq
    clear A D na nb hof hqk hokq R0 R1 c0 c1 RX0 RX1 hW
    go_wp2_with fail
    (try rw [hV])
    clear hV e0 e1 e2 k0 k1 f0 f1 f2
    go_region_held3 (fun X => X.cell? ⟨w1.heap.size, 0, none⟩ = some (.bool q'.neg) ∧ X.cell? ⟨w1.heap.size, 1, none⟩ = some (.slice ad2 q'.num.length ca2) ∧ X.cell? ⟨w1.heap.size, 2, none⟩ = some (.slice bd q'.den.length cb2) ∧ Kept (w.heap.size + 1) V X)
      (((refine mkS _ ?_; (repeat' (first | exact Kept.refl _ _ | refine Kept.drew ?_ | refine Kept.alloc ?_ _ | refine Kept.set ?_ _ _ | refine Kept.below ?_ (by assumption))))))
      ((first
        | (go_at_call 88; (with_reducible refine (cloneN_any (HB.out.later (Kept.under (show Kept (w.heap.size + 1) V _ by (repeat' (first | exact Kept.refl _ _ | refine Kept.drew ?_ | refine Kept.alloc ?_ _ | refine Kept.set ?_ _ _ | refine Kept.below ?_ (by assumption)))) hBV (by omega) (by omega))) HE.out (by omega)).mono ?_); rintro e w4 ⟨r4, rfl, q4, hb4⟩; obtain ⟨ad4, cp4, rfl⟩ := ownT_slice q4; have P4 := RV1.kept (show Kept (w.heap.size + 1 + 1 + 1) V w4 by (repeat' (first | exact Kept.refl _ _ | refine Kept.drew ?_ | refine Kept.alloc ?_ _ | refine Kept.set ?_ _ _ | refine Kept.below ?_ (by assumption)))) (by omega); obtain ⟨u0, u1, u2, g0, g1, g2⟩ := P4.three)
        | (go_at_call 88; (with_reducible refine (cloneN_any (HA.out.later (Kept.under (show Kept (w.heap.size + 1) V _ by (repeat' (first | exact Kept.refl _ _ | refine Kept.drew ?_ | refine Kept.alloc ?_ _ | refine Kept.set ?_ _ _ | refine Kept.below ?_ (by assumption)))) hBV (by omega) (by omega))) HD.out (by omega)).mono ?_); rintro e w3 ⟨r3, rfl, q3, hb3⟩; obtain ⟨ad3, cp3, rfl⟩ := ownT_slice q3)))
    have Q3' := Lib.hid (q3.later hb4)
    have Q4 := Lib.hid q4
    clear q3 q4
    have hk4 := (show Kept (w.heap.size + 1 + 1 + 1) V w4 by (repeat' (first | exact Kept.refl _ _ | refine Kept.drew ?_ | refine Kept.alloc ?_ _ | refine Kept.set ?_ _ _ | refine Kept.below ?_ (by assumption)))).size
    have hk3 := (show Kept (w.heap.size + 1 + 1 + 1) V w3 by (repeat' (first | exact Kept.refl _ _ | refine Kept.drew ?_ | refine Kept.alloc ?_ _ | refine Kept.set ?_ _ _ | refine Kept.below ?_ (by assumption)))).size
    have hK4 := (Kept.under (show Kept (w.heap.size + 1 + 1 + 1) V w4 by (repeat' (first | exact Kept.refl _ _ | refine Kept.drew ?_ | refine Kept.alloc ?_ _ | refine Kept.set ?_ _ _ | refine Kept.below ?_ (by assumption)))) hBV (by omega) (by omega))
    go_wp2_with fail
    have hQ : ResQ w.heap.size w4 (.agg #[.bool q'.neg, .slice ad3 q'.num.length cp3, .slice ad4 q'.den.length cp4]) q'.rat (n + 2) :=
      copied_res HOKQ.out (Num.mono Q3'.out (by show w.heap.size ≤ V.heap.size; omega)) (Num.mono Q4.out (by omega)) HA.out.wf HB.out.wf (by omega) (by omega)
    refine bodyPost_ret (v := .agg #[.bool q'.neg, .slice ad3 q'.num.length cp3, .slice ad4 q'.den.length cp4]) (by simp [results, Tryz.results44, go_sem, u0, u1, u2]) rfl ⟨_, rfl, hQ.far P4 (by decide) (kept3 _ _ _), below_set3 hK4 (by omega) _ _ _⟩
  · have hoc : offC s xs ≠ 0 := by
      unfold offC
      rw [if_neg (by simp [hm0])]
      split
      · decide
      · first | decide | (rw [if_neg hin]; decide)
    obtain ⟨c, hc⟩ : ∃ c, offC s xs = c := ⟨_, rfl⟩
    rw [hc] at hof hoc
    have hne : (c != 0) = true := by simp [hoc]
    have e : elV s (qs.map Q3.rat) xs = intQ 0 := by rw [elV_out hin, intQ_zero]
    rw [e]
    clear T B e hin hc hoc h0 hm0 hl
    go_enter Tryz.func44, Tryz.ntmps44
    (try rw [hW])
    go_wp2_with (first
      | (go_at_call 86; refine hof.mono ?_; rintro e w1 ⟨rfl, hb1⟩; have s1 := hb1.size)
      | (go_at_call 87; refine (int_any 0 _ (by omega) (by omega)).mono ?_; rintro e w2 ⟨r, rfl, qv, hb2⟩; have Q2 := Lib.hid qv; obtain ⟨m5, f1, l1, j1, f2, l2, j2, rfl⟩ := qv.shape; clear qv; have P2 := (R1.later hb1).later hb2; have s2 := hb2.size; obtain ⟨u0, u1, u2, g0, g1, g2⟩ := P2.three))
    have P3 := P2.set3 (.bool m5) (.slice f1 l1 j1) (.slice f2 l2 j2)
    obtain ⟨z0, z1, z2, _, _, _⟩ := P3.three
    refine bodyPost_ret (v := .agg #[.bool m5, .slice f1 l1 j1, .slice f2 l2 j2]) (by simp [results, Tryz.results44, go_sem, z0, z1, z2]) rfl ⟨_, rfl, ?_, below_set3 (hBW.trans ((hb1.mono (by omega)).trans (hb2.mono (by omega)))) (by omega) _ _ _⟩
    exact ((Q2.out.mono (by omega)).more (by omega)).far P2 (by decide) (kept3 _ _ _)
end
section
open Go.RowKit Go.Shelf
attribute [local go_sem] Oper.semAt_some
set_option linter.unusedVariables false
set_option linter.unusedSimpArgs false
theorem wrap_i64 {x : Int} (h0 : -9223372036854775808 ≤ x) (h1 : x ≤ 9223372036854775807) : IntKind.i64.wrap x = x := by
  simp only [IntKind.wrap, IntKind.bits, IntKind.signed]
  simp
  omega
/-- what a round over pairs is handed -/
def pairV (xs : List Int) {n : Nat} (x : Fin n) : Array Value := #[.int .i64 (x.val : Int), .agg #[.int .i64 (xs[2 * x.val]?.getD 0), .int .i64 (xs[2 * x.val + 1]?.getD 0)]]
theorem pairs_any (ad : Option Addr) (n cap : Nat) (w : World) :
    Calls Tryz.prog 61 #[.slice ad n cap] w fun e w' => e = .returned (.func (.func 95) #[] #[.pointer (some ⟨w.heap.size, 0, none⟩)]) ∧ w' = w.alloc (.cells #[.slice ad n cap] 22) := by
  go_enter Tryz.func61, Tryz.ntmps61
  go_wp2
  go_ret
  exact ⟨rfl, rfl⟩
set_option maxRecDepth 100000 in
set_option maxHeartbeats 4000000 in
theorem pairs_in (n l Bs n₀ m : Nat) (ad : Option Addr) (xs : List Int) (cap : Nat) (hm : xs.length ≤ 17592186044416) (hlen : xs.length = 2 * m) (hb : xs ≠ [] → ∀ a, ad = some a → a.block < n₀) (J Jx : List (Fin m) → World → Prop)
    (hJ : ∀ pre A, J pre A → J pre A.drew)
    (hY : ∀ pre x W, J pre W → pre.length < m → YieldAt Fence.wide (n - 1) Tryz.prog l (pairV xs x) W fun e W' =>
      (e = .returned (.bool true) ∧ J (pre ++ [x]) W' ∧ KpS n₀ Bs W W') ∨ (e = .returned (.bool false) ∧ Jx (pre ++ [x]) W'))
    (W : World) (hBs : W.cell? ⟨Bs, 0, none⟩ = some (.slice ad xs.length cap)) (hl : LimS W ad xs) (h0 : J [] W) :
    CallsIn Fence.wide n Tryz.prog 95 #[.func (.yield l) #[] #[], .pointer (some ⟨Bs, 0, none⟩)] W fun e W' => (∃ v, e = .returned v) ∧
      ((∃ ys, Upto ys m ∧ J ys W') ∨ (∃ pre, (∃ k, k ≤ m ∧ Upto pre k) ∧ Jx pre W')) := by
  have hq : (xs.length : Int).tdiv 2 = (m : Int) := by rw [hlen, Int.natCast_mul]; exact Int.mul_tdiv_cancel_left _ (by decide)
  have hq2 : ((2 : Int) * (m : Int)).tdiv 2 = (m : Int) := Int.mul_tdiv_cancel_left _ (by decide)
  have HLEN := Lib.hid hlen
  refine callsIn_of_wp Tryz.func95 rfl trivial ?_ rfl
  simp only [Tryz.ntmps95, List.size_toArray, List.length_cons, List.length_nil, Nat.reduceAdd, Nat.reduceSub, Array.replicate_succ, Array.replicate_zero, List.push_toArray, List.append_toArray, List.nil_append, List.cons_append]
  gi_wp2_with fail
  (try rw [hq])
  gi_loopw [3, 7] (fun _ i wr => ∃ (k : Nat) (pre : List (Fin m)), k ≤ m ∧ i = .int .i64 k ∧ Upto pre k ∧ J pre wr ∧ KpS n₀ Bs W wr)
    (fun _ i _ => m - (intOf i).toNat)
  case atStart => exact ⟨0, [], Nat.zero_le _, rfl, rfl, h0, KpS.refl _ _ _⟩
  case round =>
    obtain ⟨k, pre, hk, rfl, hup, hJs, hnx⟩ := hrel
    have hBr := (World.cell?_of_block (a := ⟨Bs, 0, none⟩) hnx.box).trans hBs
    by_cases hlt : k < m
    · rcases hl with rfl | ⟨b, off, rfl, hc⟩
      · simp at hlen; omega
      · have hbn := hb (by rintro rfl; simp at hlen; omega) ⟨b, off, none⟩ rfl
        have hY2 := hY pre ⟨k, hlt⟩ wr.drew (hJ _ _ hJs) (by rw [hup.length]; exact hlt)
        obtain ⟨fn, tmps, assign, body, hy, hR⟩ := hY2
        simp only [pairV] at hy
        have c0 := (hnx.below.cell (p := ⟨b, off + 2 * k, none⟩) hbn).trans (hc (2 * k) (by omega))
        have c1 := (hnx.below.cell (p := ⟨b, off + (2 * k + 1), none⟩) hbn).trans (hc (2 * k + 1) (by omega))
        obtain ⟨x0, hx0⟩ : ∃ x, xs[2 * k]?.getD 0 = x := ⟨_, rfl⟩
        obtain ⟨x1, hx1⟩ : ∃ x, xs[2 * k + 1]?.getD 0 = x := ⟨_, rfl⟩
        rw [List.getD_eq_getElem?_getD, hx0] at c0
        rw [List.getD_eq_getElem?_getD, hx1] at c1
        rw [hx0, hx1] at hy
        have hnx2 : KpS n₀ Bs W wr.drew := ⟨hnx.below.drew, hnx.box⟩
        have hkI : (k : Int) < (m : Int) := by omega
        have HJ := Lib.hid hJ
        have HY := Lib.hid hY
        have v1 : IntKind.i64.wrap (2 * (k : Int)) = 2 * (k : Int) := wrap_i64 (by omega) (by omega)
        have v2 : IntKind.i64.wrap (2 * (k : Int) + 1) = 2 * (k : Int) + 1 := wrap_i64 (by omega) (by omega)
        have i0 : (0 : Int) ≤ 2 * (k : Int) := by omega
        have i1 : 2 * (k : Int) < (xs.length : Int) := by omega
        have i2 : (0 : Int) ≤ 2 * (k : Int) + 1 := by omega
        have i3 : 2 * (k : Int) + 1 < (xs.length : Int) := by omega
        have n1 : (2 * (k : Int)).toNat = 2 * k := by omega
        have n2 : (2 * (k : Int) + 1).toNat = 2 * k + 1 := by omega
        clear hJ hY hc hx0 hx1 hb hlen
        gi_wp2_with fail
        refine wpIn_region_L (fun X => X.cell? ⟨Bs, 0, none⟩ = some (.slice (some ⟨b, off, none⟩) xs.length cap) ∧ X.cell? ⟨b, off + 2 * k, none⟩ = some (.int .i64 x0) ∧ X.cell? ⟨b, off + (2 * k + 1), none⟩ = some (.int .i64 x1)) [14, 15] (by kernel_rfl)
          ⟨hBr, c0, c1⟩ (fun hHeld => ?_)
        refine wpAnyInL_take (i := 0) (v := ?va0) [14, 15] rfl rfl (by kernel_rfl) (by kernel_rfl) (by kernel_rfl) (by kernel_rfl) (by kernel_rfl) (by kernel_rfl) (fun _ _ _ h => h) (Or.inl ⟨by rfl, ?ha0⟩) (fun _ => rfl) (by assumption) ?ra0
        case ha0 =>
          intro w hSw
          try dsimp only at hSw
          go_simp
          try with_reducible rfl
        try simp only [Act.put, List.setIfInBounds_toArray, List.set_cons_zero, List.set_cons_succ]
        refine wpAnyInL_take (i := 1) (v := ?va1) [14, 15] rfl rfl (by kernel_rfl) (by kernel_rfl) (by kernel_rfl) (by kernel_rfl) (by kernel_rfl) (by kernel_rfl) (fun _ _ _ h => h) (Or.inl ⟨by rfl, ?ha1⟩) (fun _ => rfl) (by assumption) ?ra1
        case ha1 =>
          intro w hSw
          try dsimp only at hSw
          go_simp
          try with_reducible rfl
        try simp only [Act.put, List.setIfInBounds_toArray, List.set_cons_zero, List.set_cons_succ]
        refine wpAnyInL_take (i := 2) (v := ?va2) [5, 6, 13, 14, 15] rfl rfl (by kernel_rfl) (by kernel_rfl) (by kernel_rfl) (by kernel_rfl) (by kernel_rfl) (by kernel_rfl) (fun _ _ _ h => h) (Or.inl ⟨by rfl, ?ha2⟩) (fun _ => rfl) (by assumption) ?ra2
        case ha2 =>
          intro w hSw
          try dsimp only at hSw
          go_simp
          try with_reducible rfl
        try simp only [Act.put, List.setIfInBounds_toArray, List.set_cons_zero, List.set_cons_succ]
        refine wpAnyInL_take (i := 3) (v := ?va3) [4, 5, 6, 13, 14, 15] rfl rfl (by kernel_rfl) (by kernel_rfl) (by kernel_rfl) (by kernel_rfl) (by kernel_rfl) (by kernel_rfl) (fun _ _ _ h => h) (Or.inl ⟨by rfl, ?ha3⟩) (fun _ => rfl) (by assumption) ?ra3
        case ha3 =>
          intro w hSw
          try dsimp only at hSw
          go_simp
          try with_reducible rfl
        try simp only [Act.put, List.setIfInBounds_toArray, List.set_cons_zero, List.set_cons_succ]
        refine wpAnyInL_take (i := 4) (v := ?va4) [5, 6, 13, 14, 15] rfl rfl (by kernel_rfl) (by kernel_rfl) (by kernel_rfl) (by kernel_rfl) (by kernel_rfl) (by kernel_rfl) (fun _ _ _ h => h) (Or.inl ⟨by rfl, ?ha4⟩) (fun _ => rfl) (by assumption) ?ra4
        case ha4 =>
          intro w hSw
          try dsimp only at hSw
          go_simp
          try with_reducible rfl
        try simp only [Act.put, List.setIfInBounds_toArray, List.set_cons_zero, List.set_cons_succ]
        refine wpAnyInL_take (i := 5) (v := ?va5) [6, 13, 14, 15] rfl rfl (by kernel_rfl) (by kernel_rfl) (by kernel_rfl) (by kernel_rfl) (by kernel_rfl) (by kernel_rfl) (fun _ _ _ h => h) (Or.inl ⟨by rfl, ?ha5⟩) (fun _ => rfl) (by assumption) ?ra5
        case ha5 =>
          intro w hSw
          try dsimp only at hSw
          go_simp
          try with_reducible rfl
        try simp only [Act.put, List.setIfInBounds_toArray, List.set_cons_zero, List.set_cons_succ]
        refine wpAnyInL_take (i := 6) (v := ?va6) [13, 14, 15] rfl rfl (by kernel_rfl) (by kernel_rfl) (by kernel_rfl) (by kernel_rfl) (by kernel_rfl) (by kernel_rfl) (fun _ _ _ h => h) (Or.inl ⟨by rfl, ?ha6⟩) (fun _ => rfl) (by assumption) ?ra6
        case ha6 =>
          intro w hSw
          try dsimp only at hSw
          go_simp
          try with_reducible rfl
        try simp only [Act.put, List.setIfInBounds_toArray, List.set_cons_zero, List.set_cons_succ]
        refine wpAnyInL_take (i := 7) (v := ?va7) [11, 12, 13, 14, 15] rfl rfl (by kernel_rfl) (by kernel_rfl) (by kernel_rfl) (by kernel_rfl) (by kernel_rfl) (by kernel_rfl) (fun _ _ _ h => h) (Or.inl ⟨by rfl, ?ha7⟩) (fun _ => rfl) (by assumption) ?ra7
        case ha7 =>
          intro w hSw
          try dsimp only at hSw
          go_simp
          try with_reducible rfl
        try simp only [Act.put, List.setIfInBounds_toArray, List.set_cons_zero, List.set_cons_succ]
        refine wpAnyInL_take (i := 8) (v := ?va8) [9, 10, 11, 12, 13, 14, 15] rfl rfl (by kernel_rfl) (by kernel_rfl) (by kernel_rfl) (by kernel_rfl) (by kernel_rfl) (by kernel_rfl) (fun _ _ _ h => h) (Or.inl ⟨by rfl, ?ha8⟩) (fun _ => rfl) (by assumption) ?ra8
        case ha8 =>
          intro w hSw
          try dsimp only at hSw
          go_simp
          try with_reducible rfl
        try simp only [Act.put, List.setIfInBounds_toArray, List.set_cons_zero, List.set_cons_succ]
        refine wpAnyInL_take (i := 9) (v := ?va9) [10, 11, 12, 13, 14, 15] rfl rfl (by kernel_rfl) (by kernel_rfl) (by kernel_rfl) (by kernel_rfl) (by kernel_rfl) (by kernel_rfl) (fun _ _ _ h => h) (Or.inl ⟨by rfl, ?ha9⟩) (fun _ => rfl) (by assumption) ?ra9
        case ha9 =>
          intro w hSw
          try dsimp only at hSw
          go_simp
          try with_reducible rfl
        try simp only [Act.put, List.setIfInBounds_toArray, List.set_cons_zero, List.set_cons_succ]
        refine wpAnyInL_take (i := 10) (v := ?va10) [11, 12, 13, 14, 15] rfl rfl (by kernel_rfl) (by kernel_rfl) (by kernel_rfl) (by kernel_rfl) (by kernel_rfl) (by kernel_rfl) (fun _ _ _ h => h) (Or.inl ⟨by rfl, ?ha10⟩) (fun _ => rfl) (by assumption) ?ra10
        case ha10 =>
          intro w hSw
          try dsimp only at hSw
          go_simp
          try with_reducible rfl
        try simp only [Act.put, List.setIfInBounds_toArray, List.set_cons_zero, List.set_cons_succ]
        refine wpAnyInL_take (i := 11) (v := ?va11) [12, 13, 14, 15] rfl rfl (by kernel_rfl) (by kernel_rfl) (by kernel_rfl) (by kernel_rfl) (by kernel_rfl) (by kernel_rfl) (fun _ _ _ h => h) (Or.inl ⟨by rfl, ?ha11⟩) (fun _ => rfl) (by assumption) ?ra11
        case ha11 =>
          intro w hSw
          try dsimp only at hSw
          go_simp
          try with_reducible rfl
        try simp only [Act.put, List.setIfInBounds_toArray, List.set_cons_zero, List.set_cons_succ]
        refine wpAnyInL_take (i := 12) (v := ?va12) [13, 14, 15] rfl rfl (by kernel_rfl) (by kernel_rfl) (by kernel_rfl) (by kernel_rfl) (by kernel_rfl) (by kernel_rfl) (fun _ _ _ h => h) (Or.inl ⟨by rfl, ?ha12⟩) (fun _ => rfl) (by assumption) ?ra12
        case ha12 =>
          intro w hSw
          try dsimp only at hSw
          go_simp
          try with_reducible rfl
        try simp only [Act.put, List.setIfInBounds_toArray, List.set_cons_zero, List.set_cons_succ]
        refine wpAnyInL_take (i := 13) (v := ?va13) [14, 15] rfl rfl (by kernel_rfl) (by kernel_rfl) (by kernel_rfl) (by kernel_rfl) (by kernel_rfl) (by kernel_rfl) (fun _ _ _ h => h) (Or.inl ⟨by rfl, ?ha13⟩) (fun _ => rfl) (by assumption) ?ra13
        case ha13 =>
          intro w hSw
          try dsimp only at hSw
          go_simp
          try with_reducible rfl
        try simp only [Act.put, List.setIfInBounds_toArray, List.set_cons_zero, List.set_cons_succ]
        refine wpAnyInL_one (i := 14) (by kernel_rfl) rfl (fun K hK => ?sb6)
        go_simp
        refine ⟨(fun h => by cases h), hR.mono ?_⟩
        rintro e W3 (⟨rfl, hJ3, hk3⟩ | ⟨rfl, hJx3⟩)
        · refine hK.out _ _ (fun h => absurd (by decide) h) (fun _ => ?mb6)
          clear hK K
          try simp only [Act.put, List.setIfInBounds_toArray, List.set_cons_zero, List.set_cons_succ]
          refine wpAnyInL_one (i := 15) (by kernel_rfl) rfl (fun K hK => ?sb7)
          go_simp
          refine hK.out _ _ (fun h => absurd (by decide) h) (fun _ => ?mb7)
          clear hK K
          try simp only [Act.put, List.setIfInBounds_toArray, List.set_cons_zero, List.set_cons_succ]
          refine wpAnyInL_done (by kernel_rfl) ?_ _
          gi_wp2
          go_roundw
          case rel => exact ⟨k + 1, _, by omega, by go_num, hup.snoc hlt, hJ3, hnx2.trans hk3⟩
          case measure => simp [intOf]; omega
        · refine hK.out _ _ (fun h => absurd (by decide) h) (fun _ => ?mc6)
          clear hK K
          try simp only [Act.put, List.setIfInBounds_toArray, List.set_cons_zero, List.set_cons_succ]
          refine wpAnyInL_one (i := 15) (by kernel_rfl) rfl (fun K hK => ?sc7)
          go_simp
          refine hK.out _ _ (fun h => absurd (by decide) h) (fun _ => ?mc7)
          clear hK K
          try simp only [Act.put, List.setIfInBounds_toArray, List.set_cons_zero, List.set_cons_succ]
          refine wpAnyInL_done (by kernel_rfl) ?_ _
          gi_wp2
          refine bodyPost_ret (results_none rfl _ _ _) rfl ?_
          exact ⟨⟨_, rfl⟩, .inr ⟨_, ⟨k + 1, by omega, hup.snoc hlt⟩, hJx3⟩⟩
    · obtain rfl : k = m := by omega
      gi_wp2
      go_end0
      exact ⟨⟨_, rfl⟩, .inl ⟨_, hup, hJs⟩⟩
theorem pairs_stops (n Bs n₀ m : Nat) (ad : Option Addr) (xs : List Int) (cap : Nat) (hm : xs.length ≤ 17592186044416) (hlen : xs.length = 2 * m) (hb : xs ≠ [] → ∀ a, ad = some a → a.block < n₀) (w : World) (hBs : Bs < w.heap.size)
    (hc : w.cell? ⟨Bs, 0, none⟩ = some (.slice ad xs.length cap)) (hl : LimS w ad xs) :
    SeqStopsK Fence.wide n Tryz.prog 95 #[.pointer (some ⟨Bs, 0, none⟩)] (pairV xs (n := m)) (KpS n₀ Bs) (fun ys => Upto ys m) (fun pre => ∃ k, k ≤ m ∧ Upto pre k) m w := fun l J Jx W hW hJ _ hY h0 =>
  pairs_in n l Bs n₀ m ad xs cap hm hlen hb J Jx (fun pre A hj => hJ pre A A.drew none hj ⟨rfl, rfl, rfl, Nat.le_refl _, fun _ _ _ => rfl⟩ (fun _ h => by cases h)) hY W ((hW.cell (p := ⟨Bs, 0, none⟩) hBs).trans hc) (hl.later hW) h0
end
section
open Go.RowKit
set_option linter.unusedVariables false
set_option linter.unusedSimpArgs false
/-- a row that came as an index and may be written to -/
def IdxP (B : Nat) (X : World) (ad : Option Addr) (cap : Nat) (zs : List Int) : Prop := (ad = none ∧ cap = 0 ∧ zs = []) ∨ ∃ g, ad = some ⟨g, 0, none⟩ ∧ B ≤ g ∧ cap ≤ maxLen ∧ PartS X g cap zs
theorem NumS.partS0 {base : Nat} {w : World} {v : Value} {zs : List Int} (h : NumS base w v zs) : (v = .slice none 0 0 ∧ zs = []) ∨ ∃ g cap, v = .slice (some ⟨g, 0, none⟩) zs.length cap ∧ base ≤ g ∧ cap ≤ maxLen ∧ PartS w g cap zs := by
  obtain ⟨h1, h2⟩ := h
  rcases h2 with ⟨hv, hn⟩ | ⟨g, cap, cur, hv, hb, hg, hc, hm, hs, ht⟩
  · exact .inl ⟨hv, List.eq_nil_of_length_eq_zero hn⟩
  · exact .inr ⟨g, cap, hv, hb, hm, cur, hg, by simpa using hs, hc, by simpa using ht⟩
theorem ResS.idx {B : Nat} {w : World} {u : Value} {xs : List Int} (h : ResS B w u xs) : ∃ ad cap, u = .slice ad xs.length cap ∧ IdxP B w ad cap xs ∧ xs.length ≤ cap ∧ (ad = none → cap = 0) ∧ Wid xs := by
  obtain ⟨ad, cap, rfl, hR, A, hn⟩ := h.slice
  rcases hR.num.partS0 with ⟨e, hz⟩ | ⟨g, cap2, e, hb, hm, hP⟩
  · simp only [Value.slice.injEq] at e
    obtain ⟨rfl, _, rfl⟩ := e
    exact ⟨_, 0, rfl, .inl ⟨rfl, rfl, hz⟩, A.le, hn, A.wf⟩
  · simp only [Value.slice.injEq] at e
    obtain ⟨rfl, _, rfl⟩ := e
    exact ⟨_, cap, rfl, .inr ⟨g, rfl, hb, hm, hP⟩, A.le, hn, A.wf⟩
theorem IdxP.arg {B : Nat} {X : World} {ad : Option Addr} {cap : Nat} {zs : List Int} (h : IdxP B X ad cap zs) (hl : zs.length ≤ cap) (hw : Wid zs) : ArgS X (.slice ad zs.length cap) zs ad cap := by
  rcases h with ⟨_, _, rfl⟩ | ⟨g, rfl, hb, hm, hP⟩
  · exact ⟨rfl, .inl rfl, hl, hw⟩
  · exact ⟨rfl, .inr ⟨g, 0, rfl, fun i hi => by rw [Nat.zero_add]; exact hP.cell i hi⟩, hl, hw⟩
theorem IdxP.later {B : Nat} {X Y : World} {ad : Option Addr} {cap : Nat} {zs : List Int} (h : IdxP B X ad cap zs) (hb : Below X.heap.size X Y) : IdxP B Y ad cap zs := by
  rcases h with h | ⟨g, e, k1, k2, hP⟩
  · exact .inl h
  · exact .inr ⟨g, e, k1, k2, hP.later hb⟩
theorem IdxP.at {B : Nat} {X : World} {ad : Option Addr} {cap : Nat} {zs : List Int} (h : IdxP B X ad cap zs) {i : Nat} (hi : i < zs.length) : ∃ g, ad = some ⟨g, 0, none⟩ ∧ B ≤ g ∧ cap ≤ maxLen ∧ PartS X g cap zs := by
  rcases h with ⟨_, _, rfl⟩ | h
  · simp at hi
  · exact h
theorem IdxP.lt {B : Nat} {X : World} {cap g : Nat} {zs : List Int} (h : IdxP B X (some ⟨g, 0, none⟩) cap zs) : g < X.heap.size := by
  rcases h with ⟨e, _⟩ | ⟨g', e, _, _, hP⟩
  · cases e
  · cases e; exact hP.lt
set_option maxRecDepth 100000 in
set_option maxHeartbeats 4000000 in
theorem reshape1_any {n : Nat} {w : World} {vx u : Value} {s xs : List Int} {qs : List Q3} {a b : Option Addr} {ca cb : Nat} {gx : Nat} {ad : Option Addr} {cd : Nat} (T : TensQ w vx s qs a ca b cb) (h0 : mayT s qs = 0) (hl : lensQ qs n) (hn : n ≤ 100000000) (hgx : Row w gx 26 #[.slice a s.length ca, .slice b qs.length cb]) (X : ArgS w u xs ad cd) (nd : ad = none → cd = 0) (hx : xs.length ≤ 1000000) :
    Calls Tryz.prog 54 #[u, .pointer (some ⟨gx, 0, none⟩)] w fun e w' => ∃ r, e = .returned r ∧ ResQ w.heap.size w' r (elV s (qs.map Q3.rat) xs) (n + 2) ∧ Below w.heap.size w w' := by
  have HT := Lib.hid T
  have okS := mayC_zero.1 (mayT_rank h0)
  have hrk : s.length ≤ 4 := okS.rank
  obtain ⟨W, hW⟩ : ∃ W, w.alloc (.cells #[.bool false, .slice none 0 0, .slice none 0 0] 58) = W := ⟨_, rfl⟩
  have R0 : Row W w.heap.size 58 #[.bool false, .slice none 0 0, .slice none 0 0] := by rw [← hW]; exact Row.new _ _ _
  have hBW : Below w.heap.size w W := by rw [← hW]; exact (Below.refl _ _).alloc (Nat.le_refl _) _
  have hsW : W.heap.size = w.heap.size + 1 := by rw [← hW]; simp
  obtain rfl := T.is
  have he := element_any (T.later hBW) h0 (X.later hBW) nd hx hl hn
  obtain ⟨k0, k1, _, _⟩ := (hgx.later hBW).two
  obtain rfl := X.is
  clear T X
  go_enter Tryz.func54, Tryz.ntmps54
  (try rw [hW])
  go_wp2_with fail
  refine he.mono ?_
  rintro e w7 ⟨r, rfl, qv, hb7⟩
  have P2 := R0.later hb7
  have s7 := hb7.size
  have Q2 := Lib.hid qv
  obtain ⟨m5, f1, l1, j1, f2, l2, j2, rfl⟩ := qv.shape
  clear qv
  obtain ⟨u0, u1, u2, g0, g1, g2⟩ := P2.three
  go_wp2_with fail
  have P3 := P2.set3 (.bool m5) (.slice f1 l1 j1) (.slice f2 l2 j2)
  obtain ⟨z0, z1, z2, _, _, _⟩ := P3.three
  refine bodyPost_ret (v := .agg #[.bool m5, .slice f1 l1 j1, .slice f2 l2 j2]) (by simp [results, Tryz.results54, go_sem, z0, z1, z2]) rfl ⟨_, rfl, ?_, below_set3 (hBW.trans (hb7.mono (by omega))) (by omega) _ _ _⟩
  exact (Q2.out.mono (by omega)).far P2 (by decide) (kept3 _ _ _)
set_option maxRecDepth 100000 in
set_option maxHeartbeats 4000000 in
theorem transpose1_any {n : Nat} {w : World} {vx u : Value} {s xs : List Int} {qs : List Q3} {a b : Option Addr} {ca cb : Nat} {p : List Int} {gp gx : Nat} {ap ad : Option Addr} {cp cd : Nat} (T : TensQ w vx s qs a ca b cb) (h0 : mayT s qs = 0) (hl : lensQ qs n) (hn : n ≤ 100000000) (P : ArgS w (.slice ap p.length cp) p ap cp) (hgp : w.cell? ⟨gp, 0, none⟩ = some (.slice ap p.length cp)) (hp : IsPerm p) (hpl : p.length = s.length)
    (hgx : Row w gx 26 #[.slice a s.length ca, .slice b qs.length cb]) (X : ArgS w u xs ad cd) (hx : xs.length = p.length) :
    Calls Tryz.prog 43 #[u, .pointer (some ⟨gp, 0, none⟩), .pointer (some ⟨gx, 0, none⟩)] w fun e w' => ∃ r, e = .returned r ∧ ResQ w.heap.size w' r (elV s (qs.map Q3.rat) (trI p xs)) (n + 2) ∧ Below w.heap.size w w' := by
  have HT := Lib.hid T
  have okS := mayC_zero.1 (mayT_rank h0)
  have hrk : s.length ≤ 4 := okS.rank
  obtain ⟨W, hW⟩ : ∃ W, w.alloc (.cells #[.bool false, .slice none 0 0, .slice none 0 0] 58) = W := ⟨_, rfl⟩
  have R0 : Row W w.heap.size 58 #[.bool false, .slice none 0 0, .slice none 0 0] := by rw [← hW]; exact Row.new _ _ _
  have hBW : Below w.heap.size w W := by rw [← hW]; exact (Below.refl _ _).alloc (Nat.le_refl _) _
  have hsW : W.heap.size = w.heap.size + 1 := by rw [← hW]; simp
  obtain rfl := T.is
  have HX := Lib.hid X
  have HP := Lib.hid P
  have HPP := Lib.hid hp
  have HXL := Lib.hid hx
  have HXW := Lib.hid X.wf
  have hgl := World.block_lt_of_cell? w _ hgp
  have k2 := (hBW.cell hgl).trans hgp
  obtain rfl := X.is
  obtain ⟨L, hL⟩ : ∃ L, p.length = L := ⟨_, rfl⟩
  have HL := Lib.hid hL
  have HPL := Lib.hid hpl
  have HGX := Lib.hid hgx
  have HL0 := Lib.hid hl
  rw [hx, hL]
  rw [hL] at k2 hpl
  have hL4 : L ≤ 4 := by omega
  have hmk := make_runS L (by omega)
  clear T X P hp hx hL hpl
  go_enter Tryz.func43, Tryz.ntmps43
  (try rw [hW])
  go_wp2_with fail
  obtain ⟨V, hV⟩ : ∃ V, W.alloc (.cells (madeCells #[.int .i64 0] L) 3) = V := ⟨_, rfl⟩
  have rP : PartS V (w.heap.size + 1) L (List.replicate L 0) := by rw [← hV, ← hsW]; exact ⟨_, BlkS.made W L, by simp, by simp, by simp⟩
  have rR := (show Row V w.heap.size 58 #[.bool false, .slice none 0 0, .slice none 0 0] by rw [← hV]; exact R0.alloc _)
  have hBV : Below w.heap.size w V := by rw [← hV]; exact hBW.alloc (by omega) _
  (try rw [hV])
  have k3 := (hBV.cell hgl).trans hgp
  rw [HL.out] at k3
  have H0 := Lib.hid rP
  have H1 := Lib.hid rR
  have HB := Lib.hid hBV
  have hF0 := FillP.nil p xs
  rw [HL.out] at hF0
  have HF0 := Lib.hid hF0
  clear rP rR hBV hmk hW hV k2 R0 hBW hF0
  go_wp2_with fail
  go_loopw [6, 7, 13] (fun _ _ i wr => ∃ (k : Nat) (zs : List Int), i = .int .i64 (k : Int) ∧ k ≤ L ∧ PartS wr (w.heap.size + 1) L zs ∧ FillP p xs zs k ∧ Row wr w.heap.size 58 #[.bool false, .slice none 0 0, .slice none 0 0] ∧ Below w.heap.size w wr) (fun _ _ i _ => L - (intOf i).toNat)
  case atStart => exact ⟨0, _, rfl, Nat.zero_le _, H0.out, HF0.out, H1.out, HB.out⟩
  case round =>
    obtain ⟨k, zs, rfl, hk, hP, hF, hR, hb⟩ := hrel
    have hsz := hb.size
    have HP1 := Lib.hid hP
    have HF := Lib.hid hF
    have HR := Lib.hid hR
    by_cases hlt : k < L
    · obtain ⟨b1, o1, rfl, c1⟩ := (HP.out.later hb).at (i := k) (by rw [HL.out]; exact hlt)
      obtain ⟨b2, o2, rfl, c2⟩ := (HX.out.later hb).at (i := k) (by rw [HXL.out, HL.out]; exact hlt)
      have hlow := HPP.out.low (i := k) (by rw [HL.out]; exact hlt)
      rw [HL.out] at hlow
      obtain ⟨j, hj⟩ : ∃ j : Nat, p.getD k 0 = (j : Int) := ⟨(p.getD k 0).toNat, by omega⟩
      have HJ := Lib.hid hj
      have hjl : j < L := by omega
      rw [hj] at c1
      have hf := hP.free j
      have hcj := hP.cell j (by rw [hF.1, HL.out]; exact hjl)
      have hltI : (k : Int) < (L : Int) := by omega
      have hjI : (j : Int) < (L : Int) := by omega
      clear hP hF hR hlow hj
      go_wp2
      go_roundw
      case rel =>
        have hn := HF.out.next HPP.out (by rw [HL.out]; exact hlt)
        rw [HJ.out, show ((j : Int)).toNat = j by omega] at hn
        refine ⟨k + 1, _, by go_num, by omega, HP1.out.set j (by rw [HF.out.1, HL.out]; exact hjl) _, hn, HR.out.far (by show w.heap.size ≠ w.heap.size + 1; omega) _, hb.setCell (by show w.heap.size ≤ w.heap.size + 1; omega) _⟩
      case measure => simp [intOf]; omega
    · obtain rfl : k = L := by omega
      have hltI : ¬ (k : Int) < (k : Int) := by omega
      have hzs : zs = trI p xs := by
        have := HF.out
        rw [← HL.out] at this
        exact this.full HPP.out
      have hwid : Wid zs := by rw [hzs]; exact trI_wid HXW.out
      have hlen : zs.length = k := by rw [HF.out.1, HL.out]
      have AZ := (show ResS w.heap.size wr (.slice (some ⟨w.heap.size + 1, 0, none⟩) zs.length k) zs from ⟨HP1.out.num (by omega) (by unfold maxLen; omega), hwid⟩).at_
      have he := element_any (HT.out.later hb) h0 AZ.2.1 AZ.2.2 (by rw [hlen]; omega) HL0.out hn
      rw [hlen] at he
      rw [hzs] at he
      have hgr := HGX.out.later hb
      obtain ⟨y0, y1, _, _⟩ := hgr.two
      clear hP hF hR AZ hwid
      go_wp2_with fail
      refine he.mono ?_
      rintro e w7 ⟨r, rfl, qv, hb7⟩
      have P2 := HR.out.later hb7
      have s7 := hb7.size
      have Q2 := Lib.hid qv
      obtain ⟨m5, f1, l1, j1, f2, l2, j2, rfl⟩ := qv.shape
      clear qv
      obtain ⟨u0, u1, u2, g0, g1, g2⟩ := P2.three
      go_wp2_with fail
      have P3 := P2.set3 (.bool m5) (.slice f1 l1 j1) (.slice f2 l2 j2)
      obtain ⟨z0, z1, z2, _, _, _⟩ := P3.three
      refine bodyPost_ret (v := .agg #[.bool m5, .slice f1 l1 j1, .slice f2 l2 j2]) (by simp [results, Tryz.results43, go_sem, z0, z1, z2]) rfl ⟨_, rfl, ?_, below_set3 (hb.trans (hb7.mono (by omega))) (by omega) _ _ _⟩
      exact (Q2.out.mono (by omega)).far P2 (by decide) (kept3 _ _ _)
/-- an index whose last numbers are cut to what a shape has, up to place r -/
def FillB (s xs zs : List Int) (k r : Nat) : Prop := zs.length = xs.length ∧ (∀ i, i < r → zs.getD (k + i) 0 = xs.getD (k + i) 0 % s.getD i 0) ∧ ∀ i, r ≤ i → zs.getD (k + i) 0 = xs.getD (k + i) 0
theorem FillB.nil (s xs : List Int) (k : Nat) : FillB s xs xs k 0 := ⟨rfl, fun i hi => by omega, fun i _ => rfl⟩
theorem FillB.next {s xs zs : List Int} {k r : Nat} (h : FillB s xs zs k r) (hr : k + r < xs.length) : FillB s xs (zs.set (k + r) (xs.getD (k + r) 0 % s.getD r 0)) k (r + 1) := by
  obtain ⟨h1, h2, h3⟩ := h
  refine ⟨by rw [List.length_set]; exact h1, fun i hi => ?_, fun i hi => ?_⟩
  · by_cases e : i = r
    · subst e
      exact getD_set_self _ _ _ (by omega)
    · rw [getD_set_ne _ _ (by omega), h2 i (by omega)]
  · rw [getD_set_ne _ _ (by omega), h3 i (by omega)]
theorem FillB.full {s xs zs : List Int} {k : Nat} (h : FillB s xs zs k s.length) (hl : xs.length = k + s.length) : zs.drop k = bcI s k xs := by
  obtain ⟨h1, h2, _⟩ := h
  refine list_eq_getD (by rw [bcI_len, List.length_drop]; omega) fun i hi => ?_
  rw [List.length_drop] at hi
  rw [bcI_at _ _ _ (by omega), ← h2 i (by omega)]
  simp [List.getD_eq_getElem?_getD]
end
section
open Go.RowKit
set_option linter.unusedVariables false
set_option linter.unusedSimpArgs false
/-- one place of a row, made anew -/
def stp (f : Nat → Int → Int) (z : List Int) (i : Nat) : List Int := z.set i (f i (z.getD i 0))
def stpOf (f : Nat → Int → Int) (xs : List Int) (ks : List Nat) : List Int := ks.foldl (stp f) xs
theorem stpOf_snoc (f : Nat → Int → Int) (xs : List Int) (ks : List Nat) (k : Nat) : stpOf f xs (ks ++ [k]) = stp f (stpOf f xs ks) k := by simp [stpOf]
theorem stpOf_len (f : Nat → Int → Int) (xs : List Int) (ks : List Nat) : (stpOf f xs ks).length = xs.length := by
  unfold stpOf
  induction ks generalizing xs with
  | nil => rfl
  | cons k ks ih => rw [List.foldl_cons, ih]; simp [stp]
theorem stpOf_at (f : Nat → Int → Int) (xs : List Int) (n : Nat) (hn : n ≤ xs.length) (i : Nat) : (stpOf f xs (List.range n)).getD i 0 = if i < n then f i (xs.getD i 0) else xs.getD i 0 := by
  induction n with
  | zero => simp [stpOf]
  | succ n ih =>
    rw [List.range_succ, stpOf_snoc]
    unfold stp
    by_cases e : i = n
    · subst e
      rw [getD_set_self _ _ _ (by rw [stpOf_len]; omega), ih (by omega), if_neg (by omega), if_pos (by omega)]
    · rw [getD_set_ne _ _ (by omega), ih (by omega)]
      by_cases h : i < n
      · rw [if_pos h, if_pos (by omega)]
      · rw [if_neg h, if_neg (by omega)]
theorem stpOf_all (f : Nat → Int → Int) {xs : List Int} {m : Nat} (h : xs.length = m) : stpOf f xs (List.range m) = (List.range m).map fun i : Nat => f i (xs.getD i 0) := by
  refine list_eq_getD (by rw [stpOf_len, List.length_map, List.length_range, h]) fun i hi => ?_
  rw [stpOf_len, h] at hi
  rw [stpOf_at _ _ _ (by omega), if_pos hi, getD_map_range _ hi]
theorem IdxP.keepC {B : Nat} {X Y : World} {ad : Option Addr} {cap : Nat} {zs : List Int} (h : IdxP B X ad cap zs) (k : KeepC X Y) : IdxP B Y ad cap zs := by
  rcases h with h | ⟨g, e, k1, k2, cur, hh, hr⟩
  · exact .inl h
  · exact .inr ⟨g, e, k1, k2, cur, (k _ _ _ _ hh).trans hh, hr⟩
theorem IdxP.drew {B : Nat} {X : World} {ad : Option Addr} {cap : Nat} {zs : List Int} (h : IdxP B X ad cap zs) : IdxP B X.drew ad cap zs := h
theorem ResS.keepC {base : Nat} {w w' : World} {v : Value} {xs : List Int} (h : ResS base w v xs) (k : KeepC w w') : ResS base w' v xs := by
  obtain ⟨⟨h1, h2⟩, hw⟩ := h
  refine ⟨⟨h1, ?_⟩, hw⟩
  rcases h2 with h2 | ⟨g, cap, cur, hv, hb, hg, hr⟩
  · exact .inl h2
  · exact .inr ⟨g, cap, cur, hv, hb, (k _ _ _ _ hg).trans hg, hr⟩
theorem IdxP.res {B : Nat} {X : World} {ad : Option Addr} {cap : Nat} {zs : List Int} (h : IdxP B X ad cap zs) (hw : Wid zs) : ResS B X (.slice ad zs.length cap) zs := by
  rcases h with ⟨rfl, rfl, rfl⟩ | ⟨g, rfl, k1, k2, hP⟩
  · exact ResS.nil _ _
  · exact ⟨hP.num k1 k2, hw⟩
theorem ResS.arg2 {B : Nat} {w : World} {u : Value} {xs : List Int} (h : ResS B w u xs) : ∃ ad cap, ArgS w u xs ad cap ∧ (ad = none → cap = 0) := by
  obtain ⟨ad, cap, rfl, _, A, hn⟩ := h.slice
  exact ⟨ad, cap, A, hn⟩
theorem wrap_range (x : Int) : -9223372036854775808 ≤ IntKind.i64.wrap x ∧ IntKind.i64.wrap x ≤ 9223372036854775807 := by
  simp only [IntKind.wrap, IntKind.bits, IntKind.signed]
  simp
  omega
theorem setBelow {B b : Nat} {w w' : World} (h : Below B w w') (hb : B ≤ b) (k : Nat) (u : Value) : Below B w (w'.setCell ⟨b, k, none⟩ u) := h.setCell hb u
end
section
open Go.RowKit Go.Shelf
attribute [local go_sem] Oper.semAt_some
set_option linter.unusedVariables false
set_option linter.unusedSimpArgs false
set_option maxRecDepth 100000 in
set_option maxHeartbeats 4000000 in
theorem slice1_any {n : Nat} {w0 w : World} {vx : Value} {s xs : List Int} {qs : List Q3} {a b ad : Option Addr} {ca cb cap B : Nat} {gc gx m : Nat} {cuts : List Int} {ac : Option Addr} {cc : Nat} (T : TensQ w0 vx s qs a ca b cb) (h0 : mayT s qs = 0) (hl : lensQ qs n) (hn : n ≤ 100000000) (h0B : w0.heap.size ≤ B) (hBw : B ≤ w.heap.size) (h0w : Below w0.heap.size w0 w) (I : IdxP B w ad cap xs) (hcap : xs.length ≤ cap) (nd : ad = none → cap = 0) (hgx : Row w0 gx 26 #[.slice a s.length ca, .slice b qs.length cb]) (C : ArgS w0 (.slice ac cuts.length cc) cuts ac cc) (hgc : w0.cell? ⟨gc, 0, none⟩ = some (.slice ac cuts.length cc)) (hcl : cuts.length = 2 * m) (hxm : xs.length = m) (hm4 : m ≤ 4) :
    Calls Tryz.prog 62 #[.slice ad xs.length cap, .pointer (some ⟨gc, 0, none⟩), .pointer (some ⟨gx, 0, none⟩)] w fun e w' => ∃ r, e = .returned r ∧ ResQ B w' r (elV s (qs.map Q3.rat) ((List.range m).map fun i : Nat => IntKind.i64.wrap ((xs.getD i 0) + fstP cuts i))) (n + 2) ∧ Below B w w' := by
  have HT := Lib.hid T
  obtain rfl := T.is
  obtain ⟨G, hG⟩ : ∃ G, w.heap.size = G := ⟨_, rfl⟩
  obtain ⟨W, hW⟩ : ∃ W, (w.alloc (.cells #[.slice ad xs.length cap] 22)).alloc (.cells #[.bool false, .slice none 0 0, .slice none 0 0] 58) = W := ⟨_, rfl⟩
  have R0 : Row W G 22 #[.slice ad xs.length cap] := by rw [← hW, ← hG]; exact (Row.new _ _ _).alloc _
  have R1 : Row W (G + 1) 58 #[.bool false, .slice none 0 0, .slice none 0 0] := by rw [← hW, ← hG]; have h := Row.new (w.alloc (.cells #[.slice ad xs.length cap] 22)) 58 #[.bool false, .slice none 0 0, .slice none 0 0]; simp only [World.size_alloc] at h; exact h
  have hBW0 : Below w.heap.size w W := by rw [← hW]; exact ((Below.refl _ _).alloc (Nat.le_refl _) _).alloc (by simp) _
  have hBW : Below B w W := hBW0.mono hBw
  have hsW : W.heap.size = G + 1 + 1 := by rw [← hW, ← hG]; simp
  have h0W : Below w0.heap.size w0 W := h0w.trans (hBW.mono h0B)
  have k2 := (h0W.cell (World.block_lt_of_cell? _ _ hgc)).trans hgc
  have I1 := I.later hBW0
  have HCL := Lib.hid hcl
  have HCB : Hid (cuts ≠ [] → ∀ x, ac = some x → x.block < B) := Lib.hid (fun h1 x h2 => Nat.lt_of_lt_of_le (C.lim.lt h1 x h2) h0B)
  have hlim : LimS W ac cuts := C.lim.later h0W
  have HXM := Lib.hid hxm
  have HI := Lib.hid I
  have HL0 := Lib.hid hl
  have HND := Lib.hid nd
  have HGX := Lib.hid hgx
  rw [hxm] at hcap R0 hW ⊢
  have hc8 : cuts.length ≤ 8 := by omega
  clear T hgx hl nd C I hgc hcl hxm
  obtain ⟨n', hn'⟩ : ∃ n' : Nat, Hid (3 ≤ n') := ⟨3, Nat.le_refl 3⟩
  refine (callsIn_wide (n := n')).1 ?_
  refine callsIn_of_wp_marks Tryz.func62 rfl trivial ?_ rfl
  simp only [Tryz.ntmps62, List.size_toArray, List.length_cons, List.length_nil, Nat.reduceAdd, Nat.reduceSub, Array.replicate_succ, Array.replicate_zero, List.push_toArray, List.append_toArray, List.nil_append, List.cons_append]
  gi_wp2_with fail

  (try rw [hW])
  (try rw [hG])
  refine wideCallS ((pairs_any _ _ _ _).mono ?_)
  rintro e w' ⟨rfl, rfl⟩
  gi_wp2_with fail
  obtain ⟨V, hV⟩ : ∃ V, W.alloc (.cells #[.slice ac cuts.length cc] 22) = V := ⟨_, rfl⟩
  have sV : V.heap.size = G + 1 + 1 + 1 := by rw [← hV, World.size_alloc, hsW]
  have b4 : Below W.heap.size W V := by rw [← hV]; exact (Below.refl _ _).alloc (Nat.le_refl _) _
  have d4 : Boxed V (G + 1 + 1) 22 (.slice ac cuts.length cc) := by rw [← hV, ← hsW]; exact Boxed.new _ _ _
  have q0 := R0.later b4
  have q1 := R1.later b4
  have q2 := I1.later b4
  have hbV : Below B w V := hBW.trans (b4.mono (by omega))
  have hlimV : LimS V ac cuts := hlim.later b4
  (try rw [hsW])
  (try rw [hV])
  have h3 : 3 ≤ n' := hn'
  clear hV hW k2 R0 R1 I1 hBW0 hlim
  refine wpIn_rangeFunc_ownH (F := Fence.wide) (n := n') rfl (by omega) (gf := 95) (lb := #[.pointer (some ⟨G + 1 + 1, 0, none⟩)]) rfl trivial (enters_of Tryz.func95 (by kernel_rfl) rfl)
    (pairs_stops (n' - 1) (G + 1 + 1) (B) m ac cuts cc (by omega) HCL.out HCB.out V (by omega) d4.cell hlimV) KpS.trans (KpS.b (by omega) (by omega)) (Below.refl _ _) (fun _ => rfl)
    (fun (pre : List (Fin m)) X => IdxP B X ad cap (stpOf (fun i z => IntKind.i64.wrap (z + fstP cuts i)) xs (pre.map Fin.val)) ∧ Row X G 22 #[.slice ad m cap] ∧ Row X (G + 1) 58 #[.bool false, .slice none 0 0, .slice none 0 0] ∧ Below B w X ∧ G + 1 + 1 + 1 ≤ X.heap.size)
    (fun c pre X => False)
    (fun pre X Y row ⟨e1, e2, e3, e4, e5⟩ hg hr => have kk := KeepC.grown hg (fun r e => (hr r e).2); ⟨e1.keepC kk, e2.keepC kk, e3.keepC kk, e4.grown hg (by have := e4.size; omega) (fun k e => by have := (hr k e).1; omega), Nat.le_trans e5 hg.size⟩)
    (fun _ _ _ _ _ hs _ _ => hs)
    ⟨q2, q0, q1, hbV, by omega⟩
    (fun (x : Fin m) a' X => ∃ p, G + 1 + 1 + 1 ≤ p ∧ Row X p 89 #[.int .i64 (cuts[2 * x.val]?.getD 0), .int .i64 (cuts[2 * x.val + 1]?.getD 0)] ∧
      a' = { tmps := #[.slice ad m cap, .pointer (some ⟨gc, 0, none⟩), .pointer (some ⟨gx, 0, none⟩), .pointer (some ⟨G, 0, none⟩), .pointer (some ⟨G + 1, 0, none⟩), .int .i64 (x.val : Int), .pointer (some ⟨p, 0, none⟩), .slice ac cuts.length cc, .func (.func 95) #[] #[.pointer (some ⟨G + 1 + 1, 0, none⟩)], .int .i64 (x.val : Int), .agg #[.int .i64 (cuts[2 * x.val]?.getD 0), .int .i64 (cuts[2 * x.val + 1]?.getD 0)], undef, undef, undef, undef, undef, undef, undef, undef, undef, undef, undef], defers := [] })
    (fun x a' _ X Y row ⟨p, h1, h2, h3⟩ hg hr => ⟨p, h1, h2.keepC (KeepC.grown hg (fun r e => (hr r e).2)), h3⟩)
    ?assign ?body ?done ?stop
  case assign =>
    rintro l pre ⟨k, hk⟩ X K ⟨e1, e2, e3, e4, hsI⟩ hK
    obtain ⟨z0, hz0⟩ : ∃ z0, cuts[2 * k]?.getD 0 = z0 := ⟨_, rfl⟩
    obtain ⟨z1, hz1⟩ : ∃ z1, cuts[2 * k + 1]?.getD 0 = z1 := ⟨_, rfl⟩
    have hbX : Below X.heap.size X (X.alloc (.cells #[.int .i64 z0, .int .i64 z1] 89)) := (Below.refl _ _).alloc (Nat.le_refl _) _
    have kk := KeepC.below hbX
    have HK := Lib.hid hK
    have HZ0 := Lib.hid hz0
    have HZ1 := Lib.hid hz1
    simp only [pairV]
    rw [hz0, hz1]
    clear hK hz0 hz1
    gi_wp2
    refine HK.out _ _ ⟨by simp, fun q o _ ho _ => (Below.heap_alloc _ _ _ (lt_of_block ho)).trans ho⟩ ⟨hbX.mono (by omega), Below.heap_alloc _ _ _ (by omega)⟩ ⟨e1.keepC kk, e2.keepC kk, e3.keepC kk, e4.trans (hbX.mono (by have := e4.size; omega)), by simp; omega⟩ ⟨X.heap.size, hsI, ?_, ?_⟩
    · simp only [HZ0.out, HZ1.out]; exact Row.new _ _ _
    · simp only [HZ0.out, HZ1.out]
  case body =>
    rintro l pre ⟨k, hk⟩ a' X hl hrec ⟨e1, e2, e3, e4, hsI⟩ ⟨p, hp, hR, rfl⟩ hlt
    simp only at hR ⊢
    have hln := stpOf_len (fun i z => IntKind.i64.wrap (z + fstP cuts i)) xs (pre.map Fin.val)
    obtain ⟨zs, hzs⟩ : ∃ zs, stpOf (fun i z => IntKind.i64.wrap (z + fstP cuts i)) xs (pre.map Fin.val) = zs := ⟨_, rfl⟩
    rw [hzs] at e1 hln
    have hnx : stpOf (fun i z => IntKind.i64.wrap (z + fstP cuts i)) xs (pre.map Fin.val ++ [k]) = zs.set k (IntKind.i64.wrap ((zs.getD k 0) + fstP cuts k)) := by rw [stpOf_snoc, hzs]; rfl
    obtain ⟨z0, hz0⟩ : ∃ z0, cuts[2 * k]?.getD 0 = z0 := ⟨_, rfl⟩
    obtain ⟨z1, hz1⟩ : ∃ z1, cuts[2 * k + 1]?.getD 0 = z1 := ⟨_, rfl⟩
    have hf0 : fstP cuts k = z0 := hz0
    rw [hf0] at hnx
    rw [hz0, hz1] at hR
    rw [hz0, hz1]
    obtain ⟨g, rfl, hgB, hmx, hP⟩ := e1.at (i := k) (by rw [hln, HXM.out]; exact hk)
    have hgl := hP.lt
    have hc := hP.cell k (by rw [hln, HXM.out]; exact hk)
    obtain ⟨z, hz⟩ : ∃ z, zs.getD k 0 = z := ⟨_, rfl⟩
    rw [hz] at hc hnx
    obtain ⟨y, hy⟩ : ∃ y, IntKind.i64.wrap (z + z0) = y := ⟨_, rfl⟩
    rw [hy] at hnx
    have HNX := Lib.hid hnx
    have HZS := Lib.hid hzs
    have ci := e2.cell 0
    have cp0 := hR.cell 0
    have hkI : (k : Int) < (m : Int) := by omega
    have hgG : g < G := by have := HI.out.lt; omega
    have hS0 : X.drew.cell? ⟨G, 0, none⟩ = some (.slice (some ⟨g, 0, none⟩) m cap) ∧ X.drew.cell? ⟨g, k, none⟩ = some (.int .i64 z) ∧ X.drew.cell? ⟨p, 0, none⟩ = some (.int .i64 z0) := ⟨ci, hc, cp0⟩
    have b0 : Below X.heap.size X X.drew := (Below.refl _ X).drew
    have hf := hP.free k
    have HP := Lib.hid hP
    clear hnx hzs hz0 hz1 hf0 ci cp0 hc e1 hP hz
    refine wpIn_block ?_
    refine region_roundL (fun Y => Y.cell? ⟨G, 0, none⟩ = some (.slice (some ⟨g, 0, none⟩) m cap) ∧ Y.cell? ⟨g, k, none⟩ = some (.int .i64 z) ∧ Y.cell? ⟨p, 0, none⟩ = some (.int .i64 z0)) 8
      (by kernel_rfl) (by kernel_rfl) (by rintro ⟨a', w', h⟩; exact h) hS0 (fun hHeld => ?_)
    refine wpAnyL_take (i := 0) (v := ?va0) rfl (by kernel_rfl) (by kernel_rfl) (by kernel_rfl) (by kernel_rfl) (fun _ _ _ h => h) (Or.inl ⟨by rfl, ?ha0⟩) (by assumption) ?ra0
    case ha0 =>
      intro w hSw
      try dsimp only at hSw
      go_simp
      try with_reducible rfl
    try simp only [Act.put, List.setIfInBounds_toArray, List.set_cons_zero, List.set_cons_succ]
    refine wpAnyL_take (i := 1) (v := ?va1) rfl (by kernel_rfl) (by kernel_rfl) (by kernel_rfl) (by kernel_rfl) (fun _ _ _ h => h) (Or.inl ⟨by rfl, ?ha1⟩) (by assumption) ?ra1
    case ha1 =>
      intro w hSw
      try dsimp only at hSw
      go_simp
      try with_reducible rfl
    try simp only [Act.put, List.setIfInBounds_toArray, List.set_cons_zero, List.set_cons_succ]
    refine wpAnyL_take (i := 2) (v := ?va2) rfl (by kernel_rfl) (by kernel_rfl) (by kernel_rfl) (by kernel_rfl) (fun _ _ _ h => h) (Or.inl ⟨by rfl, ?ha2⟩) (by assumption) ?ra2
    case ha2 =>
      intro w hSw
      try dsimp only at hSw
      go_simp
      try with_reducible rfl
    try simp only [Act.put, List.setIfInBounds_toArray, List.set_cons_zero, List.set_cons_succ]
    refine wpAnyL_take (i := 3) (v := ?va3) rfl (by kernel_rfl) (by kernel_rfl) (by kernel_rfl) (by kernel_rfl) (fun _ _ _ h => h) (Or.inl ⟨by rfl, ?ha3⟩) (by assumption) ?ra3
    case ha3 =>
      intro w hSw
      try dsimp only at hSw
      go_simp
      try with_reducible rfl
    try simp only [Act.put, List.setIfInBounds_toArray, List.set_cons_zero, List.set_cons_succ]
    refine wpAnyL_take (i := 4) (v := ?va4) rfl (by kernel_rfl) (by kernel_rfl) (by kernel_rfl) (by kernel_rfl) (fun _ _ _ h => h) (Or.inl ⟨by rfl, ?ha4⟩) (by assumption) ?ra4
    case ha4 =>
      intro w hSw
      try dsimp only at hSw
      go_simp
      try with_reducible rfl
    try simp only [Act.put, List.setIfInBounds_toArray, List.set_cons_zero, List.set_cons_succ]
    refine wpAnyL_take (i := 5) (v := ?va5) rfl (by kernel_rfl) (by kernel_rfl) (by kernel_rfl) (by kernel_rfl) (fun _ _ _ h => h) (Or.inl ⟨by rfl, ?ha5⟩) (by assumption) ?ra5
    case ha5 =>
      intro w hSw
      try dsimp only at hSw
      go_simp
      try with_reducible rfl
    try simp only [Act.put, List.setIfInBounds_toArray, List.set_cons_zero, List.set_cons_succ]
    refine wpAnyL_take (i := 6) (v := ?va6) rfl (by kernel_rfl) (by kernel_rfl) (by kernel_rfl) (by kernel_rfl) (fun _ _ _ h => h) (Or.inl ⟨by rfl, ?ha6⟩) (by assumption) ?ra6
    case ha6 =>
      intro w hSw
      try dsimp only at hSw
      go_simp
      try with_reducible rfl
    try simp only [Act.put, List.setIfInBounds_toArray, List.set_cons_zero, List.set_cons_succ]
    refine wpAnyL_take (i := 7) (v := ?va7) rfl (by kernel_rfl) (by kernel_rfl) (by kernel_rfl) (by kernel_rfl) (fun _ _ _ h => h) (Or.inl ⟨by rfl, ?ha7⟩) (by assumption) ?ra7
    case ha7 =>
      intro w hSw
      try dsimp only at hSw
      go_simp
      try with_reducible rfl
    try simp only [Act.put, List.setIfInBounds_toArray, List.set_cons_zero, List.set_cons_succ]
    have hfd : X.drew.frozen? ⟨g, k, none⟩ = false := hf
    refine wpAnyL_one (i := 8) (by kernel_rfl) rfl (fun K hK => ?sb8)
    go_simp
    refine hK.out _ _ (fun h => absurd rfl h) (fun _ => ?mb8)
    clear hK K
    try simp only [Act.put, List.setIfInBounds_toArray, List.set_cons_zero, List.set_cons_succ]
    refine wpAnyL_done (by kernel_rfl) ?_ _
    refine ⟨keepsFrom_set (keepsFrom_below b0) _ _, ⟨setBelow (b0.mono (by omega)) hgB _ _, Below.heap_setCell _ _ _ _ (by show G + 1 + 1 ≠ g; omega)⟩, ?_, e2.far (by show G ≠ g; omega) _, e3.far (by show G + 1 ≠ g; omega) _, setBelow (e4.trans (b0.mono (by omega))) hgB _ _, Nat.le_trans hsI (setBelow (B := 0) (b0.mono (Nat.zero_le _)) (Nat.zero_le g) k (.int .i64 y)).size⟩
    rw [List.map_append, List.map_cons, List.map_nil, HNX.out]
    exact .inr ⟨g, rfl, hgB, hmx, PartS.set (show PartS X.drew g cap zs from HP.out) k (by rw [hln, HXM.out]; exact hk) y⟩
  case done =>
    rintro D ks X hD hup ⟨e1, e2, e3, e4, hsI⟩ hK
    rw [show ks.map Fin.val = List.range m from hup, stpOf_all _ HXM.out] at e1
    obtain ⟨zs, hzs⟩ : ∃ zs, ((List.range m).map fun i : Nat => IntKind.i64.wrap ((xs.getD i 0) + fstP cuts i)) = zs := ⟨_, rfl⟩
    rw [hzs] at e1
    have hzl : zs.length = m := by rw [← hzs]; simp
    have hw : Wid zs := by rw [← hzs]; exact Wid.map_range fun i _ => wrap_range _
    have AZ := e1.arg (by rw [hzl]; exact hcap) hw
    rw [hzl] at AZ
    have h0X : Below w0.heap.size w0 X := h0w.trans (e4.mono h0B)
    have he := element_any (HT.out.later h0X) h0 AZ HND.out (by rw [hzl]; omega) HL0.out hn
    have hgr := HGX.out.later h0X
    obtain ⟨y0, y1, _, _⟩ := hgr.two
    have ci := e2.cell 0
    have hDlt := lt_of_block hK
    have hsX := e4.size
    rw [← hzs] at he
    clear AZ hzs
    gi_wp2_with fail
    refine wideCallS (he.mono ?_)
    rintro e w7 ⟨r, rfl, qv, b7⟩
    have Q2 := Lib.hid (qv.mono (show B ≤ X.heap.size by omega))
    obtain ⟨m5, f1, l1, j1, f2, l2, j2, rfl⟩ := qv.shape
    clear qv
    have P2 := e3.later b7
    obtain ⟨u0, u1, u2, g0, g1, g2⟩ := P2.three
    have P3 := P2.set3 (.bool m5) (.slice f1 l1 j1) (.slice f2 l2 j2)
    have hK9 : w7.heap[D]? = some (.deferred (some [])) := (b7.block D hDlt).trans hK
    have hK10 : (((w7.setCell ⟨G + 1, 0, none⟩ (.bool m5)).setCell ⟨G + 1, 1, none⟩ (.slice f1 l1 j1)).setCell ⟨G + 1, 2, none⟩ (.slice f2 l2 j2)).heap[D]? = some (.deferred (some [])) := (kept3 _ _ _ D (by omega)).trans hK9
    have HR9 := Lib.hid P2
    have HR10 := Lib.hid P3
    clear P2 P3
    gi_wp2
    refine ⟨by simp, .inl ⟨_, _, rfl, run_takeDeferred hK10, ?_⟩⟩
    have kk := KeepC.grown (grownBy_putObj' (((w7.setCell ⟨G + 1, 0, none⟩ (.bool m5)).setCell ⟨G + 1, 1, none⟩ (.slice f1 l1 j1)).setCell ⟨G + 1, 2, none⟩ (.slice f2 l2 j2)) D (.deferred none)) (fun r e => by cases e; exact ⟨_, hK10, rfl⟩)
    obtain ⟨v0, v1, v2, _⟩ := (HR10.out.keepC kk).three
    refine ⟨.agg #[.bool m5, .slice f1 l1 j1, .slice f2 l2 j2], by simp [results, Tryz.f62, go_sem, v0, v1, v2], _, rfl, ?_, ?_⟩
    · exact (Q2.out.far HR9.out (by decide) (kept3 _ _ _)).keepC kk
    · exact (below_set3 (g := G + 1) (e4.trans (b7.mono (by omega))) (by omega) _ _ _).trans (belowK_b (n₀ := B) (w := w) (by omega) _ D _ _ (by omega) hK10 rfl rfl)
  case stop =>
    rintro D c pre X _ _ h _
    exact h.elim
set_option maxRecDepth 100000 in
set_option maxHeartbeats 4000000 in
theorem pad1_any {n : Nat} {w0 w : World} {vx : Value} {s xs : List Int} {qs : List Q3} {a b ad : Option Addr} {ca cb cap B : Nat} {gc gx m : Nat} {cuts : List Int} {ac : Option Addr} {cc : Nat} (T : TensQ w0 vx s qs a ca b cb) (h0 : mayT s qs = 0) (hl : lensQ qs n) (hn : n ≤ 100000000) (h0B : w0.heap.size ≤ B) (hBw : B ≤ w.heap.size) (h0w : Below w0.heap.size w0 w) (I : IdxP B w ad cap xs) (hcap : xs.length ≤ cap) (nd : ad = none → cap = 0) (hgx : Row w0 gx 26 #[.slice a s.length ca, .slice b qs.length cb]) (C : ArgS w0 (.slice ac cuts.length cc) cuts ac cc) (hgc : w0.cell? ⟨gc, 0, none⟩ = some (.slice ac cuts.length cc)) (hcl : cuts.length = 2 * m) (hxm : xs.length = m) (hm4 : m ≤ 4) :
    Calls Tryz.prog 65 #[.slice ad xs.length cap, .pointer (some ⟨gc, 0, none⟩), .pointer (some ⟨gx, 0, none⟩)] w fun e w' => ∃ r, e = .returned r ∧ ResQ B w' r (elV s (qs.map Q3.rat) ((List.range m).map fun i : Nat => IntKind.i64.wrap ((xs.getD i 0) - fstP cuts i))) (n + 2) ∧ Below B w w' := by
  have HT := Lib.hid T
  obtain rfl := T.is
  obtain ⟨G, hG⟩ : ∃ G, w.heap.size = G := ⟨_, rfl⟩
  obtain ⟨W, hW⟩ : ∃ W, (w.alloc (.cells #[.slice ad xs.length cap] 22)).alloc (.cells #[.bool false, .slice none 0 0, .slice none 0 0] 58) = W := ⟨_, rfl⟩
  have R0 : Row W G 22 #[.slice ad xs.length cap] := by rw [← hW, ← hG]; exact (Row.new _ _ _).alloc _
  have R1 : Row W (G + 1) 58 #[.bool false, .slice none 0 0, .slice none 0 0] := by rw [← hW, ← hG]; have h := Row.new (w.alloc (.cells #[.slice ad xs.length cap] 22)) 58 #[.bool false, .slice none 0 0, .slice none 0 0]; simp only [World.size_alloc] at h; exact h
  have hBW0 : Below w.heap.size w W := by rw [← hW]; exact ((Below.refl _ _).alloc (Nat.le_refl _) _).alloc (by simp) _
  have hBW : Below B w W := hBW0.mono hBw
  have hsW : W.heap.size = G + 1 + 1 := by rw [← hW, ← hG]; simp
  have h0W : Below w0.heap.size w0 W := h0w.trans (hBW.mono h0B)
  have k2 := (h0W.cell (World.block_lt_of_cell? _ _ hgc)).trans hgc
  have I1 := I.later hBW0
  have HCL := Lib.hid hcl
  have HCB : Hid (cuts ≠ [] → ∀ x, ac = some x → x.block < B) := Lib.hid (fun h1 x h2 => Nat.lt_of_lt_of_le (C.lim.lt h1 x h2) h0B)
  have hlim : LimS W ac cuts := C.lim.later h0W
  have HXM := Lib.hid hxm
  have HI := Lib.hid I
  have HL0 := Lib.hid hl
  have HND := Lib.hid nd
  have HGX := Lib.hid hgx
  rw [hxm] at hcap R0 hW ⊢
  have hc8 : cuts.length ≤ 8 := by omega
  clear T hgx hl nd C I hgc hcl hxm
  obtain ⟨n', hn'⟩ : ∃ n' : Nat, Hid (3 ≤ n') := ⟨3, Nat.le_refl 3⟩
  refine (callsIn_wide (n := n')).1 ?_
  refine callsIn_of_wp_marks Tryz.func65 rfl trivial ?_ rfl
  simp only [Tryz.ntmps65, List.size_toArray, List.length_cons, List.length_nil, Nat.reduceAdd, Nat.reduceSub, Array.replicate_succ, Array.replicate_zero, List.push_toArray, List.append_toArray, List.nil_append, List.cons_append]
  gi_wp2_with fail

  (try rw [hW])
  (try rw [hG])
  refine wideCallS ((pairs_any _ _ _ _).mono ?_)
  rintro e w' ⟨rfl, rfl⟩
  gi_wp2_with fail
  obtain ⟨V, hV⟩ : ∃ V, W.alloc (.cells #[.slice ac cuts.length cc] 22) = V := ⟨_, rfl⟩
  have sV : V.heap.size = G + 1 + 1 + 1 := by rw [← hV, World.size_alloc, hsW]
  have b4 : Below W.heap.size W V := by rw [← hV]; exact (Below.refl _ _).alloc (Nat.le_refl _) _
  have d4 : Boxed V (G + 1 + 1) 22 (.slice ac cuts.length cc) := by rw [← hV, ← hsW]; exact Boxed.new _ _ _
  have q0 := R0.later b4
  have q1 := R1.later b4
  have q2 := I1.later b4
  have hbV : Below B w V := hBW.trans (b4.mono (by omega))
  have hlimV : LimS V ac cuts := hlim.later b4
  (try rw [hsW])
  (try rw [hV])
  have h3 : 3 ≤ n' := hn'
  clear hV hW k2 R0 R1 I1 hBW0 hlim
  refine wpIn_rangeFunc_ownH (F := Fence.wide) (n := n') rfl (by omega) (gf := 95) (lb := #[.pointer (some ⟨G + 1 + 1, 0, none⟩)]) rfl trivial (enters_of Tryz.func95 (by kernel_rfl) rfl)
    (pairs_stops (n' - 1) (G + 1 + 1) (B) m ac cuts cc (by omega) HCL.out HCB.out V (by omega) d4.cell hlimV) KpS.trans (KpS.b (by omega) (by omega)) (Below.refl _ _) (fun _ => rfl)
    (fun (pre : List (Fin m)) X => IdxP B X ad cap (stpOf (fun i z => IntKind.i64.wrap (z - fstP cuts i)) xs (pre.map Fin.val)) ∧ Row X G 22 #[.slice ad m cap] ∧ Row X (G + 1) 58 #[.bool false, .slice none 0 0, .slice none 0 0] ∧ Below B w X ∧ G + 1 + 1 + 1 ≤ X.heap.size)
    (fun c pre X => False)
    (fun pre X Y row ⟨e1, e2, e3, e4, e5⟩ hg hr => have kk := KeepC.grown hg (fun r e => (hr r e).2); ⟨e1.keepC kk, e2.keepC kk, e3.keepC kk, e4.grown hg (by have := e4.size; omega) (fun k e => by have := (hr k e).1; omega), Nat.le_trans e5 hg.size⟩)
    (fun _ _ _ _ _ hs _ _ => hs)
    ⟨q2, q0, q1, hbV, by omega⟩
    (fun (x : Fin m) a' X => ∃ p, G + 1 + 1 + 1 ≤ p ∧ Row X p 89 #[.int .i64 (cuts[2 * x.val]?.getD 0), .int .i64 (cuts[2 * x.val + 1]?.getD 0)] ∧
      a' = { tmps := #[.slice ad m cap, .pointer (some ⟨gc, 0, none⟩), .pointer (some ⟨gx, 0, none⟩), .pointer (some ⟨G, 0, none⟩), .pointer (some ⟨G + 1, 0, none⟩), .int .i64 (x.val : Int), .pointer (some ⟨p, 0, none⟩), .slice ac cuts.length cc, .func (.func 95) #[] #[.pointer (some ⟨G + 1 + 1, 0, none⟩)], .int .i64 (x.val : Int), .agg #[.int .i64 (cuts[2 * x.val]?.getD 0), .int .i64 (cuts[2 * x.val + 1]?.getD 0)], undef, undef, undef, undef, undef, undef, undef, undef, undef, undef, undef], defers := [] })
    (fun x a' _ X Y row ⟨p, h1, h2, h3⟩ hg hr => ⟨p, h1, h2.keepC (KeepC.grown hg (fun r e => (hr r e).2)), h3⟩)
    ?assign ?body ?done ?stop
  case assign =>
    rintro l pre ⟨k, hk⟩ X K ⟨e1, e2, e3, e4, hsI⟩ hK
    obtain ⟨z0, hz0⟩ : ∃ z0, cuts[2 * k]?.getD 0 = z0 := ⟨_, rfl⟩
    obtain ⟨z1, hz1⟩ : ∃ z1, cuts[2 * k + 1]?.getD 0 = z1 := ⟨_, rfl⟩
    have hbX : Below X.heap.size X (X.alloc (.cells #[.int .i64 z0, .int .i64 z1] 89)) := (Below.refl _ _).alloc (Nat.le_refl _) _
    have kk := KeepC.below hbX
    have HK := Lib.hid hK
    have HZ0 := Lib.hid hz0
    have HZ1 := Lib.hid hz1
    simp only [pairV]
    rw [hz0, hz1]
    clear hK hz0 hz1
    gi_wp2
    refine HK.out _ _ ⟨by simp, fun q o _ ho _ => (Below.heap_alloc _ _ _ (lt_of_block ho)).trans ho⟩ ⟨hbX.mono (by omega), Below.heap_alloc _ _ _ (by omega)⟩ ⟨e1.keepC kk, e2.keepC kk, e3.keepC kk, e4.trans (hbX.mono (by have := e4.size; omega)), by simp; omega⟩ ⟨X.heap.size, hsI, ?_, ?_⟩
    · simp only [HZ0.out, HZ1.out]; exact Row.new _ _ _
    · simp only [HZ0.out, HZ1.out]
  case body =>
    rintro l pre ⟨k, hk⟩ a' X hl hrec ⟨e1, e2, e3, e4, hsI⟩ ⟨p, hp, hR, rfl⟩ hlt
    simp only at hR ⊢
    have hln := stpOf_len (fun i z => IntKind.i64.wrap (z - fstP cuts i)) xs (pre.map Fin.val)
    obtain ⟨zs, hzs⟩ : ∃ zs, stpOf (fun i z => IntKind.i64.wrap (z - fstP cuts i)) xs (pre.map Fin.val) = zs := ⟨_, rfl⟩
    rw [hzs] at e1 hln
    have hnx : stpOf (fun i z => IntKind.i64.wrap (z - fstP cuts i)) xs (pre.map Fin.val ++ [k]) = zs.set k (IntKind.i64.wrap ((zs.getD k 0) - fstP cuts k)) := by rw [stpOf_snoc, hzs]; rfl
    obtain ⟨z0, hz0⟩ : ∃ z0, cuts[2 * k]?.getD 0 = z0 := ⟨_, rfl⟩
    obtain ⟨z1, hz1⟩ : ∃ z1, cuts[2 * k + 1]?.getD 0 = z1 := ⟨_, rfl⟩
    have hf0 : fstP cuts k = z0 := hz0
    rw [hf0] at hnx
    rw [hz0, hz1] at hR
    rw [hz0, hz1]
    obtain ⟨g, rfl, hgB, hmx, hP⟩ := e1.at (i := k) (by rw [hln, HXM.out]; exact hk)
    have hgl := hP.lt
    have hc := hP.cell k (by rw [hln, HXM.out]; exact hk)
    obtain ⟨z, hz⟩ : ∃ z, zs.getD k 0 = z := ⟨_, rfl⟩
    rw [hz] at hc hnx
    obtain ⟨y, hy⟩ : ∃ y, IntKind.i64.wrap (z - z0) = y := ⟨_, rfl⟩
    rw [hy] at hnx
    have HNX := Lib.hid hnx
    have HZS := Lib.hid hzs
    have ci := e2.cell 0
    have cp0 := hR.cell 0
    have hkI : (k : Int) < (m : Int) := by omega
    have hgG : g < G := by have := HI.out.lt; omega
    have hS0 : X.drew.cell? ⟨G, 0, none⟩ = some (.slice (some ⟨g, 0, none⟩) m cap) ∧ X.drew.cell? ⟨g, k, none⟩ = some (.int .i64 z) ∧ X.drew.cell? ⟨p, 0, none⟩ = some (.int .i64 z0) := ⟨ci, hc, cp0⟩
    have b0 : Below X.heap.size X X.drew := (Below.refl _ X).drew
    have hf := hP.free k
    have HP := Lib.hid hP
    clear hnx hzs hz0 hz1 hf0 ci cp0 hc e1 hP hz
    refine wpIn_block ?_
    refine region_roundL (fun Y => Y.cell? ⟨G, 0, none⟩ = some (.slice (some ⟨g, 0, none⟩) m cap) ∧ Y.cell? ⟨g, k, none⟩ = some (.int .i64 z) ∧ Y.cell? ⟨p, 0, none⟩ = some (.int .i64 z0)) 8
      (by kernel_rfl) (by kernel_rfl) (by rintro ⟨a', w', h⟩; exact h) hS0 (fun hHeld => ?_)
    refine wpAnyL_take (i := 0) (v := ?va0) rfl (by kernel_rfl) (by kernel_rfl) (by kernel_rfl) (by kernel_rfl) (fun _ _ _ h => h) (Or.inl ⟨by rfl, ?ha0⟩) (by assumption) ?ra0
    case ha0 =>
      intro w hSw
      try dsimp only at hSw
      go_simp
      try with_reducible rfl
    try simp only [Act.put, List.setIfInBounds_toArray, List.set_cons_zero, List.set_cons_succ]
    refine wpAnyL_take (i := 1) (v := ?va1) rfl (by kernel_rfl) (by kernel_rfl) (by kernel_rfl) (by kernel_rfl) (fun _ _ _ h => h) (Or.inl ⟨by rfl, ?ha1⟩) (by assumption) ?ra1
    case ha1 =>
      intro w hSw
      try dsimp only at hSw
      go_simp
      try with_reducible rfl
    try simp only [Act.put, List.setIfInBounds_toArray, List.set_cons_zero, List.set_cons_succ]
    refine wpAnyL_take (i := 2) (v := ?va2) rfl (by kernel_rfl) (by kernel_rfl) (by kernel_rfl) (by kernel_rfl) (fun _ _ _ h => h) (Or.inl ⟨by rfl, ?ha2⟩) (by assumption) ?ra2
    case ha2 =>
      intro w hSw
      try dsimp only at hSw
      go_simp
      try with_reducible rfl
    try simp only [Act.put, List.setIfInBounds_toArray, List.set_cons_zero, List.set_cons_succ]
    refine wpAnyL_take (i := 3) (v := ?va3) rfl (by kernel_rfl) (by kernel_rfl) (by kernel_rfl) (by kernel_rfl) (fun _ _ _ h => h) (Or.inl ⟨by rfl, ?ha3⟩) (by assumption) ?ra3
    case ha3 =>
      intro w hSw
      try dsimp only at hSw
      go_simp
      try with_reducible rfl
    try simp only [Act.put, List.setIfInBounds_toArray, List.set_cons_zero, List.set_cons_succ]
    refine wpAnyL_take (i := 4) (v := ?va4) rfl (by kernel_rfl) (by kernel_rfl) (by kernel_rfl) (by kernel_rfl) (fun _ _ _ h => h) (Or.inl ⟨by rfl, ?ha4⟩) (by assumption) ?ra4
    case ha4 =>
      intro w hSw
      try dsimp only at hSw
      go_simp
      try with_reducible rfl
    try simp only [Act.put, List.setIfInBounds_toArray, List.set_cons_zero, List.set_cons_succ]
    refine wpAnyL_take (i := 5) (v := ?va5) rfl (by kernel_rfl) (by kernel_rfl) (by kernel_rfl) (by kernel_rfl) (fun _ _ _ h => h) (Or.inl ⟨by rfl, ?ha5⟩) (by assumption) ?ra5
    case ha5 =>
      intro w hSw
      try dsimp only at hSw
      go_simp
      try with_reducible rfl
    try simp only [Act.put, List.setIfInBounds_toArray, List.set_cons_zero, List.set_cons_succ]
    refine wpAnyL_take (i := 6) (v := ?va6) rfl (by kernel_rfl) (by kernel_rfl) (by kernel_rfl) (by kernel_rfl) (fun _ _ _ h => h) (Or.inl ⟨by rfl, ?ha6⟩) (by assumption) ?ra6
    case ha6 =>
      intro w hSw
      try dsimp only at hSw
      go_simp
      try with_reducible rfl
    try simp only [Act.put, List.setIfInBounds_toArray, List.set_cons_zero, List.set_cons_succ]
    refine wpAnyL_take (i := 7) (v := ?va7) rfl (by kernel_rfl) (by kernel_rfl) (by kernel_rfl) (by kernel_rfl) (fun _ _ _ h => h) (Or.inl ⟨by rfl, ?ha7⟩) (by assumption) ?ra7
    case ha7 =>
      intro w hSw
      try dsimp only at hSw
      go_simp
      try with_reducible rfl
    try simp only [Act.put, List.setIfInBounds_toArray, List.set_cons_zero, List.set_cons_succ]
    have hfd : X.drew.frozen? ⟨g, k, none⟩ = false := hf
    refine wpAnyL_one (i := 8) (by kernel_rfl) rfl (fun K hK => ?sb8)
    go_simp
    refine hK.out _ _ (fun h => absurd rfl h) (fun _ => ?mb8)
    clear hK K
    try simp only [Act.put, List.setIfInBounds_toArray, List.set_cons_zero, List.set_cons_succ]
    refine wpAnyL_done (by kernel_rfl) ?_ _
    refine ⟨keepsFrom_set (keepsFrom_below b0) _ _, ⟨setBelow (b0.mono (by omega)) hgB _ _, Below.heap_setCell _ _ _ _ (by show G + 1 + 1 ≠ g; omega)⟩, ?_, e2.far (by show G ≠ g; omega) _, e3.far (by show G + 1 ≠ g; omega) _, setBelow (e4.trans (b0.mono (by omega))) hgB _ _, Nat.le_trans hsI (setBelow (B := 0) (b0.mono (Nat.zero_le _)) (Nat.zero_le g) k (.int .i64 y)).size⟩
    rw [List.map_append, List.map_cons, List.map_nil, HNX.out]
    exact .inr ⟨g, rfl, hgB, hmx, PartS.set (show PartS X.drew g cap zs from HP.out) k (by rw [hln, HXM.out]; exact hk) y⟩
  case done =>
    rintro D ks X hD hup ⟨e1, e2, e3, e4, hsI⟩ hK
    rw [show ks.map Fin.val = List.range m from hup, stpOf_all _ HXM.out] at e1
    obtain ⟨zs, hzs⟩ : ∃ zs, ((List.range m).map fun i : Nat => IntKind.i64.wrap ((xs.getD i 0) - fstP cuts i)) = zs := ⟨_, rfl⟩
    rw [hzs] at e1
    have hzl : zs.length = m := by rw [← hzs]; simp
    have hw : Wid zs := by rw [← hzs]; exact Wid.map_range fun i _ => wrap_range _
    have AZ := e1.arg (by rw [hzl]; exact hcap) hw
    rw [hzl] at AZ
    have h0X : Below w0.heap.size w0 X := h0w.trans (e4.mono h0B)
    have he := element_any (HT.out.later h0X) h0 AZ HND.out (by rw [hzl]; omega) HL0.out hn
    have hgr := HGX.out.later h0X
    obtain ⟨y0, y1, _, _⟩ := hgr.two
    have ci := e2.cell 0
    have hDlt := lt_of_block hK
    have hsX := e4.size
    rw [← hzs] at he
    clear AZ hzs
    gi_wp2_with fail
    refine wideCallS (he.mono ?_)
    rintro e w7 ⟨r, rfl, qv, b7⟩
    have Q2 := Lib.hid (qv.mono (show B ≤ X.heap.size by omega))
    obtain ⟨m5, f1, l1, j1, f2, l2, j2, rfl⟩ := qv.shape
    clear qv
    have P2 := e3.later b7
    obtain ⟨u0, u1, u2, g0, g1, g2⟩ := P2.three
    have P3 := P2.set3 (.bool m5) (.slice f1 l1 j1) (.slice f2 l2 j2)
    have hK9 : w7.heap[D]? = some (.deferred (some [])) := (b7.block D hDlt).trans hK
    have hK10 : (((w7.setCell ⟨G + 1, 0, none⟩ (.bool m5)).setCell ⟨G + 1, 1, none⟩ (.slice f1 l1 j1)).setCell ⟨G + 1, 2, none⟩ (.slice f2 l2 j2)).heap[D]? = some (.deferred (some [])) := (kept3 _ _ _ D (by omega)).trans hK9
    have HR9 := Lib.hid P2
    have HR10 := Lib.hid P3
    clear P2 P3
    gi_wp2
    refine ⟨by simp, .inl ⟨_, _, rfl, run_takeDeferred hK10, ?_⟩⟩
    have kk := KeepC.grown (grownBy_putObj' (((w7.setCell ⟨G + 1, 0, none⟩ (.bool m5)).setCell ⟨G + 1, 1, none⟩ (.slice f1 l1 j1)).setCell ⟨G + 1, 2, none⟩ (.slice f2 l2 j2)) D (.deferred none)) (fun r e => by cases e; exact ⟨_, hK10, rfl⟩)
    obtain ⟨v0, v1, v2, _⟩ := (HR10.out.keepC kk).three
    refine ⟨.agg #[.bool m5, .slice f1 l1 j1, .slice f2 l2 j2], by simp [results, Tryz.f65, go_sem, v0, v1, v2], _, rfl, ?_, ?_⟩
    · exact (Q2.out.far HR9.out (by decide) (kept3 _ _ _)).keepC kk
    · exact (below_set3 (g := G + 1) (e4.trans (b7.mono (by omega))) (by omega) _ _ _).trans (belowK_b (n₀ := B) (w := w) (by omega) _ D _ _ (by omega) hK10 rfl rfl)
  case stop =>
    rintro D c pre X _ _ h _
    exact h.elim
end
section
open Go.RowKit Go.Shelf
attribute [local go_sem] Oper.semAt_some
set_option linter.unusedVariables false
set_option linter.unusedSimpArgs false
/-- the shape that padded makes, whatever shape it is given -/
def padF (pads : List Int) (i : Nat) (z : Int) : Int := IntKind.i64.wrap (z + IntKind.i64.wrap (min (fstP pads i) 1024 + min (sndP pads i) 1024))
def pdW (s pads : List Int) : List Int := (List.range s.length).map fun i : Nat => padF pads i (s.getD i 0)
set_option maxRecDepth 100000 in
set_option maxHeartbeats 4000000 in
theorem padded_any {w : World} {s pads : List Int} {a ap : Option Addr} {ca cp : Nat} (A : ArgS w (.slice a s.length ca) s a ca) (na : a = none → ca = 0) (P : ArgS w (.slice ap pads.length cp) pads ap cp) (hcl : pads.length = 2 * s.length) (hs : s.length ≤ 8000000000000) :
    Calls Tryz.prog 64 #[.slice a s.length ca, .slice ap pads.length cp] w fun e w' => ∃ r, e = .returned r ∧ ResS w.heap.size w' r (pdW s pads) ∧ Below w.heap.size w w' := by
  obtain ⟨B, hB⟩ : ∃ B, w.heap.size = B := ⟨_, rfl⟩
  obtain ⟨m, hm⟩ : ∃ m, s.length = m := ⟨_, rfl⟩
  have hcln := cloneS_any A na (by omega)
  have HCL : Hid (pads.length = 2 * m) := Lib.hid (by rw [← hm]; exact hcl)
  have HCB : Hid (pads ≠ [] → ∀ x, ap = some x → x.block < w.heap.size) := Lib.hid (fun h1 x h2 => P.lim.lt h1 x h2)
  have hlim : LimS w ap pads := P.lim
  have HM := Lib.hid hm
  have hpd : pdW s pads = (List.range m).map fun i : Nat => padF pads i (s.getD i 0) := by unfold pdW; rw [hm]
  have HPD := Lib.hid hpd
  have hc8 : pads.length ≤ 17592186044416 := by omega
  rw [hm] at hcln hs ⊢
  rw [hB] at hcln ⊢
  rw [hpd]
  clear A P hcl na hm hpd
  obtain ⟨n', hn'⟩ : ∃ n' : Nat, Hid (3 ≤ n') := ⟨3, Nat.le_refl 3⟩
  refine (callsIn_wide (n := n')).1 ?_
  refine callsIn_of_wp_marks Tryz.func64 rfl trivial ?_ rfl
  simp only [Tryz.ntmps64, List.size_toArray, List.length_cons, List.length_nil, Nat.reduceAdd, Nat.reduceSub, Array.replicate_succ, Array.replicate_zero, List.push_toArray, List.append_toArray, List.nil_append, List.cons_append]
  gi_wp2_with fail
  refine wideCallS (hcln.mono ?_)
  rintro e w1 ⟨r, rfl, R, hb1⟩
  have s1 := hb1.size
  obtain ⟨ad, cap, rfl, I1, hcap, nd, hwid⟩ := R.idx
  obtain ⟨G, hG⟩ : ∃ G, w1.heap.size = G := ⟨_, rfl⟩
  rw [HM.out] at hcap
  obtain ⟨W, hW⟩ : ∃ W, w1.alloc (.cells #[.slice ad m cap] 23) = W := ⟨_, rfl⟩
  have R0 : Row W G 23 #[.slice ad m cap] := by rw [← hW, ← hG]; exact Row.new _ _ _
  have b2 : Below w1.heap.size w1 W := by rw [← hW]; exact (Below.refl _ _).alloc (Nat.le_refl _) _
  have hsW : W.heap.size = G + 1 := by rw [← hW, ← hG]; simp
  have HI := Lib.hid I1
  have hbW : Below B w W := hb1.trans (b2.mono (by omega))
  rw [HM.out]
  gi_wp2_with fail
  (try rw [hW])
  (try rw [hG])
  refine wideCallS ((pairs_any _ _ _ _).mono ?_)
  rintro e w' ⟨rfl, rfl⟩
  gi_wp2_with fail
  obtain ⟨V, hV⟩ : ∃ V, W.alloc (.cells #[.slice ap pads.length cp] 22) = V := ⟨_, rfl⟩
  have sV : V.heap.size = G + 1 + 1 := by rw [← hV, World.size_alloc, hsW]
  have b4 : Below W.heap.size W V := by rw [← hV]; exact (Below.refl _ _).alloc (Nat.le_refl _) _
  have d4 : Boxed V (G + 1) 22 (.slice ap pads.length cp) := by rw [← hV, ← hsW]; exact Boxed.new _ _ _
  have q0 := R0.later b4
  have q2 := (I1.later b2).later b4
  have hbV : Below B w V := hbW.trans (b4.mono (by omega))
  have hlimV : LimS V ap pads := hlim.later (hB ▸ hbV)
  (try rw [hsW])
  (try rw [hV])
  have h3 : 3 ≤ n' := hn'
  clear hV hW R0 I1 hlim R b2 hcln
  refine wpIn_rangeFunc_ownH (F := Fence.wide) (n := n') rfl (by omega) (gf := 95) (lb := #[.pointer (some ⟨G + 1, 0, none⟩)]) rfl trivial (enters_of Tryz.func95 (by kernel_rfl) rfl)
    (pairs_stops (n' - 1) (G + 1) (w.heap.size) m ap pads cp (by omega) HCL.out HCB.out V (by omega) d4.cell hlimV) KpS.trans (KpS.b (by omega) (by omega)) (Below.refl _ _) (fun _ => rfl)
    (fun (pre : List (Fin m)) X => IdxP B X ad cap (stpOf (padF pads) s (pre.map Fin.val)) ∧ Row X G 23 #[.slice ad m cap] ∧ Below B w X ∧ G + 1 + 1 ≤ X.heap.size)
    (fun c pre X => False)
    (fun pre X Y row ⟨e1, e2, e4, e5⟩ hg hr => have kk := KeepC.grown hg (fun r e => (hr r e).2); ⟨e1.keepC kk, e2.keepC kk, e4.grown hg (by have := e4.size; omega) (fun k e => by have := (hr k e).1; omega), Nat.le_trans e5 hg.size⟩)
    (fun _ _ _ _ _ hs _ _ => hs)
    ⟨q2, q0, hbV, by omega⟩
    (fun (x : Fin m) a' X => ∃ p, G + 1 + 1 ≤ p ∧ Row X p 89 #[.int .i64 (pads[2 * x.val]?.getD 0), .int .i64 (pads[2 * x.val + 1]?.getD 0)] ∧
      a' = { tmps := #[.slice a m ca, .slice ap pads.length cp, undef, undef, .slice none 0 0, .pointer (some ⟨G, 0, none⟩), .int .i64 (x.val : Int), .pointer (some ⟨p, 0, none⟩), .slice a m ca, .slice ad m cap, .slice ap pads.length cp, .func (.func 95) #[] #[.pointer (some ⟨G + 1, 0, none⟩)], .int .i64 (x.val : Int), .agg #[.int .i64 (pads[2 * x.val]?.getD 0), .int .i64 (pads[2 * x.val + 1]?.getD 0)], undef, undef, undef, undef, undef, undef, undef, undef, undef, undef, undef, undef, undef, undef], defers := [] })
    (fun x a' _ X Y row ⟨p, h1, h2, h3⟩ hg hr => ⟨p, h1, h2.keepC (KeepC.grown hg (fun r e => (hr r e).2)), h3⟩)
    ?assign ?body ?done ?stop
  case assign =>
    rintro l pre ⟨k, hk⟩ X K ⟨e1, e2, e4, hsI⟩ hK
    obtain ⟨z0, hz0⟩ : ∃ z0, pads[2 * k]?.getD 0 = z0 := ⟨_, rfl⟩
    obtain ⟨z1, hz1⟩ : ∃ z1, pads[2 * k + 1]?.getD 0 = z1 := ⟨_, rfl⟩
    have hbX : Below X.heap.size X (X.alloc (.cells #[.int .i64 z0, .int .i64 z1] 89)) := (Below.refl _ _).alloc (Nat.le_refl _) _
    have kk := KeepC.below hbX
    have HK := Lib.hid hK
    have HZ0 := Lib.hid hz0
    have HZ1 := Lib.hid hz1
    simp only [pairV]
    rw [hz0, hz1]
    clear hK hz0 hz1
    gi_wp2
    refine HK.out _ _ ⟨by simp, fun q o _ ho _ => (Below.heap_alloc _ _ _ (lt_of_block ho)).trans ho⟩ ⟨hbX.mono (by omega), Below.heap_alloc _ _ _ (by omega)⟩ ⟨e1.keepC kk, e2.keepC kk, e4.trans (hbX.mono (by have := e4.size; omega)), by simp; omega⟩ ⟨X.heap.size, hsI, ?_, ?_⟩
    · simp only [HZ0.out, HZ1.out]; exact Row.new _ _ _
    · simp only [HZ0.out, HZ1.out]
  case body =>
    rintro l pre ⟨k, hk⟩ a' X hl hrec ⟨e1, e2, e4, hsI⟩ ⟨p, hp, hR, rfl⟩ hlt
    simp only at hR ⊢
    have hln := stpOf_len (padF pads) s (pre.map Fin.val)
    obtain ⟨zs, hzs⟩ : ∃ zs, stpOf (padF pads) s (pre.map Fin.val) = zs := ⟨_, rfl⟩
    rw [hzs] at e1 hln
    have hnx : stpOf (padF pads) s (pre.map Fin.val ++ [k]) = zs.set k (IntKind.i64.wrap (zs.getD k 0 + IntKind.i64.wrap (min (fstP pads k) 1024 + min (sndP pads k) 1024))) := by rw [stpOf_snoc, hzs]; rfl
    obtain ⟨z0, hz0⟩ : ∃ z0, pads[2 * k]?.getD 0 = z0 := ⟨_, rfl⟩
    obtain ⟨z1, hz1⟩ : ∃ z1, pads[2 * k + 1]?.getD 0 = z1 := ⟨_, rfl⟩
    have hf0 : fstP pads k = z0 := hz0
    have hf1 : sndP pads k = z1 := hz1
    rw [hf0, hf1] at hnx
    rw [hz0, hz1] at hR
    rw [hz0, hz1]
    obtain ⟨g, rfl, hgB, hmx, hP⟩ := e1.at (i := k) (by rw [hln, HM.out]; exact hk)
    have hgl := hP.lt
    have hc := hP.cell k (by rw [hln, HM.out]; exact hk)
    obtain ⟨z, hz⟩ : ∃ z, zs.getD k 0 = z := ⟨_, rfl⟩
    rw [hz] at hc hnx
    obtain ⟨y, hy⟩ : ∃ y, IntKind.i64.wrap (z + IntKind.i64.wrap (min z0 1024 + min z1 1024)) = y := ⟨_, rfl⟩
    rw [hy] at hnx
    have HNX := Lib.hid hnx
    have HZS := Lib.hid hzs
    have ci := e2.cell 0
    have cp0 := hR.cell 0
    have cp1 := hR.cell 1
    have hkI : (k : Int) < (m : Int) := by omega
    have hgG : g < G := by have := HI.out.lt; omega
    have hS0 : X.drew.cell? ⟨G, 0, none⟩ = some (.slice (some ⟨g, 0, none⟩) m cap) ∧ X.drew.cell? ⟨g, k, none⟩ = some (.int .i64 z) ∧ X.drew.cell? ⟨p, 0, none⟩ = some (.int .i64 z0) ∧ X.drew.cell? ⟨p, 1, none⟩ = some (.int .i64 z1) := ⟨ci, hc, cp0, cp1⟩
    have b0 : Below X.heap.size X X.drew := (Below.refl _ X).drew
    have hf := hP.free k
    have HP := Lib.hid hP
    clear hnx hzs hz0 hz1 hf0 hf1 ci cp0 cp1 hc e1 hP hz
    refine wpIn_block ?_
    refine region_roundL (fun Y => Y.cell? ⟨G, 0, none⟩ = some (.slice (some ⟨g, 0, none⟩) m cap) ∧ Y.cell? ⟨g, k, none⟩ = some (.int .i64 z) ∧ Y.cell? ⟨p, 0, none⟩ = some (.int .i64 z0) ∧ Y.cell? ⟨p, 1, none⟩ = some (.int .i64 z1)) 13
      (by kernel_rfl) (by kernel_rfl) (by rintro ⟨a', w', h⟩; exact h) hS0 (fun hHeld => ?_)
    refine wpAnyL_take (i := 0) (v := ?va0) rfl (by kernel_rfl) (by kernel_rfl) (by kernel_rfl) (by kernel_rfl) (fun _ _ _ h => h) (Or.inl ⟨by rfl, ?ha0⟩) (by assumption) ?ra0
    case ha0 =>
      intro w hSw
      try dsimp only at hSw
      go_simp
      try with_reducible rfl
    try simp only [Act.put, List.setIfInBounds_toArray, List.set_cons_zero, List.set_cons_succ]
    refine wpAnyL_take (i := 1) (v := ?va1) rfl (by kernel_rfl) (by kernel_rfl) (by kernel_rfl) (by kernel_rfl) (fun _ _ _ h => h) (Or.inl ⟨by rfl, ?ha1⟩) (by assumption) ?ra1
    case ha1 =>
      intro w hSw
      try dsimp only at hSw
      go_simp
      try with_reducible rfl
    try simp only [Act.put, List.setIfInBounds_toArray, List.set_cons_zero, List.set_cons_succ]
    refine wpAnyL_take (i := 2) (v := ?va2) rfl (by kernel_rfl) (by kernel_rfl) (by kernel_rfl) (by kernel_rfl) (fun _ _ _ h => h) (Or.inl ⟨by rfl, ?ha2⟩) (by assumption) ?ra2
    case ha2 =>
      intro w hSw
      try dsimp only at hSw
      go_simp
      try with_reducible rfl
    try simp only [Act.put, List.setIfInBounds_toArray, List.set_cons_zero, List.set_cons_succ]
    refine wpAnyL_take (i := 3) (v := ?va3) rfl (by kernel_rfl) (by kernel_rfl) (by kernel_rfl) (by kernel_rfl) (fun _ _ _ h => h) (Or.inl ⟨by rfl, ?ha3⟩) (by assumption) ?ra3
    case ha3 =>
      intro w hSw
      try dsimp only at hSw
      go_simp
      try with_reducible rfl
    try simp only [Act.put, List.setIfInBounds_toArray, List.set_cons_zero, List.set_cons_succ]
    refine wpAnyL_take (i := 4) (v := ?va4) rfl (by kernel_rfl) (by kernel_rfl) (by kernel_rfl) (by kernel_rfl) (fun _ _ _ h => h) (Or.inl ⟨by rfl, ?ha4⟩) (by assumption) ?ra4
    case ha4 =>
      intro w hSw
      try dsimp only at hSw
      go_simp
      try with_reducible rfl
    try simp only [Act.put, List.setIfInBounds_toArray, List.set_cons_zero, List.set_cons_succ]
    refine wpAnyL_take (i := 5) (v := ?va5) rfl (by kernel_rfl) (by kernel_rfl) (by kernel_rfl) (by kernel_rfl) (fun _ _ _ h => h) (Or.inl ⟨by rfl, ?ha5⟩) (by assumption) ?ra5
    case ha5 =>
      intro w hSw
      try dsimp only at hSw
      go_simp
      try with_reducible rfl
    try simp only [Act.put, List.setIfInBounds_toArray, List.set_cons_zero, List.set_cons_succ]
    refine wpAnyL_take (i := 6) (v := ?va6) rfl (by kernel_rfl) (by kernel_rfl) (by kernel_rfl) (by kernel_rfl) (fun _ _ _ h => h) (Or.inl ⟨by rfl, ?ha6⟩) (by assumption) ?ra6
    case ha6 =>
      intro w hSw
      try dsimp only at hSw
      go_simp
      try with_reducible rfl
    try simp only [Act.put, List.setIfInBounds_toArray, List.set_cons_zero, List.set_cons_succ]
    refine wpAnyL_take (i := 7) (v := ?va7) rfl (by kernel_rfl) (by kernel_rfl) (by kernel_rfl) (by kernel_rfl) (fun _ _ _ h => h) (Or.inl ⟨by rfl, ?ha7⟩) (by assumption) ?ra7
    case ha7 =>
      intro w hSw
      try dsimp only at hSw
      go_simp
      try with_reducible rfl
    try simp only [Act.put, List.setIfInBounds_toArray, List.set_cons_zero, List.set_cons_succ]
    refine wpAnyL_take (i := 8) (v := ?va8) rfl (by kernel_rfl) (by kernel_rfl) (by kernel_rfl) (by kernel_rfl) (fun _ _ _ h => h) (Or.inl ⟨by rfl, ?ha8⟩) (by assumption) ?ra8
    case ha8 =>
      intro w hSw
      try dsimp only at hSw
      go_simp
      try with_reducible rfl
    try simp only [Act.put, List.setIfInBounds_toArray, List.set_cons_zero, List.set_cons_succ]
    refine wpAnyL_take (i := 9) (v := ?va9) rfl (by kernel_rfl) (by kernel_rfl) (by kernel_rfl) (by kernel_rfl) (fun _ _ _ h => h) (Or.inl ⟨by rfl, ?ha9⟩) (by assumption) ?ra9
    case ha9 =>
      intro w hSw
      try dsimp only at hSw
      go_simp
      try with_reducible rfl
    try simp only [Act.put, List.setIfInBounds_toArray, List.set_cons_zero, List.set_cons_succ]
    refine wpAnyL_take (i := 10) (v := ?va10) rfl (by kernel_rfl) (by kernel_rfl) (by kernel_rfl) (by kernel_rfl) (fun _ _ _ h => h) (Or.inl ⟨by rfl, ?ha10⟩) (by assumption) ?ra10
    case ha10 =>
      intro w hSw
      try dsimp only at hSw
      go_simp
      try with_reducible rfl
    try simp only [Act.put, List.setIfInBounds_toArray, List.set_cons_zero, List.set_cons_succ]
    refine wpAnyL_take (i := 11) (v := ?va11) rfl (by kernel_rfl) (by kernel_rfl) (by kernel_rfl) (by kernel_rfl) (fun _ _ _ h => h) (Or.inl ⟨by rfl, ?ha11⟩) (by assumption) ?ra11
    case ha11 =>
      intro w hSw
      try dsimp only at hSw
      go_simp
      try with_reducible rfl
    try simp only [Act.put, List.setIfInBounds_toArray, List.set_cons_zero, List.set_cons_succ]
    refine wpAnyL_take (i := 12) (v := ?va12) rfl (by kernel_rfl) (by kernel_rfl) (by kernel_rfl) (by kernel_rfl) (fun _ _ _ h => h) (Or.inl ⟨by rfl, ?ha12⟩) (by assumption) ?ra12
    case ha12 =>
      intro w hSw
      try dsimp only at hSw
      go_simp
      try with_reducible rfl
    try simp only [Act.put, List.setIfInBounds_toArray, List.set_cons_zero, List.set_cons_succ]
    have hfd : X.drew.frozen? ⟨g, k, none⟩ = false := hf
    refine wpAnyL_one (i := 13) (by kernel_rfl) rfl (fun K hK => ?sb13)
    go_simp
    (try rw [hy])
    refine hK.out _ _ (fun h => absurd rfl h) (fun _ => ?mb13)
    clear hK K
    try simp only [Act.put, List.setIfInBounds_toArray, List.set_cons_zero, List.set_cons_succ]
    refine wpAnyL_done (by kernel_rfl) ?_ _
    refine ⟨keepsFrom_set (keepsFrom_below b0) _ _, ⟨setBelow (b0.mono (by omega)) (by omega) _ _, Below.heap_setCell _ _ _ _ (by show G + 1 ≠ g; omega)⟩, ?_, e2.far (by show G ≠ g; omega) _, setBelow (e4.trans (b0.mono (by omega))) hgB _ _, Nat.le_trans hsI (setBelow (B := 0) (b0.mono (Nat.zero_le _)) (Nat.zero_le g) k (.int .i64 y)).size⟩
    rw [List.map_append, List.map_cons, List.map_nil, HNX.out]
    exact .inr ⟨g, rfl, hgB, hmx, PartS.set (show PartS X.drew g cap zs from HP.out) k (by rw [hln, HM.out]; exact hk) y⟩
  case done =>
    rintro D ks X hD hup ⟨e1, e2, e4, hsI⟩ hK
    rw [show ks.map Fin.val = List.range m from hup, stpOf_all _ HM.out] at e1
    have hw : Wid ((List.range m).map fun i : Nat => padF pads i (s.getD i 0)) := Wid.map_range fun i _ => wrap_range _
    have AZ := e1.res hw
    rw [List.length_map, List.length_range] at AZ
    have ci := e2.cell 0
    gi_wp2
    refine ⟨by simp, .inl ⟨_, _, rfl, run_takeDeferred hK, ?_⟩⟩
    have kk := KeepC.grown (grownBy_putObj' X D (.deferred none)) (fun r e => by cases e; exact ⟨_, hK, rfl⟩)
    refine ⟨_, results_tmp rfl _ _ _, _, rfl, ?_, e4.trans (belowK_b (n₀ := B) (w := w) (by omega) X D _ _ (by omega) hK rfl rfl)⟩
    exact (show ResS B _ (.slice ad m cap) _ from AZ.keepC kk)
  case stop =>
    rintro D c pre X _ _ h _
    exact h.elim
/-- what mayPads answers, whatever shape it is given -/
def pdCW (s pads : List Int) : Int :=
  if pads.length ≠ 2 * s.length then 11 else if ∃ i, i < s.length ∧ badPad pads i then 11 else mayC (pdW s pads)
theorem pdCW_bad {s pads : List Int} {i : Nat} (hi : i < s.length) (h : badPad pads i) : pdCW s pads = 11 := by
  unfold pdCW
  split
  · rfl
  · rw [if_pos ⟨i, hi, h⟩]
theorem pdCW_good {s pads : List Int} (hl : pads.length = 2 * s.length) (hg : ∀ i, i < s.length → ¬ badPad pads i) : pdCW s pads = mayC (pdW s pads) := by
  unfold pdCW
  rw [if_neg (by omega), if_neg (fun ⟨j, hj, hb⟩ => hg j hj hb)]
set_option maxRecDepth 100000 in
set_option maxHeartbeats 4000000 in
theorem mayPads_any {w : World} {s pads : List Int} {a ap : Option Addr} {ca cp : Nat} (A : ArgS w (.slice a s.length ca) s a ca) (na : a = none → ca = 0) (P : ArgS w (.slice ap pads.length cp) pads ap cp) (hs : s.length ≤ 8000000000000) (hps : pads.length ≤ 8000000000000) :
    Calls Tryz.prog 63 #[.slice a s.length ca, .slice ap pads.length cp] w fun e w' => e = .returned (.int .i64 (pdCW s pads)) ∧ Below w.heap.size w w' := by
  obtain ⟨G, hG⟩ : ∃ G, w.heap.size = G := ⟨_, rfl⟩
  obtain ⟨m, hm⟩ : ∃ m, s.length = m := ⟨_, rfl⟩
  obtain ⟨W, hW⟩ : ∃ W, w.alloc (.cells #[.int .i64 0] 27) = W := ⟨_, rfl⟩
  have R0 : Row W G 27 #[.int .i64 0] := by rw [← hW, ← hG]; exact Row.new _ _ _
  have hBW : Below w.heap.size w W := by rw [← hW]; exact (Below.refl _ _).alloc (Nat.le_refl _) _
  have hsW : W.heap.size = G + 1 := by rw [← hW, ← hG]; simp
  have HA := Lib.hid A
  have HNA := Lib.hid na
  have HP := Lib.hid P
  have HM := Lib.hid hm
  obtain ⟨c, hc⟩ : ∃ c, pdCW s pads = c := ⟨_, rfl⟩
  have HC := Lib.hid hc
  have f0 := R0.free 0
  have d0 := R0.cell 0
  rw [hc, hG]
  by_cases hcl : pads.length = 2 * m
  · have HCL := Lib.hid hcl
    have HCB : Hid (pads ≠ [] → ∀ x, ap = some x → x.block < G) := Lib.hid (fun h1 x h2 => hG ▸ P.lim.lt h1 x h2)
    have hlim : LimS W ap pads := P.lim.later hBW
    have hlenI : ((pads.length : Int) != 2 * (m : Int)) = false := by simp; omega
    have hwm : IntKind.i64.wrap (2 * (m : Int)) = 2 * (m : Int) := wrap_i64 (by omega) (by omega)
    rw [hm] at hs ⊢
    clear A na P hm hc hcl
    obtain ⟨n', hn'⟩ : ∃ n' : Nat, Hid (3 ≤ n') := ⟨3, Nat.le_refl 3⟩
    refine (callsIn_wide (n := n')).1 ?_
    refine callsIn_of_wp_marks Tryz.func63 rfl trivial ?_ rfl
    simp only [Tryz.ntmps63, List.size_toArray, List.length_cons, List.length_nil, Nat.reduceAdd, Nat.reduceSub, Array.replicate_succ, Array.replicate_zero, List.push_toArray, List.append_toArray, List.nil_append, List.cons_append]
    gi_wp2_with fail
    (try rw [hW])
    refine wideCallS ((pairs_any _ _ _ _).mono ?_)
    rintro e w' ⟨rfl, rfl⟩
    gi_wp2_with fail
    obtain ⟨V, hV⟩ : ∃ V, W.alloc (.cells #[.slice ap pads.length cp] 22) = V := ⟨_, rfl⟩
    have sV : V.heap.size = G + 1 + 1 := by rw [← hV, World.size_alloc, hsW]
    have b4 : Below W.heap.size W V := by rw [← hV]; exact (Below.refl _ _).alloc (Nat.le_refl _) _
    have d4 : Boxed V (G + 1) 22 (.slice ap pads.length cp) := by rw [← hV, ← hsW]; exact Boxed.new _ _ _
    have q0 := R0.later b4
    have hbV : Below G w V := by rw [← hG]; exact hBW.trans (b4.mono (by omega))
    have hlimV : LimS V ap pads := hlim.later b4
    (try rw [hsW])
    (try rw [hV])
    have h3 : 3 ≤ n' := hn'
    clear hV hW R0 hlim f0 d0
    refine wpIn_rangeFunc_ownH (F := Fence.wide) (n := n') rfl (by omega) (gf := 95) (lb := #[.pointer (some ⟨G + 1, 0, none⟩)]) rfl trivial (enters_of Tryz.func95 (by kernel_rfl) rfl)
      (pairs_stops (n' - 1) (G + 1) (G) m ap pads cp (by omega) HCL.out HCB.out V (by omega) d4.cell hlimV) KpS.trans (KpS.b (by omega) (by omega)) (Below.refl _ _) (fun _ => rfl)
      (fun (pre : List (Fin m)) X => Row X G 27 #[.int .i64 0] ∧ (∀ x ∈ pre, ¬ badPad pads x.val) ∧ Below G w X ∧ G + 1 + 1 ≤ X.heap.size)
      (fun c pre X => c = .ret ∧ Row X G 27 #[.int .i64 11] ∧ (∃ x ∈ pre, badPad pads x.val) ∧ Below G w X)
      (fun pre X Y row ⟨e1, e2, e4, e5⟩ hg hr => have kk := KeepC.grown hg (fun r e => (hr r e).2); ⟨e1.keepC kk, e2, e4.grown hg (by have := e4.size; omega) (fun k e => by have := (hr k e).1; omega), Nat.le_trans e5 hg.size⟩)
      (fun c pre X Y row ⟨e0, e1, e2, e4⟩ hg hr => have kk := KeepC.grown hg (fun r e => (hr r e).2); ⟨e0, e1.keepC kk, e2, e4.grown hg (by have := e4.size; omega) (fun k e => by have := (hr k e).1; omega)⟩)
      ⟨q0, (fun x h => absurd h List.not_mem_nil), hbV, by omega⟩
      (fun (x : Fin m) a' X => ∃ p, G + 1 + 1 ≤ p ∧ Row X p 89 #[.int .i64 (pads[2 * x.val]?.getD 0), .int .i64 (pads[2 * x.val + 1]?.getD 0)] ∧
        a' = { tmps := #[.slice a m ca, .slice ap pads.length cp, undef, undef, .pointer (some ⟨G, 0, none⟩), undef, .pointer (some ⟨p, 0, none⟩), .slice ap pads.length cp, .int .i64 (pads.length : Int), .slice a m ca, .int .i64 (m : Int), .int .i64 (2 * (m : Int)), .bool false, .slice ap pads.length cp, .func (.func 95) #[] #[.pointer (some ⟨G + 1, 0, none⟩)], .int .i64 (x.val : Int), .agg #[.int .i64 (pads[2 * x.val]?.getD 0), .int .i64 (pads[2 * x.val + 1]?.getD 0)], undef, undef, undef, undef, undef, undef, undef, undef, undef, undef, undef, undef], defers := [] })
      (fun x a' _ X Y row ⟨p, h1, h2, h3⟩ hg hr => ⟨p, h1, h2.keepC (KeepC.grown hg (fun r e => (hr r e).2)), h3⟩)
      ?assign ?body ?done ?stop
    case assign =>
      rintro l pre ⟨k, hk⟩ X K ⟨e1, e2, e4, hsI⟩ hK
      obtain ⟨z0, hz0⟩ : ∃ z0, pads[2 * k]?.getD 0 = z0 := ⟨_, rfl⟩
      obtain ⟨z1, hz1⟩ : ∃ z1, pads[2 * k + 1]?.getD 0 = z1 := ⟨_, rfl⟩
      have hbX : Below X.heap.size X (X.alloc (.cells #[.int .i64 z0, .int .i64 z1] 89)) := (Below.refl _ _).alloc (Nat.le_refl _) _
      have kk := KeepC.below hbX
      have HK := Lib.hid hK
      have HZ0 := Lib.hid hz0
      have HZ1 := Lib.hid hz1
      simp only [pairV]
      rw [hz0, hz1]
      clear hK hz0 hz1
      gi_wp2
      refine HK.out _ _ ⟨by simp, fun q o _ ho _ => (Below.heap_alloc _ _ _ (lt_of_block ho)).trans ho⟩ ⟨hbX.mono (by omega), Below.heap_alloc _ _ _ (by omega)⟩ ⟨e1.keepC kk, e2, e4.trans (hbX.mono (by have := e4.size; omega)), by simp; omega⟩ ⟨X.heap.size, hsI, ?_, ?_⟩
      · simp only [HZ0.out, HZ1.out]; exact Row.new _ _ _
      · simp only [HZ0.out, HZ1.out]
    case body =>
      rintro l pre ⟨k, hk⟩ a' X hl hrec ⟨e1, e2, e4, hsI⟩ ⟨p, hp, hR, rfl⟩ hlt
      simp only at hR ⊢
      obtain ⟨z0, hz0⟩ : ∃ z0, pads[2 * k]?.getD 0 = z0 := ⟨_, rfl⟩
      obtain ⟨z1, hz1⟩ : ∃ z1, pads[2 * k + 1]?.getD 0 = z1 := ⟨_, rfl⟩
      have hf0 : fstP pads k = z0 := hz0
      have hf1 : sndP pads k = z1 := hz1
      have hbd : badPad pads k ↔ (z0 < 0 ∨ z1 < 0) := by unfold badPad; rw [hf0, hf1]
      rw [hz0, hz1] at hR
      rw [hz0, hz1]
      have cp0 := hR.cell 0
      have cp1 := hR.cell 1
      have fe := e1.free 0
      have ce := e1.cell 0
      have HBD := Lib.hid hbd
      have E1 := Lib.hid e1
      have E2 := Lib.hid e2
      clear hbd hz0 hz1 hf0 hf1 hR e1 e2
      by_cases hbad : z0 < 0 ∨ z1 < 0
      · have R9 : Row (X.setCell ⟨G, 0, none⟩ (.int .i64 11)) G 27 #[.int .i64 11] := E1.out.set 0 _
        have fin : KeepsFrom (G + 1 + 1) X (X.setCell ⟨G, 0, none⟩ (.int .i64 11)) ∧ Code.ret = Code.ret ∧ Row (X.setCell ⟨G, 0, none⟩ (.int .i64 11)) G 27 #[.int .i64 11] ∧ (∃ x ∈ pre ++ [(⟨k, hk⟩ : Fin m)], badPad pads x.val) ∧ Below G w (X.setCell ⟨G, 0, none⟩ (.int .i64 11)) :=
          ⟨keepsFrom_set (keepsFrom_below (Below.refl _ _)) _ _, rfl, R9, ⟨_, List.mem_append_right _ (List.mem_singleton.2 rfl), HBD.out.2 hbad⟩, setBelow e4 (by omega) _ _⟩
        have FIN := Lib.hid fin
        by_cases h0 : z0 < 0
        · clear hbad R9 fin
          gi_wp2
          exact ⟨FIN.out.1, rfl, FIN.out.2.2⟩
        · have h1 : z1 < 0 := hbad.resolve_left h0
          clear hbad R9 fin
          gi_wp2
          exact ⟨FIN.out.1, rfl, FIN.out.2.2⟩
      · have h0 : ¬ z0 < 0 := fun h => hbad (.inl h)
        have h1 : ¬ z1 < 0 := fun h => hbad (.inr h)
        have HBAD := Lib.hid hbad
        clear hbad
        gi_wp2
        refine ⟨keepsFrom_below (Below.refl _ _), ⟨Below.refl _ _, rfl⟩, E1.out, fun x hx => ?_, e4, hsI⟩
        rcases List.mem_append.1 hx with hx | hx
        · exact E2.out x hx
        · rw [List.mem_singleton.1 hx]
          exact fun h => HBAD.out (HBD.out.1 h)
    case done =>
      rintro D ks X hD hup ⟨e1, e2, e4, hsI⟩ hK
      have hgood : ∀ i, i < s.length → ¬ badPad pads i := fun i hi => by
        rw [HM.out] at hi
        have h5 : i ∈ ks.map Fin.val := by rw [show ks.map Fin.val = List.range m from hup]; exact List.mem_range.2 hi
        obtain ⟨z, hz, hv⟩ := List.mem_map.1 h5
        rw [← hv]
        exact e2 z hz
      have hcc := pdCW_good (by rw [HM.out]; exact HCL.out) hgood
      rw [HC.out] at hcc
      have hpd := padded_any (HA.out.later (hG.symm ▸ e4)) HNA.out (HP.out.later (hG.symm ▸ e4)) (by rw [HM.out]; exact HCL.out) (by rw [HM.out]; exact hs)
      rw [HM.out] at hpd
      have HE1 := Lib.hid e1
      have hsX := e4.size
      have hDlt := lt_of_block hK
      have HCC := Lib.hid hcc
      clear e1 e2 hcc hgood
      gi_wp2_with fail
      refine wideCallS (hpd.mono ?_)
      rintro e w7 ⟨r, rfl, RS, b7⟩
      obtain ⟨ar, cr, AR⟩ := RS.arg
      have hmay := mayS_eq AR
      obtain rfl := AR.is
      rw [← HCC.out] at hmay
      gi_wp2_with fail
      refine wideCallS (hmay.mono ?_)
      rintro e w8 ⟨rfl, rfl⟩
      have P2 := HE1.out.later b7
      have f9 := P2.free 0
      have c9 := P2.cell 0
      have hK9 : w7.heap[D]? = some (.deferred (some [])) := (b7.block D hDlt).trans hK
      have P2' := Lib.hid P2
      clear P2
      gi_wp2
      have hK' := (KeepsOthers.setCell w7 ⟨G, 0, none⟩ (.int .i64 c)).same D _ hK9 rfl
      refine ⟨by simp, .inl ⟨_, _, rfl, run_takeDeferred hK', ?_⟩⟩
      have hc5 := cell_kept ((P2'.out.set 0 (.int .i64 c)).cell 0) (grownBy_putObj' _ D (.deferred none)) (fun r e => by cases e; exact ⟨_, hK', rfl⟩)
      simp at hc5
      refine ⟨.int .i64 c, by simp [results, Tryz.f63, go_sem, hc5], rfl, ?_⟩
      exact (setBelow (e4.trans (b7.mono (by omega))) (by omega) _ _).trans (belowK_b (n₀ := G) (w := w) (by omega) _ D _ _ (by omega) hK' rfl rfl)
    case stop =>
      rintro D c2 pre X hD ⟨k, hk, hup⟩ ⟨rfl, h1, ⟨x, hx, hbad⟩, h3⟩ hK
      have hcc : c = 11 := by rw [← HC.out]; exact pdCW_bad (by rw [HM.out]; exact x.isLt) hbad
      subst hcc
      gi_wp2
      refine ⟨by simp, .inl ⟨_, _, rfl, run_takeDeferred hK, ?_⟩⟩
      have hc5 := cell_kept (h1.cell 0) (grownBy_putObj' _ D (.deferred none)) (fun r e => by cases e; exact ⟨_, hK, rfl⟩)
      simp at hc5
      refine ⟨.int .i64 11, by simp [results, Tryz.f63, go_sem, hc5], rfl, ?_⟩
      exact h3.trans (belowK_b (n₀ := G) (w := w) (by omega) _ D _ _ (by omega) hK rfl rfl)
  · have hcc : c = 11 := by rw [← HC.out]; unfold pdCW; rw [if_pos (by rw [hm]; exact hcl)]
    have hlenI : ((pads.length : Int) != 2 * (m : Int)) = true := by simp; omega
    have hwm : IntKind.i64.wrap (2 * (m : Int)) = 2 * (m : Int) := wrap_i64 (by omega) (by omega)
    subst hcc
    rw [hm]
    clear A na P hm hc hcl
    have hb9 : Below G w (W.setCell ⟨G, 0, none⟩ (.int .i64 11)) := setBelow (by rw [← hG]; exact hBW) (Nat.le_refl _) _ _
    have R9 : Row (W.setCell ⟨G, 0, none⟩ (.int .i64 11)) G 27 #[.int .i64 11] := R0.set 0 _
    have c9 := R9.cell 0
    simp at c9
    obtain ⟨n', hn'⟩ : ∃ n' : Nat, Hid (3 ≤ n') := ⟨3, Nat.le_refl 3⟩
    refine (callsIn_wide (n := n')).1 ?_
    refine callsIn_of_wp_marks Tryz.func63 rfl trivial ?_ rfl
    simp only [Tryz.ntmps63, List.size_toArray, List.length_cons, List.length_nil, Nat.reduceAdd, Nat.reduceSub, Array.replicate_succ, Array.replicate_zero, List.push_toArray, List.append_toArray, List.nil_append, List.cons_append]
    gi_wp2_with fail
    exact ⟨.int .i64 11, by simp [results, Tryz.f63, go_sem, c9], rfl, hb9⟩
end
section
open Go.RowKit Go.Shelf
attribute [local go_sem] Oper.semAt_some
set_option linter.unusedVariables false
set_option linter.unusedSimpArgs false
/-- does a pair lead beyond its dimension? -/
def outC (s cuts : List Int) (ks : List Nat) : Int := if ∃ i, i ∈ ks ∧ s.getD i 0 < sndP cuts i then 13 else 0
theorem outC_nil (s cuts : List Int) : outC s cuts [] = 0 := if_neg (fun ⟨i, h, _⟩ => absurd h List.not_mem_nil)
theorem outC_yes (s cuts : List Int) (ks : List Nat) (k : Nat) (h : s.getD k 0 < sndP cuts k) : outC s cuts (ks ++ [k]) = 13 := if_pos ⟨k, List.mem_append_right _ (List.mem_singleton.2 rfl), h⟩
theorem outC_no (s cuts : List Int) (ks : List Nat) (k : Nat) (h : ¬ s.getD k 0 < sndP cuts k) : outC s cuts (ks ++ [k]) = outC s cuts ks := by
  unfold outC
  by_cases g : ∃ i, i ∈ ks ∧ s.getD i 0 < sndP cuts i
  · obtain ⟨i, hi, hx⟩ := g
    rw [if_pos ⟨i, List.mem_append_left _ hi, hx⟩, if_pos ⟨i, hi, hx⟩]
  · rw [if_neg g, if_neg]
    rintro ⟨i, hi, hx⟩
    rcases List.mem_append.1 hi with hi | hi
    · exact g ⟨i, hi, hx⟩
    · rw [List.mem_singleton.1 hi] at hx
      exact h hx
theorem outC_all {s cuts : List Int} (hl : cuts.length = 2 * s.length) (hg : ∀ i, i < s.length → ¬ badCut cuts i) : slC s cuts = outC s cuts (List.range s.length) := by
  unfold outC
  by_cases g : ∃ i, i ∈ List.range s.length ∧ s.getD i 0 < sndP cuts i
  · obtain ⟨i, hi, hx⟩ := g
    rw [if_pos ⟨i, hi, hx⟩]
    exact slC_out hl hg (List.mem_range.1 hi) hx
  · rw [if_neg g]
    exact slC_ok hl hg fun i hi hx => g ⟨i, List.mem_range.2 hi, hx⟩
set_option maxRecDepth 100000 in
set_option maxHeartbeats 4000000 in
theorem mayCuts_any {w : World} {s cuts : List Int} {a ap : Option Addr} {ca cp : Nat} (A : ArgS w (.slice a s.length ca) s a ca) (P : ArgS w (.slice ap cuts.length cp) cuts ap cp) (hs : s.length ≤ 8000000000000) (hps : cuts.length ≤ 8000000000000) :
    Calls Tryz.prog 59 #[.slice a s.length ca, .slice ap cuts.length cp] w fun e w' => e = .returned (.int .i64 (slC s cuts)) ∧ Below w.heap.size w w' := by
  obtain ⟨G, hG⟩ : ∃ G, w.heap.size = G := ⟨_, rfl⟩
  obtain ⟨m, hm⟩ : ∃ m, s.length = m := ⟨_, rfl⟩
  obtain ⟨W, hW⟩ : ∃ W, (w.alloc (.cells #[.slice a m ca] 23)).alloc (.cells #[.int .i64 0] 27) = W := ⟨_, rfl⟩
  have RS : Row W G 23 #[.slice a m ca] := by rw [← hW, ← hG]; exact (Row.new _ _ _).alloc _
  have R0 : Row W (G + 1) 27 #[.int .i64 0] := by rw [← hW, ← hG]; have h := Row.new (w.alloc (.cells #[.slice a m ca] 23)) 27 #[.int .i64 0]; simp only [World.size_alloc] at h; exact h
  have hBW : Below w.heap.size w W := by rw [← hW]; exact ((Below.refl _ _).alloc (Nat.le_refl _) _).alloc (by simp) _
  have hsW : W.heap.size = G + 1 + 1 := by rw [← hW, ← hG]; simp
  have HA := Lib.hid A
  have HM := Lib.hid hm
  obtain ⟨c, hc⟩ : ∃ c, slC s cuts = c := ⟨_, rfl⟩
  have HC := Lib.hid hc
  have f0 := R0.free 0
  have d0 := R0.cell 0
  have k0 := RS.cell 0
  have hwm : IntKind.i64.wrap (2 * (m : Int)) = 2 * (m : Int) := wrap_i64 (by omega) (by omega)
  rw [hc, hG]
  rw [hm] at hs ⊢
  by_cases hcl : cuts.length = 2 * m
  · have HCL := Lib.hid hcl
    have HCB : Hid (cuts ≠ [] → ∀ x, ap = some x → x.block < G) := Lib.hid (fun h1 x h2 => hG ▸ P.lim.lt h1 x h2)
    have hlim : LimS W ap cuts := P.lim.later hBW
    have hlenI : ((cuts.length : Int) != 2 * (m : Int)) = false := by simp; omega
    obtain ⟨U0, hU⟩ : ∃ U, W.alloc (.cells #[.int .i64 0] 27) = U := ⟨_, rfl⟩
    have RE0 : Row U0 (G + 1 + 1) 27 #[.int .i64 0] := by rw [← hU, ← hsW]; exact Row.new _ _ _
    have bU0 : Below W.heap.size W U0 := by rw [← hU]; exact (Below.refl _ _).alloc (Nat.le_refl _) _
    have sU0 : U0.heap.size = G + 1 + 1 + 1 := by rw [← hU, World.size_alloc, hsW]
    have fU := RE0.free 0
    have cU := RE0.cell 0
    obtain ⟨U, hU2⟩ : ∃ U, U0.setCell ⟨G + 1 + 1, 0, none⟩ (.int .i64 0) = U := ⟨_, rfl⟩
    have RE : Row U (G + 1 + 1) 27 #[.int .i64 0] := by rw [← hU2]; exact RE0.set 0 _
    have bU : Below W.heap.size W U := by rw [← hU2]; exact setBelow bU0 (by omega) _ _
    have sU : U.heap.size = G + 1 + 1 + 1 := by rw [← hU2, setSize]; exact sU0
    clear A P hm hc hcl
    obtain ⟨n', hn'⟩ : ∃ n' : Nat, Hid (3 ≤ n') := ⟨3, Nat.le_refl 3⟩
    refine (callsIn_wide (n := n')).1 ?_
    refine callsIn_of_wp_marks Tryz.func59 rfl trivial ?_ rfl
    simp only [Tryz.ntmps59, List.size_toArray, List.length_cons, List.length_nil, Nat.reduceAdd, Nat.reduceSub, Array.replicate_succ, Array.replicate_zero, List.push_toArray, List.append_toArray, List.nil_append, List.cons_append]
    gi_wp2_with fail
    (try rw [hW])
    (try rw [hU2])
    refine wideCallS ((pairs_any _ _ _ _).mono ?_)
    rintro e w' ⟨rfl, rfl⟩
    gi_wp2_with fail
    obtain ⟨V, hV⟩ : ∃ V, U.alloc (.cells #[.slice ap cuts.length cp] 22) = V := ⟨_, rfl⟩
    have sV : V.heap.size = G + 1 + 1 + 1 + 1 := by rw [← hV, World.size_alloc, sU]
    have b4 : Below U.heap.size U V := by rw [← hV]; exact (Below.refl _ _).alloc (Nat.le_refl _) _
    have d4 : Boxed V (G + 1 + 1 + 1) 22 (.slice ap cuts.length cp) := by rw [← hV, ← sU]; exact Boxed.new _ _ _
    have qs0 := (RS.later bU).later b4
    have q0 := (R0.later bU).later b4
    have qe := RE.later b4
    have bWV : Below W.heap.size W V := bU.trans (b4.mono (by omega))
    have hbV : Below G w V := by rw [← hG]; exact hBW.trans (bWV.mono (by omega))
    have hlimV : LimS V ap cuts := hlim.later bWV
    (try rw [sU])
    (try rw [hsW])
    (try rw [hV])
    have h3 : 3 ≤ n' := hn'
    clear hV hW R0 hlim f0 d0 k0 RS RE hU bU RE0 bU0 fU cU hU2
    refine wpIn_rangeFunc_ownH (F := Fence.wide) (n := n') rfl (by omega) (gf := 95) (lb := #[.pointer (some ⟨G + 1 + 1 + 1, 0, none⟩)]) rfl trivial (enters_of Tryz.func95 (by kernel_rfl) rfl)
      (pairs_stops (n' - 1) (G + 1 + 1 + 1) (G) m ap cuts cp (by omega) HCL.out HCB.out V (by omega) d4.cell hlimV) KpS.trans (KpS.b (by omega) (by omega)) (Below.refl _ _) (fun _ => rfl)
      (fun (pre : List (Fin m)) X => Row X G 23 #[.slice a m ca] ∧ Row X (G + 1) 27 #[.int .i64 0] ∧ Row X (G + 1 + 1) 27 #[.int .i64 (outC s cuts (pre.map Fin.val))] ∧ (∀ x ∈ pre, ¬ badCut cuts x.val) ∧ Below G w X ∧ G + 1 + 1 + 1 + 1 ≤ X.heap.size)
      (fun c pre X => c = .ret ∧ Row X (G + 1) 27 #[.int .i64 11] ∧ (∃ x ∈ pre, badCut cuts x.val) ∧ Below G w X)
      (fun pre X Y row ⟨e0, e1, e2, e3, e4, e5⟩ hg hr => have kk := KeepC.grown hg (fun r e => (hr r e).2); ⟨e0.keepC kk, e1.keepC kk, e2.keepC kk, e3, e4.grown hg (by have := e4.size; omega) (fun k e => by have := (hr k e).1; omega), Nat.le_trans e5 hg.size⟩)
      (fun c pre X Y row ⟨e0, e1, e2, e4⟩ hg hr => have kk := KeepC.grown hg (fun r e => (hr r e).2); ⟨e0, e1.keepC kk, e2, e4.grown hg (by have := e4.size; omega) (fun k e => by have := (hr k e).1; omega)⟩)
      ⟨qs0, q0, by rw [List.map_nil, outC_nil]; exact qe, (fun x h => absurd h List.not_mem_nil), hbV, by omega⟩
      (fun (x : Fin m) a' X => ∃ p, G + 1 + 1 + 1 + 1 ≤ p ∧ Row X p 89 #[.int .i64 (cuts[2 * x.val]?.getD 0), .int .i64 (cuts[2 * x.val + 1]?.getD 0)] ∧
        a' = { tmps := #[.slice a m ca, .slice ap cuts.length cp, .pointer (some ⟨G, 0, none⟩), undef, .pointer (some ⟨G + 1, 0, none⟩), .pointer (some ⟨G + 1 + 1, 0, none⟩), .int .i64 (x.val : Int), .pointer (some ⟨p, 0, none⟩), .slice ap cuts.length cp, .int .i64 (cuts.length : Int), .slice a m ca, .int .i64 (m : Int), .int .i64 (2 * (m : Int)), .bool false, .slice ap cuts.length cp, .func (.func 95) #[] #[.pointer (some ⟨G + 1 + 1 + 1, 0, none⟩)], .int .i64 (x.val : Int), .agg #[.int .i64 (cuts[2 * x.val]?.getD 0), .int .i64 (cuts[2 * x.val + 1]?.getD 0)], undef, undef, undef, undef, undef, undef, undef, undef, undef, undef, undef, undef, undef, undef, undef, undef, undef, undef], defers := [] })
      (fun x a' _ X Y row ⟨p, h1, h2, h3⟩ hg hr => ⟨p, h1, h2.keepC (KeepC.grown hg (fun r e => (hr r e).2)), h3⟩)
      ?assign ?body ?done ?stop
    case assign =>
      rintro l pre ⟨k, hk⟩ X K ⟨e0, e1, e2, e3, e4, hsI⟩ hK
      obtain ⟨z0, hz0⟩ : ∃ z0, cuts[2 * k]?.getD 0 = z0 := ⟨_, rfl⟩
      obtain ⟨z1, hz1⟩ : ∃ z1, cuts[2 * k + 1]?.getD 0 = z1 := ⟨_, rfl⟩
      have hbX : Below X.heap.size X (X.alloc (.cells #[.int .i64 z0, .int .i64 z1] 89)) := (Below.refl _ _).alloc (Nat.le_refl _) _
      have kk := KeepC.below hbX
      have HK := Lib.hid hK
      have HZ0 := Lib.hid hz0
      have HZ1 := Lib.hid hz1
      simp only [pairV]
      rw [hz0, hz1]
      clear hK hz0 hz1
      gi_wp2
      refine HK.out _ _ ⟨by simp, fun q o _ ho _ => (Below.heap_alloc _ _ _ (lt_of_block ho)).trans ho⟩ ⟨hbX.mono (by omega), Below.heap_alloc _ _ _ (by omega)⟩ ⟨e0.keepC kk, e1.keepC kk, e2.keepC kk, e3, e4.trans (hbX.mono (by have := e4.size; omega)), by simp; omega⟩ ⟨X.heap.size, hsI, ?_, ?_⟩
      · simp only [HZ0.out, HZ1.out]; exact Row.new _ _ _
      · simp only [HZ0.out, HZ1.out]
    case body =>
      rintro l pre ⟨k, hk⟩ a' X hl hrec ⟨e0, e1, e2, e3, e4, hsI⟩ ⟨p, hp, hR, rfl⟩ hlt
      simp only at hR ⊢
      obtain ⟨z0, hz0⟩ : ∃ z0, cuts[2 * k]?.getD 0 = z0 := ⟨_, rfl⟩
      obtain ⟨z1, hz1⟩ : ∃ z1, cuts[2 * k + 1]?.getD 0 = z1 := ⟨_, rfl⟩
      have hf0 : fstP cuts k = z0 := hz0
      have hf1 : sndP cuts k = z1 := hz1
      have hbd : badCut cuts k ↔ (z0 < 0 ∨ z1 ≤ z0) := by unfold badCut; rw [hf0, hf1]
      rw [hz0, hz1] at hR
      rw [hz0, hz1]
      have cp0 := hR.cell 0
      have cp1 := hR.cell 1
      have fe := e1.free 0
      have ce := e1.cell 0
      have HBD := Lib.hid hbd
      have E0 := Lib.hid e0
      have E1 := Lib.hid e1
      have E2 := Lib.hid e2
      have E3 := Lib.hid e3
      have HF1 := Lib.hid hf1
      have HR := Lib.hid hR
      clear hbd hz0 hz1 hf0 hf1 hR e0 e1 e2 e3
      by_cases hbad : z0 < 0 ∨ z1 ≤ z0
      · have R9 : Row (X.setCell ⟨G + 1, 0, none⟩ (.int .i64 11)) (G + 1) 27 #[.int .i64 11] := E1.out.set 0 _
        have fin : KeepsFrom (G + 1 + 1 + 1 + 1) X (X.setCell ⟨G + 1, 0, none⟩ (.int .i64 11)) ∧ Code.ret = Code.ret ∧ Row (X.setCell ⟨G + 1, 0, none⟩ (.int .i64 11)) (G + 1) 27 #[.int .i64 11] ∧ (∃ x ∈ pre ++ [(⟨k, hk⟩ : Fin m)], badCut cuts x.val) ∧ Below G w (X.setCell ⟨G + 1, 0, none⟩ (.int .i64 11)) :=
          ⟨keepsFrom_set (keepsFrom_below (Below.refl _ _)) _ _, rfl, R9, ⟨_, List.mem_append_right _ (List.mem_singleton.2 rfl), HBD.out.2 hbad⟩, setBelow e4 (by omega) _ _⟩
        have FIN := Lib.hid fin
        by_cases h0 : z0 < 0
        · clear hbad R9 fin
          gi_wp2
          exact ⟨FIN.out.1, rfl, FIN.out.2.2⟩
        · have h1 : z1 ≤ z0 := hbad.resolve_left h0
          clear hbad R9 fin
          gi_wp2
          exact ⟨FIN.out.1, rfl, FIN.out.2.2⟩
      · have h0 : ¬ z0 < 0 := fun h => hbad (.inl h)
        have h1 : ¬ z1 ≤ z0 := fun h => hbad (.inr h)
        have HBAD := Lib.hid hbad
        obtain ⟨b1, o1, rfl, c1⟩ := (HA.out.later (hG.symm ▸ e4)).at (i := k) (by rw [HM.out]; exact hk)
        obtain ⟨d, hd⟩ : ∃ d, s.getD k 0 = d := ⟨_, rfl⟩
        rw [hd] at c1
        have HD := Lib.hid hd
        have ks := E0.out.cell 0
        have hS0 : X.drew.cell? ⟨p, 1, none⟩ = some (.int .i64 z1) ∧ X.drew.cell? ⟨G, 0, none⟩ = some (.slice (some ⟨b1, o1, none⟩) m ca) ∧ X.drew.cell? ⟨b1, o1 + k, none⟩ = some (.int .i64 d) := ⟨cp1, ks, c1⟩
        have hkI : (k : Int) < (m : Int) := by omega
        have b0 : Below X.heap.size X X.drew := (Below.refl _ X).drew
        have hnot : ∀ x ∈ pre ++ [(⟨k, hk⟩ : Fin m)], ¬ badCut cuts x.val := fun x hx => by
          rcases List.mem_append.1 hx with hx | hx
          · exact E3.out x hx
          · rw [List.mem_singleton.1 hx]
            exact fun h => HBAD.out (HBD.out.1 h)
        have HNOT := Lib.hid hnot
        clear hbad hd hnot
        gi_wp2_with fail
        refine region_round (fun Y => Y.cell? ⟨p, 1, none⟩ = some (.int .i64 z1) ∧ Y.cell? ⟨G, 0, none⟩ = some (.slice (some ⟨b1, o1, none⟩) m ca) ∧ Y.cell? ⟨b1, o1 + k, none⟩ = some (.int .i64 d))
          (by kernel_rfl) (by kernel_rfl) (by rintro ⟨a', w', h⟩; exact h) hS0 (fun hHeld => ?_)
        refine wpAnyH_take (i := 0) (v := ?va0) rfl (by kernel_rfl) (by kernel_rfl) (by kernel_rfl) (fun _ _ _ h => h) (Or.inl ⟨by rfl, ?ha0⟩) (by assumption) ?ra0
        case ha0 =>
          intro w hSw
          try dsimp only at hSw
          go_simp
          try with_reducible rfl
        try simp only [Act.put, List.setIfInBounds_toArray, List.set_cons_zero, List.set_cons_succ]
        refine wpAnyH_take (i := 1) (v := ?va1) rfl (by kernel_rfl) (by kernel_rfl) (by kernel_rfl) (fun _ _ _ h => h) (Or.inl ⟨by rfl, ?ha1⟩) (by assumption) ?ra1
        case ha1 =>
          intro w hSw
          try dsimp only at hSw
          go_simp
          try with_reducible rfl
        try simp only [Act.put, List.setIfInBounds_toArray, List.set_cons_zero, List.set_cons_succ]
        refine wpAnyH_take (i := 2) (v := ?va2) rfl (by kernel_rfl) (by kernel_rfl) (by kernel_rfl) (fun _ _ _ h => h) (Or.inl ⟨by rfl, ?ha2⟩) (by assumption) ?ra2
        case ha2 =>
          intro w hSw
          try dsimp only at hSw
          go_simp
          try with_reducible rfl
        try simp only [Act.put, List.setIfInBounds_toArray, List.set_cons_zero, List.set_cons_succ]
        refine wpAnyH_take (i := 3) (v := ?va3) rfl (by kernel_rfl) (by kernel_rfl) (by kernel_rfl) (fun _ _ _ h => h) (Or.inl ⟨by rfl, ?ha3⟩) (by assumption) ?ra3
        case ha3 =>
          intro w hSw
          try dsimp only at hSw
          go_simp
          try with_reducible rfl
        try simp only [Act.put, List.setIfInBounds_toArray, List.set_cons_zero, List.set_cons_succ]
        refine wpAnyH_take (i := 4) (v := ?va4) rfl (by kernel_rfl) (by kernel_rfl) (by kernel_rfl) (fun _ _ _ h => h) (Or.inl ⟨by rfl, ?ha4⟩) (by assumption) ?ra4
        case ha4 =>
          intro w hSw
          try dsimp only at hSw
          go_simp
          try with_reducible rfl
        try simp only [Act.put, List.setIfInBounds_toArray, List.set_cons_zero, List.set_cons_succ]
        refine wpAnyH_take (i := 5) (v := ?va5) rfl (by kernel_rfl) (by kernel_rfl) (by kernel_rfl) (fun _ _ _ h => h) (Or.inl ⟨by rfl, ?ha5⟩) (by assumption) ?ra5
        case ha5 =>
          intro w hSw
          try dsimp only at hSw
          go_simp
          try with_reducible rfl
        try simp only [Act.put, List.setIfInBounds_toArray, List.set_cons_zero, List.set_cons_succ]
        refine wpAnyH_take (i := 6) (v := ?va6) rfl (by kernel_rfl) (by kernel_rfl) (by kernel_rfl) (fun _ _ _ h => h) (Or.inl ⟨by rfl, ?ha6⟩) (by assumption) ?ra6
        case ha6 =>
          intro w hSw
          try dsimp only at hSw
          go_simp
          try with_reducible rfl
        try simp only [Act.put, List.setIfInBounds_toArray, List.set_cons_zero, List.set_cons_succ]
        refine wpAnyH_done (by kernel_rfl) ?_ _
        have ks2 := (E2.out.cell 0)
        have kf2 := (E2.out.free 0)
        have hsg : G + 1 + 1 + 1 + 1 ≤ X.heap.size := hsI
        clear ce fe cp0 cp1 c1 ks hS0 hHeld
        by_cases hgt : d < z1
        · have hdc : decide (d < z1) = true := decide_eq_true hgt
          have hoc : outC s cuts (pre.map Fin.val ++ [k]) = 13 := outC_yes _ _ _ _ (by rw [HD.out, HF1.out]; exact hgt)
          have HOC := Lib.hid hoc
          have R2 : Row (X.drew.setCell ⟨G + 1 + 1, 0, none⟩ (.int .i64 13)) (G + 1 + 1) 27 #[.int .i64 13] := E2.out.set 0 _
          clear hoc
          gi_wp2
          refine ⟨keepsFrom_set (keepsFrom_below b0) _ _, ⟨setBelow (b0.mono (by omega)) (by omega) _ _, Below.heap_setCell _ _ _ _ (by show G + 1 + 1 + 1 ≠ G + 1 + 1; omega)⟩, E0.out.far (by show G ≠ G + 1 + 1; omega) _, E1.out.far (by show G + 1 ≠ G + 1 + 1; omega) _, ?_, HNOT.out, setBelow (e4.trans (b0.mono (by omega))) (by omega) _ _, Nat.le_trans hsI (setBelow (B := 0) (b0.mono (Nat.zero_le _)) (Nat.zero_le (G + 1 + 1)) 0 (.int .i64 13)).size⟩
          rw [List.map_append, List.map_cons, List.map_nil, HOC.out]
          exact R2
        · have hdc : decide (d < z1) = false := decide_eq_false hgt
          have hoc : outC s cuts (pre.map Fin.val ++ [k]) = outC s cuts (pre.map Fin.val) := outC_no _ _ _ _ (by rw [HD.out, HF1.out]; exact hgt)
          have HOC := Lib.hid hoc
          clear hoc
          gi_wp2
          refine ⟨keepsFrom_below b0, ⟨b0.mono (by omega), rfl⟩, E0.out.drew, E1.out.drew, ?_, HNOT.out, e4.trans (b0.mono (by omega)), hsI⟩
          rw [List.map_append, List.map_cons, List.map_nil, HOC.out]
          exact E2.out.drew
    case done =>
      rintro D ks X hD hup ⟨e0, e1, e2, e3, e4, hsI⟩ hK
      have hgood : ∀ i, i < s.length → ¬ badCut cuts i := fun i hi => by
        rw [HM.out] at hi
        have h5 : i ∈ ks.map Fin.val := by rw [show ks.map Fin.val = List.range m from hup]; exact List.mem_range.2 hi
        obtain ⟨z, hz, hv⟩ := List.mem_map.1 h5
        rw [← hv]
        exact e3 z hz
      have hcc := outC_all (by rw [HM.out]; exact HCL.out) hgood
      rw [HC.out, HM.out] at hcc
      rw [show ks.map Fin.val = List.range m from hup, ← hcc] at e2
      have E1 := Lib.hid e1
      have f1 := e1.free 0
      have c1 := e1.cell 0
      have c2 := e2.cell 0
      clear e1 e2 e3 e0 hgood hcc
      gi_wp2
      have hK' := (KeepsOthers.setCell X ⟨G + 1, 0, none⟩ (.int .i64 c)).same D _ hK rfl
      refine ⟨by simp, .inl ⟨_, _, rfl, run_takeDeferred hK', ?_⟩⟩
      have hc5 := cell_kept ((E1.out.set 0 (.int .i64 c)).cell 0) (grownBy_putObj' _ D (.deferred none)) (fun r e => by cases e; exact ⟨_, hK', rfl⟩)
      simp at hc5
      refine ⟨.int .i64 c, by simp [results, Tryz.f59, go_sem, hc5], rfl, ?_⟩
      exact (setBelow e4 (by omega) _ _).trans (belowK_b (n₀ := G) (w := w) (by omega) _ D _ _ (by omega) hK' rfl rfl)
    case stop =>
      rintro D c2 pre X hD ⟨k, hk, hup⟩ ⟨rfl, h1, ⟨x, hx, hbad⟩, h3⟩ hK
      have hcc : c = 11 := by rw [← HC.out]; exact slC_bad (by rw [HM.out]; exact x.isLt) hbad
      subst hcc
      gi_wp2
      refine ⟨by simp, .inl ⟨_, _, rfl, run_takeDeferred hK, ?_⟩⟩
      have hc5 := cell_kept (h1.cell 0) (grownBy_putObj' _ D (.deferred none)) (fun r e => by cases e; exact ⟨_, hK, rfl⟩)
      simp at hc5
      refine ⟨.int .i64 11, by simp [results, Tryz.f59, go_sem, hc5], rfl, ?_⟩
      exact h3.trans (belowK_b (n₀ := G) (w := w) (by omega) _ D _ _ (by omega) hK rfl rfl)
  · have hcc : c = 11 := by rw [← HC.out]; exact slC_len (by rw [HM.out]; exact hcl)
    have hlenI : ((cuts.length : Int) != 2 * (m : Int)) = true := by simp; omega
    subst hcc
    have hb9 : Below G w (W.setCell ⟨G + 1, 0, none⟩ (.int .i64 11)) := setBelow (by rw [← hG]; exact hBW) (by omega) _ _
    have R9 : Row (W.setCell ⟨G + 1, 0, none⟩ (.int .i64 11)) (G + 1) 27 #[.int .i64 11] := R0.set 0 _
    have c9 := R9.cell 0
    simp at c9
    clear A P hm hc hcl
    obtain ⟨n', hn'⟩ : ∃ n' : Nat, Hid (3 ≤ n') := ⟨3, Nat.le_refl 3⟩
    refine (callsIn_wide (n := n')).1 ?_
    refine callsIn_of_wp_marks Tryz.func59 rfl trivial ?_ rfl
    simp only [Tryz.ntmps59, List.size_toArray, List.length_cons, List.length_nil, Nat.reduceAdd, Nat.reduceSub, Array.replicate_succ, Array.replicate_zero, List.push_toArray, List.append_toArray, List.nil_append, List.cons_append]
    gi_wp2_with fail
    exact ⟨.int .i64 11, by simp [results, Tryz.f59, go_sem, c9], rfl, hb9⟩
end
section
open Go.RowKit
set_option linter.unusedVariables false
set_option linter.unusedSimpArgs false
set_option maxRecDepth 100000 in
set_option maxHeartbeats 4000000 in
theorem inverse9_any {u : Value} {p : List Int} {a : Option Addr} {ca : Nat} {w : World} (A : ArgS w u p a ca) (ha : a = none → ca = 0) (hx : p.length ≤ 8000000) :
    Calls Tryz.prog 84 #[u] w fun e w' => ∃ r, e = .returned (.tuple #[r, .int .i64 (permC p p.length)]) ∧ ResS w.heap.size w' r (invV p) ∧ Below w.heap.size w w' := by
  have HA := Lib.hid A
  obtain rfl := A.is
  obtain ⟨c, hc⟩ : ∃ c, permC p p.length = c := ⟨_, rfl⟩
  obtain ⟨r, hr⟩ : ∃ r, invV p = r := ⟨_, rfl⟩
  have HC := Lib.hid hc
  have HR := Lib.hid hr
  rw [hc, hr]
  obtain ⟨L, hL⟩ : ∃ L, p.length = L := ⟨_, rfl⟩
  have HL := Lib.hid hL
  rw [hL] at hx ⊢
  have hmk1 := make_runM L (by omega)
  have hmk2 := make_runS L (by omega)
  clear A ha hc hr hL
  go_enter Tryz.func84, Tryz.ntmps84
  go_wp2
  have hb0 : Below w.heap.size w ((w.alloc (.cells (madeCells #[.bool false] L) 4)).alloc (.cells (madeCells #[.int .i64 0] L) 3)) := ((Below.refl _ w).alloc (Nat.le_refl _) _).alloc (by simp) _
  have hm0 : MrkS ((w.alloc (.cells (madeCells #[.bool false] L) 4)).alloc (.cells (madeCells #[.int .i64 0] L) 3)) w.heap.size (List.replicate L false) := (MrkS.made w L).alloc _
  have hp0 : PartS ((w.alloc (.cells (madeCells #[.bool false] L) 4)).alloc (.cells (madeCells #[.int .i64 0] L) 3)) (w.heap.size + 1) L (List.replicate L 0) := by
    have h := BlkS.made (w.alloc (.cells (madeCells #[.bool false] L) 4)) L
    simp only [World.size_alloc] at h
    exact ⟨_, h, by simp, by simp, by simp⟩
  have HB0 := Lib.hid hb0
  have HM0 := Lib.hid hm0
  have HP0 := Lib.hid hp0
  clear hb0 hm0 hp0 hmk1 hmk2
  go_loopw [6, 7, 16] (fun _ _ i wr => ∃ (k : Nat) (M : List Bool) (zs : List Int), i = .int .i64 (k : Int) ∧ k ≤ L ∧ MrkS wr w.heap.size M ∧ SeenM p L k M ∧ PartS wr (w.heap.size + 1) L zs ∧ SeenP p L k zs ∧ Below w.heap.size w wr) (fun _ _ i _ => L - (intOf i).toNat)
  case atStart => exact ⟨0, _, _, rfl, Nat.zero_le _, HM0.out, SeenM.nil p L, HP0.out, SeenP.nil p L, HB0.out⟩
  case round =>
    obtain ⟨k, M, zs, rfl, hk, hM, hS, hP, hQ, hb⟩ := hrel
    have hsz := hb.size
    have HMK := Lib.hid hM
    have HS := Lib.hid hS
    have HP := Lib.hid hP
    have HQ := Lib.hid hQ
    clear hS hQ
    by_cases hlt : k < L
    · obtain ⟨b1, o1, rfl, c1⟩ := (HA.out.later hb).at (i := k) (by rw [HL.out]; exact hlt)
      have hxx := getD_some (xs := p) (k := k) (by rw [HL.out]; exact hlt)
      obtain ⟨x, hxe⟩ : ∃ x, p.getD k 0 = x := ⟨_, rfl⟩
      rw [hxe] at c1 hxx
      have HX := Lib.hid hxx
      have HXE := Lib.hid hxe
      have hbw := below_any x (L : Int) wr
      have hltI : (k : Int) < (L : Int) := by omega
      clear hxx hxe
      by_cases hg : 0 ≤ x ∧ x < L
      · obtain ⟨g0, g1⟩ := hg
        rw [belowB_yes g0 g1] at hbw
        obtain ⟨j, rfl⟩ : ∃ j : Nat, x = (j : Int) := ⟨x.toNat, by omega⟩
        have hj : j < L := by omega
        have hf := hM.free j
        have hcj := hM.cell j (by rw [HS.out.1]; exact hj)
        rw [HS.out.2 j hj] at hcj
        by_cases hmem : (j : Int) ∈ p.take k
        · rw [decide_eq_true hmem] at hcj
          have hno : ¬ IsPerm p := not_twice (k := k) (by rw [HL.out]; exact hlt) (by rw [HXE.out]; exact hmem)
          obtain rfl : c = 11 := by rw [← HC.out]; exact permC_no hno _
          obtain rfl : r = [] := by rw [← HR.out]; exact invV_no hno
          clear hM hP hmem hno
          go_wp2_with (go_at_call 110; refine hbw.mono ?_; rintro e w1 ⟨rfl, rfl⟩)
          go_ret2
          exact ⟨_, rfl, ResS.nil _ _, hb⟩
        · rw [decide_eq_false hmem] at hcj
          have hP1 := hP.far (p := ⟨w.heap.size, j, none⟩) (by show w.heap.size + 1 ≠ w.heap.size; omega) (.bool true)
          have hf2 := hP1.free j
          have hc2 := hP1.cell j (by rw [HQ.out.1]; exact hj)
          have HP1 := Lib.hid hP1
          have HME := Lib.hid hmem
          have hkp : k < p.length := by rw [HL.out]; exact hlt
          have HKP := Lib.hid hkp
          clear hM hP hP1 hmem hkp
          go_wp2_with (go_at_call 110; refine hbw.mono ?_; rintro e w1 ⟨rfl, rfl⟩)
          go_roundw
          case rel =>
            refine ⟨k + 1, _, _, by go_num, by omega, ((HMK.out.set j true).far ?_ _), HS.out.mark HX.out hj, HP1.out.set j (by rw [HQ.out.1]; exact hj) (k : Int), HQ.out.next HKP.out HX.out hj HME.out, ?_⟩
            · show w.heap.size ≠ w.heap.size + 1
              omega
            · exact (hb.setCell (Nat.le_refl _) _).setCell (by show w.heap.size ≤ w.heap.size + 1; omega) _
          case measure => simp [intOf]; omega
      · rw [belowB_no (by omega)] at hbw
        have hno : ¬ IsPerm p := fun ip => by
          have h := (ip.mem x).1 (by rw [← HXE.out, getD_elem (by rw [HL.out]; exact hlt)]; exact List.getElem_mem _)
          rw [HL.out] at h
          exact hg h
        obtain rfl : c = 11 := by rw [← HC.out]; exact permC_no hno _
        obtain rfl : r = [] := by rw [← HR.out]; exact invV_no hno
        clear hM hP hno hg
        go_wp2_with (go_at_call 110; refine hbw.mono ?_; rintro e w1 ⟨rfl, rfl⟩)
        go_ret2
        exact ⟨_, rfl, ResS.nil _ _, hb⟩
    · obtain rfl : k = L := by omega
      obtain ⟨ip, hzs⟩ := HQ.out.full HL.out
      obtain rfl : c = 0 := by rw [← HC.out]; exact permC_yes ip
      have hzr : zs = r := by rw [← HR.out, invV_yes ip]; exact hzs
      have hltI : ¬ (k : Int) < (k : Int) := by omega
      have hwid : Wid zs := by
        rw [hzs]
        intro x hx2
        have := (ip.inv.mem x).1 hx2
        rw [invL_length, HL.out] at this
        omega
      have HW := Lib.hid hwid
      clear hM hP ip hzs hwid
      go_wp2
      go_ret2
      have hn := HP.out.num (base := w.heap.size) (by omega) (by unfold maxLen; omega)
      rw [HQ.out.1] at hn
      exact ⟨_, rfl, by rw [← hzr]; exact ⟨hn, HW.out⟩, hb⟩
set_option maxRecDepth 100000 in
set_option maxHeartbeats 2000000 in
theorem perm9_any {u : Value} {p : List Int} {a : Option Addr} {ca : Nat} {w : World} (rank : Int) (A : ArgS w u p a ca) (ha : a = none → ca = 0) (hx : p.length ≤ 8000000) (h0 : -9223372036854775808 ≤ rank) (h1 : rank ≤ 9223372036854775807) :
    Calls Tryz.prog 41 #[u, .int .i64 rank] w fun e w' => e = .returned (.int .i64 (permC p rank)) ∧ Below w.heap.size w w' := by
  have hv := inverse9_any A ha hx
  obtain rfl := A.is
  obtain ⟨c, hc⟩ : ∃ c, permC p rank = c := ⟨_, rfl⟩
  obtain ⟨d, hd⟩ : ∃ d, permC p p.length = d := ⟨_, rfl⟩
  obtain ⟨z, hz⟩ : ∃ z, invV p = z := ⟨_, rfl⟩
  obtain ⟨m, hm⟩ : ∃ m, max rank 0 = m := ⟨_, rfl⟩
  have h2 : (p.length : Int) ≠ m → c = 11 := fun h => by
    rw [← hc]
    unfold permC
    rw [if_neg]
    intro e
    unfold permB at e
    rw [Bool.and_eq_true, decide_eq_true_iff, decide_eq_true_iff] at e
    exact h (e.2.trans hm)
  have h3 : (p.length : Int) = m → c = d := fun h => by
    rw [← hc, ← hd]
    unfold permC permB
    rw [show max rank 0 = max (p.length : Int) 0 by omega]
  rw [hd, hz] at hv
  rw [hc]
  obtain ⟨L, hL⟩ : ∃ L, p.length = L := ⟨_, rfl⟩
  rw [hL] at hv h2 h3 ⊢
  clear A ha hx hc hd hz hL
  by_cases h : (L : Int) = m
  · obtain rfl := h3 h
    have hne : ((L : Int) != m) = false := by simpa using h
    clear h h2 h3
    go_enter Tryz.func41, Tryz.ntmps41
    go_wp2_with (go_at_call 84; refine hv.mono ?_; rintro e w1 ⟨r, rfl, R, hb⟩)
    all_goals (go_ret; exact ⟨rfl, hb⟩)
  · obtain rfl := h2 h
    have hne : ((L : Int) != m) = true := by simpa using h
    clear h h2 h3
    go_enter Tryz.func41, Tryz.ntmps41
    go_wp2
    all_goals (go_ret; exact ⟨rfl, Below.refl _ _⟩)
end
section
open Go.RowKit
set_option linter.unusedVariables false
set_option linter.unusedSimpArgs false
theorem or0 {x : Int} {l : List Int} (h : orL (x :: l) = 0) : x = 0 ∧ orL l = 0 := by
  unfold orL at h
  split at h
  · rename_i h1; exact ⟨h1, h⟩
  · rename_i h1; exact absurd h h1
theorem or1 {x : Int} (h : orL [x] = 0) : x = 0 := (or0 h).1
theorem make_runSh (n : Nat) (hc : n ≤ 17592186044416) (w : World) :
    (Instr.makeSlice 23 (.int .i64 (n : Int)) (.int .i64 (n : Int))).run Tryz.prog w = .ok (.slice (some ⟨w.heap.size, 0, none⟩) n n) (w.alloc (.cells (madeCells #[.int .i64 0] n) 3)) := by
  obtain ⟨i0, hi, hz0, hz1, hz2⟩ := info_parts infoS
  have h := run_make (P := Tryz.prog) w 23 3 i0 (.int .i64 0) Tryz.underlying23 hi hz0 .i64 .i64 n n (by omega) (by omega) (by rw [hz2]; omega) (by omega)
  simpa [hz1, Value.cells] using h
theorem okS_wid {s : List Int} (ok : OkS s) : Wid s := fun x hx => by
  obtain ⟨i, hi, rfl⟩ := List.mem_iff_getElem.1 hx
  have e1 := ok.pos.getD hi
  have e2 := getD_le_prod ok.pos hi
  have e3 := ok.few
  rw [getD_elem hi] at e1 e2
  omega
def cntC (s : List Int) (qs : List Q3) : Int := if countS s ≠ (qs.length : Int) then 13 else 0
set_option maxRecDepth 100000 in
theorem mayCount_any {w : World} {v u : Value} {s t : List Int} {qs : List Q3} {a b ad : Option Addr} {ca cb cd : Nat} (T : TensQ w v s qs a ca b cb) (D : ArgS w u t ad cd) :
    Calls Tryz.prog 53 #[v, u] w fun e w' => e = .returned (.int .i64 (cntC t qs)) ∧ Below w.heap.size w w' := by
  obtain rfl := T.is
  obtain ⟨W, hW⟩ : ∃ W, w.alloc (.cells #[.slice a s.length ca, .slice b qs.length cb] 26) = W := ⟨_, rfl⟩
  have R0 : Row W w.heap.size 26 #[.slice a s.length ca, .slice b qs.length cb] := by rw [← hW]; exact Row.new _ _ _
  have hBW : Below w.heap.size w W := by rw [← hW]; exact (Below.refl _ _).alloc (Nat.le_refl _) _
  obtain ⟨c, hc⟩ : ∃ c, countS t = c := ⟨_, rfl⟩
  have hcn := fun (X : World) (h : Below W.heap.size W X) => countS_eq ((D.later hBW).later h)
  rw [hc] at hcn
  obtain ⟨L, hL⟩ : ∃ L, qs.length = L := ⟨_, rfl⟩
  have hd : cntC t qs = if c ≠ (L : Int) then 13 else 0 := by unfold cntC; rw [hc, hL]
  obtain ⟨d, hdd⟩ : ∃ d, cntC t qs = d := ⟨_, rfl⟩
  rw [hdd] at hd
  have HDD := Lib.hid hd
  rw [hdd]
  rw [hL] at R0 hW ⊢
  have mkS : ∀ X, Below W.heap.size W X → X.cell? ⟨w.heap.size, 1, none⟩ = some (.slice b L cb) := fun X h => ((R0.later h).two).2.1
  have B0 : Below W.heap.size W W.drew := (Below.refl _ W).drew
  clear T D hc hd hL hdd
  go_enter Tryz.func53, Tryz.ntmps53
  go_wp2_with fail
  (try rw [hW])
  clear hW
  refine wp_region_held (S := fun X => X.cell? ⟨w.heap.size, 1, none⟩ = some (.slice b L cb)) (by kernel_rfl) ?_
  have hHeld := mkS _ B0
  refine wpAnyH_take (i := 0) (v := ?vq0a0) rfl (by kernel_rfl) (by kernel_rfl) (by kernel_rfl) (fun _ _ _ h => h) (Or.inl ⟨by rfl, ?hq0a0⟩) (by assumption) ?rq0a0
  case hq0a0 =>
    intro w hSw
    try dsimp only at hSw
    go_simp
    try with_reducible rfl
  try simp only [Act.put, List.setIfInBounds_toArray, List.set_cons_zero, List.set_cons_succ]
  refine wpAnyH_take (i := 2) (v := ?vq0a2) rfl (by kernel_rfl) (by kernel_rfl) (by kernel_rfl) (fun _ _ _ h => h) (Or.inl ⟨by rfl, ?hq0a2⟩) (by assumption) ?rq0a2
  case hq0a2 =>
    intro w hSw
    try dsimp only at hSw
    go_simp
    try with_reducible rfl
  try simp only [Act.put, List.setIfInBounds_toArray, List.set_cons_zero, List.set_cons_succ]
  refine wpAnyH_take (i := 3) (v := ?vq0a3) rfl (by kernel_rfl) (by kernel_rfl) (by kernel_rfl) (fun _ _ _ h => h) (Or.inl ⟨by rfl, ?hq0a3⟩) (by assumption) ?rq0a3
  case hq0a3 =>
    intro w hSw
    try dsimp only at hSw
    go_simp
    try with_reducible rfl
  try simp only [Act.put, List.setIfInBounds_toArray, List.set_cons_zero, List.set_cons_succ]
  refine wpAnyH_take (i := 4) (v := ?vq0a4) rfl (by kernel_rfl) (by kernel_rfl) (by kernel_rfl) (fun _ _ _ h => h) (Or.inl ⟨by rfl, ?hq0a4⟩) (by assumption) ?rq0a4
  case hq0a4 =>
    intro w hSw
    try dsimp only at hSw
    go_simp
    try with_reducible rfl
  try simp only [Act.put, List.setIfInBounds_toArray, List.set_cons_zero, List.set_cons_succ]
  refine wpAnyH_ready (rs := [1]) (by kernel_rfl) (by simp) ?_
  refine AllReadyH.cons rfl (fun K hK => ?scn) AllReadyH.nil
  go_simp
  refine (hcn _ B0).mono ?_
  rintro e y1 ⟨rfl, rfl⟩
  go_simp
  refine hK.out _ _ ?kcn (fun hHeld => ?mcn)
  case kcn =>
    try dsimp only
    exact mkS _ B0
  clear hK K
  try simp only [Act.put, List.setIfInBounds_toArray, List.set_cons_zero, List.set_cons_succ]
  refine wpAnyH_take (i := 5) (v := ?vf) rfl (by kernel_rfl) (by kernel_rfl) (by kernel_rfl) (fun _ _ _ h => h) (Or.inl ⟨by rfl, ?hf⟩) (by assumption) ?rf
  case hf =>
    intro w hSw
    try dsimp only at hSw
    go_simp
    try with_reducible rfl
  try simp only [Act.put, List.getElem_toArray, List.getElem_cons_succ, List.getElem_cons_zero, List.setIfInBounds_toArray, List.set_cons_zero, List.set_cons_succ]
  refine wpAnyH_done (by kernel_rfl) ?_ _
  have hw : Below w.heap.size w W.drew := hBW.drew
  by_cases h : c = (L : Int)
  · have hn : (c != (L : Int)) = false := by simp [h]
    obtain rfl : d = 0 := by rw [HDD.out, if_neg (by simp [h])]
    clear h
    go_wp2
    go_ret
    exact ⟨rfl, hw⟩
  · have hn : (c != (L : Int)) = true := by simp [h]
    obtain rfl : d = 13 := by rw [HDD.out, if_pos h]
    clear h
    go_wp2
    go_ret
    exact ⟨rfl, hw⟩
set_option maxRecDepth 100000 in
set_option maxHeartbeats 8000000 in
theorem reshape_any {n : Nat} {w : World} {v : Value} {s t : List Int} {qs : List Q3} {a b ad : Option Addr} {ca cb cd : Nat} (T : TensQ w v s qs a ca b cb) (D : ArgS w (.slice ad t.length cd) t ad cd) (nd : ad = none → cd = 0) (hs : s.length ≤ 1048576) (ht : t.length ≤ 8000000) (hq : qs.length ≤ 1048576) (hl : lensQ qs n) (hn : n ≤ 3000000) :
    Calls Tryz.prog 20 #[v, .slice ad t.length cd] w fun e w' => One w.heap.size w' e (orL [mayT s qs, mayC t, cntC t qs]) (t) (qs.map Q3.rat) (n + 2) ∧ Below w.heap.size w w' := by
  have HT := Lib.hid T
  have HD := Lib.hid D
  have HND := Lib.hid nd
  have HL := Lib.hid hl
  obtain rfl := T.is
  obtain ⟨W, hW⟩ : ∃ W, ((w.alloc (.cells #[.slice a s.length ca, .slice b qs.length cb] 26)).alloc (.cells #[.slice none 0 0, .slice none 0 0] 26)) = W := ⟨_, rfl⟩
  have R0 : Row W (w.heap.size) 26 #[.slice a s.length ca, .slice b qs.length cb] := by rw [← hW]; have h := Row.new w 26 #[.slice a s.length ca, .slice b qs.length cb]; (try simp only [World.size_alloc] at h); exact (h.alloc _)
  have R1 : Row W (w.heap.size + 1) 26 #[.slice none 0 0, .slice none 0 0] := by rw [← hW]; have h := Row.new (w.alloc (.cells #[.slice a s.length ca, .slice b qs.length cb] 26)) 26 #[.slice none 0 0, .slice none 0 0]; (try simp only [World.size_alloc] at h); exact h
  have hBW : Below w.heap.size w W := by rw [← hW]; exact (((Below.refl _ _).alloc (by (try simp) <;> omega) _).alloc (by (try simp) <;> omega) _)
  have hsW : W.heap.size = w.heap.size + 1 + 1 := by rw [← hW]; simp
  have hm := fun (X : World) (hX : Below W.heap.size W X) => mayT7_any (HT.out.later (hBW.trans (hX.mono (by omega)))) (by omega) (by omega) HL.out (by omega)
  obtain ⟨m, hmm⟩ : ∃ m, mayT s qs = m := ⟨_, rfl⟩
  have hp := fun (X : World) (hX : Below W.heap.size W X) => mayS_any (HD.out.later (hBW.trans (hX.mono (by omega)))) (by omega)
  obtain ⟨p, hpe⟩ : ∃ c, mayC t = c := ⟨_, rfl⟩
  have Hp := Lib.hid hpe
  rw [hpe] at hp
  have hq := fun (X : World) (hX : Below W.heap.size W X) => mayCount_any (HT.out.later (hBW.trans (hX.mono (by omega)))) (HD.out.later (hBW.trans (hX.mono (by omega))))
  obtain ⟨q, hqe⟩ : ∃ c, cntC t qs = c := ⟨_, rfl⟩
  have Hq := Lib.hid hqe
  rw [hqe] at hq
  rw [hmm] at hm
  have mkS : ∀ X, Below W.heap.size W X → X.cell? ⟨w.heap.size, 0, none⟩ = some (.slice a s.length ca) ∧ X.cell? ⟨w.heap.size, 1, none⟩ = some (.slice b qs.length cb) := fun X h => by
    obtain ⟨x0, x1, _⟩ := (R0.later h).two
    exact ⟨x0, x1⟩
  have B0 : Below W.heap.size W W.drew := (Below.refl _ W).drew
  obtain ⟨LR, hLR⟩ : ∃ L, (qs.map Q3.rat) = L := ⟨_, rfl⟩
  have HMM := Lib.hid hmm
  have HLR := Lib.hid hLR
  rw [hmm, hpe, hqe, hLR]
  obtain ⟨c, hc⟩ : ∃ c, orL [m, p, q] = c := ⟨_, rfl⟩
  have HC := Lib.hid hc
  rw [hc]
  clear T D nd hmm hpe hqe hLR hc hl
  go_enter Tryz.func20, Tryz.ntmps20
  go_wp2_with fail
  (try rw [hW])
  clear hW
  refine wp_region_held (S := fun X => X.cell? ⟨w.heap.size, 0, none⟩ = some (.slice a s.length ca) ∧ X.cell? ⟨w.heap.size, 1, none⟩ = some (.slice b qs.length cb)) (by kernel_rfl) ?_
  have hHeld := mkS _ B0
  refine wpAnyH_take (i := 0) (v := ?vq0a0) rfl (by kernel_rfl) (by kernel_rfl) (by kernel_rfl) (fun _ _ _ h => h) (Or.inl ⟨by rfl, ?hq0a0⟩) (by assumption) ?rq0a0
  case hq0a0 =>
    intro w hSw
    try dsimp only at hSw
    go_simp
    try with_reducible rfl
  try simp only [Act.put, List.setIfInBounds_toArray, List.set_cons_zero, List.set_cons_succ]
  refine wpAnyH_take (i := 2) (v := ?vq0a2) rfl (by kernel_rfl) (by kernel_rfl) (by kernel_rfl) (fun _ _ _ h => h) (Or.inl ⟨by rfl, ?hq0a2⟩) (by assumption) ?rq0a2
  case hq0a2 =>
    intro w hSw
    try dsimp only at hSw
    go_simp
    try with_reducible rfl
  try simp only [Act.put, List.setIfInBounds_toArray, List.set_cons_zero, List.set_cons_succ]
  refine wpAnyH_take (i := 4) (v := ?vq0a4) rfl (by kernel_rfl) (by kernel_rfl) (by kernel_rfl) (fun _ _ _ h => h) (Or.inl ⟨by rfl, ?hq0a4⟩) (by assumption) ?rq0a4
  case hq0a4 =>
    intro w hSw
    try dsimp only at hSw
    go_simp
    try with_reducible rfl
  try simp only [Act.put, List.setIfInBounds_toArray, List.set_cons_zero, List.set_cons_succ]
  refine wpAnyH_take (i := 5) (v := ?vq0a5) rfl (by kernel_rfl) (by kernel_rfl) (by kernel_rfl) (fun _ _ _ h => h) (Or.inl ⟨by rfl, ?hq0a5⟩) (by assumption) ?rq0a5
  case hq0a5 =>
    intro w hSw
    try dsimp only at hSw
    go_simp
    try with_reducible rfl
  try simp only [Act.put, List.setIfInBounds_toArray, List.set_cons_zero, List.set_cons_succ]
  refine wpAnyH_ready (rs := [1]) (by kernel_rfl) (by simp) ?_
  refine AllReadyH.cons rfl (fun K hK => ?sq1c1) AllReadyH.nil
  go_simp
  refine (hm _ B0).mono ?_
  rintro e y1 ⟨rfl, hy⟩
  have B1 : Below W.heap.size W y1 := B0.trans (hy.mono B0.size)
  have D1 := hy
  clear hy
  go_simp
  refine hK.out _ _ ?kq1c1 (fun hHeld => ?mq1c1)
  case kq1c1 =>
    try dsimp only
    exact mkS _ B1
  clear hK K
  try simp only [Act.put, List.setIfInBounds_toArray, List.set_cons_zero, List.set_cons_succ]
  refine wpAnyH_ready (rs := [3]) (by kernel_rfl) (by simp) ?_
  refine AllReadyH.cons rfl (fun K hK => ?scp) AllReadyH.nil
  go_simp
  refine (hp _ B1).mono ?_
  rintro e y2 ⟨rfl, hy⟩
  have B2 : Below W.heap.size W y2 := B1.trans (hy.mono B1.size)
  clear hy
  go_simp
  refine hK.out _ _ ?kcp (fun hHeld => ?mcp)
  case kcp =>
    try dsimp only
    exact mkS _ B2
  clear hK K
  try simp only [Act.put, List.setIfInBounds_toArray, List.set_cons_zero, List.set_cons_succ]
  refine wpAnyH_ready (rs := [6]) (by kernel_rfl) (by simp) ?_
  refine AllReadyH.cons rfl (fun K hK => ?scq) AllReadyH.nil
  go_simp
  refine (hq _ B2).mono ?_
  rintro e y3 ⟨rfl, hy⟩
  have B3 : Below W.heap.size W y3 := B2.trans (hy.mono B2.size)
  clear hy
  go_simp
  refine hK.out _ _ ?kcq (fun hHeld => ?mcq)
  case kcq =>
    try dsimp only
    exact mkS _ B3
  clear hK K
  try simp only [Act.put, List.setIfInBounds_toArray, List.set_cons_zero, List.set_cons_succ]
  have z3 := B3.size
  have A3 : Below W.heap.size W (y3.alloc (.cells #[.int .i64 m, .int .i64 p, .int .i64 q] 27)) := B3.alloc (by omega) _
  refine wpAnyH_ready (rs := [7]) (by kernel_rfl) (by simp) ?_
  refine AllReadyH.cons rfl (fun K hK => ?sal3) AllReadyH.nil
  go_simp
  refine hK.out _ _ ?kal3 (fun hHeld => ?mal3)
  case kal3 =>
    try dsimp only
    exact mkS _ A3
  clear hK K
  try simp only [Act.put, List.setIfInBounds_toArray, List.set_cons_zero, List.set_cons_succ]
  refine wpAnyH_ready (rs := [8]) (by kernel_rfl) (by simp) ?_
  refine AllReadyH.cons rfl (fun K hK => ?sor3) AllReadyH.nil
  go_simp
  refine (or_any (xs := [m, p, q]) (b := y3.heap.size) (fun k hk => by
    have R := Row.new y3 27 #[.int .i64 m, .int .i64 p, .int .i64 q]
    simp only [List.length_cons, List.length_nil] at hk
    by_cases h0 : k = 0
    · subst h0; exact R.cell 0
    by_cases h1 : k = 1
    · subst h1; exact R.cell 1
    by_cases h2 : k = 2
    · subst h2; exact R.cell 2
    · omega) (by simp)).mono ?_
  rintro e y4 ⟨rfl, rfl⟩
  have B4 := A3
  go_simp
  refine hK.out _ _ ?kor3 (fun hHeld => ?mor3)
  case kor3 =>
    try dsimp only
    exact mkS _ A3
  clear hK K
  try simp only [Act.put, List.setIfInBounds_toArray, List.set_cons_zero, List.set_cons_succ]
  rw [HC.out]
  refine wpAnyH_ready (rs := [9]) (by kernel_rfl) (by simp) ?_
  refine AllReadyH.cons rfl (fun K hK => ?sas) AllReadyH.nil
  go_simp
  refine hK.out _ _ ?kas (fun hHeld => ?mas)
  case kas =>
    try dsimp only
    exact mkS _ A3
  clear hK K
  try simp only [Act.put, List.setIfInBounds_toArray, List.set_cons_zero, List.set_cons_succ]
  refine wpAnyH_done (by kernel_rfl) ?_ _
  (try dsimp only [Straight])
  obtain ⟨y, hy2⟩ : ∃ z, y3.alloc (.cells #[.int .i64 m, .int .i64 p, .int .i64 q] 27) = z := ⟨_, rfl⟩
  rw [hy2] at A3 ⊢
  have AY := A3
  have X0 := R0.later AY
  have P1 := R1.later AY
  skip
  obtain ⟨x0, x1, _⟩ := X0.two
  skip
  have s2 := AY.size
  have hB2 : Below w.heap.size w y := hBW.trans (AY.mono (by omega))
  have hmf : ∀ (fn : Fn) (first cap : Array Value) (w : World), (Instr.makeFunc fn first cap).run Tryz.prog w = .ok (.func fn first cap) w := fun _ _ _ _ => rfl
  clear hy2
  by_cases h0 : c = 0
  · subst h0
    obtain ⟨hm0, hc0⟩ := or0 HC.out
    have hp0 := (or0 hc0).1
    have hc0 := (or0 hc0).2
    rw [← Hp.out] at hp0
    have hq0 := or1 hc0
    rw [← Hq.out] at hq0
    rw [← HMM.out] at hm0
    have okS := mayC_zero.1 (mayT_rank hm0)
    have TY := HT.out.later hB2
    have DY := HD.out.later hB2
    clear mkS
    have okT := mayC_zero.1 hp0
    have hcnt : countS t = (qs.length : Int) := by
      unfold cntC at hq0
      split at hq0
      · cases hq0
      · rename_i h; exact Classical.not_not.1 h
    obtain ⟨W3, hW3⟩ : ∃ W3, y.alloc (.cells #[.slice ad t.length cd, .slice b qs.length cb] 26) = W3 := ⟨_, rfl⟩
    have RG : Row W3 y.heap.size 26 #[.slice ad t.length cd, .slice b qs.length cb] := by rw [← hW3]; exact Row.new _ _ _
    have b3 : Below y.heap.size y W3 := by rw [← hW3]; exact (Below.refl _ _).alloc (Nat.le_refl _) _
    have hB3 : Below w.heap.size w W3 := hB2.trans (b3.mono (by omega))
    have s3' := b3.size
    have TX : TensQ W3 (.agg #[.slice ad t.length cd, .slice b qs.length cb]) t qs ad cd b cb := ⟨rfl, DY.later b3, HND.out, (TY.later b3).el, TY.nilb⟩
    have hmt : mayT t qs = 0 := mayT_ok hp0 hcnt.symm (mayT_valid hm0).2
    have hbu := built_any (N := n + 2) (F := 54) (cap := #[.pointer (some ⟨y.heap.size, 0, none⟩)]) (f := fun xs => elV t (qs.map Q3.rat) xs) (DY.later b3) HND.out okT (enters_of Tryz.func54 (by kernel_rfl) rfl)
      (fun B X x xs hin hB hBX hX hx => by
        obtain ⟨ax, cx, AX, nx⟩ := hx.arg2
        exact (reshape1_any (TX.later hX) hmt HL.out (by omega) (RG.later hX) AX nx (by rw [inS_length hin]; have := okT.rank; omega)).mono fun e w' ⟨r, g1, g2, g3⟩ => ⟨r, g1, g2.mono hBX, g3.mono hBX⟩)
    rw [show fillV t (fun xs => elV t (qs.map Q3.rat) xs) = qs.map Q3.rat from fillV_self okT.pos (by rw [List.length_map]; have := okT.count; omega), HLR.out] at hbu
    have P1' := P1.later b3
    have HBU := Lib.hid hbu
    clear hbu hcnt hmt
    go_wp2_with fail
    (try rw [hW3])
    refine HBU.out.mono ?_
    rintro e w2 ⟨r, rfl, hT, hb2⟩
    obtain ⟨a', b', ca', cb', rfl, RS, RO⟩ := hT
    have P2 := P1'.later hb2
    have s3 := hb2.size
    obtain ⟨u0, u1, g0, g1⟩ := P2.two
    have HR := Lib.hid RS
    have HO := Lib.hid RO
    clear RS RO
    obtain ⟨l, hl⟩ : ∃ l, LR.length = l := ⟨_, rfl⟩
    obtain ⟨ls, hls⟩ : ∃ ls, (t).length = ls := ⟨_, rfl⟩
    have HL2 := Lib.hid hl
    have HL3 := Lib.hid hls
    rw [hl, hls]
    clear hl hls
    go_wp2_with fail
    have P3 := P2.set2 (.slice a' ls ca') (.slice b' l cb')
    obtain ⟨z0, z1, _, _⟩ := P3.two
    refine bodyPost_ret (v := .tuple #[.agg #[.slice a' ls ca', .slice b' l cb'], .int .i64 0]) (by simp [results, Tryz.results20, go_sem, z0, z1]) rfl ⟨.inl ⟨rfl, _, rfl, ?_⟩, below_set2 (hB3.trans (hb2.mono (by omega))) (by omega) _ _⟩
    have hR : ResT w.heap.size w2 (.agg #[.slice a' ls ca', .slice b' l cb']) (t) LR (n + 2) := ResT.mono ⟨a', b', ca', cb', by rw [HL2.out, HL3.out], HR.out, HO.out⟩ (by omega)
    exact hR.far P2 (by decide) (by decide) (by decide) (kept2 _ _)
  · have hne : (c != 0) = true := by simp [h0]
    have H0 := Lib.hid h0
    obtain ⟨u0, u1, g0, g1⟩ := P1.two
    clear h0 mkS
    go_wp2_with fail
    have P3 := P1.set2 (.slice none 0 0) (.slice none 0 0)
    obtain ⟨z0, z1, _, _⟩ := P3.two
    refine bodyPost_ret (v := .tuple #[noTensor, .int .i64 c]) (by simp [results, Tryz.results20, go_sem, z0, z1, noTensor]) rfl ⟨.inr ⟨H0.out, rfl⟩, below_set2 hB2 (by omega) _ _⟩
end
section
open Go.RowKit
set_option linter.unusedVariables false
set_option linter.unusedSimpArgs false
set_option maxRecDepth 100000 in
set_option maxHeartbeats 8000000 in
theorem pad_any {n : Nat} {w : World} {v : Value} {s t : List Int} {qs : List Q3} {a b ad : Option Addr} {ca cb cd : Nat} (T : TensQ w v s qs a ca b cb) (D : ArgS w (.slice ad t.length cd) t ad cd) (nd : ad = none → cd = 0) (hs : s.length ≤ 1048576) (ht : t.length ≤ 8000000) (hq : qs.length ≤ 1048576) (hl : lensQ qs n) (hn : n ≤ 3000000) :
    Calls Tryz.prog 26 #[v, .slice ad t.length cd] w fun e w' => One w.heap.size w' e (orL [mayT s qs, pdCW s t]) (pdW s t) (fillV (pdW s t) (fun xs => elV s (qs.map Q3.rat) ((List.range s.length).map fun i : Nat => IntKind.i64.wrap (xs.getD i 0 - fstP t i)))) (n + 2) ∧ Below w.heap.size w w' := by
  have HT := Lib.hid T
  have HD := Lib.hid D
  have HND := Lib.hid nd
  have HL := Lib.hid hl
  obtain rfl := T.is
  obtain ⟨W, hW⟩ : ∃ W, (((w.alloc (.cells #[.slice a s.length ca, .slice b qs.length cb] 26)).alloc (.cells #[.slice ad t.length cd] 22)).alloc (.cells #[.slice none 0 0, .slice none 0 0] 26)) = W := ⟨_, rfl⟩
  have R0 : Row W (w.heap.size) 26 #[.slice a s.length ca, .slice b qs.length cb] := by rw [← hW]; have h := Row.new w 26 #[.slice a s.length ca, .slice b qs.length cb]; (try simp only [World.size_alloc] at h); exact ((h.alloc _).alloc _)
  have R1 : Row W (w.heap.size + 1) 22 #[.slice ad t.length cd] := by rw [← hW]; have h := Row.new (w.alloc (.cells #[.slice a s.length ca, .slice b qs.length cb] 26)) 22 #[.slice ad t.length cd]; (try simp only [World.size_alloc] at h); exact (h.alloc _)
  have R2 : Row W (w.heap.size + 1 + 1) 26 #[.slice none 0 0, .slice none 0 0] := by rw [← hW]; have h := Row.new ((w.alloc (.cells #[.slice a s.length ca, .slice b qs.length cb] 26)).alloc (.cells #[.slice ad t.length cd] 22)) 26 #[.slice none 0 0, .slice none 0 0]; (try simp only [World.size_alloc] at h); exact h
  have hBW : Below w.heap.size w W := by rw [← hW]; exact ((((Below.refl _ _).alloc (by (try simp) <;> omega) _).alloc (by (try simp) <;> omega) _).alloc (by (try simp) <;> omega) _)
  have hsW : W.heap.size = w.heap.size + 1 + 1 + 1 := by rw [← hW]; simp
  have hm := fun (X : World) (hX : Below W.heap.size W X) => mayT7_any (HT.out.later (hBW.trans (hX.mono (by omega)))) (by omega) (by omega) HL.out (by omega)
  obtain ⟨m, hmm⟩ : ∃ m, mayT s qs = m := ⟨_, rfl⟩
  have hp := fun (X : World) (hX : Below W.heap.size W X) => mayPads_any (HT.out.later (hBW.trans (hX.mono (by omega)))).sh HT.out.nila (HD.out.later (hBW.trans (hX.mono (by omega)))) (by omega) (by omega)
  obtain ⟨p, hpe⟩ : ∃ c, pdCW s t = c := ⟨_, rfl⟩
  have Hp := Lib.hid hpe
  rw [hpe] at hp
  rw [hmm] at hm
  have mkS : ∀ X, Below W.heap.size W X → X.cell? ⟨w.heap.size, 0, none⟩ = some (.slice a s.length ca) ∧ X.cell? ⟨w.heap.size, 1, none⟩ = some (.slice b qs.length cb) ∧ X.cell? ⟨w.heap.size + 1, 0, none⟩ = some (.slice ad t.length cd) := fun X h => by
    obtain ⟨x0, x1, _⟩ := (R0.later h).two
    exact ⟨x0, x1, (R1.later h).cell 0⟩
  have B0 : Below W.heap.size W W.drew := (Below.refl _ W).drew
  obtain ⟨LR, hLR⟩ : ∃ L, (fillV (pdW s t) (fun xs => elV s (qs.map Q3.rat) ((List.range s.length).map fun i : Nat => IntKind.i64.wrap (xs.getD i 0 - fstP t i)))) = L := ⟨_, rfl⟩
  have HMM := Lib.hid hmm
  have HLR := Lib.hid hLR
  rw [hmm, hpe, hLR]
  obtain ⟨c, hc⟩ : ∃ c, orL [m, p] = c := ⟨_, rfl⟩
  have HC := Lib.hid hc
  rw [hc]
  clear T D nd hmm hpe hLR hc hl
  go_enter Tryz.func26, Tryz.ntmps26
  go_wp2_with fail
  (try rw [hW])
  clear hW
  refine wp_region_held (S := fun X => X.cell? ⟨w.heap.size, 0, none⟩ = some (.slice a s.length ca) ∧ X.cell? ⟨w.heap.size, 1, none⟩ = some (.slice b qs.length cb) ∧ X.cell? ⟨w.heap.size + 1, 0, none⟩ = some (.slice ad t.length cd)) (by kernel_rfl) ?_
  have hHeld := mkS _ B0
  refine wpAnyH_take (i := 0) (v := ?vq0a0) rfl (by kernel_rfl) (by kernel_rfl) (by kernel_rfl) (fun _ _ _ h => h) (Or.inl ⟨by rfl, ?hq0a0⟩) (by assumption) ?rq0a0
  case hq0a0 =>
    intro w hSw
    try dsimp only at hSw
    go_simp
    try with_reducible rfl
  try simp only [Act.put, List.setIfInBounds_toArray, List.set_cons_zero, List.set_cons_succ]
  refine wpAnyH_take (i := 2) (v := ?vq0a2) rfl (by kernel_rfl) (by kernel_rfl) (by kernel_rfl) (fun _ _ _ h => h) (Or.inl ⟨by rfl, ?hq0a2⟩) (by assumption) ?rq0a2
  case hq0a2 =>
    intro w hSw
    try dsimp only at hSw
    go_simp
    try with_reducible rfl
  try simp only [Act.put, List.setIfInBounds_toArray, List.set_cons_zero, List.set_cons_succ]
  refine wpAnyH_take (i := 3) (v := ?vq0a3) rfl (by kernel_rfl) (by kernel_rfl) (by kernel_rfl) (fun _ _ _ h => h) (Or.inl ⟨by rfl, ?hq0a3⟩) (by assumption) ?rq0a3
  case hq0a3 =>
    intro w hSw
    try dsimp only at hSw
    go_simp
    try with_reducible rfl
  try simp only [Act.put, List.setIfInBounds_toArray, List.set_cons_zero, List.set_cons_succ]
  refine wpAnyH_take (i := 4) (v := ?vq0a4) rfl (by kernel_rfl) (by kernel_rfl) (by kernel_rfl) (fun _ _ _ h => h) (Or.inl ⟨by rfl, ?hq0a4⟩) (by assumption) ?rq0a4
  case hq0a4 =>
    intro w hSw
    try dsimp only at hSw
    go_simp
    try with_reducible rfl
  try simp only [Act.put, List.setIfInBounds_toArray, List.set_cons_zero, List.set_cons_succ]
  refine wpAnyH_ready (rs := [1]) (by kernel_rfl) (by simp) ?_
  refine AllReadyH.cons rfl (fun K hK => ?sq1c1) AllReadyH.nil
  go_simp
  refine (hm _ B0).mono ?_
  rintro e y1 ⟨rfl, hy⟩
  have B1 : Below W.heap.size W y1 := B0.trans (hy.mono B0.size)
  have D1 := hy
  clear hy
  go_simp
  refine hK.out _ _ ?kq1c1 (fun hHeld => ?mq1c1)
  case kq1c1 =>
    try dsimp only
    exact mkS _ B1
  clear hK K
  try simp only [Act.put, List.setIfInBounds_toArray, List.set_cons_zero, List.set_cons_succ]
  refine wpAnyH_ready (rs := [5]) (by kernel_rfl) (by simp) ?_
  refine AllReadyH.cons rfl (fun K hK => ?scp) AllReadyH.nil
  go_simp
  refine (hp _ B1).mono ?_
  rintro e y2 ⟨rfl, hy⟩
  have B2 : Below W.heap.size W y2 := B1.trans (hy.mono B1.size)
  clear hy
  go_simp
  refine hK.out _ _ ?kcp (fun hHeld => ?mcp)
  case kcp =>
    try dsimp only
    exact mkS _ B2
  clear hK K
  try simp only [Act.put, List.setIfInBounds_toArray, List.set_cons_zero, List.set_cons_succ]
  have z2 := B2.size
  have A2 : Below W.heap.size W (y2.alloc (.cells #[.int .i64 m, .int .i64 p] 27)) := B2.alloc (by omega) _
  refine wpAnyH_ready (rs := [6]) (by kernel_rfl) (by simp) ?_
  refine AllReadyH.cons rfl (fun K hK => ?sal2) AllReadyH.nil
  go_simp
  refine hK.out _ _ ?kal2 (fun hHeld => ?mal2)
  case kal2 =>
    try dsimp only
    exact mkS _ A2
  clear hK K
  try simp only [Act.put, List.setIfInBounds_toArray, List.set_cons_zero, List.set_cons_succ]
  refine wpAnyH_ready (rs := [7]) (by kernel_rfl) (by simp) ?_
  refine AllReadyH.cons rfl (fun K hK => ?sor2) AllReadyH.nil
  go_simp
  refine (or_any (xs := [m, p]) (b := y2.heap.size) (fun k hk => by
    have R := Row.new y2 27 #[.int .i64 m, .int .i64 p]
    simp only [List.length_cons, List.length_nil] at hk
    by_cases h0 : k = 0
    · subst h0; exact R.cell 0
    by_cases h1 : k = 1
    · subst h1; exact R.cell 1
    · omega) (by simp)).mono ?_
  rintro e y3 ⟨rfl, rfl⟩
  have B3 := A2
  go_simp
  refine hK.out _ _ ?kor2 (fun hHeld => ?mor2)
  case kor2 =>
    try dsimp only
    exact mkS _ A2
  clear hK K
  try simp only [Act.put, List.setIfInBounds_toArray, List.set_cons_zero, List.set_cons_succ]
  rw [HC.out]
  refine wpAnyH_ready (rs := [8]) (by kernel_rfl) (by simp) ?_
  refine AllReadyH.cons rfl (fun K hK => ?sas) AllReadyH.nil
  go_simp
  refine hK.out _ _ ?kas (fun hHeld => ?mas)
  case kas =>
    try dsimp only
    exact mkS _ A2
  clear hK K
  try simp only [Act.put, List.setIfInBounds_toArray, List.set_cons_zero, List.set_cons_succ]
  refine wpAnyH_done (by kernel_rfl) ?_ _
  (try dsimp only [Straight])
  obtain ⟨y, hy2⟩ : ∃ z, y2.alloc (.cells #[.int .i64 m, .int .i64 p] 27) = z := ⟨_, rfl⟩
  rw [hy2] at A2 ⊢
  have AY := A2
  have X0 := R0.later AY
  have P1 := R2.later AY
  have X1 := R1.later AY
  obtain ⟨x0, x1, _⟩ := X0.two
  have x2 := X1.cell 0
  have s2 := AY.size
  have hB2 : Below w.heap.size w y := hBW.trans (AY.mono (by omega))
  have hmf : ∀ (fn : Fn) (first cap : Array Value) (w : World), (Instr.makeFunc fn first cap).run Tryz.prog w = .ok (.func fn first cap) w := fun _ _ _ _ => rfl
  clear hy2
  by_cases h0 : c = 0
  · subst h0
    obtain ⟨hm0, hc0⟩ := or0 HC.out
    have hp0 := or1 hc0
    rw [← Hp.out] at hp0
    rw [← HMM.out] at hm0
    have okS := mayC_zero.1 (mayT_rank hm0)
    have TY := HT.out.later hB2
    have DY := HD.out.later hB2
    clear mkS
    have hrk := okS.rank
    obtain ⟨htl, okP⟩ : t.length = 2 * s.length ∧ OkS (pdW s t) := by
      unfold pdCW at hp0
      split at hp0
      · cases hp0
      · split at hp0
        · cases hp0
        · rename_i h1 _
          exact ⟨by omega, mayC_zero.1 hp0⟩
    have hpl : (pdW s t).length = s.length := by simp [pdW]
    have hpa := padded_any TY.sh TY.nila DY htl (by omega)
    have HTL := Lib.hid htl
    have HPL := Lib.hid hpl
    clear hp0 htl hpl
    go_wp2_with fail
    refine hpa.mono ?_
    rintro e W3 ⟨r3, rfl, RS3, b3⟩
    obtain ⟨a3, c3, A3, n3⟩ := RS3.arg2
    obtain rfl := A3.is
    have hB3 : Below w.heap.size w W3 := hB2.trans (b3.mono (by omega))
    have s3' := b3.size
    have hbu := built_any (N := n + 2) (F := 65) (cap := #[.pointer (some ⟨w.heap.size + 1, 0, none⟩), .pointer (some ⟨w.heap.size, 0, none⟩)]) (f := fun xs => elV s (qs.map Q3.rat) ((List.range s.length).map fun i : Nat => IntKind.i64.wrap (xs.getD i 0 - fstP t i))) A3 n3 okP (enters_of Tryz.func65 (by kernel_rfl) rfl)
      (fun B X x xs hin hB hBX hX hx => by
        obtain ⟨ax, cx, rfl, IX, hcx, nx, hwx⟩ := hx.idx
        have hlx := inS_length hin
        exact pad1_any (TY.later b3) hm0 HL.out (by omega) hB hBX hX IX hcx nx (X0.later b3) (DY.later b3) ((X1.later b3).cell 0) HTL.out (by have := HPL.out; omega) (by omega))
    rw [HLR.out] at hbu
    have P1' := P1.later b3
    have HBU := Lib.hid hbu
    clear hbu hpa
    go_wp2_with fail
    refine HBU.out.mono ?_
    rintro e w2 ⟨r, rfl, hT, hb2⟩
    obtain ⟨a', b', ca', cb', rfl, RS, RO⟩ := hT
    have P2 := P1'.later hb2
    have s3 := hb2.size
    obtain ⟨u0, u1, g0, g1⟩ := P2.two
    have HR := Lib.hid RS
    have HO := Lib.hid RO
    clear RS RO
    obtain ⟨l, hl⟩ : ∃ l, LR.length = l := ⟨_, rfl⟩
    obtain ⟨ls, hls⟩ : ∃ ls, (pdW s t).length = ls := ⟨_, rfl⟩
    have HL2 := Lib.hid hl
    have HL3 := Lib.hid hls
    rw [hl, hls]
    clear hl hls
    go_wp2_with fail
    have P3 := P2.set2 (.slice a' ls ca') (.slice b' l cb')
    obtain ⟨z0, z1, _, _⟩ := P3.two
    refine bodyPost_ret (v := .tuple #[.agg #[.slice a' ls ca', .slice b' l cb'], .int .i64 0]) (by simp [results, Tryz.results26, go_sem, z0, z1]) rfl ⟨.inl ⟨rfl, _, rfl, ?_⟩, below_set2 (hB3.trans (hb2.mono (by omega))) (by omega) _ _⟩
    have hR : ResT w.heap.size w2 (.agg #[.slice a' ls ca', .slice b' l cb']) (pdW s t) LR (n + 2) := ResT.mono ⟨a', b', ca', cb', by rw [HL2.out, HL3.out], HR.out, HO.out⟩ (by omega)
    exact hR.far P2 (by decide) (by decide) (by decide) (kept2 _ _)
  · have hne : (c != 0) = true := by simp [h0]
    have H0 := Lib.hid h0
    obtain ⟨u0, u1, g0, g1⟩ := P1.two
    clear h0 mkS
    go_wp2_with fail
    have P3 := P1.set2 (.slice none 0 0) (.slice none 0 0)
    obtain ⟨z0, z1, _, _⟩ := P3.two
    refine bodyPost_ret (v := .tuple #[noTensor, .int .i64 c]) (by simp [results, Tryz.results26, go_sem, z0, z1, noTensor]) rfl ⟨.inr ⟨H0.out, rfl⟩, below_set2 hB2 (by omega) _ _⟩
end
section
open Go.RowKit
set_option linter.unusedVariables false
set_option linter.unusedSimpArgs false
set_option maxRecDepth 100000 in
set_option maxHeartbeats 8000000 in
theorem transpose_any {n : Nat} {w : World} {v : Value} {s t : List Int} {qs : List Q3} {a b ad : Option Addr} {ca cb cd : Nat} (T : TensQ w v s qs a ca b cb) (D : ArgS w (.slice ad t.length cd) t ad cd) (nd : ad = none → cd = 0) (hs : s.length ≤ 1048576) (ht : t.length ≤ 8000000) (hq : qs.length ≤ 1048576) (hl : lensQ qs n) (hn : n ≤ 3000000) :
    Calls Tryz.prog 13 #[v, .slice ad t.length cd] w fun e w' => One w.heap.size w' e (orL [mayT s qs, permC t s.length]) (trS s t) (fillV (trS s t) (fun xs => elV s (qs.map Q3.rat) (trI t xs))) (n + 2) ∧ Below w.heap.size w w' := by
  have HT := Lib.hid T
  have HD := Lib.hid D
  have HND := Lib.hid nd
  have HL := Lib.hid hl
  obtain rfl := T.is
  obtain ⟨W, hW⟩ : ∃ W, (((w.alloc (.cells #[.slice a s.length ca, .slice b qs.length cb] 26)).alloc (.cells #[.slice ad t.length cd] 22)).alloc (.cells #[.slice none 0 0, .slice none 0 0] 26)) = W := ⟨_, rfl⟩
  have R0 : Row W (w.heap.size) 26 #[.slice a s.length ca, .slice b qs.length cb] := by rw [← hW]; have h := Row.new w 26 #[.slice a s.length ca, .slice b qs.length cb]; (try simp only [World.size_alloc] at h); exact ((h.alloc _).alloc _)
  have R1 : Row W (w.heap.size + 1) 22 #[.slice ad t.length cd] := by rw [← hW]; have h := Row.new (w.alloc (.cells #[.slice a s.length ca, .slice b qs.length cb] 26)) 22 #[.slice ad t.length cd]; (try simp only [World.size_alloc] at h); exact (h.alloc _)
  have R2 : Row W (w.heap.size + 1 + 1) 26 #[.slice none 0 0, .slice none 0 0] := by rw [← hW]; have h := Row.new ((w.alloc (.cells #[.slice a s.length ca, .slice b qs.length cb] 26)).alloc (.cells #[.slice ad t.length cd] 22)) 26 #[.slice none 0 0, .slice none 0 0]; (try simp only [World.size_alloc] at h); exact h
  have hBW : Below w.heap.size w W := by rw [← hW]; exact ((((Below.refl _ _).alloc (by (try simp) <;> omega) _).alloc (by (try simp) <;> omega) _).alloc (by (try simp) <;> omega) _)
  have hsW : W.heap.size = w.heap.size + 1 + 1 + 1 := by rw [← hW]; simp
  have hm := fun (X : World) (hX : Below W.heap.size W X) => mayT7_any (HT.out.later (hBW.trans (hX.mono (by omega)))) (by omega) (by omega) HL.out (by omega)
  obtain ⟨m, hmm⟩ : ∃ m, mayT s qs = m := ⟨_, rfl⟩
  have hp := fun (X : World) (hX : Below W.heap.size W X) => perm9_any (s.length : Int) (HD.out.later (hBW.trans (hX.mono (by omega)))) HND.out (by omega) (by omega) (by omega)
  obtain ⟨p, hpe⟩ : ∃ c, permC t s.length = c := ⟨_, rfl⟩
  have Hp := Lib.hid hpe
  rw [hpe] at hp
  rw [hmm] at hm
  have mkS : ∀ X, Below W.heap.size W X → X.cell? ⟨w.heap.size, 0, none⟩ = some (.slice a s.length ca) ∧ X.cell? ⟨w.heap.size, 1, none⟩ = some (.slice b qs.length cb) ∧ X.cell? ⟨w.heap.size + 1, 0, none⟩ = some (.slice ad t.length cd) := fun X h => by
    obtain ⟨x0, x1, _⟩ := (R0.later h).two
    exact ⟨x0, x1, (R1.later h).cell 0⟩
  have B0 : Below W.heap.size W W.drew := (Below.refl _ W).drew
  obtain ⟨LR, hLR⟩ : ∃ L, (fillV (trS s t) (fun xs => elV s (qs.map Q3.rat) (trI t xs))) = L := ⟨_, rfl⟩
  have HMM := Lib.hid hmm
  have HLR := Lib.hid hLR
  rw [hmm, hpe, hLR]
  obtain ⟨c, hc⟩ : ∃ c, orL [m, p] = c := ⟨_, rfl⟩
  have HC := Lib.hid hc
  rw [hc]
  clear T D nd hmm hpe hLR hc hl
  go_enter Tryz.func13, Tryz.ntmps13
  go_wp2_with fail
  (try rw [hW])
  clear hW
  refine wp_region_held (S := fun X => X.cell? ⟨w.heap.size, 0, none⟩ = some (.slice a s.length ca) ∧ X.cell? ⟨w.heap.size, 1, none⟩ = some (.slice b qs.length cb) ∧ X.cell? ⟨w.heap.size + 1, 0, none⟩ = some (.slice ad t.length cd)) (by kernel_rfl) ?_
  have hHeld := mkS _ B0
  refine wpAnyH_take (i := 0) (v := ?vq0a0) rfl (by kernel_rfl) (by kernel_rfl) (by kernel_rfl) (fun _ _ _ h => h) (Or.inl ⟨by rfl, ?hq0a0⟩) (by assumption) ?rq0a0
  case hq0a0 =>
    intro w hSw
    try dsimp only at hSw
    go_simp
    try with_reducible rfl
  try simp only [Act.put, List.setIfInBounds_toArray, List.set_cons_zero, List.set_cons_succ]
  refine wpAnyH_take (i := 2) (v := ?vq0a2) rfl (by kernel_rfl) (by kernel_rfl) (by kernel_rfl) (fun _ _ _ h => h) (Or.inl ⟨by rfl, ?hq0a2⟩) (by assumption) ?rq0a2
  case hq0a2 =>
    intro w hSw
    try dsimp only at hSw
    go_simp
    try with_reducible rfl
  try simp only [Act.put, List.setIfInBounds_toArray, List.set_cons_zero, List.set_cons_succ]
  refine wpAnyH_take (i := 3) (v := ?vq0a3) rfl (by kernel_rfl) (by kernel_rfl) (by kernel_rfl) (fun _ _ _ h => h) (Or.inl ⟨by rfl, ?hq0a3⟩) (by assumption) ?rq0a3
  case hq0a3 =>
    intro w hSw
    try dsimp only at hSw
    go_simp
    try with_reducible rfl
  try simp only [Act.put, List.setIfInBounds_toArray, List.set_cons_zero, List.set_cons_succ]
  refine wpAnyH_take (i := 4) (v := ?vq0a4) rfl (by kernel_rfl) (by kernel_rfl) (by kernel_rfl) (fun _ _ _ h => h) (Or.inl ⟨by rfl, ?hq0a4⟩) (by assumption) ?rq0a4
  case hq0a4 =>
    intro w hSw
    try dsimp only at hSw
    go_simp
    try with_reducible rfl
  try simp only [Act.put, List.setIfInBounds_toArray, List.set_cons_zero, List.set_cons_succ]
  refine wpAnyH_take (i := 5) (v := ?vq0a5) rfl (by kernel_rfl) (by kernel_rfl) (by kernel_rfl) (fun _ _ _ h => h) (Or.inl ⟨by rfl, ?hq0a5⟩) (by assumption) ?rq0a5
  case hq0a5 =>
    intro w hSw
    try dsimp only at hSw
    go_simp
    try with_reducible rfl
  try simp only [Act.put, List.setIfInBounds_toArray, List.set_cons_zero, List.set_cons_succ]
  refine wpAnyH_ready (rs := [1]) (by kernel_rfl) (by simp) ?_
  refine AllReadyH.cons rfl (fun K hK => ?sq1c1) AllReadyH.nil
  go_simp
  refine (hm _ B0).mono ?_
  rintro e y1 ⟨rfl, hy⟩
  have B1 : Below W.heap.size W y1 := B0.trans (hy.mono B0.size)
  have D1 := hy
  clear hy
  go_simp
  refine hK.out _ _ ?kq1c1 (fun hHeld => ?mq1c1)
  case kq1c1 =>
    try dsimp only
    exact mkS _ B1
  clear hK K
  try simp only [Act.put, List.setIfInBounds_toArray, List.set_cons_zero, List.set_cons_succ]
  refine wpAnyH_ready (rs := [6]) (by kernel_rfl) (by simp) ?_
  refine AllReadyH.cons rfl (fun K hK => ?scp) AllReadyH.nil
  go_simp
  refine (hp _ B1).mono ?_
  rintro e y2 ⟨rfl, hy⟩
  have B2 : Below W.heap.size W y2 := B1.trans (hy.mono B1.size)
  clear hy
  go_simp
  refine hK.out _ _ ?kcp (fun hHeld => ?mcp)
  case kcp =>
    try dsimp only
    exact mkS _ B2
  clear hK K
  try simp only [Act.put, List.setIfInBounds_toArray, List.set_cons_zero, List.set_cons_succ]
  have z2 := B2.size
  have A2 : Below W.heap.size W (y2.alloc (.cells #[.int .i64 m, .int .i64 p] 27)) := B2.alloc (by omega) _
  refine wpAnyH_ready (rs := [7]) (by kernel_rfl) (by simp) ?_
  refine AllReadyH.cons rfl (fun K hK => ?sal2) AllReadyH.nil
  go_simp
  refine hK.out _ _ ?kal2 (fun hHeld => ?mal2)
  case kal2 =>
    try dsimp only
    exact mkS _ A2
  clear hK K
  try simp only [Act.put, List.setIfInBounds_toArray, List.set_cons_zero, List.set_cons_succ]
  refine wpAnyH_ready (rs := [8]) (by kernel_rfl) (by simp) ?_
  refine AllReadyH.cons rfl (fun K hK => ?sor2) AllReadyH.nil
  go_simp
  refine (or_any (xs := [m, p]) (b := y2.heap.size) (fun k hk => by
    have R := Row.new y2 27 #[.int .i64 m, .int .i64 p]
    simp only [List.length_cons, List.length_nil] at hk
    by_cases h0 : k = 0
    · subst h0; exact R.cell 0
    by_cases h1 : k = 1
    · subst h1; exact R.cell 1
    · omega) (by simp)).mono ?_
  rintro e y3 ⟨rfl, rfl⟩
  have B3 := A2
  go_simp
  refine hK.out _ _ ?kor2 (fun hHeld => ?mor2)
  case kor2 =>
    try dsimp only
    exact mkS _ A2
  clear hK K
  try simp only [Act.put, List.setIfInBounds_toArray, List.set_cons_zero, List.set_cons_succ]
  rw [HC.out]
  refine wpAnyH_ready (rs := [9]) (by kernel_rfl) (by simp) ?_
  refine AllReadyH.cons rfl (fun K hK => ?sas) AllReadyH.nil
  go_simp
  refine hK.out _ _ ?kas (fun hHeld => ?mas)
  case kas =>
    try dsimp only
    exact mkS _ A2
  clear hK K
  try simp only [Act.put, List.setIfInBounds_toArray, List.set_cons_zero, List.set_cons_succ]
  refine wpAnyH_done (by kernel_rfl) ?_ _
  (try dsimp only [Straight])
  obtain ⟨y, hy2⟩ : ∃ z, y2.alloc (.cells #[.int .i64 m, .int .i64 p] 27) = z := ⟨_, rfl⟩
  rw [hy2] at A2 ⊢
  have AY := A2
  have X0 := R0.later AY
  have P1 := R2.later AY
  have X1 := R1.later AY
  obtain ⟨x0, x1, _⟩ := X0.two
  have x2 := X1.cell 0
  have s2 := AY.size
  have hB2 : Below w.heap.size w y := hBW.trans (AY.mono (by omega))
  have hmf : ∀ (fn : Fn) (first cap : Array Value) (w : World), (Instr.makeFunc fn first cap).run Tryz.prog w = .ok (.func fn first cap) w := fun _ _ _ _ => rfl
  clear hy2
  by_cases h0 : c = 0
  · subst h0
    obtain ⟨hm0, hc0⟩ := or0 HC.out
    have hp0 := or1 hc0
    rw [← Hp.out] at hp0
    rw [← HMM.out] at hm0
    have okS := mayC_zero.1 (mayT_rank hm0)
    have TY := HT.out.later hB2
    have DY := HD.out.later hB2
    clear mkS
    have hrk := okS.rank
    obtain ⟨hpm, htl⟩ : IsPerm t ∧ t.length = s.length := by
      unfold permC at hp0
      split at hp0
      · rename_i h
        have h2 := permB_is h
        exact ⟨h2.1, by omega⟩
      · cases hp0
    obtain ⟨okP, hpr⟩ := trS_ok hpm htl okS
    have hpl : (trS s t).length = t.length := trS_len s t
    clear hp0
    obtain ⟨M, hM⟩ : ∃ M, t.length = M := ⟨_, rfl⟩
    have HM := Lib.hid hM
    have hM4 : M ≤ 4 := by omega
    have hmk := make_runSh M (by omega)
    obtain ⟨V, hV⟩ : ∃ V, y.alloc (.cells (madeCells #[.int .i64 0] M) 3) = V := ⟨_, rfl⟩
    have rP : PartS V y.heap.size M (List.replicate M 0) := by rw [← hV]; exact ⟨_, BlkS.made y M, by simp, by simp, by simp⟩
    have bV : Below y.heap.size y V := by rw [← hV]; exact (Below.refl _ _).alloc (Nat.le_refl _) _
    have sV : V.heap.size = y.heap.size + 1 := by rw [← hV]; simp
    have X0' := X0.later bV
    have X1' := X1.later bV
    obtain ⟨v0, v1, _, _⟩ := X0'.two
    have v2 := X1'.cell 0
    rw [hM] at x2 v2
    simp only [List.getElem?_toArray, List.getElem?_cons_zero] at x2 v2
    have HX0 := Lib.hid X0
    have HX1 := Lib.hid X1
    have HTY := Lib.hid TY
    have HDY := Lib.hid DY
    have HP1 := Lib.hid P1
    have HPP := Lib.hid hpm
    have HrP := Lib.hid rP
    have HbV := Lib.hid bV
    clear X0 X1 X0' X1' TY DY P1 hpm rP hM
    go_wp2_with fail
    (try rw [hV])
    clear hV hmk
    go_loopw [8, 9, 28] (fun _ _ i wr => ∃ (k : Nat) (zs : List Int), i = .int .i64 (k : Int) ∧ k ≤ M ∧ PartS wr y.heap.size M zs ∧ zs.length = M ∧ (∀ j, j < k → zs.getD j 0 = (trS s t).getD j 0) ∧ Below y.heap.size y wr) (fun _ _ i _ => M - (intOf i).toNat)
    case atStart => exact ⟨0, _, rfl, Nat.zero_le _, HrP.out, by simp, (fun j hj => by omega), HbV.out⟩
    case round =>
      obtain ⟨k, zs, rfl, hk, hP, hzl, hz, hb⟩ := hrel
      have hP0 := Lib.hid hP
      have HZ := Lib.hid hz
      have hX0 := HX0.out.later hb
      obtain ⟨q0, q1, _, _⟩ := hX0.two
      by_cases hlt : k < M
      · obtain ⟨b1, o1, rfl, c1⟩ := (HDY.out.later hb).at (i := k) (by rw [HM.out]; exact hlt)
        have hlow := HPP.out.low (i := k) (by rw [HM.out]; exact hlt)
        obtain ⟨j, hj⟩ : ∃ j : Nat, t.getD k 0 = (j : Int) := ⟨(t.getD k 0).toNat, by omega⟩
        have hjl : j < s.length := by rw [hj, HM.out] at hlow; have := HM.out; omega
        obtain ⟨b2, o2, rfl, c2⟩ := (HTY.out.later hb).sh.at (i := j) hjl
        have htr : (trS s t).getD k 0 = s.getD j 0 := by rw [trS_at s t (by rw [HM.out]; exact hlt), hj]; rfl
        have HTR := Lib.hid htr
        rw [hj] at c1
        have hf := hP.free k
        have hcj := hP.cell k (by rw [hzl]; exact hlt)
        have hltI : (k : Int) < (M : Int) := by omega
        have hjI : (j : Int) < (s.length : Int) := by omega
        clear hP hz hX0 hlow hj htr
        go_wp2
        go_roundw
        case rel =>
          refine ⟨k + 1, zs.set k (s.getD j 0), by go_num, by omega, ?_, by rw [List.length_set]; exact hzl, fun i hi => ?_, hb.setCell (by show y.heap.size ≤ y.heap.size; exact Nat.le_refl _) _⟩
          · have := hP0.out.set k (by rw [hzl]; exact hlt) (s.getD j 0)
            simpa [List.getD_eq_getElem?_getD, hjl] using this
          · by_cases e : i = k
            · subst e
              rw [getD_set_self _ _ _ (by rw [hzl]; exact hlt), HTR.out]
            · rw [getD_set_ne _ _ (by omega)]
              exact HZ.out i (by omega)
        case measure => simp [intOf]; omega
      · obtain rfl : k = M := by omega
        have hltI : ¬ (k : Int) < (k : Int) := by omega
        have hzt : zs = trS s t := list_eq_getD (by rw [hzl, trS_len, HM.out]) fun i hi => HZ.out i (by omega)
        have A3 := (show ResS y.heap.size wr (.slice (some ⟨y.heap.size, 0, none⟩) zs.length k) zs from ⟨hP0.out.num (Nat.le_refl _) (by unfold maxLen; omega), by rw [hzt]; exact okS_wid okP⟩).at_
        rw [hzt] at A3
        have hl3 : (trS s t).length = k := by rw [trS_len, HM.out]
        have hB3 : Below w.heap.size w wr := hB2.trans (hb.mono (by omega))
        have s3' := hb.size
        have hbu := built_any (N := n + 2) (F := 43) (cap := #[.pointer (some ⟨w.heap.size + 1, 0, none⟩), .pointer (some ⟨w.heap.size, 0, none⟩)]) (f := fun xs => elV s (qs.map Q3.rat) (trI t xs)) A3.2.1 A3.2.2 okP (enters_of Tryz.func43 (by kernel_rfl) rfl)
          (fun B X x xs hin hB hBX hX hx => by
            obtain ⟨ax, cx, AX, nx⟩ := hx.arg2
            have hlx := inS_length hin
            exact (transpose1_any ((HTY.out.later hb).later hX) hm0 HL.out (by omega) ((HDY.out.later hb).later hX) (((HX1.out.later hb).later hX).cell 0) HPP.out htl ((HX0.out.later hb).later hX) AX (by omega)).mono fun e w' ⟨r, g1, g2, g3⟩ => ⟨r, g1, g2.mono hBX, g3.mono hBX⟩)
        rw [HLR.out, hl3] at hbu
        have P1' := HP1.out.later hb
        have HBU := Lib.hid hbu
        clear hbu A3 hP hz
        go_wp2_with fail
        refine HBU.out.mono ?_
        rintro e w2 ⟨r, rfl, hT, hb2⟩
        obtain ⟨a', b', ca', cb', rfl, RS, RO⟩ := hT
        have P2 := P1'.later hb2
        have s3 := hb2.size
        obtain ⟨u0, u1, g0, g1⟩ := P2.two
        have HR := Lib.hid RS
        have HO := Lib.hid RO
        clear RS RO
        obtain ⟨l, hl⟩ : ∃ l, LR.length = l := ⟨_, rfl⟩
        obtain ⟨ls, hls⟩ : ∃ ls, (trS s t).length = ls := ⟨_, rfl⟩
        have HL2 := Lib.hid hl
        have HL3 := Lib.hid hls
        rw [hl, hls]
        clear hl hls
        go_wp2_with fail
        have P3 := P2.set2 (.slice a' ls ca') (.slice b' l cb')
        obtain ⟨z0, z1, _, _⟩ := P3.two
        refine bodyPost_ret (v := .tuple #[.agg #[.slice a' ls ca', .slice b' l cb'], .int .i64 0]) (by simp [results, Tryz.results13, go_sem, z0, z1]) rfl ⟨.inl ⟨rfl, _, rfl, ?_⟩, below_set2 (hB3.trans (hb2.mono (by omega))) (by omega) _ _⟩
        have hR : ResT w.heap.size w2 (.agg #[.slice a' ls ca', .slice b' l cb']) (trS s t) LR (n + 2) := ResT.mono ⟨a', b', ca', cb', by rw [HL2.out, HL3.out], HR.out, HO.out⟩ (by omega)
        exact hR.far P2 (by decide) (by decide) (by decide) (kept2 _ _)
  · have hne : (c != 0) = true := by simp [h0]
    have H0 := Lib.hid h0
    obtain ⟨u0, u1, g0, g1⟩ := P1.two
    clear h0 mkS
    go_wp2_with fail
    have P3 := P1.set2 (.slice none 0 0) (.slice none 0 0)
    obtain ⟨z0, z1, _, _⟩ := P3.two
    refine bodyPost_ret (v := .tuple #[noTensor, .int .i64 c]) (by simp [results, Tryz.results13, go_sem, z0, z1, noTensor]) rfl ⟨.inr ⟨H0.out, rfl⟩, below_set2 hB2 (by omega) _ _⟩
end
end Go.Proofs.YtooglnhlhgmhdaaGreat
