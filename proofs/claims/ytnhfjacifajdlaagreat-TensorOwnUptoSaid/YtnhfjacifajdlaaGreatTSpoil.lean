/-
  Layer 7's laws: what is kept where only rows of limbs and of numbers are written to; the helper spoil.
-/
import Derived.Test.YtnhfjacifajdlaaGreatTRaw
import Derived.Test.YtnhfjacifajdlaaGreatC5
import Derived.StillTailTactics
namespace Go.Proofs.YtnhfjacifajdlaaGreat
open Go.RowKit
set_option linter.unusedVariables false
set_option linter.unusedSimpArgs false

/-- what a row of this type holds -/
def kindT (t : TypeId) : IntKind := if t = 112 then .u32 else .i64
theorem kindT_u : kindT 112 = .u32 := rfl
theorem kindT_i : kindT 3 = .i64 := rfl
/-- only rows of limbs and of numbers from block G on were written to, and what was made since is new -/
def Loose (G : Nat) (X Y : World) : Prop := Below G X Y ∧ ∀ b, b < X.heap.size → Y.heap[b]? = X.heap[b]? ∨
  ∃ (c c' : Array Value) (t : TypeId), (t = 112 ∨ t = 3) ∧ X.heap[b]? = some (.cells c t (0, 0)) ∧ Y.heap[b]? = some (.cells c' t (0, 0)) ∧ ∀ (j : Nat) (z : Int), c[j]? = some (Value.int (kindT t) z) → ∃ z', c'[j]? = some (Value.int (kindT t) z')
theorem Loose.refl (G : Nat) (X : World) : Loose G X X := ⟨Below.refl _ _, fun _ _ => .inl rfl⟩
theorem Loose.of {G : Nat} {X Y : World} (h : Below X.heap.size X Y) (hG : G ≤ X.heap.size) : Loose G X Y := ⟨h.mono hG, fun b hb => .inl (h.block b hb)⟩
theorem Loose.trans {G : Nat} {X Y Z : World} (h : Loose G X Y) (k : Loose G Y Z) : Loose G X Z := by
  refine ⟨h.1.trans k.1, fun b hb => ?_⟩
  have hb2 : b < Y.heap.size := Nat.lt_of_lt_of_le hb h.1.size
  rcases h.2 b hb with e | ⟨c, c', t, ht, e1, e2, e3⟩
  · rcases k.2 b hb2 with f | ⟨d, d', s, hs, f1, f2, f3⟩
    · exact .inl (f.trans e)
    · exact .inr ⟨d, d', s, hs, e ▸ f1, f2, f3⟩
  · rcases k.2 b hb2 with f | ⟨d, d', s, hs, f1, f2, f3⟩
    · exact .inr ⟨c, c', t, ht, e1, f.trans e2, e3⟩
    · rw [e2] at f1
      cases f1
      refine .inr ⟨c, d', t, ht, e1, f2, fun j z hz => ?_⟩
      obtain ⟨z', hz'⟩ := e3 j z hz
      exact f3 j z' hz'
theorem Loose.set {G b k : Nat} {X : World} {t : TypeId} {cur : Array Value} {z : Int} (hb : G ≤ b) (h : X.heap[b]? = some (.cells cur t (0, 0))) (ht : t = 112 ∨ t = 3) : Loose G X (X.setCell ⟨b, k, none⟩ (.int (kindT t) z)) := by
  refine ⟨(Below.refl _ _).setCell (p := ⟨b, k, none⟩) hb _, fun i hi => ?_⟩
  by_cases e : i = b
  · subst e
    refine .inr ⟨cur, _, t, ht, h, heap_setCell_same X i k cur t (.int (kindT t) z) h, fun j y hj => ?_⟩
    rw [Array.getElem?_setIfInBounds]
    by_cases ek : k = j
    · subst ek
      rw [if_pos rfl, if_pos (Array.getElem?_eq_some_iff.1 hj).1]
      exact ⟨z, rfl⟩
    · rw [if_neg ek]
      exact ⟨y, hj⟩
  · exact .inl (Below.heap_setCell _ _ _ _ e)
theorem Loose.setU {G b k : Nat} {X : World} {cur : Array Value} {z : Int} (hb : G ≤ b) (h : X.heap[b]? = some (.cells cur 112 (0, 0))) : Loose G X (X.setCell ⟨b, k, none⟩ (.int .u32 z)) := by
  have e := Loose.set (k := k) (z := z) hb h (.inl rfl)
  rwa [kindT_u] at e
theorem Loose.setI {G b k : Nat} {X : World} {cur : Array Value} {z : Int} (hb : G ≤ b) (h : X.heap[b]? = some (.cells cur 3 (0, 0))) : Loose G X (X.setCell ⟨b, k, none⟩ (.int .i64 z)) := by
  have e := Loose.set (k := k) (z := z) hb h (.inr rfl)
  rwa [kindT_i] at e
theorem Loose.drew {G : Nat} {X Y : World} (h : Loose G X Y) : Loose G X Y.drew := ⟨h.1.drew, h.2⟩
theorem Loose.row {G g : Nat} {X Y : World} {t : TypeId} {cs : Array Value} (L : Loose G X Y) (R : Row X g t cs) (h1 : t ≠ 112) (h2 : t ≠ 3) : Row Y g t cs := by
  rcases L.2 g R.lt with e | ⟨c, c', s, hs, e1, _, _⟩
  · exact e.trans R
  · have := R.symm.trans e1
    cases this
    rcases hs with h | h
    · exact absurd h h1
    · exact absurd h h2
theorem Loose.cellz {G lo g : Nat} {X Y : World} {v : Value} (L : Loose G X Y) (h : Cellz lo g X v) : Cellz lo g Y v := by
  obtain ⟨ad, n, cap, rfl, hm, h⟩ := h
  refine ⟨ad, n, cap, rfl, hm, ?_⟩
  rcases h with h | ⟨b, cur, rfl, h1, h2, h3, h4⟩
  · exact .inl h
  · rcases L.2 b (lt_of_block h3) with e | ⟨c, c', s, hs, e1, e2, e3⟩
    · exact .inr ⟨b, cur, rfl, h1, h2, e.trans h3, h4⟩
    · rw [h3] at e1
      cases e1
      rw [kindT_u] at e3
      refine .inr ⟨b, c', rfl, h1, h2, e2, fun k hk => ?_⟩
      obtain ⟨z, hz⟩ := h4 k hk
      exact e3 k z hz
theorem Loose.cellzS {G lo g : Nat} {X Y : World} {v : Value} (L : Loose G X Y) (h : CellzS lo g X v) : CellzS lo g Y v := by
  obtain ⟨ad, n, cap, rfl, hm, h⟩ := h
  refine ⟨ad, n, cap, rfl, hm, ?_⟩
  rcases h with h | ⟨b, cur, rfl, h1, h2, h3, h4⟩
  · exact .inl h
  · rcases L.2 b (lt_of_block h3) with e | ⟨c, c', s, hs, e1, e2, e3⟩
    · exact .inr ⟨b, cur, rfl, h1, h2, e.trans h3, h4⟩
    · rw [h3] at e1
      cases e1
      rw [kindT_i] at e3
      refine .inr ⟨b, c', rfl, h1, h2, e2, fun k hk => ?_⟩
      obtain ⟨z, hz⟩ := h4 k hk
      exact e3 k z hz
theorem Cellz.lowT {lo lo' g : Nat} {w : World} {v : Value} (h : Cellz lo g w v) (hl : lo' ≤ lo) : Cellz lo' g w v := by
  obtain ⟨ad, n, cap, rfl, hm, h⟩ := h
  refine ⟨ad, n, cap, rfl, hm, ?_⟩
  rcases h with h | ⟨b, cur, rfl, h1, h2, h3, h4⟩
  · exact .inl h
  · exact .inr ⟨b, cur, rfl, by omega, h2, h3, h4⟩
/-- the limbs of a number may be written to -/
def LootQ (G g : Nat) (w : World) (v : Value) : Prop := ∃ (p : Bool) (x y : Value), v = .agg #[.bool p, x, y] ∧ Cellz G g w x ∧ Cellz G g w y
theorem LootQ.loose {G lo g : Nat} {X Y : World} {v : Value} (h : LootQ lo g X v) (L : Loose G X Y) : LootQ lo g Y v := by
  obtain ⟨p, x, y, rfl, h1, h2⟩ := h
  exact ⟨p, x, y, rfl, L.cellz h1, L.cellz h2⟩
theorem LootQ.mono {lo lo' g g' : Nat} {w : World} {v : Value} (h : LootQ lo g w v) (hl : lo' ≤ lo) (hg : g ≤ g') : LootQ lo' g' w v := by
  obtain ⟨p, x, y, rfl, h1, h2⟩ := h
  exact ⟨p, x, y, rfl, (h1.mono hg).lowT hl, (h2.mono hg).lowT hl⟩
theorem ResQ.loot {base n : Nat} {w : World} {v : Value} {x : Rat} (h : ResQ base w v x n) : LootQ base w.heap.size w v := by
  obtain ⟨zs, ys, ad, bd, ca, cb, rfl, A, B, _, _⟩ := h
  exact ⟨_, _, _, rfl, A.num.cellz (Nat.le_refl _), B.num.cellz (Nat.le_refl _)⟩
theorem RawO.loot {base : Nat} {w : World} {v : Value} {q : Q3} (h : RawO base w v q) : LootQ base w.heap.size w v := by
  obtain ⟨ad, bd, ca, cb, rfl, A, B, _⟩ := h
  exact ⟨_, _, _, rfl, A.cellz (Nat.le_refl _), B.cellz (Nat.le_refl _)⟩

set_option maxRecDepth 100000 in
set_option maxHeartbeats 8000000 in
theorem spoil_any {G gl bb off : Nat} {w : World} {t : TypeId} {cs : Array Value} {x y : Value} (R : Row w bb t cs) (h1 : t ≠ 112) (h2 : t ≠ 3)
    (c1 : cs[off + 1]? = some x) (c2 : cs[off + 2]? = some y) (hx : Cellz G gl w x) (hy : Cellz G gl w y) :
    Calls Tryz.prog 43 #[.pointer (some ⟨bb, off, none⟩)] w fun e w' => e = .returned (.tuple #[]) ∧ Loose G w w' := by
  have HC1 := Lib.hid hx
  have HC2 := Lib.hid hy
  obtain ⟨ad1, n1, cp1, rfl, hn1, -⟩ := hx
  obtain ⟨ad2, n2, cp2, rfl, hn2, -⟩ := hy
  unfold maxLen at hn1 hn2
  have k1 : ∀ X, Loose G w X → X.cell? ⟨bb, off + 1, none⟩ = some (.slice ad1 n1 cp1) := fun X L => ((L.row R h1 h2).cell _).trans c1
  have k2 : ∀ X, Loose G w X → X.cell? ⟨bb, off + 2, none⟩ = some (.slice ad2 n2 cp2) := fun X L => ((L.row R h1 h2).cell _).trans c2
  clear R c1 c2
  go_enter Tryz.func43, Tryz.ntmps43
  go_wp2
  go_loopw [2] (fun i wr => ∃ k : Nat, i = .int .i64 (k : Int) ∧ k ≤ n1 ∧ Loose G w wr) (fun i _ => n1 - (intOf i).toNat)
  case atStart => exact ⟨0, rfl, Nat.zero_le _, Loose.refl _ _⟩
  case round =>
    obtain ⟨i, rfl, hi, hL⟩ := hrel
    have hce := k1 _ hL
    have C := hL.cellz HC1.out
    obtain ⟨ad', n', cp', hsl, _, hxx⟩ := C
    cases hsl
    by_cases hin : i < n1
    · have hin2 : (i : Int) < (n1 : Int) := by omega
      rcases hxx with h0 | ⟨b, cur, rfl, g1, g2, g3, g4⟩
      · exact absurd hin (by omega)
      obtain ⟨z, hz⟩ := g4 i hin
      have hcb : wr.cell? ⟨b, i, none⟩ = some (.int .u32 z) := (cell_of_row wr b i cur _ _ g3).trans hz
      have hfb : wr.frozen? ⟨b, i, none⟩ = false := frozen_of_row wr b i cur _ g3
      have hL2 : ∀ z', Loose G w (wr.drew.setCell ⟨b, i, none⟩ (.int .u32 z')) := fun z' => hL.drew.trans (Loose.setU (X := wr.drew) g1 g3)
      have HL2 := Lib.hid hL2
      clear g4 hL2 hz hL
      go_wp2
      go_still_tail 14, (by kernel_rfl)
      repeat still_step
      have hcb2 : wr.drew.cell? ⟨b, i, none⟩ = some (.int .u32 z) := hcb
      have hfb2 : wr.drew.frozen? ⟨b, i, none⟩ = false := hfb
      go_wp2
      go_roundw
      case rel => exact ⟨i + 1, by go_num, by omega, HL2.out _⟩
      case measure => simp [intOf]; omega
    · have hin2 : ¬ (i : Int) < (n1 : Int) := by omega
      clear hxx
      go_wp2
      go_loopw [3] (fun j wr' => ∃ k : Nat, j = .int .i64 (k : Int) ∧ k ≤ n2 ∧ Loose G w wr') (fun j _ => n2 - (intOf j).toNat)
      case atStart => exact ⟨0, rfl, Nat.zero_le _, hL⟩
      case round =>
        clear hL hce
        obtain ⟨i, rfl, hi, hL⟩ := hrel
        have hce := k2 _ hL
        have C := hL.cellz HC2.out
        obtain ⟨ad', n', cp', hsl, _, hxx⟩ := C
        cases hsl
        by_cases hin : i < n2
        · have hin2 : (i : Int) < (n2 : Int) := by omega
          rcases hxx with h0 | ⟨b, cur, rfl, g1, g2, g3, g4⟩
          · exact absurd hin (by omega)
          obtain ⟨z, hz⟩ := g4 i hin
          have hcb : wr.cell? ⟨b, i, none⟩ = some (.int .u32 z) := (cell_of_row wr b i cur _ _ g3).trans hz
          have hfb : wr.frozen? ⟨b, i, none⟩ = false := frozen_of_row wr b i cur _ g3
          have hL2 : ∀ z', Loose G w (wr.drew.setCell ⟨b, i, none⟩ (.int .u32 z')) := fun z' => hL.drew.trans (Loose.setU (X := wr.drew) g1 g3)
          have HL2 := Lib.hid hL2
          clear g4 hL2 hz hL
          go_wp2
          go_still_tail 14, (by kernel_rfl)
          repeat still_step
          have hcb2 : wr.drew.cell? ⟨b, i, none⟩ = some (.int .u32 z) := hcb
          have hfb2 : wr.drew.frozen? ⟨b, i, none⟩ = false := hfb
          go_wp2
          go_roundw
          case rel => exact ⟨i + 1, by go_num, by omega, HL2.out _⟩
          case measure => simp [intOf]; omega
        · have hin2 : ¬ (i : Int) < (n2 : Int) := by omega
          clear hxx
          go_wp2
          go_end0
          exact ⟨rfl, hL⟩
end Go.Proofs.YtnhfjacifajdlaaGreat
