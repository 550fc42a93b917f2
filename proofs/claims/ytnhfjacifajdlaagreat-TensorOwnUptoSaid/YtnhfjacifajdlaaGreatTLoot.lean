/-
  Layer 7's law TensorOwn: tensors that may be written to, and a list of them.
-/
import Derived.Test.YtnhfjacifajdlaaGreatTSpoil
import Derived.Test.YtnhfjacifajdlaaGreatTDef
namespace Go.Proofs.YtnhfjacifajdlaaGreat
open Go.RowKit
set_option linter.unusedVariables false
set_option linter.unusedSimpArgs false

/-- elements that may be written to -/
def LootE (G gl : Nat) (w : World) (v : Value) : Prop := ∃ (b : Option Addr) (m cap : Nat), v = .slice b m cap ∧ m ≤ maxLen ∧ (m = 0 ∨ ∃ (bb : Nat) (cs : Array Value), b = some ⟨bb, 0, none⟩ ∧ Row w bb 44 cs ∧
  ∀ k, k < m → ∃ x y, cs[k * 3 + 1]? = some x ∧ cs[k * 3 + 2]? = some y ∧ Cellz G gl w x ∧ Cellz G gl w y)
theorem LootE.loose {G lo g : Nat} {X Y : World} {v : Value} (h : LootE lo g X v) (L : Loose G X Y) : LootE lo g Y v := by
  obtain ⟨b, m, cap, rfl, hm, h⟩ := h
  refine ⟨b, m, cap, rfl, hm, ?_⟩
  rcases h with h | ⟨bb, cs, rfl, R, hk⟩
  · exact .inl h
  · refine .inr ⟨bb, cs, rfl, L.row R (by decide) (by decide), fun k hlt => ?_⟩
    obtain ⟨x, y, h1, h2, h3, h4⟩ := hk k hlt
    exact ⟨x, y, h1, h2, L.cellz h3, L.cellz h4⟩
theorem LootE.mono {lo lo' g g' : Nat} {w : World} {v : Value} (h : LootE lo g w v) (hl : lo' ≤ lo) (hg : g ≤ g') : LootE lo' g' w v := by
  obtain ⟨b, m, cap, rfl, hm, h⟩ := h
  refine ⟨b, m, cap, rfl, hm, ?_⟩
  rcases h with h | ⟨bb, cs, rfl, R, hk⟩
  · exact .inl h
  · refine .inr ⟨bb, cs, rfl, R, fun k hlt => ?_⟩
    obtain ⟨x, y, h1, h2, h3, h4⟩ := hk k hlt
    exact ⟨x, y, h1, h2, (h3.mono hg).lowT hl, (h4.mono hg).lowT hl⟩
theorem CellzS.lowT {lo lo' g : Nat} {w : World} {v : Value} (h : CellzS lo g w v) (hl : lo' ≤ lo) : CellzS lo' g w v := by
  obtain ⟨ad, n, cap, rfl, hm, h⟩ := h
  refine ⟨ad, n, cap, rfl, hm, ?_⟩
  rcases h with h | ⟨b, cur, rfl, h1, h2, h3, h4⟩
  · exact .inl h
  · exact .inr ⟨b, cur, rfl, by omega, h2, h3, h4⟩
theorem RowO.loot {α : Type} {base : Nat} {P : World → Value → α → Prop} {w : World} {v : Value} {L : List α} (h : RowO base 44 P w v L) (hP : ∀ u x, P w u x → LootQ base w.heap.size w u) : LootE base w.heap.size w v := by
  obtain ⟨es, hown, hall⟩ := h
  obtain ⟨h1, h2⟩ := hown
  rcases h2 with ⟨rfl, hn⟩ | ⟨g, cap, cur, rfl, hb, hg, hc, hm, hs, ht⟩
  · exact ⟨none, 0, 0, rfl, Nat.zero_le _, .inl rfl⟩
  · refine ⟨_, _, _, rfl, by omega, .inr ⟨g, cur, rfl, hg, fun k hk => ?_⟩⟩
    obtain ⟨e, x, he, hx, hp⟩ := hall.at (i := k) (by rw [← hall.1]; exact hk)
    obtain ⟨f0, f1, f2⟩ := flat3_at he
    have hat : ∀ j, j < es.length * 3 → cur[j]? = (flat3 es)[j]? := fun j hj => by
      have e1 : (cur.toList.take (es.length * 3))[j]? = (flat3 es)[j]? := by rw [ht]
      rw [List.getElem?_take, if_pos hj, Array.getElem?_toList] at e1
      exact e1
    obtain ⟨p, a, b, hv, c1, c2⟩ := hP _ _ hp
    have hv2 : e.b = a ∧ e.c = b := by
      have : Value.agg #[e.a, e.b, e.c] = .agg #[.bool p, a, b] := hv
      simp only [Value.agg.injEq, Array.mk.injEq, List.cons.injEq, and_true] at this
      exact this.2
    obtain ⟨rfl, rfl⟩ := hv2
    exact ⟨_, _, (hat _ (by omega)).trans f1, (hat _ (by omega)).trans f2, c1, c2⟩
/-- a tensor that may be written to -/
def LootT (G gl : Nat) (w : World) (va vb : Value) : Prop := CellzS G gl w va ∧ LootE G gl w vb
theorem LootT.loose {G lo g : Nat} {X Y : World} {va vb : Value} (h : LootT lo g X va vb) (L : Loose G X Y) : LootT lo g Y va vb := ⟨L.cellzS h.1, h.2.loose L⟩
theorem LootT.mono {lo lo' g g' : Nat} {w : World} {va vb : Value} (h : LootT lo g w va vb) (hl : lo' ≤ lo) (hg : g ≤ g') : LootT lo' g' w va vb := ⟨(h.1.mono hg).lowT hl, h.2.mono hl hg⟩
theorem ResC.loot {base : Nat} {w : World} {s : List Int} {qs : List Q3} {a b : Option Addr} {n m ca cb : Nat} (h : ResC base w (.agg #[.slice a n ca, .slice b m cb]) s qs) : LootT base w.heap.size w (.slice a n ca) (.slice b m cb) := by
  obtain ⟨a', b', ca', cb', e, h1, h2⟩ := h
  simp only [Value.agg.injEq, Array.mk.injEq, List.cons.injEq, and_true] at e
  obtain ⟨e1, e2⟩ := e
  rw [e1, e2]
  exact ⟨h1.num.cellz (Nat.le_refl _), h2.loot fun u x k => RawO.loot k⟩
theorem ResT.loot {base p : Nat} {w : World} {s : List Int} {L : List Rat} {a b : Option Addr} {n m ca cb : Nat} (h : ResT base w (.agg #[.slice a n ca, .slice b m cb]) s L p) : LootT base w.heap.size w (.slice a n ca) (.slice b m cb) := by
  obtain ⟨a', b', ca', cb', e, h1, h2⟩ := h
  simp only [Value.agg.injEq, Array.mk.injEq, List.cons.injEq, and_true] at e
  obtain ⟨e1, e2⟩ := e
  rw [e1, e2]
  exact ⟨h1.num.cellz (Nat.le_refl _), h2.loot fun u x k => ResQ.loot k⟩
theorem LootT.kept {G gl gb : Nat} {w w' : World} {va vb : Value} {cs : Array Value} (h : LootT G gl w va vb) (K : Kept gb w w') (R : Row w gb 26 cs) : LootT G gl w' va vb := by
  have hne : ∀ {b : Nat} {t : TypeId} {c : Array Value}, w.heap[b]? = some (.cells c t (0, 0)) → t ≠ 26 → w'.heap[b]? = some (.cells c t (0, 0)) := fun {b t c} hb ht => by
    refine (K.block b (lt_of_block hb) fun e => ?_).trans hb
    subst e
    have := hb.symm.trans R
    simp only [Option.some.injEq, Obj.cells.injEq] at this
    exact ht this.2.1
  have hcz : ∀ {v : Value}, Cellz G gl w v → Cellz G gl w' v := fun {v} hv => by
    obtain ⟨ad, n, cap, rfl, hm, hv⟩ := hv
    refine ⟨ad, n, cap, rfl, hm, ?_⟩
    rcases hv with hv | ⟨b, cur, rfl, h1, h2, h3, h4⟩
    · exact .inl hv
    · exact .inr ⟨b, cur, rfl, h1, h2, hne h3 (by decide), h4⟩
  obtain ⟨hs, he⟩ := h
  constructor
  · obtain ⟨ad, n, cap, rfl, hm, hv⟩ := hs
    refine ⟨ad, n, cap, rfl, hm, ?_⟩
    rcases hv with hv | ⟨b, cur, rfl, h1, h2, h3, h4⟩
    · exact .inl hv
    · exact .inr ⟨b, cur, rfl, h1, h2, hne h3 (by decide), h4⟩
  · obtain ⟨b, m, cap, rfl, hm, he⟩ := he
    refine ⟨b, m, cap, rfl, hm, ?_⟩
    rcases he with he | ⟨bb, c, rfl, R2, hk⟩
    · exact .inl he
    · refine .inr ⟨bb, c, rfl, hne R2 (by decide), fun k hlt => ?_⟩
      obtain ⟨x, y, h1, h2, h3, h4⟩ := hk k hlt
      exact ⟨x, y, h1, h2, hcz h3, hcz h4⟩
/-- a list of tensors that may be written to -/
def Loots (G gl gb n : Nat) (w : World) (cs : Array Value) : Prop := Row w gb 26 cs ∧ ∀ i, i < n → ∃ va vb, cs[i * 2]? = some va ∧ cs[i * 2 + 1]? = some vb ∧ LootT G gl w va vb
theorem Loots.loose {G lo g gb n : Nat} {X Y : World} {cs : Array Value} (h : Loots lo g gb n X cs) (L : Loose G X Y) : Loots lo g gb n Y cs :=
  ⟨L.row h.1 (by decide) (by decide), fun i hi => by obtain ⟨va, vb, h1, h2, h3⟩ := h.2 i hi; exact ⟨va, vb, h1, h2, h3.loose L⟩⟩
theorem Loots.two {G gl : Nat} {w : World} {gb : Nat} {v0 v1 v2 v3 : Value} (R : Row w gb 26 #[v0, v1, v2, v3]) (h0 : LootT G gl w v0 v1) (h1 : LootT G gl w v2 v3) : Loots G gl gb 2 w #[v0, v1, v2, v3] :=
  ⟨R, fun i hi => by
    have hc : i = 0 ∨ i = 1 := by omega
    rcases hc with rfl | rfl
    · exact ⟨v0, v1, rfl, rfl, h0⟩
    · exact ⟨v2, v3, rfl, rfl, h1⟩⟩
theorem Loots.three {G gl B : Nat} {w : World} {v : Value} {v0 v1 v2 v3 v4 v5 : Value} (h : w.ownsRow B 26 2 v 3 [v0, v1, v2, v3, v4, v5]) (h0 : LootT G gl w v0 v1) (h1 : LootT G gl w v2 v3) (h2 : LootT G gl w v4 v5) :
    ∃ gb cap cs, v = .slice (some ⟨gb, 0, none⟩) 3 cap ∧ Loots G gl gb 3 w cs := by
  obtain ⟨_, hv⟩ := h
  rcases hv with ⟨_, hn⟩ | ⟨g, cap, cur, rfl, hb, hg, hc, hm, hs, ht⟩
  · cases hn
  · have hat : ∀ j, j < 6 → cur[j]? = [v0, v1, v2, v3, v4, v5][j]? := fun j hj => by
      have e1 : (cur.toList.take (3 * 2))[j]? = [v0, v1, v2, v3, v4, v5][j]? := by rw [ht]
      rw [List.getElem?_take, if_pos (by omega), Array.getElem?_toList] at e1
      exact e1
    refine ⟨g, cap, cur, rfl, hg, fun i hi => ?_⟩
    have hc : i = 0 ∨ i = 1 ∨ i = 2 := by omega
    rcases hc with rfl | rfl | rfl
    · exact ⟨v0, v1, hat 0 (by omega), hat 1 (by omega), h0⟩
    · exact ⟨v2, v3, hat 2 (by omega), hat 3 (by omega), h1⟩
    · exact ⟨v4, v5, hat 4 (by omega), hat 5 (by omega), h2⟩
/-- an index of noughts is in every shape -/
theorem inS_zeros : ∀ {s : List Int}, posS s → inS s (List.replicate s.length 0)
  | [], _ => trivial
  | d :: ds, h => ⟨⟨Int.le_refl _, by have := h.head; omega⟩, inS_zeros h.tail⟩
end Go.Proofs.YtnhfjacifajdlaaGreat
