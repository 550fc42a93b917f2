/-
  Layer 9's law MoveOwn: what is kept where only signs, limbs and numbers are written to.
-/
import Derived.Test.YtooglnhlhgmhdaaGreatK32
namespace Go.Proofs.YtooglnhlhgmhdaaGreat
open Go.RowKit
set_option linter.unusedVariables false
set_option linter.unusedSimpArgs false
set_option maxRecDepth 100000

/-- a cell is what it was, or another number, or another sign -/
def KindV (v v' : Value) : Prop := v' = v ∨ (∃ k z z', v = .int k z ∧ v' = .int k z') ∨ ∃ p p', v = .bool p ∧ v' = .bool p'
theorem KindV.trans {a b c : Value} (h : KindV a b) (k : KindV b c) : KindV a c := by
  rcases h with rfl | ⟨k1, z, z', rfl, rfl⟩ | ⟨p, p', rfl, rfl⟩
  · exact k
  · rcases k with rfl | ⟨k2, y, y', e, rfl⟩ | ⟨p, p', e, _⟩
    · exact .inr (.inl ⟨_, _, _, rfl, rfl⟩)
    · cases e; exact .inr (.inl ⟨_, _, _, rfl, rfl⟩)
    · cases e
  · rcases k with rfl | ⟨k2, y, y', e, rfl⟩ | ⟨q, q', e, rfl⟩
    · exact .inr (.inr ⟨_, _, rfl, rfl⟩)
    · cases e
    · cases e; exact .inr (.inr ⟨_, _, rfl, rfl⟩)
/-- only signs, limbs and numbers from block G on were written to, and what was made since is new -/
def Loose8 (G : Nat) (X Y : World) : Prop := Below G X Y ∧ ∀ (b : Nat) (c : Array Value) (t : TypeId), X.heap[b]? = some (.cells c t (0, 0)) → ∃ c', Y.heap[b]? = some (.cells c' t (0, 0)) ∧ c'.size = c.size ∧ ∀ (j : Nat) (v : Value), c[j]? = some v → ∃ v', c'[j]? = some v' ∧ KindV v v'
theorem Loose8.refl (G : Nat) (X : World) : Loose8 G X X := ⟨Below.refl _ _, fun b c t h => ⟨c, h, rfl, fun j v hv => ⟨v, hv, .inl rfl⟩⟩⟩
theorem Loose8.of {G : Nat} {X Y : World} (h : Below X.heap.size X Y) (hG : G ≤ X.heap.size) : Loose8 G X Y := ⟨h.mono hG, fun b c t e => ⟨c, (h.block b (lt_of_block e)).trans e, rfl, fun j v hv => ⟨v, hv, .inl rfl⟩⟩⟩
theorem Loose8.trans {G : Nat} {X Y Z : World} (h : Loose8 G X Y) (k : Loose8 G Y Z) : Loose8 G X Z := by
  refine ⟨h.1.trans k.1, fun b c t e => ?_⟩
  obtain ⟨c', e', s', f'⟩ := h.2 b c t e
  obtain ⟨d, e2, s2, f2⟩ := k.2 b c' t e'
  refine ⟨d, e2, s2.trans s', fun j v hv => ?_⟩
  obtain ⟨v', hv', kv⟩ := f' j v hv
  obtain ⟨u, hu, ku⟩ := f2 j v' hv'
  exact ⟨u, hu, kv.trans ku⟩
theorem Loose8.drew {G : Nat} {X Y : World} (h : Loose8 G X Y) : Loose8 G X Y.drew := ⟨h.1.drew, h.2⟩
theorem Loose8.set {G b k : Nat} {X : World} {t : TypeId} {cur : Array Value} {v u : Value} (hb : G ≤ b) (h : X.heap[b]? = some (.cells cur t (0, 0))) (hv : cur[k]? = some v) (hk : KindV v u) : Loose8 G X (X.setCell ⟨b, k, none⟩ u) := by
  refine ⟨(Below.refl _ _).setCell (p := ⟨b, k, none⟩) hb _, fun i c s e => ?_⟩
  by_cases ei : i = b
  · subst ei
    rw [h] at e
    cases e
    refine ⟨_, heap_setCell_same X i k cur t u h, by simp, fun j y hj => ?_⟩
    rw [Array.getElem?_setIfInBounds]
    by_cases ek : k = j
    · subst ek
      rw [hv] at hj
      cases hj
      rw [if_pos rfl, if_pos (Array.getElem?_eq_some_iff.1 hv).1]
      exact ⟨u, rfl, hk⟩
    · rw [if_neg ek]
      exact ⟨y, hj, .inl rfl⟩
  · exact ⟨c, (Below.heap_setCell _ _ _ _ ei).trans e, rfl, fun j y hj => ⟨y, hj, .inl rfl⟩⟩
/-- cells of a row that hold slices stand -/
theorem Loose8.slice {G b j : Nat} {X Y : World} {c : Array Value} {t : TypeId} {a : Option Addr} {n cap : Nat} (L : Loose8 G X Y) (h : X.heap[b]? = some (.cells c t (0, 0))) (hv : c[j]? = some (.slice a n cap)) : Y.cell? ⟨b, j, none⟩ = some (.slice a n cap) := by
  obtain ⟨c', e, _, f⟩ := L.2 b c t h
  obtain ⟨v', hv', k⟩ := f j _ hv
  rw [cell_of_row Y b j c' t (0, 0) e, hv']
  rcases k with rfl | ⟨_, _, _, e, _⟩ | ⟨_, _, e, _⟩
  · rfl
  · cases e
  · cases e
/-- numbers that may be written to -/
def CellsI (K : IntKind) (G : Nat) (w : World) (v : Value) : Prop := ∃ (ad : Option Addr) (n cap : Nat), v = .slice ad n cap ∧ n ≤ maxLen ∧ (n = 0 ∨ ∃ (b : Nat) (cur : Array Value) (t : TypeId), ad = some ⟨b, 0, none⟩ ∧ G ≤ b ∧ w.heap[b]? = some (.cells cur t (0, 0)) ∧ ∀ k, k < n → ∃ z, cur[k]? = some (.int K z))
theorem CellsI.loose {K : IntKind} {G : Nat} {X Y : World} {v : Value} (h : CellsI K G X v) (L : Loose8 G X Y) : CellsI K G Y v := by
  obtain ⟨ad, n, cap, rfl, hm, h⟩ := h
  refine ⟨ad, n, cap, rfl, hm, h.imp id ?_⟩
  rintro ⟨b, cur, t, rfl, hb, e, hk⟩
  obtain ⟨c', e', _, f⟩ := L.2 b cur t e
  refine ⟨b, c', t, rfl, hb, e', fun k hlt => ?_⟩
  obtain ⟨z, hz⟩ := hk k hlt
  obtain ⟨v', hv', kv⟩ := f k _ hz
  rcases kv with rfl | ⟨_, _, z', e, rfl⟩ | ⟨_, _, e, _⟩
  · exact ⟨z, hv'⟩
  · cases e; exact ⟨z', hv'⟩
  · cases e
theorem cellsI_of {K : IntKind} {base G : Nat} {T : TypeId} {w : World} {v : Value} {xs : List Int} (h : w.ownsRow base T 1 v xs.length (xs.map (Value.int K))) (hG : G ≤ base) : CellsI K G w v := by
  obtain ⟨_, h2⟩ := h
  rcases h2 with ⟨rfl, hn⟩ | ⟨g, cap, cur, rfl, hb, hg, hc, hm, hs, ht⟩
  · exact ⟨none, 0, 0, rfl, Nat.zero_le _, .inl rfl⟩
  · refine ⟨_, _, _, rfl, by omega, .inr ⟨g, cur, T, rfl, by omega, hg, fun k hk => ?_⟩⟩
    have e1 : (cur.toList.take (xs.length * 1))[k]? = (xs.map (Value.int K))[k]? := by rw [ht]
    rw [List.getElem?_take, if_pos (by omega), Array.getElem?_toList] at e1
    exact ⟨xs[k], by rw [e1]; simp [hk]⟩
/-- elements that may be written to -/
def ElemI (G : Nat) (w : World) (v : Value) : Prop := ∃ (b : Option Addr) (m cap : Nat), v = .slice b m cap ∧ m ≤ maxLen ∧ (m = 0 ∨ ∃ (bb : Nat) (cs : Array Value) (t : TypeId), b = some ⟨bb, 0, none⟩ ∧ G ≤ bb ∧ w.heap[bb]? = some (.cells cs t (0, 0)) ∧
  ∀ k, k < m → ∃ p x y, cs[k * 3]? = some (.bool p) ∧ cs[k * 3 + 1]? = some x ∧ cs[k * 3 + 2]? = some y ∧ CellsI .u32 G w x ∧ CellsI .u32 G w y)
theorem ElemI.loose {G : Nat} {X Y : World} {v : Value} (h : ElemI G X v) (L : Loose8 G X Y) : ElemI G Y v := by
  obtain ⟨b, m, cap, rfl, hm, h⟩ := h
  refine ⟨b, m, cap, rfl, hm, h.imp id ?_⟩
  rintro ⟨bb, cs, t, rfl, hb, e, hk⟩
  obtain ⟨c', e', _, f⟩ := L.2 bb cs t e
  refine ⟨bb, c', t, rfl, hb, e', fun k hlt => ?_⟩
  obtain ⟨p, x, y, h0, h1, h2, hx, hy⟩ := hk k hlt
  obtain ⟨v0, g0, k0⟩ := f _ _ h0
  obtain ⟨v1, g1, k1⟩ := f _ _ h1
  obtain ⟨v2, g2, k2⟩ := f _ _ h2
  have e1 : v1 = x := by
    obtain ⟨_, _, _, rfl, _⟩ := hx
    rcases k1 with e | ⟨_, _, _, e, _⟩ | ⟨_, _, e, _⟩
    · exact e
    · cases e
    · cases e
  have e2 : v2 = y := by
    obtain ⟨_, _, _, rfl, _⟩ := hy
    rcases k2 with e | ⟨_, _, _, e, _⟩ | ⟨_, _, e, _⟩
    · exact e
    · cases e
    · cases e
  subst e1
  subst e2
  have e0 : ∃ p', v0 = .bool p' := by
    rcases k0 with e | ⟨_, _, _, e, _⟩ | ⟨_, p', _, e⟩
    · exact ⟨p, e⟩
    · cases e
    · exact ⟨p', e⟩
  obtain ⟨p', rfl⟩ := e0
  exact ⟨p', v1, v2, g0, g1, g2, hx.loose L, hy.loose L⟩
theorem elemI_of {base G n : Nat} {w : World} {v : Value} {L : List Rat} (h : RowO base 58 (fun W v x => ResQ base W v x n) w v L) (hG : G ≤ base) : ElemI G w v := by
  obtain ⟨es, ⟨_, h2⟩, hall⟩ := h
  rcases h2 with ⟨rfl, hn⟩ | ⟨g, cap, cur, rfl, hb, hg, hc, hm, hs, ht⟩
  · exact ⟨none, 0, 0, rfl, Nat.zero_le _, .inl rfl⟩
  · refine ⟨_, _, _, rfl, by omega, .inr ⟨g, cur, _, rfl, by omega, hg, fun k hk => ?_⟩⟩
    obtain ⟨e, x, he, hx, hp⟩ := hall.at (i := k) (by rw [← hall.1]; exact hk)
    obtain ⟨f0, f1, f2⟩ := flat3_at he
    have hat : ∀ j, j < es.length * 3 → cur[j]? = (flat3 es)[j]? := fun j hj => by
      have e1 : (cur.toList.take (es.length * 3))[j]? = (flat3 es)[j]? := by rw [ht]
      rw [List.getElem?_take, if_pos hj, Array.getElem?_toList] at e1
      exact e1
    obtain ⟨zs, ys, ad, bd, ca, cb, hv, A, B, _, _⟩ := hp
    have hv2 : Value.agg #[e.a, e.b, e.c] = .agg #[.bool (decide (x.num < 0)), .slice ad zs.length ca, .slice bd ys.length cb] := hv
    simp only [Value.agg.injEq, Array.mk.injEq, List.cons.injEq, and_true] at hv2
    obtain ⟨e0, e1, e2⟩ := hv2
    exact ⟨_, _, _, ((hat _ (by omega)).trans f0).trans (by rw [e0]), ((hat _ (by omega)).trans f1).trans (by rw [e1]), ((hat _ (by omega)).trans f2).trans (by rw [e2]), cellsI_of A.num hG, cellsI_of B.num hG⟩
/-- a tensor that may be written to -/
def TenI (G : Nat) (w : World) (va vb : Value) : Prop := CellsI .i64 G w va ∧ ElemI G w vb
theorem TenI.loose {G : Nat} {X Y : World} {va vb : Value} (h : TenI G X va vb) (L : Loose8 G X Y) : TenI G Y va vb := ⟨h.1.loose L, h.2.loose L⟩
theorem TenI.nil (G : Nat) (w : World) : TenI G w (.slice none 0 0) (.slice none 0 0) := ⟨⟨none, 0, 0, rfl, Nat.zero_le _, .inl rfl⟩, ⟨none, 0, 0, rfl, Nat.zero_le _, .inl rfl⟩⟩
end Go.Proofs.YtooglnhlhgmhdaaGreat
