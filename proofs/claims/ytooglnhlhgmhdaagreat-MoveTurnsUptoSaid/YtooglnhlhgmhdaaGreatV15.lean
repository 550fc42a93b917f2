/-
  Layer 7's law TensorOwn: tensors that may be written to, and a list of them.
-/
import Derived.Test.YtooglnhlhgmhdaaGreatV1
import Derived.Test.YtooglnhlhgmhdaaGreatV2
import Derived.Test.YtooglnhlhgmhdaaGreatV4
import Derived.Test.YtooglnhlhgmhdaaGreatV5
import Derived.Test.YtooglnhlhgmhdaaGreatV7
import Derived.Test.YtooglnhlhgmhdaaGreatV9
import Derived.Test.YtooglnhlhgmhdaaGreatV13
import Derived.WalkKit
import Derived.Test.YtooglnhlhgmhdaaGreatRows
import Derived.BigQuiet
import Derived.Deep.QuietTactic
import Derived.Lib.Hide
import Derived.Lib.Small
import Derived.Lib.Walk
import Derived.Lib.BitFns
import Derived.Maps.AppendAt
import Derived.RangeFuncNested
import Derived.RangeFuncBound
import Derived.RangeFuncCalls
import Derived.RangeFuncLeaves
import Derived.Shelf.Abstract
import Derived.OwnWalkIn
import Derived.TacticsInMore
import Derived.LoopNIn
import Derived.LoopIn
import Derived.RangeFuncBox
import Derived.Deep.RegionHeld3
import Derived.OrdersIn
import Derived.StillTailTactics
import Derived.RangeFuncFrom
import Derived.Laws.EntriesVeiled
import Derived.ProofKit
import Derived.OpenShut
import Derived.JoinedCond
import Derived.Carry
import Derived.Laws.AppendOwnNone
import Derived.Lib.ItoaNum
import Derived.Deep.RegionLaw
import Derived.WalkMore
import Derived.Lib.SmallJoins
import Derived.IntWalk
import Derived.Deep.DeepCutAuto
import Derived.Laws.OwnMore
import Derived.OrdersHeld
import Derived.Deep.RegionHeld
import Derived.ArgAppend
import Derived.Deep.Slices
import Derived.Laws.CopyOwn
namespace Go.Proofs.YtooglnhlhgmhdaaGreat
set_option maxRecDepth 100000
section
open Go.RowKit
set_option linter.unusedVariables false
set_option linter.unusedSimpArgs false
theorem ArgR.parts {w : World} {v : Value} {x : Rat} {n : Nat} (h : ArgR w v x n) : ∃ (m : Bool) (zs ys : List Int) (ad bd : Option Addr) (ca cb : Nat), v = .agg #[.bool m, .slice ad zs.length ca, .slice bd ys.length cb] ∧
    ArgD w (.slice ad zs.length ca) zs ad ca ∧ ArgD w (.slice bd ys.length cb) ys bd cb ∧ ratOf m (valD zs) (valD ys) = x ∧ zs.length ≤ n ∧ ys.length ≤ n := by
  obtain ⟨zs, ys, ad, bd, ca, cb, rfl, A, B, h1, h2, h3, h4⟩ := h
  exact ⟨_, zs, ys, ad, bd, ca, cb, rfl, A, B, by rw [h1, h2, ratOf_self], h3, h4⟩
end
section
open Go.RowKit
set_option linter.unusedVariables false
set_option linter.unusedSimpArgs false
/-- elements that may be written to -/
def LootE (G gl : Nat) (w : World) (v : Value) : Prop := ∃ (b : Option Addr) (m cap : Nat), v = .slice b m cap ∧ m ≤ maxLen ∧ (m = 0 ∨ ∃ (bb : Nat) (cs : Array Value), b = some ⟨bb, 0, none⟩ ∧ Row w bb 58 cs ∧
  ∀ k, k < m → ∃ x y, cs[k * 3 + 1]? = some x ∧ cs[k * 3 + 2]? = some y ∧ Cellz G gl w x ∧ Cellz G gl w y)
theorem LootE.mono {lo lo' g g' : Nat} {w : World} {v : Value} (h : LootE lo g w v) (hl : lo' ≤ lo) (hg : g ≤ g') : LootE lo' g' w v := by
  obtain ⟨b, m, cap, rfl, hm, h⟩ := h
  refine ⟨b, m, cap, rfl, hm, ?_⟩
  rcases h with h | ⟨bb, cs, rfl, R, hk⟩
  · exact .inl h
  · refine .inr ⟨bb, cs, rfl, R, fun k hlt => ?_⟩
    obtain ⟨x, y, h1, h2, h3, h4⟩ := hk k hlt
    exact ⟨x, y, h1, h2, (h3.mono hg).lowT hl, (h4.mono hg).lowT hl⟩
theorem CellzS.lowT {lo lo' g : Nat} {w : World} {v : Value} (h : CellzS lo g w v) (hl : lo' ≤ lo) : CellzS lo' g w v := by
  obtain ⟨ad, n, cap, rfl, hm, h⟩ := h
  refine ⟨ad, n, cap, rfl, hm, ?_⟩
  rcases h with h | ⟨b, cur, rfl, h1, h2, h3, h4⟩
  · exact .inl h
  · exact .inr ⟨b, cur, rfl, by omega, h2, h3, h4⟩
/-- a tensor that may be written to -/
def LootT (G gl : Nat) (w : World) (va vb : Value) : Prop := CellzS G gl w va ∧ LootE G gl w vb
theorem LootT.mono {lo lo' g g' : Nat} {w : World} {va vb : Value} (h : LootT lo g w va vb) (hl : lo' ≤ lo) (hg : g ≤ g') : LootT lo' g' w va vb := ⟨(h.1.mono hg).lowT hl, h.2.mono hl hg⟩
theorem LootT.kept {G gl gb : Nat} {w w' : World} {va vb : Value} {cs : Array Value} (h : LootT G gl w va vb) (K : Kept gb w w') (R : Row w gb 26 cs) : LootT G gl w' va vb := by
  have hne : ∀ {b : Nat} {t : TypeId} {c : Array Value}, w.heap[b]? = some (.cells c t (0, 0)) → t ≠ 26 → w'.heap[b]? = some (.cells c t (0, 0)) := fun {b t c} hb ht => by
    refine (K.block b (lt_of_block hb) fun e => ?_).trans hb
    subst e
    have := hb.symm.trans R
    simp only [Option.some.injEq, Obj.cells.injEq] at this
    exact ht this.2.1
  have hcz : ∀ {v : Value}, Cellz G gl w v → Cellz G gl w' v := fun {v} hv => by
    obtain ⟨ad, n, cap, rfl, hm, hv⟩ := hv
    refine ⟨ad, n, cap, rfl, hm, ?_⟩
    rcases hv with hv | ⟨b, cur, rfl, h1, h2, h3, h4⟩
    · exact .inl hv
    · exact .inr ⟨b, cur, rfl, h1, h2, hne h3 (by decide), h4⟩
  obtain ⟨hs, he⟩ := h
  constructor
  · obtain ⟨ad, n, cap, rfl, hm, hv⟩ := hs
    refine ⟨ad, n, cap, rfl, hm, ?_⟩
    rcases hv with hv | ⟨b, cur, rfl, h1, h2, h3, h4⟩
    · exact .inl hv
    · exact .inr ⟨b, cur, rfl, h1, h2, hne h3 (by decide), h4⟩
  · obtain ⟨b, m, cap, rfl, hm, he⟩ := he
    refine ⟨b, m, cap, rfl, hm, ?_⟩
    rcases he with he | ⟨bb, c, rfl, R2, hk⟩
    · exact .inl he
    · refine .inr ⟨bb, c, rfl, hne R2 (by decide), fun k hlt => ?_⟩
      obtain ⟨x, y, h1, h2, h3, h4⟩ := hk k hlt
      exact ⟨x, y, h1, h2, hcz h3, hcz h4⟩
/-- a list of tensors that may be written to -/
def Loots (G gl gb n : Nat) (w : World) (cs : Array Value) : Prop := Row w gb 26 cs ∧ ∀ i, i < n → ∃ va vb, cs[i * 2]? = some va ∧ cs[i * 2 + 1]? = some vb ∧ LootT G gl w va vb
theorem Loots.two {G gl : Nat} {w : World} {gb : Nat} {v0 v1 v2 v3 : Value} (R : Row w gb 26 #[v0, v1, v2, v3]) (h0 : LootT G gl w v0 v1) (h1 : LootT G gl w v2 v3) : Loots G gl gb 2 w #[v0, v1, v2, v3] :=
  ⟨R, fun i hi => by
    have hc : i = 0 ∨ i = 1 := by omega
    rcases hc with rfl | rfl
    · exact ⟨v0, v1, rfl, rfl, h0⟩
    · exact ⟨v2, v3, rfl, rfl, h1⟩⟩
theorem Loots.three {G gl B : Nat} {w : World} {v : Value} {v0 v1 v2 v3 v4 v5 : Value} (h : w.ownsRow B 26 2 v 3 [v0, v1, v2, v3, v4, v5]) (h0 : LootT G gl w v0 v1) (h1 : LootT G gl w v2 v3) (h2 : LootT G gl w v4 v5) :
    ∃ gb cap cs, v = .slice (some ⟨gb, 0, none⟩) 3 cap ∧ Loots G gl gb 3 w cs := by
  obtain ⟨_, hv⟩ := h
  rcases hv with ⟨_, hn⟩ | ⟨g, cap, cur, rfl, hb, hg, hc, hm, hs, ht⟩
  · cases hn
  · have hat : ∀ j, j < 6 → cur[j]? = [v0, v1, v2, v3, v4, v5][j]? := fun j hj => by
      have e1 : (cur.toList.take (3 * 2))[j]? = [v0, v1, v2, v3, v4, v5][j]? := by rw [ht]
      rw [List.getElem?_take, if_pos (by omega), Array.getElem?_toList] at e1
      exact e1
    refine ⟨g, cap, cur, rfl, hg, fun i hi => ?_⟩
    have hc : i = 0 ∨ i = 1 ∨ i = 2 := by omega
    rcases hc with rfl | rfl | rfl
    · exact ⟨v0, v1, hat 0 (by omega), hat 1 (by omega), h0⟩
    · exact ⟨v2, v3, hat 2 (by omega), hat 3 (by omega), h1⟩
    · exact ⟨v4, v5, hat 4 (by omega), hat 5 (by omega), h2⟩
end
end Go.Proofs.YtooglnhlhgmhdaaGreat
