/-
  A copy of an argument: append(nil, a..).
-/
import Derived.Test.YtdcdaielfkikhaaQLaw0
import Derived.Test.YtdcdaielfkikhaaB3
import Derived.Laws.AppendOwnNone
namespace Go.Proofs.Ytdcdaielfkikhaa
open Go.RowKit
set_option linter.unusedVariables false
set_option linter.unusedSimpArgs false

theorem step_copy {ops : Array Oper} {rest : List Oper} {o : Oper} {a : Act} {w : World} {Q : Exit → Act → World → Prop} (hg : o.guard = none) (t : Nat)
    (hop : o.op = Op.call { callee := Callee.builtin Builtin.append, args := #[Operand.const (.slice none 0 0), Operand.tmp t], argTypes := #[23, 23] }) {xs : List Int} {ad : Option Addr} {cap : Nat} {u : Value} (hx : a.eval (.tmp t) = u)
    (hA : Arg w u xs ad cap) (hn : ad = none → cap = 0) (hl : xs.length ≤ 134217728)
    (h : ∀ v' w1, Num w.heap.size w1 v' xs → Below w.heap.size w w1 → wpList Try.prog ops Q rest (a.put o.dst v') w1) : wpList Try.prog ops Q (o :: rest) a w := by
  obtain ⟨i0, hi, hz0, hz1, hz2⟩ := info_parts infoLimb
  have hnil := World.ownsRow_nil w w.heap.size 38 1
  obtain ⟨rfl, lx, hle, wx⟩ := hA
  cases ad with
  | none =>
    have hc := hn rfl
    subst hc
    have hxs : xs = [] := List.eq_nil_of_length_eq_zero (by omega)
    subst hxs
    have hrun := fun ty => run_append_owned_none (P := Try.prog) w w.heap.size 23 ty 38 i0 1 Try.underlying23 hi (.slice none 0 0) 0 [] hnil
    refine wpList_plain hg fun K hK => ?_
    have h' := hK _ _ (h _ _ hnil (Below.refl _ _))
    obtain ⟨dst, op, type, pos, after, guard⟩ := o
    simp only at hop hg h' ⊢
    subst hop
    subst hg
    simp only [List.length_nil] at hx
    have hx' : a.tmps[t]?.getD undef = .slice none 0 0 := by simpa [go_sem] using hx
    unfold Oper.wp
    simp [go_sem, hx', hrun]
    exact h'
  | some ad =>
    have hcells : ∀ j u, (xs.map (Value.int .u32))[j]? = some u → w.cell? (ad.add j) = some u := by
      intro j u hj
      rcases lx with rfl | ⟨b, off, e, hc⟩
      · simp at hj
      · cases e
        rw [List.getElem?_map] at hj
        have hjl : j < xs.length := by
          rcases Nat.lt_or_ge j xs.length with h | h
          · exact h
          · rw [List.getElem?_eq_none h] at hj; cases hj
        rw [show (⟨b, off, none⟩ : Addr).add j = ⟨b, off + j, none⟩ from (by unfold Addr.add; split <;> simp_all), hc j hjl, ← hj]
        simp [hjl]
    refine wpList_append_own w hg (.const (.slice none 0 0)) (.tmp t) 23 hop w.heap.size 38 i0 (.int .u32 0) 1 4 Try.underlying23 hi hz0 hz1 hz2 rfl (by decide) (.slice none 0 0) 0 [] rfl hnil ad xs.length cap (xs.map (Value.int .u32)) hx (by simp) hcells (ints_oneCell _ _) (by unfold maxLen; omega) (by omega) (Nat.le_refl _) ?_
    intro v' w1 hown hgrow _
    refine h v' w1 ?_ ((Below.refl _ w).grown hgrow (Nat.le_refl _) (fun k hk => by cases hk))
    unfold Num
    simpa using hown
end Go.Proofs.Ytdcdaielfkikhaa
