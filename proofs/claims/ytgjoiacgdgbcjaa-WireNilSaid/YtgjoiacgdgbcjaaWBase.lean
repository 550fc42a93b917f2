/-
  What layer 5's contracts and laws share: worlds that are kept but for one block; arguments and results; append of bytes.
-/
import Derived.Test.YtgjoiacgdgbcjaaWVar
import Derived.ProofKit
import Derived.Carry
namespace Go.Proofs.Ytgjoiacgdgbcjaa
open Go.RowKit
set_option linter.unusedVariables false
set_option linter.unusedSimpArgs false

/-- all blocks of w but g are in w' as they were -/
structure KeptC (g : Nat) (w w' : World) : Prop where
  os : w'.os = w.os
  tape : w'.tape = w.tape
  output : w'.output = w.output
  size : w.heap.size ≤ w'.heap.size
  block : ∀ k, k < w.heap.size → k ≠ g → w'.heap[k]? = w.heap[k]?
theorem KeptC.below {g B : Nat} {w w' : World} (k : KeptC g w w') (hB : B ≤ w.heap.size) (hg : B ≤ g) : Below B w w' :=
  ⟨k.os, k.tape, k.output, k.size, fun j hj => k.block j (by omega) (by omega)⟩
theorem ArgB.keptC {g : Nat} {w w' : World} {u : Value} {xs : List Int} {ad : Option Addr} {cap : Nat} (h : ArgB w u xs ad cap) (k : KeptC g w w') (hg : ∀ a, ad = some a → xs ≠ [] → a.block ≠ g) : ArgB w' u xs ad cap := by
  obtain ⟨h1, h2, h3, h4⟩ := h
  refine ⟨h1, ?_, h3, h4⟩
  rcases h2 with rfl | ⟨b, off, rfl, hc⟩
  · exact .inl rfl
  · by_cases hx : xs = []
    · exact .inl hx
    · refine .inr ⟨b, off, rfl, fun i hi => ?_⟩
      have hlt := World.block_lt_of_cell? w _ (hc i hi)
      rw [World.cell?_of_block (k.block b hlt (hg _ rfl hx))]
      exact hc i hi
theorem ArgB.older {g : Nat} {w0 w w' : World} {u : Value} {xs : List Int} {ad : Option Addr} {cap : Nat} (h0 : ArgB w0 u xs ad cap) (h : ArgB w u xs ad cap) (k : KeptC g w w') (hg : w0.heap.size ≤ g) : ArgB w' u xs ad cap :=
  h.keptC k fun a ha hx => by have := h0.lim.lt hx a ha; omega
theorem ResB.nil (base : Nat) (w : World) : ResB base w (.slice none 0 0) [] := ⟨⟨rfl, .inl ⟨rfl, rfl⟩⟩, Byt.nil⟩
theorem nil_argB (w : World) : ArgB w (.slice none 0 0) [] none 0 := ⟨rfl, .inl rfl, Nat.le_refl _, Byt.nil⟩
theorem ResB.slice {base : Nat} {w : World} {u : Value} {xs : List Int} (h : ResB base w u xs) : ∃ ad cap, u = .slice ad xs.length cap ∧ ResB base w (.slice ad xs.length cap) xs ∧ ArgB w (.slice ad xs.length cap) xs ad cap ∧ (ad = none → cap = 0) := by
  obtain ⟨ad, cap, h1, h2, h3, h4, _⟩ := h.num.read
  subst h1
  refine ⟨ad, cap, rfl, h, ⟨rfl, h2, h3, h.wf⟩, fun hn => ?_⟩
  subst hn
  obtain ⟨_, h5⟩ := h.num
  rcases h5 with ⟨e, _⟩ | ⟨g, c, cur, e, _⟩
  · simp only [Value.slice.injEq] at e; exact e.2.2
  · simp at e

theorem cells_argB {w : World} {ys : List Int} {ad : Addr} {cap : Nat} (lx : LimB w (some ad) ys) : ∀ j u, (ys.map (Value.int .u8))[j]? = some u → w.cell? (ad.add j) = some u := by
  intro j u hj
  rcases lx with rfl | ⟨b, off, e, hc⟩
  · simp at hj
  · cases e
    rw [List.getElem?_map] at hj
    have hjl : j < ys.length := by
      rcases Nat.lt_or_ge j ys.length with h | h
      · exact h
      · rw [List.getElem?_eq_none h] at hj; cases hj
    rw [show (⟨b, off, none⟩ : Addr).add j = ⟨b, off + j, none⟩ from (by unfold Addr.add; split <;> simp_all), hc j hjl, ← hj]
    simp [hjl]
theorem zig_range {k : Int} (h0 : -9223372036854775808 ≤ k) (h1 : k ≤ 9223372036854775807) : 0 ≤ zig k ∧ zig k < 18446744073709551616 := by unfold zig; split <;> omega
theorem wanted_none {o : Oper} (hg : o.guard = none) (y : Nat → Option Bool) : Region.wanted o y = true := by simp [Region.wanted, hg]
/-- append(a, b..), a of the call's own -/
theorem step_joinB {ops : Array Oper} {rest : List Oper} {o : Oper} {a : Act} {w : World} {Q : Exit → Act → World → Prop} (hg : Region.wanted o (yielded ops a.tmps) = true) (s x : Nat)
    (hop : o.op = Op.call { callee := Callee.builtin Builtin.append, args := #[Operand.tmp s, Operand.tmp x], argTypes := #[22, 22] }) {base : Nat} {v u : Value} {xs ys : List Int} {ad : Option Addr} {cap : Nat}
    (hs : a.eval (.tmp s) = v) (hx : a.eval (.tmp x) = u) (hv : ResB base w v xs) (hA : ArgB w u ys ad cap) (hn : ad = none → cap = 0) (hl : xs.length + ys.length ≤ 140737488355328) (hb : base ≤ w.heap.size)
    (h : ∀ v' w1, ResB base w1 v' (xs ++ ys) → Below base w w1 → wpList Try.prog ops Q rest (a.put o.dst v') w1) : wpList Try.prog ops Q (o :: rest) a w := by
  obtain ⟨i0, hi, hz0, hz1, hz2⟩ := info_parts infoByte
  have hw := hv.wf
  have hrow : w.ownsRow base 5 1 v xs.length (xs.map (Value.int .u8)) := hv.num
  obtain ⟨rfl, lx, hle, wx⟩ := hA
  refine wpList_step fun K hK => ?_
  rw [if_pos hg]
  cases ad with
  | none =>
    have hc := hn rfl
    subst hc
    have hxs : ys = [] := List.eq_nil_of_length_eq_zero (by omega)
    subst hxs
    have hrun := run_append_owned_none (P := Try.prog) (w := w) base 22 o.type 5 i0 1 Try.underlying22 hi v xs.length (xs.map (Value.int .u8)) hrow
    unfold Oper.wp
    simp only [List.length_nil] at hx
    simp [execOp, hop, resolve, invoke, builtin, hs, hx, hrun, Result.andThen]
    exact hK _ _ (h _ _ (by rw [List.append_nil]; exact hv) (Below.refl _ _))
  | some ad =>
    obtain ⟨v', w1, hrun, hown, hgrow, _⟩ := run_append_own (P := Try.prog) w base 22 o.type 5 i0 (.int .u8 0) 1 1 Try.underlying22 hi hz0 hz1 hz2 rfl (by decide) v xs.length (xs.map (Value.int .u8)) hrow ad ys.length cap (ys.map (Value.int .u8)) (by simp) (cells_argB (cap := cap) lx) (ints_oneCell _ _) (by unfold maxLen; omega) (by omega) hb
    unfold Oper.wp
    simp [execOp, hop, resolve, invoke, builtin, hs, hx, hrun, Result.andThen]
    refine hK _ _ (h v' w1 ⟨?_, hw.append wx⟩ ((Below.refl _ w).grown hgrow hb (fun k hk => (hv.num.lt k hk).1)))
    unfold NumB
    rw [List.length_append, List.map_append]
    exact hown

theorem KeptC.setCell (w : World) (g i : Nat) (v : Value) : KeptC g w (w.setCell ⟨g, i, none⟩ v) := by
  have hb := (Below.refl 0 w).setCell (Nat.zero_le (⟨g, i, none⟩ : Addr).block) v
  exact ⟨hb.os, hb.tape, hb.output, hb.size, fun k hk hg => Below.heap_setCell w _ v k hg⟩
theorem KeptC.trans {g : Nat} {a b c : World} (h : KeptC g a b) (k : KeptC g b c) : KeptC g a c :=
  ⟨k.os.trans h.os, k.tape.trans h.tape, k.output.trans h.output, Nat.le_trans h.size k.size, fun j hj hg => (k.block j (Nat.lt_of_lt_of_le hj h.size) hg).trans (h.block j hj hg)⟩
theorem KeptC.refl (g : Nat) (w : World) : KeptC g w w := ⟨rfl, rfl, rfl, Nat.le_refl _, fun _ _ _ => rfl⟩
end Go.Proofs.Ytgjoiacgdgbcjaa
