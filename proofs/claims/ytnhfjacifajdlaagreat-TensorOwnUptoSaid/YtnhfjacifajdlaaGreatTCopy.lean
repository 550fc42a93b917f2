/-
  append(nil, b..) where b is of another slice type; tensors in memory.
-/
import Derived.Test.YtnhfjacifajdlaaGreatTOrd
import Derived.ArgAppend
import Derived.Laws.AppendOwnNone
namespace Go.Proofs.YtnhfjacifajdlaaGreat
open Go.RowKit
set_option linter.unusedVariables false
set_option linter.unusedSimpArgs false

theorem append_types {P : Program} {t t' e e' : TypeId} (ht : P.underlying t = some (.slice e)) (ht' : P.underlying t' = some (.slice e')) (ty : TypeId) (v x : Value) (w : World) :
    (Builtin.append_ #[t, t'] ty #[v, x]).run P w = (Builtin.append_ #[t, t] ty #[v, x]).run P w := by
  unfold Builtin.append_
  cases v <;> simp [run_underlying ht, run_underlying ht']
set_option maxRecDepth 100000 in
/-- append(nil, b..) -/
theorem step_copyT {ops : Array Oper} {rest : List Oper} {o : Oper} {a : Act} {w : World} {Q : Exit → Act → World → Prop} (hg : o.guard = none) (t : Nat) (T T' : TypeId) (hT : Tryz.prog.underlying T = some (.slice 3)) (hT' : Tryz.prog.underlying T' = some (.slice 3))
    (hop : o.op = Op.call { callee := Callee.builtin Builtin.append, args := #[Operand.const (.slice none 0 0), Operand.tmp t], argTypes := #[T, T'] }) {xs : List Int} {ad : Option Addr} {cap : Nat} {u : Value} (hx : a.eval (.tmp t) = u)
    (hA : ArgS w u xs ad cap) (hn : ad = none → cap = 0) (hl : xs.length ≤ 17592186044416)
    (h : ∀ v' w1, ResS w.heap.size w1 v' xs → Below w.heap.size w w1 → wpList Tryz.prog ops Q rest (a.put o.dst v') w1) : wpList Tryz.prog ops Q (o :: rest) a w := by
  obtain ⟨i0, hi, hz0, hz1, hz2⟩ := info_parts infoS
  have hnil := World.ownsRow_nil w w.heap.size 3 1
  have hs : a.eval (.const (.slice none 0 0)) = .slice none 0 0 := rfl
  obtain ⟨rfl, lx, hle, wx⟩ := hA
  cases ad with
  | none =>
    have hc := hn rfl
    subst hc
    have hxs : xs = [] := List.eq_nil_of_length_eq_zero (by omega)
    subst hxs
    refine wpList_plain hg fun K hK => ?_
    have hrun := (append_types hT hT' o.type (.slice none 0 0) (.slice none 0 0) w).trans (run_append_owned_none (P := Tryz.prog) w w.heap.size T o.type 3 i0 1 hT hi (.slice none 0 0) 0 [] hnil)
    unfold Oper.wp
    simp [execOp, hop, resolve, invoke, builtin, hs, hx, hrun, Result.andThen]
    exact hK _ _ (h _ _ ⟨hnil, wx⟩ (Below.refl _ _))
  | some ad =>
    refine wpList_plain hg fun K hK => ?_
    obtain ⟨v', w', hr, hown, hgrow, _⟩ := run_append_own (P := Tryz.prog) w w.heap.size T o.type 3 i0 (.int .i64 0) 1 8 hT hi hz0 hz1 hz2 rfl (by decide) (.slice none 0 0) 0 [] hnil ad xs.length cap (xs.map (Value.int .i64)) (by simp) (cells_argS (cap := cap) lx) (ints_oneCell _ _) (by unfold maxLen; omega) (by omega) (Nat.le_refl _)
    have hr2 := (append_types hT hT' o.type (.slice none 0 0) (.slice (some ad) xs.length cap) w).trans hr
    unfold Oper.wp
    simp [execOp, hop, resolve, invoke, builtin, hs, hx, hr2, Result.andThen]
    refine hK _ _ (h v' w' ⟨?_, wx⟩ ((Below.refl _ w).grown hgrow (Nat.le_refl _) (fun k hk => by cases hk)))
    unfold NumS
    simpa using hown
/-- a tensor as it came in -/
structure TensQ (w : World) (v : Value) (s : List Int) (qs : List Q3) (a : Option Addr) (ca : Nat) (b : Option Addr) (cb : Nat) : Prop where
  is : v = .agg #[.slice a s.length ca, .slice b qs.length cb]
  sh : ArgS w (.slice a s.length ca) s a ca
  nila : a = none → ca = 0
  el : RowA RawQ w (.slice b qs.length cb) qs b cb
  nilb : b = none → cb = 0
theorem TensQ.later {w w' : World} {v : Value} {s : List Int} {qs : List Q3} {a b : Option Addr} {ca cb : Nat} (h : TensQ w v s qs a ca b cb) (hb : Below w.heap.size w w') : TensQ w' v s qs a ca b cb :=
  ⟨h.is, h.sh.later hb, h.nila, h.el.later hb (fun v x _ k => k.later hb), h.nilb⟩
/-- the reference's tensor -/
structure TensR (w : World) (v : Value) (s : List Int) (L : List Rat) (m : Nat) (a : Option Addr) (ca : Nat) (b : Option Addr) (cb : Nat) : Prop where
  is : v = .agg #[.slice a s.length ca, .slice b L.length cb]
  sh : ArgS w (.slice a s.length ca) s a ca
  nila : a = none → ca = 0
  el : RowA (fun w v x => ArgR w v x m) w (.slice b L.length cb) L b cb
  nilb : b = none → cb = 0
theorem TensR.later {w w' : World} {v : Value} {s : List Int} {L : List Rat} {m : Nat} {a b : Option Addr} {ca cb : Nat} (h : TensR w v s L m a ca b cb) (hb : Below w.heap.size w w') : TensR w' v s L m a ca b cb :=
  ⟨h.is, h.sh.later hb, h.nila, h.el.later hb (fun v x _ k => k.later hb), h.nilb⟩
theorem infoR : (Tryz.prog.info? 50).map (fun i => (i.zero, i.size, i.bytes)) = some (some (.agg #[.bool false, .slice none 0 0, .slice none 0 0]), 3, 56) := by kernel_rfl
theorem infoQ : (Tryz.prog.info? 44).map (fun i => (i.zero, i.size, i.bytes)) = some (some (.agg #[.bool false, .slice none 0 0, .slice none 0 0]), 3, 56) := by kernel_rfl
/-- the block that an append may write to -/
theorem OwnE.hits {base : Nat} {T : TypeId} {w : World} {v : Value} {es : List E3} (h : OwnE base T w v es) (hb : base ≤ w.heap.size) : ∃ r, (v.ownBlock = none ∨ v.ownBlock = some r) ∧ base ≤ r ∧ ∀ g t cs, Row w g t cs → t ≠ T → g ≠ r := by
  have hlt := h.lt
  cases e : v.ownBlock with
  | none => exact ⟨w.heap.size, .inl rfl, hb, fun g t cs R _ => by have := R.lt; omega⟩
  | some r =>
    refine ⟨r, .inr rfl, (hlt r e).1, fun g t cs R ht he => ?_⟩
    subst he
    obtain ⟨cur, hc⟩ := h.typed e
    have := hc.symm.trans R
    simp only [Option.some.injEq, Obj.cells.injEq] at this
    exact ht this.2.1.symm
theorem Kept.grown {r : Nat} {a w w' : World} {v : Value} (h : Kept r a w) (hg : w.grownBy w' v.ownBlock) (hv : v.ownBlock = none ∨ v.ownBlock = some r) : Kept r a w' := by
  refine ⟨hg.os.trans h.os, hg.tape.trans h.tape, hg.output.trans h.output, Nat.le_trans h.size hg.size, fun k hk hr => ?_⟩
  rw [hg.block k (Nat.lt_of_lt_of_le hk h.size) (by rcases hv with e | e <;> rw [e] <;> simp <;> omega)]
  exact h.block k hk hr
theorem Kept.cell {r : Nat} {w w' : World} (h : Kept r w w') {p : Addr} {u : Value} (hc : w.cell? p = some u) (hp : p.block ≠ r) : w'.cell? p = some u :=
  (World.cell?_of_block (h.block p.block (World.block_lt_of_cell? w p hc) hp)).trans hc
theorem ResS.far {base : Nat} {w w' : World} {u : Value} {zs : List Int} {g : Nat} {t : TypeId} {cs : Array Value} (h : ResS base w u zs) (R : Row w g t cs) (ht : t ≠ 3) (hk : ∀ k, k ≠ g → w'.heap[k]? = w.heap[k]?) : ResS base w' u zs := by
  refine ⟨?_, h.wf⟩
  obtain ⟨h1, h2⟩ := h.num
  refine ⟨h1, ?_⟩
  rcases h2 with h2 | ⟨k, cap, cur, rfl, hg0, hg', hc, hm, hs, ht'⟩
  · exact .inl h2
  · refine .inr ⟨k, cap, cur, rfl, hg0, (hk k ?_).trans hg', hc, hm, hs, ht'⟩
    rintro rfl
    have e := hg'.symm.trans R
    injection e with e
    injection e with _ e
    exact ht e.symm
theorem ResS.apart {base base' : Nat} {T : TypeId} {w w' : World} {v u : Value} {es : List E3} {zs : List Int} {o : Obj} (h : OwnE base T w v es) (hg : (w.alloc o).grownBy w' v.ownBlock) (hT : T ≠ 3) (k : ResS base' w u zs) : ResS base' w' u zs := ⟨apartE h hg hT k.num, k.wf⟩
theorem RowO.far {α : Type} {base : Nat} {T : TypeId} {P : World → Value → α → Prop} {w w' : World} {u : Value} {L : List α} {g : Nat} {t : TypeId} {cs : Array Value} (h : RowO base T P w u L) (R : Row w g t cs) (ht : t ≠ T) (hk : ∀ k, k ≠ g → w'.heap[k]? = w.heap[k]?) (hP : ∀ v x, P w v x → P w' v x) : RowO base T P w' u L := by
  obtain ⟨es, h1, h2⟩ := h
  refine ⟨es, h1.same fun k e => hk k fun e2 => ?_, h2.imp fun v x _ => hP v x⟩
  subst e2
  obtain ⟨cur, hc⟩ := h1.typed e
  have := hc.symm.trans R
  simp only [Option.some.injEq, Obj.cells.injEq] at this
  exact ht this.2.1.symm
theorem kept1 {g i : Nat} {w : World} (x : Value) : ∀ k, k ≠ g → (w.setCell ⟨g, i, none⟩ x).heap[k]? = w.heap[k]? := fun k hk => Below.heap_setCell _ _ _ _ hk
theorem Row.set21 {w : World} {g : Nat} {t : TypeId} {a b : Value} (h : Row w g t #[a, b]) (x : Value) : Row (w.setCell ⟨g, 1, none⟩ x) g t #[a, x] := h.set 1 x
theorem take_mapQ {qs : List Q3} {k : Nat} {q : Q3} (h : qs[k]? = some q) : (qs.take (k + 1)).map Q3.rat = (qs.take k).map Q3.rat ++ [q.rat] := by
  rw [List.take_add_one, h, Option.toList_some, List.map_append]; rfl
theorem take_nextL {α : Type} {qs : List α} {k : Nat} {q : α} (h : qs[k]? = some q) : qs.take (k + 1) = qs.take k ++ [q] := by rw [List.take_add_one, h]; rfl
theorem ResR.shape {base : Nat} {w : World} {v : Value} {x : Rat} {n : Nat} (h : ResR base w v x n) : ∃ m a1 n1 c1 a2 n2 c2, v = .agg #[.bool m, .slice a1 n1 c1, .slice a2 n2 c2] := by
  obtain ⟨_, _, _, _, _, _, rfl, _⟩ := h
  exact ⟨_, _, _, _, _, _, _, rfl⟩
theorem ResQ.shape {base : Nat} {w : World} {v : Value} {x : Rat} {n : Nat} (h : ResQ base w v x n) : ∃ m a1 n1 c1 a2 n2 c2, v = .agg #[.bool m, .slice a1 n1 c1, .slice a2 n2 c2] := by
  obtain ⟨_, _, _, _, _, _, rfl, _⟩ := h
  exact ⟨_, _, _, _, _, _, _, rfl⟩
theorem RawO.shape {base : Nat} {w : World} {v : Value} {q : Q3} (h : RawO base w v q) : ∃ m a1 n1 c1 a2 n2 c2, v = .agg #[.bool m, .slice a1 n1 c1, .slice a2 n2 c2] := by
  obtain ⟨_, _, _, _, rfl, _⟩ := h
  exact ⟨_, _, _, _, _, _, _, rfl⟩
theorem RowA.low {α : Type} {P : World → Value → α → Prop} {w : World} {u : Value} {L : List α} {ad : Option Addr} {cap : Nat} (h : RowA P w u L ad cap) {b o : Nat} (hn : L ≠ []) (e : ad = some ⟨b, o, none⟩) : b < w.heap.size := by
  rcases h.els with hh | ⟨b', o', es', e', c', k'⟩
  · exact absurd hh hn
  · obtain ⟨d, _, h1, _, _⟩ := k'.at (i := 0) (by rcases Nat.eq_zero_or_pos L.length with g | g
                                                  · exact absurd (List.eq_nil_of_length_eq_zero g) hn
                                                  · exact g)
    have h3 := World.block_lt_of_cell? w _ (c' 0 d h1).1
    rw [e] at e'
    simp only [Option.some.injEq, Addr.mk.injEq] at e'
    rw [e'.1]
    exact h3
theorem ownRaw_any {w : World} {v : Value} {q : Q3} (h : RawQ w v q) (hx : q.num.length ≤ 134217728) (hd : q.den.length ≤ 134217728) :
    Calls Tryz.prog 22 #[v] w fun e w' => ∃ r, e = .returned r ∧ RawO w.heap.size w' r q ∧ Below w.heap.size w w' := by
  obtain ⟨ad, bd, ca, cb, rfl, A, B, h1, h2⟩ := h
  exact ownRR_any A B hx hd h1 h2
theorem ResQ.later2 {base : Nat} {w w' : World} {v : Value} {x : Rat} {n : Nat} (h : ResQ base w v x n) (hb : Below w.heap.size w w') : ResQ base w' v x n := h.later hb
theorem ownT_slice {base sz n : Nat} {T : TypeId} {w : World} {v : Value} {xs : List Value} (h : w.ownsRow base T sz v n xs) : ∃ a c, v = .slice a n c := by
  obtain ⟨_, h2⟩ := h
  rcases h2 with ⟨rfl, rfl⟩ | ⟨g, cap, cur, rfl, _⟩
  · exact ⟨_, _, rfl⟩
  · exact ⟨_, _, rfl⟩
end Go.Proofs.YtnhfjacifajdlaaGreat
