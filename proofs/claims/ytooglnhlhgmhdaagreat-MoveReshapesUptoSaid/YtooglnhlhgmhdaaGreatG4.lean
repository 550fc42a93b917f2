/-
  Layer 7's law TensorMay: for every tensor the law holds (arguments that hold together at most 1048576 values).
-/
import Derived.Test.YtooglnhlhgmhdaaGreatG3
import Derived.OrdersHeld
import Derived.Deep.RegionHeld
import Derived.ArgAppend
import Derived.Deep.Slices
namespace Go.Proofs.YtooglnhlhgmhdaaGreat
set_option maxRecDepth 100000
section
open Go.RowKit
variable {P : Program} {ops : Array Oper} {Q : Exit → Act → World → Prop} {md : Region.Mode} {S : World → Prop} {z : Nat}
set_option linter.unusedVariables false
set_option linter.unusedSimpArgs false
def wpAnyL (P : Program) (md : Region.Mode) (ops : Array Oper) (Q : Exit → Act → World → Prop) (S : World → Prop) (z : Nat) : Nat → Array Bool → Act → World → Prop
  | 0, listed, a, w => Region.ready md ops listed = [] ∧ Q .normal a w
  | fuel + 1, listed, a, w =>
    (Region.ready md ops listed = [] → Q .normal a w) ∧
    ∀ i ∈ Region.ready md ops listed, wpOp P ops Q i (fun a' w' => (i ≠ z → S w') ∧ wpAnyL P md ops Q S z fuel (listed.setIfInBounds i true) a' w') a w
theorem wpAny_of_L : ∀ (fuel : Nat) (listed : Array Bool) (a : Act) (w : World), wpAnyL P md ops Q S z fuel listed a w → wpAny P md ops Q fuel listed a w
  | 0, _, _, _, h => h
  | fuel + 1, _, _, _, h => ⟨h.1, fun i hi => wpOp_mono (fun a' w' h' => wpAny_of_L fuel _ a' w' h'.2) (h.2 i hi)⟩
/-- z waits for i -/
def waitsB (md : Region.Mode) (ops : Array Oper) (z i : Nat) : Bool := match ops[z]? with
  | some o => o.after.toList.any fun e => Region.binds md e && decide (e.on = i)
  | none => false
theorem waits_spec {z i : Nat} (h : waitsB md ops z i = true) : ∀ o, ops[z]? = some o → ∃ e ∈ o.after, Region.binds md e = true ∧ e.on = i := by
  intro o ho
  unfold waitsB at h
  rw [ho] at h
  obtain ⟨e, he, h2⟩ := List.any_eq_true.1 h
  rw [Bool.and_eq_true, decide_eq_true_iff] at h2
  exact ⟨e, Array.mem_toList_iff.1 he, h2⟩
theorem wpAnyL_first {i : Nat} {oi : Oper} {v : Value} (hi : ops[i]? = some oi) (hsel : ∀ (j : Nat) (o : Oper) cs b, ops[j]? = some o → o.op ≠ .select cs b)
    (hQ : ∀ c a w, Q (.panic c) (a.put oi.dst v) w → Q (.panic c) a w) (hz : ∀ o, ops[z]? = some o → ∃ e ∈ o.after, Region.binds md e = true ∧ e.on = i) :
    ∀ (fuel : Nat) (listed : Array Bool) (a : Act) (w : World),
      (∀ j oj, ops[j]? = some oj → j ≠ i → listed.getD j true = false → (∀ e ∈ oj.after, Region.binds md e = true → e.on ≠ i) → oi.apart ops oj = true) →
      i ∈ Region.ready md ops listed → YieldsIf P ops S oi v a → S w →
      wpAnyL P md ops Q S z fuel (listed.setIfInBounds i true) (a.put oi.dst v) w → wpAnyL P md ops Q S z (fuel + 1) listed a w := by
  intro fuel
  induction fuel with
  | zero =>
    intro listed a w _ hr hy hS H
    refine ⟨fun h => (by rw [h] at hr; cases hr), fun j hj => ?_⟩
    by_cases hji : j = i
    · subst hji; exact hy.wpOp hi hS ⟨fun _ => hS, H⟩
    · have := ready_mono hj hji
      rw [H.1] at this
      cases this
  | succ fuel ih =>
    intro listed a w hfree hr hy hS H
    refine ⟨fun h => (by rw [h] at hr; cases hr), fun j hj => ?_⟩
    by_cases hji : j = i
    · subst hji; exact hy.wpOp hi hS ⟨fun _ => hS, H⟩
    · have h1 := H.2 j (ready_mono hj hji)
      obtain ⟨hjun, oj, hoj, hall⟩ := mem_ready.1 hj
      have hnot : ∀ e ∈ oj.after, Region.binds md e = true → e.on ≠ i := fun e he hb heq => by
        have h1 := hall e he hb
        have h0 := (mem_ready.1 hr).1
        rw [heq] at h1
        rcases Nat.lt_or_ge i listed.size with h' | h'
        · simp [h'] at h0 h1; rw [h0] at h1; cases h1
        · simp [Array.getElem?_eq_none h'] at h1
      have hjz : j ≠ z := fun e => by
        subst e
        obtain ⟨e, he, hb, hon⟩ := hz oj hoj
        exact hnot e he hb hon
      have h2 := wpOp_putIf hoj (hfree j oj hoj hji hjun hnot) (fun cs b => hsel i oi cs b hi) (fun cs b => hsel j oj cs b hoj) hQ hy h1
      have hfree' : ∀ k ok, ops[k]? = some ok → k ≠ i → (listed.setIfInBounds j true).getD k true = false →
          (∀ e ∈ ok.after, Region.binds md e = true → e.on ≠ i) → oi.apart ops ok = true := fun k ok hk hki hun hno => by
        refine hfree k ok hk hki ?_ hno
        by_cases hjk : j = k
        · subst hjk; exact hjun
        · rw [getD_set_ne true hjk] at hun; exact hun
      refine wpOp_mono (fun a' w' h3 => ⟨fun _ => h3.2.1 hjz, ih (listed.setIfInBounds j true) a' w' hfree' (ready_mono hr (Ne.symm hji)) h3.1 (h3.2.1 hjz) ?_⟩) h2
      rw [Array.setIfInBounds_comm _ _ hji]
      exact h3.2.2
theorem wpAnyL_take {i : Nat} {oi : Oper} {v : Value} {fuel : Nat} {listed : Array Bool} {a : Act} {w : World} (hi : ops[i]? = some oi)
    (hs : Region.noSelect ops = true) (hf : Region.free md ops listed i = true) (hr : (Region.ready md ops listed).contains i = true) (hz : waitsB md ops z i = true)
    (hQ : ∀ c a w, Q (.panic c) (a.put oi.dst v) w → Q (.panic c) a w) (hy : YieldsIf P ops S oi v a) (hS : S w)
    (h : wpAnyL P md ops Q S z fuel (listed.setIfInBounds i true) (a.put oi.dst v) w) : wpAnyL P md ops Q S z (fuel + 1) listed a w :=
  wpAnyL_first hi (Region.noSelect_spec hs) hQ (waits_spec hz) fuel listed a w (Region.free_spec hi hf) (by simpa using hr) hy hS h
/-- one operation alone is ready -/
theorem wpAnyL_one {i : Nat} {o : Oper} {fuel : Nat} {listed : Array Bool} {a : Act} {w : World} (hr : Region.ready md ops listed = [i]) (ho : ops[i]? = some o)
    (h : ∀ K' : Act → World → Prop, Shut (∀ a w, (i ≠ z → S w) → ((i ≠ z → S w) → wpAnyL P md ops Q S z fuel (listed.setIfInBounds i true) a w) → K' a w) → if Region.wanted o (yielded ops a.tmps) = true then Oper.wp P o a w K' Q else K' (a.put o.dst undef) w) :
    wpAnyL P md ops Q S z (fuel + 1) listed a w := by
  refine ⟨fun h0 => (by rw [hr] at h0; cases h0), fun j hj => ?_⟩
  rw [hr, List.mem_singleton] at hj
  subst hj
  exact wpOp_step ho (fun K' hK => h K' (fun a w hS hW => hK a w ⟨hS, hW hS⟩))
theorem wpAnyL_done {listed : Array Bool} {a : Act} {w : World} (hr : Region.ready md ops listed = []) (h : Q .normal a w) :
    ∀ fuel, wpAnyL P md ops Q S z fuel listed a w
  | 0 => ⟨hr, h⟩
  | _ + 1 => ⟨fun _ => h, by rw [hr]; simp⟩
theorem wp_region_L {id : Nat} {a : Act} {w : World} (S : World → Prop) (z : Nat) (hm : P.follows .mixedOrders = true) (hS : S w.drew)
    (h : S w.drew → wpAnyL P .any ops Q S z ops.size (Array.replicate ops.size false) a w.drew) : (Code.region id ops true).wp P Q a w :=
  wp_region_any hm (wpAny_of_L _ _ _ _ (h hS))
/-- these operations are taken next -/
def Todo (_ : List Nat) (G : Prop) : Prop := G
theorem todo {G : Prop} (is : List Nat) (h : Todo is G) : G := h
theorem todone {G : Prop} (h : G) : Todo [] G := h
theorem todoL {i : Nat} {is : List Nat} {oi : Oper} {v : Value} {fuel : Nat} {listed : Array Bool} {a : Act} {w : World} (hi : ops[i]? = some oi)
    (hk : (Region.noSelect ops && Region.free md ops listed i && (Region.ready md ops listed).contains i && waitsB md ops z i) = true)
    (hQ : ∀ c a w, Q (.panic c) (a.put oi.dst v) w → Q (.panic c) a w) (hS : S w) (hy : YieldsIf P ops S oi v a)
    (h : Todo is (wpAnyL P md ops Q S z fuel (listed.setIfInBounds i true) (a.put oi.dst v) w)) : Todo (i :: is) (wpAnyL P md ops Q S z (fuel + 1) listed a w) := by
  simp only [Bool.and_eq_true] at hk
  exact wpAnyL_take hi hk.1.1.1 hk.1.1.2 hk.1.2 hk.2 hQ hy hS h
end
section
open Go.RowKit
set_option linter.unusedVariables false
set_option linter.unusedSimpArgs false
theorem append_types {P : Program} {t t' e e' : TypeId} (ht : P.underlying t = some (.slice e)) (ht' : P.underlying t' = some (.slice e')) (ty : TypeId) (v x : Value) (w : World) :
    (Builtin.append_ #[t, t'] ty #[v, x]).run P w = (Builtin.append_ #[t, t] ty #[v, x]).run P w := by
  unfold Builtin.append_
  cases v <;> simp [run_underlying ht, run_underlying ht']
set_option maxRecDepth 100000 in
/-- append(nil, b..) -/
theorem step_copyT {ops : Array Oper} {rest : List Oper} {o : Oper} {a : Act} {w : World} {Q : Exit → Act → World → Prop} (hg : o.guard = none) (t : Nat) (T T' : TypeId) (hT : Tryz.prog.underlying T = some (.slice 3)) (hT' : Tryz.prog.underlying T' = some (.slice 3))
    (hop : o.op = Op.call { callee := Callee.builtin Builtin.append, args := #[Operand.const (.slice none 0 0), Operand.tmp t], argTypes := #[T, T'] }) {xs : List Int} {ad : Option Addr} {cap : Nat} {u : Value} (hx : a.eval (.tmp t) = u)
    (hA : ArgS w u xs ad cap) (hn : ad = none → cap = 0) (hl : xs.length ≤ 17592186044416)
    (h : ∀ v' w1, ResS w.heap.size w1 v' xs → Below w.heap.size w w1 → wpList Tryz.prog ops Q rest (a.put o.dst v') w1) : wpList Tryz.prog ops Q (o :: rest) a w := by
  obtain ⟨i0, hi, hz0, hz1, hz2⟩ := info_parts infoS
  have hnil := World.ownsRow_nil w w.heap.size 3 1
  have hs : a.eval (.const (.slice none 0 0)) = .slice none 0 0 := rfl
  obtain ⟨rfl, lx, hle, wx⟩ := hA
  cases ad with
  | none =>
    have hc := hn rfl
    subst hc
    have hxs : xs = [] := List.eq_nil_of_length_eq_zero (by omega)
    subst hxs
    refine wpList_plain hg fun K hK => ?_
    have hrun := (append_types hT hT' o.type (.slice none 0 0) (.slice none 0 0) w).trans (run_append_owned_none (P := Tryz.prog) w w.heap.size T o.type 3 i0 1 hT hi (.slice none 0 0) 0 [] hnil)
    unfold Oper.wp
    simp [execOp, hop, resolve, invoke, builtin, hs, hx, hrun, Result.andThen]
    exact hK _ _ (h _ _ ⟨hnil, wx⟩ (Below.refl _ _))
  | some ad =>
    refine wpList_plain hg fun K hK => ?_
    obtain ⟨v', w', hr, hown, hgrow, _⟩ := run_append_own (P := Tryz.prog) w w.heap.size T o.type 3 i0 (.int .i64 0) 1 8 hT hi hz0 hz1 hz2 rfl (by decide) (.slice none 0 0) 0 [] hnil ad xs.length cap (xs.map (Value.int .i64)) (by simp) (cells_argS (cap := cap) lx) (ints_oneCell _ _) (by unfold maxLen; omega) (by omega) (Nat.le_refl _)
    have hr2 := (append_types hT hT' o.type (.slice none 0 0) (.slice (some ad) xs.length cap) w).trans hr
    unfold Oper.wp
    simp [execOp, hop, resolve, invoke, builtin, hs, hx, hr2, Result.andThen]
    refine hK _ _ (h v' w' ⟨?_, wx⟩ ((Below.refl _ w).grown hgrow (Nat.le_refl _) (fun k hk => by cases hk)))
    unfold NumS
    simpa using hown
/-- a tensor as it came in -/
structure TensQ (w : World) (v : Value) (s : List Int) (qs : List Q3) (a : Option Addr) (ca : Nat) (b : Option Addr) (cb : Nat) : Prop where
  is : v = .agg #[.slice a s.length ca, .slice b qs.length cb]
  sh : ArgS w (.slice a s.length ca) s a ca
  nila : a = none → ca = 0
  el : RowA RawQ w (.slice b qs.length cb) qs b cb
  nilb : b = none → cb = 0
theorem TensQ.later {w w' : World} {v : Value} {s : List Int} {qs : List Q3} {a b : Option Addr} {ca cb : Nat} (h : TensQ w v s qs a ca b cb) (hb : Below w.heap.size w w') : TensQ w' v s qs a ca b cb :=
  ⟨h.is, h.sh.later hb, h.nila, h.el.later hb (fun v x _ k => k.later hb), h.nilb⟩
/-- the reference's tensor -/
structure TensR (w : World) (v : Value) (s : List Int) (L : List Rat) (m : Nat) (a : Option Addr) (ca : Nat) (b : Option Addr) (cb : Nat) : Prop where
  is : v = .agg #[.slice a s.length ca, .slice b L.length cb]
  sh : ArgS w (.slice a s.length ca) s a ca
  nila : a = none → ca = 0
  el : RowA (fun w v x => ArgR w v x m) w (.slice b L.length cb) L b cb
  nilb : b = none → cb = 0
theorem TensR.later {w w' : World} {v : Value} {s : List Int} {L : List Rat} {m : Nat} {a b : Option Addr} {ca cb : Nat} (h : TensR w v s L m a ca b cb) (hb : Below w.heap.size w w') : TensR w' v s L m a ca b cb :=
  ⟨h.is, h.sh.later hb, h.nila, h.el.later hb (fun v x _ k => k.later hb), h.nilb⟩
theorem infoR : (Tryz.prog.info? 75).map (fun i => (i.zero, i.size, i.bytes)) = some (some (.agg #[.bool false, .slice none 0 0, .slice none 0 0]), 3, 56) := by kernel_rfl
theorem infoQ : (Tryz.prog.info? 58).map (fun i => (i.zero, i.size, i.bytes)) = some (some (.agg #[.bool false, .slice none 0 0, .slice none 0 0]), 3, 56) := by kernel_rfl
/-- the block that an append may write to -/
theorem OwnE.hits {base : Nat} {T : TypeId} {w : World} {v : Value} {es : List E3} (h : OwnE base T w v es) (hb : base ≤ w.heap.size) : ∃ r, (v.ownBlock = none ∨ v.ownBlock = some r) ∧ base ≤ r ∧ ∀ g t cs, Row w g t cs → t ≠ T → g ≠ r := by
  have hlt := h.lt
  cases e : v.ownBlock with
  | none => exact ⟨w.heap.size, .inl rfl, hb, fun g t cs R _ => by have := R.lt; omega⟩
  | some r =>
    refine ⟨r, .inr rfl, (hlt r e).1, fun g t cs R ht he => ?_⟩
    subst he
    obtain ⟨cur, hc⟩ := h.typed e
    have := hc.symm.trans R
    simp only [Option.some.injEq, Obj.cells.injEq] at this
    exact ht this.2.1.symm
theorem Kept.grown {r : Nat} {a w w' : World} {v : Value} (h : Kept r a w) (hg : w.grownBy w' v.ownBlock) (hv : v.ownBlock = none ∨ v.ownBlock = some r) : Kept r a w' := by
  refine ⟨hg.os.trans h.os, hg.tape.trans h.tape, hg.output.trans h.output, Nat.le_trans h.size hg.size, fun k hk hr => ?_⟩
  rw [hg.block k (Nat.lt_of_lt_of_le hk h.size) (by rcases hv with e | e <;> rw [e] <;> simp <;> omega)]
  exact h.block k hk hr
theorem Kept.cell {r : Nat} {w w' : World} (h : Kept r w w') {p : Addr} {u : Value} (hc : w.cell? p = some u) (hp : p.block ≠ r) : w'.cell? p = some u :=
  (World.cell?_of_block (h.block p.block (World.block_lt_of_cell? w p hc) hp)).trans hc
theorem ResS.far {base : Nat} {w w' : World} {u : Value} {zs : List Int} {g : Nat} {t : TypeId} {cs : Array Value} (h : ResS base w u zs) (R : Row w g t cs) (ht : t ≠ 3) (hk : ∀ k, k ≠ g → w'.heap[k]? = w.heap[k]?) : ResS base w' u zs := by
  refine ⟨?_, h.wf⟩
  obtain ⟨h1, h2⟩ := h.num
  refine ⟨h1, ?_⟩
  rcases h2 with h2 | ⟨k, cap, cur, rfl, hg0, hg', hc, hm, hs, ht'⟩
  · exact .inl h2
  · refine .inr ⟨k, cap, cur, rfl, hg0, (hk k ?_).trans hg', hc, hm, hs, ht'⟩
    rintro rfl
    have e := hg'.symm.trans R
    injection e with e
    injection e with _ e
    exact ht e.symm
theorem ResS.apart {base base' : Nat} {T : TypeId} {w w' : World} {v u : Value} {es : List E3} {zs : List Int} {o : Obj} (h : OwnE base T w v es) (hg : (w.alloc o).grownBy w' v.ownBlock) (hT : T ≠ 3) (k : ResS base' w u zs) : ResS base' w' u zs := ⟨apartE h hg hT k.num, k.wf⟩
theorem RowO.far {α : Type} {base : Nat} {T : TypeId} {P : World → Value → α → Prop} {w w' : World} {u : Value} {L : List α} {g : Nat} {t : TypeId} {cs : Array Value} (h : RowO base T P w u L) (R : Row w g t cs) (ht : t ≠ T) (hk : ∀ k, k ≠ g → w'.heap[k]? = w.heap[k]?) (hP : ∀ v x, P w v x → P w' v x) : RowO base T P w' u L := by
  obtain ⟨es, h1, h2⟩ := h
  refine ⟨es, h1.same fun k e => hk k fun e2 => ?_, h2.imp fun v x _ => hP v x⟩
  subst e2
  obtain ⟨cur, hc⟩ := h1.typed e
  have := hc.symm.trans R
  simp only [Option.some.injEq, Obj.cells.injEq] at this
  exact ht this.2.1.symm
theorem kept1 {g i : Nat} {w : World} (x : Value) : ∀ k, k ≠ g → (w.setCell ⟨g, i, none⟩ x).heap[k]? = w.heap[k]? := fun k hk => Below.heap_setCell _ _ _ _ hk
theorem Row.set21 {w : World} {g : Nat} {t : TypeId} {a b : Value} (h : Row w g t #[a, b]) (x : Value) : Row (w.setCell ⟨g, 1, none⟩ x) g t #[a, x] := h.set 1 x
theorem take_mapQ {qs : List Q3} {k : Nat} {q : Q3} (h : qs[k]? = some q) : (qs.take (k + 1)).map Q3.rat = (qs.take k).map Q3.rat ++ [q.rat] := by
  rw [List.take_add_one, h, Option.toList_some, List.map_append]; rfl
theorem take_nextL {α : Type} {qs : List α} {k : Nat} {q : α} (h : qs[k]? = some q) : qs.take (k + 1) = qs.take k ++ [q] := by rw [List.take_add_one, h]; rfl
theorem ResR.shape {base : Nat} {w : World} {v : Value} {x : Rat} {n : Nat} (h : ResR base w v x n) : ∃ m a1 n1 c1 a2 n2 c2, v = .agg #[.bool m, .slice a1 n1 c1, .slice a2 n2 c2] := by
  obtain ⟨_, _, _, _, _, _, rfl, _⟩ := h
  exact ⟨_, _, _, _, _, _, _, rfl⟩
theorem ResQ.shape {base : Nat} {w : World} {v : Value} {x : Rat} {n : Nat} (h : ResQ base w v x n) : ∃ m a1 n1 c1 a2 n2 c2, v = .agg #[.bool m, .slice a1 n1 c1, .slice a2 n2 c2] := by
  obtain ⟨_, _, _, _, _, _, rfl, _⟩ := h
  exact ⟨_, _, _, _, _, _, _, rfl⟩
theorem RawO.shape {base : Nat} {w : World} {v : Value} {q : Q3} (h : RawO base w v q) : ∃ m a1 n1 c1 a2 n2 c2, v = .agg #[.bool m, .slice a1 n1 c1, .slice a2 n2 c2] := by
  obtain ⟨_, _, _, _, rfl, _⟩ := h
  exact ⟨_, _, _, _, _, _, _, rfl⟩
theorem RowA.low {α : Type} {P : World → Value → α → Prop} {w : World} {u : Value} {L : List α} {ad : Option Addr} {cap : Nat} (h : RowA P w u L ad cap) {b o : Nat} (hn : L ≠ []) (e : ad = some ⟨b, o, none⟩) : b < w.heap.size := by
  rcases h.els with hh | ⟨b', o', es', e', c', k'⟩
  · exact absurd hh hn
  · obtain ⟨d, _, h1, _, _⟩ := k'.at (i := 0) (by rcases Nat.eq_zero_or_pos L.length with g | g
                                                  · exact absurd (List.eq_nil_of_length_eq_zero g) hn
                                                  · exact g)
    have h3 := World.block_lt_of_cell? w _ (c' 0 d h1).1
    rw [e] at e'
    simp only [Option.some.injEq, Addr.mk.injEq] at e'
    rw [e'.1]
    exact h3
theorem ownRaw_any {w : World} {v : Value} {q : Q3} (h : RawQ w v q) (hx : q.num.length ≤ 134217728) (hd : q.den.length ≤ 134217728) :
    Calls Tryz.prog 45 #[v] w fun e w' => ∃ r, e = .returned r ∧ RawO w.heap.size w' r q ∧ Below w.heap.size w w' := by
  obtain ⟨ad, bd, ca, cb, rfl, A, B, h1, h2⟩ := h
  exact ownRR_any A B hx hd h1 h2
theorem ownT_slice {base sz n : Nat} {T : TypeId} {w : World} {v : Value} {xs : List Value} (h : w.ownsRow base T sz v n xs) : ∃ a c, v = .slice a n c := by
  obtain ⟨_, h2⟩ := h
  rcases h2 with ⟨rfl, rfl⟩ | ⟨g, cap, cur, rfl, _⟩
  · exact ⟨_, _, rfl⟩
  · exact ⟨_, _, rfl⟩
end
section
open Go.RowKit
set_option linter.unusedVariables false
set_option linter.unusedSimpArgs false
set_option maxRecDepth 100000 in
set_option maxHeartbeats 4000000 in
theorem ofT_any {n : Nat} {w : World} {v : Value} {s : List Int} {qs : List Q3} {a b : Option Addr} {ca cb : Nat} (T : TensQ w v s qs a ca b cb) (hs : s.length ≤ 17592186044416) (hq : qs.length ≤ 1000000000)
    (hl : ∀ q ∈ qs, q.num.length ≤ n ∧ q.den.length ≤ n) (hn : n ≤ 134217728) :
    Calls Tryz.prog 50 #[v] w fun e w' => ∃ (a' b' : Option Addr) (ca' cb' : Nat), e = .returned (.agg #[.slice a' s.length ca', .slice b' qs.length cb']) ∧ ResS w.heap.size w' (.slice a' s.length ca') s ∧
      RowO w.heap.size 75 (fun W v x => ResR w.heap.size W v x (5 * n + 1)) w' (.slice b' qs.length cb') (qs.map Q3.rat) ∧ Below w.heap.size w w' := by
  obtain ⟨i0, hi, hz0, hz1, hz2⟩ := info_parts infoR
  have HT := Lib.hid T
  obtain rfl := T.is
  obtain ⟨W, hW⟩ : ∃ W, ((w.alloc (.cells #[.slice a s.length ca, .slice b qs.length cb] 26)).alloc (.cells #[.slice none 0 0, .slice none 0 0] 34)) = W := ⟨_, rfl⟩
  have R0 : Row W w.heap.size 26 #[.slice a s.length ca, .slice b qs.length cb] := by rw [← hW]; exact (Row.new _ _ _).alloc _
  have R1 : Row W (w.heap.size + 1) 34 #[.slice none 0 0, .slice none 0 0] := by rw [← hW]; have h := (Row.new (w.alloc (.cells #[.slice a s.length ca, .slice b qs.length cb] 26)) 34 #[.slice none 0 0, .slice none 0 0]); simp only [World.size_alloc] at h; exact h
  have hBW : Below w.heap.size w W := by rw [← hW]; exact ((Below.refl _ _).alloc (by simp) _).alloc (by simp) _
  have hsW : w.heap.size + 1 + 1 ≤ W.heap.size := by rw [← hW]; simp
  have AW := HT.out.sh.later hBW
  have nA := HT.out.nila
  have NA := Lib.hid nA
  obtain ⟨p0, p1, _, _⟩ := R0.two
  clear T nA
  go_enter Tryz.func50, Tryz.ntmps50
  go_wp2_with (at_builtin; refine step_copyT rfl _ 22 23 Tryz.underlying22 Tryz.underlying23 rfl rfl AW NA.out hs ?_; intro ro w3 R3 hb3; obtain ⟨a3, c3, rfl, R3', A3, n3⟩ := R3.slice)
  have hs3 := hb3.size
  have hB3 : Below w.heap.size w w3 := hBW.trans (hb3.mono (by omega))
  have hB4 : Below w.heap.size w (w3.alloc (.cells #[.slice a3 s.length c3, .slice none 0 0] 34)) := hB3.alloc (by omega) _
  have r0 := (R0.later hb3).alloc (.cells #[.slice a3 s.length c3, .slice none 0 0] 34)
  have r1 := (R1.later hb3).alloc (.cells #[.slice a3 s.length c3, .slice none 0 0] 34)
  have r2 := Row.new w3 34 #[.slice a3 s.length c3, .slice none 0 0]
  have r3 : ResS w.heap.size (w3.alloc (.cells #[.slice a3 s.length c3, .slice none 0 0] 34)) (.slice a3 s.length c3) s := (R3'.mono (by omega)).later ((Below.refl _ _).alloc (Nat.le_refl _) _)
  obtain ⟨g, hg⟩ : ∃ g, w3.heap.size = g := ⟨_, rfl⟩
  have hg2 : w.heap.size + 1 + 1 ≤ g := by omega
  rw [hg] at r2 ⊢
  generalize w3.alloc (.cells #[.slice a3 s.length c3, .slice none 0 0] 34) = W4 at *
  have H0 := Lib.hid r0
  have H1 := Lib.hid r1
  have H2 := Lib.hid r2
  have H3 := Lib.hid r3
  have HB4 := Lib.hid hB4
  clear r0 r1 r2 r3 hB4 hB3 hb3 hs3 R3 R3' A3 R0 R1 hBW AW p0 p1 hsW hg hW
  go_loopw [4] (fun i wr => ∃ (k : Nat) (v : Value), i = .int .i64 (k : Int) ∧ k ≤ qs.length ∧ Row wr w.heap.size 26 #[.slice a s.length ca, .slice b qs.length cb] ∧ Row wr (w.heap.size + 1) 34 #[.slice none 0 0, .slice none 0 0] ∧
    Row wr g 34 #[.slice a3 s.length c3, v] ∧ ResS w.heap.size wr (.slice a3 s.length c3) s ∧ RowO w.heap.size 75 (fun W v x => ResR w.heap.size W v x (5 * n + 1)) wr v ((qs.take k).map Q3.rat) ∧ Below w.heap.size w wr) (fun i _ => qs.length - (intOf i).toNat)
  case atStart => exact ⟨0, _, rfl, Nat.zero_le _, H0.out, H1.out, H2.out, H3.out, RowO.nil _ _ _ _, HB4.out⟩
  case round =>
    obtain ⟨k, v, rfl, hk, r0, r1, r2, r3, ⟨es, hown, hall⟩, hb⟩ := hrel
    have hsz := hb.size
    have c01 := r0.cell 1
    have c21 := r2.cell 1
    have hle : es.length = k := by rw [hall.1]; simp [hk]
    by_cases hlt : k < qs.length
    · obtain ⟨bb, o, x0, x1, x2, q, hbo, hqk, e0, e1, e2, hraw⟩ := (HT.out.el.later hb (fun v x _ k => k.later hb)).at hlt
      have hmem := List.mem_of_getElem? hqk
      have hb0 : bb < w.heap.size := HT.out.el.low (by intro h; rw [h] at hlt; simp at hlt) hbo
      subst hbo
      have hcall := hraw.arg (hl q hmem).1 (hl q hmem).2
      obtain ⟨r, hrv, hrb, hrne⟩ := hown.hits hsz
      have n0 := hrne _ _ _ r0 (by decide)
      have n2 := hrne _ _ _ r2 (by decide)
      have n1 := hrne _ _ _ r1 (by decide)
      have mkS : ∀ X, Kept r wr X → X.cell? ⟨g, 1, none⟩ = some v ∧ X.cell? ⟨w.heap.size, 1, none⟩ = some (.slice (some ⟨bb, o, none⟩) qs.length cb) ∧ X.cell? ⟨bb, o + k * 3, none⟩ = some x0 ∧ X.cell? ⟨bb, o + k * 3 + 1, none⟩ = some x1 ∧ X.cell? ⟨bb, o + k * 3 + 2, none⟩ = some x2 ∧ Kept r wr X := fun X h =>
        ⟨h.cell c21 n2, h.cell c01 n0, h.cell e0 (by show bb ≠ r; omega), h.cell e1 (by show bb ≠ r; omega), h.cell e2 (by show bb ≠ r; omega), h⟩
      have hltI : (k : Int) < (qs.length : Int) := by omega
      have hS0 := mkS wr.drew ((Kept.refl r wr).drew)
      go_wp2_with fail
      refine wp_region_L (S := fun X => X.cell? ⟨g, 1, none⟩ = some v ∧ X.cell? ⟨w.heap.size, 1, none⟩ = some (.slice (some ⟨bb, o, none⟩) qs.length cb) ∧ X.cell? ⟨bb, o + k * 3, none⟩ = some x0 ∧ X.cell? ⟨bb, o + k * 3 + 1, none⟩ = some x1 ∧ X.cell? ⟨bb, o + k * 3 + 2, none⟩ = some x2 ∧ Kept r wr X) (z := 11) (by kernel_rfl) hS0 (fun hHeld => ?_)
      refine todo [0, 1, 2, 3, 4, 5, 6] ?_
      iterate 7
       refine todoL (v := ?_) rfl (by kernel_rfl) (fun _ _ _ h => h) (by assumption) (Or.inl ⟨by rfl, ?_⟩) ?_
       rotate_left
       · intro w hSw; (try dsimp only at hSw); go_simp; (try with_reducible rfl)
       try simp only [Act.put, List.getElem_toArray, List.getElem_cons_succ, List.getElem_cons_zero, List.setIfInBounds_toArray, List.set_cons_zero, List.set_cons_succ]
      refine todone ?_
      refine wpAnyL_one (i := 7) (by kernel_rfl) rfl (fun K hK => ?sb7)
      go_simp
      refine (ofRR_any (hcall.later (show Below wr.heap.size wr wr.drew from (Below.refl _ _).drew)) (by omega)).mono ?_
      rintro e w5 ⟨rv, rfl, qv, hb5⟩
      have Q5 := Lib.hid qv
      obtain ⟨m5, f1, l1, j1, f2, l2, j2, rfl⟩ := qv.shape
      clear qv
      go_simp
      have hB5 : Below w.heap.size w w5 := (hb.drew).trans (hb5.mono hsz)
      have hk5 : Kept r wr w5 := ((Kept.refl r wr).drew).below hb5
      refine hK.out _ _ (fun _ => mkS _ hk5) (fun hHeld2 => ?mb7)
      clear hK K hHeld
      have hHeld := hHeld2 (by decide)
      clear hHeld2
      try simp only [Act.put, List.setIfInBounds_toArray, List.set_cons_zero, List.set_cons_succ]
      refine wpAnyL_one (i := 8) (by kernel_rfl) rfl (fun K hK => ?sb8)
      go_simp
      refine hK.out _ _ (fun _ => mkS _ (hk5.alloc _)) (fun hHeld2 => ?mb8)
      clear hK K hHeld
      have hHeld := hHeld2 (by decide)
      clear hHeld2
      try simp only [Act.put, List.setIfInBounds_toArray, List.set_cons_zero, List.set_cons_succ]
      refine wpAnyL_one (i := 9) (by kernel_rfl) rfl (fun K hK => ?sb9)
      have hb5w : Below wr.heap.size wr w5 := (Below.refl _ wr).drew.trans hb5
      have hown5 : OwnE w.heap.size 75 w5 v es := hown.later hb5w
      have hall5 : AllE (fun v x => ResR w.heap.size w5 v x (5 * n + 1)) es ((qs.take k).map Q3.rat) := hall.imp fun u x _ h => h.later hb5w
      have hsz5 := hB5.size
      refine step_append_ownT rfl _ _ 32 rfl w.heap.size 75 i0 _ 3 56 Tryz.underlying32 hi hz0 hz1 hz2 rfl (by decide) _ es.length (flat3 es) rfl (hown5.later ((Below.refl _ _).alloc (Nat.le_refl _) _)) ⟨w5.heap.size, 0, none⟩ 1 1 [.bool m5, .slice f1 l1 j1, .slice f2 l2 j2] rfl rfl (cell_three_new _ _ _ _ _) (by simp [Value.oneCell']) (by unfold maxLen; omega) (by omega) (by simp; omega) ?_
      intro v' w6 hown' hgrow _
      obtain ⟨av, cv, rfl⟩ := ownT_slice hown'
      have hk6 : Kept r wr w6 := (hk5.alloc _).grown hgrow hrv
      refine hK.out _ _ (fun _ => mkS _ hk6) (fun hHeld2 => ?mb9)
      clear hK K hHeld
      have hHeld := hHeld2 (by decide)
      clear hHeld2
      try simp only [Act.put, List.setIfInBounds_toArray, List.set_cons_zero, List.set_cons_succ]
      refine wpAnyL_take (i := 10) (v := ?va10) rfl (by kernel_rfl) (by kernel_rfl) (by kernel_rfl) (by kernel_rfl) (fun _ _ _ h => h) (Or.inl ⟨by rfl, ?ha10⟩) (by assumption) ?ra10
      case ha10 =>
        intro w hSw
        try dsimp only at hSw
        go_simp
        try with_reducible rfl
      try simp only [Act.put, List.setIfInBounds_toArray, List.set_cons_zero, List.set_cons_succ]
      have R26 := r2.kept hk6 n2
      have f21 := R26.free 1
      have d21 := R26.cell 1
      refine wpAnyL_one (i := 11) (by kernel_rfl) rfl (fun K hK => ?sb11)
      go_simp
      refine hK.out _ _ (fun h => absurd rfl h) (fun _ => ?mb11)
      clear hK K
      try simp only [Act.put, List.setIfInBounds_toArray, List.set_cons_zero, List.set_cons_succ]
      refine wpAnyL_done (by kernel_rfl) ?_ _
      go_wp2
      go_roundw
      case rel =>
        have hx5 : ResR w.heap.size w5 (E3.agg ⟨.bool m5, .slice f1 l1 j1, .slice f2 l2 j2⟩) q.rat (5 * n + 1) := Q5.out.mono (by show w.heap.size ≤ wr.heap.size; exact hsz)
        obtain ⟨hrow6, hb6⟩ := pushE (P := fun W v x => ResR w.heap.size W v x (5 * n + 1)) (e := ⟨.bool m5, .slice f1 l1 j1, .slice f2 l2 j2⟩) hB5 hsz5 hown5 hall5 hx5 (fun u y h => ResR.apart hown5 hgrow (by decide) h) hown' hgrow
        rw [hle] at hrow6
        have r06 := r0.kept hk6 n0
        have r16 := r1.kept hk6 n1
        have r36 : ResS w.heap.size w6 (.slice a3 s.length c3) s := ResS.apart hown5 hgrow (by decide) (r3.later hb5w)
        refine ⟨k + 1, _, by go_num, by omega, r06.far (by show w.heap.size ≠ g; omega) _, r16.far (by show w.heap.size + 1 ≠ g; omega) _, R26.set21 _, r36.far R26 (by decide) (kept1 _), ?_, hb6.setCell (by show w.heap.size ≤ g; omega) _⟩
        rw [take_mapQ hqk]
        exact hrow6.far R26 (by decide) (kept1 _) (fun u y h => h.far R26 (by decide) (kept1 _))
      case measure => simp [intOf]; omega
    · obtain rfl : k = qs.length := by omega
      have hltI : ¬ (qs.length : Int) < (qs.length : Int) := by omega
      rw [List.take_length] at hall
      obtain ⟨av, cv, rfl⟩ := ownT_slice hown
      have hel : es.length = qs.length := hle
      rw [hel] at r2 hown
      have c20 := r2.cell 0
      have d21 := r2.cell 1
      have f10 := r1.free 0
      have f11 := r1.free 1
      have g10 := r1.cell 0
      have g11 := r1.cell 1
      have R1s := r1.set2 (.slice a3 s.length c3) (.slice av qs.length cv)
      obtain ⟨z0, z1, _, _⟩ := R1s.two
      have HOWN := Lib.hid hown
      have HALL := Lib.hid hall
      have HR1 := Lib.hid r1
      clear hown hall hle R1s r1
      go_wp2
      refine bodyPost_ret (v := .agg #[.slice a3 s.length c3, .slice av qs.length cv]) (by simp [results, Tryz.results50, go_sem, z0, z1]) rfl ⟨_, _, _, _, rfl, ?_, ?_, below_set2 hb (by omega) _ _⟩
      · exact r3.far HR1.out (by decide) (kept2 _ _)
      · exact RowO.far ⟨es, HOWN.out, HALL.out⟩ HR1.out (by decide) (kept2 _ _) (fun u y h => h.far HR1.out (by decide) (kept2 _ _))
end
section
open Go.RowKit
set_option linter.unusedVariables false
set_option linter.unusedSimpArgs false
set_option maxRecDepth 100000 in
set_option maxHeartbeats 4000000 in
theorem ownT_any {w : World} {v : Value} {s : List Int} {qs : List Q3} {a b : Option Addr} {ca cb : Nat} (T : TensQ w v s qs a ca b cb) (hs : s.length ≤ 17592186044416) (hq : qs.length ≤ 1000000000)
    (hl : ∀ q ∈ qs, q.num.length ≤ 134217728 ∧ q.den.length ≤ 134217728) :
    Calls Tryz.prog 14 #[v] w fun e w' => ∃ (a' b' : Option Addr) (ca' cb' : Nat), e = .returned (.agg #[.slice a' s.length ca', .slice b' qs.length cb']) ∧ ResS w.heap.size w' (.slice a' s.length ca') s ∧
      RowO w.heap.size 58 (fun W v x => RawO w.heap.size W v x) w' (.slice b' qs.length cb') (qs) ∧ Below w.heap.size w w' := by
  obtain ⟨i0, hi, hz0, hz1, hz2⟩ := info_parts infoQ
  have HT := Lib.hid T
  obtain rfl := T.is
  obtain ⟨W, hW⟩ : ∃ W, ((w.alloc (.cells #[.slice a s.length ca, .slice b qs.length cb] 26)).alloc (.cells #[.slice none 0 0, .slice none 0 0] 26)) = W := ⟨_, rfl⟩
  have R0 : Row W w.heap.size 26 #[.slice a s.length ca, .slice b qs.length cb] := by rw [← hW]; exact (Row.new _ _ _).alloc _
  have R1 : Row W (w.heap.size + 1) 26 #[.slice none 0 0, .slice none 0 0] := by rw [← hW]; have h := (Row.new (w.alloc (.cells #[.slice a s.length ca, .slice b qs.length cb] 26)) 26 #[.slice none 0 0, .slice none 0 0]); simp only [World.size_alloc] at h; exact h
  have hBW : Below w.heap.size w W := by rw [← hW]; exact ((Below.refl _ _).alloc (by simp) _).alloc (by simp) _
  have hsW : w.heap.size + 1 + 1 ≤ W.heap.size := by rw [← hW]; simp
  have AW := HT.out.sh.later hBW
  have nA := HT.out.nila
  have NA := Lib.hid nA
  obtain ⟨p0, p1, _, _⟩ := R0.two
  clear T nA
  go_enter Tryz.func14, Tryz.ntmps14
  go_wp2_with (at_builtin; refine step_copyT rfl _ 23 23 Tryz.underlying23 Tryz.underlying23 rfl rfl AW NA.out hs ?_; intro ro w3 R3 hb3; obtain ⟨a3, c3, rfl, R3', A3, n3⟩ := R3.slice)
  have hs3 := hb3.size
  have hB3 : Below w.heap.size w w3 := hBW.trans (hb3.mono (by omega))
  have hB4 : Below w.heap.size w (w3.alloc (.cells #[.slice a3 s.length c3, .slice none 0 0] 26)) := hB3.alloc (by omega) _
  have r0 := (R0.later hb3).alloc (.cells #[.slice a3 s.length c3, .slice none 0 0] 26)
  have r1 := (R1.later hb3).alloc (.cells #[.slice a3 s.length c3, .slice none 0 0] 26)
  have r2 := Row.new w3 26 #[.slice a3 s.length c3, .slice none 0 0]
  have r3 : ResS w.heap.size (w3.alloc (.cells #[.slice a3 s.length c3, .slice none 0 0] 26)) (.slice a3 s.length c3) s := (R3'.mono (by omega)).later ((Below.refl _ _).alloc (Nat.le_refl _) _)
  obtain ⟨g, hg⟩ : ∃ g, w3.heap.size = g := ⟨_, rfl⟩
  have hg2 : w.heap.size + 1 + 1 ≤ g := by omega
  rw [hg] at r2 ⊢
  generalize w3.alloc (.cells #[.slice a3 s.length c3, .slice none 0 0] 26) = W4 at *
  have H0 := Lib.hid r0
  have H1 := Lib.hid r1
  have H2 := Lib.hid r2
  have H3 := Lib.hid r3
  have HB4 := Lib.hid hB4
  clear r0 r1 r2 r3 hB4 hB3 hb3 hs3 R3 R3' A3 R0 R1 hBW AW p0 p1 hsW hg hW
  go_loopw [4] (fun i wr => ∃ (k : Nat) (v : Value), i = .int .i64 (k : Int) ∧ k ≤ qs.length ∧ Row wr w.heap.size 26 #[.slice a s.length ca, .slice b qs.length cb] ∧ Row wr (w.heap.size + 1) 26 #[.slice none 0 0, .slice none 0 0] ∧
    Row wr g 26 #[.slice a3 s.length c3, v] ∧ ResS w.heap.size wr (.slice a3 s.length c3) s ∧ RowO w.heap.size 58 (fun W v x => RawO w.heap.size W v x) wr v (qs.take k) ∧ Below w.heap.size w wr) (fun i _ => qs.length - (intOf i).toNat)
  case atStart => exact ⟨0, _, rfl, Nat.zero_le _, H0.out, H1.out, H2.out, H3.out, RowO.nil _ _ _ _, HB4.out⟩
  case round =>
    obtain ⟨k, v, rfl, hk, r0, r1, r2, r3, ⟨es, hown, hall⟩, hb⟩ := hrel
    have hsz := hb.size
    have c01 := r0.cell 1
    have c21 := r2.cell 1
    have hle : es.length = k := by rw [hall.1]; simp [hk]
    by_cases hlt : k < qs.length
    · obtain ⟨bb, o, x0, x1, x2, q, hbo, hqk, e0, e1, e2, hraw⟩ := (HT.out.el.later hb (fun v x _ k => k.later hb)).at hlt
      have hmem := List.mem_of_getElem? hqk
      have hb0 : bb < w.heap.size := HT.out.el.low (by intro h; rw [h] at hlt; simp at hlt) hbo
      subst hbo
      have hcall := hraw
      obtain ⟨r, hrv, hrb, hrne⟩ := hown.hits hsz
      have n0 := hrne _ _ _ r0 (by decide)
      have n2 := hrne _ _ _ r2 (by decide)
      have n1 := hrne _ _ _ r1 (by decide)
      have mkS : ∀ X, Kept r wr X → X.cell? ⟨g, 1, none⟩ = some v ∧ X.cell? ⟨w.heap.size, 1, none⟩ = some (.slice (some ⟨bb, o, none⟩) qs.length cb) ∧ X.cell? ⟨bb, o + k * 3, none⟩ = some x0 ∧ X.cell? ⟨bb, o + k * 3 + 1, none⟩ = some x1 ∧ X.cell? ⟨bb, o + k * 3 + 2, none⟩ = some x2 ∧ Kept r wr X := fun X h =>
        ⟨h.cell c21 n2, h.cell c01 n0, h.cell e0 (by show bb ≠ r; omega), h.cell e1 (by show bb ≠ r; omega), h.cell e2 (by show bb ≠ r; omega), h⟩
      have hltI : (k : Int) < (qs.length : Int) := by omega
      have hS0 := mkS wr.drew ((Kept.refl r wr).drew)
      go_wp2_with fail
      refine wp_region_L (S := fun X => X.cell? ⟨g, 1, none⟩ = some v ∧ X.cell? ⟨w.heap.size, 1, none⟩ = some (.slice (some ⟨bb, o, none⟩) qs.length cb) ∧ X.cell? ⟨bb, o + k * 3, none⟩ = some x0 ∧ X.cell? ⟨bb, o + k * 3 + 1, none⟩ = some x1 ∧ X.cell? ⟨bb, o + k * 3 + 2, none⟩ = some x2 ∧ Kept r wr X) (z := 11) (by kernel_rfl) hS0 (fun hHeld => ?_)
      refine todo [0, 1, 2, 3, 4, 5, 6] ?_
      iterate 7
       refine todoL (v := ?_) rfl (by kernel_rfl) (fun _ _ _ h => h) (by assumption) (Or.inl ⟨by rfl, ?_⟩) ?_
       rotate_left
       · intro w hSw; (try dsimp only at hSw); go_simp; (try with_reducible rfl)
       try simp only [Act.put, List.getElem_toArray, List.getElem_cons_succ, List.getElem_cons_zero, List.setIfInBounds_toArray, List.set_cons_zero, List.set_cons_succ]
      refine todone ?_
      refine wpAnyL_one (i := 7) (by kernel_rfl) rfl (fun K hK => ?sb7)
      go_simp
      refine (ownRaw_any (hcall.later (show Below wr.heap.size wr wr.drew from (Below.refl _ _).drew)) (hl q hmem).1 (hl q hmem).2).mono ?_
      rintro e w5 ⟨rv, rfl, qv, hb5⟩
      have Q5 := Lib.hid qv
      obtain ⟨m5, f1, l1, j1, f2, l2, j2, rfl⟩ := qv.shape
      clear qv
      go_simp
      have hB5 : Below w.heap.size w w5 := (hb.drew).trans (hb5.mono hsz)
      have hk5 : Kept r wr w5 := ((Kept.refl r wr).drew).below hb5
      refine hK.out _ _ (fun _ => mkS _ hk5) (fun hHeld2 => ?mb7)
      clear hK K hHeld
      have hHeld := hHeld2 (by decide)
      clear hHeld2
      try simp only [Act.put, List.setIfInBounds_toArray, List.set_cons_zero, List.set_cons_succ]
      refine wpAnyL_one (i := 8) (by kernel_rfl) rfl (fun K hK => ?sb8)
      go_simp
      refine hK.out _ _ (fun _ => mkS _ (hk5.alloc _)) (fun hHeld2 => ?mb8)
      clear hK K hHeld
      have hHeld := hHeld2 (by decide)
      clear hHeld2
      try simp only [Act.put, List.setIfInBounds_toArray, List.set_cons_zero, List.set_cons_succ]
      refine wpAnyL_one (i := 9) (by kernel_rfl) rfl (fun K hK => ?sb9)
      have hb5w : Below wr.heap.size wr w5 := (Below.refl _ wr).drew.trans hb5
      have hown5 : OwnE w.heap.size 58 w5 v es := hown.later hb5w
      have hall5 : AllE (fun v x => RawO w.heap.size w5 v x) es (qs.take k) := hall.imp fun u x _ h => h.later hb5w
      have hsz5 := hB5.size
      refine step_append_ownT rfl _ _ 24 rfl w.heap.size 58 i0 _ 3 56 Tryz.underlying24 hi hz0 hz1 hz2 rfl (by decide) _ es.length (flat3 es) rfl (hown5.later ((Below.refl _ _).alloc (Nat.le_refl _) _)) ⟨w5.heap.size, 0, none⟩ 1 1 [.bool m5, .slice f1 l1 j1, .slice f2 l2 j2] rfl rfl (cell_three_new _ _ _ _ _) (by simp [Value.oneCell']) (by unfold maxLen; omega) (by omega) (by simp; omega) ?_
      intro v' w6 hown' hgrow _
      obtain ⟨av, cv, rfl⟩ := ownT_slice hown'
      have hk6 : Kept r wr w6 := (hk5.alloc _).grown hgrow hrv
      refine hK.out _ _ (fun _ => mkS _ hk6) (fun hHeld2 => ?mb9)
      clear hK K hHeld
      have hHeld := hHeld2 (by decide)
      clear hHeld2
      try simp only [Act.put, List.setIfInBounds_toArray, List.set_cons_zero, List.set_cons_succ]
      refine wpAnyL_take (i := 10) (v := ?va10) rfl (by kernel_rfl) (by kernel_rfl) (by kernel_rfl) (by kernel_rfl) (fun _ _ _ h => h) (Or.inl ⟨by rfl, ?ha10⟩) (by assumption) ?ra10
      case ha10 =>
        intro w hSw
        try dsimp only at hSw
        go_simp
        try with_reducible rfl
      try simp only [Act.put, List.setIfInBounds_toArray, List.set_cons_zero, List.set_cons_succ]
      have R26 := r2.kept hk6 n2
      have f21 := R26.free 1
      have d21 := R26.cell 1
      refine wpAnyL_one (i := 11) (by kernel_rfl) rfl (fun K hK => ?sb11)
      go_simp
      refine hK.out _ _ (fun h => absurd rfl h) (fun _ => ?mb11)
      clear hK K
      try simp only [Act.put, List.setIfInBounds_toArray, List.set_cons_zero, List.set_cons_succ]
      refine wpAnyL_done (by kernel_rfl) ?_ _
      go_wp2
      go_roundw
      case rel =>
        have hx5 : RawO w.heap.size w5 (E3.agg ⟨.bool m5, .slice f1 l1 j1, .slice f2 l2 j2⟩) q := Q5.out.mono (by show w.heap.size ≤ wr.heap.size; exact hsz)
        obtain ⟨hrow6, hb6⟩ := pushE (P := fun W v x => RawO w.heap.size W v x) (e := ⟨.bool m5, .slice f1 l1 j1, .slice f2 l2 j2⟩) hB5 hsz5 hown5 hall5 hx5 (fun u y h => RawO.apart hown5 hgrow (by decide) h) hown' hgrow
        rw [hle] at hrow6
        have r06 := r0.kept hk6 n0
        have r16 := r1.kept hk6 n1
        have r36 : ResS w.heap.size w6 (.slice a3 s.length c3) s := ResS.apart hown5 hgrow (by decide) (r3.later hb5w)
        refine ⟨k + 1, _, by go_num, by omega, r06.far (by show w.heap.size ≠ g; omega) _, r16.far (by show w.heap.size + 1 ≠ g; omega) _, R26.set21 _, r36.far R26 (by decide) (kept1 _), ?_, hb6.setCell (by show w.heap.size ≤ g; omega) _⟩
        rw [take_nextL hqk]
        exact hrow6.far R26 (by decide) (kept1 _) (fun u y h => h.far R26 (by decide) (kept1 _))
      case measure => simp [intOf]; omega
    · obtain rfl : k = qs.length := by omega
      have hltI : ¬ (qs.length : Int) < (qs.length : Int) := by omega
      rw [List.take_length] at hall
      obtain ⟨av, cv, rfl⟩ := ownT_slice hown
      have hel : es.length = qs.length := hle
      rw [hel] at r2 hown
      have c20 := r2.cell 0
      have d21 := r2.cell 1
      have f10 := r1.free 0
      have f11 := r1.free 1
      have g10 := r1.cell 0
      have g11 := r1.cell 1
      have R1s := r1.set2 (.slice a3 s.length c3) (.slice av qs.length cv)
      obtain ⟨z0, z1, _, _⟩ := R1s.two
      have HOWN := Lib.hid hown
      have HALL := Lib.hid hall
      have HR1 := Lib.hid r1
      clear hown hall hle R1s r1
      go_wp2
      refine bodyPost_ret (v := .agg #[.slice a3 s.length c3, .slice av qs.length cv]) (by simp [results, Tryz.results14, go_sem, z0, z1]) rfl ⟨_, _, _, _, rfl, ?_, ?_, below_set2 hb (by omega) _ _⟩
      · exact r3.far HR1.out (by decide) (kept2 _ _)
      · exact RowO.far ⟨es, HOWN.out, HALL.out⟩ HR1.out (by decide) (kept2 _ _) (fun u y h => h.far HR1.out (by decide) (kept2 _ _))
end
section
open Go.RowKit
set_option linter.unusedVariables false
set_option linter.unusedSimpArgs false
set_option maxRecDepth 100000 in
set_option maxHeartbeats 4000000 in
theorem backT_any {n : Nat} {w : World} {v : Value} {s : List Int} {qs : List Rat} {a b : Option Addr} {ca cb : Nat} (T : TensR w v s qs n a ca b cb) (hs : s.length ≤ 17592186044416) (hq : qs.length ≤ 1000000000) (hn : n ≤ 1000000000) :
    Calls Tryz.prog 91 #[v] w fun e w' => ∃ (a' b' : Option Addr) (ca' cb' : Nat), e = .returned (.agg #[.slice a' s.length ca', .slice b' qs.length cb']) ∧ ResS w.heap.size w' (.slice a' s.length ca') s ∧
      RowO w.heap.size 58 (fun W v x => ResQ w.heap.size W v x n) w' (.slice b' qs.length cb') (qs) ∧ Below w.heap.size w w' := by
  obtain ⟨i0, hi, hz0, hz1, hz2⟩ := info_parts infoQ
  have HT := Lib.hid T
  obtain rfl := T.is
  obtain ⟨W, hW⟩ : ∃ W, ((w.alloc (.cells #[.slice a s.length ca, .slice b qs.length cb] 34)).alloc (.cells #[.slice none 0 0, .slice none 0 0] 26)) = W := ⟨_, rfl⟩
  have R0 : Row W w.heap.size 34 #[.slice a s.length ca, .slice b qs.length cb] := by rw [← hW]; exact (Row.new _ _ _).alloc _
  have R1 : Row W (w.heap.size + 1) 26 #[.slice none 0 0, .slice none 0 0] := by rw [← hW]; have h := (Row.new (w.alloc (.cells #[.slice a s.length ca, .slice b qs.length cb] 34)) 26 #[.slice none 0 0, .slice none 0 0]); simp only [World.size_alloc] at h; exact h
  have hBW : Below w.heap.size w W := by rw [← hW]; exact ((Below.refl _ _).alloc (by simp) _).alloc (by simp) _
  have hsW : w.heap.size + 1 + 1 ≤ W.heap.size := by rw [← hW]; simp
  have AW := HT.out.sh.later hBW
  have nA := HT.out.nila
  have NA := Lib.hid nA
  obtain ⟨p0, p1, _, _⟩ := R0.two
  clear T nA
  go_enter Tryz.func91, Tryz.ntmps91
  go_wp2_with (at_builtin; refine step_copyT rfl _ 23 22 Tryz.underlying23 Tryz.underlying22 rfl rfl AW NA.out hs ?_; intro ro w3 R3 hb3; obtain ⟨a3, c3, rfl, R3', A3, n3⟩ := R3.slice)
  have hs3 := hb3.size
  have hB3 : Below w.heap.size w w3 := hBW.trans (hb3.mono (by omega))
  have hB4 : Below w.heap.size w (w3.alloc (.cells #[.slice a3 s.length c3, .slice none 0 0] 26)) := hB3.alloc (by omega) _
  have r0 := (R0.later hb3).alloc (.cells #[.slice a3 s.length c3, .slice none 0 0] 26)
  have r1 := (R1.later hb3).alloc (.cells #[.slice a3 s.length c3, .slice none 0 0] 26)
  have r2 := Row.new w3 26 #[.slice a3 s.length c3, .slice none 0 0]
  have r3 : ResS w.heap.size (w3.alloc (.cells #[.slice a3 s.length c3, .slice none 0 0] 26)) (.slice a3 s.length c3) s := (R3'.mono (by omega)).later ((Below.refl _ _).alloc (Nat.le_refl _) _)
  obtain ⟨g, hg⟩ : ∃ g, w3.heap.size = g := ⟨_, rfl⟩
  have hg2 : w.heap.size + 1 + 1 ≤ g := by omega
  rw [hg] at r2 ⊢
  generalize w3.alloc (.cells #[.slice a3 s.length c3, .slice none 0 0] 26) = W4 at *
  have H0 := Lib.hid r0
  have H1 := Lib.hid r1
  have H2 := Lib.hid r2
  have H3 := Lib.hid r3
  have HB4 := Lib.hid hB4
  clear r0 r1 r2 r3 hB4 hB3 hb3 hs3 R3 R3' A3 R0 R1 hBW AW p0 p1 hsW hg hW
  go_loopw [4] (fun i wr => ∃ (k : Nat) (v : Value), i = .int .i64 (k : Int) ∧ k ≤ qs.length ∧ Row wr w.heap.size 34 #[.slice a s.length ca, .slice b qs.length cb] ∧ Row wr (w.heap.size + 1) 26 #[.slice none 0 0, .slice none 0 0] ∧
    Row wr g 26 #[.slice a3 s.length c3, v] ∧ ResS w.heap.size wr (.slice a3 s.length c3) s ∧ RowO w.heap.size 58 (fun W v x => ResQ w.heap.size W v x n) wr v (qs.take k) ∧ Below w.heap.size w wr) (fun i _ => qs.length - (intOf i).toNat)
  case atStart => exact ⟨0, _, rfl, Nat.zero_le _, H0.out, H1.out, H2.out, H3.out, RowO.nil _ _ _ _, HB4.out⟩
  case round =>
    obtain ⟨k, v, rfl, hk, r0, r1, r2, r3, ⟨es, hown, hall⟩, hb⟩ := hrel
    have hsz := hb.size
    have c01 := r0.cell 1
    have c21 := r2.cell 1
    have hle : es.length = k := by rw [hall.1]; simp [hk]
    by_cases hlt : k < qs.length
    · obtain ⟨bb, o, x0, x1, x2, q, hbo, hqk, e0, e1, e2, hraw⟩ := (HT.out.el.later hb (fun v x _ k => k.later hb)).at hlt
      have hmem := List.mem_of_getElem? hqk
      have hb0 : bb < w.heap.size := HT.out.el.low (by intro h; rw [h] at hlt; simp at hlt) hbo
      subst hbo
      have hcall : ArgR wr (.agg #[x0, x1, x2]) q n := hraw
      obtain ⟨r, hrv, hrb, hrne⟩ := hown.hits hsz
      have n0 := hrne _ _ _ r0 (by decide)
      have n2 := hrne _ _ _ r2 (by decide)
      have n1 := hrne _ _ _ r1 (by decide)
      have mkS : ∀ X, Kept r wr X → X.cell? ⟨g, 1, none⟩ = some v ∧ X.cell? ⟨w.heap.size, 1, none⟩ = some (.slice (some ⟨bb, o, none⟩) qs.length cb) ∧ X.cell? ⟨bb, o + k * 3, none⟩ = some x0 ∧ X.cell? ⟨bb, o + k * 3 + 1, none⟩ = some x1 ∧ X.cell? ⟨bb, o + k * 3 + 2, none⟩ = some x2 ∧ Kept r wr X := fun X h =>
        ⟨h.cell c21 n2, h.cell c01 n0, h.cell e0 (by show bb ≠ r; omega), h.cell e1 (by show bb ≠ r; omega), h.cell e2 (by show bb ≠ r; omega), h⟩
      have hltI : (k : Int) < (qs.length : Int) := by omega
      have hS0 := mkS wr.drew ((Kept.refl r wr).drew)
      go_wp2_with fail
      refine wp_region_L (S := fun X => X.cell? ⟨g, 1, none⟩ = some v ∧ X.cell? ⟨w.heap.size, 1, none⟩ = some (.slice (some ⟨bb, o, none⟩) qs.length cb) ∧ X.cell? ⟨bb, o + k * 3, none⟩ = some x0 ∧ X.cell? ⟨bb, o + k * 3 + 1, none⟩ = some x1 ∧ X.cell? ⟨bb, o + k * 3 + 2, none⟩ = some x2 ∧ Kept r wr X) (z := 11) (by kernel_rfl) hS0 (fun hHeld => ?_)
      refine todo [0, 1, 2, 3, 4, 5, 6] ?_
      iterate 7
       refine todoL (v := ?_) rfl (by kernel_rfl) (fun _ _ _ h => h) (by assumption) (Or.inl ⟨by rfl, ?_⟩) ?_
       rotate_left
       · intro w hSw; (try dsimp only at hSw); go_simp; (try with_reducible rfl)
       try simp only [Act.put, List.getElem_toArray, List.getElem_cons_succ, List.getElem_cons_zero, List.setIfInBounds_toArray, List.set_cons_zero, List.set_cons_succ]
      refine todone ?_
      refine wpAnyL_one (i := 7) (by kernel_rfl) rfl (fun K hK => ?sb7)
      go_simp
      refine (backR_any (hcall.later (show Below wr.heap.size wr wr.drew from (Below.refl _ _).drew)) hn).mono ?_
      rintro e w5 ⟨rv, rfl, qv, hb5⟩
      have Q5 := Lib.hid qv
      obtain ⟨m5, f1, l1, j1, f2, l2, j2, rfl⟩ := qv.shape
      clear qv
      go_simp
      have hB5 : Below w.heap.size w w5 := (hb.drew).trans (hb5.mono hsz)
      have hk5 : Kept r wr w5 := ((Kept.refl r wr).drew).below hb5
      refine hK.out _ _ (fun _ => mkS _ hk5) (fun hHeld2 => ?mb7)
      clear hK K hHeld
      have hHeld := hHeld2 (by decide)
      clear hHeld2
      try simp only [Act.put, List.setIfInBounds_toArray, List.set_cons_zero, List.set_cons_succ]
      refine wpAnyL_one (i := 8) (by kernel_rfl) rfl (fun K hK => ?sb8)
      go_simp
      refine hK.out _ _ (fun _ => mkS _ (hk5.alloc _)) (fun hHeld2 => ?mb8)
      clear hK K hHeld
      have hHeld := hHeld2 (by decide)
      clear hHeld2
      try simp only [Act.put, List.setIfInBounds_toArray, List.set_cons_zero, List.set_cons_succ]
      refine wpAnyL_one (i := 9) (by kernel_rfl) rfl (fun K hK => ?sb9)
      have hb5w : Below wr.heap.size wr w5 := (Below.refl _ wr).drew.trans hb5
      have hown5 : OwnE w.heap.size 58 w5 v es := hown.later hb5w
      have hall5 : AllE (fun v x => ResQ w.heap.size w5 v x n) es (qs.take k) := hall.imp fun u x _ h => h.later hb5w
      have hsz5 := hB5.size
      refine step_append_ownT rfl _ _ 24 rfl w.heap.size 58 i0 _ 3 56 Tryz.underlying24 hi hz0 hz1 hz2 rfl (by decide) _ es.length (flat3 es) rfl (hown5.later ((Below.refl _ _).alloc (Nat.le_refl _) _)) ⟨w5.heap.size, 0, none⟩ 1 1 [.bool m5, .slice f1 l1 j1, .slice f2 l2 j2] rfl rfl (cell_three_new _ _ _ _ _) (by simp [Value.oneCell']) (by unfold maxLen; omega) (by omega) (by simp; omega) ?_
      intro v' w6 hown' hgrow _
      obtain ⟨av, cv, rfl⟩ := ownT_slice hown'
      have hk6 : Kept r wr w6 := (hk5.alloc _).grown hgrow hrv
      refine hK.out _ _ (fun _ => mkS _ hk6) (fun hHeld2 => ?mb9)
      clear hK K hHeld
      have hHeld := hHeld2 (by decide)
      clear hHeld2
      try simp only [Act.put, List.setIfInBounds_toArray, List.set_cons_zero, List.set_cons_succ]
      refine wpAnyL_take (i := 10) (v := ?va10) rfl (by kernel_rfl) (by kernel_rfl) (by kernel_rfl) (by kernel_rfl) (fun _ _ _ h => h) (Or.inl ⟨by rfl, ?ha10⟩) (by assumption) ?ra10
      case ha10 =>
        intro w hSw
        try dsimp only at hSw
        go_simp
        try with_reducible rfl
      try simp only [Act.put, List.setIfInBounds_toArray, List.set_cons_zero, List.set_cons_succ]
      have R26 := r2.kept hk6 n2
      have f21 := R26.free 1
      have d21 := R26.cell 1
      refine wpAnyL_one (i := 11) (by kernel_rfl) rfl (fun K hK => ?sb11)
      go_simp
      refine hK.out _ _ (fun h => absurd rfl h) (fun _ => ?mb11)
      clear hK K
      try simp only [Act.put, List.setIfInBounds_toArray, List.set_cons_zero, List.set_cons_succ]
      refine wpAnyL_done (by kernel_rfl) ?_ _
      go_wp2
      go_roundw
      case rel =>
        have hx5 : ResQ w.heap.size w5 (E3.agg ⟨.bool m5, .slice f1 l1 j1, .slice f2 l2 j2⟩) q n := Q5.out.mono (by show w.heap.size ≤ wr.heap.size; exact hsz)
        obtain ⟨hrow6, hb6⟩ := pushE (P := fun W v x => ResQ w.heap.size W v x n) (e := ⟨.bool m5, .slice f1 l1 j1, .slice f2 l2 j2⟩) hB5 hsz5 hown5 hall5 hx5 (fun u y h => ResQ.apart hown5 hgrow (by decide) h) hown' hgrow
        rw [hle] at hrow6
        have r06 := r0.kept hk6 n0
        have r16 := r1.kept hk6 n1
        have r36 : ResS w.heap.size w6 (.slice a3 s.length c3) s := ResS.apart hown5 hgrow (by decide) (r3.later hb5w)
        refine ⟨k + 1, _, by go_num, by omega, r06.far (by show w.heap.size ≠ g; omega) _, r16.far (by show w.heap.size + 1 ≠ g; omega) _, R26.set21 _, r36.far R26 (by decide) (kept1 _), ?_, hb6.setCell (by show w.heap.size ≤ g; omega) _⟩
        rw [take_nextL hqk]
        exact hrow6.far R26 (by decide) (kept1 _) (fun u y h => h.far R26 (by decide) (kept1 _))
      case measure => simp [intOf]; omega
    · obtain rfl : k = qs.length := by omega
      have hltI : ¬ (qs.length : Int) < (qs.length : Int) := by omega
      rw [List.take_length] at hall
      obtain ⟨av, cv, rfl⟩ := ownT_slice hown
      have hel : es.length = qs.length := hle
      rw [hel] at r2 hown
      have c20 := r2.cell 0
      have d21 := r2.cell 1
      have f10 := r1.free 0
      have f11 := r1.free 1
      have g10 := r1.cell 0
      have g11 := r1.cell 1
      have R1s := r1.set2 (.slice a3 s.length c3) (.slice av qs.length cv)
      obtain ⟨z0, z1, _, _⟩ := R1s.two
      have HOWN := Lib.hid hown
      have HALL := Lib.hid hall
      have HR1 := Lib.hid r1
      clear hown hall hle R1s r1
      go_wp2
      refine bodyPost_ret (v := .agg #[.slice a3 s.length c3, .slice av qs.length cv]) (by simp [results, Tryz.results91, go_sem, z0, z1]) rfl ⟨_, _, _, _, rfl, ?_, ?_, below_set2 hb (by omega) _ _⟩
      · exact r3.far HR1.out (by decide) (kept2 _ _)
      · exact RowO.far ⟨es, HOWN.out, HALL.out⟩ HR1.out (by decide) (kept2 _ _) (fun u y h => h.far HR1.out (by decide) (kept2 _ _))
end
section
open Go.RowKit
set_option linter.unusedVariables false
set_option linter.unusedSimpArgs false
set_option maxRecDepth 100000 in
set_option maxHeartbeats 2000000 in
theorem sameSh_any {u v : Value} {xs ys : List Int} {a b : Option Addr} {ca cb : Nat} {w : World} (A : ArgS w u xs a ca) (B : ArgS w v ys b cb) (hx : xs.length ≤ 140737488355328) :
    Calls Tryz.prog 35 #[u, v] w fun e w' => e = .returned (.bool (decide (xs = ys))) ∧ Below w.heap.size w w' := by
  have HA := Lib.hid A
  have HB := Lib.hid B
  obtain rfl := A.is
  obtain rfl := B.is
  obtain ⟨L, hL⟩ : ∃ L, xs.length = L := ⟨_, rfl⟩
  obtain ⟨M, hM⟩ : ∃ M, ys.length = M := ⟨_, rfl⟩
  obtain ⟨d, hd⟩ : ∃ d, decide (xs = ys) = d := ⟨_, rfl⟩
  have HL := Lib.hid hL
  have HM := Lib.hid hM
  have HD := Lib.hid hd
  rw [hL] at hx
  rw [hL, hM, hd]
  clear A B hL hM hd
  by_cases hlm : L = M
  · subst hlm
    have hne : ((L : Int) != (L : Int)) = false := by simp
    go_enter Tryz.func35, Tryz.ntmps35
    go_wp2
    go_loopw [5] (fun i wr => ∃ k : Nat, i = .int .i64 (k : Int) ∧ k ≤ L ∧ xs.take k = ys.take k ∧ Below w.heap.size w wr) (fun i _ => L - (intOf i).toNat)
    case atStart => exact ⟨0, rfl, Nat.zero_le _, rfl, Below.refl _ _⟩
    case round =>
      obtain ⟨k, rfl, hkL, hp, hb⟩ := hrel
      have HP := Lib.hid hp
      clear hp
      by_cases hlt : k < L
      · obtain ⟨b1, o1, rfl, hc1⟩ := (HA.out.later hb).at (i := k) (by rw [HL.out]; exact hlt)
        obtain ⟨b2, o2, rfl, hc2⟩ := (HB.out.later hb).at (i := k) (by rw [HM.out]; exact hlt)
        have e1 := take_next (xs := xs) (k := k) (by rw [HL.out]; exact hlt)
        have e2 := take_next (xs := ys) (k := k) (by rw [HM.out]; exact hlt)
        obtain ⟨x, hx⟩ : ∃ x, xs.getD k 0 = x := ⟨_, rfl⟩
        obtain ⟨y, hy⟩ : ∃ y, ys.getD k 0 = y := ⟨_, rfl⟩
        rw [hx] at hc1 e1
        rw [hy] at hc2 e2
        have E1 := Lib.hid e1
        have E2 := Lib.hid e2
        have HX := Lib.hid hx
        have HY := Lib.hid hy
        have hin : 0 ≤ (k : Int) ∧ (k : Int) < (L : Int) := by omega
        have hltI : (k : Int) < (L : Int) := by omega
        clear hx hy e1 e2
        by_cases hxy : x = y
        · subst hxy
          have hn : (x != x) = false := by simp
          go_wp2
          go_quiet (fail)
          go_wp2
          go_roundw
          case rel => exact ⟨k + 1, by go_num, by omega, by rw [E1.out, E2.out, HP.out], hb.trans (belowS_drew _ _ _)⟩
          case measure => simp [intOf]; omega
        · obtain rfl : d = false := by
            rw [← HD.out, decide_eq_false_iff_not]
            intro h
            apply hxy
            rw [← HX.out, ← HY.out, h]
          have hn : (x != y) = true := by simpa using hxy
          go_wp2
          go_quiet (fail)
          go_wp2
          go_ret
          exact ⟨rfl, hb.trans (belowS_drew _ _ _)⟩
      · obtain rfl : k = L := by omega
        obtain rfl : d = true := by
          rw [← HD.out, decide_eq_true_iff]
          have := HP.out
          rwa [take_all HL.out, take_all HM.out] at this
        have hltI : ¬ (k : Int) < (k : Int) := by omega
        go_wp2
        go_ret
        exact ⟨rfl, hb⟩
  · obtain rfl : d = false := by
      rw [← HD.out, decide_eq_false_iff_not]
      intro h
      apply hlm
      rw [← HL.out, ← HM.out, h]
    have hne : ((L : Int) != (M : Int)) = true := by simp; omega
    go_enter Tryz.func35, Tryz.ntmps35
    go_wp2
    go_ret
    exact ⟨rfl, Below.refl _ _⟩
/-- is an element valid? -/
def okQ (q : Q3) : Bool := validB q.neg q.num q.den q.rat
/-- why a tensor is not valid: 0, or an error -/
def mayT (s : List Int) (qs : List Q3) : Int := if mayC s ≠ 0 then mayC s else if (qs.length : Int) ≠ countS s then 13 else if qs.all okQ = true then 0 else 6
theorem mayT_shape {s : List Int} {qs : List Q3} (h : mayC s ≠ 0) : mayT s qs = mayC s := by unfold mayT; rw [if_pos h]
theorem mayT_len {s : List Int} {qs : List Q3} (h : mayC s = 0) (h2 : (qs.length : Int) ≠ countS s) : mayT s qs = 13 := by unfold mayT; rw [if_neg (by rw [h]; simp), if_pos h2]
theorem mayT_bad {s : List Int} {qs : List Q3} (h : mayC s = 0) (h2 : (qs.length : Int) = countS s) {q : Q3} (hq : q ∈ qs) (h3 : okQ q = false) : mayT s qs = 6 := by
  unfold mayT
  rw [if_neg (by rw [h]; simp), if_neg (by rw [h2]; simp), if_neg]
  intro e
  rw [List.all_eq_true] at e
  rw [e q hq] at h3
  cases h3
theorem mayT_ok {s : List Int} {qs : List Q3} (h : mayC s = 0) (h2 : (qs.length : Int) = countS s) (h3 : ∀ q ∈ qs, okQ q = true) : mayT s qs = 0 := by
  unfold mayT
  rw [if_neg (by rw [h]; simp), if_neg (by rw [h2]; simp), if_pos (List.all_eq_true.2 h3)]
set_option maxRecDepth 100000 in
set_option maxHeartbeats 4000000 in
theorem mayT_any {w : World} {v : Value} {s : List Int} {qs : List Q3} {a b : Option Addr} {ca cb : Nat} (T : TensQ w v s qs a ca b cb) (hq : qs.length ≤ 1000000000)
    (hl : ∀ q ∈ qs, q.num.length ≤ 134217728 ∧ q.den.length ≤ 134217728) :
    Calls Tryz.prog 28 #[v] w fun e w' => e = .returned (.int .i64 (mayT s qs)) ∧ Below w.heap.size w w' := by
  have HT := Lib.hid T
  obtain rfl := T.is
  obtain ⟨W, hW⟩ : ∃ W, (w.alloc (.cells #[.slice a s.length ca, .slice b qs.length cb] 26)) = W := ⟨_, rfl⟩
  have R0 : Row W w.heap.size 26 #[.slice a s.length ca, .slice b qs.length cb] := by rw [← hW]; exact Row.new _ _ _
  have hBW : Below w.heap.size w W := by rw [← hW]; exact (Below.refl _ _).alloc (by simp) _
  obtain ⟨c, hc⟩ : ∃ c, mayT s qs = c := ⟨_, rfl⟩
  have HC := Lib.hid hc
  obtain ⟨m, hm⟩ : ∃ m, mayC s = m := ⟨_, rfl⟩
  have HM := Lib.hid hm
  obtain ⟨t, ht⟩ : ∃ t, countS s = t := ⟨_, rfl⟩
  have HTT := Lib.hid ht
  have q1 := mayR6_any (HT.out.sh.later hBW)
  have q2 := fun X (hX : Below W.heap.size W X) => countR6_any ((HT.out.sh.later hBW).later hX)
  rw [hm] at q1
  rw [ht] at q2
  rw [hc]
  obtain ⟨p0, p1, _, _⟩ := R0.two
  clear T hc hm ht
  have mkS : ∀ X, Below W.heap.size W X → X.cell? ⟨w.heap.size, 0, none⟩ = some (.slice a s.length ca) ∧ X.cell? ⟨w.heap.size, 1, none⟩ = some (.slice b qs.length cb) ∧ Below W.heap.size W X := fun X h => ⟨(R0.later h).cell 0, (R0.later h).cell 1, h⟩
  by_cases h0 : m = 0
  · subst h0
    by_cases hlen : (qs.length : Int) = t
    · have hne : ((qs.length : Int) != t) = false := by simpa using hlen
      have HLN := Lib.hid hlen
      clear hlen
      go_enter Tryz.func28, Tryz.ntmps28
      go_wp2_with (go_at_call 55; refine q1.mono ?_; rintro e w1 ⟨rfl, rfl⟩)
      go_region_held3 (fun X => X.cell? ⟨w.heap.size, 0, none⟩ = some (.slice a s.length ca) ∧ X.cell? ⟨w.heap.size, 1, none⟩ = some (.slice b qs.length cb) ∧ Below W.heap.size W X)
        (((refine mkS _ ?_; (repeat' (first | exact Below.refl _ _ | refine Below.drew ?_)))))
        ((go_at_call 66; (with_reducible refine (q2 _ (show Below W.heap.size W _ by (repeat' (first | exact Below.refl _ _ | refine Below.drew ?_)))).mono ?_); rintro e w' ⟨rfl, rfl⟩))
      clear hne q1 hW
      go_wp2
      go_loopw [4] (fun i wr => ∃ k : Nat, i = .int .i64 (k : Int) ∧ k ≤ qs.length ∧ (∀ q ∈ qs.take k, okQ q = true) ∧ Below W.heap.size W wr) (fun i _ => qs.length - (intOf i).toNat)
      case atStart => exact ⟨0, rfl, Nat.zero_le _, fun q h => by simp at h, by first | exact Below.refl _ _ | exact (Below.refl _ _).drew⟩
      case round =>
        obtain ⟨k, rfl, hk, hall, hb⟩ := hrel
        have r0 := R0.later hb
        obtain ⟨c00, c01, _, _⟩ := r0.two
        have HALL := Lib.hid hall
        clear hall
        by_cases hlt : k < qs.length
        · have hbw := hBW.trans (hb.mono hBW.size)
          obtain ⟨bb, o, x0, x1, x2, q, hbo, hqk, e0, e1, e2, hraw⟩ := (HT.out.el.later hbw (fun v x _ k => k.later hbw)).at hlt
          have hmem := List.mem_of_getElem? hqk
          subst hbo
          obtain ⟨u1, u2, k1, k2, hx, A1, B1, _, _⟩ := hraw
          simp only [Value.agg.injEq, Array.mk.injEq, List.cons.injEq, and_true] at hx
          obtain ⟨rfl, rfl, rfl⟩ := hx
          have hcall := mayR_any (m1 := q.neg) A1 B1 (hl q hmem).1 (hl q hmem).2 (Nat.le_refl _)
          have hltI : (k : Int) < (qs.length : Int) := by omega
          have HQK := Lib.hid hqk
          clear hqk
          have hokd : okQ q = validB q.neg q.num q.den (ratOf q.neg (val q.num) (val q.den)) := rfl
          by_cases hok : okQ q = true
          · rw [← hokd, if_pos hok] at hcall
            have HOK := Lib.hid hok
            clear hok hokd
            go_wp2_with (go_at_call 67; refine hcall.mono ?_; rintro e w2 ⟨rfl, hb2⟩)
            go_roundw
            case rel =>
              refine ⟨k + 1, by go_num, by omega, fun y hy => ?_, hb.trans (hb2.mono hb.size)⟩
              rw [take_nextL HQK.out] at hy
              rcases List.mem_append.1 hy with h | h
              · exact HALL.out y h
              · rw [List.mem_singleton.1 h]; exact HOK.out
            case measure => simp [intOf]; omega
          · have hok2 : okQ q = false := by simpa using hok
            rw [← hokd, if_neg hok] at hcall
            have hcc := mayT_bad HM.out (by rw [HTT.out]; exact HLN.out) hmem hok2
            obtain rfl : c = 6 := by rw [← HC.out]; exact hcc
            clear hok hok2 hokd hcc
            go_wp2_with (go_at_call 67; refine hcall.mono ?_; rintro e w2 ⟨rfl, hb2⟩)
            go_ret
            exact ⟨rfl, hBW.trans ((hb.trans (hb2.mono hb.size)).mono hBW.size)⟩
        · obtain rfl : k = qs.length := by omega
          have hltI : ¬ (qs.length : Int) < (qs.length : Int) := by omega
          have hcc := mayT_ok HM.out (by rw [HTT.out]; exact HLN.out) (by have h := HALL.out; rwa [List.take_length] at h)
          obtain rfl : c = 0 := by rw [← HC.out]; exact hcc
          clear hcc
          go_wp2
          go_ret
          exact ⟨rfl, hBW.trans (hb.mono hBW.size)⟩
    · have hne : ((qs.length : Int) != t) = true := by simpa using hlen
      have hcc := mayT_len HM.out (by rw [HTT.out]; exact hlen)
      obtain rfl : c = 13 := by rw [← HC.out]; exact hcc
      clear hlen hcc
      go_enter Tryz.func28, Tryz.ntmps28
      go_wp2_with (go_at_call 55; refine q1.mono ?_; rintro e w1 ⟨rfl, rfl⟩)
      go_region_held3 (fun X => X.cell? ⟨w.heap.size, 0, none⟩ = some (.slice a s.length ca) ∧ X.cell? ⟨w.heap.size, 1, none⟩ = some (.slice b qs.length cb) ∧ Below W.heap.size W X)
        (((refine mkS _ ?_; (repeat' (first | exact Below.refl _ _ | refine Below.drew ?_)))))
        ((go_at_call 66; (with_reducible refine (q2 _ (show Below W.heap.size W _ by (repeat' (first | exact Below.refl _ _ | refine Below.drew ?_)))).mono ?_); rintro e w' ⟨rfl, rfl⟩))
      go_wp2
      go_ret
      exact ⟨rfl, by first | exact hBW | exact hBW.drew⟩
  · have hcc := mayT_shape (s := s) (qs := qs) (by rw [HM.out]; exact h0)
    obtain rfl : c = m := by rw [← HC.out, hcc]; exact HM.out
    have hne : (c != 0) = true := by simpa using h0
    clear hcc q2
    go_enter Tryz.func28, Tryz.ntmps28
    go_wp2_with (go_at_call 55; refine q1.mono ?_; rintro e w1 ⟨rfl, rfl⟩)
    go_ret
    exact ⟨rfl, hBW⟩
end
section
open Go.RowKit
set_option linter.unusedVariables false
set_option linter.unusedSimpArgs false
set_option maxRecDepth 100000
/-- the parts of the reference's rational number -/
def RefQ (w : World) (X : Rat) (n : Nat) (zs ys : List Int) (f g : Option Addr) (j k : Nat) : Prop :=
  ArgD w (.slice f zs.length j) zs f j ∧ ArgD w (.slice g ys.length k) ys g k ∧ valD zs = (X.num.natAbs : Int) ∧ valD ys = (X.den : Int) ∧ zs.length ≤ n ∧ ys.length ≤ n
theorem RefQ.of {w : World} {v : Value} {X : Rat} {n : Nat} {m : Bool} (h : ArgR w v X n) (hm : decide (X.num < 0) = m) : ∃ (zs ys : List Int) (f g : Option Addr) (j k : Nat), v = .agg #[.bool m, .slice f zs.length j, .slice g ys.length k] ∧ RefQ w X n zs ys f g j k := by
  subst hm
  obtain ⟨zs, ys, ad, bd, ca, cb, rfl, h⟩ := h
  exact ⟨zs, ys, ad, bd, ca, cb, rfl, h⟩
theorem RefQ.later {w w' : World} {X : Rat} {n : Nat} {zs ys : List Int} {f g : Option Addr} {j k : Nat} (h : RefQ w X n zs ys f g j k) (hb : Below w.heap.size w w') : RefQ w' X n zs ys f g j k :=
  ⟨h.1.later hb, h.2.1.later hb, h.2.2⟩
theorem RefQ.only {w w' : World} {X : Rat} {n : Nat} {zs ys : List Int} {f g : Option Addr} {j k : Nat} (h : RefQ w X n zs ys f g j k) {b : Nat} {t : TypeId} {p : Bool} {ad bd : Option Addr} {l cap m cbp : Nat} (R : Row w b t #[.bool p, .slice ad l cap, .slice bd m cbp]) (o : Only b w w') : RefQ w' X n zs ys f g j k :=
  ⟨h.1.far R (noInts3 _ _ _ _ _ _ _) o.block, h.2.1.far R (noInts3 _ _ _ _ _ _ _) o.block, h.2.2⟩
theorem sign_zeroB (a b : Int) : (sign a b == 0) = decide (a = b) := by
  unfold sign
  rw [Bool.eq_iff_iff, beq_iff_eq, decide_eq_true_iff]
  constructor
  · intro h
    split at h
    · cases h
    · split at h
      · cases h
      · omega
  · intro h
    rw [if_neg (by omega), if_neg (by omega)]
theorem rat_same (X Y : Rat) : decide (X = Y) = ((decide (X.num < 0) == decide (Y.num < 0)) && ((sign (X.num.natAbs : Int) (Y.num.natAbs : Int) == 0) && (sign (X.den : Int) (Y.den : Int) == 0))) := by
  rw [sign_zeroB, sign_zeroB, Bool.eq_iff_iff]
  simp only [decide_eq_true_iff, Bool.and_eq_true, beq_iff_eq]
  constructor
  · rintro rfl; exact ⟨rfl, rfl, rfl⟩
  · rintro ⟨h1, h2, h3⟩
    refine Rat.ext ?_ (by omega)
    have : X.num < 0 ↔ Y.num < 0 := by simpa using h1
    omega
set_option maxRecDepth 100000 in
set_option maxHeartbeats 8000000 in
theorem sameR_any {n : Nat} {w : World} {neg0 neg1 : Bool} {xs0 ds0 xs1 ds1 : List Int} {a0 b0 a1 b1 : Option Addr} {ca0 cb0 ca1 cb1 : Nat} {X Y : Rat} (hu : ArgQ w (.agg #[.bool neg0, .slice a0 xs0.length ca0, .slice b0 ds0.length cb0]) X n) (hv : ArgQ w (.agg #[.bool neg1, .slice a1 xs1.length ca1, .slice b1 ds1.length cb1]) Y n) (hn : n ≤ 16777000) :
    Calls Tryz.prog 38 #[.agg #[.bool neg0, .slice a0 xs0.length ca0, .slice b0 ds0.length cb0], .agg #[.bool neg1, .slice a1 xs1.length ca1, .slice b1 ds1.length cb1]] w fun e w' => e = .returned (.bool (decide (X = Y))) ∧ Below w.heap.size w w' := by
  obtain ⟨W, hW⟩ : ∃ W, ((w.alloc (.cells #[.bool neg0, .slice a0 xs0.length ca0, .slice b0 ds0.length cb0] 58)).alloc (.cells #[.bool neg1, .slice a1 xs1.length ca1, .slice b1 ds1.length cb1] 58)) = W := ⟨_, rfl⟩
  have R0 : Row W (w.heap.size) 58 #[.bool neg0, .slice a0 xs0.length ca0, .slice b0 ds0.length cb0] := by rw [← hW]; exact ((Row.new _ _ _).alloc _)
  have R1 : Row W (w.heap.size + 1) 58 #[.bool neg1, .slice a1 xs1.length ca1, .slice b1 ds1.length cb1] := by rw [← hW]; have h := (Row.new (w.alloc (.cells #[.bool neg0, .slice a0 xs0.length ca0, .slice b0 ds0.length cb0] 58)) 58 #[.bool neg1, .slice a1 xs1.length ca1, .slice b1 ds1.length cb1]); simp only [World.size_alloc] at h; exact h
  have hBW : Below w.heap.size w W := by rw [← hW]; exact (((Below.refl _ _).alloc (by (try simp) <;> omega) _).alloc (by (try simp) <;> omega) _)
  have hsW : w.heap.size + 1 + 1 ≤ W.heap.size := by rw [← hW]; simp
  have Q0W := hu.later hBW
  have Q1W := hv.later hBW
  obtain ⟨nA, hnA⟩ : ∃ b, decide (X.num < 0) = b := ⟨_, rfl⟩
  obtain ⟨nB, hnB⟩ : ∃ b, decide (Y.num < 0) = b := ⟨_, rfl⟩
  have HA := Lib.hid hnA
  have HB := Lib.hid hnB
  obtain ⟨res, hres⟩ : ∃ r, decide (X = Y) = r := ⟨_, rfl⟩
  have HRS := Lib.hid hres
  rw [hres]
  clear hnA hnB hu hv hres
  go_enter Tryz.func38, Tryz.ntmps38
  go_upto_region 1 with fail
  clear hW
  go_cut [5, 6] (fun s5 s6 wx => ∃ (bA : Nat) (zsA ysA : List Int) (fA gA : Option Addr) (jA kA : Nat) (bB : Nat) (zsB ysB : List Int) (fB gB : Option Addr) (jB kB : Nat), s5 = .pointer (some ⟨bA, 0, none⟩) ∧ s6 = .pointer (some ⟨bB, 0, none⟩) ∧ Row wx bA 75 #[.bool nA, .slice fA zsA.length jA, .slice gA ysA.length kA] ∧ Row wx bB 75 #[.bool nB, .slice fB zsB.length jB, .slice gB ysB.length kB] ∧ RefQ wx X (5 * n + 1) zsA ysA fA gA jA kA ∧ RefQ wx Y (5 * n + 1) zsB ysB fB gB jB kB ∧ Below W.heap.size W wx)
  case first =>
    have lt_R0 := R0.lt
    have lt_R1 := R1.lt
    have mkS : ∀ X, Kept (W.heap.size) W X → X.cell? ⟨w.heap.size, 0, none⟩ = some (.bool neg0) ∧ X.cell? ⟨w.heap.size, 1, none⟩ = some (.slice a0 xs0.length ca0) ∧ X.cell? ⟨w.heap.size, 2, none⟩ = some (.slice b0 ds0.length cb0) ∧ X.cell? ⟨w.heap.size + 1, 0, none⟩ = some (.bool neg1) ∧ X.cell? ⟨w.heap.size + 1, 1, none⟩ = some (.slice a1 xs1.length ca1) ∧ X.cell? ⟨w.heap.size + 1, 2, none⟩ = some (.slice b1 ds1.length cb1) ∧ Kept (W.heap.size) W X := fun X h => ⟨(R0.kept h (by omega)).cell 0, (R0.kept h (by omega)).cell 1, (R0.kept h (by omega)).cell 2, (R1.kept h (by omega)).cell 0, (R1.kept h (by omega)).cell 1, (R1.kept h (by omega)).cell 2, h⟩
    refine wp_region_noPanic ?_
    refine wp_region_held_drew (S := (fun X => X.cell? ⟨w.heap.size, 0, none⟩ = some (.bool neg0) ∧ X.cell? ⟨w.heap.size, 1, none⟩ = some (.slice a0 xs0.length ca0) ∧ X.cell? ⟨w.heap.size, 2, none⟩ = some (.slice b0 ds0.length cb0) ∧ X.cell? ⟨w.heap.size + 1, 0, none⟩ = some (.bool neg1) ∧ X.cell? ⟨w.heap.size + 1, 1, none⟩ = some (.slice a1 xs1.length ca1) ∧ X.cell? ⟨w.heap.size + 1, 2, none⟩ = some (.slice b1 ds1.length cb1) ∧ Kept (W.heap.size) W X)) (by kernel_rfl) (mkS _ ((Kept.refl _ _).drew)) (fun hHeld => ?_)
    refine wpAnyH_take (i := 0) (v := ?vl0) rfl (by kernel_rfl) (by kernel_rfl) (by kernel_rfl) (fun _ _ _ h => h) (Or.inl ⟨by rfl, ?hl0⟩) (by assumption) ?rl0
    case hl0 =>
      intro w hSw
      try dsimp only at hSw
      go_simp
      try with_reducible rfl
    try simp only [Act.put, List.setIfInBounds_toArray, List.set_cons_zero, List.set_cons_succ]
    refine wpAnyH_take (i := 2) (v := ?vl1) rfl (by kernel_rfl) (by kernel_rfl) (by kernel_rfl) (fun _ _ _ h => h) (Or.inl ⟨by rfl, ?hl1⟩) (by assumption) ?rl1
    case hl1 =>
      intro w hSw
      try dsimp only at hSw
      go_simp
      try with_reducible rfl
    try simp only [Act.put, List.setIfInBounds_toArray, List.set_cons_zero, List.set_cons_succ]
    obtain ⟨V0, hV0⟩ : ∃ V, W.drew = V := ⟨_, rfl⟩
    rw [hV0] at hHeld
    rw [hV0]
    have hb0 : Below W.heap.size W V0 := by rw [← hV0]; exact (Below.refl _ _).drew
    have hs0 : W.heap.size ≤ V0.heap.size := hb0.size
    clear hV0
    refine wpAnyH_ready (rs := [1, 4, 5]) (by kernel_rfl) (by simp) ?_
    refine AllReadyH.cons rfl (fun K hK => ?o1_1) (AllReadyH.cons rfl (fun K hK => ?o1_4) (AllReadyH.cons rfl (fun K hK => ?o1_5) AllReadyH.nil))
    case o1_1 =>
      go_simp
      refine (ofR_any (Q0W.later hb0) (by omega)).mono ?_
      rintro e X2 ⟨rA, rfl, qrA, hc2⟩
      obtain ⟨zsA, ysA, fA, gA, jA, kA, rfl, qA⟩ := RefQ.of qrA HA.out
      clear qrA
      go_simp
      have hbX2 : Below W.heap.size W X2 := hb0.trans (hc2.mono hs0)
      have hsX2 : W.heap.size ≤ X2.heap.size := hbX2.size
      refine hK.out _ _ (mkS _ ((Kept.refl _ _).below hbX2)) (fun hHeld2 => ?_)
      clear hK K hHeld
      have hHeld := hHeld2
      clear hHeld2
      try simp only [Act.put, List.setIfInBounds_toArray, List.set_cons_zero, List.set_cons_succ]
      refine wpAnyH_ready (rs := [3, 4, 5]) (by kernel_rfl) (by simp) ?_
      refine AllReadyH.cons rfl (fun K hK => ?o3_3) (AllReadyH.cons rfl (fun K hK => ?o3_4) (AllReadyH.cons rfl (fun K hK => ?o3_5) AllReadyH.nil))
      case o3_3 =>
        go_simp
        refine (ofR_any (Q1W.later hbX2) (by omega)).mono ?_
        rintro e X4 ⟨rB, rfl, qrB, hc4⟩
        obtain ⟨zsB, ysB, fB, gB, jB, kB, rfl, qB⟩ := RefQ.of qrB HB.out
        clear qrB
        go_simp
        have hbX4 : Below W.heap.size W X4 := hbX2.trans (hc4.mono hsX2)
        have hsX4 : W.heap.size ≤ X4.heap.size := hbX4.size
        have q0X4 := qA.later hc4
        refine hK.out _ _ (mkS _ ((Kept.refl _ _).below hbX4)) (fun hHeld2 => ?_)
        clear hK K hHeld
        have hHeld := hHeld2
        clear hHeld2
        try simp only [Act.put, List.setIfInBounds_toArray, List.set_cons_zero, List.set_cons_succ]
        refine wpAnyH_ready (rs := [4, 5]) (by kernel_rfl) (by simp) ?_
        refine AllReadyH.cons rfl (fun K hK => ?o5_4) (AllReadyH.cons rfl (fun K hK => ?o5_5) AllReadyH.nil)
        case o5_4 =>
          go_simp
          refine afterAlloc (fun X6 hc6 hl6 zn6 => ?_)
          have hbX6 : Below W.heap.size W X6 := hbX4.trans (hc6.mono hsX4)
          have hsX6 : W.heap.size ≤ X6.heap.size := hbX6.size
          have q0X6 := q0X4.later hc6
          have q1X6 := qB.later hc6
          refine hK.out _ _ (mkS _ ((Kept.refl _ _).below hbX6)) (fun hHeld2 => ?_)
          clear hK K hHeld
          have hHeld := hHeld2
          clear hHeld2
          try simp only [Act.put, List.setIfInBounds_toArray, List.set_cons_zero, List.set_cons_succ]
          refine wpAnyH_ready (rs := [5]) (by kernel_rfl) (by simp) ?_
          refine AllReadyH.cons rfl (fun K hK => ?o7_5) AllReadyH.nil
          case o7_5 =>
            go_simp
            refine afterAlloc (fun X8 hc8 hl8 zn8 => ?_)
            have hbX8 : Below W.heap.size W X8 := hbX6.trans (hc8.mono hsX6)
            have hsX8 : W.heap.size ≤ X8.heap.size := hbX8.size
            have z0X8 := zn6.later hc8
            have q0X8 := q0X6.later hc8
            have q1X8 := q1X6.later hc8
            have lt0X8 := zn6.lt
            refine hK.out _ _ (mkS _ ((Kept.refl _ _).below hbX8)) (fun hHeld2 => ?_)
            clear hK K hHeld
            have hHeld := hHeld2
            clear hHeld2
            try simp only [Act.put, List.setIfInBounds_toArray, List.set_cons_zero, List.set_cons_succ]
            obtain ⟨d90, d91, d92, d93, d94, d95⟩ := z0X8.three
            refine wpAnyH_ready (rs := [6]) (by kernel_rfl) (by simp) ?_
            refine AllReadyH.cons rfl (fun K hK => ?s9) AllReadyH.nil
            go_simp
            refine afterSet3 z0X8 (fun X9 o9 zs9 => ?_)
            clear d90 d91 d92 d93 d94 d95
            have hbX9 : Below W.heap.size W X9 := hbX8.trans (o9.below hsX4)
            have z1X9 := zn8.only o9 (by omega)
            have q0X9 := q0X8.only z0X8 o9
            have q1X9 := q1X8.only z0X8 o9
            refine hK.out _ _ (mkS _ ((Kept.refl _ _).below hbX9)) (fun hHeld => ?_)
            clear hK K
            try simp only [Act.put, List.setIfInBounds_toArray, List.set_cons_zero, List.set_cons_succ]
            obtain ⟨d100, d101, d102, d103, d104, d105⟩ := z1X9.three
            refine wpAnyH_ready (rs := [7]) (by kernel_rfl) (by simp) ?_
            refine AllReadyH.cons rfl (fun K hK => ?s10) AllReadyH.nil
            go_simp
            refine afterSet3 z1X9 (fun X10 o10 zs10 => ?_)
            clear d100 d101 d102 d103 d104 d105
            have hbX10 : Below W.heap.size W X10 := hbX9.trans (o10.below hsX6)
            have z0X10 := zs9.only o10 (by omega)
            have q0X10 := q0X9.only z1X9 o10
            have q1X10 := q1X9.only z1X9 o10
            refine hK.out _ _ (mkS _ ((Kept.refl _ _).below hbX10)) (fun hHeld => ?_)
            clear hK K
            try simp only [Act.put, List.setIfInBounds_toArray, List.set_cons_zero, List.set_cons_succ]
            refine wpAnyH_done (by kernel_rfl) ?_ _
            refine NoPanic.normal ?_
            go_wp2_with fail
            go_meet
            exact ⟨_, zsA, ysA, fA, gA, jA, kA, _, zsB, ysB, fB, gB, jB, kB, rfl, rfl, z0X10, zs10, q0X10, q1X10, hbX10⟩
        case o5_5 =>
          go_simp
          refine afterAlloc (fun X11 hc11 hl11 zn11 => ?_)
          have hbX11 : Below W.heap.size W X11 := hbX4.trans (hc11.mono hsX4)
          have hsX11 : W.heap.size ≤ X11.heap.size := hbX11.size
          have q0X11 := q0X4.later hc11
          have q1X11 := qB.later hc11
          refine hK.out _ _ (mkS _ ((Kept.refl _ _).below hbX11)) (fun hHeld2 => ?_)
          clear hK K hHeld
          have hHeld := hHeld2
          clear hHeld2
          try simp only [Act.put, List.setIfInBounds_toArray, List.set_cons_zero, List.set_cons_succ]
          refine wpAnyH_ready (rs := [4]) (by kernel_rfl) (by simp) ?_
          refine AllReadyH.cons rfl (fun K hK => ?o12_4) AllReadyH.nil
          case o12_4 =>
            go_simp
            refine afterAlloc (fun X13 hc13 hl13 zn13 => ?_)
            have hbX13 : Below W.heap.size W X13 := hbX11.trans (hc13.mono hsX11)
            have hsX13 : W.heap.size ≤ X13.heap.size := hbX13.size
            have q0X13 := q0X11.later hc13
            have z1X13 := zn11.later hc13
            have q1X13 := q1X11.later hc13
            have lt1X13 := zn11.lt
            refine hK.out _ _ (mkS _ ((Kept.refl _ _).below hbX13)) (fun hHeld2 => ?_)
            clear hK K hHeld
            have hHeld := hHeld2
            clear hHeld2
            try simp only [Act.put, List.setIfInBounds_toArray, List.set_cons_zero, List.set_cons_succ]
            obtain ⟨d140, d141, d142, d143, d144, d145⟩ := zn13.three
            refine wpAnyH_ready (rs := [6]) (by kernel_rfl) (by simp) ?_
            refine AllReadyH.cons rfl (fun K hK => ?s14) AllReadyH.nil
            go_simp
            refine afterSet3 zn13 (fun X14 o14 zs14 => ?_)
            clear d140 d141 d142 d143 d144 d145
            have hbX14 : Below W.heap.size W X14 := hbX13.trans (o14.below hsX11)
            have z1X14 := z1X13.only o14 (by omega)
            have q0X14 := q0X13.only zn13 o14
            have q1X14 := q1X13.only zn13 o14
            refine hK.out _ _ (mkS _ ((Kept.refl _ _).below hbX14)) (fun hHeld => ?_)
            clear hK K
            try simp only [Act.put, List.setIfInBounds_toArray, List.set_cons_zero, List.set_cons_succ]
            obtain ⟨d150, d151, d152, d153, d154, d155⟩ := z1X14.three
            refine wpAnyH_ready (rs := [7]) (by kernel_rfl) (by simp) ?_
            refine AllReadyH.cons rfl (fun K hK => ?s15) AllReadyH.nil
            go_simp
            refine afterSet3 z1X14 (fun X15 o15 zs15 => ?_)
            clear d150 d151 d152 d153 d154 d155
            have hbX15 : Below W.heap.size W X15 := hbX14.trans (o15.below hsX4)
            have z0X15 := zs14.only o15 (by omega)
            have q0X15 := q0X14.only z1X14 o15
            have q1X15 := q1X14.only z1X14 o15
            refine hK.out _ _ (mkS _ ((Kept.refl _ _).below hbX15)) (fun hHeld => ?_)
            clear hK K
            try simp only [Act.put, List.setIfInBounds_toArray, List.set_cons_zero, List.set_cons_succ]
            refine wpAnyH_done (by kernel_rfl) ?_ _
            refine NoPanic.normal ?_
            go_wp2_with fail
            go_meet
            exact ⟨_, zsA, ysA, fA, gA, jA, kA, _, zsB, ysB, fB, gB, jB, kB, rfl, rfl, z0X15, zs15, q0X15, q1X15, hbX15⟩
      case o3_4 =>
        go_simp
        refine afterAlloc (fun X16 hc16 hl16 zn16 => ?_)
        have hbX16 : Below W.heap.size W X16 := hbX2.trans (hc16.mono hsX2)
        have hsX16 : W.heap.size ≤ X16.heap.size := hbX16.size
        have q0X16 := qA.later hc16
        refine hK.out _ _ (mkS _ ((Kept.refl _ _).below hbX16)) (fun hHeld2 => ?_)
        clear hK K hHeld
        have hHeld := hHeld2
        clear hHeld2
        try simp only [Act.put, List.setIfInBounds_toArray, List.set_cons_zero, List.set_cons_succ]
        refine wpAnyH_ready (rs := [3, 5]) (by kernel_rfl) (by simp) ?_
        refine AllReadyH.cons rfl (fun K hK => ?o17_3) (AllReadyH.cons rfl (fun K hK => ?o17_5) AllReadyH.nil)
        case o17_3 =>
          go_simp
          refine (ofR_any (Q1W.later hbX16) (by omega)).mono ?_
          rintro e X18 ⟨rB, rfl, qrB, hc18⟩
          obtain ⟨zsB, ysB, fB, gB, jB, kB, rfl, qB⟩ := RefQ.of qrB HB.out
          clear qrB
          go_simp
          have hbX18 : Below W.heap.size W X18 := hbX16.trans (hc18.mono hsX16)
          have hsX18 : W.heap.size ≤ X18.heap.size := hbX18.size
          have z0X18 := zn16.later hc18
          have q0X18 := q0X16.later hc18
          refine hK.out _ _ (mkS _ ((Kept.refl _ _).below hbX18)) (fun hHeld2 => ?_)
          clear hK K hHeld
          have hHeld := hHeld2
          clear hHeld2
          try simp only [Act.put, List.setIfInBounds_toArray, List.set_cons_zero, List.set_cons_succ]
          refine wpAnyH_ready (rs := [5]) (by kernel_rfl) (by simp) ?_
          refine AllReadyH.cons rfl (fun K hK => ?o19_5) AllReadyH.nil
          case o19_5 =>
            go_simp
            refine afterAlloc (fun X20 hc20 hl20 zn20 => ?_)
            have hbX20 : Below W.heap.size W X20 := hbX18.trans (hc20.mono hsX18)
            have hsX20 : W.heap.size ≤ X20.heap.size := hbX20.size
            have z0X20 := z0X18.later hc20
            have q0X20 := q0X18.later hc20
            have q1X20 := qB.later hc20
            have lt0X20 := z0X18.lt
            refine hK.out _ _ (mkS _ ((Kept.refl _ _).below hbX20)) (fun hHeld2 => ?_)
            clear hK K hHeld
            have hHeld := hHeld2
            clear hHeld2
            try simp only [Act.put, List.setIfInBounds_toArray, List.set_cons_zero, List.set_cons_succ]
            obtain ⟨d210, d211, d212, d213, d214, d215⟩ := z0X20.three
            refine wpAnyH_ready (rs := [6]) (by kernel_rfl) (by simp) ?_
            refine AllReadyH.cons rfl (fun K hK => ?s21) AllReadyH.nil
            go_simp
            refine afterSet3 z0X20 (fun X21 o21 zs21 => ?_)
            clear d210 d211 d212 d213 d214 d215
            have hbX21 : Below W.heap.size W X21 := hbX20.trans (o21.below hsX2)
            have z1X21 := zn20.only o21 (by omega)
            have q0X21 := q0X20.only z0X20 o21
            have q1X21 := q1X20.only z0X20 o21
            refine hK.out _ _ (mkS _ ((Kept.refl _ _).below hbX21)) (fun hHeld => ?_)
            clear hK K
            try simp only [Act.put, List.setIfInBounds_toArray, List.set_cons_zero, List.set_cons_succ]
            obtain ⟨d220, d221, d222, d223, d224, d225⟩ := z1X21.three
            refine wpAnyH_ready (rs := [7]) (by kernel_rfl) (by simp) ?_
            refine AllReadyH.cons rfl (fun K hK => ?s22) AllReadyH.nil
            go_simp
            refine afterSet3 z1X21 (fun X22 o22 zs22 => ?_)
            clear d220 d221 d222 d223 d224 d225
            have hbX22 : Below W.heap.size W X22 := hbX21.trans (o22.below hsX18)
            have z0X22 := zs21.only o22 (by omega)
            have q0X22 := q0X21.only z1X21 o22
            have q1X22 := q1X21.only z1X21 o22
            refine hK.out _ _ (mkS _ ((Kept.refl _ _).below hbX22)) (fun hHeld => ?_)
            clear hK K
            try simp only [Act.put, List.setIfInBounds_toArray, List.set_cons_zero, List.set_cons_succ]
            refine wpAnyH_done (by kernel_rfl) ?_ _
            refine NoPanic.normal ?_
            go_wp2_with fail
            go_meet
            exact ⟨_, zsA, ysA, fA, gA, jA, kA, _, zsB, ysB, fB, gB, jB, kB, rfl, rfl, z0X22, zs22, q0X22, q1X22, hbX22⟩
        case o17_5 =>
          go_simp
          refine afterAlloc (fun X23 hc23 hl23 zn23 => ?_)
          have hbX23 : Below W.heap.size W X23 := hbX16.trans (hc23.mono hsX16)
          have hsX23 : W.heap.size ≤ X23.heap.size := hbX23.size
          have z0X23 := zn16.later hc23
          have q0X23 := q0X16.later hc23
          have lt0X23 := zn16.lt
          refine hK.out _ _ (mkS _ ((Kept.refl _ _).below hbX23)) (fun hHeld2 => ?_)
          clear hK K hHeld
          have hHeld := hHeld2
          clear hHeld2
          try simp only [Act.put, List.setIfInBounds_toArray, List.set_cons_zero, List.set_cons_succ]
          refine wpAnyH_ready (rs := [3]) (by kernel_rfl) (by simp) ?_
          refine AllReadyH.cons rfl (fun K hK => ?o24_3) AllReadyH.nil
          case o24_3 =>
            go_simp
            refine (ofR_any (Q1W.later hbX23) (by omega)).mono ?_
            rintro e X25 ⟨rB, rfl, qrB, hc25⟩
            obtain ⟨zsB, ysB, fB, gB, jB, kB, rfl, qB⟩ := RefQ.of qrB HB.out
            clear qrB
            go_simp
            have hbX25 : Below W.heap.size W X25 := hbX23.trans (hc25.mono hsX23)
            have hsX25 : W.heap.size ≤ X25.heap.size := hbX25.size
            have z0X25 := z0X23.later hc25
            have q0X25 := q0X23.later hc25
            have z1X25 := zn23.later hc25
            refine hK.out _ _ (mkS _ ((Kept.refl _ _).below hbX25)) (fun hHeld2 => ?_)
            clear hK K hHeld
            have hHeld := hHeld2
            clear hHeld2
            try simp only [Act.put, List.setIfInBounds_toArray, List.set_cons_zero, List.set_cons_succ]
            obtain ⟨d260, d261, d262, d263, d264, d265⟩ := z0X25.three
            refine wpAnyH_ready (rs := [6]) (by kernel_rfl) (by simp) ?_
            refine AllReadyH.cons rfl (fun K hK => ?s26) AllReadyH.nil
            go_simp
            refine afterSet3 z0X25 (fun X26 o26 zs26 => ?_)
            clear d260 d261 d262 d263 d264 d265
            have hbX26 : Below W.heap.size W X26 := hbX25.trans (o26.below hsX2)
            have z1X26 := z1X25.only o26 (by omega)
            have q0X26 := q0X25.only z0X25 o26
            have q1X26 := qB.only z0X25 o26
            refine hK.out _ _ (mkS _ ((Kept.refl _ _).below hbX26)) (fun hHeld => ?_)
            clear hK K
            try simp only [Act.put, List.setIfInBounds_toArray, List.set_cons_zero, List.set_cons_succ]
            obtain ⟨d270, d271, d272, d273, d274, d275⟩ := z1X26.three
            refine wpAnyH_ready (rs := [7]) (by kernel_rfl) (by simp) ?_
            refine AllReadyH.cons rfl (fun K hK => ?s27) AllReadyH.nil
            go_simp
            refine afterSet3 z1X26 (fun X27 o27 zs27 => ?_)
            clear d270 d271 d272 d273 d274 d275
            have hbX27 : Below W.heap.size W X27 := hbX26.trans (o27.below hsX16)
            have z0X27 := zs26.only o27 (by omega)
            have q0X27 := q0X26.only z1X26 o27
            have q1X27 := q1X26.only z1X26 o27
            refine hK.out _ _ (mkS _ ((Kept.refl _ _).below hbX27)) (fun hHeld => ?_)
            clear hK K
            try simp only [Act.put, List.setIfInBounds_toArray, List.set_cons_zero, List.set_cons_succ]
            refine wpAnyH_done (by kernel_rfl) ?_ _
            refine NoPanic.normal ?_
            go_wp2_with fail
            go_meet
            exact ⟨_, zsA, ysA, fA, gA, jA, kA, _, zsB, ysB, fB, gB, jB, kB, rfl, rfl, z0X27, zs27, q0X27, q1X27, hbX27⟩
      case o3_5 =>
        go_simp
        refine afterAlloc (fun X28 hc28 hl28 zn28 => ?_)
        have hbX28 : Below W.heap.size W X28 := hbX2.trans (hc28.mono hsX2)
        have hsX28 : W.heap.size ≤ X28.heap.size := hbX28.size
        have q0X28 := qA.later hc28
        refine hK.out _ _ (mkS _ ((Kept.refl _ _).below hbX28)) (fun hHeld2 => ?_)
        clear hK K hHeld
        have hHeld := hHeld2
        clear hHeld2
        try simp only [Act.put, List.setIfInBounds_toArray, List.set_cons_zero, List.set_cons_succ]
        refine wpAnyH_ready (rs := [3, 4]) (by kernel_rfl) (by simp) ?_
        refine AllReadyH.cons rfl (fun K hK => ?o29_3) (AllReadyH.cons rfl (fun K hK => ?o29_4) AllReadyH.nil)
        case o29_3 =>
          go_simp
          refine (ofR_any (Q1W.later hbX28) (by omega)).mono ?_
          rintro e X30 ⟨rB, rfl, qrB, hc30⟩
          obtain ⟨zsB, ysB, fB, gB, jB, kB, rfl, qB⟩ := RefQ.of qrB HB.out
          clear qrB
          go_simp
          have hbX30 : Below W.heap.size W X30 := hbX28.trans (hc30.mono hsX28)
          have hsX30 : W.heap.size ≤ X30.heap.size := hbX30.size
          have q0X30 := q0X28.later hc30
          have z1X30 := zn28.later hc30
          refine hK.out _ _ (mkS _ ((Kept.refl _ _).below hbX30)) (fun hHeld2 => ?_)
          clear hK K hHeld
          have hHeld := hHeld2
          clear hHeld2
          try simp only [Act.put, List.setIfInBounds_toArray, List.set_cons_zero, List.set_cons_succ]
          refine wpAnyH_ready (rs := [4]) (by kernel_rfl) (by simp) ?_
          refine AllReadyH.cons rfl (fun K hK => ?o31_4) AllReadyH.nil
          case o31_4 =>
            go_simp
            refine afterAlloc (fun X32 hc32 hl32 zn32 => ?_)
            have hbX32 : Below W.heap.size W X32 := hbX30.trans (hc32.mono hsX30)
            have hsX32 : W.heap.size ≤ X32.heap.size := hbX32.size
            have q0X32 := q0X30.later hc32
            have z1X32 := z1X30.later hc32
            have q1X32 := qB.later hc32
            have lt1X32 := z1X30.lt
            refine hK.out _ _ (mkS _ ((Kept.refl _ _).below hbX32)) (fun hHeld2 => ?_)
            clear hK K hHeld
            have hHeld := hHeld2
            clear hHeld2
            try simp only [Act.put, List.setIfInBounds_toArray, List.set_cons_zero, List.set_cons_succ]
            obtain ⟨d330, d331, d332, d333, d334, d335⟩ := zn32.three
            refine wpAnyH_ready (rs := [6]) (by kernel_rfl) (by simp) ?_
            refine AllReadyH.cons rfl (fun K hK => ?s33) AllReadyH.nil
            go_simp
            refine afterSet3 zn32 (fun X33 o33 zs33 => ?_)
            clear d330 d331 d332 d333 d334 d335
            have hbX33 : Below W.heap.size W X33 := hbX32.trans (o33.below hsX30)
            have z1X33 := z1X32.only o33 (by omega)
            have q0X33 := q0X32.only zn32 o33
            have q1X33 := q1X32.only zn32 o33
            refine hK.out _ _ (mkS _ ((Kept.refl _ _).below hbX33)) (fun hHeld => ?_)
            clear hK K
            try simp only [Act.put, List.setIfInBounds_toArray, List.set_cons_zero, List.set_cons_succ]
            obtain ⟨d340, d341, d342, d343, d344, d345⟩ := z1X33.three
            refine wpAnyH_ready (rs := [7]) (by kernel_rfl) (by simp) ?_
            refine AllReadyH.cons rfl (fun K hK => ?s34) AllReadyH.nil
            go_simp
            refine afterSet3 z1X33 (fun X34 o34 zs34 => ?_)
            clear d340 d341 d342 d343 d344 d345
            have hbX34 : Below W.heap.size W X34 := hbX33.trans (o34.below hsX2)
            have z0X34 := zs33.only o34 (by omega)
            have q0X34 := q0X33.only z1X33 o34
            have q1X34 := q1X33.only z1X33 o34
            refine hK.out _ _ (mkS _ ((Kept.refl _ _).below hbX34)) (fun hHeld => ?_)
            clear hK K
            try simp only [Act.put, List.setIfInBounds_toArray, List.set_cons_zero, List.set_cons_succ]
            refine wpAnyH_done (by kernel_rfl) ?_ _
            refine NoPanic.normal ?_
            go_wp2_with fail
            go_meet
            exact ⟨_, zsA, ysA, fA, gA, jA, kA, _, zsB, ysB, fB, gB, jB, kB, rfl, rfl, z0X34, zs34, q0X34, q1X34, hbX34⟩
        case o29_4 =>
          go_simp
          refine afterAlloc (fun X35 hc35 hl35 zn35 => ?_)
          have hbX35 : Below W.heap.size W X35 := hbX28.trans (hc35.mono hsX28)
          have hsX35 : W.heap.size ≤ X35.heap.size := hbX35.size
          have q0X35 := q0X28.later hc35
          have z1X35 := zn28.later hc35
          have lt1X35 := zn28.lt
          refine hK.out _ _ (mkS _ ((Kept.refl _ _).below hbX35)) (fun hHeld2 => ?_)
          clear hK K hHeld
          have hHeld := hHeld2
          clear hHeld2
          try simp only [Act.put, List.setIfInBounds_toArray, List.set_cons_zero, List.set_cons_succ]
          refine wpAnyH_ready (rs := [3]) (by kernel_rfl) (by simp) ?_
          refine AllReadyH.cons rfl (fun K hK => ?o36_3) AllReadyH.nil
          case o36_3 =>
            go_simp
            refine (ofR_any (Q1W.later hbX35) (by omega)).mono ?_
            rintro e X37 ⟨rB, rfl, qrB, hc37⟩
            obtain ⟨zsB, ysB, fB, gB, jB, kB, rfl, qB⟩ := RefQ.of qrB HB.out
            clear qrB
            go_simp
            have hbX37 : Below W.heap.size W X37 := hbX35.trans (hc37.mono hsX35)
            have hsX37 : W.heap.size ≤ X37.heap.size := hbX37.size
            have z0X37 := zn35.later hc37
            have q0X37 := q0X35.later hc37
            have z1X37 := z1X35.later hc37
            refine hK.out _ _ (mkS _ ((Kept.refl _ _).below hbX37)) (fun hHeld2 => ?_)
            clear hK K hHeld
            have hHeld := hHeld2
            clear hHeld2
            try simp only [Act.put, List.setIfInBounds_toArray, List.set_cons_zero, List.set_cons_succ]
            obtain ⟨d380, d381, d382, d383, d384, d385⟩ := z0X37.three
            refine wpAnyH_ready (rs := [6]) (by kernel_rfl) (by simp) ?_
            refine AllReadyH.cons rfl (fun K hK => ?s38) AllReadyH.nil
            go_simp
            refine afterSet3 z0X37 (fun X38 o38 zs38 => ?_)
            clear d380 d381 d382 d383 d384 d385
            have hbX38 : Below W.heap.size W X38 := hbX37.trans (o38.below hsX28)
            have z1X38 := z1X37.only o38 (by omega)
            have q0X38 := q0X37.only z0X37 o38
            have q1X38 := qB.only z0X37 o38
            refine hK.out _ _ (mkS _ ((Kept.refl _ _).below hbX38)) (fun hHeld => ?_)
            clear hK K
            try simp only [Act.put, List.setIfInBounds_toArray, List.set_cons_zero, List.set_cons_succ]
            obtain ⟨d390, d391, d392, d393, d394, d395⟩ := z1X38.three
            refine wpAnyH_ready (rs := [7]) (by kernel_rfl) (by simp) ?_
            refine AllReadyH.cons rfl (fun K hK => ?s39) AllReadyH.nil
            go_simp
            refine afterSet3 z1X38 (fun X39 o39 zs39 => ?_)
            clear d390 d391 d392 d393 d394 d395
            have hbX39 : Below W.heap.size W X39 := hbX38.trans (o39.below hsX2)
            have z0X39 := zs38.only o39 (by omega)
            have q0X39 := q0X38.only z1X38 o39
            have q1X39 := q1X38.only z1X38 o39
            refine hK.out _ _ (mkS _ ((Kept.refl _ _).below hbX39)) (fun hHeld => ?_)
            clear hK K
            try simp only [Act.put, List.setIfInBounds_toArray, List.set_cons_zero, List.set_cons_succ]
            refine wpAnyH_done (by kernel_rfl) ?_ _
            refine NoPanic.normal ?_
            go_wp2_with fail
            go_meet
            exact ⟨_, zsA, ysA, fA, gA, jA, kA, _, zsB, ysB, fB, gB, jB, kB, rfl, rfl, z0X39, zs39, q0X39, q1X39, hbX39⟩
    case o1_4 =>
      go_simp
      refine afterAlloc (fun X40 hc40 hl40 zn40 => ?_)
      have hbX40 : Below W.heap.size W X40 := hb0.trans (hc40.mono hs0)
      have hsX40 : W.heap.size ≤ X40.heap.size := hbX40.size
      refine hK.out _ _ (mkS _ ((Kept.refl _ _).below hbX40)) (fun hHeld2 => ?_)
      clear hK K hHeld
      have hHeld := hHeld2
      clear hHeld2
      try simp only [Act.put, List.setIfInBounds_toArray, List.set_cons_zero, List.set_cons_succ]
      refine wpAnyH_ready (rs := [1, 5]) (by kernel_rfl) (by simp) ?_
      refine AllReadyH.cons rfl (fun K hK => ?o41_1) (AllReadyH.cons rfl (fun K hK => ?o41_5) AllReadyH.nil)
      case o41_1 =>
        go_simp
        refine (ofR_any (Q0W.later hbX40) (by omega)).mono ?_
        rintro e X42 ⟨rA, rfl, qrA, hc42⟩
        obtain ⟨zsA, ysA, fA, gA, jA, kA, rfl, qA⟩ := RefQ.of qrA HA.out
        clear qrA
        go_simp
        have hbX42 : Below W.heap.size W X42 := hbX40.trans (hc42.mono hsX40)
        have hsX42 : W.heap.size ≤ X42.heap.size := hbX42.size
        have z0X42 := zn40.later hc42
        refine hK.out _ _ (mkS _ ((Kept.refl _ _).below hbX42)) (fun hHeld2 => ?_)
        clear hK K hHeld
        have hHeld := hHeld2
        clear hHeld2
        try simp only [Act.put, List.setIfInBounds_toArray, List.set_cons_zero, List.set_cons_succ]
        refine wpAnyH_ready (rs := [3, 5]) (by kernel_rfl) (by simp) ?_
        refine AllReadyH.cons rfl (fun K hK => ?o43_3) (AllReadyH.cons rfl (fun K hK => ?o43_5) AllReadyH.nil)
        case o43_3 =>
          go_simp
          refine (ofR_any (Q1W.later hbX42) (by omega)).mono ?_
          rintro e X44 ⟨rB, rfl, qrB, hc44⟩
          obtain ⟨zsB, ysB, fB, gB, jB, kB, rfl, qB⟩ := RefQ.of qrB HB.out
          clear qrB
          go_simp
          have hbX44 : Below W.heap.size W X44 := hbX42.trans (hc44.mono hsX42)
          have hsX44 : W.heap.size ≤ X44.heap.size := hbX44.size
          have z0X44 := z0X42.later hc44
          have q0X44 := qA.later hc44
          refine hK.out _ _ (mkS _ ((Kept.refl _ _).below hbX44)) (fun hHeld2 => ?_)
          clear hK K hHeld
          have hHeld := hHeld2
          clear hHeld2
          try simp only [Act.put, List.setIfInBounds_toArray, List.set_cons_zero, List.set_cons_succ]
          refine wpAnyH_ready (rs := [5]) (by kernel_rfl) (by simp) ?_
          refine AllReadyH.cons rfl (fun K hK => ?o45_5) AllReadyH.nil
          case o45_5 =>
            go_simp
            refine afterAlloc (fun X46 hc46 hl46 zn46 => ?_)
            have hbX46 : Below W.heap.size W X46 := hbX44.trans (hc46.mono hsX44)
            have hsX46 : W.heap.size ≤ X46.heap.size := hbX46.size
            have z0X46 := z0X44.later hc46
            have q0X46 := q0X44.later hc46
            have q1X46 := qB.later hc46
            have lt0X46 := z0X44.lt
            refine hK.out _ _ (mkS _ ((Kept.refl _ _).below hbX46)) (fun hHeld2 => ?_)
            clear hK K hHeld
            have hHeld := hHeld2
            clear hHeld2
            try simp only [Act.put, List.setIfInBounds_toArray, List.set_cons_zero, List.set_cons_succ]
            obtain ⟨d470, d471, d472, d473, d474, d475⟩ := z0X46.three
            refine wpAnyH_ready (rs := [6]) (by kernel_rfl) (by simp) ?_
            refine AllReadyH.cons rfl (fun K hK => ?s47) AllReadyH.nil
            go_simp
            refine afterSet3 z0X46 (fun X47 o47 zs47 => ?_)
            clear d470 d471 d472 d473 d474 d475
            have hbX47 : Below W.heap.size W X47 := hbX46.trans (o47.below hs0)
            have z1X47 := zn46.only o47 (by omega)
            have q0X47 := q0X46.only z0X46 o47
            have q1X47 := q1X46.only z0X46 o47
            refine hK.out _ _ (mkS _ ((Kept.refl _ _).below hbX47)) (fun hHeld => ?_)
            clear hK K
            try simp only [Act.put, List.setIfInBounds_toArray, List.set_cons_zero, List.set_cons_succ]
            obtain ⟨d480, d481, d482, d483, d484, d485⟩ := z1X47.three
            refine wpAnyH_ready (rs := [7]) (by kernel_rfl) (by simp) ?_
            refine AllReadyH.cons rfl (fun K hK => ?s48) AllReadyH.nil
            go_simp
            refine afterSet3 z1X47 (fun X48 o48 zs48 => ?_)
            clear d480 d481 d482 d483 d484 d485
            have hbX48 : Below W.heap.size W X48 := hbX47.trans (o48.below hsX44)
            have z0X48 := zs47.only o48 (by omega)
            have q0X48 := q0X47.only z1X47 o48
            have q1X48 := q1X47.only z1X47 o48
            refine hK.out _ _ (mkS _ ((Kept.refl _ _).below hbX48)) (fun hHeld => ?_)
            clear hK K
            try simp only [Act.put, List.setIfInBounds_toArray, List.set_cons_zero, List.set_cons_succ]
            refine wpAnyH_done (by kernel_rfl) ?_ _
            refine NoPanic.normal ?_
            go_wp2_with fail
            go_meet
            exact ⟨_, zsA, ysA, fA, gA, jA, kA, _, zsB, ysB, fB, gB, jB, kB, rfl, rfl, z0X48, zs48, q0X48, q1X48, hbX48⟩
        case o43_5 =>
          go_simp
          refine afterAlloc (fun X49 hc49 hl49 zn49 => ?_)
          have hbX49 : Below W.heap.size W X49 := hbX42.trans (hc49.mono hsX42)
          have hsX49 : W.heap.size ≤ X49.heap.size := hbX49.size
          have z0X49 := z0X42.later hc49
          have q0X49 := qA.later hc49
          have lt0X49 := z0X42.lt
          refine hK.out _ _ (mkS _ ((Kept.refl _ _).below hbX49)) (fun hHeld2 => ?_)
          clear hK K hHeld
          have hHeld := hHeld2
          clear hHeld2
          try simp only [Act.put, List.setIfInBounds_toArray, List.set_cons_zero, List.set_cons_succ]
          refine wpAnyH_ready (rs := [3]) (by kernel_rfl) (by simp) ?_
          refine AllReadyH.cons rfl (fun K hK => ?o50_3) AllReadyH.nil
          case o50_3 =>
            go_simp
            refine (ofR_any (Q1W.later hbX49) (by omega)).mono ?_
            rintro e X51 ⟨rB, rfl, qrB, hc51⟩
            obtain ⟨zsB, ysB, fB, gB, jB, kB, rfl, qB⟩ := RefQ.of qrB HB.out
            clear qrB
            go_simp
            have hbX51 : Below W.heap.size W X51 := hbX49.trans (hc51.mono hsX49)
            have hsX51 : W.heap.size ≤ X51.heap.size := hbX51.size
            have z0X51 := z0X49.later hc51
            have q0X51 := q0X49.later hc51
            have z1X51 := zn49.later hc51
            refine hK.out _ _ (mkS _ ((Kept.refl _ _).below hbX51)) (fun hHeld2 => ?_)
            clear hK K hHeld
            have hHeld := hHeld2
            clear hHeld2
            try simp only [Act.put, List.setIfInBounds_toArray, List.set_cons_zero, List.set_cons_succ]
            obtain ⟨d520, d521, d522, d523, d524, d525⟩ := z0X51.three
            refine wpAnyH_ready (rs := [6]) (by kernel_rfl) (by simp) ?_
            refine AllReadyH.cons rfl (fun K hK => ?s52) AllReadyH.nil
            go_simp
            refine afterSet3 z0X51 (fun X52 o52 zs52 => ?_)
            clear d520 d521 d522 d523 d524 d525
            have hbX52 : Below W.heap.size W X52 := hbX51.trans (o52.below hs0)
            have z1X52 := z1X51.only o52 (by omega)
            have q0X52 := q0X51.only z0X51 o52
            have q1X52 := qB.only z0X51 o52
            refine hK.out _ _ (mkS _ ((Kept.refl _ _).below hbX52)) (fun hHeld => ?_)
            clear hK K
            try simp only [Act.put, List.setIfInBounds_toArray, List.set_cons_zero, List.set_cons_succ]
            obtain ⟨d530, d531, d532, d533, d534, d535⟩ := z1X52.three
            refine wpAnyH_ready (rs := [7]) (by kernel_rfl) (by simp) ?_
            refine AllReadyH.cons rfl (fun K hK => ?s53) AllReadyH.nil
            go_simp
            refine afterSet3 z1X52 (fun X53 o53 zs53 => ?_)
            clear d530 d531 d532 d533 d534 d535
            have hbX53 : Below W.heap.size W X53 := hbX52.trans (o53.below hsX42)
            have z0X53 := zs52.only o53 (by omega)
            have q0X53 := q0X52.only z1X52 o53
            have q1X53 := q1X52.only z1X52 o53
            refine hK.out _ _ (mkS _ ((Kept.refl _ _).below hbX53)) (fun hHeld => ?_)
            clear hK K
            try simp only [Act.put, List.setIfInBounds_toArray, List.set_cons_zero, List.set_cons_succ]
            refine wpAnyH_done (by kernel_rfl) ?_ _
            refine NoPanic.normal ?_
            go_wp2_with fail
            go_meet
            exact ⟨_, zsA, ysA, fA, gA, jA, kA, _, zsB, ysB, fB, gB, jB, kB, rfl, rfl, z0X53, zs53, q0X53, q1X53, hbX53⟩
      case o41_5 =>
        go_simp
        refine afterAlloc (fun X54 hc54 hl54 zn54 => ?_)
        have hbX54 : Below W.heap.size W X54 := hbX40.trans (hc54.mono hsX40)
        have hsX54 : W.heap.size ≤ X54.heap.size := hbX54.size
        have z0X54 := zn40.later hc54
        have lt0X54 := zn40.lt
        refine hK.out _ _ (mkS _ ((Kept.refl _ _).below hbX54)) (fun hHeld2 => ?_)
        clear hK K hHeld
        have hHeld := hHeld2
        clear hHeld2
        try simp only [Act.put, List.setIfInBounds_toArray, List.set_cons_zero, List.set_cons_succ]
        refine wpAnyH_ready (rs := [1]) (by kernel_rfl) (by simp) ?_
        refine AllReadyH.cons rfl (fun K hK => ?o55_1) AllReadyH.nil
        case o55_1 =>
          go_simp
          refine (ofR_any (Q0W.later hbX54) (by omega)).mono ?_
          rintro e X56 ⟨rA, rfl, qrA, hc56⟩
          obtain ⟨zsA, ysA, fA, gA, jA, kA, rfl, qA⟩ := RefQ.of qrA HA.out
          clear qrA
          go_simp
          have hbX56 : Below W.heap.size W X56 := hbX54.trans (hc56.mono hsX54)
          have hsX56 : W.heap.size ≤ X56.heap.size := hbX56.size
          have z0X56 := z0X54.later hc56
          have z1X56 := zn54.later hc56
          refine hK.out _ _ (mkS _ ((Kept.refl _ _).below hbX56)) (fun hHeld2 => ?_)
          clear hK K hHeld
          have hHeld := hHeld2
          clear hHeld2
          try simp only [Act.put, List.setIfInBounds_toArray, List.set_cons_zero, List.set_cons_succ]
          refine wpAnyH_ready (rs := [3]) (by kernel_rfl) (by simp) ?_
          refine AllReadyH.cons rfl (fun K hK => ?o57_3) AllReadyH.nil
          case o57_3 =>
            go_simp
            refine (ofR_any (Q1W.later hbX56) (by omega)).mono ?_
            rintro e X58 ⟨rB, rfl, qrB, hc58⟩
            obtain ⟨zsB, ysB, fB, gB, jB, kB, rfl, qB⟩ := RefQ.of qrB HB.out
            clear qrB
            go_simp
            have hbX58 : Below W.heap.size W X58 := hbX56.trans (hc58.mono hsX56)
            have hsX58 : W.heap.size ≤ X58.heap.size := hbX58.size
            have z0X58 := z0X56.later hc58
            have q0X58 := qA.later hc58
            have z1X58 := z1X56.later hc58
            refine hK.out _ _ (mkS _ ((Kept.refl _ _).below hbX58)) (fun hHeld2 => ?_)
            clear hK K hHeld
            have hHeld := hHeld2
            clear hHeld2
            try simp only [Act.put, List.setIfInBounds_toArray, List.set_cons_zero, List.set_cons_succ]
            obtain ⟨d590, d591, d592, d593, d594, d595⟩ := z0X58.three
            refine wpAnyH_ready (rs := [6]) (by kernel_rfl) (by simp) ?_
            refine AllReadyH.cons rfl (fun K hK => ?s59) AllReadyH.nil
            go_simp
            refine afterSet3 z0X58 (fun X59 o59 zs59 => ?_)
            clear d590 d591 d592 d593 d594 d595
            have hbX59 : Below W.heap.size W X59 := hbX58.trans (o59.below hs0)
            have z1X59 := z1X58.only o59 (by omega)
            have q0X59 := q0X58.only z0X58 o59
            have q1X59 := qB.only z0X58 o59
            refine hK.out _ _ (mkS _ ((Kept.refl _ _).below hbX59)) (fun hHeld => ?_)
            clear hK K
            try simp only [Act.put, List.setIfInBounds_toArray, List.set_cons_zero, List.set_cons_succ]
            obtain ⟨d600, d601, d602, d603, d604, d605⟩ := z1X59.three
            refine wpAnyH_ready (rs := [7]) (by kernel_rfl) (by simp) ?_
            refine AllReadyH.cons rfl (fun K hK => ?s60) AllReadyH.nil
            go_simp
            refine afterSet3 z1X59 (fun X60 o60 zs60 => ?_)
            clear d600 d601 d602 d603 d604 d605
            have hbX60 : Below W.heap.size W X60 := hbX59.trans (o60.below hsX40)
            have z0X60 := zs59.only o60 (by omega)
            have q0X60 := q0X59.only z1X59 o60
            have q1X60 := q1X59.only z1X59 o60
            refine hK.out _ _ (mkS _ ((Kept.refl _ _).below hbX60)) (fun hHeld => ?_)
            clear hK K
            try simp only [Act.put, List.setIfInBounds_toArray, List.set_cons_zero, List.set_cons_succ]
            refine wpAnyH_done (by kernel_rfl) ?_ _
            refine NoPanic.normal ?_
            go_wp2_with fail
            go_meet
            exact ⟨_, zsA, ysA, fA, gA, jA, kA, _, zsB, ysB, fB, gB, jB, kB, rfl, rfl, z0X60, zs60, q0X60, q1X60, hbX60⟩
    case o1_5 =>
      go_simp
      refine afterAlloc (fun X61 hc61 hl61 zn61 => ?_)
      have hbX61 : Below W.heap.size W X61 := hb0.trans (hc61.mono hs0)
      have hsX61 : W.heap.size ≤ X61.heap.size := hbX61.size
      refine hK.out _ _ (mkS _ ((Kept.refl _ _).below hbX61)) (fun hHeld2 => ?_)
      clear hK K hHeld
      have hHeld := hHeld2
      clear hHeld2
      try simp only [Act.put, List.setIfInBounds_toArray, List.set_cons_zero, List.set_cons_succ]
      refine wpAnyH_ready (rs := [1, 4]) (by kernel_rfl) (by simp) ?_
      refine AllReadyH.cons rfl (fun K hK => ?o62_1) (AllReadyH.cons rfl (fun K hK => ?o62_4) AllReadyH.nil)
      case o62_1 =>
        go_simp
        refine (ofR_any (Q0W.later hbX61) (by omega)).mono ?_
        rintro e X63 ⟨rA, rfl, qrA, hc63⟩
        obtain ⟨zsA, ysA, fA, gA, jA, kA, rfl, qA⟩ := RefQ.of qrA HA.out
        clear qrA
        go_simp
        have hbX63 : Below W.heap.size W X63 := hbX61.trans (hc63.mono hsX61)
        have hsX63 : W.heap.size ≤ X63.heap.size := hbX63.size
        have z1X63 := zn61.later hc63
        refine hK.out _ _ (mkS _ ((Kept.refl _ _).below hbX63)) (fun hHeld2 => ?_)
        clear hK K hHeld
        have hHeld := hHeld2
        clear hHeld2
        try simp only [Act.put, List.setIfInBounds_toArray, List.set_cons_zero, List.set_cons_succ]
        refine wpAnyH_ready (rs := [3, 4]) (by kernel_rfl) (by simp) ?_
        refine AllReadyH.cons rfl (fun K hK => ?o64_3) (AllReadyH.cons rfl (fun K hK => ?o64_4) AllReadyH.nil)
        case o64_3 =>
          go_simp
          refine (ofR_any (Q1W.later hbX63) (by omega)).mono ?_
          rintro e X65 ⟨rB, rfl, qrB, hc65⟩
          obtain ⟨zsB, ysB, fB, gB, jB, kB, rfl, qB⟩ := RefQ.of qrB HB.out
          clear qrB
          go_simp
          have hbX65 : Below W.heap.size W X65 := hbX63.trans (hc65.mono hsX63)
          have hsX65 : W.heap.size ≤ X65.heap.size := hbX65.size
          have q0X65 := qA.later hc65
          have z1X65 := z1X63.later hc65
          refine hK.out _ _ (mkS _ ((Kept.refl _ _).below hbX65)) (fun hHeld2 => ?_)
          clear hK K hHeld
          have hHeld := hHeld2
          clear hHeld2
          try simp only [Act.put, List.setIfInBounds_toArray, List.set_cons_zero, List.set_cons_succ]
          refine wpAnyH_ready (rs := [4]) (by kernel_rfl) (by simp) ?_
          refine AllReadyH.cons rfl (fun K hK => ?o66_4) AllReadyH.nil
          case o66_4 =>
            go_simp
            refine afterAlloc (fun X67 hc67 hl67 zn67 => ?_)
            have hbX67 : Below W.heap.size W X67 := hbX65.trans (hc67.mono hsX65)
            have hsX67 : W.heap.size ≤ X67.heap.size := hbX67.size
            have q0X67 := q0X65.later hc67
            have z1X67 := z1X65.later hc67
            have q1X67 := qB.later hc67
            have lt1X67 := z1X65.lt
            refine hK.out _ _ (mkS _ ((Kept.refl _ _).below hbX67)) (fun hHeld2 => ?_)
            clear hK K hHeld
            have hHeld := hHeld2
            clear hHeld2
            try simp only [Act.put, List.setIfInBounds_toArray, List.set_cons_zero, List.set_cons_succ]
            obtain ⟨d680, d681, d682, d683, d684, d685⟩ := zn67.three
            refine wpAnyH_ready (rs := [6]) (by kernel_rfl) (by simp) ?_
            refine AllReadyH.cons rfl (fun K hK => ?s68) AllReadyH.nil
            go_simp
            refine afterSet3 zn67 (fun X68 o68 zs68 => ?_)
            clear d680 d681 d682 d683 d684 d685
            have hbX68 : Below W.heap.size W X68 := hbX67.trans (o68.below hsX65)
            have z1X68 := z1X67.only o68 (by omega)
            have q0X68 := q0X67.only zn67 o68
            have q1X68 := q1X67.only zn67 o68
            refine hK.out _ _ (mkS _ ((Kept.refl _ _).below hbX68)) (fun hHeld => ?_)
            clear hK K
            try simp only [Act.put, List.setIfInBounds_toArray, List.set_cons_zero, List.set_cons_succ]
            obtain ⟨d690, d691, d692, d693, d694, d695⟩ := z1X68.three
            refine wpAnyH_ready (rs := [7]) (by kernel_rfl) (by simp) ?_
            refine AllReadyH.cons rfl (fun K hK => ?s69) AllReadyH.nil
            go_simp
            refine afterSet3 z1X68 (fun X69 o69 zs69 => ?_)
            clear d690 d691 d692 d693 d694 d695
            have hbX69 : Below W.heap.size W X69 := hbX68.trans (o69.below hs0)
            have z0X69 := zs68.only o69 (by omega)
            have q0X69 := q0X68.only z1X68 o69
            have q1X69 := q1X68.only z1X68 o69
            refine hK.out _ _ (mkS _ ((Kept.refl _ _).below hbX69)) (fun hHeld => ?_)
            clear hK K
            try simp only [Act.put, List.setIfInBounds_toArray, List.set_cons_zero, List.set_cons_succ]
            refine wpAnyH_done (by kernel_rfl) ?_ _
            refine NoPanic.normal ?_
            go_wp2_with fail
            go_meet
            exact ⟨_, zsA, ysA, fA, gA, jA, kA, _, zsB, ysB, fB, gB, jB, kB, rfl, rfl, z0X69, zs69, q0X69, q1X69, hbX69⟩
        case o64_4 =>
          go_simp
          refine afterAlloc (fun X70 hc70 hl70 zn70 => ?_)
          have hbX70 : Below W.heap.size W X70 := hbX63.trans (hc70.mono hsX63)
          have hsX70 : W.heap.size ≤ X70.heap.size := hbX70.size
          have q0X70 := qA.later hc70
          have z1X70 := z1X63.later hc70
          have lt1X70 := z1X63.lt
          refine hK.out _ _ (mkS _ ((Kept.refl _ _).below hbX70)) (fun hHeld2 => ?_)
          clear hK K hHeld
          have hHeld := hHeld2
          clear hHeld2
          try simp only [Act.put, List.setIfInBounds_toArray, List.set_cons_zero, List.set_cons_succ]
          refine wpAnyH_ready (rs := [3]) (by kernel_rfl) (by simp) ?_
          refine AllReadyH.cons rfl (fun K hK => ?o71_3) AllReadyH.nil
          case o71_3 =>
            go_simp
            refine (ofR_any (Q1W.later hbX70) (by omega)).mono ?_
            rintro e X72 ⟨rB, rfl, qrB, hc72⟩
            obtain ⟨zsB, ysB, fB, gB, jB, kB, rfl, qB⟩ := RefQ.of qrB HB.out
            clear qrB
            go_simp
            have hbX72 : Below W.heap.size W X72 := hbX70.trans (hc72.mono hsX70)
            have hsX72 : W.heap.size ≤ X72.heap.size := hbX72.size
            have z0X72 := zn70.later hc72
            have q0X72 := q0X70.later hc72
            have z1X72 := z1X70.later hc72
            refine hK.out _ _ (mkS _ ((Kept.refl _ _).below hbX72)) (fun hHeld2 => ?_)
            clear hK K hHeld
            have hHeld := hHeld2
            clear hHeld2
            try simp only [Act.put, List.setIfInBounds_toArray, List.set_cons_zero, List.set_cons_succ]
            obtain ⟨d730, d731, d732, d733, d734, d735⟩ := z0X72.three
            refine wpAnyH_ready (rs := [6]) (by kernel_rfl) (by simp) ?_
            refine AllReadyH.cons rfl (fun K hK => ?s73) AllReadyH.nil
            go_simp
            refine afterSet3 z0X72 (fun X73 o73 zs73 => ?_)
            clear d730 d731 d732 d733 d734 d735
            have hbX73 : Below W.heap.size W X73 := hbX72.trans (o73.below hsX63)
            have z1X73 := z1X72.only o73 (by omega)
            have q0X73 := q0X72.only z0X72 o73
            have q1X73 := qB.only z0X72 o73
            refine hK.out _ _ (mkS _ ((Kept.refl _ _).below hbX73)) (fun hHeld => ?_)
            clear hK K
            try simp only [Act.put, List.setIfInBounds_toArray, List.set_cons_zero, List.set_cons_succ]
            obtain ⟨d740, d741, d742, d743, d744, d745⟩ := z1X73.three
            refine wpAnyH_ready (rs := [7]) (by kernel_rfl) (by simp) ?_
            refine AllReadyH.cons rfl (fun K hK => ?s74) AllReadyH.nil
            go_simp
            refine afterSet3 z1X73 (fun X74 o74 zs74 => ?_)
            clear d740 d741 d742 d743 d744 d745
            have hbX74 : Below W.heap.size W X74 := hbX73.trans (o74.below hs0)
            have z0X74 := zs73.only o74 (by omega)
            have q0X74 := q0X73.only z1X73 o74
            have q1X74 := q1X73.only z1X73 o74
            refine hK.out _ _ (mkS _ ((Kept.refl _ _).below hbX74)) (fun hHeld => ?_)
            clear hK K
            try simp only [Act.put, List.setIfInBounds_toArray, List.set_cons_zero, List.set_cons_succ]
            refine wpAnyH_done (by kernel_rfl) ?_ _
            refine NoPanic.normal ?_
            go_wp2_with fail
            go_meet
            exact ⟨_, zsA, ysA, fA, gA, jA, kA, _, zsB, ysB, fB, gB, jB, kB, rfl, rfl, z0X74, zs74, q0X74, q1X74, hbX74⟩
      case o62_4 =>
        go_simp
        refine afterAlloc (fun X75 hc75 hl75 zn75 => ?_)
        have hbX75 : Below W.heap.size W X75 := hbX61.trans (hc75.mono hsX61)
        have hsX75 : W.heap.size ≤ X75.heap.size := hbX75.size
        have z1X75 := zn61.later hc75
        have lt1X75 := zn61.lt
        refine hK.out _ _ (mkS _ ((Kept.refl _ _).below hbX75)) (fun hHeld2 => ?_)
        clear hK K hHeld
        have hHeld := hHeld2
        clear hHeld2
        try simp only [Act.put, List.setIfInBounds_toArray, List.set_cons_zero, List.set_cons_succ]
        refine wpAnyH_ready (rs := [1]) (by kernel_rfl) (by simp) ?_
        refine AllReadyH.cons rfl (fun K hK => ?o76_1) AllReadyH.nil
        case o76_1 =>
          go_simp
          refine (ofR_any (Q0W.later hbX75) (by omega)).mono ?_
          rintro e X77 ⟨rA, rfl, qrA, hc77⟩
          obtain ⟨zsA, ysA, fA, gA, jA, kA, rfl, qA⟩ := RefQ.of qrA HA.out
          clear qrA
          go_simp
          have hbX77 : Below W.heap.size W X77 := hbX75.trans (hc77.mono hsX75)
          have hsX77 : W.heap.size ≤ X77.heap.size := hbX77.size
          have z0X77 := zn75.later hc77
          have z1X77 := z1X75.later hc77
          refine hK.out _ _ (mkS _ ((Kept.refl _ _).below hbX77)) (fun hHeld2 => ?_)
          clear hK K hHeld
          have hHeld := hHeld2
          clear hHeld2
          try simp only [Act.put, List.setIfInBounds_toArray, List.set_cons_zero, List.set_cons_succ]
          refine wpAnyH_ready (rs := [3]) (by kernel_rfl) (by simp) ?_
          refine AllReadyH.cons rfl (fun K hK => ?o78_3) AllReadyH.nil
          case o78_3 =>
            go_simp
            refine (ofR_any (Q1W.later hbX77) (by omega)).mono ?_
            rintro e X79 ⟨rB, rfl, qrB, hc79⟩
            obtain ⟨zsB, ysB, fB, gB, jB, kB, rfl, qB⟩ := RefQ.of qrB HB.out
            clear qrB
            go_simp
            have hbX79 : Below W.heap.size W X79 := hbX77.trans (hc79.mono hsX77)
            have hsX79 : W.heap.size ≤ X79.heap.size := hbX79.size
            have z0X79 := z0X77.later hc79
            have q0X79 := qA.later hc79
            have z1X79 := z1X77.later hc79
            refine hK.out _ _ (mkS _ ((Kept.refl _ _).below hbX79)) (fun hHeld2 => ?_)
            clear hK K hHeld
            have hHeld := hHeld2
            clear hHeld2
            try simp only [Act.put, List.setIfInBounds_toArray, List.set_cons_zero, List.set_cons_succ]
            obtain ⟨d800, d801, d802, d803, d804, d805⟩ := z0X79.three
            refine wpAnyH_ready (rs := [6]) (by kernel_rfl) (by simp) ?_
            refine AllReadyH.cons rfl (fun K hK => ?s80) AllReadyH.nil
            go_simp
            refine afterSet3 z0X79 (fun X80 o80 zs80 => ?_)
            clear d800 d801 d802 d803 d804 d805
            have hbX80 : Below W.heap.size W X80 := hbX79.trans (o80.below hsX61)
            have z1X80 := z1X79.only o80 (by omega)
            have q0X80 := q0X79.only z0X79 o80
            have q1X80 := qB.only z0X79 o80
            refine hK.out _ _ (mkS _ ((Kept.refl _ _).below hbX80)) (fun hHeld => ?_)
            clear hK K
            try simp only [Act.put, List.setIfInBounds_toArray, List.set_cons_zero, List.set_cons_succ]
            obtain ⟨d810, d811, d812, d813, d814, d815⟩ := z1X80.three
            refine wpAnyH_ready (rs := [7]) (by kernel_rfl) (by simp) ?_
            refine AllReadyH.cons rfl (fun K hK => ?s81) AllReadyH.nil
            go_simp
            refine afterSet3 z1X80 (fun X81 o81 zs81 => ?_)
            clear d810 d811 d812 d813 d814 d815
            have hbX81 : Below W.heap.size W X81 := hbX80.trans (o81.below hs0)
            have z0X81 := zs80.only o81 (by omega)
            have q0X81 := q0X80.only z1X80 o81
            have q1X81 := q1X80.only z1X80 o81
            refine hK.out _ _ (mkS _ ((Kept.refl _ _).below hbX81)) (fun hHeld => ?_)
            clear hK K
            try simp only [Act.put, List.setIfInBounds_toArray, List.set_cons_zero, List.set_cons_succ]
            refine wpAnyH_done (by kernel_rfl) ?_ _
            refine NoPanic.normal ?_
            go_wp2_with fail
            go_meet
            exact ⟨_, zsA, ysA, fA, gA, jA, kA, _, zsB, ysB, fB, gB, jB, kB, rfl, rfl, z0X81, zs81, q0X81, q1X81, hbX81⟩
  case rest =>
    obtain ⟨bA, zsA, ysA, fA, gA, jA, kA, bB, zsB, ysB, fB, gB, jB, kB, rfl, rfl, RA, RB, ⟨A1, A2, va1, va2, la1, la2⟩, ⟨B1, B2, vb1, vb2, lb1, lb2⟩, hb1⟩ := hcut
    have hz1 := hb1.size
    have hBW1 : Below w.heap.size w wc := hBW.trans (hb1.mono (by omega))
    have hc1 := cmpD_any A1 B1 (by omega) (by omega)
    have hc2 := fun w' (hb : Below wc.heap.size wc w') => cmpD_any (A2.later hb) (B2.later hb) (by omega) (by omega)
    rw [va1, vb1] at hc1
    rw [va2, vb2] at hc2
    obtain ⟨k0, h0⟩ : ∃ b, (nA == nB) = b := ⟨_, rfl⟩
    obtain ⟨sg1, hs1⟩ : ∃ s, sign (X.num.natAbs : Int) (Y.num.natAbs : Int) = s := ⟨_, rfl⟩
    obtain ⟨sg2, hs2⟩ : ∃ s, sign (X.den : Int) (Y.den : Int) = s := ⟨_, rfl⟩
    obtain ⟨k1, h1⟩ : ∃ b, (sg1 == 0) = b := ⟨_, rfl⟩
    obtain ⟨k2, h2⟩ : ∃ b, (sg2 == 0) = b := ⟨_, rfl⟩
    have hres : res = (k0 && (k1 && k2)) := by rw [← HRS.out, ← h0, ← h1, ← h2, ← hs1, ← hs2, ← HA.out, ← HB.out]; exact rat_same X Y
    rw [hs1] at hc1
    rw [hs2] at hc2
    clear HRS
    subst hres
    clear va1 va2 vb1 vb2 A1 A2 B1 B2 hs1 hs2
    obtain ⟨p0, p1, p2, _, _, _⟩ := RA.three
    obtain ⟨o0, o1, o2, _, _, _⟩ := RB.three
    cases k0
    · clear hc1 hc2
      go_wp2
      go_ret
      exact ⟨rfl, hBW1⟩
    · go_wp2_with fail
      refine hc1.mono ?_
      rintro e V1 ⟨rfl, hv1⟩
      have hz2 := hv1.size
      have hB2 := hBW1.trans (hv1.mono (by omega))
      clear p0 p1 p2 o0 o1 o2 hc1
      cases k1
      · clear hc2
        go_wp2
        go_ret
        exact ⟨rfl, hB2⟩
      · obtain ⟨p0, p1, p2, _, _, _⟩ := (RA.later hv1).three
        obtain ⟨o0, o1, o2, _, _, _⟩ := (RB.later hv1).three
        go_wp2_with fail
        refine (hc2 _ hv1).mono ?_
        rintro e V2 ⟨rfl, hv2⟩
        have hB3 := hB2.trans (hv2.mono (by omega))
        clear hc2 p0 p1 p2 o0 o1 o2
        cases k2 <;> (go_wp2; go_ret; exact ⟨rfl, hB3⟩)
end
section
open Go.RowKit
set_option linter.unusedVariables false
set_option linter.unusedSimpArgs false
/-- two tensors' dimensions are the same, and each two elements meet B -/
noncomputable def allBC {α β : Type} (B : α → β → Bool) (s1 s2 : List Int) (L1 : List α) (L2 : List β) : Bool := @decide (s1 = s2 ∧ L1.length = L2.length ∧ ∀ (i : Nat) (x : α) (y : β), L1[i]? = some x → L2[i]? = some y → B x y = true) (Classical.propDecidable _)
theorem allBC_yes {α β : Type} {B : α → β → Bool} {s1 s2 : List Int} {L1 : List α} {L2 : List β} (h1 : s1 = s2) (h2 : L1.length = L2.length) (h3 : ∀ (i : Nat) (x : α) (y : β), L1[i]? = some x → L2[i]? = some y → B x y = true) : allBC B s1 s2 L1 L2 = true := by
  unfold allBC
  simp only [decide_eq_true_eq]
  exact ⟨h1, h2, h3⟩
theorem allBC_no {α β : Type} {B : α → β → Bool} {s1 s2 : List Int} {L1 : List α} {L2 : List β} (h : ¬ (s1 = s2 ∧ L1.length = L2.length ∧ ∀ (i : Nat) (x : α) (y : β), L1[i]? = some x → L2[i]? = some y → B x y = true)) : allBC B s1 s2 L1 L2 = false := by
  unfold allBC
  simp only [decide_eq_false_iff_not]
  exact h
theorem isRaw_any {n : Nat} {w : World} {u v : Value} {X : Rat} {q : Q3} (hu : ArgR w u X n) (hv : RawQ w v q) (hn : n ≤ 1000000000) (hx : q.num.length ≤ 134217728) (hd : q.den.length ≤ 134217728) :
    Calls Tryz.prog 72 #[u, v] w fun e w' => e = .returned (.bool (validB q.neg q.num q.den X)) ∧ Below w.heap.size w w' := by
  obtain ⟨ad, bd, ca, cb, rfl, A, B, _⟩ := hv
  exact isR_dec hu A B hn hx hd
theorem sameRaw_any {n : Nat} {w : World} {u v : Value} {p q : Q3} (hu : RawQ w u p) (hv : RawQ w v q) (hp : p.num.length ≤ n ∧ p.den.length ≤ n) (hq : q.num.length ≤ n ∧ q.den.length ≤ n) (hn : n ≤ 1048576) :
    Calls Tryz.prog 38 #[u, v] w fun e w' => e = .returned (.bool (decide (p.rat = q.rat))) ∧ Below w.heap.size w w' := by
  have a1 := hu.arg hp.1 hp.2
  have a2 := hv.arg hq.1 hq.2
  obtain ⟨ad, bd, ca, cb, rfl, _⟩ := hu
  obtain ⟨ad', bd', ca', cb', rfl, _⟩ := hv
  exact sameR_any a1 a2 (by omega)
set_option maxRecDepth 100000 in
set_option maxHeartbeats 8000000 in
theorem isT_any {n : Nat} {w : World} {u v : Value} {s1 s2 : List Int} {L1 : List Rat} {L2 : List Q3} {a1 b1 a2 b2 : Option Addr} {ca1 cb1 ca2 cb2 : Nat} (T1 : TensR w u s1 L1 n a1 ca1 b1 cb1) (T2 : TensQ w v s2 L2 a2 ca2 b2 cb2) (hs : s1.length ≤ 140737488355328) (hq1 : L1.length ≤ 1000000000) (hq2 : L2.length ≤ 1000000000) (hn : n ≤ 1000000000) (hl : ∀ q ∈ L2, q.num.length ≤ 134217728 ∧ q.den.length ≤ 134217728) :
    Calls Tryz.prog 32 #[u, v] w fun e w' => e = .returned (.bool (allBC (fun (x : Rat) (q : Q3) => validB q.neg q.num q.den x) s1 s2 L1 L2)) ∧ Below w.heap.size w w' := by
  have HT1 := Lib.hid T1
  have HT2 := Lib.hid T2
  obtain rfl := T1.is
  obtain rfl := T2.is
  obtain ⟨W, hW⟩ : ∃ W, ((w.alloc (.cells #[.slice a1 s1.length ca1, .slice b1 L1.length cb1] 34)).alloc (.cells #[.slice a2 s2.length ca2, .slice b2 L2.length cb2] 26)) = W := ⟨_, rfl⟩
  have R0 : Row W w.heap.size 34 #[.slice a1 s1.length ca1, .slice b1 L1.length cb1] := by rw [← hW]; exact (Row.new _ _ _).alloc _
  have R1 : Row W (w.heap.size + 1) 26 #[.slice a2 s2.length ca2, .slice b2 L2.length cb2] := by rw [← hW]; have h := (Row.new (w.alloc (.cells #[.slice a1 s1.length ca1, .slice b1 L1.length cb1] 34)) 26 #[.slice a2 s2.length ca2, .slice b2 L2.length cb2]); simp only [World.size_alloc] at h; exact h
  have hBW : Below w.heap.size w W := by rw [← hW]; exact ((Below.refl _ _).alloc (by simp) _).alloc (by simp) _
  obtain ⟨c, hc⟩ : ∃ c, allBC (fun (x : Rat) (q : Q3) => validB q.neg q.num q.den x) s1 s2 L1 L2 = c := ⟨_, rfl⟩
  have HC := Lib.hid hc
  rw [hc]
  have q1 := sameSh_any (HT1.out.sh.later hBW) (HT2.out.sh.later hBW) hs
  obtain ⟨p0, p1, _, _⟩ := R0.two
  obtain ⟨o0, o1, _, _⟩ := R1.two
  clear T1 T2 hc
  by_cases hsh : s1 = s2
  · rw [decide_eq_true hsh] at q1
    have HSH := Lib.hid hsh
    clear hsh
    by_cases hlen : L1.length = L2.length
    · have hne : ((L1.length : Int) != (L2.length : Int)) = false := by simp; omega
      have HLN := Lib.hid hlen
      clear hlen
      go_enter Tryz.func32, Tryz.ntmps32
      go_wp2_with (go_at_call 35; refine q1.mono ?_; rintro e w1 ⟨rfl, hb1⟩; have R0' := R0.later hb1; have R1' := R1.later hb1; obtain ⟨c00, c01, _, _⟩ := R0'.two; obtain ⟨c10, c11, _, _⟩ := R1'.two)
      have hBW1 : Below w.heap.size w w1 := hBW.trans (hb1.mono hBW.size)
      clear hne q1 hW c00 c01 c10 c11
      go_loopw [5] (fun i wr => ∃ k : Nat, i = .int .i64 (k : Int) ∧ k ≤ L1.length ∧ (∀ i x y, i < k → L1[i]? = some x → L2[i]? = some y → validB y.neg y.num y.den x = true) ∧ Below w1.heap.size w1 wr) (fun i _ => L1.length - (intOf i).toNat)
      case atStart => exact ⟨0, rfl, Nat.zero_le _, fun i x y h => by omega, Below.refl _ _⟩
      case round =>
        obtain ⟨k, rfl, hk, hall, hb⟩ := hrel
        have r0 := R0'.later hb
        have r1 := R1'.later hb
        obtain ⟨c00, c01, _, _⟩ := r0.two
        obtain ⟨c10, c11, _, _⟩ := r1.two
        have HALL := Lib.hid hall
        clear hall
        by_cases hlt : k < L1.length
        · have hlt2 : k < L2.length := by have := HLN.out; omega
          have hbw := hBW1.trans (hb.mono hBW1.size)
          obtain ⟨bb, o, x0, x1, x2, q, hbo, hqk, e0, e1, e2, hraw⟩ := (HT1.out.el.later hbw (fun v x _ k => k.later hbw)).at hlt
          obtain ⟨bd, od, y0, y1, y2, t, hbd, htk, d0, d1, d2, hrat⟩ := (HT2.out.el.later hbw (fun v x _ k => k.later hbw)).at hlt2
          have hm1 := List.mem_of_getElem? hqk
          have hm2 := List.mem_of_getElem? htk
          subst hbo
          subst hbd
          have hcall := fun X (hX : Below wr.heap.size wr X) => isRaw_any (ArgR.later hraw hX) (hrat.later hX) hn (hl t hm2).1 (hl t hm2).2
          have hltI : (k : Int) < (L1.length : Int) := by omega
          have hltI2 : (k : Int) < (L2.length : Int) := by omega
          have HQK := Lib.hid hqk
          have HTK := Lib.hid htk
          have mkS : ∀ X, Below wr.heap.size wr X → X.cell? ⟨w.heap.size, 1, none⟩ = some (.slice (some ⟨bb, o, none⟩) L1.length cb1) ∧ X.cell? ⟨w.heap.size + 1, 1, none⟩ = some (.slice (some ⟨bd, od, none⟩) L2.length cb2) ∧ X.cell? ⟨bb, o + k * 3, none⟩ = some x0 ∧ X.cell? ⟨bb, o + k * 3 + 1, none⟩ = some x1 ∧ X.cell? ⟨bb, o + k * 3 + 2, none⟩ = some x2 ∧
            X.cell? ⟨bd, od + k * 3, none⟩ = some y0 ∧ X.cell? ⟨bd, od + k * 3 + 1, none⟩ = some y1 ∧ X.cell? ⟨bd, od + k * 3 + 2, none⟩ = some y2 ∧ Below wr.heap.size wr X := fun X h =>
            ⟨(r0.later h).cell 1, (r1.later h).cell 1, (h.cell (World.block_lt_of_cell? wr _ e0)).trans e0, (h.cell (World.block_lt_of_cell? wr _ e1)).trans e1, (h.cell (World.block_lt_of_cell? wr _ e2)).trans e2, (h.cell (World.block_lt_of_cell? wr _ d0)).trans d0, (h.cell (World.block_lt_of_cell? wr _ d1)).trans d1, (h.cell (World.block_lt_of_cell? wr _ d2)).trans d2, h⟩
          clear hqk htk hraw hrat
          obtain ⟨bo, hbo⟩ : ∃ bo, validB t.neg t.num t.den q = bo := ⟨_, rfl⟩
          rw [hbo] at hcall
          have HBO := Lib.hid hbo
          clear hbo
          cases bo with
          | true =>
            go_wp2_with fail
            go_region_held3 (fun X => X.cell? ⟨w.heap.size, 1, none⟩ = some (.slice (some ⟨bb, o, none⟩) L1.length cb1) ∧ X.cell? ⟨w.heap.size + 1, 1, none⟩ = some (.slice (some ⟨bd, od, none⟩) L2.length cb2) ∧ X.cell? ⟨bb, o + k * 3, none⟩ = some x0 ∧ X.cell? ⟨bb, o + k * 3 + 1, none⟩ = some x1 ∧ X.cell? ⟨bb, o + k * 3 + 2, none⟩ = some x2 ∧
                X.cell? ⟨bd, od + k * 3, none⟩ = some y0 ∧ X.cell? ⟨bd, od + k * 3 + 1, none⟩ = some y1 ∧ X.cell? ⟨bd, od + k * 3 + 2, none⟩ = some y2 ∧ Below wr.heap.size wr X)
              (((refine mkS _ ?_; (repeat' (first | exact Below.refl _ _ | refine Below.drew ?_ | assumption)))))
              ((go_at_call 72; (with_reducible refine (hcall _ (show Below wr.heap.size wr _ by (repeat' (first | exact Below.refl _ _ | refine Below.drew ?_)))).mono ?_); rintro e w2 ⟨rfl, hb2⟩; have hb2 : Below wr.heap.size wr w2 := ((Below.refl _ _).drew).trans hb2))
            go_wp2
            go_roundw
            case rel =>
              refine ⟨k + 1, by go_num, by omega, fun i x y hi h1 h2 => ?_, hb.trans (hb2.mono hb.size)⟩
              by_cases hik : i = k
              · subst hik
                rw [HQK.out] at h1
                rw [HTK.out] at h2
                cases h1
                cases h2
                exact HBO.out
              · exact HALL.out i x y (by omega) h1 h2
            case measure => simp [intOf]; omega
          | false =>
            obtain rfl : c = false := by rw [← HC.out]; exact allBC_no fun ⟨_, _, h⟩ => by have := h k q t HQK.out HTK.out; rw [show validB t.neg t.num t.den q = false from HBO.out] at this; cases this
            go_wp2_with fail
            go_region_held3 (fun X => X.cell? ⟨w.heap.size, 1, none⟩ = some (.slice (some ⟨bb, o, none⟩) L1.length cb1) ∧ X.cell? ⟨w.heap.size + 1, 1, none⟩ = some (.slice (some ⟨bd, od, none⟩) L2.length cb2) ∧ X.cell? ⟨bb, o + k * 3, none⟩ = some x0 ∧ X.cell? ⟨bb, o + k * 3 + 1, none⟩ = some x1 ∧ X.cell? ⟨bb, o + k * 3 + 2, none⟩ = some x2 ∧
                X.cell? ⟨bd, od + k * 3, none⟩ = some y0 ∧ X.cell? ⟨bd, od + k * 3 + 1, none⟩ = some y1 ∧ X.cell? ⟨bd, od + k * 3 + 2, none⟩ = some y2 ∧ Below wr.heap.size wr X)
              (((refine mkS _ ?_; (repeat' (first | exact Below.refl _ _ | refine Below.drew ?_ | assumption)))))
              ((go_at_call 72; (with_reducible refine (hcall _ (show Below wr.heap.size wr _ by (repeat' (first | exact Below.refl _ _ | refine Below.drew ?_)))).mono ?_); rintro e w2 ⟨rfl, hb2⟩; have hb2 : Below wr.heap.size wr w2 := ((Below.refl _ _).drew).trans hb2))
            go_wp2
            go_ret
            exact ⟨rfl, hBW1.trans ((hb.trans (hb2.mono hb.size)).mono hBW1.size)⟩
        · obtain rfl : k = L1.length := by omega
          have hltI : ¬ (L1.length : Int) < (L1.length : Int) := by omega
          obtain rfl : c = true := by rw [← HC.out]; exact allBC_yes HSH.out HLN.out fun i x y h1 h2 => HALL.out i x y (by
            rcases Nat.lt_or_ge i L1.length with g | g
            · exact g
            · rw [List.getElem?_eq_none g] at h1; cases h1) h1 h2
          go_wp2
          go_ret
          exact ⟨rfl, hBW1.trans (hb.mono hBW1.size)⟩
    · have hne : ((L1.length : Int) != (L2.length : Int)) = true := by simp; omega
      obtain rfl : c = false := by rw [← HC.out]; exact allBC_no fun h => hlen h.2.1
      clear hlen
      go_enter Tryz.func32, Tryz.ntmps32
      go_wp2_with (go_at_call 35; refine q1.mono ?_; rintro e w1 ⟨rfl, hb1⟩; have R0' := R0.later hb1; have R1' := R1.later hb1; obtain ⟨c00, c01, _, _⟩ := R0'.two; obtain ⟨c10, c11, _, _⟩ := R1'.two)
      go_ret
      exact ⟨rfl, hBW.trans (hb1.mono hBW.size)⟩
  · rw [decide_eq_false hsh] at q1
    obtain rfl : c = false := by rw [← HC.out]; exact allBC_no fun h => hsh h.1
    clear hsh
    go_enter Tryz.func32, Tryz.ntmps32
    go_wp2_with (go_at_call 35; refine q1.mono ?_; rintro e w1 ⟨rfl, hb1⟩; have R0' := R0.later hb1; have R1' := R1.later hb1; obtain ⟨c00, c01, _, _⟩ := R0'.two; obtain ⟨c10, c11, _, _⟩ := R1'.two)
    go_ret
    exact ⟨rfl, hBW.trans (hb1.mono hBW.size)⟩
set_option maxRecDepth 100000 in
set_option maxHeartbeats 8000000 in
theorem sameT_any {n : Nat} {w : World} {u v : Value} {s1 s2 : List Int} {L1 : List Q3} {L2 : List Q3} {a1 b1 a2 b2 : Option Addr} {ca1 cb1 ca2 cb2 : Nat} (T1 : TensQ w u s1 L1 a1 ca1 b1 cb1) (T2 : TensQ w v s2 L2 a2 ca2 b2 cb2) (hs : s1.length ≤ 140737488355328) (hq1 : L1.length ≤ 1000000000) (hq2 : L2.length ≤ 1000000000) (hn : n ≤ 1048576) (hl1 : ∀ q ∈ L1, q.num.length ≤ n ∧ q.den.length ≤ n) (hl2 : ∀ q ∈ L2, q.num.length ≤ n ∧ q.den.length ≤ n) :
    Calls Tryz.prog 34 #[u, v] w fun e w' => e = .returned (.bool (allBC (fun (p q : Q3) => decide (p.rat = q.rat)) s1 s2 L1 L2)) ∧ Below w.heap.size w w' := by
  have HT1 := Lib.hid T1
  have HT2 := Lib.hid T2
  obtain rfl := T1.is
  obtain rfl := T2.is
  obtain ⟨W, hW⟩ : ∃ W, ((w.alloc (.cells #[.slice a1 s1.length ca1, .slice b1 L1.length cb1] 26)).alloc (.cells #[.slice a2 s2.length ca2, .slice b2 L2.length cb2] 26)) = W := ⟨_, rfl⟩
  have R0 : Row W w.heap.size 26 #[.slice a1 s1.length ca1, .slice b1 L1.length cb1] := by rw [← hW]; exact (Row.new _ _ _).alloc _
  have R1 : Row W (w.heap.size + 1) 26 #[.slice a2 s2.length ca2, .slice b2 L2.length cb2] := by rw [← hW]; have h := (Row.new (w.alloc (.cells #[.slice a1 s1.length ca1, .slice b1 L1.length cb1] 26)) 26 #[.slice a2 s2.length ca2, .slice b2 L2.length cb2]); simp only [World.size_alloc] at h; exact h
  have hBW : Below w.heap.size w W := by rw [← hW]; exact ((Below.refl _ _).alloc (by simp) _).alloc (by simp) _
  obtain ⟨c, hc⟩ : ∃ c, allBC (fun (p q : Q3) => decide (p.rat = q.rat)) s1 s2 L1 L2 = c := ⟨_, rfl⟩
  have HC := Lib.hid hc
  rw [hc]
  have q1 := sameSh_any (HT1.out.sh.later hBW) (HT2.out.sh.later hBW) hs
  obtain ⟨p0, p1, _, _⟩ := R0.two
  obtain ⟨o0, o1, _, _⟩ := R1.two
  clear T1 T2 hc
  by_cases hsh : s1 = s2
  · rw [decide_eq_true hsh] at q1
    have HSH := Lib.hid hsh
    clear hsh
    by_cases hlen : L1.length = L2.length
    · have hne : ((L1.length : Int) != (L2.length : Int)) = false := by simp; omega
      have HLN := Lib.hid hlen
      clear hlen
      go_enter Tryz.func34, Tryz.ntmps34
      go_wp2_with (go_at_call 35; refine q1.mono ?_; rintro e w1 ⟨rfl, hb1⟩; have R0' := R0.later hb1; have R1' := R1.later hb1; obtain ⟨c00, c01, _, _⟩ := R0'.two; obtain ⟨c10, c11, _, _⟩ := R1'.two)
      have hBW1 : Below w.heap.size w w1 := hBW.trans (hb1.mono hBW.size)
      clear hne q1 hW c00 c01 c10 c11
      go_loopw [5] (fun i wr => ∃ k : Nat, i = .int .i64 (k : Int) ∧ k ≤ L1.length ∧ (∀ i x y, i < k → L1[i]? = some x → L2[i]? = some y → decide (x.rat = y.rat) = true) ∧ Below w1.heap.size w1 wr) (fun i _ => L1.length - (intOf i).toNat)
      case atStart => exact ⟨0, rfl, Nat.zero_le _, fun i x y h => by omega, Below.refl _ _⟩
      case round =>
        obtain ⟨k, rfl, hk, hall, hb⟩ := hrel
        have r0 := R0'.later hb
        have r1 := R1'.later hb
        obtain ⟨c00, c01, _, _⟩ := r0.two
        obtain ⟨c10, c11, _, _⟩ := r1.two
        have HALL := Lib.hid hall
        clear hall
        by_cases hlt : k < L1.length
        · have hlt2 : k < L2.length := by have := HLN.out; omega
          have hbw := hBW1.trans (hb.mono hBW1.size)
          obtain ⟨bb, o, x0, x1, x2, q, hbo, hqk, e0, e1, e2, hraw⟩ := (HT1.out.el.later hbw (fun v x _ k => k.later hbw)).at hlt
          obtain ⟨bd, od, y0, y1, y2, t, hbd, htk, d0, d1, d2, hrat⟩ := (HT2.out.el.later hbw (fun v x _ k => k.later hbw)).at hlt2
          have hm1 := List.mem_of_getElem? hqk
          have hm2 := List.mem_of_getElem? htk
          subst hbo
          subst hbd
          have hcall := fun X (hX : Below wr.heap.size wr X) => sameRaw_any (hraw.later hX) (hrat.later hX) (hl1 q hm1) (hl2 t hm2) hn
          have hltI : (k : Int) < (L1.length : Int) := by omega
          have hltI2 : (k : Int) < (L2.length : Int) := by omega
          have HQK := Lib.hid hqk
          have HTK := Lib.hid htk
          have mkS : ∀ X, Below wr.heap.size wr X → X.cell? ⟨w.heap.size, 1, none⟩ = some (.slice (some ⟨bb, o, none⟩) L1.length cb1) ∧ X.cell? ⟨w.heap.size + 1, 1, none⟩ = some (.slice (some ⟨bd, od, none⟩) L2.length cb2) ∧ X.cell? ⟨bb, o + k * 3, none⟩ = some x0 ∧ X.cell? ⟨bb, o + k * 3 + 1, none⟩ = some x1 ∧ X.cell? ⟨bb, o + k * 3 + 2, none⟩ = some x2 ∧
            X.cell? ⟨bd, od + k * 3, none⟩ = some y0 ∧ X.cell? ⟨bd, od + k * 3 + 1, none⟩ = some y1 ∧ X.cell? ⟨bd, od + k * 3 + 2, none⟩ = some y2 ∧ Below wr.heap.size wr X := fun X h =>
            ⟨(r0.later h).cell 1, (r1.later h).cell 1, (h.cell (World.block_lt_of_cell? wr _ e0)).trans e0, (h.cell (World.block_lt_of_cell? wr _ e1)).trans e1, (h.cell (World.block_lt_of_cell? wr _ e2)).trans e2, (h.cell (World.block_lt_of_cell? wr _ d0)).trans d0, (h.cell (World.block_lt_of_cell? wr _ d1)).trans d1, (h.cell (World.block_lt_of_cell? wr _ d2)).trans d2, h⟩
          clear hqk htk hraw hrat
          obtain ⟨bo, hbo⟩ : ∃ bo, decide (q.rat = t.rat) = bo := ⟨_, rfl⟩
          rw [hbo] at hcall
          have HBO := Lib.hid hbo
          clear hbo
          cases bo with
          | true =>
            go_wp2_with fail
            go_region_held3 (fun X => X.cell? ⟨w.heap.size, 1, none⟩ = some (.slice (some ⟨bb, o, none⟩) L1.length cb1) ∧ X.cell? ⟨w.heap.size + 1, 1, none⟩ = some (.slice (some ⟨bd, od, none⟩) L2.length cb2) ∧ X.cell? ⟨bb, o + k * 3, none⟩ = some x0 ∧ X.cell? ⟨bb, o + k * 3 + 1, none⟩ = some x1 ∧ X.cell? ⟨bb, o + k * 3 + 2, none⟩ = some x2 ∧
                X.cell? ⟨bd, od + k * 3, none⟩ = some y0 ∧ X.cell? ⟨bd, od + k * 3 + 1, none⟩ = some y1 ∧ X.cell? ⟨bd, od + k * 3 + 2, none⟩ = some y2 ∧ Below wr.heap.size wr X)
              (((refine mkS _ ?_; (repeat' (first | exact Below.refl _ _ | refine Below.drew ?_ | assumption)))))
              ((go_at_call 38; (with_reducible refine (hcall _ (show Below wr.heap.size wr _ by (repeat' (first | exact Below.refl _ _ | refine Below.drew ?_)))).mono ?_); rintro e w2 ⟨rfl, hb2⟩; have hb2 : Below wr.heap.size wr w2 := ((Below.refl _ _).drew).trans hb2))
            go_wp2
            go_roundw
            case rel =>
              refine ⟨k + 1, by go_num, by omega, fun i x y hi h1 h2 => ?_, hb.trans (hb2.mono hb.size)⟩
              by_cases hik : i = k
              · subst hik
                rw [HQK.out] at h1
                rw [HTK.out] at h2
                cases h1
                cases h2
                exact HBO.out
              · exact HALL.out i x y (by omega) h1 h2
            case measure => simp [intOf]; omega
          | false =>
            obtain rfl : c = false := by rw [← HC.out]; exact allBC_no fun ⟨_, _, h⟩ => by have := h k q t HQK.out HTK.out; rw [show decide (q.rat = t.rat) = false from HBO.out] at this; cases this
            go_wp2_with fail
            go_region_held3 (fun X => X.cell? ⟨w.heap.size, 1, none⟩ = some (.slice (some ⟨bb, o, none⟩) L1.length cb1) ∧ X.cell? ⟨w.heap.size + 1, 1, none⟩ = some (.slice (some ⟨bd, od, none⟩) L2.length cb2) ∧ X.cell? ⟨bb, o + k * 3, none⟩ = some x0 ∧ X.cell? ⟨bb, o + k * 3 + 1, none⟩ = some x1 ∧ X.cell? ⟨bb, o + k * 3 + 2, none⟩ = some x2 ∧
                X.cell? ⟨bd, od + k * 3, none⟩ = some y0 ∧ X.cell? ⟨bd, od + k * 3 + 1, none⟩ = some y1 ∧ X.cell? ⟨bd, od + k * 3 + 2, none⟩ = some y2 ∧ Below wr.heap.size wr X)
              (((refine mkS _ ?_; (repeat' (first | exact Below.refl _ _ | refine Below.drew ?_ | assumption)))))
              ((go_at_call 38; (with_reducible refine (hcall _ (show Below wr.heap.size wr _ by (repeat' (first | exact Below.refl _ _ | refine Below.drew ?_)))).mono ?_); rintro e w2 ⟨rfl, hb2⟩; have hb2 : Below wr.heap.size wr w2 := ((Below.refl _ _).drew).trans hb2))
            go_wp2
            go_ret
            exact ⟨rfl, hBW1.trans ((hb.trans (hb2.mono hb.size)).mono hBW1.size)⟩
        · obtain rfl : k = L1.length := by omega
          have hltI : ¬ (L1.length : Int) < (L1.length : Int) := by omega
          obtain rfl : c = true := by rw [← HC.out]; exact allBC_yes HSH.out HLN.out fun i x y h1 h2 => HALL.out i x y (by
            rcases Nat.lt_or_ge i L1.length with g | g
            · exact g
            · rw [List.getElem?_eq_none g] at h1; cases h1) h1 h2
          go_wp2
          go_ret
          exact ⟨rfl, hBW1.trans (hb.mono hBW1.size)⟩
    · have hne : ((L1.length : Int) != (L2.length : Int)) = true := by simp; omega
      obtain rfl : c = false := by rw [← HC.out]; exact allBC_no fun h => hlen h.2.1
      clear hlen
      go_enter Tryz.func34, Tryz.ntmps34
      go_wp2_with (go_at_call 35; refine q1.mono ?_; rintro e w1 ⟨rfl, hb1⟩; have R0' := R0.later hb1; have R1' := R1.later hb1; obtain ⟨c00, c01, _, _⟩ := R0'.two; obtain ⟨c10, c11, _, _⟩ := R1'.two)
      go_ret
      exact ⟨rfl, hBW.trans (hb1.mono hBW.size)⟩
  · rw [decide_eq_false hsh] at q1
    obtain rfl : c = false := by rw [← HC.out]; exact allBC_no fun h => hsh h.1
    clear hsh
    go_enter Tryz.func34, Tryz.ntmps34
    go_wp2_with (go_at_call 35; refine q1.mono ?_; rintro e w1 ⟨rfl, hb1⟩; have R0' := R0.later hb1; have R1' := R1.later hb1; obtain ⟨c00, c01, _, _⟩ := R0'.two; obtain ⟨c10, c11, _, _⟩ := R1'.two)
    go_ret
    exact ⟨rfl, hBW.trans (hb1.mono hBW.size)⟩
end
section
open Go.RowKit
set_option linter.unusedVariables false
set_option linter.unusedSimpArgs false
/-- numerator and denominator are at most 2 to the b -/
def FitQ (X : Rat) (b : Nat) : Prop := X.num.natAbs ≤ 2 ^ b ∧ X.den ≤ 2 ^ b
theorem FitQ.mono {X : Rat} {a b : Nat} (h : FitQ X a) (hb : a ≤ b) : FitQ X b :=
  ⟨Nat.le_trans h.1 (Nat.pow_le_pow_right (by omega) hb), Nat.le_trans h.2 (Nat.pow_le_pow_right (by omega) hb)⟩
theorem FitQ.of {n : Bool} {A B : Int} {b : Nat} (hA : 0 ≤ A) (hB : 0 ≤ B) (h1 : A ≤ ((2 ^ b : Nat) : Int)) (h2 : B ≤ ((2 ^ b : Nat) : Int)) : FitQ (ratOf n A B) b := by
  have hp : 1 ≤ 2 ^ b := Nat.one_le_two_pow
  rcases Int.lt_or_le 0 B with h | h
  · have e1 := ratOf_abs (n := n) hA h
    have e2 := ratOf_den (n := n) (A := A) h
    have hg : (0 : Int) ≤ (Int.gcd A B : Int) := Int.natCast_nonneg _
    have l1 : A / (Int.gcd A B : Int) ≤ A := Int.ediv_le_self _ hA
    have l2 : B / (Int.gcd A B : Int) ≤ B := Int.ediv_le_self _ hB
    constructor <;> omega
  · have hz : B = 0 := by omega
    subst hz
    rw [ratOf_zero_right]
    exact ⟨by show 0 ≤ _; omega, by show 1 ≤ _; omega⟩
theorem FitQ.zero (b : Nat) : FitQ 0 b := ⟨Nat.zero_le _, Nat.one_le_two_pow⟩
theorem two_pow_mul (a b : Nat) {x y : Nat} (h1 : x ≤ 2 ^ a) (h2 : y ≤ 2 ^ b) : x * y ≤ 2 ^ (a + b) := by
  rw [Nat.pow_add]; exact Nat.mul_le_mul h1 h2
theorem sgn_abs (t : Int) : sgn (decide (t < 0)) (t.natAbs : Int) = t := by
  unfold sgn
  by_cases h : t < 0
  · rw [decide_eq_true h]; simp; omega
  · rw [decide_eq_false h]; simp; omega
theorem sgn_natAbs (n : Bool) (A : Int) : (sgn n A).natAbs = A.natAbs := by
  unfold sgn
  cases n <;> simp
theorem FitQ.add {X Y : Rat} {a b : Nat} (h : FitQ X a) (k : FitQ Y b) : FitQ (X + Y) (a + b + 1) := by
  obtain ⟨A, hA⟩ : ∃ A, X.num.natAbs = A := ⟨_, rfl⟩
  obtain ⟨B, hB⟩ : ∃ B, X.den = B := ⟨_, rfl⟩
  obtain ⟨C, hC⟩ : ∃ C, Y.num.natAbs = C := ⟨_, rfl⟩
  obtain ⟨D, hD⟩ : ∃ D, Y.den = D := ⟨_, rfl⟩
  have eX : ratOf (decide (X.num < 0)) (A : Int) (B : Int) = X := by rw [← hA, ← hB]; exact ratOf_self X
  have eY : ratOf (decide (Y.num < 0)) (C : Int) (D : Int) = Y := by rw [← hC, ← hD]; exact ratOf_self Y
  have pB := den_pos' X
  have pD := den_pos' Y
  rw [hB] at pB
  rw [hD] at pD
  obtain ⟨t, ht⟩ : ∃ t, sgn (decide (X.num < 0)) ((A : Int) * (D : Int)) + sgn (decide (Y.num < 0)) ((C : Int) * (B : Int)) = t := ⟨_, rfl⟩
  have hs := rat_sum (m := decide (X.num < 0)) (n := decide (Y.num < 0)) (r := decide (t < 0)) (A := A) (B := B) (C := C) (D := D) (S := (t.natAbs : Int)) pB pD (by rw [sgn_abs, ht])
  rw [eX, eY] at hs
  rw [← hs]
  have f1 := h.1
  have f2 := h.2
  have f3 := k.1
  have f4 := k.2
  rw [hA] at f1
  rw [hB] at f2
  rw [hC] at f3
  rw [hD] at f4
  have g1 := two_pow_mul a b f1 f4
  have g2 := two_pow_mul b a f3 f2
  have g3 := two_pow_mul a b f2 f4
  have ht2 : t.natAbs ≤ A * D + C * B := by
    rw [← ht]
    refine Nat.le_trans (Int.natAbs_add_le _ _) ?_
    rw [sgn_natAbs, sgn_natAbs, Int.natAbs_mul, Int.natAbs_mul]
    simp
  rw [Nat.add_comm b a] at g2
  have hp2 : 2 ^ (a + b + 1) = 2 ^ (a + b) * 2 := Nat.pow_succ ..
  refine FitQ.of (Int.natCast_nonneg _) (Int.mul_nonneg (Int.natCast_nonneg _) (Int.natCast_nonneg _)) ?_ ?_
  · omega
  · rw [← Int.natCast_mul]; omega
theorem FitQ.raw {q : Q3} {m : Nat} (h1 : Wf q.num) (h2 : Wf q.den) (l1 : q.num.length ≤ m) (l2 : q.den.length ≤ m) : FitQ q.rat (32 * m) := by
  have e : ∀ {xs : List Int}, Wf xs → xs.length ≤ m → val xs ≤ ((2 ^ (32 * m) : Nat) : Int) := fun {xs} hx hl => by
    have h3 := val_lt hx
    have h4 : (4294967296 : Nat) ^ xs.length ≤ 4294967296 ^ m := Nat.pow_le_pow_right (by omega) hl
    have h5 : ((4294967296 ^ xs.length : Nat) : Int) = (4294967296 : Int) ^ xs.length := by rw [Int.natCast_pow]; rfl
    have h6 : 2 ^ (32 * m) = (4294967296 : Nat) ^ m := by rw [Nat.pow_mul]
    omega
  exact FitQ.of (val_nonneg h1) (val_nonneg h2) (e h1 l1) (e h2 l2)
end
section
open Go.RowKit
set_option linter.unusedVariables false
set_option linter.unusedSimpArgs false
set_option maxRecDepth 100000 in
set_option maxHeartbeats 4000000 in
theorem emptyT_any {w : World} (v : Value) (sa sb : Option Addr) (n m ca cb : Nat) (hv : v = .agg #[.slice sa n ca, .slice sb m cb]) :
    Calls Tryz.prog 30 #[v] w fun e w' => e = .returned (.bool (decide (n = 0) && decide (m = 0))) ∧ Below w.heap.size w w' := by
  subst hv
  obtain ⟨W, hW⟩ : ∃ W, (w.alloc (.cells #[.slice sa n ca, .slice sb m cb] 26)) = W := ⟨_, rfl⟩
  have R0 : Row W w.heap.size 26 #[.slice sa n ca, .slice sb m cb] := by rw [← hW]; exact Row.new _ _ _
  have hBW : Below w.heap.size w W := by rw [← hW]; exact (Below.refl _ _).alloc (by simp) _
  obtain ⟨c0, c1, _, _⟩ := R0.two
  by_cases h0 : n = 0
  · subst h0
    by_cases h1 : m = 0
    · subst h1
      go_enter Tryz.func30, Tryz.ntmps30
      go_wp2
      go_ret
      exact ⟨rfl, hBW⟩
    · have h1I : ((m : Int) == 0) = false := by simp; omega
      rw [decide_eq_false h1]
      clear h1
      go_enter Tryz.func30, Tryz.ntmps30
      go_wp2
      go_ret
      exact ⟨rfl, hBW⟩
  · have h0I : ((n : Int) == 0) = false := by simp; omega
    rw [decide_eq_false h0]
    clear h0
    go_enter Tryz.func30, Tryz.ntmps30
    go_wp2
    go_ret
    exact ⟨rfl, hBW⟩
theorem ResS.at_ {base : Nat} {w : World} {ad : Option Addr} {n cap : Nat} {xs : List Int} (h : ResS base w (.slice ad n cap) xs) : n = xs.length ∧ ArgS w (.slice ad n cap) xs ad cap ∧ (ad = none → cap = 0) := by
  obtain ⟨ad', cap', e, _, A, hn⟩ := h.slice
  simp only [Value.slice.injEq] at e
  obtain ⟨rfl, rfl, rfl⟩ := e
  exact ⟨rfl, A, hn⟩
theorem RowA.imp {α : Type} {P Q : World → Value → α → Prop} {w : World} {u : Value} {L : List α} {ad : Option Addr} {cap : Nat} (h : RowA P w u L ad cap) (hP : ∀ v x, x ∈ L → P w v x → Q w v x) : RowA Q w u L ad cap := by
  refine ⟨h.is, h.le, ?_⟩
  rcases h.els with e | ⟨b, o, es, e, c, k⟩
  · exact .inl e
  · exact .inr ⟨b, o, es, e, c, k.imp hP⟩
theorem RowO.at_ {α : Type} {base : Nat} {T : TypeId} {P : World → Value → α → Prop} {w : World} {ad : Option Addr} {n cap : Nat} {L : List α} (h : RowO base T P w (.slice ad n cap) L) : n = L.length ∧ RowA P w (.slice ad n cap) L ad cap ∧ (ad = none → cap = 0) := by
  obtain ⟨ad', cap', A, hn, _⟩ := h.arg
  have e := A.is
  simp only [Value.slice.injEq] at e
  obtain ⟨rfl, rfl, rfl⟩ := e
  exact ⟨rfl, A, hn⟩
end
section
open Go.RowKit
set_option linter.unusedVariables false
set_option linter.unusedSimpArgs false
set_option maxRecDepth 100000 in
set_option maxHeartbeats 4000000 in
theorem intRR_any (k : Int) (w : World) (h0 : -9223372036854775808 ≤ k) (h1 : k ≤ 9223372036854775807) :
    Calls Tryz.prog 49 #[.int .i64 k] w fun e w' => ∃ r, e = .returned r ∧ ResR w.heap.size w' r (intQ k) 6 ∧ Below w.heap.size w w' := by
  obtain ⟨i1, i2, i3⟩ := intQ_parts k
  obtain ⟨m1, hm1⟩ : ∃ m, decide (k < 0) = m := ⟨_, rfl⟩
  rw [hm1] at i1
  have I1 := Lib.hid i1
  have I2 := Lib.hid i2
  have I3 := Lib.hid i3
  clear i1 i2 i3
  obtain ⟨W, hW⟩ : ∃ W, (w.alloc (.cells #[.bool false, .slice none 0 0, .slice none 0 0] 75)) = W := ⟨_, rfl⟩
  have R0 : Row W (w.heap.size) 75 #[.bool false, .slice none 0 0, .slice none 0 0] := by rw [← hW]; exact (Row.new _ _ _)
  have hBW : Below w.heap.size w W := by rw [← hW]; exact ((Below.refl _ _).alloc (by (try simp) <;> omega) _)
  have hsW : w.heap.size + 1 ≤ W.heap.size := by rw [← hW]; simp
  go_enter Tryz.func49, Tryz.ntmps49
  go_wp2_with fail
  refine (sizeR_any k _ h0 h1).mono ?_
  rintro e w1 ⟨r1, rfl, z1, q1, l1, hb1⟩
  have hs1 := hb1.size
  obtain ⟨ad1, cp1, rfl, q1, A1⟩ := q1.slice
  have v1 : valD z1 = (((intQ k).num.natAbs : Nat) : Int) := by rw [q1.eq, I2.out]
  have V1 := Lib.hid v1
  have hb2 : Below w1.heap.size w1 (w1.alloc (.cells #[.int .i64 1] 3)) := (Below.refl _ _).alloc (Nat.le_refl _) _
  have L := digit_lit (Row.new w1 3 #[.int .i64 1]) (by omega)
  have P2 := (R0.later hb1).later hb2
  have A2 := A1.later hb2
  have Q1 := Lib.hid q1
  clear v1 q1 hW
  obtain ⟨q0, q1, q2, h0', h1', h2'⟩ := (R0.later hb1).three
  obtain ⟨u0, u1, u2, g0, g1, g2⟩ := P2.three
  go_wp2_with fail
  refine bodyPost_ret (v := .agg #[.bool m1, .slice ad1 z1.length cp1, .slice (some ⟨w1.heap.size, 0, none⟩) 1 1]) (by simp [results, Tryz.results49, go_sem, u0, u1, u2]) rfl ⟨_, rfl, ⟨z1, [1], ad1, some ⟨w1.heap.size, 0, none⟩, cp1, 1, by rw [I1.out]; rfl, ?_, ?_, l1, by simp⟩, ?_⟩
  · exact (((Q1.out.mono (by omega)).later hb2).far P2 (by decide) (kept3 _ _ _)).eqTo V1.out
  · rw [I3.out]; exact (ResD.one w1 (by omega)).far P2 (by decide) (kept3 _ _ _)
  · exact below_set3 ((hBW.trans (hb1.mono (by omega))).trans (hb2.mono (by omega))) (by omega) _ _ _
/-- a tensor as it is answered -/
def ResT (base : Nat) (w : World) (v : Value) (s : List Int) (L : List Rat) (m : Nat) : Prop :=
  ∃ (a b : Option Addr) (ca cb : Nat), v = .agg #[.slice a s.length ca, .slice b L.length cb] ∧ ResS base w (.slice a s.length ca) s ∧ RowO base 58 (fun W v x => ResQ base W v x m) w (.slice b L.length cb) L
theorem ResT.later {base : Nat} {w w' : World} {v : Value} {s : List Int} {L : List Rat} {m : Nat} (h : ResT base w v s L m) (hb : Below w.heap.size w w') : ResT base w' v s L m := by
  obtain ⟨a, b, ca, cb, rfl, h1, h2⟩ := h
  exact ⟨a, b, ca, cb, rfl, h1.later hb, h2.later hb (fun v x h => h.later hb)⟩
theorem ResT.mono {base base' : Nat} {w : World} {v : Value} {s : List Int} {L : List Rat} {m : Nat} (h : ResT base w v s L m) (hb : base' ≤ base) : ResT base' w v s L m := by
  obtain ⟨a, b, ca, cb, rfl, h1, h2⟩ := h
  exact ⟨a, b, ca, cb, rfl, h1.mono hb, h2.mono hb (fun v x h => h.mono hb)⟩
theorem ResT.far {base : Nat} {w w' : World} {v : Value} {s : List Int} {L : List Rat} {m g : Nat} {t : TypeId} {cs : Array Value} (h : ResT base w v s L m) (R : Row w g t cs) (h1 : t ≠ 3) (h2 : t ≠ 63) (h3 : t ≠ 58) (hk : ∀ k, k ≠ g → w'.heap[k]? = w.heap[k]?) : ResT base w' v s L m := by
  obtain ⟨a, b, ca, cb, rfl, k1, k2⟩ := h
  exact ⟨a, b, ca, cb, rfl, k1.far R h1 hk, k2.far R h3 hk (fun v x h => h.far R h2 hk)⟩
end
section
open Go.RowKit Go.ChangeShapes Go.WideShapes Go.ChangeAt Go.Joins Go.Deep
set_option linter.unusedVariables false
set_option linter.unusedSimpArgs false
set_option maxRecDepth 100000
theorem cellsInt7 : Tryz.prog.cellsOf 3 = 1 := by kernel_rfl
theorem wf_int7 {i : Int} (h : (Lit.int .i64 i).wf = true) : -9223372036854775808 ≤ i ∧ i ≤ 9223372036854775807 := by simpa [Lit.wf, IntKind.min, IntKind.max, IntKind.signed, IntKind.bits] using h
/-- a row of limbs, as it came in: it is no longer than its bulk -/
theorem open_natB {H : Type} {enc : TypeId × Value → H} {W : World} {v : Value} {y : DataW H × List MemPlace} {fuel : Nat}
    (hf : DataW.trod enc Tryz.prog W 0 (fun _ => true) true fuel 56 [v] = some y) : ∃ ad xs cap, v = .slice ad xs.length cap ∧ Arg W (.slice ad xs.length cap) xs ad cap ∧ xs.length + 1 ≤ Rows.uptoBulk y.1 ∧ (ad = none → cap = 0) := by
  rcases open_ints Tryz.underlying56 Tryz.underlying63 cellsLimb hf with ⟨hcs, hx⟩ | ⟨a, n, cap, zs, hcs, _, hl, hm, hz, hx, hcell, hwz⟩
  · simp only [List.cons.injEq, and_true] at hcs
    subst hcs
    exact ⟨none, [], 0, rfl, ⟨rfl, .inl rfl, Nat.le_refl _, Wf.nil⟩, by have := bulk_pos y.1; simpa using this, fun _ => rfl⟩
  · simp only [List.cons.injEq, and_true] at hcs
    subst hcs
    subst hx
    simp only [if_true] at hz
    have hlen : (zs.take n).length = n := by rw [List.length_take]; omega
    have hb := bulk_slice (lits .u32 (zs.take n) : List (DataW H)) (lits .u32 (zs.drop n))
    have hb2 : (zs.take n).length + 1 ≤ Rows.uptoBulk (.slice (lits .u32 (zs.take n) : List (DataW H)) (lits .u32 (zs.drop n))) := by
      have h1 := bulk_len (lits .u32 (zs.take n) : List (DataW H))
      simp only [lits, List.length_map] at h1
      simp only [Rows.uptoBulk, lits]
      omega
    refine ⟨some a, zs.take n, cap, by rw [hlen], ⟨rfl, ?_, by rw [hlen]; exact hl, fun x hx => wf_limb (hwz x (List.mem_of_mem_take hx))⟩, hb2, fun e => by cases e⟩
    by_cases h0 : n = 0
    · exact .inl (by simp [h0])
    · obtain ⟨b, off, rfl, hc⟩ := ints_at hcell (by omega)
      refine .inr ⟨b, off, rfl, fun i hi => ?_⟩
      rw [hlen] at hi
      rw [hc i (by omega)]
      simp [hi]
/-- a row of numbers, as it came in -/
theorem open_intsB {H : Type} {enc : TypeId × Value → H} {W : World} {v : Value} {y : DataW H × List MemPlace} {fuel : Nat} {T : TypeId} (hT : Tryz.prog.underlying T = some (.slice 3))
    (hf : DataW.trod enc Tryz.prog W 0 (fun _ => true) true fuel T [v] = some y) : ∃ ad xs cap, v = .slice ad xs.length cap ∧ ArgS W (.slice ad xs.length cap) xs ad cap ∧ xs.length + 1 ≤ Rows.uptoBulk y.1 ∧ (ad = none → cap = 0) := by
  rcases open_ints hT Tryz.underlying3 cellsInt7 hf with ⟨hcs, hx⟩ | ⟨a, n, cap, zs, hcs, _, hl, hm, hz, hx, hcell, hwz⟩
  · simp only [List.cons.injEq, and_true] at hcs
    subst hcs
    exact ⟨none, [], 0, rfl, ⟨rfl, .inl rfl, Nat.le_refl _, Wid.nil⟩, by have := bulk_pos y.1; simpa using this, fun _ => rfl⟩
  · simp only [List.cons.injEq, and_true] at hcs
    subst hcs
    subst hx
    simp only [if_true] at hz
    have hlen : (zs.take n).length = n := by rw [List.length_take]; omega
    have hb2 : (zs.take n).length + 1 ≤ Rows.uptoBulk (.slice (lits .i64 (zs.take n) : List (DataW H)) (lits .i64 (zs.drop n))) := by
      have h1 := bulk_len (lits .i64 (zs.take n) : List (DataW H))
      simp only [lits, List.length_map] at h1
      simp only [Rows.uptoBulk, lits]
      omega
    refine ⟨some a, zs.take n, cap, by rw [hlen], ⟨rfl, ?_, by rw [hlen]; exact hl, fun x hx => wf_int7 (hwz x (List.mem_of_mem_take hx))⟩, hb2, fun e => by cases e⟩
    by_cases h0 : n = 0
    · exact .inl (by simp [h0])
    · obtain ⟨b, off, rfl, hc⟩ := ints_at hcell (by omega)
      refine .inr ⟨b, off, rfl, fun i hi => ?_⟩
      rw [hlen] at hi
      rw [hc i (by omega)]
      simp [hi]
/-- how much rational numbers hold -/
def sizeQ (q : Q3) : Nat := q.num.length + q.den.length + 1
def sizeQs : List Q3 → Nat
  | [] => 0
  | q :: qs => sizeQ q + sizeQs qs
theorem sizeQs_mem {qs : List Q3} {q : Q3} (h : q ∈ qs) : sizeQ q ≤ sizeQs qs := by
  induction qs with
  | nil => cases h
  | cons p qs ih =>
    simp only [sizeQs]
    rcases List.mem_cons.1 h with rfl | h
    · omega
    · have := ih h; omega
theorem sizeQs_len (qs : List Q3) : qs.length ≤ sizeQs qs := by
  induction qs with
  | nil => exact Nat.le_refl _
  | cons p qs ih => simp only [sizeQs, sizeQ, List.length_cons]; omega
theorem sizeQs_range {H : Type} (F : Nat → Q3) (D : Nat → DataW H) (n : Nat) (h : ∀ i, i < n → sizeQ (F i) ≤ Rows.uptoBulk (D i)) : sizeQs ((List.range n).map F) ≤ Rows.uptoBulkAll ((List.range n).map D) := by
  suffices hs : ∀ l : List Nat, (∀ i ∈ l, sizeQ (F i) ≤ Rows.uptoBulk (D i)) → sizeQs (l.map F) ≤ Rows.uptoBulkAll (l.map D) from hs _ (fun i hi => h i (List.mem_range.1 hi))
  intro l
  induction l with
  | nil => intro _; simp [sizeQs]
  | cons a l ih =>
    intro hl
    have h1 := hl a (List.mem_cons_self ..)
    have h2 := ih (fun i hi => hl i (List.mem_cons_of_mem _ hi))
    simp only [List.map_cons, sizeQs, Rows.uptoBulkAll]
    omega
/-- a row of rational numbers, as it came in -/
theorem open_rats {H : Type} {enc : TypeId × Value → H} {W : World} {v : Value} {y : DataW H × List MemPlace} {fuel : Nat}
    (hf : DataW.trod enc Tryz.prog W 0 (fun _ => true) true fuel 24 [v] = some y) : ∃ (ad : Option Addr) (qs : List Q3) (cap : Nat), v = .slice ad qs.length cap ∧ RowA RawQ W (.slice ad qs.length cap) qs ad cap ∧ (ad = none → cap = 0) ∧ sizeQs qs + 1 ≤ Rows.uptoBulk y.1 := by
  rcases open_slice Tryz.underlying24 hf with ⟨hcs, hx⟩ | ⟨a, len, cap, m, n, D, Pl, hcs, hb, hl, hm, hmm, hx, hi⟩
  · simp only [List.cons.injEq, and_true] at hcs
    subst hcs
    exact ⟨none, [], 0, rfl, ⟨rfl, Nat.le_refl _, .inl rfl⟩, fun _ => rfl, by have := bulk_pos y.1; simpa [sizeQs] using this⟩
  · simp only [List.cons.injEq, and_true] at hcs
    subst hcs
    subst hx
    simp only [if_true] at hmm
    rw [cellsRat] at hi
    have hel : ∀ i, i < len → ∃ (e : E3) (q : Q3), W.cell? (a.add (i * 3)) = some e.a ∧ W.cell? ((a.add (i * 3)).add 1) = some e.b ∧ W.cell? ((a.add (i * 3)).add 2) = some e.c ∧ RawQ W e.agg q ∧ sizeQ q ≤ Rows.uptoBulk (D i) := fun i hlt => by
      obtain ⟨cs', hc, ht⟩ := hi i (by omega)
      obtain ⟨_, hcl, hat⟩ := World.cells?_some hc
      obtain ⟨xs, n', _, hy, hlen, hyl, hfd⟩ := DataW.trod_struct Tryz.underlying58 ht
      have hc3 : cs'.length = 3 := hcl
      match cs', hc3 with
      | [c0, c1, c2], _ =>
        match xs, (show xs.length = 3 from hyl) with
        | [y0, y1, y2], _ =>
          have h0 := hfd 0 _ rfl
          have h1 := hfd 1 _ rfl
          have h2 := hfd 2 _ rfl
          have g0 : DataW.trod enc Tryz.prog W 0 (fun _ => true) true n' 4 [c0] = some y0 := h0
          have g1 : DataW.trod enc Tryz.prog W 0 (fun _ => true) true n' 56 [c1] = some y1 := h1
          have g2 : DataW.trod enc Tryz.prog W 0 (fun _ => true) true n' 56 [c2] = some y2 := h2
          obtain ⟨b, hbv, _⟩ := DataW.trod_bool Tryz.underlying4 g0
          simp only [List.cons.injEq, and_true] at hbv
          subst hbv
          obtain ⟨ad, zs, ca, rfl, A, l1, n1⟩ := open_natB g1
          obtain ⟨bd, ys, cb, rfl, B, l2, n2⟩ := open_natB g2
          have p0 := hat 0 (by omega)
          have p1 := hat 1 (by omega)
          have p2 := hat 2 (by omega)
          rw [show ∀ p : Addr, p.add 0 = p from fun p => by cases p; rename_i b o path; cases path <;> simp [Addr.add]] at p0
          refine ⟨⟨.bool b, .slice ad zs.length ca, .slice bd ys.length cb⟩, ⟨b, zs, ys⟩, p0, p1, p2, ⟨ad, bd, ca, cb, rfl, A, B, n1, n2⟩, ?_⟩
          have hD : D i = .agg ([y0, y1, y2].map (·.1)) := by simpa using congrArg Prod.fst hy
          rw [hD]
          simp only [List.map_cons, List.map_nil, Rows.uptoBulk, Rows.uptoBulkAll, sizeQ]
          omega
    have hel2 : ∀ i, ∃ (e : E3) (q : Q3), i < len → W.cell? (a.add (i * 3)) = some e.a ∧ W.cell? ((a.add (i * 3)).add 1) = some e.b ∧ W.cell? ((a.add (i * 3)).add 2) = some e.c ∧ RawQ W e.agg q ∧ sizeQ q ≤ Rows.uptoBulk (D i) := fun i => by
      by_cases h : i < len
      · obtain ⟨e, q, h'⟩ := hel i h
        exact ⟨e, q, fun _ => h'⟩
      · exact ⟨⟨.bool false, .bool false, .bool false⟩, ⟨false, [], []⟩, fun h' => absurd h' h⟩
    obtain ⟨E, hE⟩ := Classical.axiomOfChoice hel2
    obtain ⟨F, hF⟩ := Classical.axiomOfChoice hE
    have hlq : ((List.range len).map F).length = len := by simp
    refine ⟨some a, (List.range len).map F, cap, by rw [hlq], ⟨rfl, by rw [hlq]; exact hl, ?_⟩, (by intro e; cases e), ?_⟩
    · by_cases h0 : len = 0
      · exact .inl (by rw [h0]; rfl)
      · have hp : ∃ b o, a = ⟨b, o, none⟩ := by
          obtain ⟨h1, _⟩ := hF 0 (by omega)
          obtain ⟨b, off, spot⟩ := a
          have hspot : spot = none := by simpa [Addr.add] using World.cell?_spot h1
          subst hspot
          exact ⟨b, off, rfl⟩
        obtain ⟨b, o, rfl⟩ := hp
        refine .inr ⟨b, o, (List.range len).map E, rfl, fun i e he => ?_, ⟨by simp, fun i e q he hq => ?_⟩⟩
        · have hlt : i < len := by
            rcases Nat.lt_or_ge i len with g | g
            · exact g
            · rw [List.getElem?_eq_none (by simpa using g)] at he; cases he
          rw [List.getElem?_map, List.getElem?_range hlt] at he
          simp only [Option.map_some, Option.some.injEq] at he
          subst he
          obtain ⟨h1, h2, h3, _⟩ := hF i hlt
          rw [add_plain] at h1 h2 h3
          rw [add_plain] at h2 h3
          exact ⟨h1, h2, h3⟩
        · have hlt : i < len := by
            rcases Nat.lt_or_ge i len with g | g
            · exact g
            · rw [List.getElem?_eq_none (by simpa using g)] at he; cases he
          rw [List.getElem?_map, List.getElem?_range hlt] at he hq
          simp only [Option.map_some, Option.some.injEq] at he hq
          subst he
          subst hq
          exact (hF i hlt).2.2.2.1
    · have h1 := sizeQs_range F D len (fun i hi => (hF i hi).2.2.2.2)
      simp only [Rows.uptoBulk]
      omega
theorem cellsTensor : Tryz.prog.cellsOf 26 = 2 := by kernel_rfl
/-- a tensor, as it came in -/
theorem open_tensor {H : Type} {enc : TypeId × Value → H} {W : World} {v : Value} {d : DataW H} {p : List MemPlace} {base : Nat}
    (hval : Value.okWide Tryz.prog W .any base 26 v) (h : DataW.Trod enc Tryz.prog W 0 (fun _ => true) true 26 v d p) :
    ∃ (s : List Int) (qs : List Q3) (a b : Option Addr) (ca cb : Nat), TensQ W v s qs a ca b cb ∧ s.length + sizeQs qs ≤ Rows.uptoBulk d := by
  obtain ⟨v0, v1, y0, y1, n, rfl, rfl, rfl, h0, h1⟩ := open_agg2 Tryz.underlying26 (by kernel_rfl) cellsTensor hval h
  obtain ⟨a, s, ca, rfl, A, l1, n1⟩ := open_intsB Tryz.underlying23 h0
  obtain ⟨b, qs, cb, rfl, B, n2, l2⟩ := open_rats h1
  refine ⟨s, qs, a, b, ca, cb, ⟨rfl, A, n1, B, n2⟩, ?_⟩
  simp only [Rows.uptoBulk, Rows.uptoBulkAll]
  omega
end
section
open Go.RowKit
set_option linter.unusedVariables false
set_option linter.unusedSimpArgs false
/-- all parts are at most n limbs long -/
def lensQ (qs : List Q3) (n : Nat) : Prop := ∀ q ∈ qs, q.num.length ≤ n ∧ q.den.length ≤ n
theorem lensQ.of {qs : List Q3} {n : Nat} (h : sizeQs qs ≤ n) : lensQ qs n := fun q hq => by
  have := sizeQs_mem hq
  unfold sizeQ at this
  omega
/-- why there is no tensor of a shape and so many numbers -/
def makeC (s : List Int) (n : Nat) : Int := if mayC s ≠ 0 then mayC s else if (n : Int) ≠ countS s then 13 else 0
def noTensor : Value := .agg #[.slice none 0 0, .slice none 0 0]
def noRat : Value := .agg #[.bool false, .slice none 0 0, .slice none 0 0]
/-- the rational as it is answered -/
theorem ResQ.raw {base n : Nat} {w : World} {v : Value} {x : Rat} (h : ResQ base w v x n) : ∃ q : Q3, RawQ w v q ∧ q.rat = x ∧ q.num.length ≤ n ∧ q.den.length ≤ n ∧ okQ q = true := by
  obtain ⟨zs, ys, ad, bd, ca, cb, rfl, A, B, l1, l2⟩ := h
  have e : (Q3.mk (decide (x.num < 0)) zs ys).rat = x := by unfold Q3.rat; rw [A.eq, B.eq, ratOf_self]
  refine ⟨⟨decide (x.num < 0), zs, ys⟩, ⟨ad, bd, ca, cb, rfl, A.at_.2, B.at_.2, (Num.at_ A.num A.wf).2.2, (Num.at_ B.num B.wf).2.2⟩, e, l1, l2, ?_⟩
  unfold okQ validB isB
  rw [e]
  simp only [Bool.and_eq_true, decide_eq_true_eq, beq_iff_eq]
  exact ⟨by simp, ⟨A.full, A.eq⟩, B.full, B.eq⟩
/-- an answered tensor, as it is handed in again -/
theorem ResT.tens {base m : Nat} {w : World} {v : Value} {s : List Int} {L : List Rat} (h : ResT base w v s L m) : ∃ (qs : List Q3) (a b : Option Addr) (ca cb : Nat), TensQ w v s qs a ca b cb ∧ qs.map Q3.rat = L ∧ lensQ qs m ∧ ∀ q ∈ qs, okQ q = true := by
  obtain ⟨a, b, ca, cb, rfl, h1, h2⟩ := h
  obtain ⟨_, A, na⟩ := h1.at_
  obtain ⟨_, B, nb⟩ := h2.at_
  rcases B.els with e | ⟨bb, o, es, e, hc, hall⟩
  · subst e
    exact ⟨[], a, b, ca, cb, ⟨rfl, A, na, ⟨rfl, B.le, .inl rfl⟩, nb⟩, rfl, (fun q hq => by cases hq), fun q hq => by cases hq⟩
  · have hch : ∀ i, ∃ q : Q3, i < L.length → ∀ d x, es[i]? = some d → L[i]? = some x → RawQ w d.agg q ∧ q.rat = x ∧ q.num.length ≤ m ∧ q.den.length ≤ m ∧ okQ q = true := fun i => by
      by_cases hi : i < L.length
      · obtain ⟨d, x, g1, g2, g3⟩ := hall.at hi
        obtain ⟨q, k1, k2, k3, k4, k5⟩ := ResQ.raw g3
        refine ⟨q, fun _ d' x' e1 e2 => ?_⟩
        rw [g1] at e1
        rw [g2] at e2
        cases e1
        cases e2
        exact ⟨k1, k2, k3, k4, k5⟩
      · exact ⟨⟨false, [], []⟩, fun h => absurd h hi⟩
    obtain ⟨F, hF⟩ := Classical.axiomOfChoice hch
    have hl : ((List.range L.length).map F).length = L.length := by simp
    have hat : ∀ i q, ((List.range L.length).map F)[i]? = some q → i < L.length ∧ q = F i := fun i q hq => by
      have hlt : i < L.length := by
        rcases Nat.lt_or_ge i L.length with g | g
        · exact g
        · rw [List.getElem?_eq_none (by simpa using g)] at hq; cases hq
      rw [List.getElem?_map, List.getElem?_range hlt] at hq
      simp only [Option.map_some, Option.some.injEq] at hq
      exact ⟨hlt, hq.symm⟩
    refine ⟨(List.range L.length).map F, a, b, ca, cb, ⟨by rw [hl], A, na, ⟨rfl, by rw [hl]; exact B.le, .inr ⟨bb, o, es, e, hc, by rw [hl]; exact hall.1, fun i d q h1 hq => ?_⟩⟩, nb⟩, ?_, fun q hq => ?_, fun q hq => ?_⟩
    · obtain ⟨hlt, rfl⟩ := hat i q hq
      obtain ⟨d', x, g1, g2, _⟩ := hall.at hlt
      rw [h1] at g1
      cases g1
      exact (hF i hlt d x h1 g2).1
    · apply List.ext_getElem?
      intro i
      by_cases hlt : i < L.length
      · obtain ⟨d, x, g1, g2, _⟩ := hall.at hlt
        rw [List.getElem?_map, List.getElem?_map, List.getElem?_range hlt, g2]
        simp only [Option.map_some]
        rw [(hF i hlt d x g1 g2).2.1]
      · rw [List.getElem?_eq_none (by simpa using hlt), List.getElem?_eq_none (by omega)]
    · obtain ⟨i, hi, rfl⟩ := List.mem_iff_getElem.1 hq
      obtain ⟨hlt, he⟩ := hat i _ (List.getElem?_eq_getElem hi)
      obtain ⟨d, x, g1, g2, _⟩ := hall.at hlt
      rw [he]
      exact ⟨(hF i hlt d x g1 g2).2.2.1, (hF i hlt d x g1 g2).2.2.2.1⟩
    · obtain ⟨i, hi, rfl⟩ := List.mem_iff_getElem.1 hq
      obtain ⟨hlt, he⟩ := hat i _ (List.getElem?_eq_getElem hi)
      obtain ⟨d, x, g1, g2, _⟩ := hall.at hlt
      rw [he]
      exact (hF i hlt d x g1 g2).2.2.2.2
end
section
open Go.RowKit Go.Shelf
attribute [local go_sem] Oper.semAt_some
set_option linter.unusedVariables false
set_option linter.unusedSimpArgs false
/-- a region of wpAnyL, inside a round -/
theorem region_roundL {l n id : Nat} {P : Program} {ops : Array Oper} {Q : Exit → Act → World → Prop} {a : Act} {w : World} (S : World → Prop) (z : Nat) (hm : P.follows .mixedOrders = true) (hnd : noDefer ops = true) (hLO : ¬ LetsOut Q)
    (hS : S w.drew) (h : S w.drew → wpAnyL P .any ops Q S z ops.size (Array.replicate ops.size false) a w.drew) : (Code.region id ops true).wpIn (Fence.wide.inRound l) n P Q a w :=
  wpIn_region_any hm (wpAnyIn_of_round hnd hLO _ _ _ _ (wpAny_of_L _ _ _ _ (h hS)))
/-- all blocks of cells are as they were -/
def KeepC (W W' : World) : Prop := ∀ (k : Nat) (cur : Array Value) (t : TypeId) (fr : Nat × Nat), W.heap[k]? = some (Obj.cells cur t fr) → W'.heap[k]? = W.heap[k]?
theorem KeepC.below {W W' : World} (h : Below W.heap.size W W') : KeepC W W' := fun k _ _ _ e => h.block k (lt_of_block e)
theorem KeepC.grown {W W' : World} {row : Option Nat} (hg : W.grownBy W' row) (hr : ∀ r, row = some r → ∃ o : Obj, W.heap[r]? = some o ∧ o.isCells = false) : KeepC W W' := fun k cur t fr e =>
  hg.block k (lt_of_block e) fun e2 => by
    obtain ⟨o, ho, hc⟩ := hr k e2.symm
    rw [e] at ho
    cases ho
    cases hc
theorem keepC_row {W W' : World} {base size n : Nat} {T : TypeId} {v : Value} {xs : List Value} (k : KeepC W W') (h : W.ownsRow base T size v n xs) : W'.ownsRow base T size v n xs := by
  obtain ⟨h1, h2⟩ := h
  refine ⟨h1, ?_⟩
  rcases h2 with h2 | ⟨g, cap, cur, rfl, hg0, hh, hrest⟩
  · exact .inl h2
  · exact .inr ⟨g, cap, cur, rfl, hg0, (k _ _ _ _ hh).trans hh, hrest⟩
theorem Boxed.keepC {W W' : World} {B : Nat} {t : TypeId} {v : Value} (h : Boxed W B t v) (k : KeepC W W') : Boxed W' B t v := (k _ _ _ _ h).trans h
theorem Row.keepC {W W' : World} {B : Nat} {t : TypeId} {cs : Array Value} (h : Row W B t cs) (k : KeepC W W') : Row W' B t cs := (k _ _ _ _ h).trans h
theorem OwnE.keepC {W W' : World} {base : Nat} {T : TypeId} {v : Value} {es : List E3} (h : OwnE base T W v es) (k : KeepC W W') : OwnE base T W' v es := keepC_row k h
theorem Num.keepC {W W' : World} {base : Nat} {v : Value} {xs : List Int} (h : Num base W v xs) (k : KeepC W W') : Num base W' v xs := keepC_row k h
theorem Res.keepC {W W' : World} {base : Nat} {v : Value} {xs : List Int} {m : Int} (h : Res base W v xs m) (k : KeepC W W') : Res base W' v xs m := ⟨h.num.keepC k, h.wf, h.full, h.eq⟩
theorem ResQ.keepC {W W' : World} {base n : Nat} {v : Value} {x : Rat} (h : ResQ base W v x n) (k : KeepC W W') : ResQ base W' v x n := by
  obtain ⟨zs, ys, ad, bd, ca, cb, rfl, A, B, h⟩ := h
  exact ⟨zs, ys, ad, bd, ca, cb, rfl, A.keepC k, B.keepC k, h⟩
theorem RawO.keepC {W W' : World} {base : Nat} {v : Value} {q : Q3} (h : RawO base W v q) (k : KeepC W W') : RawO base W' v q := by
  obtain ⟨ad, bd, ca, cb, rfl, A, B, h⟩ := h
  exact ⟨ad, bd, ca, cb, rfl, A.keepC k, B.keepC k, h⟩
theorem keepsFrom_set {B : Nat} {W W' : World} (h : KeepsFrom B W W') (p : Addr) (v : Value) : KeepsFrom B W (W'.setCell p v) := h.trans ((KeepsOthers.setCell W' p v).from B)
theorem keepsFrom_below {B : Nat} {W W' : World} (h : Below W.heap.size W W') : KeepsFrom B W W' := ⟨h.size, fun k o _ hk ho => (h.block k (lt_of_block hk)).trans hk⟩
def dfE : E3 := ⟨.bool false, .slice none 0 0, .slice none 0 0⟩
/-- what a round over structs is handed -/
def ratAt (es : List E3) {n : Nat} (x : Fin n) : Array Value := #[.agg #[(es[x.val]?.getD dfE).a, (es[x.val]?.getD dfE).b, (es[x.val]?.getD dfE).c]]
/-- where the structs of a slice lie: below n₀ -/
def LimE (w : World) (ad : Option Addr) (es : List E3) (n₀ : Nat) : Prop := es = [] ∨ ∃ b o, ad = some ⟨b, o, none⟩ ∧ CellsE w b o es ∧ b < n₀
theorem LimE.below {w w' : World} {ad : Option Addr} {es : List E3} {n₀ : Nat} (h : LimE w ad es n₀) (hb : Below n₀ w w') : LimE w' ad es n₀ := by
  rcases h with h | ⟨b, o, e, c, hl⟩
  · exact .inl h
  · refine .inr ⟨b, o, e, fun i d hd => ?_, hl⟩
    obtain ⟨h0, h1, h2⟩ := c i d hd
    exact ⟨(hb.cell (p := ⟨b, o + i * 3, none⟩) hl).trans h0, (hb.cell (p := ⟨b, o + i * 3 + 1, none⟩) hl).trans h1, (hb.cell (p := ⟨b, o + i * 3 + 2, none⟩) hl).trans h2⟩
theorem RowA.limE {α : Type} {P : World → Value → α → Prop} {w : World} {u : Value} {L : List α} {ad : Option Addr} {cap : Nat} (h : RowA P w u L ad cap) : ∃ es, LimE w ad es w.heap.size ∧ AllE (P w) es L := by
  rcases h.els with e | ⟨b, o, es, e, c, k⟩
  · subst e
    exact ⟨[], .inl rfl, AllE.nil _⟩
  · by_cases hn : es = []
    · exact ⟨es, .inl hn, k⟩
    · have hL : L ≠ [] := fun h => hn (List.eq_nil_of_length_eq_zero (by rw [k.1, h]; rfl))
      exact ⟨es, .inr ⟨b, o, e, c, h.low hL e⟩, k⟩
/-- the structs are of one bool and two slices -/
def ShE (es : List E3) : Prop := ∀ k, k < es.length → ∃ m a1 n1 c1 a2 n2 c2, es[k]?.getD dfE = ⟨.bool m, .slice a1 n1 c1, .slice a2 n2 c2⟩
theorem shE_of {α : Type} {P : Value → α → Prop} {es : List E3} {L : List α} (h : AllE P es L) (hP : ∀ v x, P v x → ∃ m a1 n1 c1 a2 n2 c2, v = .agg #[.bool m, .slice a1 n1 c1, .slice a2 n2 c2]) : ShE es := fun k hk => by
  obtain ⟨e, x, h1, h2, h3⟩ := h.at (i := k) (by rw [← h.1]; exact hk)
  obtain ⟨m, a1, n1, c1, a2, n2, c2, he⟩ := hP _ _ h3
  rw [h1]
  obtain ⟨p, q, r⟩ := e
  simp only [E3.agg, Value.agg.injEq, Array.mk.injEq, List.cons.injEq, and_true] at he
  obtain ⟨rfl, rfl, rfl⟩ := he
  exact ⟨m, a1, n1, c1, a2, n2, c2, rfl⟩
theorem RawQ.form {w : World} {v : Value} {q : Q3} (h : RawQ w v q) : ∃ m a1 n1 c1 a2 n2 c2, v = .agg #[.bool m, .slice a1 n1 c1, .slice a2 n2 c2] := by
  obtain ⟨_, _, _, _, rfl, _⟩ := h
  exact ⟨_, _, _, _, _, _, _, rfl⟩
theorem LimE.cells {w : World} {ad : Option Addr} {es : List E3} {n₀ : Nat} (h : LimE w ad es n₀) {k : Nat} (hk : k < es.length) : ∃ b o, ad = some ⟨b, o, none⟩ ∧ w.cell? ⟨b, o + k * 3, none⟩ = some (es[k]?.getD dfE).a ∧ w.cell? ⟨b, o + k * 3 + 1, none⟩ = some (es[k]?.getD dfE).b ∧ w.cell? ⟨b, o + k * 3 + 2, none⟩ = some (es[k]?.getD dfE).c := by
  rcases h with h | ⟨b, o, e, c, _⟩
  · subst h; simp at hk
  · have hx : es[k]? = some es[k] := List.getElem?_eq_getElem hk
    obtain ⟨h0, h1, h2⟩ := c k _ hx
    exact ⟨b, o, e, by rw [hx]; exact h0, by rw [hx]; exact h1, by rw [hx]; exact h2⟩
set_option maxRecDepth 100000 in
set_option maxHeartbeats 2000000 in
theorem allQ_in (n l Bs n₀ : Nat) (ad : Option Addr) (es : List E3) (cap : Nat) (hm : es.length ≤ 1000000000000) (hcap : es.length ≤ cap) (J Jx : List (Fin es.length) → World → Prop)
    (hJ : ∀ pre A B, J pre A → Below A.heap.size A B → J pre B)
    (hY : ∀ pre x W, J pre W → pre.length < es.length → YieldAt Fence.wide (n - 1) Tryz.prog l (ratAt es x) W fun e W' =>
      (e = .returned (.bool true) ∧ J (pre ++ [x]) W' ∧ Below n₀ W W') ∨ (e = .returned (.bool false) ∧ Jx (pre ++ [x]) W'))
    (W : World) (hn₀ : n₀ ≤ W.heap.size) (hBs : W.cell? ⟨Bs, 0, none⟩ = some (.slice ad es.length cap)) (hl : LimE W ad es n₀) (hsh : ShE es) (h0 : J [] W) :
    CallsIn Fence.wide n Tryz.prog 108 #[.func (.yield l) #[] #[], .pointer (some ⟨Bs, 0, none⟩)] W fun e W' => (∃ v, e = .returned v) ∧
      ((∃ ys, Upto ys es.length ∧ J ys W') ∨ (∃ pre, (∃ k, k ≤ es.length ∧ Upto pre k) ∧ Jx pre W')) := by
  refine callsIn_of_wp Tryz.func108 rfl trivial ?_ rfl
  simp only [Tryz.ntmps108, List.size_toArray, List.length_cons, List.length_nil, Nat.reduceAdd, Nat.reduceSub, Array.replicate_succ, Array.replicate_zero, List.push_toArray, List.append_toArray, List.nil_append, List.cons_append]
  gi_wp2_with fail
  gi_loopw [4, 7] (fun _ i wr => ∃ (k : Nat) (pre : List (Fin es.length)), k ≤ es.length ∧ i = .int .i64 k ∧ Upto pre k ∧ J pre wr ∧ Below n₀ W wr)
    (fun _ i _ => es.length - (intOf i).toNat)
  case atStart => exact ⟨0, [], Nat.zero_le _, rfl, rfl, h0, Below.refl _ _⟩
  case round =>
    obtain ⟨k, pre, hk, rfl, hup, hJs, hnx⟩ := hrel
    by_cases hlt : k < es.length
    · obtain ⟨b, o, rfl, c0, c1, c2⟩ := (hl.below hnx).cells hlt
      have hsz := hnx.size
      obtain ⟨W2, hW2⟩ : ∃ W2, wr.alloc (.cells #[(es[k]?.getD dfE).a, (es[k]?.getD dfE).b, (es[k]?.getD dfE).c] 58) = W2 := ⟨_, rfl⟩
      have hb2 : Below wr.heap.size wr W2 := by rw [← hW2]; exact (Below.refl _ _).alloc (Nat.le_refl _) _
      have R2 : Row W2 wr.heap.size 58 #[(es[k]?.getD dfE).a, (es[k]?.getD dfE).b, (es[k]?.getD dfE).c] := by rw [← hW2]; exact Row.new _ _ _
      obtain ⟨d0, d1, d2, _, _, _⟩ := R2.three
      obtain ⟨fn, tmps, assign, body, hy, hR⟩ := hY pre ⟨k, hlt⟩ W2 (hJ _ _ _ hJs hb2) (by rw [hup.length]; exact hlt)
      simp only [ratAt] at hy
      have hnx2 : Below n₀ W W2 := hnx.trans (hb2.mono (by omega))
      obtain ⟨z1, z2, z3, z4, z5, z6, z7, he⟩ := hsh k hlt
      rw [he] at hy c0 c1 c2 hW2 d0 d1 d2
      clear he R2
      have HJ := Lib.hid hJ
      have HY := Lib.hid hY
      clear hJ hY hl
      gi_wp2
      refine ⟨(fun h => by cases h), hR.mono ?_⟩
      rintro e W3 (⟨rfl, hJ3, hk3⟩ | ⟨rfl, hJx3⟩)
      · gi_wp2
        go_roundw
        case rel => exact ⟨k + 1, _, by omega, by go_num, hup.snoc hlt, hJ3, hnx2.trans hk3⟩
        case measure => simp [intOf]; omega
      · gi_wp2
        refine bodyPost_ret (results_none rfl _ _ _) rfl ?_
        exact ⟨⟨_, rfl⟩, .inr ⟨_, ⟨k + 1, by omega, hup.snoc hlt⟩, hJx3⟩⟩
    · obtain rfl : k = es.length := by omega
      gi_wp2
      go_end0
      exact ⟨⟨_, rfl⟩, .inl ⟨_, hup, hJs⟩⟩
end
section
open Go.RowKit Go.Shelf
attribute [local go_sem] Oper.semAt_some
set_option linter.unusedVariables false
set_option linter.unusedSimpArgs false
theorem allQ_any (ad : Option Addr) (n cap : Nat) (w : World) :
    Calls Tryz.prog 82 #[.slice ad n cap] w fun e w' => e = .returned (.func (.func 108) #[] #[.pointer (some ⟨w.heap.size, 0, none⟩)]) ∧ w' = w.alloc (.cells #[.slice ad n cap] 100) := by
  go_enter Tryz.func82, Tryz.ntmps82
  go_wp2
  go_ret
  exact ⟨rfl, rfl⟩
theorem allQ_stops (n Bs n₀ : Nat) (ad : Option Addr) (es : List E3) (cap : Nat) (hm : es.length ≤ 1000000000000) (hcap : es.length ≤ cap) (w : World) (hn₀ : n₀ ≤ w.heap.size) (hBs : Bs < w.heap.size)
    (hc : w.cell? ⟨Bs, 0, none⟩ = some (.slice ad es.length cap)) (hl : LimE w ad es n₀) (hsh : ShE es) :
    SeqStopsK Fence.wide n Tryz.prog 108 #[.pointer (some ⟨Bs, 0, none⟩)] (ratAt es (n := es.length)) (Below n₀) (fun ys => Upto ys es.length) (fun pre => ∃ k, k ≤ es.length ∧ Upto pre k) es.length w := fun l J Jx W hW hJ _ hY h0 =>
  allQ_in n l Bs n₀ ad es cap hm hcap J Jx (fun pre A B hj hb => hJ pre A B none hj ⟨hb.os, hb.tape, hb.output, hb.size, fun k hk _ => hb.block k hk⟩ (fun _ h => by cases h)) hY W (Nat.le_trans hn₀ hW.size) ((hW.cell (p := ⟨Bs, 0, none⟩) hBs).trans hc) (hl.below (hW.mono hn₀)) hsh h0
end
section
open Go.RowKit
variable {F : Fence} {n : Nat} {P : Program} {ops : Array Oper} {Q : Exit → Act → World → Prop} {md : Region.Mode} {S : World → Prop} {zs : List Nat}
set_option linter.unusedVariables false
set_option linter.unusedSimpArgs false
/-- 'YieldsIf', and it is about to make no call -/
def YieldsIfF (P : Program) (ops : Array Oper) (S : World → Prop) (o : Oper) (v : Value) (a : Act) : Prop := YieldsIf P ops S o v a ∧ ∀ w, o.about P w a.eval = none
theorem YieldsIfF.wpOpIn {i : Nat} {o : Oper} {v : Value} {a : Act} (hro : F.round = none) (hi : ops[i]? = some o) (hy : YieldsIfF P ops S o v a)
    {K : Act → World → Prop} {w : World} (hS : S w) (h : K (a.put o.dst v) w) : wpOpIn F n P ops Q i K a w := by
  unfold Go.wpOpIn
  simp only [hi]
  have hab : ∀ f, o.about P w a.eval = some f → F.fn f := fun f hf => by rw [hy.2 w] at hf; cases hf
  rcases hy.1 with ⟨hw, hv⟩ | ⟨hw, rfl⟩
  · simp only [hw, if_true, Oper.wpIn, hro, Oper.semAt_none, hv w hS, Oper.uponIn]; exact ⟨hab, h⟩
  · simp only [hw, Bool.false_eq_true, if_false]; exact ⟨hab, h⟩
theorem YieldsIfF.of_same {o : Oper} {v : Value} {a a' : Act} (hy : YieldsIfF P ops S o v a) (he : execOp a'.eval o = execOp a.eval o)
    (hw : Region.wanted o (yielded ops a'.tmps) = Region.wanted o (yielded ops a.tmps)) (hb : ∀ w, o.about P w a'.eval = o.about P w a.eval) : YieldsIfF P ops S o v a' :=
  ⟨hy.1.of_same he hw, fun w => by rw [hb w]; exact hy.2 w⟩
theorem wpOpIn_putIf {j : Nat} {oi oj : Oper} {v : Value} (hro : F.round = none) (hj : ops[j]? = some oj) (hap : oi.apart ops oj = true)
    (hsi : ∀ cs b, oi.op ≠ .select cs b) (hsj : ∀ cs b, oj.op ≠ .select cs b)
    (hQ : ∀ c a w, Q (.panic c) (a.put oi.dst v) w → Q (.panic c) a w) {K : Act → World → Prop} {a : Act} {w : World}
    (hy : YieldsIfF P ops S oi v a) (h : wpOpIn F n P ops Q j K (a.put oi.dst v) w) :
    wpOpIn F n P ops Q j (fun a' w' => YieldsIfF P ops S oi v a' ∧ K (a'.put oi.dst v) w') a w := by
  obtain ⟨h1, h2, h3⟩ := Oper.apart_spec hap
  have keep : ∀ (a : Act), YieldsIfF P ops S oi v a → ∀ u, YieldsIfF P ops S oi v (a.put oj.dst u) := fun a hy u =>
    hy.of_same (execOp_put oi hsi a oj.dst u h3) (wanted_put oi a oj.dst u h3) (fun w => about_put oi w a oj.dst u h3)
  have keepD : ∀ d, YieldsIfF P ops S oi v { a with defers := d :: a.defers } := fun d => hy.of_same rfl rfl (fun _ => rfl)
  unfold wpOpIn at *
  simp only [hj] at *
  rw [wanted_put oj a oi.dst v h1, about_put oj w a oi.dst v h1] at h
  split
  · rename_i hw
    simp only [hw, if_true] at h
    unfold Oper.wpIn at *
    rw [about_put oj w a oi.dst v h1] at h
    refine ⟨h.1, ?_⟩
    have h := h.2
    rw [hro, Oper.semAt_none, execOp_put oj hsj a oi.dst v h1] at h
    rw [hro, Oper.semAt_none]
    generalize (execOp a.eval oj).run P w = r at *
    cases r with
    | ok x w' =>
      cases x <;> simp only [Oper.uponIn] at h ⊢
      case value u => exact ⟨keep a hy u, by rw [← Act.put_comm a v u h2]; exact h⟩
      case skip => exact ⟨keep a hy _, by rw [← Act.put_comm a v undef h2]; exact h⟩
      case defer d =>
        refine ⟨keep _ (keepD d) _, ?_⟩
        rw [← Act.put_comm _ v undef h2, ← Act.put_defers]
        exact h
      case enter f args =>
        refine ⟨h.1, CallsIn.mono h.2 fun e w'' he => ?_⟩
        cases e with
        | returned u => exact ⟨keep a hy u, by rw [← Act.put_comm a v u h2]; exact he⟩
        | panicked c => exact hQ _ _ _ he
        | outgrown => exact he
      case row row args => exact ⟨h.1, RowsIn.mono h.2 fun u w'' he => ⟨keep a hy u, by rw [← Act.put_comm a v u h2]; exact he⟩⟩
      case round l f tmps assign body =>
        refine ⟨h.1, RoundIn.mono h.2 fun e w'' he => ?_⟩
        cases e with
        | returned u => exact ⟨keep a hy u, by rw [← Act.put_comm a v u h2]; exact he⟩
        | panicked c => exact hQ _ _ _ he
        | outgrown => exact he
    | halt x w' =>
      cases x <;> simp only [Oper.uponIn] at h ⊢
      case panic u => exact hQ _ _ _ h
  · rename_i hw
    simp only [hw] at h
    exact ⟨h.1, keep a hy _, by rw [← Act.put_comm a v undef h2]; exact h.2⟩
def wpAnyInL (F : Fence) (n : Nat) (P : Program) (md : Region.Mode) (ops : Array Oper) (Q : Exit → Act → World → Prop) (S : World → Prop) (zs : List Nat) : Nat → Array Bool → Act → World → Prop
  | 0, listed, a, w => Region.ready md ops listed = [] ∧ Q .normal a w
  | fuel + 1, listed, a, w =>
    (Region.ready md ops listed = [] → Q .normal a w) ∧
    ∀ i ∈ Region.ready md ops listed, wpOpIn F n P ops Q i (fun a' w' => (i ∉ zs → S w') ∧ wpAnyInL F n P md ops Q S zs fuel (listed.setIfInBounds i true) a' w') a w
theorem wpAnyIn_of_L : ∀ (fuel : Nat) (listed : Array Bool) (a : Act) (w : World), wpAnyInL F n P md ops Q S zs fuel listed a w → wpAnyIn F n P md ops Q fuel listed a w
  | 0, _, _, _, h => h
  | fuel + 1, _, _, _, h => ⟨h.1, fun i hi => wpOpIn_mono (fun a' w' h' => wpAnyIn_of_L fuel _ a' w' h'.2) (h.2 i hi)⟩
/-- each of ch waits for i, or for one of ch -/
def chainB (md : Region.Mode) (ops : Array Oper) (i : Nat) (ch : List Nat) : Bool := ch.all fun c => (i :: ch).any fun p => waitsB md ops c p
theorem chain_spec {i : Nat} {ch : List Nat} (h : chainB md ops i ch = true) : ∀ c ∈ ch, ∃ p, (p = i ∨ p ∈ ch) ∧ ∀ o, ops[c]? = some o → ∃ e ∈ o.after, Region.binds md e = true ∧ e.on = p := fun c hc => by
  have h1 := List.all_eq_true.1 h c hc
  obtain ⟨p, hp, h2⟩ := List.any_eq_true.1 h1
  exact ⟨p, List.mem_cons.1 hp, waits_spec h2⟩
theorem wpAnyInL_first {i : Nat} {oi : Oper} {v : Value} {ch : List Nat} (hro : F.round = none) (hi : ops[i]? = some oi) (hsel : ∀ (j : Nat) (o : Oper) cs b, ops[j]? = some o → o.op ≠ .select cs b)
    (hQ : ∀ c a w, Q (.panic c) (a.put oi.dst v) w → Q (.panic c) a w) (hch : ∀ c ∈ ch, ∃ p, (p = i ∨ p ∈ ch) ∧ ∀ o, ops[c]? = some o → ∃ e ∈ o.after, Region.binds md e = true ∧ e.on = p) (hzs : ∀ z ∈ zs, z ∈ ch) :
    ∀ (fuel : Nat) (listed : Array Bool) (a : Act) (w : World),
      (∀ j oj, ops[j]? = some oj → j ≠ i → listed.getD j true = false → (∀ e ∈ oj.after, Region.binds md e = true → e.on ≠ i) → oi.apart ops oj = true) →
      (∀ c ∈ ch, listed.getD c true = false) →
      i ∈ Region.ready md ops listed → YieldsIfF P ops S oi v a → S w →
      wpAnyInL F n P md ops Q S zs fuel (listed.setIfInBounds i true) (a.put oi.dst v) w → wpAnyInL F n P md ops Q S zs (fuel + 1) listed a w := by
  intro fuel
  induction fuel with
  | zero =>
    intro listed a w _ _ hr hy hS H
    refine ⟨fun h => (by rw [h] at hr; cases hr), fun j hj => ?_⟩
    by_cases hji : j = i
    · subst hji; exact hy.wpOpIn hro hi hS ⟨fun _ => hS, H⟩
    · have := ready_mono hj hji
      rw [H.1] at this
      cases this
  | succ fuel ih =>
    intro listed a w hfree hun0 hr hy hS H
    refine ⟨fun h => (by rw [h] at hr; cases hr), fun j hj => ?_⟩
    by_cases hji : j = i
    · subst hji; exact hy.wpOpIn hro hi hS ⟨fun _ => hS, H⟩
    · have h1 := H.2 j (ready_mono hj hji)
      obtain ⟨hjun, oj, hoj, hall⟩ := mem_ready.1 hj
      have hwait : ∀ p, listed.getD p true = false → ∀ e ∈ oj.after, Region.binds md e = true → e.on ≠ p := fun p h0 e he hb heq => by
        have h1 := hall e he hb
        rw [heq] at h1
        rcases Nat.lt_or_ge p listed.size with h' | h'
        · simp [h'] at h0 h1; rw [h0] at h1; cases h1
        · simp [Array.getElem?_eq_none h'] at h1
      have hnot : ∀ e ∈ oj.after, Region.binds md e = true → e.on ≠ i := hwait i (mem_ready.1 hr).1
      have hjc : j ∉ ch := fun hc => by
        obtain ⟨p, hp, hw⟩ := hch j hc
        obtain ⟨e, he, hb, hon⟩ := hw oj hoj
        rcases hp with rfl | hp
        · exact hnot e he hb hon
        · exact hwait p (hun0 p hp) e he hb hon
      have hjz : j ∉ zs := fun h => hjc (hzs j h)
      have h2 := wpOpIn_putIf hro hoj (hfree j oj hoj hji hjun hnot) (fun cs b => hsel i oi cs b hi) (fun cs b => hsel j oj cs b hoj) hQ hy h1
      have hfree' : ∀ k ok, ops[k]? = some ok → k ≠ i → (listed.setIfInBounds j true).getD k true = false →
          (∀ e ∈ ok.after, Region.binds md e = true → e.on ≠ i) → oi.apart ops ok = true := fun k ok hk hki hun hno => by
        refine hfree k ok hk hki ?_ hno
        by_cases hjk : j = k
        · subst hjk; exact hjun
        · rw [getD_set_ne true hjk] at hun; exact hun
      have hun' : ∀ c ∈ ch, (listed.setIfInBounds j true).getD c true = false := fun c hc => by
        rw [getD_set_ne true (fun e => hjc (by subst e; exact hc))]
        exact hun0 c hc
      refine wpOpIn_mono (fun a' w' h3 => ⟨fun _ => h3.2.1 hjz, ih (listed.setIfInBounds j true) a' w' hfree' hun' (ready_mono hr (Ne.symm hji)) h3.1 (h3.2.1 hjz) ?_⟩) h2
      rw [Array.setIfInBounds_comm _ _ hji]
      exact h3.2.2
theorem wpAnyInL_take {i : Nat} {oi : Oper} {v : Value} {fuel : Nat} {listed : Array Bool} {a : Act} {w : World} (ch : List Nat) (hro : F.round = none) (hi : ops[i]? = some oi)
    (hs : Region.noSelect ops = true) (hf : Region.free md ops listed i = true) (hr : (Region.ready md ops listed).contains i = true) (hc : chainB md ops i ch = true) (hu : (ch.all fun c => !(listed.getD c true)) = true) (hzs : (zs.all fun z => ch.contains z) = true)
    (hQ : ∀ c a w, Q (.panic c) (a.put oi.dst v) w → Q (.panic c) a w) (hy : YieldsIf P ops S oi v a) (hab : ∀ w, oi.about P w a.eval = none) (hS : S w)
    (h : wpAnyInL F n P md ops Q S zs fuel (listed.setIfInBounds i true) (a.put oi.dst v) w) : wpAnyInL F n P md ops Q S zs (fuel + 1) listed a w :=
  wpAnyInL_first hro hi (Region.noSelect_spec hs) hQ (chain_spec hc) (fun z hz => by simpa using List.all_eq_true.1 hzs z hz) fuel listed a w (Region.free_spec hi hf) (fun c hcc => by simpa using List.all_eq_true.1 hu c hcc) (by simpa using hr) ⟨hy, hab⟩ hS h
/-- one operation alone is ready -/
theorem wpAnyInL_one {i : Nat} {o : Oper} {fuel : Nat} {listed : Array Bool} {a : Act} {w : World} (hr : Region.ready md ops listed = [i]) (ho : ops[i]? = some o)
    (h : ∀ K' : Act → World → Prop, Shut (∀ a w, (i ∉ zs → S w) → ((i ∉ zs → S w) → wpAnyInL F n P md ops Q S zs fuel (listed.setIfInBounds i true) a w) → K' a w) → if Region.wanted o (yielded ops a.tmps) = true then Oper.wpIn F n P o a w K' Q else (∀ f, o.about P w a.eval = some f → F.fn f) ∧ K' (a.put o.dst undef) w) :
    wpAnyInL F n P md ops Q S zs (fuel + 1) listed a w := by
  refine ⟨fun h0 => (by rw [hr] at h0; cases h0), fun j hj => ?_⟩
  rw [hr, List.mem_singleton] at hj
  subst hj
  exact wpOpIn_step ho (fun K' hK => h K' (fun a w hS hW => hK a w ⟨hS, hW hS⟩))
theorem wpAnyInL_done {listed : Array Bool} {a : Act} {w : World} (hr : Region.ready md ops listed = []) (h : Q .normal a w) :
    ∀ fuel, wpAnyInL F n P md ops Q S zs fuel listed a w
  | 0 => ⟨hr, h⟩
  | _ + 1 => ⟨fun _ => h, by rw [hr]; simp⟩
theorem wpIn_region_L {id : Nat} {a : Act} {w : World} (S : World → Prop) (zs : List Nat) (hm : P.follows .mixedOrders = true) (hS : S w.drew)
    (h : S w.drew → wpAnyInL F n P .any ops Q S zs ops.size (Array.replicate ops.size false) a w.drew) : (Code.region id ops true).wpIn F n P Q a w :=
  wpIn_region_any hm (wpAnyIn_of_L _ _ _ _ (h hS))
end
section
open Go.RowKit Go.Shelf
attribute [local go_sem] Oper.semAt_some
set_option linter.unusedVariables false
set_option linter.unusedSimpArgs false
set_option maxHeartbeats 2000000 in
theorem room_any {u : Value} {s : List Int} {a : Option Addr} {ca : Nat} {w : World} (A : ArgS w u s a ca) (n : Nat) :
    Calls Tryz.prog 81 #[u, .int .i64 (n : Int)] w fun e w' => e = .returned (.int .i64 (makeC s n)) ∧ w = w' := by
  have h1 := mayS_eq A
  have h2 := countS_eq A
  have e : makeC s n = if mayC s ≠ 0 then mayC s else if (n : Int) ≠ countS s then 13 else 0 := rfl
  obtain rfl := A.is
  rw [e]
  generalize mayC s = m at *
  generalize countS s = c at *
  clear e A
  by_cases h : m = 0
  · subst h
    by_cases hc : (n : Int) = c
    · have hn : ((n : Int) != c) = false := by simp [hc]
      have hd : (if (0 : Int) ≠ 0 then (0 : Int) else if (n : Int) ≠ c then 13 else 0) = 0 := by simp [hc]
      rw [hd]
      go_enter Tryz.func81, Tryz.ntmps81
      go_wp2_with (first | (go_at_call 52; refine h1.mono ?_; rintro e w1 ⟨rfl, rfl⟩) | (go_at_call 93; refine h2.mono ?_; rintro e w1 ⟨rfl, rfl⟩))
      go_ret
      exact ⟨rfl, rfl⟩
    · have hn : ((n : Int) != c) = true := by simp [hc]
      have hd : (if (0 : Int) ≠ 0 then (0 : Int) else if (n : Int) ≠ c then 13 else 0) = 13 := by simp [hc]
      rw [hd]
      go_enter Tryz.func81, Tryz.ntmps81
      go_wp2_with (first | (go_at_call 52; refine h1.mono ?_; rintro e w1 ⟨rfl, rfl⟩) | (go_at_call 93; refine h2.mono ?_; rintro e w1 ⟨rfl, rfl⟩))
      go_ret
      exact ⟨rfl, rfl⟩
  · have hn : (m != 0) = true := by simp [h]
    rw [if_pos h]
    go_enter Tryz.func81, Tryz.ntmps81
    go_wp2_with (first | (go_at_call 52; refine h1.mono ?_; rintro e w1 ⟨rfl, rfl⟩) | (go_at_call 93; refine h2.mono ?_; rintro e w1 ⟨rfl, rfl⟩))
    go_ret
    exact ⟨rfl, rfl⟩
theorem elements_any (a b : Option Addr) (n m ca cb : Nat) (w : World) :
    Calls Tryz.prog 74 #[.agg #[.slice a n ca, .slice b m cb]] w fun e w' => e = .returned (.slice b m cb) ∧ Below w.heap.size w w' := by
  go_enter Tryz.func74, Tryz.ntmps74
  go_wp2
  go_ret
  exact ⟨rfl, (Below.refl _ _).alloc (Nat.le_refl _) _⟩
end
section
open Go.RowKit Go.Shelf
attribute [local go_sem] Oper.semAt_some
set_option linter.unusedVariables false
set_option linter.unusedSimpArgs false
theorem RawQ.box {w : World} {v : Value} {q : Q3} (h : RawQ w v q) : ∃ (ad bd : Option Addr) (ca cb : Nat), v = .agg #[.bool q.neg, .slice ad q.num.length ca, .slice bd q.den.length cb] := by
  obtain ⟨ad, bd, ca, cb, rfl, _⟩ := h
  exact ⟨_, _, _, _, rfl⟩
end
section
open Go.RowKit Go.Shelf
attribute [local go_sem] Oper.semAt_some
set_option linter.unusedVariables false
set_option linter.unusedSimpArgs false
theorem mayT_make {s : List Int} {qs : List Q3} (h : makeC s qs.length ≠ 0) : mayT s qs = makeC s qs.length := by
  unfold makeC at h ⊢
  unfold mayT
  split
  · rfl
  · rename_i h1
    rw [if_neg h1] at h
    split
    · rfl
    · rename_i h2
      rw [if_neg h2] at h
      exact absurd rfl h
theorem mayT_all {s : List Int} {qs : List Q3} (h : makeC s qs.length = 0) : mayT s qs = if qs.all okQ = true then 0 else 6 := by
  unfold makeC at h
  unfold mayT
  split at h
  · rename_i h1; exact absurd h h1
  · rename_i h1
    rw [if_neg h1]
    split at h
    · cases h
    · rename_i h2
      rw [if_neg h2]
theorem mayRaw_any {n : Nat} {w : World} {v : Value} {q : Q3} (h : RawQ w v q) (h1 : q.num.length ≤ n) (h2 : q.den.length ≤ n) (hn : n ≤ 16777000) :
    Calls Tryz.prog 83 #[v] w fun e w' => e = .returned (.int .i64 (mayCode (okQ q))) ∧ Below w.heap.size w w' := by
  obtain ⟨ad, bd, ca, cb, rfl, A, D, _, _⟩ := h
  exact mayQ_any A D h1 h2 hn
set_option maxRecDepth 100000 in
set_option maxHeartbeats 8000000 in
theorem mayT7_big {n : Nat} {w : World} {v : Value} {s : List Int} {qs : List Q3} {a b : Option Addr} {ca cb : Nat} (T : TensQ w v s qs a ca b cb) (hq : qs.length ≤ 1048576) (hl : lensQ qs n) (hn : n ≤ 4000000) :
    Calls Tryz.prog 40 #[v] w fun e w' => e = .returned (.int .i64 (mayT s qs)) ∧ Below w.heap.size w w' := by
  obtain rfl := T.is
  obtain ⟨B, hB⟩ : ∃ B, w.heap.size = B := ⟨_, rfl⟩
  obtain ⟨W1, hW1⟩ : ∃ W1, w.alloc (.cells #[.slice a s.length ca, .slice b qs.length cb] 26) = W1 := ⟨_, rfl⟩
  obtain ⟨W2, hW2⟩ : ∃ W2, W1.alloc (.cells #[.int .i64 0] 27) = W2 := ⟨_, rfl⟩
  have s1 : W1.heap.size = B + 1 := by rw [← hW1, ← hB]; simp
  have s2 : W2.heap.size = B + 1 + 1 := by rw [← hW2, World.size_alloc, s1]
  have R0 : Row W2 B 26 #[.slice a s.length ca, .slice b qs.length cb] := by rw [← hW2, ← hW1, ← hB]; exact (Row.new _ _ _).alloc _
  have R1 : Row W2 (B + 1) 27 #[.int .i64 0] := by rw [← hW2, ← s1]; exact Row.new _ _ _
  have hb2 : Below B w W2 := by rw [← hW2, ← hW1]; exact ((Below.refl _ w).alloc (by omega) _).alloc (by simp; omega) _
  have T2 := T.later (by rw [hB]; exact hb2)
  obtain ⟨c0, c1, _, _⟩ := R0.two
  have hr := room_any T2.sh qs.length
  obtain ⟨c, hc⟩ : ∃ c, makeC s qs.length = c := ⟨_, rfl⟩
  rw [hc] at hr
  have HL := Lib.hid hl
  have HT := Lib.hid T
  have d1 := R1.cell 0
  have f1 := R1.free 0
  obtain ⟨n', hn'⟩ : ∃ n' : Nat, Hid (3 ≤ n') := ⟨3, Nat.le_refl 3⟩
  clear T T2 hl
  by_cases h0 : c = 0
  · subst h0
    have hmt := mayT_all hc
    rw [hmt]
    obtain ⟨dd, hdd⟩ : ∃ d : Int, (if qs.all okQ = true then 0 else 6) = d := ⟨_, rfl⟩
    rw [hdd]
    have HD := Lib.hid hdd
    clear hdd
    obtain ⟨es, hlim, hall⟩ := HT.out.el.limE
    have hsh : ShE es := shE_of hall (fun v x h => h.form)
    have hcap := HT.out.el.le
    have hel : es.length = qs.length := hall.1
    have HEL := Lib.hid hel
    have HA := Lib.hid hall
    have HC := Lib.hid hc
    rw [← hel] at hr hcap c1 R0 hq hW1 ⊢
    rw [hB] at hlim
    clear hall hmt hel hc
    refine (callsIn_wide (n := n')).1 ?_
    refine callsIn_of_wp_marks Tryz.func40 rfl trivial ?_ rfl
    simp only [Tryz.ntmps40, List.size_toArray, List.length_cons, List.length_nil, Nat.reduceAdd, Nat.reduceSub, Array.replicate_succ, Array.replicate_zero, List.push_toArray, List.append_toArray, List.nil_append, List.cons_append]
    gi_wp2_with fail
    refine wideCall (hr.mono ?_)
    rintro e w' ⟨rfl, rfl⟩
    gi_wp2_with fail
    refine wideCall ((elements_any _ _ _ _ _ _ _).mono ?_)
    rintro e w3 ⟨rfl, b3⟩
    gi_wp2_with fail
    refine wideCall ((allQ_any _ _ _ _).mono ?_)
    rintro e w' ⟨rfl, rfl⟩
    gi_wp2_with fail
    have s3 := b3.size
    obtain ⟨I, hI⟩ : ∃ I, w3.heap.size = I := ⟨_, rfl⟩
    obtain ⟨V, hV⟩ : ∃ V, w3.alloc (.cells #[.slice b es.length cb] 100) = V := ⟨_, rfl⟩
    have sV : V.heap.size = I + 1 := by rw [← hV, World.size_alloc, hI]
    have b4 : Below w3.heap.size w3 V := by rw [← hV]; exact (Below.refl _ _).alloc (Nat.le_refl _) _
    have d4 : Boxed V I 100 (.slice b es.length cb) := by rw [← hV, ← hI]; exact Boxed.new _ _ _
    have b2V : Below W2.heap.size W2 V := b3.trans (b4.mono s3)
    have e1 := R1.later b2V
    have e0 := R0.later b2V
    have hbV : Below B w V := hb2.trans (b2V.mono (by omega))
    have hlimV : LimE V b es B := hlim.below hbV
    simp only [hI, hV]
    have h3 : 3 ≤ n' := hn'
    clear hV
    refine wpIn_rangeFunc_ownH (F := Fence.wide) (n := n') rfl (by omega) (gf := 108) (lb := #[.pointer (some ⟨I, 0, none⟩)]) rfl trivial (enters_of Tryz.func108 (by kernel_rfl) rfl)
      (allQ_stops (n' - 1) I B b es cb (by omega) hcap V (by omega) (by omega) d4.cell hlimV hsh) belowK_t (belowK_b (by omega)) (Below.refl _ _) (fun _ => rfl)
      (fun (pre : List (Fin es.length)) X => Row X (B + 1) 27 #[.int .i64 0] ∧ (∀ x ∈ pre, okQ (qs[x.val]?.getD ⟨false, [], []⟩) = true) ∧ Below B w X ∧ I + 1 ≤ X.heap.size)
      (fun c pre X => c = .ret ∧ Row X (B + 1) 27 #[.int .i64 6] ∧ (∃ x ∈ pre, okQ (qs[x.val]?.getD ⟨false, [], []⟩) = false) ∧ Below B w X)
      (fun pre X Y row ⟨h1, h2, h3, h4⟩ hg hr => ⟨h1.keepC (KeepC.grown hg (fun r e => (hr r e).2)), h2, h3.grown hg (by have := h3.size; omega) (fun k e => by have := (hr k e).1; omega), Nat.le_trans h4 hg.size⟩)
      (fun c pre X Y row ⟨h0, h1, h2, h3⟩ hg hr => ⟨h0, h1.keepC (KeepC.grown hg (fun r e => (hr r e).2)), h2, h3.grown hg (by have := h3.size; omega) (fun k e => by have := (hr k e).1; omega)⟩)
      ⟨e1, (fun x h => by cases h), hbV, by omega⟩
      (fun (x : Fin es.length) a' X => ∃ p, I + 1 ≤ p ∧ Row X p 58 #[(es[x.val]?.getD dfE).a, (es[x.val]?.getD dfE).b, (es[x.val]?.getD dfE).c] ∧
        a' = { tmps := #[.agg #[.slice a s.length ca, .slice b es.length cb], .pointer (some ⟨B, 0, none⟩), .pointer (some ⟨B + 1, 0, none⟩), .int .i64 0, .pointer (some ⟨p, 0, none⟩), undef, .pointer (some ⟨B, 0, none⟩), .slice a s.length ca, .pointer (some ⟨B, 1, none⟩), .slice b es.length cb, .int .i64 es.length, .int .i64 0, .int .i64 0, .bool false, undef,
          .agg #[.slice a s.length ca, .slice b es.length cb], .slice b es.length cb, .func (.func 108) #[] #[.pointer (some ⟨I, 0, none⟩)], .agg #[(es[x.val]?.getD dfE).a, (es[x.val]?.getD dfE).b, (es[x.val]?.getD dfE).c], undef, undef, undef, undef, undef], defers := [] })
      (fun x a' _ X Y row ⟨p, h1, h2, h3⟩ hg hr => ⟨p, h1, h2.keepC (KeepC.grown hg (fun r e => (hr r e).2)), h3⟩)
      ?assign ?body ?done ?stop
    case assign =>
      rintro l pre ⟨k, hk⟩ X K ⟨h1, h2, h3, h4⟩ hK
      obtain ⟨z1, z2, z3, z4, z5, z6, z7, he⟩ := hsh k hk
      have hs3 := h3.size
      have hbX : Below X.heap.size X (X.alloc (.cells #[.bool z1, .slice z2 z3 z4, .slice z5 z6 z7] 58)) := (Below.refl _ _).alloc (Nat.le_refl _) _
      have kk := KeepC.below hbX
      have HK := Lib.hid hK
      simp only [ratAt]
      rw [he]
      simp only
      clear hK
      gi_wp2
      refine HK.out _ _ ⟨by simp, fun q o _ ho _ => (Below.heap_alloc _ _ _ (lt_of_block ho)).trans ho⟩ (hbX.mono (by omega)) ⟨h1.keepC kk, h2, h3.trans (hbX.mono (by omega)), by simp; omega⟩ ⟨X.heap.size, h4, ?_, ?_⟩
      · simp only [he]; exact Row.new _ _ _
      · simp only [he]
    case body =>
      rintro l pre ⟨k, hk⟩ a' X hl hrec ⟨h1, h2, h3, h4⟩ ⟨p, hp, hR, rfl⟩ hlt
      obtain ⟨z1, z2, z3, z4, z5, z6, z7, he⟩ := hsh k hk
      simp only at hR ⊢
      rw [he] at hR ⊢
      simp only at hR ⊢
      have hkq : k < qs.length := by rw [← HEL.out]; exact hk
      have hqk : qs[k]? = some qs[k] := List.getElem?_eq_getElem hkq
      obtain ⟨q, hq2⟩ : ∃ q, qs[k] = q := ⟨_, rfl⟩
      rw [hq2] at hqk
      have hek : es[k]? = some es[k] := List.getElem?_eq_getElem hk
      have hraw := HA.out.2 k _ _ hek hqk
      have e2 : es[k] = ⟨.bool z1, .slice z2 z3 z4, .slice z5 z6 z7⟩ := by rw [hek] at he; exact he
      rw [e2] at hraw
      have hmem := List.mem_of_getElem? hqk
      have hlq := HL.out q hmem
      have hgd : qs[k]?.getD ⟨false, [], []⟩ = q := by rw [hqk]; rfl
      obtain ⟨g0, g1, g2, _, _, _⟩ := hR.three
      have hs3 := h3.size
      have hrX := hraw.later (hB.symm ▸ h3 : Below w.heap.size w X)
      gi_wp2_with fail
      refine roundCall ((mayRaw_any hrX hlq.1 hlq.2 (by omega)).mono ?_)
      rintro e w5 ⟨rfl, b5⟩
      have s5 := b5.size
      have R5 := h1.later b5
      have f5 := R5.free 0
      have d5 := R5.cell 0
      by_cases hok : okQ q = true
      · rw [hok]
        have hm : mayCode true = 0 := rfl
        rw [hm]
        gi_wp2
        refine ⟨keepsFrom_below b5, b5.mono (by omega), R5, fun x hx => ?_, h3.trans (b5.mono (by omega)), by omega⟩
        rcases List.mem_append.1 hx with hx | hx
        · exact h2 x hx
        · simp at hx
          subst hx
          rw [hgd]
          exact hok
      · have hok2 : okQ q = false := by simpa using hok
        rw [hok2]
        have hm : mayCode false = 6 := rfl
        rw [hm]
        have R6 : Row (w5.setCell ⟨B + 1, 0, none⟩ (.int .i64 6)) (B + 1) 27 #[.int .i64 6] := R5.set 0 _
        gi_wp2
        refine ⟨keepsFrom_set (keepsFrom_below b5) _ _, rfl, R6, ⟨_, List.mem_append_right _ (List.mem_singleton.2 rfl), ?_⟩, (h3.trans (b5.mono (by omega))).setCell (by show B ≤ B + 1; omega) _⟩
        show okQ (qs[k]?.getD ⟨false, [], []⟩) = false
        rw [hgd]
        exact hok2
    case done =>
      rintro D ys X hD hup ⟨h1, h2, h3, h4⟩ hK
      have hall : qs.all okQ = true := by
        rw [List.all_eq_true]
        intro q hq
        obtain ⟨k, hk, rfl⟩ := List.mem_iff_getElem.1 hq
        have hk2 : k < es.length := by rw [HEL.out]; exact hk
        have hm : (⟨k, hk2⟩ : Fin es.length) ∈ ys := by
          have h5 : k ∈ ys.map Fin.val := by rw [show ys.map Fin.val = List.range es.length from hup]; exact List.mem_range.2 hk2
          obtain ⟨x, hx, hv⟩ := List.mem_map.1 h5
          have : x = ⟨k, hk2⟩ := Fin.ext hv
          rw [← this]
          exact hx
        have h5 := h2 _ hm
        simp only at h5
        rw [List.getElem?_eq_getElem hk] at h5
        exact h5
      have c5 := h1.cell 0
      have f5 := h1.free 0
      gi_wp2
      have hK' := (KeepsOthers.setCell X ⟨B + 1, 0, none⟩ (.int .i64 0)).same D _ hK rfl
      refine ⟨by simp, .inl ⟨_, _, rfl, run_takeDeferred hK', ?_⟩⟩
      have hc5 := cell_kept ((h1.set 0 (.int .i64 0)).cell 0) (grownBy_putObj' _ D (.deferred none)) (fun r e => by cases e; exact ⟨_, hK', rfl⟩)
      simp at hc5
      refine ⟨.int .i64 0, by simp [results, Tryz.f40, go_sem, hc5], by rw [← HD.out, if_pos hall], ?_⟩
      rw [hB]
      exact (h3.setCell (p := ⟨B + 1, 0, none⟩) (by show B ≤ B + 1; omega) _).trans (belowK_b (n₀ := B) (w := w) (by omega) _ D _ _ (by omega) hK' rfl rfl)
    case stop =>
      rintro D c pre X hD ⟨k, hk, hup⟩ ⟨rfl, h1, ⟨x, hx, hbad⟩, h3⟩ hK
      have hall : ¬ qs.all okQ = true := by
        intro h
        rw [List.all_eq_true] at h
        have hk2 : x.val < qs.length := by rw [← HEL.out]; exact x.isLt
        rw [List.getElem?_eq_getElem hk2] at hbad
        have := h _ (List.getElem_mem hk2)
        simp only [Option.getD_some] at hbad
        rw [hbad] at this
        cases this
      gi_wp2
      refine ⟨by simp, .inl ⟨_, _, rfl, run_takeDeferred hK, ?_⟩⟩
      have hc5 := cell_kept (h1.cell 0) (grownBy_putObj' _ D (.deferred none)) (fun r e => by cases e; exact ⟨_, hK, rfl⟩)
      simp at hc5
      refine ⟨.int .i64 6, by simp [results, Tryz.f40, go_sem, hc5], by rw [← HD.out, if_neg hall], ?_⟩
      rw [hB]
      exact h3.trans (belowK_b (n₀ := B) (w := w) (by omega) _ D _ _ (by omega) hK rfl rfl)
  · have hn : (c != 0) = true := by simp [h0]
    rw [mayT_make (by rw [hc]; exact h0), hc]
    have R3 : Row (W2.setCell ⟨B + 1, 0, none⟩ (.int .i64 c)) (B + 1) 27 #[.int .i64 c] := R1.set 0 _
    have y0 := R3.cell 0
    go_enter Tryz.func40, Tryz.ntmps40
    go_wp2_with (go_at_call 81; refine hr.mono ?_; rintro e w1 ⟨rfl, rfl⟩)
    simp at y0
    refine bodyPost_ret (v := .int .i64 c) (by simp [results, Tryz.results40, go_sem, y0]) rfl ⟨rfl, ?_⟩
    rw [hB]
    exact hb2.setCell (p := ⟨B + 1, 0, none⟩) (by show B ≤ B + 1; omega) _
theorem mayT7_any {n : Nat} {w : World} {v : Value} {s : List Int} {qs : List Q3} {a b : Option Addr} {ca cb : Nat} (T : TensQ w v s qs a ca b cb) (hs : s.length ≤ 1048576) (hq : qs.length ≤ 1048576) (hl : lensQ qs n) (hn : n ≤ 4000000) :
    Calls Tryz.prog 40 #[v] w fun e w' => e = .returned (.int .i64 (mayT s qs)) ∧ Below w.heap.size w w' := mayT7_big T hq hl hn
end
section
open Go.RowKit Go.Shelf
attribute [local go_sem] Oper.semAt_some
set_option linter.unusedVariables false
set_option linter.unusedSimpArgs false
theorem RawO.res {base n : Nat} {w : World} {v : Value} {q : Q3} (h : RawO base w v q) (ok : okQ q = true) (h1 : q.num.length ≤ n) (h2 : q.den.length ≤ n) : ResQ base w v q.rat n := by
  obtain ⟨ad, bd, ca, cb, rfl, A, D, wa, wd⟩ := h
  unfold okQ validB isB at ok
  simp only [Bool.and_eq_true, decide_eq_true_eq, beq_iff_eq] at ok
  obtain ⟨e1, ⟨e2, e3⟩, e4, e5⟩ := ok
  exact ⟨q.num, q.den, ad, bd, ca, cb, by rw [← e1], ⟨A, wa, e2, e3⟩, ⟨D, wd, e4, e5⟩, h1, h2⟩
end
section
open Go.RowKit Go.Shelf
attribute [local go_sem] Oper.semAt_some
set_option linter.unusedVariables false
set_option linter.unusedSimpArgs false
theorem setSize (w : World) (g : Nat) (v : Value) : (w.setCell ⟨g, 0, none⟩ v).heap.size = w.heap.size := (Only.set w g 0 v).size
end
section
open Go.RowKit Go.ChangeShapes Go.WideShapes Go.ChangeAt
set_option linter.unusedVariables false
set_option linter.unusedSimpArgs false
set_option maxRecDepth 100000
theorem bulkT_in {H : Type} {ds : List (DataW H)} {d : DataW H} (hd : d ∈ ds) (hk : Rows.uptoSmall H ds = true) : Rows.uptoBulk d ≤ 1048576 := by
  have h : Rows.uptoBulkAll ds ≤ 1048576 := of_decide_eq_true hk
  refine Nat.le_trans ?_ h
  clear h hk
  induction ds with
  | nil => cases hd
  | cons x r ih =>
    simp only [Rows.uptoBulkAll]
    rcases List.mem_cons.mp hd with rfl | hd
    · omega
    · have := ih hd
      omega
theorem open_listT {H : Type} {enc : TypeId × Value → H} {W : World} {v : Value} {d : DataW H} {p : List MemPlace} {T : TypeId} (hT : Tryz.prog.underlying T = some (.slice 3))
    (hv : ∃ ad n cap, v = .slice ad n cap) (h : DataW.Trod enc Tryz.prog W 0 (fun _ => true) true T v d p) :
    ∃ ad xs cap, ArgS W v xs ad cap ∧ xs.length + 1 ≤ Rows.uptoBulk d ∧ (ad = none → cap = 0) := by
  obtain ⟨ad, n, cap, rfl⟩ := hv
  obtain ⟨fuel, hf⟩ := h
  simp only [Value.cells] at hf
  obtain ⟨a, xs, c, e, A, l, m⟩ := open_intsB hT hf
  rw [e]
  exact ⟨a, xs, c, A, l, m⟩
theorem open_tensorT {H : Type} {enc : TypeId × Value → H} {W : World} {v : Value} {d : DataW H} {p : List MemPlace} {base : Nat}
    (hval : Value.okWide Tryz.prog W .any base 26 v) (h : DataW.Trod enc Tryz.prog W 0 (fun _ => true) true 26 v d p) (hk : Rows.uptoBulk d ≤ 1048576) :
    ∃ (s : List Int) (qs : List Q3) (a b : Option Addr) (ca cb : Nat), TensQ W v s qs a ca b cb ∧ s.length ≤ 1048576 ∧ sizeQs qs ≤ 1048576 ∧ s.length + sizeQs qs ≤ 1048576 := by
  obtain ⟨s, qs, a, b, ca, cb, T, l⟩ := @open_tensor H enc W v d p base hval h
  have h := Nat.le_trans l hk
  exact ⟨s, qs, a, b, ca, cb, T, Nat.le_trans (Nat.le_add_right _ _) h, Nat.le_trans (Nat.le_add_left _ _) h, h⟩
end
section
open Go.RowKit Go.ChangeShapes Go.WideShapes Go.ChangeAt Go.Joins Go.Deep
set_option linter.unusedVariables false
set_option linter.unusedSimpArgs false
set_option maxRecDepth 100000
/-- what Dot answers -/
def DotQ (base : Nat) (w : World) (r : Value) (x : Rat) (n : Nat) (c : Int) : Prop := (c = 0 → ResQ base w r x n) ∧ (c ≠ 0 → r = noRat)
theorem DotQ.later {base n : Nat} {w w' : World} {r : Value} {x : Rat} {c : Int} (h : DotQ base w r x n c) (hb : Below w.heap.size w w') : DotQ base w' r x n c := ⟨fun k => (h.1 k).later hb, h.2⟩
theorem DotQ.only {base n g : Nat} {w w' : World} {r : Value} {x : Rat} {c : Int} {cs : Array Value} (h : DotQ base w r x n c) (R : Row w g 58 cs) (k : Only g w w') : DotQ base w' r x n c := ⟨fun e => (h.1 e).only R k, h.2⟩
theorem DotQ.shape {base n : Nat} {w : World} {r : Value} {x : Rat} {c : Int} (h : DotQ base w r x n c) : ∃ m f1 l1 j1 f2 l2 j2, r = .agg #[.bool m, .slice f1 l1 j1, .slice f2 l2 j2] ∧ (c ≠ 0 → l1 = 0 ∧ l2 = 0) := by
  by_cases hc : c = 0
  · obtain ⟨m, a, b, d, e, f, g, rfl⟩ := (h.1 hc).shape
    exact ⟨m, a, b, d, e, f, g, rfl, fun k => absurd hc k⟩
  · exact ⟨_, _, _, _, _, _, _, h.2 hc, fun _ => ⟨rfl, rfl⟩⟩
/-- what Full and Make answer -/
def TenC (base : Nat) (w : World) (r : Value) (s : List Int) (L : List Rat) (n : Nat) (c : Int) : Prop := (c = 0 → ResT base w r s L n) ∧ (c ≠ 0 → r = noTensor)
theorem TenC.later {base n : Nat} {w w' : World} {r : Value} {s : List Int} {L : List Rat} {c : Int} (h : TenC base w r s L n c) (hb : Below w.heap.size w w') : TenC base w' r s L n c := ⟨fun k => (h.1 k).later hb, h.2⟩
theorem TenC.only {base n g : Nat} {w w' : World} {r : Value} {s : List Int} {L : List Rat} {c : Int} {cs : Array Value} (h : TenC base w r s L n c) (R : Row w g 26 cs) (k : Only g w w') : TenC base w' r s L n c := ⟨fun e => (h.1 e).far R (by decide) (by decide) (by decide) k.block, h.2⟩
theorem TenC.shape {base n : Nat} {w : World} {r : Value} {s : List Int} {L : List Rat} {c : Int} (h : TenC base w r s L n c) : ∃ f1 l1 j1 f2 l2 j2, r = .agg #[.slice f1 l1 j1, .slice f2 l2 j2] ∧ (c ≠ 0 → l1 = 0 ∧ l2 = 0) := by
  by_cases hc : c = 0
  · obtain ⟨a, b, d, e, rfl, _, _⟩ := h.1 hc
    exact ⟨_, _, _, _, _, _, rfl, fun k => absurd hc k⟩
  · exact ⟨_, _, _, _, _, _, h.2 hc, fun _ => ⟨rfl, rfl⟩⟩
/-- append(nil, s...) in a region that draws its order -/
theorem step_copyK {ops : Array Oper} {o : Oper} {a : Act} {w : World} {K : Act → World → Prop} {Q : Exit → Act → World → Prop} {E : Prop} (hg : o.guard = none) (t : Nat) (T : TypeId) (hT : Tryz.prog.underlying T = some (.slice 3))
    (hop : o.op = Op.call { callee := Callee.builtin Builtin.append, args := #[Operand.const (.slice none 0 0), Operand.tmp t], argTypes := #[T, T] }) {xs : List Int} {ad : Option Addr} {cap : Nat} {u : Value} (hx : a.eval (.tmp t) = u)
    (hA : ArgS w u xs ad cap) (hn : ad = none → cap = 0) (hl : xs.length ≤ 17592186044416)
    (h : ∀ v' w1, ResS w.heap.size w1 v' xs → Below w.heap.size w w1 → K (a.put o.dst v') w1) :
    if Region.wanted o (yielded ops a.tmps) = true then Oper.wp Tryz.prog o a w K Q else E := by
  rw [if_pos (by simp [Region.wanted, hg])]
  obtain ⟨i0, hi, hz0, hz1, hz2⟩ := info_parts infoS
  have hnil := World.ownsRow_nil w w.heap.size 3 1
  have hs : a.eval (.const (.slice none 0 0)) = .slice none 0 0 := rfl
  obtain ⟨rfl, lx, hle, wx⟩ := hA
  cases ad with
  | none =>
    have hc := hn rfl
    subst hc
    have hxs : xs = [] := List.eq_nil_of_length_eq_zero (by omega)
    subst hxs
    have hrun := run_append_owned_none (P := Tryz.prog) w w.heap.size T o.type 3 i0 1 hT hi (.slice none 0 0) 0 [] hnil
    unfold Oper.wp
    simp [execOp, hop, resolve, invoke, builtin, hs, hx, hrun, Result.andThen]
    exact h _ _ ⟨hnil, wx⟩ (Below.refl _ _)
  | some ad =>
    obtain ⟨v', w', hr, hown, hgrow, _⟩ := run_append_own (P := Tryz.prog) w w.heap.size T o.type 3 i0 (.int .i64 0) 1 8 hT hi hz0 hz1 hz2 rfl (by decide) (.slice none 0 0) 0 [] hnil ad xs.length cap (xs.map (Value.int .i64)) (by simp) (cells_argS (cap := cap) lx) (ints_oneCell _ _) (by unfold maxLen; omega) (by omega) (Nat.le_refl _)
    unfold Oper.wp
    simp [execOp, hop, resolve, invoke, builtin, hs, hx, hr, Result.andThen]
    refine h v' w' ⟨?_, wx⟩ ((Below.refl _ w).grown hgrow (Nat.le_refl _) (fun k hk => by cases hk))
    unfold NumS
    simpa using hown
end
section
open Go.RowKit
set_option linter.unusedVariables false
set_option linter.unusedSimpArgs false
/-- what Own answers, as it is handed in again -/
theorem ownT_tens {base : Nat} {w : World} {a b : Option Addr} {ca cb : Nat} {s : List Int} {qs : List Q3} (S : ResS base w (.slice a s.length ca) s) (E : RowO base 58 (fun W v x => RawO base W v x) w (.slice b qs.length cb) qs) :
    TensQ w (.agg #[.slice a s.length ca, .slice b qs.length cb]) s qs a ca b cb := ⟨rfl, S.at_.2.1, S.at_.2.2, E.at_.2.1.imp (fun v x _ h => h.raw), E.at_.2.2⟩
end
section
open Go.RowKit
set_option linter.unusedVariables false
set_option linter.unusedSimpArgs false
/-- what the reference's Of answers, as it is handed in again -/
theorem ofT_tens {base n : Nat} {w : World} {a b : Option Addr} {ca cb m : Nat} {s : List Int} {L : List Rat} (hm : m = L.length) (S : ResS base w (.slice a s.length ca) s) (E : RowO base 75 (fun W v x => ResR base W v x n) w (.slice b m cb) L) :
    TensR w (.agg #[.slice a s.length ca, .slice b m cb]) s L n a ca b cb := by
  subst hm
  exact ⟨rfl, S.at_.2.1, S.at_.2.2, E.at_.2.1.imp (fun v x _ h => h.arg), E.at_.2.2⟩
end
end Go.Proofs.YtooglnhlhgmhdaaGreat
