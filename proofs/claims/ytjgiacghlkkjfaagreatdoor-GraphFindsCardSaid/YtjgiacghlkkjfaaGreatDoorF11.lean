/-
  Part 11 of 29: contracts and what they rest on (FPool, IMath, ICode1, GMath).
-/
import Derived.Test.YtjgiacghlkkjfaaGreatDoorF1
import Derived.Test.YtjgiacghlkkjfaaGreatDoorF2
import Derived.Test.YtjgiacghlkkjfaaGreatDoorF3
import Derived.Test.YtjgiacghlkkjfaaGreatDoorF4
import Derived.Test.YtjgiacghlkkjfaaGreatDoorF5
import Derived.Test.YtjgiacghlkkjfaaGreatDoorF6
import Derived.Test.YtjgiacghlkkjfaaGreatDoorF9
import Derived.WalkKit
import Derived.Test.YtjgiacghlkkjfaaGreatDoorRows
import Derived.OrdersHeld
import Derived.Deep.RegionHeld
import Derived.BigQuiet
import Derived.Deep.QuietTactic
import Derived.Lib.Hide
import Derived.Lib.Small
import Derived.Lib.Walk
import Derived.Lib.BitFns
import Derived.Maps.AppendAt
import Derived.RangeFuncNested
import Derived.RangeFuncBound
import Derived.RangeFuncCalls
import Derived.RangeFuncLeaves
import Derived.Shelf.Abstract
import Derived.OwnWalkIn
import Derived.TacticsInMore
import Derived.LoopNIn
import Derived.LoopIn
import Derived.RangeFuncBox
import Derived.Deep.RegionHeld3
import Derived.OrdersIn
import Derived.StillTailTactics
import Derived.RangeFuncFrom
import Derived.Laws.EntriesVeiled
import Derived.ProofKit
import Derived.OpenShut
import Derived.JoinedCond
import Derived.Carry
import Derived.Laws.AppendOwnNone
import Derived.Lib.ItoaNum
import Derived.Deep.RegionLaw
import Derived.WalkMore
import Derived.Lib.SmallJoins
import Derived.IntWalk
import Derived.Deep.DeepCutAuto
import Derived.Laws.OwnMore
import Derived.ArgAppend
import Derived.Deep.Slices
import Derived.Laws.CopyOwn
import Derived.Lib.SliceRun
import Derived.SizedLaws
import Derived.Great.BuildSlice
namespace Go.Proofs.YtjgiacghlkkjfaaGreatDoor
set_option maxRecDepth 100000
section
open Go.RowKit
variable {P : Program} {md : Region.Mode} {ops : Array Oper} {Q : Exit → Act → World → Prop} {S : World → Prop}
set_option linter.unusedVariables false
set_option linter.unusedSimpArgs false
/-- an alloc that waits for nothing: its number, its slot, its type, its cells, what it yields -/
structure Fl where
  op : Nat
  dst : Nat
  ty : TypeId
  cells : Array Value
  val : Nat → Value
def setF : List Fl → List Bool → Array Bool → Array Bool
  | f :: fs, b :: bs, L => setF fs bs (L.setIfInBounds f.op b)
  | _, _, L => L
def putF : List Fl → List Value → Act → Act
  | f :: fs, u :: us, a => putF fs us (a.put (some f.dst) u)
  | _, _, a => a
theorem setF_out {c : Nat} {v : Bool} : ∀ (fs : List Fl) (bs : List Bool) (L : Array Bool), c ∉ fs.map Fl.op → setF fs bs (L.setIfInBounds c v) = (setF fs bs L).setIfInBounds c v
  | [], _, _, _ => by simp [setF]
  | f :: fs, [], _, _ => by simp [setF]
  | f :: fs, b :: bs, L, h => by
    simp only [List.map_cons, List.mem_cons, not_or] at h
    simp only [setF]
    rw [Array.setIfInBounds_comm _ _ h.1, setF_out fs bs _ h.2]
theorem setF_at {v : Bool} : ∀ (fs : List Fl) (bs : List Bool) (L : Array Bool) (k : Nat) (f : Fl), fs[k]? = some f → bs.length = fs.length → (fs.map Fl.op).Nodup → (setF fs bs L).setIfInBounds f.op v = setF fs (bs.set k v) L
  | [], _, _, _, _, h, _, _ => by simp at h
  | f :: fs, [], _, _, _, _, h, _ => by simp at h
  | f :: fs, b :: bs, L, 0, g, h, hl, hn => by
    simp only [List.getElem?_cons_zero, Option.some.injEq] at h
    subst h
    simp only [List.map_cons, List.nodup_cons] at hn
    simp only [setF, List.set_cons_zero]
    rw [← setF_out fs bs _ hn.1, Array.setIfInBounds_setIfInBounds]
  | f :: fs, b :: bs, L, k + 1, g, h, hl, hn => by
    simp only [List.getElem?_cons_succ] at h
    simp only [List.map_cons, List.nodup_cons] at hn
    simp only [setF, List.set_cons_succ]
    exact setF_at fs bs _ k g h (by simpa using hl) hn.2
theorem putF_out {c : Nat} {v : Value} : ∀ (fs : List Fl) (us : List Value) (a : Act), c ∉ fs.map Fl.dst → putF fs us (a.put (some c) v) = (putF fs us a).put (some c) v
  | [], _, _, _ => by simp [putF]
  | f :: fs, [], _, _ => by simp [putF]
  | f :: fs, u :: us, a, h => by
    simp only [List.map_cons, List.mem_cons, not_or] at h
    simp only [putF]
    rw [put_comm10 a h.1, putF_out fs us _ h.2]
theorem put_put10 (a : Act) (d : Nat) (u v : Value) : (a.put (some d) u).put (some d) v = a.put (some d) v := by
  cases a
  simp only [Act.put]
  rw [Array.setIfInBounds_setIfInBounds]
theorem putF_at {v : Value} : ∀ (fs : List Fl) (us : List Value) (a : Act) (k : Nat) (f : Fl), fs[k]? = some f → us.length = fs.length → (fs.map Fl.dst).Nodup → (putF fs us a).put (some f.dst) v = putF fs (us.set k v) a
  | [], _, _, _, _, h, _, _ => by simp at h
  | f :: fs, [], _, _, _, _, h, _ => by simp at h
  | f :: fs, u :: us, a, 0, g, h, hl, hn => by
    simp only [List.getElem?_cons_zero, Option.some.injEq] at h
    subst h
    simp only [List.map_cons, List.nodup_cons] at hn
    simp only [putF, List.set_cons_zero]
    rw [← putF_out fs us _ hn.1, put_put10]
  | f :: fs, u :: us, a, k + 1, g, h, hl, hn => by
    simp only [List.getElem?_cons_succ] at h
    simp only [List.map_cons, List.nodup_cons] at hn
    simp only [putF, List.set_cons_succ]
    exact putF_at fs us _ k g h (by simpa using hl) hn.2
def allL : Nat → (List Bool → Bool) → Bool
  | 0, p => p []
  | n + 1, p => allL n (fun l => p (true :: l)) && allL n (fun l => p (false :: l))
theorem allL_spec : ∀ (n : Nat) (p : List Bool → Bool), allL n p = true → ∀ l, l.length = n → p l = true
  | 0, p, h, l, hl => by
    obtain rfl := List.eq_nil_of_length_eq_zero hl
    exact h
  | n + 1, p, h, [], hl => by simp at hl
  | n + 1, p, h, b :: l, hl => by
    simp only [allL, Bool.and_eq_true] at h
    cases b
    · exact allL_spec n _ h.2 l (by simpa using hl)
    · exact allL_spec n _ h.1 l (by simpa using hl)
theorem count_set10 : ∀ (bs : List Bool) (k : Nat), bs[k]? = some false → (bs.set k true).count false + 1 = bs.count false
  | [], k, h => by simp at h
  | b :: bs, 0, h => by
    simp only [List.getElem?_cons_zero, Option.some.injEq] at h
    subst h
    simp
  | b :: bs, k + 1, h => by
    simp only [List.getElem?_cons_succ] at h
    have := count_set10 bs k h
    simp only [List.set_cons_succ, List.count_cons]
    omega
/-- what is known of those that have come up -/
structure OkF (n0 : Nat) (X : World) (fs : List Fl) (bs : List Bool) (us : List Value) : Prop where
  lb : bs.length = fs.length
  lu : us.length = fs.length
  row : ∀ (k : Nat) (f : Fl) (u : Value), fs[k]? = some f → bs[k]? = some true → us[k]? = some u → ∃ g, u = f.val g ∧ n0 ≤ g ∧ Row X g f.ty f.cells
  ne : ∀ (j k : Nat) (f f' : Fl) (g : Nat), j ≠ k → fs[j]? = some f → fs[k]? = some f' → bs[j]? = some true → bs[k]? = some true → us[j]? = some (f.val g) → us[k]? ≠ some (f'.val g)
def InjF (fs : List Fl) : Prop := ∀ f ∈ fs, ∀ g g', f.val g = f.val g' → g = g'
theorem OkF.later {n0 : Nat} {X Y : World} {fs : List Fl} {bs : List Bool} {us : List Value} (h : OkF n0 X fs bs us) (hb : Below X.heap.size X Y) : OkF n0 Y fs bs us :=
  ⟨h.lb, h.lu, fun k f u h1 h2 h3 => by
    obtain ⟨g, e, hg, R⟩ := h.row k f u h1 h2 h3
    exact ⟨g, e, hg, R.later hb⟩, h.ne⟩
theorem OkF.more {n0 k : Nat} {X : World} {fs : List Fl} {bs : List Bool} {us : List Value} {f : Fl} (hi : InjF fs) (h : OkF n0 X fs bs us) (hk : fs[k]? = some f) (hb : bs[k]? = some false) (h0 : n0 ≤ X.heap.size) :
    OkF n0 (X.alloc (.cells f.cells f.ty)) fs (bs.set k true) (us.set k (f.val X.heap.size)) := by
  have hlt : k < fs.length := (List.getElem?_eq_some_iff.1 hk).1
  have hlu : k < us.length := by rw [h.lu]; exact hlt
  have hbel : Below X.heap.size X (X.alloc (.cells f.cells f.ty)) := (Below.refl _ _).alloc (Nat.le_refl _) _
  have old : ∀ j u, j ≠ k → (bs.set k true)[j]? = some true → (us.set k (f.val X.heap.size))[j]? = some u → bs[j]? = some true ∧ us[j]? = some u := fun j u hj h1 h2 => by
    rw [List.getElem?_set_ne (fun e => hj e.symm)] at h1 h2
    exact ⟨h1, h2⟩
  have new : ∀ u, (us.set k (f.val X.heap.size))[k]? = some u → u = f.val X.heap.size := fun u hu => by
    rw [List.getElem?_set_self hlu] at hu
    exact (Option.some.inj hu).symm
  have far : ∀ j f' g, j ≠ k → fs[j]? = some f' → (bs.set k true)[j]? = some true → (us.set k (f.val X.heap.size))[j]? = some (f'.val g) → g < X.heap.size := fun j f' g hj hf h1 h2 => by
    obtain ⟨o1, o2⟩ := old j _ hj h1 h2
    obtain ⟨g', e', _, R⟩ := h.row j f' _ hf o1 o2
    rw [hi f' (List.mem_of_getElem? hf) _ _ e']
    exact R.lt
  refine ⟨by simp [h.lb], by simp [h.lu], fun j f' u h1 h2 h3 => ?_, fun i j fi fj g hij e1 e2 h1 h2 h3 h4 => ?_⟩
  · by_cases hj : j = k
    · subst hj
      rw [hk] at h1
      cases h1
      exact ⟨_, new u h3, h0, Row.new _ _ _⟩
    · obtain ⟨o1, o2⟩ := old j u hj h2 h3
      obtain ⟨g, e, hg, R⟩ := h.row j f' u h1 o1 o2
      exact ⟨g, e, hg, R.later hbel⟩
  · by_cases hi' : i = k
    · subst hi'
      rw [hk] at e1
      cases e1
      have := hi f (List.mem_of_getElem? hk) _ _ (new _ h3)
      have := far j fj g (Ne.symm hij) e2 h2 h4
      omega
    · by_cases hj : j = k
      · subst hj
        rw [hk] at e2
        cases e2
        have := hi f (List.mem_of_getElem? hk) _ _ (new _ h4)
        have := far i fi g hi' e1 h1 h3
        omega
      · obtain ⟨o1, o2⟩ := old i _ hi' h1 h3
        obtain ⟨o3, o4⟩ := old j _ hj h2 h4
        exact h.ne i j fi fj g hij e1 e2 o1 o3 o2 o4
/-- these operations are allocs that wait for nothing -/
def IsF (P : Program) (ops : Array Oper) (Q : Exit → Act → World → Prop) (fs : List Fl) : Prop :=
  ∀ f ∈ fs, (∀ g g', f.val g = f.val g' → g = g') ∧ ∃ o, ops[f.op]? = some o ∧ ∀ (a : Act) (X : World) (K : Act → World → Prop), K (a.put (some f.dst) (f.val X.heap.size)) (X.alloc (.cells f.cells f.ty)) → StepH P ops Q o a X K
theorem IsF.inj {fs : List Fl} (h : IsF P ops Q fs) : InjF fs := fun f hf => (h f hf).1
/-- what may come up: the next of the chain (if those that it needs have come up), and those that have not come up yet -/
def okR (md : Region.Mode) (ops : Array Oper) (L : Array Bool) (fs : List Fl) (c : Nat) (need : List Nat) (bs : List Bool) : Bool :=
  !(Region.ready md ops (setF fs bs L)).isEmpty && (Region.ready md ops (setF fs bs L)).all fun j => (j == c && need.all fun k => bs.getD k false) || (List.range fs.length).any fun k => (fs.map Fl.op).getD k 0 == j && !bs.getD k true
def okE (md : Region.Mode) (ops : Array Oper) (L : Array Bool) (fs : List Fl) (bs : List Bool) : Bool :=
  bs.count false == 0 || (!(Region.ready md ops (setF fs bs L)).isEmpty && (Region.ready md ops (setF fs bs L)).all fun j => (List.range fs.length).any fun k => (fs.map Fl.op).getD k 0 == j && !bs.getD k true)
theorem len_one10 {us : List Value} (h : us.length = 1) : ∃ u, us = [u] := by
  match us, h with
  | [u], _ => exact ⟨u, rfl⟩
theorem pend_of {fs : List Fl} {bs : List Bool} {j : Nat} (hl : bs.length = fs.length) (h : ((List.range fs.length).any fun k => (fs.map Fl.op).getD k 0 == j && !bs.getD k true) = true) : ∃ (k : Nat) (f : Fl), fs[k]? = some f ∧ bs[k]? = some false ∧ f.op = j := by
  rw [List.any_eq_true] at h
  obtain ⟨k, hk, h⟩ := h
  have hk' : k < fs.length := List.mem_range.1 hk
  have hb : k < bs.length := by omega
  simp only [Bool.and_eq_true, beq_iff_eq, Bool.not_eq_true'] at h
  refine ⟨k, fs[k], List.getElem?_eq_getElem hk', ?_, ?_⟩
  · have := h.2
    rw [List.getD_eq_getElem?_getD, List.getElem?_eq_getElem hb] at this
    rw [List.getElem?_eq_getElem hb]
    simpa using this
  · have := h.1
    rw [List.getD_eq_getElem?_getD, List.getElem?_map, List.getElem?_eq_getElem hk'] at this
    simpa using this
theorem OkF.one {n0 : Nat} {X : World} {f : Fl} {us : List Value} (h : OkF n0 X [f] (List.replicate [f].length true) us) : ∃ g, us = [f.val g] ∧ n0 ≤ g ∧ Row X g f.ty f.cells := by
  obtain ⟨u, rfl⟩ := len_one10 h.lu
  obtain ⟨g, rfl, h1, h2⟩ := h.row 0 f u rfl rfl rfl
  exact ⟨g, rfl, h1, h2⟩
theorem step_wpOp {i : Nat} {o : Oper} {a : Act} {w : World} {K : Act → World → Prop} (ho : ops[i]? = some o) (h : StepH P ops Q o a w K) : wpOp P ops Q i K a w := by
  unfold wpOp
  rw [ho]
  unfold StepH at h
  dsimp only
  split
  · rename_i hw
    rw [if_pos hw] at h
    exact .inl h
  · rename_i hw
    rw [if_neg hw] at h
    exact h
/-- whichever allocs have come up: what follows holds -/
def Pool (P : Program) (md : Region.Mode) (ops : Array Oper) (Q : Exit → Act → World → Prop) (S : World → Prop) (fs : List Fl) (w : World) (F : World → Prop) (n : Nat) (L : Array Bool) (a : Act) : Prop :=
  ∀ bs us X, OkF w.heap.size X fs bs us → Below w.heap.size w X → F X → wpAnyH P md ops Q S (n + bs.count false) (setF fs bs L) (putF fs us a) X
theorem pool_fl {fs : List Fl} {n : Nat} {w : World} {a : Act} {L : Array Bool} {F : World → Prop} (hfl : IsF P ops Q fs) (hops : (fs.map Fl.op).Nodup) (hdst : (fs.map Fl.dst).Nodup) (hS : ∀ X, Below w.heap.size w X → S X) (hF : ∀ X Y, Below X.heap.size X Y → F X → F Y)
    {bs : List Bool} {us : List Value} {X : World} (ok : OkF w.heap.size X fs bs us) (hb : Below w.heap.size w X) (hX : F X) {k : Nat} {f : Fl} (hk : fs[k]? = some f) (hbk : bs[k]? = some false) {N : Nat}
    (ih : ∀ bs us X, bs.count false = N → OkF w.heap.size X fs bs us → Below w.heap.size w X → F X → wpAnyH P md ops Q S (n + bs.count false) (setF fs bs L) (putF fs us a) X) (hN : bs.count false = N + 1) :
    wpOp P ops Q f.op (fun a' w' => S w' ∧ wpAnyH P md ops Q S (n + N) ((setF fs bs L).setIfInBounds f.op true) a' w') (putF fs us a) X := by
  obtain ⟨_, o, ho, hstep⟩ := hfl f (List.mem_of_getElem? hk)
  refine step_wpOp ho (hstep _ _ _ ?_)
  have hbel : Below X.heap.size X (X.alloc (.cells f.cells f.ty)) := (Below.refl _ _).alloc (Nat.le_refl _) _
  have hb2 : Below w.heap.size w (X.alloc (.cells f.cells f.ty)) := hb.trans (hbel.mono hb.size)
  have hc := count_set10 bs k hbk
  have h := ih (bs.set k true) (us.set k (f.val X.heap.size)) _ (by omega) (ok.more hfl.inj hk hbk hb.size) hb2 (hF _ _ hbel hX)
  rw [show (bs.set k true).count false = N by omega] at h
  refine ⟨hS _ hb2, ?_⟩
  rw [setF_at fs bs L k f hk ok.lb hops, putF_at fs us a k f hk ok.lu hdst]
  exact h
theorem pool_step {fs : List Fl} {n : Nat} {w : World} {a : Act} {L : Array Bool} {F : World → Prop} {α : Type} (val : α → Value) {c dc : Nat} {oc : Oper} {need : List Nat} {F' : α → World → Prop} (hc : ops[c]? = some oc) (hfl : IsF P ops Q fs) (hops : (fs.map Fl.op).Nodup) (hdst : (fs.map Fl.dst).Nodup) (hco : c ∉ fs.map Fl.op) (hcd : dc ∉ fs.map Fl.dst)
    (hr : allL fs.length (okR md ops L fs c need) = true) (hS : ∀ X, Below w.heap.size w X → S X) (hF : ∀ X Y, Below X.heap.size X Y → F X → F Y)
    (hstep : ∀ us X K, us.length = fs.length → (∀ k ∈ need, ∃ f g, fs[k]? = some f ∧ us[k]? = some (f.val g) ∧ Row X g f.ty f.cells) → Below w.heap.size w X → F X →
      (∀ v X', Below X.heap.size X X' → F' v X' → K ((putF fs us a).put (some dc) (val v)) X') → StepH P ops Q oc (putF fs us a) X K)
    (hnext : ∀ v, Pool P md ops Q S fs w (F' v) n (L.setIfInBounds c true) (a.put (some dc) (val v))) : Pool P md ops Q S fs w F (n + 1) L a := by
  have main : ∀ N bs us X, bs.count false = N → OkF w.heap.size X fs bs us → Below w.heap.size w X → F X → wpAnyH P md ops Q S (n + 1 + bs.count false) (setF fs bs L) (putF fs us a) X := by
    intro N
    induction N with
    | zero =>
      intro bs us X hN ok hb hX
      have hk := allL_spec _ _ hr bs ok.lb
      simp only [okR, Bool.and_eq_true, Bool.not_eq_true', List.isEmpty_eq_false_iff, List.all_eq_true, Bool.or_eq_true, beq_iff_eq] at hk
      rw [hN]
      refine wpAnyH_all rfl hk.1 fun j hj => ?_
      rcases hk.2 j hj with ⟨rfl, hneed⟩ | hp
      · refine step_wpOp hc (hstep us X _ ok.lu (fun k hk' => ?_) hb hX fun v X' hb' hF' => ?_)
        · have h1 := hneed k hk'
          have h2 : bs[k]? = some true := by
            rw [List.getD_eq_getElem?_getD] at h1
            cases e : bs[k]? with
            | none => rw [e] at h1; cases h1
            | some b => rw [e] at h1; simpa using h1
          have h3 : k < fs.length := by rw [← ok.lb]; exact (List.getElem?_eq_some_iff.1 h2).1
          have h4 : k < us.length := by rw [ok.lu]; exact h3
          obtain ⟨g, e, _, R⟩ := ok.row k _ _ (List.getElem?_eq_getElem h3) h2 (List.getElem?_eq_getElem h4)
          exact ⟨_, g, List.getElem?_eq_getElem h3, by rw [List.getElem?_eq_getElem h4, e], R⟩
        · have hb2 := hb.trans (hb'.mono hb.size)
          refine ⟨hS _ hb2, ?_⟩
          have h := hnext v bs us X' (ok.later hb') hb2 hF'
          rw [hN, setF_out fs bs _ hco, putF_out fs us _ hcd] at h
          exact h
      · obtain ⟨k, f, h1, h2, h3⟩ := pend_of ok.lb hp
        have := count_set10 bs k h2
        omega
    | succ N ih =>
      intro bs us X hN ok hb hX
      have hk := allL_spec _ _ hr bs ok.lb
      simp only [okR, Bool.and_eq_true, Bool.not_eq_true', List.isEmpty_eq_false_iff, List.all_eq_true, Bool.or_eq_true, beq_iff_eq] at hk
      rw [hN, show n + 1 + (N + 1) = (n + 1 + N) + 1 by omega]
      refine wpAnyH_all rfl hk.1 fun j hj => ?_
      rcases hk.2 j hj with ⟨rfl, hneed⟩ | hp
      · refine step_wpOp hc (hstep us X _ ok.lu (fun k hk' => ?_) hb hX fun v X' hb' hF' => ?_)
        · have h1 := hneed k hk'
          have h2 : bs[k]? = some true := by
            rw [List.getD_eq_getElem?_getD] at h1
            cases e : bs[k]? with
            | none => rw [e] at h1; cases h1
            | some b => rw [e] at h1; simpa using h1
          have h3 : k < fs.length := by rw [← ok.lb]; exact (List.getElem?_eq_some_iff.1 h2).1
          have h4 : k < us.length := by rw [ok.lu]; exact h3
          obtain ⟨g, e, _, R⟩ := ok.row k _ _ (List.getElem?_eq_getElem h3) h2 (List.getElem?_eq_getElem h4)
          exact ⟨_, g, List.getElem?_eq_getElem h3, by rw [List.getElem?_eq_getElem h4, e], R⟩
        · have hb2 := hb.trans (hb'.mono hb.size)
          refine ⟨hS _ hb2, ?_⟩
          have h := hnext v bs us X' (ok.later hb') hb2 hF'
          rw [hN, setF_out fs bs _ hco, putF_out fs us _ hcd, show n + (N + 1) = n + 1 + N by omega] at h
          exact h
      · obtain ⟨k, f, h1, h2, rfl⟩ := pend_of ok.lb hp
        exact pool_fl hfl hops hdst hS hF ok hb hX h1 h2 ih hN
  exact fun bs us X ok hb hX => main _ bs us X rfl ok hb hX
theorem pool_take {fs : List Fl} {n : Nat} {w : World} {a : Act} {L : Array Bool} {F : World → Prop} {i di : Nat} {oi : Oper} {v : Value} (hi : ops[i]? = some oi) (hd : oi.dst = some di) (hio : i ∉ fs.map Fl.op) (hdi : di ∉ fs.map Fl.dst)
    (hk : allL fs.length (fun bs => Region.noSelect ops && Region.free md ops (setF fs bs L) i && (Region.ready md ops (setF fs bs L)).contains i) = true) (hQ : ∀ c a w, Q (.panic c) (a.put oi.dst v) w → Q (.panic c) a w)
    (hS : ∀ X, Below w.heap.size w X → S X) (hy : ∀ us, us.length = fs.length → YieldsIf P ops S oi v (putF fs us a))
    (hnext : Pool P md ops Q S fs w F n (L.setIfInBounds i true) (a.put (some di) v)) : Pool P md ops Q S fs w F (n + 1) L a := by
  intro bs us X ok hb hX
  have h := allL_spec _ _ hk bs ok.lb
  simp only [Bool.and_eq_true] at h
  rw [show n + 1 + bs.count false = (n + bs.count false) + 1 by omega]
  refine wpAnyH_take hi h.1.1 h.1.2 h.2 hQ (hy us ok.lu) (hS _ hb) ?_
  rw [hd, ← setF_out fs bs _ hio, ← putF_out fs us _ hdi]
  exact hnext bs us X ok hb hX
theorem pool_end {fs : List Fl} {n : Nat} {w : World} {a : Act} {L : Array Bool} {F : World → Prop} (hfl : IsF P ops Q fs) (hops : (fs.map Fl.op).Nodup) (hdst : (fs.map Fl.dst).Nodup) (hr : allL fs.length (okE md ops L fs) = true) (hS : ∀ X, Below w.heap.size w X → S X) (hF : ∀ X Y, Below X.heap.size X Y → F X → F Y)
    (hnext : ∀ us X, OkF w.heap.size X fs (List.replicate fs.length true) us → Below w.heap.size w X → F X → wpAnyH P md ops Q S n (setF fs (List.replicate fs.length true) L) (putF fs us a) X) : Pool P md ops Q S fs w F n L a := by
  have main : ∀ N bs us X, bs.count false = N → OkF w.heap.size X fs bs us → Below w.heap.size w X → F X → wpAnyH P md ops Q S (n + bs.count false) (setF fs bs L) (putF fs us a) X := by
    intro N
    induction N with
    | zero =>
      intro bs us X hN ok hb hX
      obtain rfl : bs = List.replicate fs.length true := by
        rw [List.eq_replicate_iff]
        refine ⟨ok.lb, fun b hb => ?_⟩
        cases b with
        | true => rfl
        | false => exact absurd hN (Nat.ne_of_gt (List.count_pos_iff.2 hb))
      rw [hN]
      exact hnext us X ok hb hX
    | succ N ih =>
      intro bs us X hN ok hb hX
      have hk := allL_spec _ _ hr bs ok.lb
      simp only [okE, Bool.or_eq_true, beq_iff_eq, Bool.and_eq_true, Bool.not_eq_true', List.isEmpty_eq_false_iff, List.all_eq_true] at hk
      rcases hk with hk | hk
      · omega
      rw [hN, show n + (N + 1) = (n + N) + 1 by omega]
      refine wpAnyH_all rfl hk.1 fun j hj => ?_
      obtain ⟨k, f, h1, h2, rfl⟩ := pend_of ok.lb (hk.2 j hj)
      exact pool_fl hfl hops hdst hS hF ok hb hX h1 h2 ih hN
  exact fun bs us X ok hb hX => main _ bs us X rfl ok hb hX
theorem pool_start {fs : List Fl} {n : Nat} {w : World} {a : Act} {L : Array Bool} {F : World → Prop} {us : List Value} (hL : setF fs (List.replicate fs.length false) L = L) (hA : putF fs us a = a) (hu : us.length = fs.length) (hF : F w) (h : Pool P md ops Q S fs w F n L a) : wpAnyH P md ops Q S (n + fs.length) L a w := by
  have ok : OkF w.heap.size w fs (List.replicate fs.length false) us := by
    refine ⟨by simp, hu, fun k f u h1 h2 h3 => ?_, fun j k f f' g hj e1 e2 h1 h2 h3 => ?_⟩
    · rw [List.getElem?_replicate] at h2
      split at h2 <;> simp at h2
    · rw [List.getElem?_replicate] at h1
      split at h1 <;> simp at h1
  have h := h _ us w ok (Below.refl _ _) hF
  rw [hL, hA, List.count_replicate_self] at h
  exact h
end
section
open Go.RowKit
set_option linter.unusedVariables false
set_option linter.unusedSimpArgs false
def shpI (ls : List (List Int)) (i : Nat) : List Int := ls.getD i []
def matB (x y : List Int) : Bool := decide (x.length = 2 ∧ y.length = 2 ∧ x.getD 1 0 = y.getD 0 0)
def padI (s l : List Int) : List Int := (List.range s.length).map fun i : Nat => s.getD i 0 + fstP l i + sndP l i
theorem padI_len (s l : List Int) : (padI s l).length = s.length := by simp [padI]
theorem padI_at (s l : List Int) {i : Nat} (h : i < s.length) : (padI s l).getD i 0 = s.getD i 0 + fstP l i + sndP l i := getD_map_range _ h
def catD (a : Nat) : List (List Int) → Int
  | [] => 0
  | x :: l => x.getD a 0 + catD a l
def catS (a : Nat) (ls : List (List Int)) : List Int := (shpI ls 0).set a (catD a ls)
def likeB (a : List Int) (ls : List (List Int)) : Bool := ls.all fun y => decide (onesS y a = onesS (shpI ls 0) a)
def withinB (x a : List Int) : Bool := decide (∀ i, i < x.length → 2 * i + 1 < a.length → sndP a i ≤ x.getD i 0)
/-- does the condition hold? -/
def holdI (o : Int) (a : List Int) (ls : List (List Int)) : Bool :=
  if o = 1 ∨ o = 2 ∨ o = 3 ∨ o = 4 then decide (shpI ls 1 = shpI ls 0)
  else if o = 10 ∨ o = 19 then matB (shpI ls 0) (shpI ls 1)
  else if o = 11 then decide (a.length = (shpI ls 0).length)
  else if o = 12 then decide (countS a = countS (shpI ls 0))
  else if o = 13 then decide (fitC (shpI ls 0) a = 0)
  else if o = 17 then likeB a ls && axesB a (shpI ls 0).length
  else if o = 14 ∨ o = 20 then axesB a (shpI ls 0).length
  else if o = 15 then withinB (shpI ls 0) a && decide (a.length = 2 * (shpI ls 0).length)
  else if o = 16 then decide (a.length = 2 * (shpI ls 0).length)
  else true
/-- the shape that comes -/
def valI (o : Int) (a : List Int) (ls : List (List Int)) : List Int :=
  if o = 10 ∨ o = 19 then [(shpI ls 0).getD 0 0, (shpI ls 1).getD 1 0]
  else if o = 11 then trS (shpI ls 0) a
  else if o = 12 ∨ o = 13 then a
  else if o = 14 ∨ o = 20 then dropS (shpI ls 0) a
  else if o = 15 then slS (shpI ls 0) a
  else if o = 16 then padI (shpI ls 0) a
  else if o = 17 then catS (a.getD 0 0).toNat ls
  else shpI ls 0
def addC (o : Int) (z s : List Int) : Int := if o = 19 then fitC z s else 0
def attI (v o : Int) (n : Nat) (xs : List Int) (ls : List (List Int)) : List Int := expO v o n xs ((shpI ls 0).length : Int)
def infC (v o : Int) (n : Nat) (xs : List Int) (ls : List (List Int)) : Int :=
  if chkO v o n xs ≠ 0 then chkO v o n xs else if ls.length ≠ n then 10 else if orL (ls.map mayC) ≠ 0 then orL (ls.map mayC)
  else if holdI o (attI v o n xs ls) ls = false then 13
  else if mayC (valI o (attI v o n xs ls) ls) ≠ 0 then mayC (valI o (attI v o n xs ls) ls)
  else addC o (shpI ls 2) (valI o (attI v o n xs ls) ls)
def infV (v o : Int) (n : Nat) (xs : List Int) (ls : List (List Int)) : List Int := if infC v o n xs ls = 0 then valI o (attI v o n xs ls) ls else []
theorem infC_chk {v o : Int} {n : Nat} {xs : List Int} {ls : List (List Int)} (h : chkO v o n xs ≠ 0) : infC v o n xs ls = chkO v o n xs := by unfold infC; rw [if_pos h]
theorem infC_few {v o : Int} {n : Nat} {xs : List Int} {ls : List (List Int)} (h : chkO v o n xs = 0) (h1 : ls.length ≠ n) : infC v o n xs ls = 10 := by
  unfold infC; rw [if_neg (by rw [h]; simp), if_pos h1]
theorem infC_may {v o : Int} {n : Nat} {xs : List Int} {ls : List (List Int)} (h : chkO v o n xs = 0) (h1 : ls.length = n) (h2 : orL (ls.map mayC) ≠ 0) : infC v o n xs ls = orL (ls.map mayC) := by
  unfold infC; rw [if_neg (by rw [h]; simp), if_neg (by omega), if_pos h2]
theorem infC_hold {v o : Int} {n : Nat} {xs : List Int} {ls : List (List Int)} (h : chkO v o n xs = 0) (h1 : ls.length = n) (h2 : orL (ls.map mayC) = 0) (h3 : holdI o (attI v o n xs ls) ls = false) : infC v o n xs ls = 13 := by
  unfold infC; rw [if_neg (by rw [h]; simp), if_neg (by omega), if_neg (by rw [h2]; simp), if_pos h3]
theorem infC_val {v o : Int} {n : Nat} {xs : List Int} {ls : List (List Int)} (h : chkO v o n xs = 0) (h1 : ls.length = n) (h2 : orL (ls.map mayC) = 0) (h3 : holdI o (attI v o n xs ls) ls = true) : infC v o n xs ls = orL [mayC (valI o (attI v o n xs ls) ls), addC o (shpI ls 2) (valI o (attI v o n xs ls) ls)] := by
  unfold infC
  rw [if_neg (by rw [h]; simp), if_neg (by omega), if_neg (by rw [h2]; simp), if_neg (by rw [h3]; simp)]
  simp only [orL]
  by_cases h4 : mayC (valI o (attI v o n xs ls) ls) = 0
  · rw [if_neg (by rw [h4]; simp), if_pos h4]
    split
    · assumption
    · rfl
  · rw [if_pos h4, if_neg h4]
/-- shapes that may be -/
theorem orL_all0 {xs : List Int} (h : orL xs = 0) : ∀ x ∈ xs, x = 0 := by
  induction xs with
  | nil => intro x hx; cases hx
  | cons y r ih =>
    intro x hx
    simp only [orL] at h
    by_cases hy : y = 0
    · rw [if_pos hy] at h
      rcases List.mem_cons.1 hx with rfl | hx
      · exact hy
      · exact ih h x hx
    · rw [if_neg hy] at h; exact absurd h hy
theorem allOk {ls : List (List Int)} (h : orL (ls.map mayC) = 0) : ∀ x ∈ ls, OkS x := fun x hx => mayC_zero.1 (orL_all0 h _ (List.mem_map_of_mem hx))
theorem shp_in {ls : List (List Int)} {i : Nat} (h : i < ls.length) : shpI ls i ∈ ls := by
  unfold shpI
  rw [List.getD_eq_getElem?_getD, List.getElem?_eq_getElem h]
  exact List.getElem_mem h
theorem shp_ok {ls : List (List Int)} (h : orL (ls.map mayC) = 0) {i : Nat} (hi : i < ls.length) : OkS (shpI ls i) := allOk h _ (shp_in hi)
/-- a node that may be -/
structure GoodO (v o : Int) (n : Nat) (a : List Int) : Prop where
  inn : inO o = true
  al : (rowO o).al ≤ (n : Int)
  ah : (n : Int) ≤ (rowO o).ah
  bnd : bndB a = true
  fit : fitO o a = true
theorem good_of {v o : Int} {n : Nat} {xs : List Int} (h : chkO v o n xs = 0) (r : Int) : GoodO v o n (expO v o n xs r) := by
  have h' := h
  unfold chkO at h
  split at h
  · cases h
  rename_i c1
  split at h
  · cases h
  rename_i c2
  split at h
  · cases h
  rename_i c3
  split at h
  · cases h
  rename_i c4
  have hin : inO o = true := by
    cases hv : verO o v with
    | false => exact absurd hv c2
    | true =>
      unfold verO at hv
      rw [Bool.and_eq_true] at hv
      exact hv.1
  have hatt : attB o (expO v o n xs r) = true := by
    unfold expO
    by_cases hl : leaveB o v xs = true
    · rw [if_pos ⟨h', hl⟩]
      obtain ⟨k, hk, rfl⟩ := inO_nat hin
      have h5 := of_decide_eq_true hl
      obtain ⟨i0, i4⟩ := rkI_in r
      obtain ⟨m, hm⟩ : ∃ m : Nat, rkI r = (m : Int) := ⟨(rkI r).toNat, by omega⟩
      rw [hm]
      exact meantO_fits hk (by omega) (by omega)
    · rw [if_neg (fun h => hl h.2)]
      cases ha : attB o xs with
      | true => rfl
      | false => exact absurd ⟨by simpa using hl, ha⟩ c4
  unfold attB at hatt
  rw [Bool.and_eq_true] at hatt
  exact ⟨hin, by omega, by omega, hatt.1, hatt.2⟩
theorem bnd_in {a : List Int} (h : bndB a = true) : ∀ x ∈ a, -2147483647 ≤ x ∧ x ≤ 2147483647 := fun x hx => of_decide_eq_true (List.all_eq_true.1 h x hx)
theorem bnd_at {a : List Int} (h : bndB a = true) (i : Nat) : -2147483647 ≤ a.getD i 0 ∧ a.getD i 0 ≤ 2147483647 := by
  by_cases hi : i < a.length
  · rw [List.getD_eq_getElem?_getD, List.getElem?_eq_getElem hi]; exact bnd_in h _ (List.getElem_mem hi)
  · simp [List.getElem?_eq_none (Nat.le_of_not_lt hi)]
theorem fit_tr {a : List Int} (h : fitO 11 a = true) : a.length ≤ 4 ∧ IsPerm a := by
  have h1 : perB a = true := h
  unfold perB at h1
  rw [Bool.and_eq_true, decide_eq_true_iff] at h1
  exact ⟨h1.1, (permB_is h1.2).1⟩
theorem fit_sh {o : Int} {a : List Int} (ho : o = 12 ∨ o = 13) (h : fitO o a = true) : OkS a := by
  have h1 : shB a = true := by rcases ho with rfl | rfl <;> exact h
  exact mayC_zero.1 (of_decide_eq_true h1)
theorem fit_one {a : List Int} (h : fitO 17 a = true) : a.length = 1 ∧ 0 ≤ a.getD 0 0 ∧ a.getD 0 0 ≤ 3 := by
  have h1 : oneB 3 a = true := h
  exact of_decide_eq_true h1
theorem fit_sl {a : List Int} (h : fitO 15 a = true) : a.length % 2 = 0 ∧ a.length ≤ 8 ∧ ∀ k, 2 * k + 1 < a.length → 0 ≤ fstP a k ∧ fstP a k < sndP a k := by
  have h1 : pairsB slB a = true := h
  obtain ⟨h2, h3, h4⟩ := of_decide_eq_true h1
  exact ⟨h2, h3, fun k hk => of_decide_eq_true (h4 k (by omega) hk)⟩
theorem fit_pa {a : List Int} (h : fitO 16 a = true) : a.length % 2 = 0 ∧ a.length ≤ 8 ∧ ∀ k, 2 * k + 1 < a.length → 0 ≤ fstP a k ∧ 0 ≤ sndP a k := by
  have h1 : pairsB paB a = true := h
  obtain ⟨h2, h3, h4⟩ := of_decide_eq_true h1
  exact ⟨h2, h3, fun k hk => of_decide_eq_true (h4 k (by omega) hk)⟩
theorem ar_two {o : Int} {n : Nat} {v : Int} {a : List Int} (g : GoodO v o n a) (ho : o = 1 ∨ o = 2 ∨ o = 3 ∨ o = 4 ∨ o = 10) : n = 2 := by
  have h1 := g.al
  have h2 := g.ah
  rcases ho with rfl | rfl | rfl | rfl | rfl <;> · simp [rowO, inO, opsO] at h1 h2; omega
theorem ar_three {n : Nat} {v : Int} {a : List Int} (g : GoodO v 19 n a) : n = 3 := by
  have h1 := g.al
  have h2 := g.ah
  simp [rowO, inO, opsO] at h1 h2
  omega
theorem ar_one {o : Int} {n : Nat} {v : Int} {a : List Int} (g : GoodO v o n a) : 1 ≤ n ∧ n ≤ 8 := by
  have h1 := g.al
  have h2 := g.ah
  obtain ⟨k, hk, rfl⟩ := inO_nat g.inn
  have h3 : ∀ k : Nat, k < 20 → 1 ≤ (rowO ((k : Int) + 1)).al ∧ (rowO ((k : Int) + 1)).ah ≤ 8 := by decide +kernel
  have := h3 k hk
  omega
theorem catD_snoc (a : Nat) (l : List (List Int)) (x : List Int) : catD a (l ++ [x]) = catD a l + x.getD a 0 := by
  induction l with
  | nil => simp [catD]
  | cons y l ih => simp only [List.cons_append, catD, ih]; omega
theorem like_at {a : Nat} {x y : List Int} (hx : a < x.length) : (onesS y [(a : Int)] = onesS x [(a : Int)]) ↔ (y.length = x.length ∧ ∀ i, i < x.length → i ≠ a → y.getD i 0 = x.getD i 0) := by
  constructor
  · intro h
    have hl : y.length = x.length := by
      have := congrArg List.length h
      rwa [ones_len, ones_len] at this
    refine ⟨hl, fun i hi hia => ?_⟩
    have h1 := congrArg (fun l => l.getD i 0) h
    rw [ones_at y _ (by omega), ones_at x _ hi, if_neg (by simp; omega), if_neg (by simp; omega)] at h1
    exact h1
  · rintro ⟨hl, h⟩
    refine list_eq_getD (by rw [ones_len, ones_len, hl]) fun i hi => ?_
    rw [ones_len] at hi
    rw [ones_at y _ hi, ones_at x _ (by omega)]
    by_cases hia : i = a
    · subst hia; simp
    · rw [if_neg (by simp; omega), if_neg (by simp; omega)]
      exact h i (by omega) hia
/-- the condition, for Concat: told index by index -/
theorem hold_cat {a : Nat} {ls : List (List Int)} (ha : a ≤ 3) : holdI 17 [(a : Int)] ls = decide (a < (shpI ls 0).length ∧ ∀ y ∈ ls, y.length = (shpI ls 0).length ∧ ∀ i, i < (shpI ls 0).length → i ≠ a → y.getD i 0 = (shpI ls 0).getD i 0) := by
  have h0 : holdI 17 [(a : Int)] ls = (likeB [(a : Int)] ls && axesB [(a : Int)] (shpI ls 0).length) := by simp [holdI]
  have h1 : axesB [(a : Int)] (shpI ls 0).length = decide (a < (shpI ls 0).length) := by
    unfold axesB
    apply decide_eq_decide.2
    constructor
    · intro h
      have := (h 0 (by simp)).1.2
      simp at this
      exact this
    · intro h i hi
      simp at hi
      subst hi
      exact ⟨⟨by simp, by simpa using h⟩, fun k => absurd k (by omega)⟩
  rw [h0, h1]
  by_cases hl : a < (shpI ls 0).length
  · rw [decide_eq_true hl, Bool.and_true]
    unfold likeB
    rw [Bool.eq_iff_iff, List.all_eq_true, decide_eq_true_iff]
    constructor
    · intro h
      exact ⟨hl, fun y hy => (like_at hl).1 (of_decide_eq_true (h y hy))⟩
    · intro h y hy
      exact decide_eq_true ((like_at hl).2 (h.2 y hy))
  · rw [decide_eq_false hl, Bool.and_false]
    exact (decide_eq_false (fun h => hl h.1)).symm
theorem catD_pos {a : Nat} {ls : List (List Int)} (h : ∀ y ∈ ls, 1 ≤ y.getD a 0 ∧ y.getD a 0 ≤ 1024) : (ls.length : Int) ≤ catD a ls ∧ catD a ls ≤ 1024 * ls.length := by
  induction ls with
  | nil => simp [catD]
  | cons x l ih =>
    have h1 := ih fun y hy => h y (List.mem_cons_of_mem _ hy)
    have h2 := h x (List.mem_cons_self ..)
    simp only [catD, List.length_cons]
    omega
/-- what comes has dimensions of at least 1 -/
theorem val_pos {v o : Int} {n : Nat} {a : List Int} {ls : List (List Int)} (g : GoodO v o n a) (hn : ls.length = n) (hok : orL (ls.map mayC) = 0) (h : holdI o a ls = true) : posS (valI o a ls) := by
  have h1 := (ar_one g).1
  have ok0 := shp_ok hok (i := 0) (by omega)
  unfold valI
  by_cases e1 : o = 10 ∨ o = 19
  · rw [if_pos e1]
    have hm : matB (shpI ls 0) (shpI ls 1) = true := by rcases e1 with rfl | rfl <;> exact h
    have hm2 := of_decide_eq_true hm
    have ok1 := shp_ok hok (i := 1) (by
      rcases e1 with rfl | rfl
      · have := ar_two g (by simp); omega
      · have := ar_three g; omega)
    have p0 := ok0.pos.getD (i := 0) (by omega)
    have p1 := ok1.pos.getD (i := 1) (by omega)
    intro x hx
    simp only [List.mem_cons, List.not_mem_nil, or_false] at hx
    omega
  · rw [if_neg e1]
    by_cases e2 : o = 11
    · rw [if_pos e2]
      subst e2
      have hp := fit_tr g.fit
      have hl : a.length = (shpI ls 0).length := of_decide_eq_true h
      intro x hx
      unfold trS at hx
      obtain ⟨k, hk, rfl⟩ := List.mem_map.1 hx
      have := (hp.2.mem k).1 hk
      exact ok0.pos.getD (by omega)
    · rw [if_neg e2]
      by_cases e3 : o = 12 ∨ o = 13
      · rw [if_pos e3]; exact (fit_sh e3 g.fit).pos
      · rw [if_neg e3]
        by_cases e4 : o = 14 ∨ o = 20
        · rw [if_pos e4]; exact (drop_ok a ok0).pos
        · rw [if_neg e4]
          by_cases e5 : o = 15
          · rw [if_pos e5]
            subst e5
            have hh : (withinB (shpI ls 0) a && decide (a.length = 2 * (shpI ls 0).length)) = true := h
            rw [Bool.and_eq_true, decide_eq_true_iff] at hh
            have hf := (fit_sl g.fit).2.2
            refine pos_of fun i hi => ?_
            rw [slS_len] at hi
            rw [slS_at _ _ hi]
            have := hf i (by omega)
            omega
          · rw [if_neg e5]
            by_cases e6 : o = 16
            · rw [if_pos e6]
              subst e6
              have hh : a.length = 2 * (shpI ls 0).length := of_decide_eq_true h
              have hf := (fit_pa g.fit).2.2
              refine pos_of fun i hi => ?_
              rw [padI_len] at hi
              rw [padI_at _ _ hi]
              have := hf i (by omega)
              have := ok0.pos.getD hi
              omega
            · rw [if_neg e6]
              by_cases e7 : o = 17
              · rw [if_pos e7]
                subst e7
                obtain ⟨f1, f2, f3⟩ := fit_one g.fit
                obtain ⟨k, hk⟩ : ∃ k : Nat, a.getD 0 0 = (k : Int) := ⟨(a.getD 0 0).toNat, by omega⟩
                have ha : a = [(k : Int)] := by
                  obtain ⟨y, rfl⟩ := List.length_eq_one_iff.1 f1
                  simp at hk
                  rw [hk]
                subst ha
                rw [hold_cat (by simp at f3; omega)] at h
                obtain ⟨hk1, hall⟩ := of_decide_eq_true h
                have hc := catD_pos (a := k) (ls := ls) fun y hy => by
                  have oky := allOk hok y hy
                  have hl := (hall y hy).1
                  have h3 := getD_le_prod oky.pos (k := k) (by omega)
                  have h4 := oky.few
                  exact ⟨oky.pos.getD (by omega), by omega⟩
                intro x hx
                unfold catS at hx
                rcases List.mem_or_eq_of_mem_set hx with hx | hx
                · exact ok0.pos x hx
                · rw [hx]; simp; omega
              · rw [if_neg e7]; exact ok0.pos
end
section
open Go.RowKit
set_option linter.unusedVariables false
set_option linter.unusedSimpArgs false
/-- a row of shapes, as it came in -/
def RowL (w : World) (v : Value) (ls : List (List Int)) (ad : Option Addr) (cap : Nat) : Prop := v = .slice ad ls.length cap ∧ ls.length ≤ cap ∧ (ls = [] ∨ ∃ b o, ad = some ⟨b, o, none⟩ ∧ ∀ (i : Nat) (x : List Int), ls[i]? = some x →
  ∃ (a : Option Addr) (c : Nat), w.cell? ⟨b, o + i, none⟩ = some (.slice a x.length c) ∧ ArgS w (.slice a x.length c) x a c ∧ (a = none → c = 0))
theorem RowL.later {w w' : World} {v : Value} {ls : List (List Int)} {ad : Option Addr} {cap : Nat} (h : RowL w v ls ad cap) (hb : Below w.heap.size w w') : RowL w' v ls ad cap := by
  refine ⟨h.1, h.2.1, ?_⟩
  rcases h.2.2 with e | ⟨b, o, e, hx⟩
  · exact .inl e
  · refine .inr ⟨b, o, e, fun i x hi => ?_⟩
    obtain ⟨a, c, h1, h2, h3⟩ := hx i x hi
    exact ⟨a, c, (hb.cell (World.block_lt_of_cell? w _ h1)).trans h1, h2.later hb, h3⟩
theorem shp_some {ls : List (List Int)} {i : Nat} (hi : i < ls.length) : ls[i]? = some (shpI ls i) := by
  unfold shpI
  rw [List.getD_eq_getElem?_getD, List.getElem?_eq_getElem hi]
  rfl
theorem RowL.at {w : World} {v : Value} {ls : List (List Int)} {ad : Option Addr} {cap i : Nat} (h : RowL w v ls ad cap) (hi : i < ls.length) :
    ∃ b o a c, ad = some ⟨b, o, none⟩ ∧ b < w.heap.size ∧ w.cell? ⟨b, o + i, none⟩ = some (.slice a (shpI ls i).length c) ∧ ArgS w (.slice a (shpI ls i).length c) (shpI ls i) a c ∧ (a = none → c = 0) := by
  rcases h.2.2 with rfl | ⟨b, o, e, hx⟩
  · simp at hi
  · obtain ⟨a, c, h1, h2, h3⟩ := hx i _ (shp_some hi)
    exact ⟨b, o, a, c, e, World.block_lt_of_cell? w _ h1, h1, h2, h3⟩
theorem orL_snoc0 {xs : List Int} {x : Int} (h : orL xs = 0) : orL (xs ++ [x]) = x := by
  induction xs with
  | nil => simp only [List.nil_append, orL]; split <;> omega
  | cons y r ih =>
    simp only [orL] at h
    by_cases hy : y = 0
    · rw [if_pos hy] at h
      simp only [List.cons_append, orL]
      rw [if_pos hy, ih h]
    · rw [if_neg hy] at h; exact absurd h hy
theorem orL_first {xs ys : List Int} (h : orL xs ≠ 0) : orL (xs ++ ys) = orL xs := by
  induction xs with
  | nil => exact absurd rfl h
  | cons y r ih =>
    simp only [List.cons_append, orL] at h ⊢
    by_cases hy : y = 0
    · rw [if_pos hy] at h; rw [if_pos hy, if_pos hy, ih h]
    · rw [if_neg hy, if_neg hy]
theorem may_next {ls : List (List Int)} {k : Nat} (hk : k < ls.length) : (ls.take (k + 1)).map mayC = (ls.take k).map mayC ++ [mayC (shpI ls k)] := by
  rw [List.take_add_one, shp_some hk, List.map_append]
  rfl
theorem may_stop {ls : List (List Int)} {k : Nat} (hk : k < ls.length) (h : orL ((ls.take k).map mayC) = 0) (h2 : mayC (shpI ls k) ≠ 0) : orL (ls.map mayC) = mayC (shpI ls k) := by
  have e : ls.map mayC = (ls.take (k + 1)).map mayC ++ (ls.drop (k + 1)).map mayC := by rw [← List.map_append, List.take_append_drop]
  rw [e, orL_first, may_next hk, orL_snoc0 h]
  rw [may_next hk, orL_snoc0 h]
  exact h2
set_option maxRecDepth 100000 in
set_option maxHeartbeats 4000000 in
theorem mayCount_any {o : Int} {a1 a2 al : Option Addr} {n1 c1 n2 c2 nl cl : Nat} (w : World) : Calls Tryz.prog 149 #[.agg #[.int .i64 o, .slice a1 n1 c1, .slice a2 n2 c2], .slice al nl cl] w fun e w' => e = .returned (.int .i64 (if nl = n1 then 0 else 10)) ∧ Below w.heap.size w w' := by
  obtain ⟨c, hc⟩ : ∃ c : Int, (if nl = n1 then 0 else 10) = c := ⟨_, rfl⟩
  rw [hc]
  have HC := Lib.hid hc
  obtain ⟨W, hW⟩ : ∃ W, w.alloc (.cells #[.int .i64 o, .slice a1 n1 c1, .slice a2 n2 c2] 46) = W := ⟨_, rfl⟩
  have R0 : Row W w.heap.size 46 #[.int .i64 o, .slice a1 n1 c1, .slice a2 n2 c2] := by rw [← hW]; exact Row.new _ _ _
  have hbW : Below w.heap.size w W := by rw [← hW]; exact (Below.refl _ _).alloc (Nat.le_refl _) _
  obtain ⟨k0, k1, k2, _, _, _⟩ := R0.three
  clear hc
  by_cases h : nl = n1
  · subst h
    obtain rfl : c = 0 := by rw [← HC.out]; exact if_pos rfl
    go_enter Tryz.func149, Tryz.ntmps149
    (try rw [hW])
    go_wp2_with fail
    go_ret
    exact ⟨rfl, hbW⟩
  · obtain rfl : c = 10 := by rw [← HC.out]; exact if_neg h
    have hI : ((nl : Int) != (n1 : Int)) = true := by simp; omega
    go_enter Tryz.func149, Tryz.ntmps149
    (try rw [hW])
    go_wp2_with fail
    go_ret
    exact ⟨rfl, hbW⟩
set_option maxRecDepth 100000 in
set_option maxHeartbeats 8000000 in
theorem mayShapes_any {ls : List (List Int)} {al : Option Addr} {cl : Nat} {w : World} (L : RowL w (.slice al ls.length cl) ls al cl) (hx : ∀ x ∈ ls, x.length ≤ 17592186044416) (hl : ls.length ≤ 17592186044416) :
    Calls Tryz.prog 150 #[.slice al ls.length cl] w fun e w' => e = .returned (.int .i64 (orL (ls.map mayC))) ∧ Below w.heap.size w w' := by
  have HL := Lib.hid L
  have HX := Lib.hid hx
  obtain ⟨n, hn⟩ : ∃ n, ls.length = n := ⟨_, rfl⟩
  have HN := Lib.hid hn
  obtain ⟨c, hc⟩ : ∃ c, orL (ls.map mayC) = c := ⟨_, rfl⟩
  have HC := Lib.hid hc
  rw [hc]
  rw [hn] at hl ⊢
  clear L hx hn hc
  go_enter Tryz.func150, Tryz.ntmps150
  go_wp2_with fail
  go_loopw [8] (fun i wi => ∃ k : Nat, i = .int .i64 (k : Int) ∧ k ≤ n ∧ Hid (orL ((ls.take k).map mayC) = 0) ∧ Below w.heap.size w wi) (fun i _ => n - (intOf i).toNat)
  case atStart => exact ⟨0, rfl, Nat.zero_le _, Lib.hid rfl, Below.refl _ _⟩
  case round =>
    rename World => wi
    obtain ⟨k, rfl, hk, hor, hbi⟩ := hrel
    by_cases hlt : k < n
    · have hltI : (k : Int) < (n : Int) := by omega
      have hk0 : (0 : Int) ≤ (k : Int) := by omega
      obtain ⟨b, o0, ax, cx, rfl, hbl, hcx, hAx, hnx⟩ := (HL.out.later hbi).at (i := k) (by rw [HN.out]; exact hlt)
      have hxl := HX.out _ (shp_in (by rw [HN.out]; exact hlt))
      have hms := mayS_any hAx hxl
      obtain ⟨q, hq⟩ : ∃ q, mayC (shpI ls k) = q := ⟨_, rfl⟩
      obtain ⟨lx, hlx⟩ : ∃ l, (shpI ls k).length = l := ⟨_, rfl⟩
      rw [hq] at hms
      rw [hlx] at hms hcx
      have HQ := Lib.hid hq
      have HMS := Lib.hid hms
      clear hq hlx hms hAx hxl
      go_wp2_with fail
      refine HMS.out.mono ?_
      rintro e w2 ⟨rfl, hb2⟩
      have hbE : Below w.heap.size w w2 := hbi.trans (hb2.mono hbi.size)
      clear hcx hb2
      by_cases hq0 : q = 0
      · subst hq0
        go_wp2_with fail
        go_roundw
        case rel => exact ⟨k + 1, by go_num, by omega, Lib.hid (by rw [may_next (by rw [HN.out]; exact hlt), orL_snoc0 hor.out, HQ.out]), hbE⟩
        case measure => simp [intOf]; omega
      · have hqI : (q != 0) = true := by simpa using hq0
        obtain rfl : c = q := by rw [← HC.out, may_stop (by rw [HN.out]; exact hlt) hor.out (by rw [HQ.out]; exact hq0), HQ.out]
        go_wp2_with fail
        (try rw [Exit.noGoto_ret])
        go_ret
        exact ⟨rfl, hbE⟩
    · obtain rfl : k = n := by omega
      obtain rfl : c = 0 := by
        rw [← HC.out, ← hor.out, List.take_of_length_le (by rw [HN.out]; exact Nat.le_refl _)]
      go_wp2_with fail
      go_ret
      exact ⟨rfl, hbi⟩
set_option maxRecDepth 100000 in
set_option maxHeartbeats 4000000 in
theorem mayAdd_any {o : Int} {xs : List Int} {ls : List (List Int)} {a2 al : Option Addr} {c2 cl : Nat} {w : World} (A : ArgS w (.slice a2 xs.length c2) xs a2 c2) (na : a2 = none → c2 = 0) (hx : xs.length ≤ 1000) (L : RowL w (.slice al ls.length cl) ls al cl) (ok : ∀ x ∈ ls, OkS x) (hl : ls.length ≤ 1000) {u : Value} {s : List Int} {sa : Option Addr} {sc : Nat} (S : ArgS w u s sa sc) (ns : sa = none → sc = 0) (hs : s.length ≤ 1000) (h3 : o = 19 → ls.length = 3) :
    Calls Tryz.prog 154 #[.agg #[.int .i64 o, .slice a2 xs.length c2, .slice al ls.length cl], u] w fun e w' => e = .returned (.int .i64 (addC o (shpI ls 2) s)) ∧ Below w.heap.size w w' := by
  have HS := Lib.hid S
  obtain rfl := S.is
  obtain ⟨c, hc⟩ : ∃ c : Int, addC o (shpI ls 2) s = c := ⟨_, rfl⟩
  rw [hc]
  have HC := Lib.hid hc
  have H3 := Lib.hid h3
  have HA := Lib.hid A
  have HL := Lib.hid L
  have HOK := Lib.hid ok
  obtain ⟨m, hm⟩ : ∃ m, xs.length = m := ⟨_, rfl⟩
  obtain ⟨k, hk⟩ : ∃ k, ls.length = k := ⟨_, rfl⟩
  have HM := Lib.hid hm
  have HK := Lib.hid hk
  rw [hm] at hx ⊢
  rw [hk] at hl ⊢
  obtain ⟨W, hW⟩ : ∃ W, w.alloc (.cells #[.int .i64 o, .slice a2 m c2, .slice al k cl] 189) = W := ⟨_, rfl⟩
  have R0 : Row W w.heap.size 189 #[.int .i64 o, .slice a2 m c2, .slice al k cl] := by rw [← hW]; exact Row.new _ _ _
  have hbW : Below w.heap.size w W := by rw [← hW]; exact (Below.refl _ _).alloc (Nat.le_refl _) _
  obtain ⟨k0, k1, k2, _, _, _⟩ := R0.three
  clear A L ok hm hk hc S h3
  by_cases h : o = 19
  · subst h
    obtain rfl : k = 3 := by rw [← HK.out]; exact H3.out rfl
    obtain ⟨b, o0, ax, cx, rfl, hbl, hcx, hAx, hnx⟩ := (HL.out.later hbW).at (i := 2) (by rw [HK.out]; omega)
    have okx := HOK.out _ (shp_in (i := 2) (by rw [HK.out]; omega))
    have hf := fitsS_any hAx (HS.out.later hbW) hnx ns (by have := okx.rank; omega) (by omega)
    rw [show fitC (shpI ls 2) s = c from HC.out] at hf
    obtain ⟨lx, hlx⟩ : ∃ l, (shpI ls 2).length = l := ⟨_, rfl⟩
    rw [hlx] at hf hcx
    have HF := Lib.hid hf
    clear hf hAx okx hlx
    go_enter Tryz.func154, Tryz.ntmps154
    (try rw [hW])
    go_wp2_with fail
    (try rw [hW])
    clear hW
    refine HF.out.mono ?_
    rintro e w2 ⟨rfl, hb2⟩
    go_wp2_with fail
    go_ret
    exact ⟨rfl, hbW.trans (hb2.mono hbW.size)⟩
  · obtain rfl : c = 0 := by rw [← HC.out]; exact if_neg h
    have hI : (o != 19) = true := by simpa using h
    go_enter Tryz.func154, Tryz.ntmps154
    (try rw [hW])
    go_wp2_with fail
    go_ret
    exact ⟨rfl, hbW⟩
end
section
open Go.RowKit
set_option linter.unusedVariables false
set_option linter.unusedSimpArgs false
def letB (c : UInt8) : Bool := decide (97 ≤ c.toNat ∧ c.toNat ≤ 122)
def othB (c : UInt8) : Bool := decide (48 ≤ c.toNat ∧ c.toNat ≤ 57) || decide (c.toNat = 95)
def nmB (i : Nat) (c : UInt8) : Bool := letB c || (decide (i ≠ 0) && othB c)
def lettersB (l : List UInt8) (k : Nat) : Bool := decide (∀ i, i < k → nmB i (l.getD i 0) = true)
def plainB (l : List UInt8) : Bool := decide (1 ≤ l.length ∧ l.length ≤ 32) && lettersB l l.length
theorem lettersB_next {l : List UInt8} {k : Nat} (h : lettersB l k = true) (h2 : nmB k (l.getD k 0) = true) : lettersB l (k + 1) = true := by
  unfold lettersB at *
  simp only [decide_eq_true_eq] at *
  intro i hi
  by_cases e : i = k
  · rw [e]; exact h2
  · exact h i (by omega)
theorem lettersB_stop {l : List UInt8} {k n : Nat} (hk : k < n) (h2 : nmB k (l.getD k 0) = false) : lettersB l n = false := by
  unfold lettersB
  simp only [decide_eq_false_iff_not]
  intro h
  rw [h k hk] at h2
  cases h2
theorem lettersB_zero (l : List UInt8) : lettersB l 0 = true := by unfold lettersB; simp
/-- the name of a cotangent -/
def cotL (k : Nat) : List UInt8 := if k < 10 then [126, UInt8.ofNat (48 + k)] else [126, UInt8.ofNat (48 + k / 10), UInt8.ofNat (48 + k % 10)]
def cotB (l : List UInt8) : Bool := (List.range 64).any fun k => decide (l = cotL k)
theorem cotB_iff {l : List UInt8} : cotB l = true ↔ ∃ k, k < 64 ∧ l = cotL k := by
  unfold cotB
  rw [List.any_eq_true]
  simp only [List.mem_range, decide_eq_true_eq]
def cotBytes (k : Nat) : ByteArray := ⟨(cotL k).toArray⟩
abbrev nmL (s : ByteArray) : List UInt8 := s.data.toList
theorem nmL_inj {s t : ByteArray} (h : nmL s = nmL t) : s = t := by
  obtain ⟨⟨s⟩⟩ := s; obtain ⟨⟨t⟩⟩ := t
  simpa [nmL] using h
theorem nm_beq (s t : ByteArray) : (s.toList == t.toList) = decide (s = t) := by
  rw [ByteArray.toList_eq, ByteArray.toList_eq, Bool.eq_iff_iff]
  simp only [beq_iff_eq, decide_eq_true_eq]
  exact ⟨fun h => nmL_inj h, fun h => by rw [h]⟩
structure PoD where
  nm : ByteArray
  s : List Int
structure WeD where
  nm : ByteArray
  s : List Int
  q : List Q3
structure NoD where
  o : Int
  ys : List Int
  xs : List Int
structure BoD where
  ns : List NoD
  os : List Int
structure GrD where
  v : Int
  ps : List PoD
  ws : List WeD
  b : BoD
  hv : Bool
  vb : BoD
def noBo : BoD := ⟨[], []⟩
def noPo : PoD := ⟨⟨#[]⟩, []⟩
def noWe : WeD := ⟨⟨#[]⟩, [], []⟩
def ownB (ps : List PoD) : Bool := ps.any fun p => cotB (nmL p.nm)
/-- why an input may not be, behind those ahead of it -/
def hadP (ps : List PoD) (k : Nat) (s : ByteArray) : Bool := (ps.take k).any fun p => decide (p.nm = s)
def hadW (ws : List WeD) (k : Nat) (s : ByteArray) : Bool := (ws.take k).any fun p => decide (p.nm = s)
def portC (ps : List PoD) (i : Nat) : Int :=
  if ((plainB (nmL (ps.getD i noPo).nm) || cotB (nmL (ps.getD i noPo).nm)) && !hadP ps i (ps.getD i noPo).nm) = true then mayC (ps.getD i noPo).s else 15
def portsC (ps : List PoD) : Int := orL ((List.range ps.length).map (portC ps))
def isLongQ (q : Q3) : Bool := decide (32 < q.num.length ∨ 32 < q.den.length)
def longB (qs : List Q3) : Bool := qs.any isLongQ
def wgtC (ps : List PoD) (ws : List WeD) (i : Nat) : Int :=
  if (plainB (nmL (ws.getD i noWe).nm) && !hadP ps ps.length (ws.getD i noWe).nm && !hadW ws i (ws.getD i noWe).nm) = true then
    (if mayT (ws.getD i noWe).s (ws.getD i noWe).q ≠ 0 then mayT (ws.getD i noWe).s (ws.getD i noWe).q else if longB (ws.getD i noWe).q = true then 14 else 0) else 15
def wgtsC (ps : List PoD) (ws : List WeD) : Int := orL ((List.range ws.length).map (wgtC ps ws))
def mostP (ps : List PoD) : Nat := if ownB ps = true then 128 else 64
def mostN (ps : List PoD) : Nat := if ownB ps = true then 32768 else 1024
def headC (ps : List PoD) (ws : List WeD) : Int := if mostP ps < ps.length ∨ 64 < ws.length then 14 else if portsC ps ≠ 0 then portsC ps else wgtsC ps ws
def headS (ps : List PoD) (ws : List WeD) : List (List Int) := ps.map PoD.s ++ ws.map WeD.s
/-- one node -/
def refB (m : Nat) (ys : List Int) : Bool := ys.all fun y => decide (0 ≤ y ∧ y < (m : Int))
def argsI (f : List (List Int)) (ys : List Int) : List (List Int) := ys.map fun y => f.getD y.toNat []
def stepC (v : Int) (f : List (List Int)) (n : NoD) : Int :=
  if chkO v n.o n.ys.length n.xs ≠ 0 then chkO v n.o n.ys.length n.xs else if refB f.length n.ys = false then 12 else infC v n.o n.ys.length n.xs (argsI f n.ys)
def stepV (v : Int) (f : List (List Int)) (n : NoD) : List Int := infV v n.o n.ys.length n.xs (argsI f n.ys)
def nodesF (v : Int) : List (List Int) → List NoD → List (List Int)
  | f, [] => f
  | f, n :: r => nodesF v (f ++ [stepV v f n]) r
def nodesC (v : Int) : List (List Int) → List NoD → Int
  | _, [] => 0
  | f, n :: r => if stepC v f n ≠ 0 then stepC v f n else nodesC v (f ++ [stepV v f n]) r
theorem nodesF_snoc (v : Int) : ∀ (ns : List NoD) (f : List (List Int)) (n : NoD), nodesF v f (ns ++ [n]) = nodesF v f ns ++ [stepV v (nodesF v f ns) n]
  | [], f, n => rfl
  | m :: r, f, n => by simp only [List.cons_append, nodesF]; exact nodesF_snoc v r _ n
theorem nodesC_app (v : Int) : ∀ (a b : List NoD) (f : List (List Int)), nodesC v f (a ++ b) = if nodesC v f a ≠ 0 then nodesC v f a else nodesC v (nodesF v f a) b
  | [], b, f => by simp [nodesC, nodesF]
  | m :: r, b, f => by
    simp only [List.cons_append, nodesC, nodesF]
    split
    · simp [*]
    · exact nodesC_app v r b _
theorem nodesF_len (v : Int) : ∀ (ns : List NoD) (f : List (List Int)), (nodesF v f ns).length = f.length + ns.length
  | [], f => by simp [nodesF]
  | m :: r, f => by simp only [nodesF, nodesF_len v r, List.length_append, List.length_cons, List.length_nil]; omega
theorem take_nextN {α : Type} {l : List α} {k : Nat} {x : α} (h : l[k]? = some x) : l.take (k + 1) = l.take k ++ [x] := by
  rw [List.take_add_one, h]; rfl
theorem nodes_next {v : Int} {f : List (List Int)} {ns : List NoD} {k : Nat} {n : NoD} (h : ns[k]? = some n) (h0 : nodesC v f (ns.take k) = 0) (h1 : stepC v (nodesF v f (ns.take k)) n = 0) :
    nodesC v f (ns.take (k + 1)) = 0 ∧ nodesF v f (ns.take (k + 1)) = nodesF v f (ns.take k) ++ [stepV v (nodesF v f (ns.take k)) n] := by
  rw [take_nextN h, nodesC_app, if_neg (by rw [h0]; simp), nodesF_snoc]
  refine ⟨?_, rfl⟩
  simp [nodesC, h1]
theorem nodes_stop {v : Int} {f : List (List Int)} {ns : List NoD} {k : Nat} {n : NoD} (h : ns[k]? = some n) (h0 : nodesC v f (ns.take k) = 0) (h1 : stepC v (nodesF v f (ns.take k)) n ≠ 0) :
    nodesC v f ns = stepC v (nodesF v f (ns.take k)) n := by
  have e : ns = ns.take k ++ (n :: ns.drop (k + 1)) := by
    have hk : k < ns.length := by
      rcases Nat.lt_or_ge k ns.length with g | g
      · exact g
      · rw [List.getElem?_eq_none g] at h; cases h
    rw [List.getElem?_eq_getElem hk] at h
    simp only [Option.some.injEq] at h
    rw [← h, List.getElem_cons_drop, List.take_append_drop]
  generalize hg : nodesF v f (ns.take k) = g at h1 ⊢
  rw [e, nodesC_app, if_neg (by rw [h0]; simp), hg]
  simp only [nodesC]
  rw [if_pos h1]
def outsC (m : Nat) (os : List Int) : Int := if 64 < os.length then 14 else if refB m os = true then 0 else 12
def bodyC (lim : Nat) (v : Int) (f : List (List Int)) (b : BoD) : Int :=
  if lim < b.ns.length then 14 else if nodesC v f b.ns ≠ 0 then nodesC v f b.ns else outsC (f.length + b.ns.length) b.os
def verC (v : Int) : Int := if 1 ≤ v ∧ v ≤ 3 then 0 else 8
/-- a graph without its VJP -/
def fwdC (g : GrD) : Int := if verC g.v ≠ 0 then 8 else if headC g.ps g.ws ≠ 0 then headC g.ps g.ws else bodyC (mostN g.ps) g.v (headS g.ps g.ws) g.b
def fwdF (g : GrD) : List (List Int) := nodesF g.v (headS g.ps g.ws) g.b.ns
def cotsP (l : List (List Int)) (os : List Int) : List PoD := (List.range os.length).map fun k => ⟨cotBytes k, l.getD (os.getD k 0).toNat []⟩
/-- the VJP's own graph -/
def ownD (g : GrD) : GrD := ⟨3, g.ps ++ cotsP (fwdF g) g.b.os, g.ws, g.vb, false, noBo⟩
def outS (g : GrD) : List (List Int) := argsI (fwdF g) g.b.os
def vjpC (g : GrD) : Int :=
  if g.hv = false then (if g.vb.ns.length = 0 ∧ g.vb.os.length = 0 then 0 else 16)
  else if g.v = 3 ∧ ownB g.ps = false ∧ fwdC (ownD g) = 0 ∧ outS (ownD g) = g.ps.map PoD.s then 0 else 16
def chkG (g : GrD) : Int := if fwdC g ≠ 0 then fwdC g else vjpC g
def shpG (g : GrD) : List (List Int) := if chkG g = 0 then fwdF g else []
end
end Go.Proofs.YtjgiacghlkkjfaaGreatDoor
