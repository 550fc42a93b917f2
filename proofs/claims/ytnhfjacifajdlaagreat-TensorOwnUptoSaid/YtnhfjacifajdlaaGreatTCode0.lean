/-
  Package tensor as it landed: what its walks share; its iterators (all, beside).
-/
import Derived.RangeFuncNested
import Derived.RangeFuncBound
import Derived.RangeFuncCalls
import Derived.RangeFuncLeaves
import Derived.RangeFuncBox
import Derived.RangeFuncFrom
import Derived.Shelf.Abstract
import Derived.OwnWalkIn
import Derived.TacticsInMore
import Derived.LoopNIn
import Derived.LoopIn
import Derived.Laws.EntriesVeiled
import Derived.Test.YtnhfjacifajdlaaGreatC5
import Derived.Test.YtnhfjacifajdlaaGreatTDef
namespace Go.Proofs.YtnhfjacifajdlaaGreat
open Go.RowKit Go.Shelf
attribute [local go_sem] Oper.semAt_some
set_option linter.unusedVariables false
set_option linter.unusedSimpArgs false

/-- a region of wpAnyL, inside a round -/
theorem region_roundL {l n id : Nat} {P : Program} {ops : Array Oper} {Q : Exit → Act → World → Prop} {a : Act} {w : World} (S : World → Prop) (z : Nat) (hm : P.follows .mixedOrders = true) (hnd : noDefer ops = true) (hLO : ¬ LetsOut Q)
    (hS : S w.drew) (h : S w.drew → wpAnyL P .any ops Q S z ops.size (Array.replicate ops.size false) a w.drew) : (Code.region id ops true).wpIn (Fence.wide.inRound l) n P Q a w :=
  wpIn_region_any hm (wpAnyIn_of_round hnd hLO _ _ _ _ (wpAny_of_L _ _ _ _ (h hS)))
/-- all blocks of cells are as they were -/
def KeepC (W W' : World) : Prop := ∀ (k : Nat) (cur : Array Value) (t : TypeId) (fr : Nat × Nat), W.heap[k]? = some (Obj.cells cur t fr) → W'.heap[k]? = W.heap[k]?
theorem KeepC.below {W W' : World} (h : Below W.heap.size W W') : KeepC W W' := fun k _ _ _ e => h.block k (lt_of_block e)
theorem KeepC.grown {W W' : World} {row : Option Nat} (hg : W.grownBy W' row) (hr : ∀ r, row = some r → ∃ o : Obj, W.heap[r]? = some o ∧ o.isCells = false) : KeepC W W' := fun k cur t fr e =>
  hg.block k (lt_of_block e) fun e2 => by
    obtain ⟨o, ho, hc⟩ := hr k e2.symm
    rw [e] at ho
    cases ho
    cases hc
theorem keepC_row {W W' : World} {base size n : Nat} {T : TypeId} {v : Value} {xs : List Value} (k : KeepC W W') (h : W.ownsRow base T size v n xs) : W'.ownsRow base T size v n xs := by
  obtain ⟨h1, h2⟩ := h
  refine ⟨h1, ?_⟩
  rcases h2 with h2 | ⟨g, cap, cur, rfl, hg0, hh, hrest⟩
  · exact .inl h2
  · exact .inr ⟨g, cap, cur, rfl, hg0, (k _ _ _ _ hh).trans hh, hrest⟩
theorem Boxed.keepC {W W' : World} {B : Nat} {t : TypeId} {v : Value} (h : Boxed W B t v) (k : KeepC W W') : Boxed W' B t v := (k _ _ _ _ h).trans h
theorem Row.keepC {W W' : World} {B : Nat} {t : TypeId} {cs : Array Value} (h : Row W B t cs) (k : KeepC W W') : Row W' B t cs := (k _ _ _ _ h).trans h
theorem OwnE.keepC {W W' : World} {base : Nat} {T : TypeId} {v : Value} {es : List E3} (h : OwnE base T W v es) (k : KeepC W W') : OwnE base T W' v es := keepC_row k h
theorem Num.keepC {W W' : World} {base : Nat} {v : Value} {xs : List Int} (h : Num base W v xs) (k : KeepC W W') : Num base W' v xs := keepC_row k h
theorem Res.keepC {W W' : World} {base : Nat} {v : Value} {xs : List Int} {m : Int} (h : Res base W v xs m) (k : KeepC W W') : Res base W' v xs m := ⟨h.num.keepC k, h.wf, h.full, h.eq⟩
theorem ResQ.keepC {W W' : World} {base n : Nat} {v : Value} {x : Rat} (h : ResQ base W v x n) (k : KeepC W W') : ResQ base W' v x n := by
  obtain ⟨zs, ys, ad, bd, ca, cb, rfl, A, B, h⟩ := h
  exact ⟨zs, ys, ad, bd, ca, cb, rfl, A.keepC k, B.keepC k, h⟩
theorem RawO.keepC {W W' : World} {base : Nat} {v : Value} {q : Q3} (h : RawO base W v q) (k : KeepC W W') : RawO base W' v q := by
  obtain ⟨ad, bd, ca, cb, rfl, A, B, h⟩ := h
  exact ⟨ad, bd, ca, cb, rfl, A.keepC k, B.keepC k, h⟩
/-- the block that an append may write to: of cells, if there is one -/
theorem ownV_hits {base size n : Nat} {T : TypeId} {w : World} {v : Value} {xs : List Value} (h : w.ownsRow base T size v n xs) (hb : base ≤ w.heap.size) :
    ∃ r, (v.ownBlock = none ∨ v.ownBlock = some r) ∧ base ≤ r ∧ (∀ g t cs, Row w g t cs → t ≠ T → g ≠ r) ∧ (∀ o, w.heap[r]? = some o → o.isCells = true) ∧ (v.ownBlock = some r ∨ r = w.heap.size) := by
  obtain ⟨_, h2⟩ := h
  rcases h2 with ⟨rfl, _⟩ | ⟨g, cap, cur, rfl, hg0, hh, hrest⟩
  · refine ⟨w.heap.size, .inl rfl, hb, fun g t cs R _ => by have := R.lt; omega, fun o ho => ?_, .inr rfl⟩
    have := lt_of_block ho
    omega
  · refine ⟨g, .inr rfl, hg0, fun k t cs R ht e => ?_, fun o ho => ?_, .inl rfl⟩
    · subst e
      have := hh.symm.trans R
      simp only [Option.some.injEq, Obj.cells.injEq] at this
      exact ht this.2.1.symm
    · rw [hh] at ho
      cases ho
      rfl
theorem keepsFrom_kept {r B : Nat} {W W' : World} (h : Kept r W W') (hr : ∀ o, W.heap[r]? = some o → o.isCells = true) : KeepsFrom B W W' := ⟨h.size, fun k o _ hk ho => by
  have hne : k ≠ r := fun e => by
    subst e
    rw [hr o hk] at ho
    cases ho
  exact (h.block k (lt_of_block hk) hne).trans hk⟩
theorem keepsFrom_set {B : Nat} {W W' : World} (h : KeepsFrom B W W') (p : Addr) (v : Value) : KeepsFrom B W (W'.setCell p v) := h.trans ((KeepsOthers.setCell W' p v).from B)
theorem keepsFrom_below {B : Nat} {W W' : World} (h : Below W.heap.size W W') : KeepsFrom B W W' := ⟨h.size, fun k o _ hk ho => (h.block k (lt_of_block hk)).trans hk⟩
theorem list_upto {α β : Type} (qs : List α) (f : α → β) (d : α) {N : Nat} (hN : qs.length = N) {ys : List (Fin N)} (h : Upto ys N) : ys.map (fun x => f (qs[x.val]?.getD d)) = qs.map f := by
  have h1 : ys.map (fun x => f (qs[x.val]?.getD d)) = (ys.map Fin.val).map (fun k => f (qs[k]?.getD d)) := by rw [List.map_map]; rfl
  rw [h1, show ys.map Fin.val = List.range N from h, ← hN]
  apply List.ext_getElem
  · simp
  · intro i h1 h2
    simp at h1 h2
    simp [h2]
theorem upto_last {N : Nat} {pre : List (Fin N)} {k : Nat} (h : Upto pre k) : k = pre.length := h.length.symm
def dfE : E3 := ⟨.bool false, .slice none 0 0, .slice none 0 0⟩
/-- what a round over structs is handed -/
def ratAt (es : List E3) {n : Nat} (x : Fin n) : Array Value := #[.agg #[(es[x.val]?.getD dfE).a, (es[x.val]?.getD dfE).b, (es[x.val]?.getD dfE).c]]
def ratsAt (es fs : List E3) {n : Nat} (x : Fin n) : Array Value := #[.agg #[(es[x.val]?.getD dfE).a, (es[x.val]?.getD dfE).b, (es[x.val]?.getD dfE).c], .agg #[(fs[x.val]?.getD dfE).a, (fs[x.val]?.getD dfE).b, (fs[x.val]?.getD dfE).c]]
def limbV (xs : List Int) {n : Nat} (x : Fin n) : Array Value := #[.int .u32 (xs[x.val]?.getD 0)]
def numV (xs : List Int) {n : Nat} (x : Fin n) : Array Value := #[.int .i64 (xs[x.val]?.getD 0)]
/-- where the structs of a slice lie: below n₀ -/
def LimE (w : World) (ad : Option Addr) (es : List E3) (n₀ : Nat) : Prop := es = [] ∨ ∃ b o, ad = some ⟨b, o, none⟩ ∧ CellsE w b o es ∧ b < n₀
theorem LimE.below {w w' : World} {ad : Option Addr} {es : List E3} {n₀ : Nat} (h : LimE w ad es n₀) (hb : Below n₀ w w') : LimE w' ad es n₀ := by
  rcases h with h | ⟨b, o, e, c, hl⟩
  · exact .inl h
  · refine .inr ⟨b, o, e, fun i d hd => ?_, hl⟩
    obtain ⟨h0, h1, h2⟩ := c i d hd
    exact ⟨(hb.cell (p := ⟨b, o + i * 3, none⟩) hl).trans h0, (hb.cell (p := ⟨b, o + i * 3 + 1, none⟩) hl).trans h1, (hb.cell (p := ⟨b, o + i * 3 + 2, none⟩) hl).trans h2⟩
theorem RowA.limE {α : Type} {P : World → Value → α → Prop} {w : World} {u : Value} {L : List α} {ad : Option Addr} {cap : Nat} (h : RowA P w u L ad cap) : ∃ es, LimE w ad es w.heap.size ∧ AllE (P w) es L := by
  rcases h.els with e | ⟨b, o, es, e, c, k⟩
  · subst e
    exact ⟨[], .inl rfl, AllE.nil _⟩
  · by_cases hn : es = []
    · exact ⟨es, .inl hn, k⟩
    · have hL : L ≠ [] := fun h => hn (List.eq_nil_of_length_eq_zero (by rw [k.1, h]; rfl))
      exact ⟨es, .inr ⟨b, o, e, c, h.low hL e⟩, k⟩
/-- the structs are of one bool and two slices -/
def ShE (es : List E3) : Prop := ∀ k, k < es.length → ∃ m a1 n1 c1 a2 n2 c2, es[k]?.getD dfE = ⟨.bool m, .slice a1 n1 c1, .slice a2 n2 c2⟩
theorem shE_of {α : Type} {P : Value → α → Prop} {es : List E3} {L : List α} (h : AllE P es L) (hP : ∀ v x, P v x → ∃ m a1 n1 c1 a2 n2 c2, v = .agg #[.bool m, .slice a1 n1 c1, .slice a2 n2 c2]) : ShE es := fun k hk => by
  obtain ⟨e, x, h1, h2, h3⟩ := h.at (i := k) (by rw [← h.1]; exact hk)
  obtain ⟨m, a1, n1, c1, a2, n2, c2, he⟩ := hP _ _ h3
  rw [h1]
  obtain ⟨p, q, r⟩ := e
  simp only [E3.agg, Value.agg.injEq, Array.mk.injEq, List.cons.injEq, and_true] at he
  obtain ⟨rfl, rfl, rfl⟩ := he
  exact ⟨m, a1, n1, c1, a2, n2, c2, rfl⟩
theorem RawQ.form {w : World} {v : Value} {q : Q3} (h : RawQ w v q) : ∃ m a1 n1 c1 a2 n2 c2, v = .agg #[.bool m, .slice a1 n1 c1, .slice a2 n2 c2] := by
  obtain ⟨_, _, _, _, rfl, _⟩ := h
  exact ⟨_, _, _, _, _, _, _, rfl⟩
theorem LimE.cells {w : World} {ad : Option Addr} {es : List E3} {n₀ : Nat} (h : LimE w ad es n₀) {k : Nat} (hk : k < es.length) : ∃ b o, ad = some ⟨b, o, none⟩ ∧ w.cell? ⟨b, o + k * 3, none⟩ = some (es[k]?.getD dfE).a ∧ w.cell? ⟨b, o + k * 3 + 1, none⟩ = some (es[k]?.getD dfE).b ∧ w.cell? ⟨b, o + k * 3 + 2, none⟩ = some (es[k]?.getD dfE).c := by
  rcases h with h | ⟨b, o, e, c, _⟩
  · subst h; simp at hk
  · have hx : es[k]? = some es[k] := List.getElem?_eq_getElem hk
    obtain ⟨h0, h1, h2⟩ := c k _ hx
    exact ⟨b, o, e, by rw [hx]; exact h0, by rw [hx]; exact h1, by rw [hx]; exact h2⟩

set_option maxRecDepth 100000 in
set_option maxHeartbeats 2000000 in
theorem allQ_in (n l Bs n₀ : Nat) (ad : Option Addr) (es : List E3) (cap : Nat) (hm : es.length ≤ 1000000000000) (hcap : es.length ≤ cap) (J Jx : List (Fin es.length) → World → Prop)
    (hJ : ∀ pre A B, J pre A → Below A.heap.size A B → J pre B)
    (hY : ∀ pre x W, J pre W → pre.length < es.length → YieldAt Fence.wide (n - 1) Tryz.prog l (ratAt es x) W fun e W' =>
      (e = .returned (.bool true) ∧ J (pre ++ [x]) W' ∧ Below n₀ W W') ∨ (e = .returned (.bool false) ∧ Jx (pre ++ [x]) W'))
    (W : World) (hn₀ : n₀ ≤ W.heap.size) (hBs : W.cell? ⟨Bs, 0, none⟩ = some (.slice ad es.length cap)) (hl : LimE W ad es n₀) (hsh : ShE es) (h0 : J [] W) :
    CallsIn Fence.wide n Tryz.prog 82 #[.func (.yield l) #[] #[], .pointer (some ⟨Bs, 0, none⟩)] W fun e W' => (∃ v, e = .returned v) ∧
      ((∃ ys, Upto ys es.length ∧ J ys W') ∨ (∃ pre, (∃ k, k ≤ es.length ∧ Upto pre k) ∧ Jx pre W')) := by
  refine callsIn_of_wp Tryz.func82 rfl trivial ?_ rfl
  simp only [Tryz.ntmps82, List.size_toArray, List.length_cons, List.length_nil, Nat.reduceAdd, Nat.reduceSub, Array.replicate_succ, Array.replicate_zero, List.push_toArray, List.append_toArray, List.nil_append, List.cons_append]
  gi_wp2_with fail
  gi_loopw [4, 7] (fun _ i wr => ∃ (k : Nat) (pre : List (Fin es.length)), k ≤ es.length ∧ i = .int .i64 k ∧ Upto pre k ∧ J pre wr ∧ Below n₀ W wr)
    (fun _ i _ => es.length - (intOf i).toNat)
  case atStart => exact ⟨0, [], Nat.zero_le _, rfl, rfl, h0, Below.refl _ _⟩
  case round =>
    obtain ⟨k, pre, hk, rfl, hup, hJs, hnx⟩ := hrel
    by_cases hlt : k < es.length
    · obtain ⟨b, o, rfl, c0, c1, c2⟩ := (hl.below hnx).cells hlt
      have hsz := hnx.size
      obtain ⟨W2, hW2⟩ : ∃ W2, wr.alloc (.cells #[(es[k]?.getD dfE).a, (es[k]?.getD dfE).b, (es[k]?.getD dfE).c] 44) = W2 := ⟨_, rfl⟩
      have hb2 : Below wr.heap.size wr W2 := by rw [← hW2]; exact (Below.refl _ _).alloc (Nat.le_refl _) _
      have R2 : Row W2 wr.heap.size 44 #[(es[k]?.getD dfE).a, (es[k]?.getD dfE).b, (es[k]?.getD dfE).c] := by rw [← hW2]; exact Row.new _ _ _
      obtain ⟨d0, d1, d2, _, _, _⟩ := R2.three
      obtain ⟨fn, tmps, assign, body, hy, hR⟩ := hY pre ⟨k, hlt⟩ W2 (hJ _ _ _ hJs hb2) (by rw [hup.length]; exact hlt)
      simp only [ratAt] at hy
      have hnx2 : Below n₀ W W2 := hnx.trans (hb2.mono (by omega))
      obtain ⟨z1, z2, z3, z4, z5, z6, z7, he⟩ := hsh k hlt
      rw [he] at hy c0 c1 c2 hW2 d0 d1 d2
      clear he R2
      have HJ := Lib.hid hJ
      have HY := Lib.hid hY
      clear hJ hY hl
      gi_wp2
      refine ⟨(fun h => by cases h), hR.mono ?_⟩
      rintro e W3 (⟨rfl, hJ3, hk3⟩ | ⟨rfl, hJx3⟩)
      · gi_wp2
        go_roundw
        case rel => exact ⟨k + 1, _, by omega, by go_num, hup.snoc hlt, hJ3, hnx2.trans hk3⟩
        case measure => simp [intOf]; omega
      · gi_wp2
        refine bodyPost_ret (results_none rfl _ _ _) rfl ?_
        exact ⟨⟨_, rfl⟩, .inr ⟨_, ⟨k + 1, by omega, hup.snoc hlt⟩, hJx3⟩⟩
    · obtain rfl : k = es.length := by omega
      gi_wp2
      go_end0
      exact ⟨⟨_, rfl⟩, .inl ⟨_, hup, hJs⟩⟩
end Go.Proofs.YtnhfjacifajdlaaGreat
