/-
  Layer 9's laws of several tensors: a row of tensors, as it came in.
-/
import Derived.Test.YtooglnhlhgmhdaaGreatZ28
import Derived.Deep.Slices
import Derived.Lib.SmallJoins
namespace Go.Proofs.YtooglnhlhgmhdaaGreat
open Go.RowKit Go.ChangeShapes Go.WideShapes Go.ChangeAt Go.Joins Go.Deep
set_option linter.unusedVariables false
set_option linter.unusedSimpArgs false
set_option maxRecDepth 100000

/-- a tensor of a row: its shape, its elements -/
structure X2 where
  s : List Int
  q : List Q3
def RowT (w : World) (v : Value) (xs : List X2) (ad : Option Addr) (cap : Nat) : Prop := v = .slice ad xs.length cap ∧ xs.length ≤ cap ∧ (xs = [] ∨ ∃ b o, ad = some ⟨b, o, none⟩ ∧ ∀ (i : Nat) (x : X2), xs[i]? = some x →
  ∃ (a e : Option Addr) (ca ce : Nat), w.cell? ⟨b, o + i * 2, none⟩ = some (.slice a x.s.length ca) ∧ w.cell? ⟨b, o + i * 2 + 1, none⟩ = some (.slice e x.q.length ce) ∧ TensQ w (.agg #[.slice a x.s.length ca, .slice e x.q.length ce]) x.s x.q a ca e ce)
theorem RowT.is {w : World} {v : Value} {xs : List X2} {ad : Option Addr} {cap : Nat} (h : RowT w v xs ad cap) : v = .slice ad xs.length cap := h.1
theorem RowT.later {w w' : World} {v : Value} {xs : List X2} {ad : Option Addr} {cap : Nat} (h : RowT w v xs ad cap) (hb : Below w.heap.size w w') : RowT w' v xs ad cap := by
  obtain ⟨h1, h2, h3⟩ := h
  refine ⟨h1, h2, h3.imp id ?_⟩
  rintro ⟨b, o, e, hx⟩
  refine ⟨b, o, e, fun i x hi => ?_⟩
  obtain ⟨a, e', ca, ce, c0, c1, T⟩ := hx i x hi
  exact ⟨a, e', ca, ce, (hb.cell (World.block_lt_of_cell? _ _ c0)).trans c0, (hb.cell (World.block_lt_of_cell? _ _ c1)).trans c1, T.later hb⟩
theorem RowT.at {w : World} {v : Value} {xs : List X2} {ad : Option Addr} {cap i : Nat} {x : X2} (h : RowT w v xs ad cap) (hi : xs[i]? = some x) : ∃ b o, ad = some ⟨b, o, none⟩ ∧ b < w.heap.size ∧
    ∃ (a e : Option Addr) (ca ce : Nat), w.cell? ⟨b, o + i * 2, none⟩ = some (.slice a x.s.length ca) ∧ w.cell? ⟨b, o + i * 2 + 1, none⟩ = some (.slice e x.q.length ce) ∧ TensQ w (.agg #[.slice a x.s.length ca, .slice e x.q.length ce]) x.s x.q a ca e ce := by
  rcases h.2.2 with rfl | ⟨b, o, e, hx⟩
  · simp at hi
  · have hc := hx i x hi
    obtain ⟨_, _, _, _, c0, _, _⟩ := id hc
    exact ⟨b, o, e, World.block_lt_of_cell? w _ c0, hc⟩
def sizeX (x : X2) : Nat := x.s.length + sizeQs x.q + 1
def sizeXs : List X2 → Nat
  | [] => 0
  | x :: l => sizeX x + sizeXs l
theorem sizeXs_mem {l : List X2} {x : X2} (h : x ∈ l) : sizeX x ≤ sizeXs l := by
  induction l with
  | nil => cases h
  | cons p l ih =>
    simp only [sizeXs]
    rcases List.mem_cons.1 h with rfl | h
    · omega
    · have := ih h; omega
theorem sizeXs_len (l : List X2) : l.length ≤ sizeXs l := by
  induction l with
  | nil => exact Nat.le_refl _
  | cons p l ih => simp only [sizeXs, sizeX, List.length_cons]; omega
theorem sizeXs_range {H : Type} (F : Nat → X2) (D : Nat → DataW H) (n : Nat) (h : ∀ i, i < n → sizeX (F i) ≤ Rows.uptoBulk (D i)) : sizeXs ((List.range n).map F) ≤ Rows.uptoBulkAll ((List.range n).map D) := by
  suffices hs : ∀ l : List Nat, (∀ i ∈ l, sizeX (F i) ≤ Rows.uptoBulk (D i)) → sizeXs (l.map F) ≤ Rows.uptoBulkAll (l.map D) from hs _ (fun i hi => h i (List.mem_range.1 hi))
  intro l
  induction l with
  | nil => intro _; simp [sizeXs]
  | cons a l ih =>
    intro hl
    have h1 := hl a (List.mem_cons_self ..)
    have h2 := ih (fun i hi => hl i (List.mem_cons_of_mem _ hi))
    simp only [List.map_cons, sizeXs, Rows.uptoBulkAll]
    omega
theorem cellsTens9 : Tryz.prog.cellsOf 26 = 2 := by kernel_rfl
/-- a row of tensors, as it came in -/
theorem open_tens {H : Type} {enc : TypeId × Value → H} {W : World} {v : Value} {y : DataW H × List MemPlace} {fuel : Nat}
    (hf : DataW.trod enc Tryz.prog W 0 (fun _ => true) true fuel 43 [v] = some y) : ∃ (ad : Option Addr) (xs : List X2) (cap : Nat), RowT W v xs ad cap ∧ (ad = none → cap = 0) ∧ sizeXs xs + 1 ≤ Rows.uptoBulk y.1 := by
  rcases open_slice Tryz.underlying43 hf with ⟨hcs, hx⟩ | ⟨a, len, cap, m, n, D, Pl, hcs, hb, hl, hm, hmm, hx, hi⟩
  · simp only [List.cons.injEq, and_true] at hcs
    subst hcs
    exact ⟨none, [], 0, ⟨rfl, Nat.le_refl _, .inl rfl⟩, fun _ => rfl, by have := bulk_pos y.1; simpa [sizeXs] using this⟩
  · simp only [List.cons.injEq, and_true] at hcs
    subst hcs
    subst hx
    simp only [if_true] at hmm
    rw [cellsTens9] at hi
    have hel : ∀ i, i < len → ∃ (x : X2) (u z : Value), W.cell? (a.add (i * 2)) = some u ∧ W.cell? ((a.add (i * 2)).add 1) = some z ∧ (∃ (a' e' : Option Addr) (ca ce : Nat), u = .slice a' x.s.length ca ∧ z = .slice e' x.q.length ce ∧ TensQ W (.agg #[.slice a' x.s.length ca, .slice e' x.q.length ce]) x.s x.q a' ca e' ce) ∧ sizeX x ≤ Rows.uptoBulk (D i) := fun i hlt => by
      obtain ⟨cs', hc, ht⟩ := hi i (by omega)
      obtain ⟨_, hcl, hat⟩ := World.cells?_some hc
      obtain ⟨xs, n', _, hy, hlen, hyl, hfd⟩ := DataW.trod_struct Tryz.underlying26 ht
      have hc2 : cs'.length = 2 := hcl
      match cs', hc2 with
      | [c0, c1], _ =>
        match xs, (show xs.length = 2 from hyl) with
        | [y0, y1], _ =>
          have h0 := hfd 0 _ rfl
          have h1 := hfd 1 _ rfl
          have g0 : DataW.trod enc Tryz.prog W 0 (fun _ => true) true n' 23 [c0] = some y0 := h0
          have g1 : DataW.trod enc Tryz.prog W 0 (fun _ => true) true n' 24 [c1] = some y1 := h1
          obtain ⟨ad, s, ca, rfl, A, l1, n1⟩ := open_intsB Tryz.underlying23 g0
          obtain ⟨bd, qs, cb, rfl, B, n2, l2⟩ := open_rats g1
          have p0 := hat 0 (by omega)
          have p1 := hat 1 (by omega)
          rw [show ∀ p : Addr, p.add 0 = p from fun p => by cases p; rename_i b o path; cases path <;> simp [Addr.add]] at p0
          refine ⟨⟨s, qs⟩, _, _, p0, p1, ⟨ad, bd, ca, cb, rfl, rfl, ⟨rfl, A, n1, B, n2⟩⟩, ?_⟩
          have hD : D i = .agg ([y0, y1].map (·.1)) := by simpa using congrArg Prod.fst hy
          rw [hD]
          simp only [List.map_cons, List.map_nil, Rows.uptoBulk, Rows.uptoBulkAll, sizeX]
          omega
    have hel2 : ∀ i, ∃ (x : X2), i < len → ∃ (u z : Value), W.cell? (a.add (i * 2)) = some u ∧ W.cell? ((a.add (i * 2)).add 1) = some z ∧ (∃ (a' e' : Option Addr) (ca ce : Nat), u = .slice a' x.s.length ca ∧ z = .slice e' x.q.length ce ∧ TensQ W (.agg #[.slice a' x.s.length ca, .slice e' x.q.length ce]) x.s x.q a' ca e' ce) ∧ sizeX x ≤ Rows.uptoBulk (D i) := fun i => by
      by_cases h : i < len
      · obtain ⟨x, h'⟩ := hel i h
        exact ⟨x, fun _ => h'⟩
      · exact ⟨⟨[], []⟩, fun h' => absurd h' h⟩
    obtain ⟨F, hF⟩ := Classical.axiomOfChoice hel2
    have hlq : ((List.range len).map F).length = len := by simp
    refine ⟨some a, (List.range len).map F, cap, ⟨by rw [hlq], by rw [hlq]; exact hl, ?_⟩, (by intro e; cases e), ?_⟩
    · by_cases h0 : len = 0
      · exact .inl (by rw [h0]; rfl)
      · have hp : ∃ b o, a = ⟨b, o, none⟩ := by
          obtain ⟨_, _, h1, _⟩ := hF 0 (by omega)
          obtain ⟨b, off, spot⟩ := a
          have hspot : spot = none := by simpa [Addr.add] using World.cell?_spot h1
          subst hspot
          exact ⟨b, off, rfl⟩
        obtain ⟨b, o, rfl⟩ := hp
        refine .inr ⟨b, o, rfl, fun i x he => ?_⟩
        have hlt : i < len := by
          rcases Nat.lt_or_ge i len with g | g
          · exact g
          · rw [List.getElem?_eq_none (by simpa using g)] at he; cases he
        rw [List.getElem?_map, List.getElem?_range hlt] at he
        simp only [Option.map_some, Option.some.injEq] at he
        subst he
        obtain ⟨u, z, h1, h2, ⟨a', e', ca, ce, rfl, rfl, T⟩, _⟩ := hF i hlt
        rw [add_plain] at h1 h2
        rw [add_plain] at h2
        exact ⟨a', e', ca, ce, h1, h2, T⟩
    · have h1 := sizeXs_range F D len (fun i hi => by obtain ⟨_, _, _, _, _, h⟩ := hF i hi; exact h)
      simp only [Rows.uptoBulk]
      omega
theorem open_tensL {H : Type} {enc : TypeId × Value → H} {W : World} {v : Value} {d : DataW H} {p : List MemPlace}
    (hv : ∃ ad n cap, v = .slice ad n cap) (h : DataW.Trod enc Tryz.prog W 0 (fun _ => true) true 43 v d p) :
    ∃ (ad : Option Addr) (xs : List X2) (cap : Nat), RowT W v xs ad cap ∧ (ad = none → cap = 0) ∧ sizeXs xs + 1 ≤ Rows.uptoBulk d := by
  obtain ⟨ad, n, cap, rfl⟩ := hv
  obtain ⟨fuel, hf⟩ := h
  simp only [Value.cells] at hf
  obtain ⟨a, xs, c, A, l, m⟩ := open_tens hf
  exact ⟨a, xs, c, A, l, m⟩
theorem sizeXs_lens {xs : List X2} {n : Nat} (h : sizeXs xs ≤ n) : ∀ x ∈ xs, x.s.length ≤ n ∧ x.q.length ≤ n ∧ lensQ x.q n := fun x hx => by
  have h1 := sizeXs_mem hx
  have h2 := sizeQs_len x.q
  unfold sizeX at h1
  exact ⟨by omega, by omega, lensQ.of (by omega)⟩
end Go.Proofs.YtooglnhlhgmhdaaGreat
