/-
  Layer 8's law PointField: two rows of numbers in the making; rows as arguments; the identities.
-/
import Derived.Test.YtjcacmnmbbnffaaGreatPKnown
import Derived.Deep.AppendLies
namespace Go.Proofs.YtjcacmnmbbnffaaGreat
open Go.RowKit
set_option linter.unusedVariables false
set_option linter.unusedSimpArgs false

theorem OwnE.hits8 {base : Nat} {T : TypeId} {w : World} {v : Value} {es : List E3} (h : OwnE base T w v es) (hb : base ≤ w.heap.size) : ∃ r, (v.ownBlock = none ∨ v.ownBlock = some r) ∧ base ≤ r ∧ (∀ g t cs, Row w g t cs → t ≠ T → g ≠ r) ∧ ∀ A, A < w.heap.size → v.ownBlock ≠ some A → A ≠ r := by
  have hlt := h.lt
  cases e : v.ownBlock with
  | none => exact ⟨w.heap.size, .inl rfl, hb, (fun g t cs R _ => by have := R.lt; omega), fun A hA _ => by omega⟩
  | some r =>
    refine ⟨r, .inr rfl, (hlt r e).1, (fun g t cs R ht he => ?_), fun A _ h2 he => h2 (by rw [he])⟩
    subst he
    obtain ⟨cur, hc⟩ := h.typed e
    have := hc.symm.trans R
    simp only [Option.some.injEq, Obj.cells.injEq] at this
    exact ht this.2.1.symm

/-- two rows of numbers in the making -/
def TwoW (base N : Nat) (w : World) (vy vz : Value) (Ly Lz : List Rat) : Prop :=
  RowO base 51 (fun W v x => ResQ base W v x N) w vy Ly ∧ RowO base 51 (fun W v x => ResQ base W v x N) w vz Lz ∧ ∀ g, vy.ownBlock = some g → vz.ownBlock ≠ some g
theorem TwoW.swap {base N : Nat} {w : World} {vy vz : Value} {Ly Lz : List Rat} (h : TwoW base N w vy vz Ly Lz) : TwoW base N w vz vy Lz Ly := ⟨h.2.1, h.1, fun g a b => h.2.2 g b a⟩
theorem TwoW.later {base N : Nat} {w w' : World} {vy vz : Value} {Ly Lz : List Rat} (h : TwoW base N w vy vz Ly Lz) (hb : Below w.heap.size w w') : TwoW base N w' vy vz Ly Lz :=
  ⟨h.1.later hb (fun v x k => k.later hb), h.2.1.later hb (fun v x k => k.later hb), h.2.2⟩
theorem TwoW.far {base N g : Nat} {t : TypeId} {cs : Array Value} {w w' : World} {vy vz : Value} {Ly Lz : List Rat} (h : TwoW base N w vy vz Ly Lz) (R : Row w g t cs) (h1 : t ≠ 51) (h2 : t ≠ 64) (hk : ∀ k, k ≠ g → w'.heap[k]? = w.heap[k]?) : TwoW base N w' vy vz Ly Lz :=
  ⟨h.1.far R h1 hk (fun v x k => k.far R h2 hk), h.2.1.far R h1 hk (fun v x k => k.far R h2 hk), h.2.2⟩
theorem TwoW.push {base N g cap : Nat} {X w1 : World} {o : Obj} {vy vz : Value} {Ly Lz : List Rat} {ey : List E3} {e : E3} {x : Rat} (h : TwoW base N X vy vz Ly Lz) (hown : OwnE base 51 X vy ey) (hall : AllE (fun u x => ResQ base X u x N) ey Ly)
    (hx : ResQ base X e.agg x N) (hown' : w1.ownsRow base 51 3 (.slice (some ⟨g, 0, none⟩) (ey.length + 1) cap) (ey.length + 1) (flat3 ey ++ [e.a, e.b, e.c])) (hgrow : (X.alloc o).grownBy w1 vy.ownBlock) (hg : vy.ownBlock = some g ∨ g = (X.alloc o).heap.size) (hbase : base ≤ X.heap.size) :
    TwoW base N w1 (.slice (some ⟨g, 0, none⟩) (ey.length + 1) cap) vz (Ly ++ [x]) Lz ∧ Below base X w1 := by
  obtain ⟨h1, hb1⟩ := pushE (P := fun W v x => ResQ base W v x N) (Below.refl base X) hbase hown hall hx (fun u y k => ResQ.apart hown hgrow (by decide) k) hown' hgrow
  refine ⟨⟨h1, ?_, ?_⟩, hb1⟩
  · obtain ⟨ez, hz, haz⟩ := h.2.1
    refine ⟨ez, hz.same fun k hk => ?_, haz.imp fun u y _ k => ResQ.apart hown hgrow (by decide) k⟩
    have hlt := (hz.lt k hk).2
    exact (hgrow.block k (by simp; omega) (fun e => h.2.2 k e.symm hk)).trans (Below.heap_alloc _ _ _ hlt)
  · intro g' e1 e2
    have e3 : g' = g := by simpa [Value.ownBlock] using e1.symm
    subst e3
    obtain ⟨ez, hz, _⟩ := h.2.1
    have hlt := (hz.lt g' e2).2
    rcases hg with hg | hg
    · exact h.2.2 g' hg e2
    · simp at hg; omega
/-- a row of results as an argument -/
theorem RowO.raws {base m n cb : Nat} {w : World} {b : Option Addr} {L : List Rat} (h : RowO base 51 (fun W v x => ResQ base W v x m) w (.slice b n cb) L) :
    ∃ qs : List Q3, n = qs.length ∧ RowA RawQ w (.slice b qs.length cb) qs b cb ∧ (b = none → cb = 0) ∧ qs.map Q3.rat = L ∧ lensQ qs m ∧ ∀ q ∈ qs, okQ q = true := by
  obtain ⟨hn, _, _⟩ := h.at_
  subst hn
  have hs : ResS base w (.slice none 0 0) [] := ⟨⟨rfl, .inl ⟨rfl, rfl⟩⟩, fun x hx => by cases hx⟩
  have R : ResT base w (.agg #[.slice none ([] : List Int).length 0, .slice b L.length cb]) [] L m := ⟨none, b, 0, cb, rfl, hs, h⟩
  obtain ⟨qs, a', b', ca', cb', T, e, l, k⟩ := R.tens
  have e2 := T.is
  simp only [Value.agg.injEq, Array.mk.injEq, List.cons.injEq, and_true, Value.slice.injEq] at e2
  obtain ⟨_, rfl, e3, rfl⟩ := e2
  exact ⟨qs, e3, T.el, T.nilb, e, l, k⟩
/-- the numbers of a row, in turn -/
def turnQ (qs : List Q3) (n : Nat) : List Rat := (List.range n).map fun k => ((qs[k % qs.length]?).map Q3.rat).getD 0
theorem turnQ_length (qs : List Q3) (n : Nat) : (turnQ qs n).length = n := by unfold turnQ; simp
theorem turnQ_next {qs : List Q3} {n k : Nat} {q : Q3} (hk : k < n) (h : qs[k % qs.length]? = some q) : (turnQ qs n).take (k + 1) = (turnQ qs n).take k ++ [q.rat] := by
  refine take_nextL ?_
  unfold turnQ
  rw [List.getElem?_map, List.getElem?_range hk]
  simp [h]
theorem zip_dist (A B C : List Rat) (hB : B.length = A.length) (hC : C.length = A.length) : List.zipWith (fun x y => x * y) (List.zipWith (fun x y => x + y) A B) C = List.zipWith (fun x y => x + y) (List.zipWith (fun x y => x * y) A C) (List.zipWith (fun x y => x * y) B C) := by
  induction A generalizing B C with
  | nil => rfl
  | cons a r ih =>
    cases B with
    | nil => cases hB
    | cons b r2 =>
      cases C with
      | nil => cases hC
      | cons c r3 =>
        simp only [List.zipWith_cons_cons]
        rw [ih r2 r3 (by simpa using hB) (by simpa using hC)]
        congr 1
        grind
theorem zip_back (A B : List Rat) (hB : B.length = A.length) : List.zipWith (fun x y => x - y) (List.zipWith (fun x y => x + y) A B) B = A := by
  induction A generalizing B with
  | nil => rfl
  | cons a r ih =>
    cases B with
    | nil => cases hB
    | cons b r2 =>
      simp only [List.zipWith_cons_cons]
      rw [ih r2 (by simpa using hB)]
      congr 1
      grind
theorem zip_over (A C : List Rat) (hC : C.length = A.length) (h0 : (0 : Rat) ∉ C) : List.zipWith (fun x y => x / y) (List.zipWith (fun x y => x * y) A C) C = A := by
  induction A generalizing C with
  | nil => rfl
  | cons a r ih =>
    cases C with
    | nil => cases hC
    | cons c r3 =>
      simp only [List.zipWith_cons_cons]
      have hc : c ≠ 0 := fun e => h0 (by rw [e]; exact List.mem_cons_self)
      rw [ih r3 (by simpa using hC) (fun h => h0 (List.mem_cons_of_mem _ h))]
      congr 1
      rw [Rat.mul_div_cancel hc]
theorem tensQ_len {w : World} {v : Value} {s : List Int} {qs : List Q3} {a b : Option Addr} {ca cb : Nat} (T : TensQ w v s qs a ca b cb) {L : List Rat} {n : Nat} (hL : qs.map Q3.rat = L) (hn : L.length = n) : qs.length = n := by rw [← hn, ← hL, List.length_map]
theorem same_true8 {s : List Int} {q1 q2 : List Q3} (h : q1.map Q3.rat = q2.map Q3.rat) : allBC (fun (p q : Q3) => decide (p.rat = q.rat)) s s q1 q2 = true := by
  refine allBC_yes rfl (by have := congrArg List.length h; simpa using this) fun k x y hx hy => ?_
  have e1 : (q1.map Q3.rat)[k]? = some x.rat := by rw [List.getElem?_map, hx]; rfl
  have e2 : (q2.map Q3.rat)[k]? = some y.rat := by rw [List.getElem?_map, hy]; rfl
  rw [h, e2] at e1
  simp only [Option.some.injEq] at e1
  exact decide_eq_true e1.symm
theorem sameQ_true8 {n : Nat} {w : World} {u v : Value} {s : List Int} {q1 q2 : List Q3} {a1 b1 a2 b2 : Option Addr} {ca1 cb1 ca2 cb2 : Nat} (T1 : TensQ w u s q1 a1 ca1 b1 cb1) (T2 : TensQ w v s q2 a2 ca2 b2 cb2) (hs : s.length ≤ 1048576) (hq1 : q1.length ≤ 1048576) (l1 : lensQ q1 n) (l2 : lensQ q2 n) (hn : n ≤ 4000000) (h : q1.map Q3.rat = q2.map Q3.rat) :
    Calls Tryz.prog 37 #[u, v] w fun e w' => e = .returned (.bool true) ∧ Below w.heap.size w w' := by
  have hl : q1.length = q2.length := by have := congrArg List.length h; simpa using this
  have k := sameT7_any T1 T2 hs hs hq1 (by omega) l1 l2 hn
  rwa [same_true8 h] at k
theorem lensQ.more8 {qs : List Q3} {n m : Nat} (h : lensQ qs n) (k : n ≤ m) : lensQ qs m := fun q hq => by have := h q hq; omega
theorem div_ok8 {q1 q2 : List Q3} (hl : q2.length = q1.length) : zipOk (fun _ y => decide (y ≠ 0)) q1 q2 = !decide ((0 : Rat) ∈ q2.map Q3.rat) := by
  by_cases h : (0 : Rat) ∈ q2.map Q3.rat
  · rw [decide_eq_true h]
    obtain ⟨i, hi, h0⟩ := List.mem_iff_getElem.1 h
    have j2 : i < q2.length := by simpa using hi
    refine zipOk_bad (k := i) (by omega) hl ?_
    simp at h0
    simp [j2, h0]
  · rw [decide_eq_false h, zipOk_eq rfl rfl]
    rw [show (!false) = true from rfl, List.all_eq_true]
    intro x hx
    obtain ⟨i, hi, rfl⟩ := List.mem_iff_getElem.1 hx
    simp only [List.length_zipWith] at hi
    have hne : (q2.map Q3.rat)[i] ≠ 0 := fun e => h (by rw [← e]; exact List.getElem_mem _)
    simp at hne
    simp [hne]
theorem twoC_true8 (c : Int) : twoC c true = c := by
  unfold twoC
  by_cases h : c = 0
  · simp [h]
  · simp [h]
theorem RowO.sl {α : Type} {base : Nat} {T : TypeId} {P : World → Value → α → Prop} {w : World} {v : Value} {L : List α} (h : RowO base T P w v L) : ∃ b n c, v = .slice b n c := by
  obtain ⟨es, h, _⟩ := h
  obtain ⟨a, c, e⟩ := ownT_slice h
  exact ⟨a, _, c, e⟩
theorem dotC_none {s : List Int} {q1 q2 : List Q3} (h1 : mayT s q1 = 0) (h2 : mayT s q2 = 0) : dotC s s q1 q2 = 0 := by
  have h := two_zero (ok := true) h1 h2 rfl
  rwa [twoC_true8] at h
end Go.Proofs.YtjcacmnmbbnffaaGreat
