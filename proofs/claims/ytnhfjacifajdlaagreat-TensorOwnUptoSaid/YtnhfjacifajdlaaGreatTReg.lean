/-
  Layer 7's laws: the world behind a store of a tensor; what Dot and Full answer, as one fact; append(nil, ..) in a region that draws its order.
-/
import Derived.Test.YtnhfjacifajdlaaGreatTLaw
namespace Go.Proofs.YtnhfjacifajdlaaGreat
open Go.RowKit Go.ChangeShapes Go.WideShapes Go.ChangeAt Go.Joins Go.Deep
set_option linter.unusedVariables false
set_option linter.unusedSimpArgs false

set_option maxRecDepth 100000
theorem afterSet2 {K : World → Prop} {V : World} {g : Nat} {t : TypeId} {a b x y : Value} (R : Row V g t #[a, b]) (h : ∀ X, Only g V X → Row X g t #[x, y] → K X) :
    K ((V.setCell ⟨g, 0, none⟩ x).setCell ⟨g, 1, none⟩ y) :=
  h _ ((Only.set V g 0 x).trans (Only.set _ g 1 y)) (R.set2 x y)
/-- what Dot answers -/
def DotQ (base : Nat) (w : World) (r : Value) (x : Rat) (n : Nat) (c : Int) : Prop := (c = 0 → ResQ base w r x n) ∧ (c ≠ 0 → r = noRat)
theorem DotQ.later {base n : Nat} {w w' : World} {r : Value} {x : Rat} {c : Int} (h : DotQ base w r x n c) (hb : Below w.heap.size w w') : DotQ base w' r x n c := ⟨fun k => (h.1 k).later hb, h.2⟩
theorem DotQ.only {base n g : Nat} {w w' : World} {r : Value} {x : Rat} {c : Int} {cs : Array Value} (h : DotQ base w r x n c) (R : Row w g 44 cs) (k : Only g w w') : DotQ base w' r x n c := ⟨fun e => (h.1 e).only R k, h.2⟩
theorem DotQ.shape {base n : Nat} {w : World} {r : Value} {x : Rat} {c : Int} (h : DotQ base w r x n c) : ∃ m f1 l1 j1 f2 l2 j2, r = .agg #[.bool m, .slice f1 l1 j1, .slice f2 l2 j2] ∧ (c ≠ 0 → l1 = 0 ∧ l2 = 0) := by
  by_cases hc : c = 0
  · obtain ⟨m, a, b, d, e, f, g, rfl⟩ := (h.1 hc).shape
    exact ⟨m, a, b, d, e, f, g, rfl, fun k => absurd hc k⟩
  · exact ⟨_, _, _, _, _, _, _, h.2 hc, fun _ => ⟨rfl, rfl⟩⟩
/-- what Full and Make answer -/
def TenC (base : Nat) (w : World) (r : Value) (s : List Int) (L : List Rat) (n : Nat) (c : Int) : Prop := (c = 0 → ResT base w r s L n) ∧ (c ≠ 0 → r = noTensor)
theorem TenC.later {base n : Nat} {w w' : World} {r : Value} {s : List Int} {L : List Rat} {c : Int} (h : TenC base w r s L n c) (hb : Below w.heap.size w w') : TenC base w' r s L n c := ⟨fun k => (h.1 k).later hb, h.2⟩
theorem TenC.only {base n g : Nat} {w w' : World} {r : Value} {s : List Int} {L : List Rat} {c : Int} {cs : Array Value} (h : TenC base w r s L n c) (R : Row w g 26 cs) (k : Only g w w') : TenC base w' r s L n c := ⟨fun e => (h.1 e).far R (by decide) (by decide) (by decide) k.block, h.2⟩
theorem TenC.shape {base n : Nat} {w : World} {r : Value} {s : List Int} {L : List Rat} {c : Int} (h : TenC base w r s L n c) : ∃ f1 l1 j1 f2 l2 j2, r = .agg #[.slice f1 l1 j1, .slice f2 l2 j2] ∧ (c ≠ 0 → l1 = 0 ∧ l2 = 0) := by
  by_cases hc : c = 0
  · obtain ⟨a, b, d, e, rfl, _, _⟩ := h.1 hc
    exact ⟨_, _, _, _, _, _, rfl, fun k => absurd hc k⟩
  · exact ⟨_, _, _, _, _, _, h.2 hc, fun _ => ⟨rfl, rfl⟩⟩
/-- a rational number, as it came in: it is no longer than its bulk -/
theorem open_ratQ {H : Type} {enc : TypeId × Value → H} {W : World} {v : Value} {d : DataW H} {p : List MemPlace} {base : Nat}
    (hval : Value.okWide Tryz.prog W .any base 44 v) (h : DataW.Trod enc Tryz.prog W 0 (fun _ => true) true 44 v d p) : ∃ q : Q3, RawQ W v q ∧ sizeQ q ≤ Rows.uptoBulk d := by
  obtain ⟨v0, v1, v2, y0, y1, y2, n, rfl, rfl, rfl, h0, h1, h2⟩ := open_agg3 Tryz.underlying44 (by kernel_rfl) cellsRat hval h
  obtain ⟨b, hb, _⟩ := DataW.trod_bool Tryz.underlying4 h0
  simp at hb
  subst hb
  obtain ⟨ad, xs, ca, rfl, A, lx, nx⟩ := open_natB h1
  obtain ⟨bd, ys, cb, rfl, B, ly, ny⟩ := open_natB h2
  refine ⟨⟨b, xs, ys⟩, ⟨ad, bd, ca, cb, rfl, A, B, nx, ny⟩, ?_⟩
  simp only [Rows.uptoBulk, Rows.uptoBulkAll, sizeQ]
  omega
/-- append(nil, s...) in a region that draws its order -/
theorem step_copyK {ops : Array Oper} {o : Oper} {a : Act} {w : World} {K : Act → World → Prop} {Q : Exit → Act → World → Prop} {E : Prop} (hg : o.guard = none) (t : Nat) (T : TypeId) (hT : Tryz.prog.underlying T = some (.slice 3))
    (hop : o.op = Op.call { callee := Callee.builtin Builtin.append, args := #[Operand.const (.slice none 0 0), Operand.tmp t], argTypes := #[T, T] }) {xs : List Int} {ad : Option Addr} {cap : Nat} {u : Value} (hx : a.eval (.tmp t) = u)
    (hA : ArgS w u xs ad cap) (hn : ad = none → cap = 0) (hl : xs.length ≤ 17592186044416)
    (h : ∀ v' w1, ResS w.heap.size w1 v' xs → Below w.heap.size w w1 → K (a.put o.dst v') w1) :
    if Region.wanted o (yielded ops a.tmps) = true then Oper.wp Tryz.prog o a w K Q else E := by
  rw [if_pos (by simp [Region.wanted, hg])]
  obtain ⟨i0, hi, hz0, hz1, hz2⟩ := info_parts infoS
  have hnil := World.ownsRow_nil w w.heap.size 3 1
  have hs : a.eval (.const (.slice none 0 0)) = .slice none 0 0 := rfl
  obtain ⟨rfl, lx, hle, wx⟩ := hA
  cases ad with
  | none =>
    have hc := hn rfl
    subst hc
    have hxs : xs = [] := List.eq_nil_of_length_eq_zero (by omega)
    subst hxs
    have hrun := run_append_owned_none (P := Tryz.prog) w w.heap.size T o.type 3 i0 1 hT hi (.slice none 0 0) 0 [] hnil
    unfold Oper.wp
    simp [execOp, hop, resolve, invoke, builtin, hs, hx, hrun, Result.andThen]
    exact h _ _ ⟨hnil, wx⟩ (Below.refl _ _)
  | some ad =>
    obtain ⟨v', w', hr, hown, hgrow, _⟩ := run_append_own (P := Tryz.prog) w w.heap.size T o.type 3 i0 (.int .i64 0) 1 8 hT hi hz0 hz1 hz2 rfl (by decide) (.slice none 0 0) 0 [] hnil ad xs.length cap (xs.map (Value.int .i64)) (by simp) (cells_argS (cap := cap) lx) (ints_oneCell _ _) (by unfold maxLen; omega) (by omega) (Nat.le_refl _)
    unfold Oper.wp
    simp [execOp, hop, resolve, invoke, builtin, hs, hx, hr, Result.andThen]
    refine h v' w' ⟨?_, wx⟩ ((Below.refl _ w).grown hgrow (Nat.le_refl _) (fun k hk => by cases hk))
    unfold NumS
    simpa using hown
end Go.Proofs.YtnhfjacifajdlaaGreat
