/-
  Layer 7's laws: opening arguments: lists of numbers, tensors, under the bulk's bound.
-/
import Derived.Test.YtnhfjacifajdlaaGreatTKnown
import Derived.ProofKit
import Derived.OpenShut
import Derived.JoinedCond
import Derived.Carry
namespace Go.Proofs.YtnhfjacifajdlaaGreat
open Go.RowKit Go.ChangeShapes Go.WideShapes Go.ChangeAt
set_option linter.unusedVariables false
set_option linter.unusedSimpArgs false
set_option maxRecDepth 100000

theorem bulkT_in {H : Type} {ds : List (DataW H)} {d : DataW H} (hd : d ∈ ds) (hk : Rows.uptoSmall H ds = true) : Rows.uptoBulk d ≤ 1048576 := by
  have h : Rows.uptoBulkAll ds ≤ 1048576 := of_decide_eq_true hk
  refine Nat.le_trans ?_ h
  clear h hk
  induction ds with
  | nil => cases hd
  | cons x r ih =>
    simp only [Rows.uptoBulkAll]
    rcases List.mem_cons.mp hd with rfl | hd
    · omega
    · have := ih hd
      omega
theorem open_listT {H : Type} {enc : TypeId × Value → H} {W : World} {v : Value} {d : DataW H} {p : List MemPlace} {T : TypeId} (hT : Tryz.prog.underlying T = some (.slice 3))
    (hv : ∃ ad n cap, v = .slice ad n cap) (h : DataW.Trod enc Tryz.prog W 0 (fun _ => true) true T v d p) :
    ∃ ad xs cap, ArgS W v xs ad cap ∧ xs.length + 1 ≤ Rows.uptoBulk d ∧ (ad = none → cap = 0) := by
  obtain ⟨ad, n, cap, rfl⟩ := hv
  obtain ⟨fuel, hf⟩ := h
  simp only [Value.cells] at hf
  obtain ⟨a, xs, c, e, A, l, m⟩ := open_intsB hT hf
  rw [e]
  exact ⟨a, xs, c, A, l, m⟩
theorem open_tensorT {H : Type} {enc : TypeId × Value → H} {W : World} {v : Value} {d : DataW H} {p : List MemPlace} {base : Nat}
    (hval : Value.okWide Tryz.prog W .any base 26 v) (h : DataW.Trod enc Tryz.prog W 0 (fun _ => true) true 26 v d p) (hk : Rows.uptoBulk d ≤ 1048576) :
    ∃ (s : List Int) (qs : List Q3) (a b : Option Addr) (ca cb : Nat), TensQ W v s qs a ca b cb ∧ s.length ≤ 1048576 ∧ sizeQs qs ≤ 1048576 ∧ s.length + sizeQs qs ≤ 1048576 := by
  obtain ⟨s, qs, a, b, ca, cb, T, l⟩ := @open_tensor H enc W v d p base hval h
  have h := Nat.le_trans l hk
  exact ⟨s, qs, a, b, ca, cb, T, Nat.le_trans (Nat.le_add_right _ _) h, Nat.le_trans (Nat.le_add_left _ _) h, h⟩
end Go.Proofs.YtnhfjacifajdlaaGreat
