/-
  What the calls of package shape answer, as mathematics.
-/
import Derived.Test.YthlohkehacnolaaSRefF
namespace Go.Proofs.Ythlohkehacnolaa
set_option linter.unusedVariables false
set_option linter.unusedSimpArgs false

def strideL (s : List Int) : List Int := (List.range s.length).map fun i : Nat => prodS (s.drop (i + 1))
def strideS (s : List Int) : List Int := if mayC s = 0 then strideL s else []
theorem strideL_length (s : List Int) : (strideL s).length = s.length := by simp [strideL]
theorem strideL_at (s : List Int) {i : Nat} (h : i < s.length) : (strideL s).getD i 0 = prodS (s.drop (i + 1)) := by
  unfold strideL
  rw [List.getD_eq_getElem?_getD, List.getElem?_map, List.getElem?_range h]; rfl
theorem strideS_ok {s : List Int} (h : mayC s = 0) : strideS s = strideL s := by unfold strideS; rw [if_pos h]
theorem strideS_bad {s : List Int} (h : mayC s ≠ 0) : strideS s = [] := by unfold strideS; rw [if_neg h]
/-- why a place has no index: 0, or an error; its index -/
def idxC (s : List Int) (n : Int) : Int := if mayC s ≠ 0 then mayC s else if n < 0 ∨ countS s ≤ n then 21 else 0
def idxV (s : List Int) (n : Int) : List Int := if idxC s n = 0 then idxS s n else []
theorem idxC_may {s : List Int} {n : Int} (h : mayC s ≠ 0) : idxC s n = mayC s := by unfold idxC; rw [if_pos h]
theorem idxC_out {s : List Int} {n : Int} (h : mayC s = 0) (h2 : n < 0 ∨ countS s ≤ n) : idxC s n = 21 := by unfold idxC; rw [if_neg (by rw [h]; simp), if_pos h2]
theorem idxC_in {s : List Int} {n : Int} (h : mayC s = 0) (h2 : 0 ≤ n) (h3 : n < prodS s) : idxC s n = 0 := by
  unfold idxC
  rw [if_neg (by rw [h]; simp), if_neg (by rw [(mayC_zero.1 h).count]; omega)]
theorem idxV_in {s : List Int} {n : Int} (h : idxC s n = 0) : idxV s n = idxS s n := by unfold idxV; rw [if_pos h]
theorem idxV_bad {s : List Int} {n : Int} (h : idxC s n ≠ 0) : idxV s n = [] := by unfold idxV; rw [if_neg h]
def permC (p : List Int) (rank : Int) : Int := if permB p rank = true then 0 else 11
def invL (p : List Int) : List Int := (List.range p.length).map fun i : Nat => (p.idxOf (i : Int) : Int)
def invV (p : List Int) : List Int := if permB p p.length = true then invL p else []
def axesC (l : List Int) (rank : Int) : Int := if axesB l rank = true then 0 else 11
end Go.Proofs.Ythlohkehacnolaa
