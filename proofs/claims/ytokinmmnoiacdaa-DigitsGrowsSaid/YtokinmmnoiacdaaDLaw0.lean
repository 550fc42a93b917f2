/-
  Layer 4's laws: opening arguments; contracts as the laws ask for them.
-/
import Derived.Test.YtokinmmnoiacdaaDKnown
import Derived.Test.YtokinmmnoiacdaaB5
import Derived.Deep.DeepCutAuto
import Derived.ChangeMaps5
import Derived.Lib.SmallJoins
import Derived.JoinedCond
import Derived.ProofKit
namespace Go.Proofs.Ytokinmmnoiacdaa
open Go.RowKit Go.ChangeShapes Go.WideShapes Go.ChangeAt Go.Joins
set_option linter.unusedVariables false
set_option linter.unusedSimpArgs false
set_option maxRecDepth 100000

/-- a rational number, as it came in, of whatever size -/
theorem open_rat3 {H : Type} {enc : TypeId × Value → H} {W : World} {v : Value} {d : DataW H} {p : List MemPlace} {base : Nat}
    (hval : Value.okWide Try.prog W .any base 40 v) (h : DataW.Trod enc Try.prog W 0 (fun _ => true) true 40 v d p) :
    ∃ (neg : Bool) (xs ys : List Int) (ad bd : Option Addr) (ca cb : Nat), v = .agg #[.bool neg, .slice ad xs.length ca, .slice bd ys.length cb] ∧ Arg W (.slice ad xs.length ca) xs ad ca ∧ Arg W (.slice bd ys.length cb) ys bd cb := by
  obtain ⟨v0, v1, v2, y0, y1, y2, n, rfl, rfl, rfl, h0, h1, h2⟩ := open_agg3 Try.underlying40 (by kernel_rfl) cellsRat hval h
  obtain ⟨b, hb, _⟩ := DataW.trod_bool Try.underlying4 h0
  simp at hb
  subst hb
  have key : ∀ (v : Value) (y : DataW H × List MemPlace), DataW.trod enc Try.prog W 0 (fun _ => true) true n 23 [v] = some y → ∃ ad xs cap, v = .slice ad xs.length cap ∧ Arg W (.slice ad xs.length cap) xs ad cap := by
    intro v y hf
    have hv : ∃ ad n cap, v = .slice ad n cap := by
      rcases open_ints Try.underlying23 Try.underlying63 cellsLimb hf with ⟨hcs, _⟩ | ⟨a, len', cap', zs, hcs, _⟩
      · simp at hcs; exact ⟨_, _, _, hcs⟩
      · simp at hcs; exact ⟨_, _, _, hcs⟩
    have h2 : DataW.Trod enc Try.prog W 0 (fun _ => true) true 23 v y.1 y.2 := by
      obtain ⟨ad, n, cap, rfl⟩ := hv
      exact ⟨_, hf⟩
    obtain ⟨ad, xs, cap, A, _⟩ := open_nat3 hv h2
    have e := A.is
    subst e
    exact ⟨ad, xs, cap, rfl, A⟩
  obtain ⟨ad, xs, ca, rfl, A⟩ := key _ _ h1
  obtain ⟨bd, ys, cb, rfl, B⟩ := key _ _ h2
  exact ⟨b, xs, ys, ad, bd, ca, cb, rfl, A, B⟩
theorem ParsedD.any {base : Nat} {w : World} {r : Value} {l : List UInt8} (h : ParsedD base w r l) : ∃ zs, ResD base w r zs (if codeN l = 0 then (numL l : Int) else 0) ∧ zs.length ≤ 1300 := by
  unfold ParsedD at h
  split at h
  · next hc => rw [if_pos hc]; exact h
  · next hc => subst h; rw [if_neg hc]; exact ⟨[], ResD.nil _ _, by simp⟩
theorem dec_length_le {x k : Nat} (h : x < 10 ^ k) : (dec x).length ≤ k + 1 := by
  by_cases hx : x = 0
  · subst hx; rw [dec_zero]; simp
  · rcases Nat.lt_or_ge (k + 1) (dec x).length with g | g
    · have h1 := dec_ge x hx
      have h2 : 10 ^ k ≤ 10 ^ ((dec x).length - 1) := Nat.pow_le_pow_right (by decide) (by omega)
      omega
    · exact g
theorem dec_length_val {xs : List Int} (h : Wf xs) : (dec (val xs).toNat).length ≤ 10 * xs.length + 1 := by
  refine dec_length_le ?_
  have h1 := val_lt h
  have h0 := val_nonneg h
  have h2 : ((4294967296 : Nat) ^ xs.length : Nat) ≤ (10 ^ 10) ^ xs.length := Nat.pow_le_pow_left (by decide) _
  rw [← Nat.pow_mul] at h2
  have h3 : ((val xs).toNat : Int) < (((4294967296 : Nat) ^ xs.length : Nat) : Int) := by
    rw [Int.natCast_pow]
    have e : ((val xs).toNat : Int) = val xs := by omega
    rw [e]
    exact h1
  have h4 : (val xs).toNat < 4294967296 ^ xs.length := Int.ofNat_lt.1 h3
  exact Nat.lt_of_lt_of_le h4 h2
/-- the program's digits and the reference's -/
theorem isN_true {base base' : Nat} {w : World} {u v : Value} {zs ys : List Int} {N : Int} (h1 : ResD base w u zs N) (h2 : Res base' w v ys N) (hx : zs.length ≤ 68719476736) (hy : ys.length ≤ 134217728) :
    Calls Try.prog 19 #[u, v] w fun e w' => e = .returned (.bool true) ∧ Below w.heap.size w w' := by
  obtain ⟨ad, cp, A⟩ := h1.arg
  obtain ⟨bd, cq, rfl, _, B⟩ := h2.slice
  exact is_true A B hx hy h2.full (h1.eq.trans h2.eq.symm)
end Go.Proofs.Ytokinmmnoiacdaa
