/-
  Layer 3's laws: opening arguments that are rational numbers; the laws' own 'same'.
-/
import Derived.Test.YtofiebilokhccaaRTwo
import Derived.Test.YtofiebilokhccaaB6
import Derived.JoinedCond
import Derived.ProofKit
import Derived.Lib.SmallJoins
namespace Go.Proofs.Ytofiebilokhccaa
open Go.RowKit Go.ChangeShapes Go.WideShapes Go.ChangeAt Go.Joins
set_option linter.unusedVariables false
set_option linter.unusedSimpArgs false
set_option maxRecDepth 100000

theorem cellsRat : Try.prog.cellsOf 25 = 3 := by kernel_rfl

/-- a row of limbs in a cell, as it came in -/
theorem open_nat4 {H : Type} {enc : TypeId × Value → H} {W : World} {v : Value} {y : DataW H × List MemPlace} {fuel : Nat}
    (hf : DataW.trod enc Try.prog W 0 (fun _ => true) true fuel 23 [v] = some y) (hk : Rows.uptoBulk y.1 ≤ 1048576) : ∃ ad xs cap, v = .slice ad xs.length cap ∧ Arg W (.slice ad xs.length cap) xs ad cap ∧ xs.length ≤ 1048576 ∧ (ad = none → cap = 0) := by
  have hv : ∃ ad n cap, v = .slice ad n cap := by
    rcases open_ints Try.underlying23 Try.underlying62 cellsLimb hf with ⟨hcs, _⟩ | ⟨a, len', cap', zs, hcs, _⟩
    · simp at hcs; exact ⟨_, _, _, hcs⟩
    · simp at hcs; exact ⟨_, _, _, hcs⟩
  have h2 : DataW.Trod enc Try.prog W 0 (fun _ => true) true 23 v y.1 y.2 := by
    obtain ⟨ad, n, cap, rfl⟩ := hv
    exact ⟨fuel, hf⟩
  obtain ⟨ad, xs, cap, A, hl, hn⟩ := open_nat2 hv h2 hk
  have e := A.is
  subst e
  exact ⟨ad, xs, cap, rfl, A, hl, hn⟩

/-- a rational number, as it came in -/
theorem open_rat {H : Type} {enc : TypeId × Value → H} {W : World} {v : Value} {d : DataW H} {p : List MemPlace} {base : Nat}
    (hval : Value.okWide Try.prog W .any base 25 v) (h : DataW.Trod enc Try.prog W 0 (fun _ => true) true 25 v d p) (hk : Rows.uptoBulk d ≤ 1048576) :
    ∃ (neg : Bool) (xs ys : List Int) (ad bd : Option Addr) (ca cb : Nat), v = .agg #[.bool neg, .slice ad xs.length ca, .slice bd ys.length cb] ∧
      Arg W (.slice ad xs.length ca) xs ad ca ∧ Arg W (.slice bd ys.length cb) ys bd cb ∧ xs.length ≤ 1048576 ∧ ys.length ≤ 1048576 ∧ (ad = none → ca = 0) ∧ (bd = none → cb = 0) := by
  obtain ⟨v0, v1, v2, y0, y1, y2, n, rfl, rfl, rfl, h0, h1, h2⟩ := open_agg3 Try.underlying25 (by kernel_rfl) cellsRat hval h
  simp only [Rows.uptoBulk, Rows.uptoBulkAll] at hk
  obtain ⟨b, hb, _⟩ := DataW.trod_bool Try.underlying4 h0
  simp at hb
  subst hb
  obtain ⟨ad, xs, ca, rfl, A, lx, nx⟩ := open_nat4 h1 (by omega)
  obtain ⟨bd, ys, cb, rfl, B, ly, ny⟩ := open_nat4 h2 (by omega)
  exact ⟨b, xs, ys, ad, bd, ca, cb, rfl, A, B, lx, ly, nx, ny⟩
theorem small1 {H : Type} {a : DataW H} (hk : Rows.uptoSmall H [a] = true) : Rows.uptoBulk a ≤ 1048576 := by
  have h : Rows.uptoBulkAll [a] ≤ 1048576 := of_decide_eq_true hk
  simp only [Rows.uptoBulkAll] at h
  omega

theorem res_len {base base' : Nat} {w w' : World} {u u' : Value} {zs zs' : List Int} {N : Int} (h : Res base w u zs N) (h' : Res base' w' u' zs' N) : zs = zs' := canon h.wf h'.wf h.full h'.full (h.eq.trans h'.eq.symm)

set_option maxRecDepth 100000 in
set_option maxHeartbeats 2000000 in
theorem same3_any {base base' n m : Nat} {w : World} {u v : Value} {X Y : Rat} (hu : ResQ base w u X n) (hv : ResQ base' w v Y m) (hXY : X = Y) (hn : n ≤ 35184372088832) (hm : m ≤ 35184372088832) :
    Calls Try.prog 44 #[u, v] w fun e w' => e = .returned (.bool true) ∧ Below w.heap.size w w' := by
  subst hXY
  obtain ⟨xs, ds, a1, a2, c1, c2, rfl, A, B, hx, hd⟩ := hu
  obtain ⟨zs, es, a3, a4, c3, c4, rfl, C, D, hz, he⟩ := hv
  have e1 := res_len A C
  have e2 := res_len B D
  subst e1
  subst e2
  have hpos : 0 < ds.length := by
    rcases Nat.eq_zero_or_pos ds.length with h | h
    · exfalso
      have h2 := List.eq_nil_of_length_eq_zero h
      have h3 := B.eq
      rw [h2] at h3
      have := den_pos' X
      simp [val] at h3
      omega
    · exact h
  have hpos2 : (0 : Int) < (ds.length : Int) := by omega
  have hll : ((xs.length : Int) == (xs.length : Int)) = true := by simp
  have hdd : ((ds.length : Int) == (ds.length : Int)) = true := by simp
  obtain ⟨m1, hm1⟩ : ∃ m, decide (X.num < 0) = m := ⟨_, rfl⟩
  rw [hm1]
  have hmm : (m1 == m1) = true := by simp
  have A1 := A.at_.2
  have B1 := B.at_.2
  have C1 := C.at_.2
  have D1 := D.at_.2
  clear hm1 A B C D hpos
  obtain ⟨W, hW⟩ : ∃ W, ((w.alloc (.cells #[.bool m1, .slice a1 xs.length c1, .slice a2 ds.length c2] 25)).alloc (.cells #[.bool m1, .slice a3 xs.length c3, .slice a4 ds.length c4] 25)) = W := ⟨_, rfl⟩
  have R0 : Row W w.heap.size 25 #[.bool m1, .slice a1 xs.length c1, .slice a2 ds.length c2] := by rw [← hW]; exact (Row.new _ _ _).alloc _
  have R1 : Row W (w.heap.size + 1) 25 #[.bool m1, .slice a3 xs.length c3, .slice a4 ds.length c4] := by rw [← hW]; have h := (Row.new (w.alloc (.cells #[.bool m1, .slice a1 xs.length c1, .slice a2 ds.length c2] 25)) 25 #[.bool m1, .slice a3 xs.length c3, .slice a4 ds.length c4]); simp only [World.size_alloc] at h; exact h
  have hBW : Below w.heap.size w W := by rw [← hW]; exact ((Below.refl _ _).alloc (by simp) _).alloc (by simp) _
  obtain ⟨p0, p1, p2, _, _, _⟩ := R0.three
  obtain ⟨o0, o1, o2, _, _, _⟩ := R1.three
  go_enter Try.func44, Try.ntmps44
  go_wp2_with fail
  refine (equal_true (A1.later hBW) (C1.later hBW) (by omega) (by omega) rfl).mono ?_
  rintro e w1 ⟨rfl, rfl⟩
  go_wp2_with fail
  refine (equal_true (B1.later hBW) (D1.later hBW) (by omega) (by omega) rfl).mono ?_
  rintro e w1 ⟨rfl, rfl⟩
  go_wp2_with fail
  go_ret
  exact ⟨rfl, hBW⟩
end Go.Proofs.Ytofiebilokhccaa
