/-
  Layer 5's laws: append of bytes, reads, known; opening bytes.
-/
import Derived.Test.YtgjoiacgdgbcjaaWSpec
import Derived.ProofKit
import Derived.OpenShut
import Derived.JoinedCond
import Derived.Carry
namespace Go.Proofs.Ytgjoiacgdgbcjaa
open Go.RowKit Go.ChangeShapes Go.WideShapes Go.ChangeAt
set_option linter.unusedVariables false
set_option linter.unusedSimpArgs false

/-! reads -/
set_option maxRecDepth 100000 in
set_option maxHeartbeats 2000000 in
theorem reads5_any {u : Value} {xs : List Int} {ad : Option Addr} {cap : Nat} {w : World} (A : ArgB w u xs ad cap) (hn : ad = none → cap = 0) (hx : xs.length ≤ 140737488355328) :
    Calls Try.prog 30 #[u] w fun e w' => e = .returned (.tuple #[.int .u64 (numV xs), .int .i64 (getC xs)]) ∧ Below w.heap.size w w' := by
  have hnew := newC_any A hn hx
  obtain ⟨nv, hnv⟩ : ∃ nv, numV xs = nv := ⟨_, rfl⟩
  obtain ⟨gc, hgc⟩ : ∃ gc, getC xs = gc := ⟨_, rfl⟩
  have hbad : gc ≠ 0 → nv = 0 ∧ numP xs 0 = 0 := fun h => by rw [← hnv, numV, numP, hgc, if_neg h, if_neg h]; exact ⟨rfl, rfl⟩
  rw [hnv, hgc]
  go_enter Try.func30, Try.ntmps30
  go_wp2_with fail
  refine hnew.mono ?_
  rintro e w1 ⟨g, rfl, C1, hb1⟩
  have hs1 := hb1.size
  obtain ⟨hg, hgl, _, _⟩ := C1.facts
  have hu := uvarC_any C1
  rw [List.drop_zero, hnv, hgc] at hu
  clear hnew
  go_wp2_with fail
  refine hu.mono ?_
  rintro e w2 ⟨rfl, C2, k2⟩
  have hb2 : Below w.heap.size w w2 := hb1.trans (k2.below hs1 hg)
  have hs2 := hb2.size
  clear hu
  by_cases h0 : gc = 0
  · subst h0
    clear hnv hgc hbad
    go_wp2_with fail
    go_ret2
    exact ⟨rfl, hb2⟩
  · obtain ⟨rfl, hp⟩ := hbad h0
    rw [hp] at C2
    have ha := atC_any C2
    have hne : (gc != 0) = true := by simpa using h0
    clear hnv hgc hbad h0 hp
    go_wp2_with fail
    refine ha.mono ?_
    rintro e w3 ⟨rfl, hb3⟩
    clear ha
    go_wp2_with fail
    go_ret2
    exact ⟨rfl, hb2.trans (hb3.mono hs2)⟩

theorem ArgB.lit (w : World) (xs : List Int) (h : Byt xs) : ArgB (w.alloc (.cells (xs.map (Value.int .u8)).toArray 5)) (.slice (some ⟨w.heap.size, 0, none⟩) xs.length xs.length) xs (some ⟨w.heap.size, 0, none⟩) xs.length := by
  refine ⟨rfl, .inr ⟨w.heap.size, 0, rfl, fun i hi => ?_⟩, Nat.le_refl _, h⟩
  have e : (w.alloc (.cells (xs.map (Value.int .u8)).toArray 5)).cell? ⟨w.heap.size, i, none⟩ = ((xs.map (Value.int .u8)).toArray)[i]? := cell_of_row _ _ i _ 5 (0, 0) (heap_alloc_new w _)
  rw [Nat.zero_add, e]
  simp [hi]

set_option maxRecDepth 100000 in
set_option maxHeartbeats 4000000 in
theorem known5_any (w : World) : Calls Try.prog 17 #[] w fun e w' => e = .returned (.bool true) ∧ Below w.heap.size w w' := by
  have g1 : getC [128, 0] = 4 := by decide
  have g2 : getC [128] = 3 := by decide
  have g3 : getC [128, 128, 128, 128, 128, 128, 128, 128, 128, 128] = 4 := by decide
  have v1 : numV [128, 0] = 0 := by unfold numV; rw [g1]; rfl
  have v2 : numV [128] = 0 := by unfold numV; rw [g2]; rfl
  have v3 : numV [128, 128, 128, 128, 128, 128, 128, 128, 128, 128] = 0 := by unfold numV; rw [g3]; rfl
  have e1 : encN (300 : Int).toNat = [172, 2] := by rw [show (300 : Int).toNat = 300 from rfl, encN_big (by omega), encN_small (by omega)]; rfl
  have e2 : encN (zig (-3)).toNat = [5] := by rw [show (zig (-3)).toNat = 5 from rfl, encN_small (by omega)]; rfl
  have L1 := fun w => reads5_any (ArgB.lit w [128, 0] (by intro x hx; simp at hx; omega)) (by simp) (by simp)
  have L2 := fun w => reads5_any (ArgB.lit w [128] (by intro x hx; simp at hx; omega)) (by simp) (by simp)
  have L3 := fun w => reads5_any (ArgB.lit w [128, 128, 128, 128, 128, 128, 128, 128, 128, 128] (by intro x hx; simp at hx; omega)) (by simp) (by simp)
  have P1 := fun w => putU_any 300 (nil_argB w) (fun _ => rfl) (by simp) (by omega) (by omega)
  have P2 := fun w => putZ_any (-3) (nil_argB w) (fun _ => rfl) (by simp) (by omega) (by omega)
  rw [e1] at P1
  rw [e2] at P2
  simp only [v1, v2, v3, g1, g2, g3, List.map_cons, List.map_nil, List.length_cons, List.length_nil, Nat.reduceAdd, List.nil_append] at L1 L2 L3 P1 P2
  clear g1 g2 g3 v1 v2 v3 e1 e2
  go_enter Try.func17, Try.ntmps17
  go_wp2_with fail
  refine (L1 _).mono ?_
  rintro e w1 ⟨rfl, hb1⟩
  rw [World.size_alloc] at hb1
  have hB1 : Below w.heap.size w w1 := ((Below.refl _ w).alloc (Nat.le_refl _) _).trans (hb1.mono (Nat.le_succ _))
  have hs1 := hB1.size
  clear hb1 L1
  go_wp2_with fail
  refine (L2 _).mono ?_
  rintro e w2 ⟨rfl, hb2⟩
  rw [World.size_alloc] at hb2
  have hB2 : Below w.heap.size w w2 := hB1.trans (((Below.refl _ w1).alloc (Nat.le_refl _) _).trans (hb2.mono (Nat.le_succ _)) |>.mono hs1)
  have hs2 := hB2.size
  clear hb2 L2
  go_wp2_with fail
  refine (L3 _).mono ?_
  rintro e w3 ⟨rfl, hb3⟩
  rw [World.size_alloc] at hb3
  have hB3 : Below w.heap.size w w3 := hB2.trans (((Below.refl _ w2).alloc (Nat.le_refl _) _).trans (hb3.mono (Nat.le_succ _)) |>.mono hs2)
  have hs3 := hB3.size
  clear hb3 L3
  go_wp2_with fail
  refine (P1 _).mono ?_
  rintro e w4 ⟨r4, rfl, q4, hb4⟩
  have hB4 : Below w.heap.size w w4 := hB3.trans (hb4.mono hs3)
  have hs4 := hB4.size
  obtain ⟨a4, c4, rfl, q4', A4, n4⟩ := q4.slice
  clear q4 P1
  have S4 := sameB_any (A4.later ((Below.refl w4.heap.size w4).alloc (Nat.le_refl _) (.cells #[.int .u8 172, .int .u8 2] 5))) (ArgB.lit w4 [172, 2] (by intro x hx; simp at hx; omega))
  rw [decide_eq_true rfl] at S4
  simp only [List.map_cons, List.map_nil, List.length_cons, List.length_nil, Nat.reduceAdd] at S4
  go_wp2_with fail
  refine S4.mono ?_
  rintro e w5 ⟨rfl, rfl⟩
  have hB5 : Below w.heap.size w (w4.alloc (.cells #[.int .u8 172, .int .u8 2] 5)) := hB4.alloc (by omega) _
  generalize w4.alloc (.cells #[.int .u8 172, .int .u8 2] 5) = W5 at *
  have hs5 := hB5.size
  clear S4
  go_wp2_with fail
  refine (P2 _).mono ?_
  rintro e w6 ⟨r6, rfl, q6, hb6⟩
  have hB6 : Below w.heap.size w w6 := hB5.trans (hb6.mono hs5)
  have hs6 := hB6.size
  obtain ⟨a6, c6, rfl, q6', A6, n6⟩ := q6.slice
  clear q6 P2
  have S6 := sameB_any (A6.later ((Below.refl w6.heap.size w6).alloc (Nat.le_refl _) (.cells #[.int .u8 5] 5))) (ArgB.lit w6 [5] (by intro x hx; simp at hx; omega))
  rw [decide_eq_true rfl] at S6
  simp only [List.map_cons, List.map_nil, List.length_cons, List.length_nil, Nat.reduceAdd] at S6
  go_wp2_with fail
  refine S6.mono ?_
  rintro e w7 ⟨rfl, rfl⟩
  clear S6
  go_wp2_with fail
  go_ret
  exact ⟨rfl, hB6.alloc (by omega) _⟩

/-! what is read of what was put -/
theorem enc_read {n : Nat} (h : n < 18446744073709551616) (r : List Int) : numV (encN n ++ r) = (n : Int) ∧ getC (encN n ++ r) = 0 ∧ ∀ p, numP (encN n ++ r) p = p + (encN n).length := by
  obtain ⟨h1, h2, h3⟩ := get_enc h r
  have := encN_pos n
  refine ⟨by unfold numV; rw [if_pos h1, h2], h1, fun p => by unfold numP; rw [if_pos h1, h3]; omega⟩
theorem drop_app {l a b : List Int} {p : Nat} (h : l.drop p = a ++ b) : l.drop (p + a.length) = b := by
  rw [← List.drop_drop, h, List.drop_left' rfl]
theorem blk_read (ys r : List Int) (h : ys.length < 9223372036854775808) : blockC (encN ys.length ++ (ys ++ r)) (ys.length : Int) = 0 ∧ blkB (encN ys.length ++ (ys ++ r)) (ys.length : Int) = ys ∧ ∀ p, blkP (encN ys.length ++ (ys ++ r)) p (ys.length : Int) = p + (encN ys.length).length + ys.length := by
  obtain ⟨h1, h2, h3⟩ := get_enc (n := ys.length) (by omega) (ys ++ r)
  have hp := encN_pos ys.length
  have e : (encN ys.length).length - 1 + 1 = (encN ys.length).length := by omega
  have hc : blockC (encN ys.length ++ (ys ++ r)) (ys.length : Int) = 0 := by
    refine blockC_ok h1 (by rw [h2]; omega) ?_
    rw [h2, h3, e, List.length_append, List.length_append]
    omega
  refine ⟨hc, ?_, fun p => ?_⟩
  · unfold blkB blockB
    rw [if_pos hc, h2, h3, e, List.drop_left' rfl, Int.toNat_natCast, List.take_left' rfl]
  · unfold blkP
    rw [if_pos hc, h2, h3, Int.toNat_natCast]
    omega
theorem take_read (l : List Int) : takeC l (l.length : Int) = 0 ∧ takeB l (l.length : Int) = l := by
  have h : takeC l (l.length : Int) = 0 := by unfold takeC; rw [if_neg (by omega), if_neg (by omega)]
  refine ⟨h, ?_⟩
  unfold takeB
  rw [if_pos h, Int.toNat_natCast, List.take_length]
theorem zag_zig' {k : Int} : zag (zig k) = k := by unfold zag zig; split <;> split <;> omega
end Go.Proofs.Ytgjoiacgdgbcjaa
