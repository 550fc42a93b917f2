/-
  Contracts of the reference of layer 3: Zero, Neg, Sign.
-/
import Derived.Test.YtofiebilokhccaaRRefA
namespace Go.Proofs.Ytofiebilokhccaa
open Go.RowKit
set_option linter.unusedVariables false
set_option linter.unusedSimpArgs false

theorem natAbs_pos {X : Rat} (h : ¬ X = 0) : 0 < (X.num.natAbs : Int) := by have := abs_zero X; have h2 := mt this.1 h; omega

set_option maxRecDepth 100000 in
set_option maxHeartbeats 4000000 in
theorem zeroR_any {n : Nat} {w : World} {u : Value} {X : Rat} (hu : ArgR w u X n) :
    Calls Try.prog 72 #[u] w fun e w' => e = .returned (.bool (decide (X = 0))) ∧ Below w.heap.size w w' := by
  obtain ⟨xs, ds, a1, a2, c1, c2, rfl, A, B, hX1, hX2, hx, hd⟩ := hu
  obtain ⟨m1, hm1⟩ : ∃ m, decide (X.num < 0) = m := ⟨_, rfl⟩
  rw [hm1]
  clear hm1
  obtain ⟨W, hW⟩ : ∃ W, (w.alloc (.cells #[.bool m1, .slice a1 xs.length c1, .slice a2 ds.length c2] 34)) = W := ⟨_, rfl⟩
  have R0 : Row W (w.heap.size) 34 #[.bool m1, .slice a1 xs.length c1, .slice a2 ds.length c2] := by rw [← hW]; exact (Row.new _ _ _)
  have hBW : Below w.heap.size w W := by rw [← hW]; exact ((Below.refl _ _).alloc (by (try simp) <;> omega) _)
  have hsW : w.heap.size + 1 ≤ W.heap.size := by rw [← hW]; simp
  obtain ⟨p0, p1, p2, _, _, _⟩ := R0.three
  have hz := abs_zero X
  by_cases h : X = 0
  · have d1 := lenD_zero A.wf A.full (by rw [hX1]; exact hz.2 h)
    have h0 : decide (X = 0) = true := decide_eq_true h
    have H0 := Lib.hid h0
    clear hX1 hX2 h hz h0
    go_enter Try.func72, Try.ntmps72
    go_wp2_with fail
    go_ret
    exact ⟨by rw [H0.out]; rfl, hBW⟩
  · have d1 := lenD_pos (ds := xs) (by rw [hX1]; have h2 := mt hz.1 h; omega)
    have h0 : decide (X = 0) = false := decide_eq_false h
    have H0 := Lib.hid h0
    clear hX1 hX2 h hz h0
    go_enter Try.func72, Try.ntmps72
    go_wp2_with fail
    go_ret
    exact ⟨by rw [H0.out]; rfl, hBW⟩

set_option maxRecDepth 100000 in
set_option maxHeartbeats 4000000 in
theorem negR_any {n : Nat} {w : World} {u : Value} {X : Rat} (hu : ArgR w u X n) :
    Calls Try.prog 33 #[u] w fun e w' => ∃ r, e = .returned r ∧ ArgR w' r (-X) n ∧ Below w.heap.size w w' := by
  have hu0 := hu
  obtain ⟨xs, ds, a1, a2, c1, c2, rfl, A, B, hX1, hX2, hx, hd⟩ := hu
  obtain ⟨m1, hm1⟩ : ∃ m, decide (X.num < 0) = m := ⟨_, rfl⟩
  obtain ⟨n1, n2, n3⟩ := rat_neg X
  have HM := Lib.hid hm1
  rw [hm1] at hu0 ⊢
  obtain ⟨W, hW⟩ : ∃ W, ((w.alloc (.cells #[.bool m1, .slice a1 xs.length c1, .slice a2 ds.length c2] 34)).alloc (.cells #[.bool false, .slice none 0 0, .slice none 0 0] 34)) = W := ⟨_, rfl⟩
  have R0 : Row W (w.heap.size) 34 #[.bool m1, .slice a1 xs.length c1, .slice a2 ds.length c2] := by rw [← hW]; exact ((Row.new _ _ _).alloc _)
  have R1 : Row W (w.heap.size + 1) 34 #[.bool false, .slice none 0 0, .slice none 0 0] := by rw [← hW]; have h := (Row.new (w.alloc (.cells #[.bool m1, .slice a1 xs.length c1, .slice a2 ds.length c2] 34)) 34 #[.bool false, .slice none 0 0, .slice none 0 0]); simp only [World.size_alloc] at h; exact h
  have hBW : Below w.heap.size w W := by rw [← hW]; exact (((Below.refl _ _).alloc (by (try simp) <;> omega) _).alloc (by (try simp) <;> omega) _)
  have hsW : w.heap.size + 1 + 1 ≤ W.heap.size := by rw [← hW]; simp
  obtain ⟨p0, p1, p2, _, _, _⟩ := R0.three
  have hzr := zeroR_any (hu0.later hBW)
  clear hm1
  by_cases h : X = 0
  · have h0 : decide (X = 0) = true := decide_eq_true h
    rw [h0] at hzr
    have hX : -X = X := by rw [h]; rfl
    have HX := Lib.hid hX
    have H1 := Lib.hid hX1
    have H2 := Lib.hid hX2
    clear h h0 hX n1 n2 n3 hX1 hX2 hu0
    go_enter Try.func33, Try.ntmps33
    go_wp2_with fail
    refine hzr.mono ?_
    rintro e w2 ⟨rfl, hb2⟩
    have hs2 := hb2.size
    clear hzr hW p0 p1 p2
    obtain ⟨p0, p1, p2, _, _, _⟩ := (R0.later hb2).three
    have P2 := R1.later hb2
    obtain ⟨u0, u1, u2, g0, g1, g2⟩ := P2.three
    go_wp2_with fail
    refine bodyPost_ret (v := .agg #[.bool m1, .slice a1 xs.length c1, .slice a2 ds.length c2]) (by simp [results, Try.results33, go_sem, u0, u1, u2]) rfl ⟨_, rfl, ?_, below_set3 (hBW.trans (hb2.mono (by omega))) (by omega) _ _ _⟩
    rw [HX.out]
    exact ⟨xs, ds, a1, a2, c1, c2, by rw [HM.out], ((A.later hBW).later hb2).far P2 (noInts3 _ _ _ _ _ _ _) (kept3 _ _ _), ((B.later hBW).later hb2).far P2 (noInts3 _ _ _ _ _ _ _) (kept3 _ _ _), H1.out, H2.out, hx, hd⟩
  · have h0 : decide (X = 0) = false := decide_eq_false h
    rw [h0] at hzr
    have hn1 : decide ((-X).num < 0) = !m1 := by rw [n1, HM.out, decide_eq_true (show X ≠ 0 from h), Bool.and_true]
    have N1 := Lib.hid hn1
    have hn2 : valD xs = (((-X).num.natAbs : Nat) : Int) := by rw [n2, hX1]
    have hn3 : valD ds = (((-X).den : Nat) : Int) := by rw [n3, hX2]
    have H1 := Lib.hid hn2
    have H2 := Lib.hid hn3
    clear h h0 n1 n2 n3 hX1 hX2 hu0 hn1 hn2 hn3
    go_enter Try.func33, Try.ntmps33
    go_wp2_with fail
    refine hzr.mono ?_
    rintro e w2 ⟨rfl, hb2⟩
    have hs2 := hb2.size
    clear hzr hW p0 p1 p2
    obtain ⟨p0, p1, p2, _, _, _⟩ := (R0.later hb2).three
    have P2 := R1.later hb2
    obtain ⟨u0, u1, u2, g0, g1, g2⟩ := P2.three
    go_wp2_with fail
    refine bodyPost_ret (v := .agg #[.bool !m1, .slice a1 xs.length c1, .slice a2 ds.length c2]) (by simp [results, Try.results33, go_sem, u0, u1, u2]) rfl ⟨_, rfl, ?_, below_set3 (hBW.trans (hb2.mono (by omega))) (by omega) _ _ _⟩
    exact ⟨xs, ds, a1, a2, c1, c2, by rw [N1.out], ((A.later hBW).later hb2).far P2 (noInts3 _ _ _ _ _ _ _) (kept3 _ _ _), ((B.later hBW).later hb2).far P2 (noInts3 _ _ _ _ _ _ _) (kept3 _ _ _), H1.out, H2.out, hx, hd⟩

set_option maxRecDepth 100000 in
set_option maxHeartbeats 4000000 in
theorem signR_any {n : Nat} {w : World} {u : Value} {X : Rat} (hu : ArgR w u X n) :
    Calls Try.prog 41 #[u] w fun e w' => e = .returned (.int .i64 (sgR X)) ∧ Below w.heap.size w w' := by
  have hu0 := hu
  obtain ⟨xs, ds, a1, a2, c1, c2, rfl, A, B, hX1, hX2, hx, hd⟩ := hu
  obtain ⟨m1, hm1⟩ : ∃ m, decide (X.num < 0) = m := ⟨_, rfl⟩
  have HM := Lib.hid hm1
  rw [hm1] at hu0 ⊢
  obtain ⟨W, hW⟩ : ∃ W, (w.alloc (.cells #[.bool m1, .slice a1 xs.length c1, .slice a2 ds.length c2] 34)) = W := ⟨_, rfl⟩
  have R0 : Row W (w.heap.size) 34 #[.bool m1, .slice a1 xs.length c1, .slice a2 ds.length c2] := by rw [← hW]; exact (Row.new _ _ _)
  have hBW : Below w.heap.size w W := by rw [← hW]; exact ((Below.refl _ _).alloc (by (try simp) <;> omega) _)
  have hsW : w.heap.size + 1 ≤ W.heap.size := by rw [← hW]; simp
  obtain ⟨p0, p1, p2, _, _, _⟩ := R0.three
  have hzr := zeroR_any (hu0.later hBW)
  have hz0 := sgR_zero X
  clear hm1
  by_cases h : X = 0
  · have h0 : decide (X = 0) = true := decide_eq_true h
    rw [h0] at hzr
    have hs := hz0.2 h
    have HS := Lib.hid hs
    clear h h0 hs hz0 hX1 hX2 hu0
    go_enter Try.func41, Try.ntmps41
    go_wp2_with fail
    refine hzr.mono ?_
    rintro e w2 ⟨rfl, hb2⟩
    clear hzr
    go_wp2_with fail
    go_ret
    exact ⟨by rw [HS.out]; rfl, hBW.trans (hb2.mono (by omega))⟩
  · have h0 : decide (X = 0) = false := decide_eq_false h
    rw [h0] at hzr
    have hne : X.num ≠ 0 := fun e => h (Rat.num_eq_zero.1 e)
    cases m1 with
    | true =>
      have hs : sgR X = -1 := Int.sign_eq_neg_one_of_neg (of_decide_eq_true HM.out)
      have HS := Lib.hid hs
      clear h h0 hs hz0 hX1 hX2 hu0 hne
      go_enter Try.func41, Try.ntmps41
      go_wp2_with fail
      refine hzr.mono ?_
      rintro e w2 ⟨rfl, hb2⟩
      have hs2 := hb2.size
      clear hzr p0 p1 p2
      obtain ⟨p0, p1, p2, _, _, _⟩ := (R0.later hb2).three
      go_wp2_with fail
      go_ret
      exact ⟨by rw [HS.out]; rfl, hBW.trans (hb2.mono (by omega))⟩
    | false =>
      have hs : sgR X = 1 := by have := of_decide_eq_false HM.out; exact Int.sign_eq_one_of_pos (by omega)
      have HS := Lib.hid hs
      clear h h0 hs hz0 hX1 hX2 hu0 hne
      go_enter Try.func41, Try.ntmps41
      go_wp2_with fail
      refine hzr.mono ?_
      rintro e w2 ⟨rfl, hb2⟩
      have hs2 := hb2.size
      clear hzr p0 p1 p2
      obtain ⟨p0, p1, p2, _, _, _⟩ := (R0.later hb2).three
      go_wp2_with fail
      go_ret
      exact ⟨by rw [HS.out]; rfl, hBW.trans (hb2.mono (by omega))⟩
end Go.Proofs.Ytofiebilokhccaa
