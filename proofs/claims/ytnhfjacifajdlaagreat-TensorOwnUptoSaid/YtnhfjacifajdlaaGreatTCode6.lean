/-
  Package tensor as it landed: At.
-/
import Derived.Test.YtnhfjacifajdlaaGreatTCode5
namespace Go.Proofs.YtnhfjacifajdlaaGreat
open Go.RowKit Go.Shelf
attribute [local go_sem] Oper.semAt_some
set_option linter.unusedVariables false
set_option linter.unusedSimpArgs false

theorem RawO.res {base n : Nat} {w : World} {v : Value} {q : Q3} (h : RawO base w v q) (ok : okQ q = true) (h1 : q.num.length ≤ n) (h2 : q.den.length ≤ n) : ResQ base w v q.rat n := by
  obtain ⟨ad, bd, ca, cb, rfl, A, D, wa, wd⟩ := h
  unfold okQ validB isB at ok
  simp only [Bool.and_eq_true, decide_eq_true_eq, beq_iff_eq] at ok
  obtain ⟨e1, ⟨e2, e3⟩, e4, e5⟩ := ok
  exact ⟨q.num, q.den, ad, bd, ca, cb, by rw [← e1], ⟨A, wa, e2, e3⟩, ⟨D, wd, e4, e5⟩, h1, h2⟩
theorem ResQ.grow {base n m : Nat} {w : World} {v : Value} {x : Rat} (h : ResQ base w v x n) (hm : n ≤ m) : ResQ base w v x m := by
  obtain ⟨zs, ys, ad, bd, ca, cb, e, A, D, h1, h2⟩ := h
  exact ⟨zs, ys, ad, bd, ca, cb, e, A, D, Nat.le_trans h1 hm, Nat.le_trans h2 hm⟩
theorem mayT_zero {s : List Int} {qs : List Q3} (h : mayT s qs = 0) : OkS s ∧ (qs.length : Int) = prodS s ∧ ∀ q ∈ qs, okQ q = true := by
  unfold mayT at h
  split at h
  · rename_i h1; exact absurd h h1
  · rename_i h1
    have h1' : mayC s = 0 := by omega
    have ok := mayC_zero.1 h1'
    split at h
    · cases h
    · rename_i h2
      split at h
      · rename_i h3
        refine ⟨ok, ?_, fun q hq => List.all_eq_true.1 h3 q hq⟩
        rw [← ok.count]
        simpa using h2
      · cases h

set_option maxRecDepth 100000 in
set_option maxHeartbeats 8000000 in
theorem atT7_any {n : Nat} {w : World} {u v : Value} {s xs : List Int} {qs : List Q3} {a b c : Option Addr} {ca cb cc : Nat} (T : TensQ w u s qs a ca b cb) (X : ArgS w v xs c cc) (nc : c = none → cc = 0) (hs : s.length ≤ 1048576) (hq : qs.length ≤ 1048576) (hl : lensQ qs n) (hn : n ≤ 4000000) (hx : xs.length ≤ 1048576) :
    Calls Tryz.prog 28 #[u, v] w fun e w' => ∃ r, e = .returned (.tuple #[r, .int .i64 (atC s qs xs)]) ∧ (atC s qs xs = 0 → ∃ q, qs[(offV s xs).toNat]? = some q ∧ ResQ w.heap.size w' r q.rat (n + 2)) ∧ (atC s qs xs ≠ 0 → r = noRat) ∧ Below w.heap.size w w' := by
  obtain rfl := T.is
  obtain rfl := X.is
  obtain ⟨B, hB⟩ : ∃ B, w.heap.size = B := ⟨_, rfl⟩
  obtain ⟨W1, hW1⟩ : ∃ W1, w.alloc (.cells #[.slice a s.length ca, .slice b qs.length cb] 26) = W1 := ⟨_, rfl⟩
  obtain ⟨W2, hW2⟩ : ∃ W2, W1.alloc (.cells #[.bool false, .slice none 0 0, .slice none 0 0] 44) = W2 := ⟨_, rfl⟩
  have s1 : W1.heap.size = B + 1 := by rw [← hW1, ← hB]; simp
  have s2 : W2.heap.size = B + 1 + 1 := by rw [← hW2, World.size_alloc, s1]
  have R0 : Row W2 B 26 #[.slice a s.length ca, .slice b qs.length cb] := by rw [← hW2, ← hW1, ← hB]; exact (Row.new _ _ _).alloc _
  have R1 : Row W2 (B + 1) 44 #[.bool false, .slice none 0 0, .slice none 0 0] := by rw [← hW2, ← s1]; exact Row.new _ _ _
  have hb2 : Below B w W2 := by rw [← hW2, ← hW1]; exact ((Below.refl _ w).alloc (by omega) _).alloc (by simp; omega) _
  have T2 := T.later (by rw [hB]; exact hb2)
  have X2 := X.later (by rw [hB]; exact hb2)
  have hmay := mayT7_any T2 hs hq hl hn
  have HT := Lib.hid T2
  have HX := Lib.hid X2
  have HL := Lib.hid hl
  obtain ⟨c0, c1, _, _⟩ := R0.two
  obtain ⟨m, hm⟩ : ∃ m, mayT s qs = m := ⟨_, rfl⟩
  rw [hm] at hmay
  have HM := Lib.hid hm
  have ha : atC s qs xs = if m ≠ 0 then m else offC s xs := by unfold atC; rw [hm]
  rw [ha]
  clear T X T2 X2 hl hm ha
  by_cases h0 : m = 0
  · subst h0
    simp only [ne_eq, not_true_eq_false, if_false]
    obtain ⟨ok, hlen, hoks⟩ := mayT_zero HM.out
    obtain ⟨o, ho⟩ : ∃ o, offC s xs = o := ⟨_, rfl⟩
    obtain ⟨p, hp⟩ : ∃ p, offV s xs = p := ⟨_, rfl⟩
    have hoff : ∀ Y, Below W2.heap.size W2 Y → Calls Tryz.prog 63 #[.slice a s.length ca, .slice c xs.length cc] Y fun e w' => e = .returned (.tuple #[.int .i64 p, .int .i64 o]) ∧ Below Y.heap.size Y w' := fun Y hb => by
      have := offsetS_any (HT.out.sh.later hb) (HX.out.later hb) HT.out.nila nc (by omega) (by omega)
      rw [ho, hp] at this
      exact this
    rw [ho, hp]
    by_cases h1 : o = 0
    · subst h1
      have hin : inS s xs := by
        unfold offC at ho
        split at ho
        · rename_i h; exact absurd ho h
        · split at ho
          · cases ho
          · split at ho
            · assumption
            · cases ho
      have hpr := place_range hin
      rw [offV_in (mayC_ok ok) hin] at hp
      rw [hp] at hpr
      obtain ⟨k, rfl⟩ : ∃ k : Nat, p = (k : Int) := ⟨p.toNat, by omega⟩
      have hk : k < qs.length := by omega
      obtain ⟨bb, oo, x0, x1, x2, q, hbo, hqk, e0, e1, e2, hraw⟩ := HT.out.el.at hk
      have hmem := List.mem_of_getElem? hqk
      have hok := hoks q hmem
      have hlq := HL.out q hmem
      obtain ⟨z1, z2, z3, z4, z5, z6, z7, hf⟩ := hraw.form
      simp only [Value.agg.injEq, Array.mk.injEq, List.cons.injEq, and_true] at hf
      obtain ⟨rfl, rfl, rfl⟩ := hf
      subst hbo
      have hkI : (k : Int) < (qs.length : Int) := by omega
      have hk0 : (0 : Int) ≤ (k : Int) := by omega
      have HO := Lib.hid hoks
      clear hoks hin hpr hlen ok hp ho
      go_enter Tryz.func28, Tryz.ntmps28
      go_wp2_with fail
      refine hmay.mono ?_
      rintro e w3 ⟨rfl, b3⟩
      have s3 := b3.size
      obtain ⟨k0, k1, _, _⟩ := (R0.later b3).two
      go_wp2_with fail
      refine (hoff w3 b3).mono ?_
      rintro e w4 ⟨rfl, b4⟩
      have b24 : Below W2.heap.size W2 w4 := b3.trans (b4.mono s3)
      obtain ⟨l0, l1, _, _⟩ := (R0.later b24).two
      have E0 := (b24.cell (p := ⟨bb, oo + k * 3, none⟩) (World.block_lt_of_cell? _ _ e0)).trans e0
      have E1 := (b24.cell (p := ⟨bb, oo + k * 3 + 1, none⟩) (World.block_lt_of_cell? _ _ e1)).trans e1
      have E2 := (b24.cell (p := ⟨bb, oo + k * 3 + 2, none⟩) (World.block_lt_of_cell? _ _ e2)).trans e2
      clear k0 k1 e0 e1 e2 c0 c1
      go_wp2_with fail
      refine (copyRat_any (hraw.later b24) (by omega) (by omega)).mono ?_
      rintro e w5 ⟨r5, rfl, q5, b5⟩
      have b25 : Below W2.heap.size W2 w5 := b24.trans (b5.mono b24.size)
      have rq : ResQ B w5 r5 q.rat n := (q5.res hok hlq.1 hlq.2).mono (by have := b24.size; omega)
      obtain ⟨m6, f1, l6, j1, f2, l7, j2, rfl⟩ := rq.shape
      have HR := Lib.hid rq
      have R5 := R1.later b25
      obtain ⟨u0, u1, u2, u3, u4, u5⟩ := R5.three
      have R6 := R5.set3 (.bool m6) (.slice f1 l6 j1) (.slice f2 l7 j2)
      obtain ⟨y0, y1, y2, _⟩ := R6.three
      have HR5 := Lib.hid R5
      clear R5 R6 rq q5 l0 l1 E0 E1 E2
      go_wp2_with fail
      refine bodyPost_ret (v := .tuple #[.agg #[.bool m6, .slice f1 l6 j1, .slice f2 l7 j2], .int .i64 0]) (by simp [results, Tryz.results28, go_sem, y0, y1, y2]) rfl ⟨_, rfl, fun _ => ⟨q, by simpa using hqk, ?_⟩, fun h => absurd trivial h, ?_⟩
      · rw [hB]; exact (HR.out.far HR5.out (by decide) (kept3 _ _ _)).grow (by omega)
      · rw [hB]; exact below_set3 (g := B + 1) (hb2.trans (b25.mono (by omega))) (by omega) _ _ _
    · have hn : (o != 0) = true := by simp [h1]
      go_enter Tryz.func28, Tryz.ntmps28
      go_wp2_with fail
      refine hmay.mono ?_
      rintro e w3 ⟨rfl, b3⟩
      have s3 := b3.size
      obtain ⟨k0, k1, _, _⟩ := (R0.later b3).two
      go_wp2_with fail
      refine (hoff w3 b3).mono ?_
      rintro e w4 ⟨rfl, b4⟩
      have b24 : Below W2.heap.size W2 w4 := b3.trans (b4.mono s3)
      have R5 := R1.later b24
      obtain ⟨u0, u1, u2, u3, u4, u5⟩ := R5.three
      have R6 := R5.set3 (.bool false) (.slice none 0 0) (.slice none 0 0)
      obtain ⟨y0, y1, y2, _⟩ := R6.three
      clear R5 R6 k0 k1
      go_wp2_with fail
      refine bodyPost_ret (v := .tuple #[noRat, .int .i64 o]) (by simp [results, Tryz.results28, go_sem, y0, y1, y2, noRat]) rfl ⟨_, rfl, fun h => absurd h h1, fun _ => rfl, ?_⟩
      rw [hB]; exact below_set3 (g := B + 1) (hb2.trans (b24.mono (by omega))) (by omega) _ _ _
  · have hn : (m != 0) = true := by simp [h0]
    rw [if_pos h0]
    go_enter Tryz.func28, Tryz.ntmps28
    go_wp2_with fail
    refine hmay.mono ?_
    rintro e w3 ⟨rfl, b3⟩
    have R5 := R1.later b3
    obtain ⟨u0, u1, u2, u3, u4, u5⟩ := R5.three
    have R6 := R5.set3 (.bool false) (.slice none 0 0) (.slice none 0 0)
    obtain ⟨y0, y1, y2, _⟩ := R6.three
    clear R5 R6
    go_wp2_with fail
    refine bodyPost_ret (v := .tuple #[noRat, .int .i64 m]) (by simp [results, Tryz.results28, go_sem, y0, y1, y2, noRat]) rfl ⟨_, rfl, fun h => absurd h h0, fun _ => rfl, ?_⟩
    rw [hB]; exact below_set3 (g := B + 1) (hb2.trans (b3.mono (by omega))) (by omega) _ _ _
end Go.Proofs.YtnhfjacifajdlaaGreat
