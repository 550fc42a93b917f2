/-
  Package tensor as it landed: Scalar, Copy, May, At. (Made by wip/gen/gen_tcode4.py.)
-/
import Derived.Test.YtnhfjacifajdlaaGreatTCode3
namespace Go.Proofs.YtnhfjacifajdlaaGreat
open Go.RowKit Go.Shelf
attribute [local go_sem] Oper.semAt_some
set_option linter.unusedVariables false
set_option linter.unusedSimpArgs false

theorem RawQ.box {w : World} {v : Value} {q : Q3} (h : RawQ w v q) : ∃ (ad bd : Option Addr) (ca cb : Nat), v = .agg #[.bool q.neg, .slice ad q.num.length ca, .slice bd q.den.length cb] := by
  obtain ⟨ad, bd, ca, cb, rfl, _⟩ := h
  exact ⟨_, _, _, _, rfl⟩
set_option maxRecDepth 100000 in
set_option maxHeartbeats 4000000 in
theorem scalarT7_any {n : Nat} {w : World} {v : Value} {q : Q3} (hv : RawQ w v q) (hl : q.num.length ≤ n ∧ q.den.length ≤ n) (hn : n ≤ 4000000) :
    Calls Tryz.prog 23 #[v] w fun e w' => ∃ r, e = .returned r ∧ ResT w.heap.size w' r [] [q.rat] (n + 2) ∧ Below w.heap.size w w' := by
  have ha := hv.arg hl.1 hl.2
  obtain ⟨ad, bd, ca, cb, rfl⟩ := hv.box
  obtain ⟨B, hB⟩ : ∃ B, w.heap.size = B := ⟨_, rfl⟩
  obtain ⟨W1, hW1⟩ : ∃ W1, w.alloc (.cells #[.bool q.neg, .slice ad q.num.length ca, .slice bd q.den.length cb] 44) = W1 := ⟨_, rfl⟩
  obtain ⟨W2, hW2⟩ : ∃ W2, W1.alloc (.cells #[.slice none 0 0, .slice none 0 0] 26) = W2 := ⟨_, rfl⟩
  have s1 : W1.heap.size = B + 1 := by rw [← hW1, ← hB]; simp
  have s2 : W2.heap.size = B + 1 + 1 := by rw [← hW2, World.size_alloc, s1]
  have R0 : Row W2 B 44 #[.bool q.neg, .slice ad q.num.length ca, .slice bd q.den.length cb] := by rw [← hW2, ← hW1, ← hB]; exact (Row.new _ _ _).alloc _
  have R1 : Row W2 (B + 1) 26 #[.slice none 0 0, .slice none 0 0] := by rw [← hW2, ← s1]; exact Row.new _ _ _
  have hb2 : Below B w W2 := by rw [← hW2, ← hW1]; exact ((Below.refl _ w).alloc (by omega) _).alloc (by simp; omega) _
  have a2 := ha.later (by rw [hB]; exact hb2)
  obtain ⟨c0, c1, c2, _, _, _⟩ := R0.three
  go_enter Tryz.func23, Tryz.ntmps23
  go_wp2_with fail
  refine (norm_any a2 (by omega)).mono ?_
  rintro e w3 ⟨r3, rfl, Q3', b3⟩
  have HQ := Lib.hid Q3'
  obtain ⟨m5, f1, l1, j1, f2, l2, j2, rfl⟩ := Q3'.shape
  have s3 := b3.size
  obtain ⟨W4, hW4⟩ : ∃ W4, w3.alloc (.cells #[.bool m5, .slice f1 l1 j1, .slice f2 l2 j2] 44) = W4 := ⟨_, rfl⟩
  have b4 : Below w3.heap.size w3 W4 := by rw [← hW4]; exact (Below.refl _ _).alloc (Nat.le_refl _) _
  have own4 : OwnE w3.heap.size 44 W4 (.slice (some ⟨w3.heap.size, 0, none⟩) 1 1) [⟨.bool m5, .slice f1 l1 j1, .slice f2 l2 j2⟩] := by
    rw [← hW4]; exact World.ownsRow_lit w3 _ 1 (Nat.le_refl _) (by unfold maxLen; omega) rfl
  have Q4 : ResQ B W4 (.agg #[.bool m5, .slice f1 l1 j1, .slice f2 l2 j2]) q.rat (n + 2) := (HQ.out.later b4).mono (by omega)
  have RW := (R1.later b3).later b4
  obtain ⟨u0, u1, u2, u3⟩ := RW.two
  have RW2 := RW.set2 (.slice none 0 0) (.slice (some ⟨w3.heap.size, 0, none⟩) 1 1)
  obtain ⟨y0, y1, _, _⟩ := RW2.two
  have HRW := Lib.hid RW
  clear Q3' RW RW2 c0 c1 c2 R0 R1
  go_wp2_with fail
  refine bodyPost_ret (v := .agg #[.slice none 0 0, .slice (some ⟨w3.heap.size, 0, none⟩) 1 1]) (by simp [results, Tryz.results23, go_sem, y0, y1]) rfl ⟨_, rfl, ⟨none, some ⟨w3.heap.size, 0, none⟩, 0, 1, rfl, ?_, ?_⟩, ?_⟩
  · exact ⟨World.ownsRow_nil _ _ _ _, fun x hx => by cases hx⟩
  · rw [hB]
    exact RowO.far (P := fun W v x => ResQ B W v x (n + 2)) ⟨_, OwnE.mono own4 (by omega), ⟨rfl, fun i e x h1 h2 => by
      cases i with
      | zero => simp at h1 h2; subst h1; subst h2; exact Q4
      | succ i => simp at h1⟩⟩ HRW.out (by decide) (kept2 _ _) (fun u y h => h.far HRW.out (by decide) (kept2 _ _))
  · rw [hB]; exact below_set2 (g := B + 1) ((hb2.trans (b3.mono (by omega))).trans (b4.mono (by omega))) (by omega) _ _

set_option maxRecDepth 100000 in
set_option maxHeartbeats 8000000 in
theorem copyT7_any {n : Nat} {w : World} {v : Value} {s : List Int} {qs : List Q3} {a b : Option Addr} {ca cb : Nat} (T : TensQ w v s qs a ca b cb) (hs : s.length ≤ 1048576) (hq : qs.length ≤ 1048576) (hl : lensQ qs n) (hn : n ≤ 4000000) :
    Calls Tryz.prog 24 #[v] w fun e w' => ∃ r, e = .returned r ∧ ResC w.heap.size w' r s qs ∧ Below w.heap.size w w' := by
  obtain rfl := T.is
  obtain ⟨B, hB⟩ : ∃ B, w.heap.size = B := ⟨_, rfl⟩
  obtain ⟨W1, hW1⟩ : ∃ W1, w.alloc (.cells #[.slice a s.length ca, .slice b qs.length cb] 26) = W1 := ⟨_, rfl⟩
  obtain ⟨W2, hW2⟩ : ∃ W2, W1.alloc (.cells #[.slice none 0 0, .slice none 0 0] 26) = W2 := ⟨_, rfl⟩
  have s1 : W1.heap.size = B + 1 := by rw [← hW1, ← hB]; simp
  have s2 : W2.heap.size = B + 1 + 1 := by rw [← hW2, World.size_alloc, s1]
  have R0 : Row W2 B 26 #[.slice a s.length ca, .slice b qs.length cb] := by rw [← hW2, ← hW1, ← hB]; exact (Row.new _ _ _).alloc _
  have R1 : Row W2 (B + 1) 26 #[.slice none 0 0, .slice none 0 0] := by rw [← hW2, ← s1]; exact Row.new _ _ _
  have hb2 : Below B w W2 := by rw [← hW2, ← hW1]; exact ((Below.refl _ w).alloc (by omega) _).alloc (by simp; omega) _
  have T2 := T.later (by rw [hB]; exact hb2)
  have HT := Lib.hid T2
  obtain ⟨c0, c1, _, _⟩ := R0.two
  have HL := Lib.hid hl
  clear T T2 hl
  go_enter Tryz.func24, Tryz.ntmps24
  go_wp2_with fail
  have mkS : ∀ Y, Below W2.heap.size W2 Y → Y.cell? ⟨B, 0, none⟩ = some (.slice a s.length ca) ∧ Y.cell? ⟨B, 1, none⟩ = some (.slice b qs.length cb) := fun Y hb => by
    obtain ⟨x0, x1, _⟩ := (R0.later hb).two
    exact ⟨x0, x1⟩
  have b0 : Below W2.heap.size W2 W2.drew := (Below.refl _ W2).drew
  refine wp_region_L (S := fun Y => Y.cell? ⟨B, 0, none⟩ = some (.slice a s.length ca) ∧ Y.cell? ⟨B, 1, none⟩ = some (.slice b qs.length cb)) (z := 7) (by kernel_rfl) (mkS _ b0) (fun hHeld => ?_)
  refine wpAnyL_take (i := 0) (v := ?va0) rfl (by kernel_rfl) (by kernel_rfl) (by kernel_rfl) (by kernel_rfl) (fun _ _ _ h => h) (Or.inl ⟨by rfl, ?ha0⟩) (by assumption) ?ra0
  case ha0 =>
    intro w hSw
    try dsimp only at hSw
    go_simp
    try with_reducible rfl
  try simp only [Act.put, List.setIfInBounds_toArray, List.set_cons_zero, List.set_cons_succ]
  refine wpAnyL_take (i := 1) (v := ?va1) rfl (by kernel_rfl) (by kernel_rfl) (by kernel_rfl) (by kernel_rfl) (fun _ _ _ h => h) (Or.inl ⟨by rfl, ?ha1⟩) (by assumption) ?ra1
  case ha1 =>
    intro w hSw
    try dsimp only at hSw
    go_simp
    try with_reducible rfl
  try simp only [Act.put, List.setIfInBounds_toArray, List.set_cons_zero, List.set_cons_succ]
  refine wpAnyL_take (i := 3) (v := ?va3) rfl (by kernel_rfl) (by kernel_rfl) (by kernel_rfl) (by kernel_rfl) (fun _ _ _ h => h) (Or.inl ⟨by rfl, ?ha3⟩) (by assumption) ?ra3
  case ha3 =>
    intro w hSw
    try dsimp only at hSw
    go_simp
    try with_reducible rfl
  try simp only [Act.put, List.setIfInBounds_toArray, List.set_cons_zero, List.set_cons_succ]
  refine wpAnyL_one (i := 2) (by kernel_rfl) rfl (fun K hK => ?sb2)
  go_simp
  refine (copyShape_any (HT.out.sh.later b0) (by omega)).mono ?_
  rintro e w3 ⟨r3, rfl, R3, b3⟩
  obtain ⟨g1, k1, rfl⟩ := resS_slice R3
  go_simp
  have b03 : Below W2.heap.size W2 w3 := b0.trans b3
  have s3 := b03.size
  refine hK.out _ _ (fun _ => mkS _ b03) (fun hHeld2 => ?mb03)
  clear hK K hHeld
  have hHeld := hHeld2 (by decide)
  clear hHeld2
  try simp only [Act.put, List.setIfInBounds_toArray, List.set_cons_zero, List.set_cons_succ]
  refine wpAnyL_one (i := 4) (by kernel_rfl) rfl (fun K hK => ?sb4)
  go_simp
  refine (elements_any _ _ _ _ _ _ _).mono ?_
  rintro e w4 ⟨rfl, b4⟩
  go_simp
  have b04 : Below W2.heap.size W2 w4 := b03.trans (b4.mono s3)
  have s4 := b4.size
  refine hK.out _ _ (fun _ => mkS _ b04) (fun hHeld2 => ?mb04)
  clear hK K hHeld
  have hHeld := hHeld2 (by decide)
  clear hHeld2
  try simp only [Act.put, List.setIfInBounds_toArray, List.set_cons_zero, List.set_cons_succ]
  refine wpAnyL_one (i := 5) (by kernel_rfl) rfl (fun K hK => ?sb5)
  go_simp
  refine (madeC_any (HT.out.el.later b04 (fun v x _ k => k.later b04)) (by omega) HL.out (by omega)).mono ?_
  rintro e w5 ⟨r5, rfl, R5, b5⟩
  obtain ⟨g2, k2, rfl⟩ := rowO_slice R5
  go_simp
  have b05 : Below W2.heap.size W2 w5 := b04.trans (b5.mono (by omega))
  refine hK.out _ _ (fun _ => mkS _ b05) (fun hHeld2 => ?mb05)
  clear hK K hHeld
  have hHeld := hHeld2 (by decide)
  clear hHeld2
  try simp only [Act.put, List.setIfInBounds_toArray, List.set_cons_zero, List.set_cons_succ]
  refine wpAnyL_take (i := 6) (v := ?va6) rfl (by kernel_rfl) (by kernel_rfl) (by kernel_rfl) (by kernel_rfl) (fun _ _ _ h => h) (Or.inl ⟨by rfl, ?ha6⟩) (by assumption) ?ra6
  case ha6 =>
    intro w hSw
    try dsimp only at hSw
    go_simp
    try with_reducible rfl
  try simp only [Act.put, List.setIfInBounds_toArray, List.set_cons_zero, List.set_cons_succ]
  have R6 := R1.later b05
  obtain ⟨u0, u1, u2, u3⟩ := R6.two
  have R7 := R6.set2 (.slice g1 s.length k1) (.slice g2 qs.length k2)
  obtain ⟨y0, y1, _, _⟩ := R7.two
  refine wpAnyL_one (i := 7) (by kernel_rfl) rfl (fun K hK => ?sb7)
  go_simp
  refine hK.out _ _ (fun h => absurd rfl h) (fun _ => ?mb7)
  clear hK K
  try simp only [Act.put, List.setIfInBounds_toArray, List.set_cons_zero, List.set_cons_succ]
  refine wpAnyL_done (by kernel_rfl) ?_ _
  have HR6 := Lib.hid R6
  clear R6 R7 u0 u1
  go_wp2
  refine bodyPost_ret (v := .agg #[.slice g1 s.length k1, .slice g2 qs.length k2]) (by simp [results, Tryz.results24, go_sem, y0, y1]) rfl ⟨_, rfl, ⟨g1, g2, k1, k2, rfl, ?_, ?_⟩, ?_⟩
  · rw [hB]; exact (((R3.later b4).later b5).mono (by show B ≤ W2.heap.size; omega)).far HR6.out (by decide) (kept2 _ _)
  · rw [hB]; exact RowO.far (R5.mono (base' := B) (Q := fun W v x => RawO B W v x) (by omega) (fun v x h => h.mono (by omega))) HR6.out (by decide) (kept2 _ _) (fun u y h => h.far HR6.out (by decide) (kept2 _ _))
  · rw [hB]; exact below_set2 (g := B + 1) (hb2.trans (b05.mono (by omega))) (by omega) _ _
end Go.Proofs.YtnhfjacifajdlaaGreat
