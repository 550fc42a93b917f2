/-
  Package tensor as it landed: room, elements, copyShape, Make, Scalar, May.
-/
import Derived.Test.YtnhfjacifajdlaaGreatTMade
namespace Go.Proofs.YtnhfjacifajdlaaGreat
open Go.RowKit Go.Shelf
attribute [local go_sem] Oper.semAt_some
set_option linter.unusedVariables false
set_option linter.unusedSimpArgs false

set_option maxHeartbeats 2000000 in
theorem room_any {u : Value} {s : List Int} {a : Option Addr} {ca : Nat} {w : World} (A : ArgS w u s a ca) (n : Nat) :
    Calls Tryz.prog 44 #[u, .int .i64 (n : Int)] w fun e w' => e = .returned (.int .i64 (makeC s n)) ∧ w = w' := by
  have h1 := mayS_eq A
  have h2 := countS_eq A
  have e : makeC s n = if mayC s ≠ 0 then mayC s else if (n : Int) ≠ countS s then 13 else 0 := rfl
  obtain rfl := A.is
  rw [e]
  generalize mayC s = m at *
  generalize countS s = c at *
  clear e A
  by_cases h : m = 0
  · subst h
    by_cases hc : (n : Int) = c
    · have hn : ((n : Int) != c) = false := by simp [hc]
      have hd : (if (0 : Int) ≠ 0 then (0 : Int) else if (n : Int) ≠ c then 13 else 0) = 0 := by simp [hc]
      rw [hd]
      go_enter Tryz.func44, Tryz.ntmps44
      go_wp2_with (first | (go_at_call 55; refine h1.mono ?_; rintro e w1 ⟨rfl, rfl⟩) | (go_at_call 57; refine h2.mono ?_; rintro e w1 ⟨rfl, rfl⟩))
      go_ret
      exact ⟨rfl, rfl⟩
    · have hn : ((n : Int) != c) = true := by simp [hc]
      have hd : (if (0 : Int) ≠ 0 then (0 : Int) else if (n : Int) ≠ c then 13 else 0) = 13 := by simp [hc]
      rw [hd]
      go_enter Tryz.func44, Tryz.ntmps44
      go_wp2_with (first | (go_at_call 55; refine h1.mono ?_; rintro e w1 ⟨rfl, rfl⟩) | (go_at_call 57; refine h2.mono ?_; rintro e w1 ⟨rfl, rfl⟩))
      go_ret
      exact ⟨rfl, rfl⟩
  · have hn : (m != 0) = true := by simp [h]
    rw [if_pos h]
    go_enter Tryz.func44, Tryz.ntmps44
    go_wp2_with (first | (go_at_call 55; refine h1.mono ?_; rintro e w1 ⟨rfl, rfl⟩) | (go_at_call 57; refine h2.mono ?_; rintro e w1 ⟨rfl, rfl⟩))
    go_ret
    exact ⟨rfl, rfl⟩
theorem elements_any (a b : Option Addr) (n m ca cb : Nat) (w : World) :
    Calls Tryz.prog 45 #[.agg #[.slice a n ca, .slice b m cb]] w fun e w' => e = .returned (.slice b m cb) ∧ Below w.heap.size w w' := by
  go_enter Tryz.func45, Tryz.ntmps45
  go_wp2
  go_ret
  exact ⟨rfl, (Below.refl _ _).alloc (Nat.le_refl _) _⟩
theorem copyShape_any {u : Value} {s : List Int} {a : Option Addr} {ca : Nat} {w : World} (A : ArgS w u s a ca) (hs : s.length ≤ 17592186044416) :
    Calls Tryz.prog 52 #[u] w fun e w' => ∃ r, e = .returned r ∧ ResS w.heap.size w' r s ∧ Below w.heap.size w w' := by
  have h := copiedI_any A.lim A.le hs
  have hw := A.wf
  obtain rfl := A.is
  clear A
  go_enter Tryz.func52, Tryz.ntmps52
  go_wp2_with (go_at_call 88; refine h.mono ?_; rintro e w1 ⟨r, rfl, hr, hb⟩)
  go_ret
  exact ⟨_, rfl, ⟨hr, hw⟩, hb⟩
theorem resS_slice {base : Nat} {w : World} {v : Value} {s : List Int} (h : ResS base w v s) : ∃ a c, v = .slice a s.length c := ownT_slice h.num
theorem rowO_slice {α : Type} {base : Nat} {T : TypeId} {P : World → Value → α → Prop} {w : World} {v : Value} {L : List α} (h : RowO base T P w v L) : ∃ a c, v = .slice a L.length c := by
  obtain ⟨es, h1, h2⟩ := h
  rw [← h2.1]
  exact ownT_slice h1

set_option maxRecDepth 100000 in
set_option maxHeartbeats 4000000 in
theorem makeT7_any {n : Nat} {w : World} {u v : Value} {s : List Int} {qs : List Q3} {a b : Option Addr} {ca cb : Nat} (A : ArgS w u s a ca) (na : a = none → ca = 0) (E : RowA RawQ w v qs b cb) (nb : b = none → cb = 0) (hs : s.length ≤ 1048576) (hq : qs.length ≤ 1048576) (hl : lensQ qs n) (hn : n ≤ 4000000) :
    Calls Tryz.prog 15 #[u, v] w fun e w' => ∃ r, e = .returned (.tuple #[r, .int .i64 (makeC s qs.length)]) ∧ (makeC s qs.length = 0 → ResT w.heap.size w' r s (qs.map Q3.rat) (n + 2)) ∧ (makeC s qs.length ≠ 0 → r = noTensor) ∧ Below w.heap.size w w' := by
  obtain ⟨B, hB⟩ : ∃ B, w.heap.size = B := ⟨_, rfl⟩
  obtain ⟨W, hW⟩ : ∃ W, w.alloc (.cells #[.slice none 0 0, .slice none 0 0] 26) = W := ⟨_, rfl⟩
  have R0 : Row W B 26 #[.slice none 0 0, .slice none 0 0] := by rw [← hW, ← hB]; exact Row.new _ _ _
  have hb2 : Below B w W := by rw [← hW]; exact (Below.refl _ w).alloc (by omega) _
  have s2 : W.heap.size = B + 1 := by rw [← hW, World.size_alloc, hB]
  have A2 := A.later (by rw [hB]; exact hb2)
  have E2 := E.later (by rw [hB]; exact hb2) (fun v x _ k => k.later (by rw [hB]; exact hb2))
  have hr := room_any A2 qs.length
  obtain ⟨c0, c1, f0, f1⟩ := R0.two
  obtain rfl := A.is
  obtain rfl := E.is
  have HL := Lib.hid hl
  obtain ⟨c, hc⟩ : ∃ c, makeC s qs.length = c := ⟨_, rfl⟩
  rw [hc] at hr ⊢
  clear A E hl
  by_cases h : c = 0
  · subst h
    have hcs := copyShape_any A2 (by omega)
    go_enter Tryz.func15, Tryz.ntmps15
    go_wp2_with (first
      | (go_at_call 44; refine hr.mono ?_; rintro e w1 ⟨rfl, rfl⟩)
      | (go_at_call 52; refine hcs.mono ?_; rintro e w3 ⟨r3, rfl, R3, b3⟩; obtain ⟨g1, k1, rfl⟩ := resS_slice R3; have E3 := E2.later b3 (fun v x _ k => k.later b3))
      | (go_at_call 53; refine (madeN_any E3 (by omega) HL.out (by omega)).mono ?_; rintro e w4 ⟨r4, rfl, R4, b4⟩; obtain ⟨g2, k2, rfl⟩ := rowO_slice R4; rw [List.length_map] at R4 ⊢; have RW := (R0.later b3).later b4; obtain ⟨u0, u1, u2, u3⟩ := RW.two; have RW2 := RW.set2 (.slice g1 s.length k1) (.slice g2 qs.length k2); obtain ⟨y0, y1, _, _⟩ := RW2.two))
    have HRW := Lib.hid RW
    have s3 := b3.size
    clear RW RW2 c0 c1
    refine bodyPost_ret (v := .tuple #[.agg #[.slice g1 s.length k1, .slice g2 qs.length k2], .int .i64 0]) (by simp [results, Tryz.results15, go_sem, y0, y1]) rfl ⟨_, rfl, fun _ => ⟨g1, g2, k1, k2, by rw [List.length_map], ?_, ?_⟩, fun h => absurd rfl h, ?_⟩
    · rw [hB]; exact ((R3.later b4).mono (by show B ≤ W.heap.size; omega)).far HRW.out (by decide) (kept2 _ _)
    · rw [hB, List.length_map]; exact (RowO.far (R4.mono (base' := B) (Q := fun W v x => ResQ B W v x (n + 2)) (by omega) (fun v x h => h.mono (by omega))) HRW.out (by decide) (kept2 _ _) (fun u y h => h.far HRW.out (by decide) (kept2 _ _)))
    · rw [hB]; exact below_set2 (g := B) ((hb2.trans (b3.mono (by omega))).trans (b4.mono (by omega))) (Nat.le_refl _) _ _
  · have hn : (c != 0) = true := by simp [h]
    go_enter Tryz.func15, Tryz.ntmps15
    go_wp2_with (go_at_call 44; refine hr.mono ?_; rintro e w1 ⟨rfl, rfl⟩)
    have RW2 := R0.set2 (.slice none 0 0) (.slice none 0 0)
    obtain ⟨y0, y1, _, _⟩ := RW2.two
    refine bodyPost_ret (v := .tuple #[noTensor, .int .i64 c]) (by simp [results, Tryz.results15, go_sem, y0, y1, noTensor]) rfl ⟨_, rfl, fun e => absurd e h, fun _ => rfl, ?_⟩
    rw [hB]
    exact below_set2 (g := B) hb2 (Nat.le_refl _) _ _
end Go.Proofs.YtnhfjacifajdlaaGreat
