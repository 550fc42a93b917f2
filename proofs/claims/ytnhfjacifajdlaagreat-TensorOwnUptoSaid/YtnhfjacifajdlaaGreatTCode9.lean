/-
  Package tensor as it landed: Full.
-/
import Derived.Test.YtnhfjacifajdlaaGreatTRep
namespace Go.Proofs.YtnhfjacifajdlaaGreat
open Go.RowKit Go.Shelf
set_option linter.unusedVariables false
set_option linter.unusedSimpArgs false

theorem allE_replicate {α β : Type} {P : Value → α → Prop} {Q : Value → β → Prop} {es : List E3} {c : Nat} {x : α} {y : β} (h : AllE P es (List.replicate c x)) (k : ∀ v, P v x → Q v y) : AllE Q es (List.replicate c y) := by
  refine ⟨by rw [h.1]; simp, fun i e z h1 h2 => ?_⟩
  have hz : z = y := (List.eq_of_mem_replicate (List.mem_of_getElem? h2))
  have hi : i < c := by
    rcases Nat.lt_or_ge i c with g | g
    · exact g
    · rw [List.getElem?_eq_none (by simpa using g)] at h2; cases h2
  subst hz
  exact k _ (h.2 i e x h1 (by simp [hi]))
theorem allE_same {α : Type} {P : Value → α → Prop} {e : E3} {x : α} (c : Nat) (h : P e.agg x) : AllE P (List.replicate c e) (List.replicate c x) := by
  refine ⟨by simp, fun i d z h1 h2 => ?_⟩
  have hz : z = x := (List.eq_of_mem_replicate (List.mem_of_getElem? h2))
  have hd : d = e := (List.eq_of_mem_replicate (List.mem_of_getElem? h1))
  subst hz
  subst hd
  exact h

set_option maxRecDepth 100000 in
set_option maxHeartbeats 8000000 in
theorem fullT7_any {n : Nat} {w : World} {u v : Value} {s : List Int} {q : Q3} {a : Option Addr} {ca : Nat} (A : ArgS w u s a ca) (na : a = none → ca = 0) (hv : RawQ w v q) (hs : s.length ≤ 1048576) (hl : q.num.length ≤ n ∧ q.den.length ≤ n) (hn : n ≤ 4000000) :
    Calls Tryz.prog 21 #[u, v] w fun e w' => ∃ r, e = .returned (.tuple #[r, .int .i64 (mayC s)]) ∧ (mayC s = 0 → ResT w.heap.size w' r s (List.replicate (countS s).toNat q.rat) (n + 2)) ∧ (mayC s ≠ 0 → r = noTensor) ∧ Below w.heap.size w w' := by
  have ha := hv.arg hl.1 hl.2
  obtain ⟨ad, bd, c1, c2, rfl⟩ := hv.box
  obtain rfl := A.is
  obtain ⟨B, hB⟩ : ∃ B, w.heap.size = B := ⟨_, rfl⟩
  obtain ⟨W1, hW1⟩ : ∃ W1, w.alloc (.cells #[.bool q.neg, .slice ad q.num.length c1, .slice bd q.den.length c2] 44) = W1 := ⟨_, rfl⟩
  obtain ⟨W2, hW2⟩ : ∃ W2, W1.alloc (.cells #[.slice none 0 0, .slice none 0 0] 26) = W2 := ⟨_, rfl⟩
  have s1 : W1.heap.size = B + 1 := by rw [← hW1, ← hB]; simp
  have s2 : W2.heap.size = B + 1 + 1 := by rw [← hW2, World.size_alloc, s1]
  have R0 : Row W2 B 44 #[.bool q.neg, .slice ad q.num.length c1, .slice bd q.den.length c2] := by rw [← hW2, ← hW1, ← hB]; exact (Row.new _ _ _).alloc _
  have R1 : Row W2 (B + 1) 26 #[.slice none 0 0, .slice none 0 0] := by rw [← hW2, ← s1]; exact Row.new _ _ _
  have hb2 : Below B w W2 := by rw [← hW2, ← hW1]; exact ((Below.refl _ w).alloc (by omega) _).alloc (by simp; omega) _
  have a2 := ha.later (by rw [hB]; exact hb2)
  have A2 := A.later (by rw [hB]; exact hb2)
  have hmay := mayS_eq A2
  have HA := Lib.hid A2
  obtain ⟨x0, x1, x2, _, _, _⟩ := R0.three
  obtain ⟨y0, y1, g0, g1⟩ := R1.two
  obtain ⟨m, hm⟩ : ∃ m, mayC s = m := ⟨_, rfl⟩
  rw [hm] at hmay ⊢
  by_cases h0 : m = 0
  · subst h0
    have ok := mayC_zero.1 hm
    obtain ⟨c, hc⟩ : ∃ c : Nat, countS s = (c : Int) := ⟨(countS s).toNat, by have := prodS_pos ok.pos; rw [ok.count]; omega⟩
    have hcr : 1 ≤ c ∧ c ≤ 1024 := by
      have h1 := prodS_pos ok.pos
      have h2 := ok.few
      rw [ok.count] at hc
      omega
    have hcount : ∀ Y, Below W2.heap.size W2 Y → Calls Tryz.prog 57 #[.slice a s.length ca] Y fun e w' => e = .returned (.int .i64 (c : Int)) ∧ Y = w' := fun Y hb => by
      have := countS_eq (HA.out.later hb)
      rw [hc] at this
      exact this
    rw [hc]
    clear A A2 hv ok hm hc ha
    go_enter Tryz.func21, Tryz.ntmps21
    go_wp2_with fail
    refine hmay.mono ?_
    rintro e w' ⟨rfl, rfl⟩
    go_wp2_with fail
    refine (norm_any a2 (by omega)).mono ?_
    rintro e w3 ⟨r3, rfl, Q3', b3⟩
    have HQ := Lib.hid Q3'
    obtain ⟨m5, f1, l1, j1, f2, l2, j2, rfl⟩ := Q3'.shape
    have s3 := b3.size
    obtain ⟨W4, hW4⟩ : ∃ W4, w3.alloc (.cells #[.bool m5, .slice f1 l1 j1, .slice f2 l2 j2] 44) = W4 := ⟨_, rfl⟩
    have b4 : Below w3.heap.size w3 W4 := by rw [← hW4]; exact (Below.refl _ _).alloc (Nat.le_refl _) _
    have R4 : Row W4 w3.heap.size 44 #[.bool m5, .slice f1 l1 j1, .slice f2 l2 j2] := by rw [← hW4]; exact Row.new _ _ _
    have b24 : Below W2.heap.size W2 W4 := b3.trans (b4.mono s3)
    have s4 := b4.size
    clear x0 x1 x2
    go_wp2_with fail
    (try rw [hW4])
    refine (hcount W4 b24).mono ?_
    rintro e w' ⟨rfl, rfl⟩
    go_wp2_with fail
    refine (repeatQ_any (e := ⟨.bool m5, .slice f1 l1 j1, .slice f2 l2 j2⟩) R4 (by simp [Value.oneCell']) c hcr.1 (by omega)).mono ?_
    rintro e w5 ⟨k, rfl, hk, C5, b5⟩
    have b25 : Below W2.heap.size W2 w5 := b24.trans (b5.mono b24.size)
    have s5 := b25.size
    go_wp2_with fail
    refine (copyShape_any (HA.out.later b25) (by omega)).mono ?_
    rintro e w6 ⟨r6, rfl, R6, b6⟩
    obtain ⟨g2, k2, rfl⟩ := resS_slice R6
    have b26 : Below W2.heap.size W2 w6 := b25.trans (b6.mono s5)
    obtain ⟨q', hraw, hrat, hl1, hl2, hok⟩ := ((HQ.out.later b4).later b5).later b6 |>.raw
    have E6 : RowA RawQ w6 (.slice (some ⟨k, 0, none⟩) c c) (List.replicate c q') (some ⟨k, 0, none⟩) c :=
      ⟨by simp, by simp, .inr ⟨k, 0, List.replicate c ⟨.bool m5, .slice f1 l1 j1, .slice f2 l2 j2⟩, rfl, C5.later b6, allE_same c hraw⟩⟩
    have hmade := madeC_any (n := n + 2) E6 (by simp; omega) (fun p hp => by rw [List.eq_of_mem_replicate hp]; exact ⟨hl1, hl2⟩) (by omega)
    go_wp2_with fail
    refine hmade.mono ?_
    rintro e w7 ⟨r7, rfl, R7, b7⟩
    obtain ⟨g3, k3, rfl⟩ := rowO_slice R7
    rw [List.length_replicate] at R7
    simp only [List.length_replicate]
    have b27 : Below W2.heap.size W2 w7 := b26.trans (b7.mono b26.size)
    have s6 := b26.size
    have R8 := R1.later b27
    obtain ⟨u0, u1, u2, u3⟩ := R8.two
    have R9 := R8.set2 (.slice g2 s.length k2) (.slice g3 c k3)
    obtain ⟨z0, z1, _, _⟩ := R9.two
    have HR8 := Lib.hid R8
    clear R8 R9 hmade
    go_wp2_with fail
    refine bodyPost_ret (v := .tuple #[.agg #[.slice g2 s.length k2, .slice g3 c k3], .int .i64 0]) (by simp [results, Tryz.results21, go_sem, z0, z1]) rfl ⟨_, rfl, fun _ => ⟨g2, g3, k2, k3, by simp, ?_, ?_⟩, fun h => absurd rfl h, ?_⟩
    · rw [hB]; exact ((R6.later b7).mono (by show B ≤ w5.heap.size; omega)).far HR8.out (by decide) (kept2 _ _)
    · rw [hB, List.length_replicate]
      obtain ⟨es7, o7, all7⟩ := R7
      exact RowO.far (P := fun W v x => ResQ B W v x (n + 2)) ⟨es7, o7.mono (by omega), allE_replicate all7 (fun v h => by
        have := (h.res hok hl1 hl2).mono (base' := B) (by omega)
        rw [hrat] at this
        exact this)⟩ HR8.out (by decide) (kept2 _ _) (fun u y h => h.far HR8.out (by decide) (kept2 _ _))
    · rw [hB]; exact below_set2 (g := B + 1) (hb2.trans (b27.mono (by omega))) (by omega) _ _
  · have hn' : (m != 0) = true := by simp [h0]
    have R9 := R1.set2 (.slice none 0 0) (.slice none 0 0)
    obtain ⟨z0, z1, _, _⟩ := R9.two
    go_enter Tryz.func21, Tryz.ntmps21
    go_wp2_with fail
    refine hmay.mono ?_
    rintro e w' ⟨rfl, rfl⟩
    go_wp2_with fail
    refine bodyPost_ret (v := .tuple #[noTensor, .int .i64 m]) (by simp [results, Tryz.results21, go_sem, z0, z1, noTensor]) rfl ⟨_, rfl, fun h => absurd h h0, fun _ => rfl, ?_⟩
    rw [hB]; exact below_set2 (g := B + 1) hb2 (by omega) _ _
end Go.Proofs.YtnhfjacifajdlaaGreat
