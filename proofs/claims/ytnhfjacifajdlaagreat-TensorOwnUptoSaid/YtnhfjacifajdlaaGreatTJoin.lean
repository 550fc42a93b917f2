/-
  Package tensor as it landed: joined. (Made by wip/gen/gen_tjoin.py.)
-/
import Derived.Test.YtnhfjacifajdlaaGreatTCode9
namespace Go.Proofs.YtnhfjacifajdlaaGreat
open Go.RowKit Go.Shelf
set_option linter.unusedVariables false
set_option linter.unusedSimpArgs false

/-- the steps of a row of sums -/
def stepsD (p : Nat → Rat) (i len : Nat) : List Rat := (List.range len).map fun k => p (i + k + 1) - p (i + k)
theorem stepsD_len (p : Nat → Rat) (i len : Nat) : (stepsD p i len).length = len := by simp [stepsD]
theorem stepsD_take (p : Nat → Rat) (i : Nat) {k len : Nat} (h : k ≤ len) : (stepsD p i len).take k = stepsD p i k := by
  unfold stepsD
  rw [← List.map_take, List.take_range, Nat.min_eq_left h]
theorem stepsD_drop (p : Nat → Rat) (i : Nat) {k len : Nat} (h : k ≤ len) : (stepsD p i len).drop k = stepsD p (i + k) (len - k) := by
  unfold stepsD
  apply List.ext_getElem
  · simp
  · intro j h1 h2
    simp only [List.getElem_drop, List.getElem_map, List.getElem_range]
    rw [show i + k + j = i + (k + j) by omega]
theorem AllE.takeK {α : Type} {P : Value → α → Prop} {es : List E3} {L : List α} (h : AllE P es L) (k : Nat) : AllE P (es.take k) (L.take k) :=
  ⟨by simp [h.1], fun i e x h1 h2 => by
    rw [List.getElem?_take] at h1 h2
    split at h1
    · rename_i hi
      rw [if_pos hi] at h2
      exact h.2 i e x h1 h2
    · cases h1⟩
theorem AllE.dropK {α : Type} {P : Value → α → Prop} {es : List E3} {L : List α} (h : AllE P es L) (k : Nat) : AllE P (es.drop k) (L.drop k) :=
  ⟨by simp [h.1], fun i e x h1 h2 => by
    rw [List.getElem?_drop] at h1 h2
    exact h.2 _ e x h1 h2⟩
theorem RowA.takeK {α : Type} {P : World → Value → α → Prop} {w : World} {L : List α} {ad : Option Addr} {n cap : Nat} (h : RowA P w (.slice ad n cap) L ad cap) {k : Nat} (hk : k ≤ L.length) : RowA P w (.slice ad k cap) (L.take k) ad cap := by
  refine ⟨by rw [List.length_take, Nat.min_eq_left hk], by rw [List.length_take]; have := h.le; omega, ?_⟩
  rcases h.els with e | ⟨b, o, es, e, c, a⟩
  · exact .inl (by rw [e]; simp)
  · exact .inr ⟨b, o, es.take k, e, fun i d hd => c i d (by
      rw [List.getElem?_take] at hd
      split at hd
      · exact hd
      · cases hd), a.takeK k⟩
theorem RowA.dropK {α : Type} {P : World → Value → α → Prop} {w : World} {L : List α} {b o n cap : Nat} (h : RowA P w (.slice (some ⟨b, o, none⟩) n cap) L (some ⟨b, o, none⟩) cap) {k : Nat} (hk : k ≤ L.length) : RowA P w (.slice (some ⟨b, o + k * 3, none⟩) (n - k) (cap - k)) (L.drop k) (some ⟨b, o + k * 3, none⟩) (cap - k) := by
  have hn : n = L.length := by have := h.is; simp only [Value.slice.injEq] at this; exact this.2.1
  refine ⟨by rw [List.length_drop, hn], by rw [List.length_drop]; have := h.le; omega, ?_⟩
  rcases h.els with e | ⟨b', o', es, e, c, a⟩
  · exact .inl (by rw [e]; simp)
  · simp only [Option.some.injEq, Addr.mk.injEq, and_true] at e
    obtain ⟨rfl, rfl⟩ := e
    refine .inr ⟨b, o + k * 3, es.drop k, rfl, fun i d hd => ?_, a.dropK k⟩
    rw [List.getElem?_drop] at hd
    have := c _ d hd
    rw [show o + (k + i) * 3 = o + k * 3 + i * 3 by omega] at this
    exact this
theorem ResQ.argQ {base n : Nat} {w : World} {v : Value} {x : Rat} (h : ResQ base w v x n) : ArgQ w v x n := by
  obtain ⟨q, k1, k2, k3, k4, _⟩ := h.raw
  rw [← k2]
  exact k1.arg k3 k4

set_option maxRecDepth 100000 in
set_option maxHeartbeats 8000000 in
theorem joinedQ_any {base m B2 N : Nat} (p : Nat → Rat) (hf : ∀ i j, i ≤ j → j ≤ N → FitQ (p j - p i) B2) (hm : m = B2 / 32 + 1) (hm2 : m ≤ 8000000) (hN : N ≤ 1048576) :
    ∀ (len i : Nat), 1 ≤ len → i + len ≤ N → ∀ (w : World) (ad : Option Addr) (cap : Nat), RowA (fun W v x => ResQ base W v x m) w (.slice ad len cap) (stepsD p i len) ad cap → base ≤ w.heap.size →
      Calls Tryz.prog 72 #[.slice ad len cap, .func (.func 40) #[] #[]] w fun e w' => ∃ r, e = .returned r ∧ ResQ base w' r (p (i + len) - p i) m ∧ Below w.heap.size w w' := by
  intro len
  induction len using Nat.strongRecOn with
  | _ len ih =>
  intro i hl hi w ad cap h hbase
  have hlen := stepsD_len p i len
  obtain ⟨bb, o, x0, x1, x2, q0, hbo, hq0, e0, e1, e2, hr0⟩ := h.at (i := 0) (by rw [hlen]; omega)
  subst hbo
  obtain ⟨B, hB⟩ : ∃ B, w.heap.size = B := ⟨_, rfl⟩
  obtain ⟨W, hW⟩ : ∃ W, w.alloc (.cells #[.bool false, .slice none 0 0, .slice none 0 0] 44) = W := ⟨_, rfl⟩
  have sW : W.heap.size = B + 1 := by rw [← hW, World.size_alloc, hB]
  have R0 : Row W B 44 #[.bool false, .slice none 0 0, .slice none 0 0] := by rw [← hW, ← hB]; exact Row.new _ _ _
  have bW : Below B w W := by rw [← hW]; exact (Below.refl _ w).alloc (by omega) _
  have bW' : Below w.heap.size w W := by rw [hB]; exact bW
  have h' := h.later bW' (fun v x _ k => k.later bW')
  obtain ⟨y0, y1, y2, z0, z1, z2⟩ := R0.three
  have hcap := h.le
  rw [hlen] at hcap
  by_cases h1 : len = 1
  · subst h1
    have hq : q0 = p (i + 1) - p i := by
      unfold stepsD at hq0
      simpa using hq0.symm
    subst hq
    have hr1 := hr0.later bW'
    have E0 := (bW'.cell (p := ⟨bb, o + 0 * 3, none⟩) (World.block_lt_of_cell? _ _ e0)).trans e0
    have E1 := (bW'.cell (p := ⟨bb, o + 0 * 3 + 1, none⟩) (World.block_lt_of_cell? _ _ e1)).trans e1
    have E2 := (bW'.cell (p := ⟨bb, o + 0 * 3 + 2, none⟩) (World.block_lt_of_cell? _ _ e2)).trans e2
    obtain ⟨a1, a2, a3, a4, a5, a6, a7, ha⟩ := hr0.shape
    simp only [Value.agg.injEq, Array.mk.injEq, List.cons.injEq, and_true] at ha
    obtain ⟨rfl, rfl, rfl⟩ := ha
    simp only [Nat.zero_mul, Nat.add_zero] at E0 E1 E2
    have R3 := R0.set3 (.bool a1) (.slice a2 a3 a4) (.slice a5 a6 a7)
    obtain ⟨v0, v1, v2, _⟩ := R3.three
    have HR := Lib.hid hr1
    have HR0 := Lib.hid R0
    clear h h' ih R3 R0 hr0 hr1 e0 e1 e2
    go_enter Tryz.func72, Tryz.ntmps72
    go_wp2_with fail
    refine bodyPost_ret (v := .agg #[.bool a1, .slice a2 a3 a4, .slice a5 a6 a7]) (by simp [results, Tryz.results72, go_sem, v0, v1, v2]) rfl ⟨_, rfl, ?_, ?_⟩
    · exact HR.out.far HR0.out (by decide) (kept3 _ _ _)
    · rw [hB]; exact below_set3 (g := B) bW (Nat.le_refl _) _ _ _
  · obtain ⟨k, hk⟩ : ∃ k, len / 2 = k := ⟨_, rfl⟩
    have hk1 : 1 ≤ k ∧ k < len := by omega
    have htd : Int.tdiv (len : Int) 2 = (k : Int) := by rw [Int.tdiv_eq_ediv_of_nonneg (by omega)]; omega
    have hne : ((len : Int) == 1) = false := by simp; omega
    have hA := h'.takeK (k := k) (by rw [hlen]; omega)
    have hD := h'.dropK (k := k) (by rw [hlen]; omega)
    rw [stepsD_take p i (by omega)] at hA
    rw [stepsD_drop p i (by omega)] at hD
    have hkI : (k : Int) ≤ (len : Int) := by omega
    have hkI2 : (k : Int) < (len : Int) := by omega
    have hk0 : (0 : Int) ≤ (k : Int) := by omega
    have hkc : (k : Int) ≤ (cap : Int) := by omega
    have hlc : (len : Int) ≤ (cap : Int) := by omega
    have hkn : ¬ cap = k := by omega
    have HA := Lib.hid hA
    have HD := Lib.hid hD
    have HR0 := Lib.hid R0
    have ihA := ih k (by omega) i (by omega) (by omega)
    have ihD := ih (len - k) (by omega) (i + k) (by omega) (by omega)
    have hsum : i + k + (len - k) = i + len := by omega
    rw [hsum] at ihD
    have HSUM := Lib.hid hsum
    have HK := Lib.hid hk
    clear h h' ih hA hD R0 hr0 e0 e1 e2 hq0 hk hsum y0 y1 y2 z0 z1 z2
    go_enter Tryz.func72, Tryz.ntmps72
    go_wp2_with fail
    refine wp_region_held (S := fun _ => True) (by kernel_rfl) ?_
    have hHeld : True := trivial
    refine wpAnyH_take (i := 0) (v := ?va0) rfl (by kernel_rfl) (by kernel_rfl) (by kernel_rfl) (fun _ _ _ h => h) (Or.inl ⟨by rfl, ?ha0⟩) (by assumption) ?ra0
    case ha0 =>
      intro w hSw
      try dsimp only at hSw
      go_simp
      try with_reducible rfl
    try simp only [Act.put, List.setIfInBounds_toArray, List.set_cons_zero, List.set_cons_succ]
    refine wpAnyH_take (i := 1) (v := ?va1) rfl (by kernel_rfl) (by kernel_rfl) (by kernel_rfl) (fun _ _ _ h => h) (Or.inl ⟨by rfl, ?ha1⟩) (by assumption) ?ra1
    case ha1 =>
      intro w hSw
      try dsimp only at hSw
      go_simp
      try with_reducible rfl
    try simp only [Act.put, List.setIfInBounds_toArray, List.set_cons_zero, List.set_cons_succ]
    refine wpAnyH_take (i := 2) (v := ?va2) rfl (by kernel_rfl) (by kernel_rfl) (by kernel_rfl) (fun _ _ _ h => h) (Or.inl ⟨by rfl, ?ha2⟩) (by assumption) ?ra2
    case ha2 =>
      intro w hSw
      try dsimp only at hSw
      go_simp
      try with_reducible rfl
    try simp only [Act.put, List.setIfInBounds_toArray, List.set_cons_zero, List.set_cons_succ]
    refine wpAnyH_take (i := 3) (v := ?va3) rfl (by kernel_rfl) (by kernel_rfl) (by kernel_rfl) (fun _ _ _ h => h) (Or.inl ⟨by rfl, ?ha3⟩) (by assumption) ?ra3
    case ha3 =>
      intro w hSw
      try dsimp only at hSw
      go_simp
      try with_reducible rfl
    try simp only [Act.put, List.setIfInBounds_toArray, List.set_cons_zero, List.set_cons_succ]
    refine wpAnyH_take (i := 4) (v := ?va4) rfl (by kernel_rfl) (by kernel_rfl) (by kernel_rfl) (fun _ _ _ h => h) (Or.inl ⟨by rfl, ?ha4⟩) (by assumption) ?ra4
    case ha4 =>
      intro w hSw
      try dsimp only at hSw
      go_simp
      try with_reducible rfl
    try simp only [Act.put, List.setIfInBounds_toArray, List.set_cons_zero, List.set_cons_succ]
    refine wpAnyH_take (i := 6) (v := ?va6) rfl (by kernel_rfl) (by kernel_rfl) (by kernel_rfl) (fun _ _ _ h => h) (Or.inl ⟨by rfl, ?ha6⟩) (by assumption) ?ra6
    case ha6 =>
      intro w hSw
      try dsimp only at hSw
      go_simp
      try with_reducible rfl
    try simp only [Act.put, List.setIfInBounds_toArray, List.set_cons_zero, List.set_cons_succ]
    refine wpAnyH_take (i := 7) (v := ?va7) rfl (by kernel_rfl) (by kernel_rfl) (by kernel_rfl) (fun _ _ _ h => h) (Or.inl ⟨by rfl, ?ha7⟩) (by assumption) ?ra7
    case ha7 =>
      intro w hSw
      try dsimp only at hSw
      go_simp
      try with_reducible rfl
    try simp only [Act.put, List.setIfInBounds_toArray, List.set_cons_zero, List.set_cons_succ]
    refine wpAnyH_take (i := 8) (v := ?va8) rfl (by kernel_rfl) (by kernel_rfl) (by kernel_rfl) (fun _ _ _ h => h) (Or.inl ⟨by rfl, ?ha8⟩) (by assumption) ?ra8
    case ha8 =>
      intro w hSw
      try dsimp only at hSw
      go_simp
      try with_reducible rfl
    try simp only [Act.put, List.setIfInBounds_toArray, List.set_cons_zero, List.set_cons_succ]
    refine wpAnyH_take (i := 9) (v := ?va9) rfl (by kernel_rfl) (by kernel_rfl) (by kernel_rfl) (fun _ _ _ h => h) (Or.inl ⟨by rfl, ?ha9⟩) (by assumption) ?ra9
    case ha9 =>
      intro w hSw
      try dsimp only at hSw
      go_simp
      try with_reducible rfl
    try simp only [Act.put, List.setIfInBounds_toArray, List.set_cons_zero, List.set_cons_succ]
    refine wpAnyH_ready (rs := [5]) (by kernel_rfl) (by simp) ?_
    refine AllReadyH.cons rfl (fun K hK => ?sc5) AllReadyH.nil
    go_simp
    refine (ihA _ _ _ (HA.out.later (Below.refl _ W).drew (fun v x _ k => k.later (Below.refl _ W).drew)) (by show base ≤ W.heap.size; omega)).mono ?_
    rintro e w3 ⟨r3, rfl, Q3', b3⟩
    obtain ⟨m5, f1, l1, j1, f2, l2, j2, rfl⟩ := Q3'.shape
    have b03 : Below W.heap.size W w3 := (Below.refl _ W).drew.trans b3
    have s3 := b03.size
    go_simp
    refine hK.out _ _ ?kc5 (fun hHeld => ?mc5)
    case kc5 =>
      try dsimp only
      skip
    clear hK K
    try simp only [Act.put, List.setIfInBounds_toArray, List.set_cons_zero, List.set_cons_succ]
    refine wpAnyH_ready (rs := [10]) (by kernel_rfl) (by simp) ?_
    refine AllReadyH.cons rfl (fun K hK => ?sc10) AllReadyH.nil
    go_simp
    refine (ihD _ _ _ (HD.out.later b03 (fun v x _ k => k.later b03)) (by omega)).mono ?_
    rintro e w4 ⟨r4, rfl, Q4, b4⟩
    obtain ⟨m6, g1, p1, i1, g2, p2, i2, rfl⟩ := Q4.shape
    have b04 : Below W.heap.size W w4 := b03.trans (b4.mono s3)
    have s4 := b4.size
    go_simp
    refine hK.out _ _ ?kc10 (fun hHeld => ?mc10)
    case kc10 =>
      try dsimp only
      skip
    clear hK K
    try simp only [Act.put, List.setIfInBounds_toArray, List.set_cons_zero, List.set_cons_succ]
    refine wpAnyH_ready (rs := [11]) (by kernel_rfl) (by simp) ?_
    refine AllReadyH.cons rfl (fun K hK => ?sc11) AllReadyH.nil
    go_simp
    refine (addQ_any (Q3'.later b4).argQ Q4.argQ (by omega)).mono ?_
    rintro e w5 ⟨r5, rfl, Q5, b5⟩
    obtain ⟨m7, h1, n1, t1, h2, n2, t2, rfl⟩ := Q5.shape
    have b05 : Below W.heap.size W w5 := b04.trans (b5.mono (by omega))
    go_simp
    refine hK.out _ _ ?kc11 (fun hHeld => ?mc11)
    case kc11 =>
      try dsimp only
      skip
    clear hK K
    try simp only [Act.put, List.setIfInBounds_toArray, List.set_cons_zero, List.set_cons_succ]
    have R5 := HR0.out.later b05
    obtain ⟨u0, u1, u2, u3, u4, u5⟩ := R5.three
    have R6 := R5.set3 (.bool m7) (.slice h1 n1 t1) (.slice h2 n2 t2)
    obtain ⟨v0, v1, v2, _⟩ := R6.three
    have HR5 := Lib.hid R5
    clear R5 R6
    refine wpAnyH_ready (rs := [12]) (by kernel_rfl) (by simp) ?_
    refine AllReadyH.cons rfl (fun K hK => ?sc12) AllReadyH.nil
    go_simp
    refine hK.out _ _ ?kc12 (fun hHeld => ?mc12)
    case kc12 =>
      try dsimp only
      skip
    clear hK K
    try simp only [Act.put, List.setIfInBounds_toArray, List.set_cons_zero, List.set_cons_succ]
    refine wpAnyH_done (by kernel_rfl) ?_ _
    have hX : p (i + k) - p i + (p (i + len) - p (i + k)) = p (i + len) - p i := by grind
    rw [hX] at Q5
    have Q6 : ResQ base w5 (.agg #[.bool m7, .slice h1 n1 t1, .slice h2 n2 t2]) (p (i + len) - p i) m := by
      rw [hm]
      exact (Q5.mono (by omega)).refit (hf _ _ (by omega) hi)
    have HQ := Lib.hid Q6
    clear Q5 Q6 Q4 Q3'
    go_wp2_with fail
    refine bodyPost_ret (v := .agg #[.bool m7, .slice h1 n1 t1, .slice h2 n2 t2]) (by simp [results, Tryz.results72, go_sem, v0, v1, v2]) rfl ⟨_, rfl, ?_, ?_⟩
    · exact HQ.out.far HR5.out (by decide) (kept3 _ _ _)
    · rw [hB]; exact below_set3 (g := B) (bW.trans (b05.mono (by omega))) (Nat.le_refl _) _ _ _
end Go.Proofs.YtnhfjacifajdlaaGreat
