/-
  slices.Repeat of a slice of one struct. (Made by wip/gen/gen_trep.py.)
-/
import Derived.Test.YtnhfjacifajdlaaGreatTRep0
namespace Go.Proofs.YtnhfjacifajdlaaGreat
open Go.RowKit Go.Shelf
set_option linter.unusedVariables false
set_option linter.unusedSimpArgs false

theorem sizeQ3 : (Tryz.prog.info? 44).map (·.size) = some 3 := by kernel_rfl
theorem make_fullQ (m : Nat) (hc : m ≤ 1000000000000) (w : World) :
    (Instr.makeSlice 76 (.int .i64 (m : Int)) (.int .i64 (m : Int))).run Tryz.prog w = .ok (.slice (some ⟨w.heap.size, 0, none⟩) m m) (w.alloc (.cells (madeCells #[.bool false, .slice none 0 0, .slice none 0 0] (m * 3)) 44)) := by
  obtain ⟨i0, hi, hz0, hz1, hz2⟩ := info_parts infoQ7
  have h := run_make (P := Tryz.prog) w 76 44 i0 (.agg #[.bool false, .slice none 0 0, .slice none 0 0]) Tryz.underlying76 hi hz0 .i64 .i64 m m (by omega) (by omega) (by rw [hz2]; omega) (by omega)
  simpa [hz1, Value.cells] using h
theorem goInt_nat (n : Nat) : goInt (n : Int) = .int .i64 (n : Int) := rfl
set_option maxRecDepth 100000 in
set_option maxHeartbeats 8000000 in
theorem repeatQ_any {w : World} {g : Nat} {e : E3} (R : Row w g 44 #[e.a, e.b, e.c]) (h1 : e.a.oneCell' = true ∧ e.b.oneCell' = true ∧ e.c.oneCell' = true) (c : Nat) (hc0 : 1 ≤ c) (hc : c ≤ 1048576) :
    Calls Tryz.prog 56 #[.slice (some ⟨g, 0, none⟩) 1 1, .int .i64 (c : Int)] w fun r w' => ∃ k, r = .returned (.slice (some ⟨k, 0, none⟩) c c) ∧ w.heap.size ≤ k ∧ CellsE w' k 0 (List.replicate c e) ∧ Below w.heap.size w w' := by
  obtain ⟨B, hB⟩ : ∃ B, w.heap.size = B := ⟨_, rfl⟩
  have hmk := make_fullQ c (by omega)
  have hw1 : IntKind.u64.wrap (c : Int) = (c : Int) := by rw [IntKind.wrap_u64]; omega
  have hw2 : IntKind.i64.wrap (c : Int) = (c : Int) := by rw [IntKind.wrap_i64]; omega
  have hn1 : ¬ (c : Int) < 0 := by omega
  have hn2 : ¬ (9223372036854775807 : Int) < (c : Int) := by omega
  obtain ⟨L0, hL0⟩ : ∃ L0 : List Value, madeCells #[.bool false, .slice none 0 0, .slice none 0 0] (c * 3) = L0.toArray := ⟨_, (Array.toArray_toList).symm⟩
  have hlen : L0.length = c * 3 := by have := congrArg Array.size hL0; rw [madeCells_len] at this; simpa using this.symm
  rw [hL0] at hmk
  have HLEN := Lib.hid hlen
  clear hL0 hlen
  obtain ⟨W, hW⟩ : ∃ W, w.alloc (.cells L0.toArray 44) = W := ⟨_, rfl⟩
  have sW : W.heap.size = B + 1 := by rw [← hW, World.size_alloc, hB]
  have rW : W.heap[B]? = some (.cells L0.toArray 44 (0, 0)) := by rw [← hW, ← hB]; exact World.alloc_heap_new w _
  have bW : Below B w W := by rw [← hW]; exact (Below.refl _ w).alloc (by omega) _
  have RW := R.later (by rw [hB]; exact bW)
  have hcp : ∀ (ops : Array Oper) (rest : List Oper) (o : Oper) (a : Act) (Q : Exit → Act → World → Prop), o.guard = none → o.op = Op.call { callee := Callee.builtin Builtin.copy, args := #[.tmp 31, .tmp 32], argTypes := #[76, 76] } →
      a.eval (.tmp 31) = .slice (some ⟨B, 0, none⟩) c c → a.eval (.tmp 32) = .slice (some ⟨g, 0, none⟩) 1 1 →
      (∀ W', W'.heap[B]? = some (.cells (repE e 1 ++ L0.drop (1 * 3)).toArray 44 (0, 0)) → Below B w W' → wpList Tryz.prog ops Q rest (a.put o.dst (.int .i64 1)) W') → wpList Tryz.prog ops Q (o :: rest) a W := by
    intro ops rest o a Q hg ho hd hs hK
    have hmin : Nat.min 1 c = 1 := by show min 1 c = 1; omega
    refine wpList_copy_sized hg (.tmp 31) (.tmp 32) 76 76 ho 44 Tryz.underlying76 3 sizeQ3 B 0 c c ⟨g, 0, none⟩ 1 1 hd hs L0.toArray 44 rW (repE e 1) (by rw [hmin, repE_len]) (row_src (L := [e.a, e.b, e.c]) RW _ [] rfl) (by rw [repE_len]; have := HLEN.out; simp; omega) (repE_cells h1 1) ?_
    rw [hmin]
    have e2 : L0.toArray.toList.take 0 ++ repE e 1 ++ L0.toArray.toList.drop (0 + (repE e 1).length) = repE e 1 ++ L0.drop (1 * 3) := by rw [repE_len]; simp
    rw [e2]
    exact hK _ (setRow_heap W B _ _ _ _ rW) (below_setRow bW (Nat.le_refl _) _)
  go_enter Tryz.func56, Tryz.ntmps56
  go_wp2_with (first
    | (go_at_call 94; refine (mul_one c hc _).mono ?_; rintro r w1 ⟨rfl, rfl⟩)
    | (refine hcp _ _ _ _ _ rfl rfl rfl rfl ?_; intro W3 r3 b3))
  clear hmk hcp rW bW hW hw1 hw2 sW
  go_loopw [8] (fun i wr => ∃ k : Nat, i = .int .i64 (k : Int) ∧ 1 ≤ k ∧ k ≤ c ∧ wr.heap[B]? = some (.cells (repE e k ++ L0.drop (k * 3)).toArray 44 (0, 0)) ∧ Below B w1 wr) (fun i _ => c - (intOf i).toNat)
  case atStart => exact ⟨1, rfl, Nat.le_refl _, hc0, r3, b3⟩
  case round =>
    obtain ⟨k, rfl, hk1, hkc, hrow, hb⟩ := hrel
    by_cases hlt : k < c
    · have hltI : (k : Int) < (c : Int) := by omega
      obtain ⟨m, hm⟩ : ∃ m, Nat.min k (c - k) = m := ⟨_, rfl⟩
      have hm1 : m ≤ k ∧ m ≤ c - k ∧ 1 ≤ m := by
        have : min k (c - k) = m := hm
        omega
      have HM := Lib.hid hm
      have HR := Lib.hid hrow
      clear hm hrow
      have hwk : IntKind.i64.wrap ((k : Int) + (m : Int)) = ((k + m : Nat) : Int) := by rw [IntKind.wrap_i64]; omega
      go_wp2_with fail
      refine wp_region_held (S := fun _ => True) (by kernel_rfl) ?_
      have hHeld : True := trivial
      refine wpAnyH_take (i := 0) (v := ?va0) rfl (by kernel_rfl) (by kernel_rfl) (by kernel_rfl) (fun _ _ _ h => h) (Or.inl ⟨by rfl, ?ha0⟩) (by assumption) ?ra0
      case ha0 =>
        intro w hSw
        try dsimp only at hSw
        go_simp
        try with_reducible rfl
      try simp only [Act.put, List.setIfInBounds_toArray, List.set_cons_zero, List.set_cons_succ]
      refine wpAnyH_take (i := 1) (v := ?va1) rfl (by kernel_rfl) (by kernel_rfl) (by kernel_rfl) (fun _ _ _ h => h) (Or.inl ⟨by rfl, ?ha1⟩) (by assumption) ?ra1
      case ha1 =>
        intro w hSw
        try dsimp only at hSw
        go_simp
        try with_reducible rfl
      try simp only [Act.put, List.setIfInBounds_toArray, List.set_cons_zero, List.set_cons_succ]
      refine wpAnyH_take (i := 2) (v := ?va2) rfl (by kernel_rfl) (by kernel_rfl) (by kernel_rfl) (fun _ _ _ h => h) (Or.inl ⟨by rfl, ?ha2⟩) (by assumption) ?ra2
      case ha2 =>
        intro w hSw
        try dsimp only at hSw
        go_simp
        try with_reducible rfl
      try simp only [Act.put, List.setIfInBounds_toArray, List.set_cons_zero, List.set_cons_succ]
      refine wpAnyH_take (i := 3) (v := ?va3) rfl (by kernel_rfl) (by kernel_rfl) (by kernel_rfl) (fun _ _ _ h => h) (Or.inl ⟨by rfl, ?ha3⟩) (by assumption) ?ra3
      case ha3 =>
        intro w hSw
        try dsimp only at hSw
        go_simp
        try with_reducible rfl
      try simp only [Act.put, List.setIfInBounds_toArray, List.set_cons_zero, List.set_cons_succ]
      refine wpAnyH_take (i := 4) (v := ?va4) rfl (by kernel_rfl) (by kernel_rfl) (by kernel_rfl) (fun _ _ _ h => h) (Or.inl ⟨by rfl, ?ha4⟩) (by assumption) ?ra4
      case ha4 =>
        intro w hSw
        try dsimp only at hSw
        go_simp
        try with_reducible rfl
      try simp only [Act.put, List.setIfInBounds_toArray, List.set_cons_zero, List.set_cons_succ]
      refine wpAnyH_take (i := 5) (v := ?va5) rfl (by kernel_rfl) (by kernel_rfl) (by kernel_rfl) (fun _ _ _ h => h) (Or.inl ⟨by rfl, ?ha5⟩) (by assumption) ?ra5
      case ha5 =>
        intro w hSw
        try dsimp only at hSw
        go_simp
        try with_reducible rfl
      try simp only [Act.put, List.setIfInBounds_toArray, List.set_cons_zero, List.set_cons_succ]
      refine wpAnyH_take (i := 6) (v := ?va6) rfl (by kernel_rfl) (by kernel_rfl) (by kernel_rfl) (fun _ _ _ h => h) (Or.inl ⟨by rfl, ?ha6⟩) (by assumption) ?ra6
      case ha6 =>
        intro w hSw
        try dsimp only at hSw
        go_simp
        try with_reducible rfl
      try simp only [Act.put, List.setIfInBounds_toArray, List.set_cons_zero, List.set_cons_succ]
      refine wpAnyH_ready (rs := [7]) (by kernel_rfl) (by simp) ?_
      refine AllReadyH.cons rfl (fun K hK => ?s7) AllReadyH.nil
      have hsplit : repE e k ++ L0.drop (k * 3) = repE e m ++ (repE e (k - m) ++ L0.drop (k * 3)) := by rw [← List.append_assoc, ← repE_add, show m + (k - m) = k by omega]
      have hfit : (k + m) * 3 ≤ L0.length := by have := HLEN.out; omega
      refine step_copy_sized rfl (.tmp 41) (.tmp 44) 76 76 rfl 44 Tryz.underlying76 3 sizeQ3 B (k * 3) (c - k) (c - k) ⟨B, 0, none⟩ k c ?hd ?hs _ 44 HR.out (repE e m) ?hn (row_src HR.out _ _ hsplit) ?hf (repE_cells h1 m) ?_
      case hn => rw [HM.out, repE_len]
      case hf => rw [repE_len]; simp [repE_len]; omega
      case hd =>
        simp [Act.eval, Act.put]
        omega
      case hs =>
        simp [Act.eval, Act.put]
      rw [HM.out, show (repE e k ++ L0.drop (k * 3)).toArray.toList = repE e k ++ L0.drop (k * 3) from rfl, repE_grow e k m L0 hfit]
      have hrow' := setRow_heap wr B (repE e k ++ L0.drop (k * 3)).toArray (repE e (k + m) ++ L0.drop ((k + m) * 3)).toArray 44 _ HR.out
      have hb' := below_setRow (B := B) (g := B) (cs := (repE e (k + m) ++ L0.drop ((k + m) * 3)).toArray) hb.drew (Nat.le_refl _)
      refine hK.out _ _ trivial (fun hHeld => ?m7)
      clear hK K
      try simp only [Act.put, List.setIfInBounds_toArray, List.set_cons_zero, List.set_cons_succ]
      refine wpAnyH_take (i := 8) (v := ?va8) rfl (by kernel_rfl) (by kernel_rfl) (by kernel_rfl) (fun _ _ _ h => h) (Or.inl ⟨by rfl, ?ha8⟩) (by assumption) ?ra8
      case ha8 =>
        intro w hSw
        try dsimp only at hSw
        go_simp
        try with_reducible rfl
      try simp only [Act.put, List.setIfInBounds_toArray, List.set_cons_zero, List.set_cons_succ]
      refine wpAnyH_take (i := 9) (v := ?va9) rfl (by kernel_rfl) (by kernel_rfl) (by kernel_rfl) (fun _ _ _ h => h) (Or.inl ⟨by rfl, ?ha9⟩) (by assumption) ?ra9
      case ha9 =>
        intro w hSw
        try dsimp only at hSw
        go_simp
        try with_reducible rfl
      try simp only [Act.put, List.setIfInBounds_toArray, List.set_cons_zero, List.set_cons_succ]
      refine wpAnyH_done (by kernel_rfl) ?_ _
      go_wp2
      go_roundw
      case rel =>
        refine ⟨k + m, by omega, by omega, by omega, ?_⟩
        first | exact hrow' | exact ⟨hrow', hb'⟩
      case measure =>
        simp [intOf]
        omega
    · obtain rfl : k = c := by omega
      go_wp2
      go_ret
      refine ⟨B, rfl, by omega, fun i d hd => ?_, by rw [hB]; exact hb⟩
      have hi : i < k := by
        rcases Nat.lt_or_ge i k with g1 | g1
        · exact g1
        · rw [List.getElem?_eq_none (by simpa using g1)] at hd; cases hd
      obtain ⟨f0, f1, f2⟩ := flat3_at hd
      have hcell : ∀ j v, (repE e k)[j]? = some v → wr.cell? ⟨B, j, none⟩ = some v := fun j v hj => by
        have hlt : j < (repE e k).length := by
          rcases Nat.lt_or_ge j (repE e k).length with g1 | g1
          · exact g1
          · rw [List.getElem?_eq_none g1] at hj; cases hj
        have : (repE e k ++ L0.drop (k * 3))[j]? = some v := by rw [List.getElem?_append_left hlt]; exact hj
        simp [World.cell?, hrow, this]
      simp only [Nat.zero_add]
      exact ⟨hcell _ _ f0, hcell _ _ f1, hcell _ _ f2⟩
end Go.Proofs.YtnhfjacifajdlaaGreat
