/-
  Package tensor as it landed: Bits, Same. (Made by wip/gen/gen_tcode7.py.)
-/
import Derived.Test.YtnhfjacifajdlaaGreatTCode6
namespace Go.Proofs.YtnhfjacifajdlaaGreat
open Go.RowKit Go.Shelf
attribute [local go_sem] Oper.semAt_some
set_option linter.unusedVariables false
set_option linter.unusedSimpArgs false

noncomputable def maxOf (g : Nat → Int) (ks : List Nat) : Int := ks.foldl (fun m i => max m (g i)) 0
theorem maxOf_snoc (g : Nat → Int) (ks : List Nat) (k : Nat) : maxOf g (ks ++ [k]) = max (maxOf g ks) (g k) := by simp [maxOf]
theorem maxOf_bits (L : List Rat) (k : Nat) : maxOf (fun i => bitsX (L.getD i 0)) (List.range k) = bitsN7 L k := by
  induction k with
  | zero => rfl
  | succ k ih => rw [List.range_succ, maxOf_snoc, ih]; rfl
theorem bitsX_any {n : Nat} {w : World} {u : Value} {X : Rat} (hu : ArgQ w u X n) (hn : n ≤ 16777000) :
    Calls Tryz.prog 70 #[u] w fun e w' => e = .returned (.int .i64 (bitsX X)) ∧ Below w.heap.size w w' :=
  bitsQ_any hu hn (nbits_is _) (nbits_is _)
theorem setSize (w : World) (g : Nat) (v : Value) : (w.setCell ⟨g, 0, none⟩ v).heap.size = w.heap.size := (Only.set w g 0 v).size
set_option maxRecDepth 100000 in
set_option maxHeartbeats 8000000 in
theorem bitsT7_any {n : Nat} {w : World} {v : Value} {s : List Int} {qs : List Q3} {a b : Option Addr} {ca cb : Nat} (T : TensQ w v s qs a ca b cb) (hs : s.length ≤ 1048576) (hq : qs.length ≤ 1048576) (hl : lensQ qs n) (hn : n ≤ 4000000) :
    Calls Tryz.prog 33 #[v] w fun e w' => e = .returned (.int .i64 (bitsN7 (qs.map Q3.rat) qs.length)) ∧ Below w.heap.size w w' := by
  obtain rfl := T.is
  obtain ⟨es, hlim, hall⟩ := T.el.limE
  have hsh : ShE es := shE_of hall (fun v x h => h.form)
  have hcap := T.el.le
  have hel : es.length = qs.length := hall.1
  have HL := Lib.hid hl
  have HA := Lib.hid hall
  have HEL := Lib.hid hel
  obtain ⟨dd, hdd⟩ : ∃ d : Int, bitsN7 (qs.map Q3.rat) qs.length = d := ⟨_, rfl⟩
  rw [hdd]
  have HD := Lib.hid hdd
  rw [← hel] at hcap hq ⊢
  clear hall hl hel hdd T
  obtain ⟨B, hB⟩ : ∃ B, w.heap.size = B := ⟨_, rfl⟩
  obtain ⟨W1, hW1⟩ : ∃ W1, w.alloc (.cells #[.slice a s.length ca, .slice b es.length cb] 26) = W1 := ⟨_, rfl⟩
  obtain ⟨W2, hW2⟩ : ∃ W2, W1.alloc (.cells #[.int .i64 0] 3) = W2 := ⟨_, rfl⟩
  have s1 : W1.heap.size = B + 1 := by rw [← hW1, ← hB]; simp
  have s2 : W2.heap.size = B + 1 + 1 := by rw [← hW2, World.size_alloc, s1]
  have R0 : Row W2 B 26 #[.slice a s.length ca, .slice b es.length cb] := by rw [← hW2, ← hW1, ← hB]; exact (Row.new _ _ _).alloc _
  have R1 : Row W2 (B + 1) 3 #[.int .i64 0] := by rw [← hW2, ← s1]; exact Row.new _ _ _
  have hb2 : Below B w W2 := by rw [← hW2, ← hW1]; exact ((Below.refl _ w).alloc (by omega) _).alloc (by simp; omega) _
  obtain ⟨c0, c1, _, _⟩ := R0.two
  have d1 := R1.cell 0
  have f1 := R1.free 0
  obtain ⟨n', hn'⟩ : ∃ n' : Nat, Hid (3 ≤ n') := ⟨3, Nat.le_refl 3⟩
  refine (callsIn_wide (n := n')).1 ?_
  refine callsIn_of_wp_marks Tryz.func33 rfl trivial ?_ rfl
  simp only [Tryz.ntmps33, List.size_toArray, List.length_cons, List.length_nil, Nat.reduceAdd, Nat.reduceSub, Array.replicate_succ, Array.replicate_zero, List.push_toArray, List.append_toArray, List.nil_append, List.cons_append]
  gi_wp2_with fail
  have R1' : Row (W2.setCell ⟨B + 1, 0, none⟩ (.int .i64 0)) (B + 1) 3 #[.int .i64 0] := R1.set 0 _
  have hb2' : Below B w (W2.setCell ⟨B + 1, 0, none⟩ (.int .i64 0)) := hb2.setCell (by show B ≤ B + 1; omega) _
  have s2' := (setSize W2 (B + 1) (.int .i64 0)).trans s2
  clear R1 hb2
  generalize W2.setCell ⟨B + 1, 0, none⟩ (.int .i64 0) = U at *
  refine wideCall ((elements_any _ _ _ _ _ _ _).mono ?_)
  rintro e w3 ⟨rfl, b3⟩
  gi_wp2_with fail
  refine wideCall ((allQ_any _ _ _ _).mono ?_)
  rintro e w' ⟨rfl, rfl⟩
  gi_wp2_with fail
  have s3 := b3.size
  obtain ⟨I, hI⟩ : ∃ I, w3.heap.size = I := ⟨_, rfl⟩
  obtain ⟨V, hV⟩ : ∃ V, w3.alloc (.cells #[.slice b es.length cb] 76) = V := ⟨_, rfl⟩
  have sV : V.heap.size = I + 1 := by rw [← hV, World.size_alloc, hI]
  have b4 : Below w3.heap.size w3 V := by rw [← hV]; exact (Below.refl _ _).alloc (Nat.le_refl _) _
  have d4 : Boxed V I 76 (.slice b es.length cb) := by rw [← hV, ← hI]; exact Boxed.new _ _ _
  have b2V : Below U.heap.size U V := b3.trans (b4.mono s3)
  have e1 := R1'.later b2V
  have hbV : Below B w V := hb2'.trans (b2V.mono (by omega))
  rw [hB] at hlim
  simp only [hI, hV]
  have h3 : 3 ≤ n' := hn'
  clear hV
  refine wpIn_rangeFunc_ownH (F := Fence.wide) (n := n') rfl (by omega) (gf := 82) (lb := #[.pointer (some ⟨I, 0, none⟩)]) rfl trivial (enters_of Tryz.func82 (by kernel_rfl) rfl)
    (allQ_stops (n' - 1) I B b es cb (by omega) hcap V (by omega) (by omega) d4.cell (hlim.below hbV) hsh) belowK_t (belowK_b (by omega)) (Below.refl _ _) (fun _ => rfl)
    (fun (pre : List (Fin es.length)) X => Row X (B + 1) 3 #[.int .i64 (maxOf (fun i => bitsX ((qs.map Q3.rat).getD i 0)) (pre.map Fin.val))] ∧ Below B w X ∧ I + 1 ≤ X.heap.size)
    (fun c pre X => False)
    (fun pre X Y row ⟨h1, h3, h4⟩ hg hr => ⟨h1.keepC (KeepC.grown hg (fun r e => (hr r e).2)), h3.grown hg (by have := h3.size; omega) (fun k e => by have := (hr k e).1; omega), Nat.le_trans h4 hg.size⟩)
    (fun _ _ _ _ _ hs _ _ => hs)
    ⟨e1, hbV, by omega⟩
    (fun (x : Fin es.length) a' X => ∃ p, I + 1 ≤ p ∧ Row X p 44 #[(es[x.val]?.getD dfE).a, (es[x.val]?.getD dfE).b, (es[x.val]?.getD dfE).c] ∧
      a' = { tmps := #[.agg #[.slice a s.length ca, .slice b es.length cb], .pointer (some ⟨B, 0, none⟩), .int .i64 0, .pointer (some ⟨B + 1, 0, none⟩), .pointer (some ⟨p, 0, none⟩), .agg #[.slice a s.length ca, .slice b es.length cb], .slice b es.length cb,
        .func (.func 82) #[] #[.pointer (some ⟨I, 0, none⟩)], .agg #[(es[x.val]?.getD dfE).a, (es[x.val]?.getD dfE).b, (es[x.val]?.getD dfE).c], undef, undef, undef, undef, undef], defers := [] })
    (fun x a' _ X Y row ⟨p, h1, h2, h3⟩ hg hr => ⟨p, h1, h2.keepC (KeepC.grown hg (fun r e => (hr r e).2)), h3⟩)
    ?assign ?body ?done ?stop
  case assign =>
    rintro l pre ⟨k, hk⟩ X K ⟨h1, h3, h4⟩ hK
    obtain ⟨z1, z2, z3, z4, z5, z6, z7, he⟩ := hsh k hk
    have hs3 := h3.size
    have hbX : Below X.heap.size X (X.alloc (.cells #[.bool z1, .slice z2 z3 z4, .slice z5 z6 z7] 44)) := (Below.refl _ _).alloc (Nat.le_refl _) _
    have kk := KeepC.below hbX
    have HK := Lib.hid hK
    simp only [ratAt]
    rw [he]
    simp only
    clear hK
    gi_wp2
    refine HK.out _ _ ⟨by simp, fun q o _ ho _ => (Below.heap_alloc _ _ _ (lt_of_block ho)).trans ho⟩ (hbX.mono (by omega)) ⟨h1.keepC kk, h3.trans (hbX.mono (by omega)), by simp; omega⟩ ⟨X.heap.size, h4, ?_, ?_⟩
    · simp only [he]; exact Row.new _ _ _
    · simp only [he]
  case body =>
    rintro l pre ⟨k, hk⟩ a' X hl hrec ⟨h1, h3, h4⟩ ⟨p, hp, hR, rfl⟩ hlt
    obtain ⟨z1, z2, z3, z4, z5, z6, z7, he⟩ := hsh k hk
    simp only at hR ⊢
    rw [he] at hR ⊢
    simp only at hR ⊢
    have hkq : k < qs.length := by rw [← HEL.out]; exact hk
    have hqk : qs[k]? = some qs[k] := List.getElem?_eq_getElem hkq
    obtain ⟨q, hq2⟩ : ∃ q, qs[k] = q := ⟨_, rfl⟩
    rw [hq2] at hqk
    have hek : es[k]? = some es[k] := List.getElem?_eq_getElem hk
    have hraw := HA.out.2 k _ _ hek hqk
    have e2 : es[k] = ⟨.bool z1, .slice z2 z3 z4, .slice z5 z6 z7⟩ := by rw [hek] at he; exact he
    rw [e2] at hraw
    have hlq := HL.out q (List.mem_of_getElem? hqk)
    have hgd : (qs.map Q3.rat).getD k 0 = q.rat := by simp [List.getD_eq_getElem?_getD, hqk]
    obtain ⟨g0, g1, g2, _, _, _⟩ := hR.three
    have hs3 := h3.size
    have hrX := (hraw.later (hB.symm ▸ h3 : Below w.heap.size w X)).arg hlq.1 hlq.2
    obtain ⟨m, hm⟩ : ∃ m, maxOf (fun i => bitsX ((qs.map Q3.rat).getD i 0)) (pre.map Fin.val) = m := ⟨_, rfl⟩
    have hnx : maxOf (fun i => bitsX ((qs.map Q3.rat).getD i 0)) ((pre ++ [(⟨k, hk⟩ : Fin es.length)]).map Fin.val) = max m (bitsX q.rat) := by
      rw [List.map_append, List.map_cons, List.map_nil, maxOf_snoc, hm, hgd]
    rw [hm] at h1
    obtain ⟨d, hd⟩ : ∃ d, bitsX q.rat = d := ⟨_, rfl⟩
    obtain ⟨f, hf⟩ : ∃ f, max m d = f := ⟨_, rfl⟩
    rw [hd, hf] at hnx
    have HN := Lib.hid hnx
    clear hnx hm
    have x1 := h1.cell 0
    have b0 : Below X.heap.size X X.drew := (Below.refl _ X).drew
    have mkS : ∀ Y, Below X.heap.size X Y → Y.cell? ⟨B + 1, 0, none⟩ = some (.int .i64 m) ∧ Y.cell? ⟨p, 0, none⟩ = some (.bool z1) ∧ Y.cell? ⟨p, 1, none⟩ = some (.slice z2 z3 z4) ∧ Y.cell? ⟨p, 2, none⟩ = some (.slice z5 z6 z7) := fun Y hb => by
      obtain ⟨y0, y1, y2, _⟩ := (hR.later hb).three
      exact ⟨(h1.later hb).cell 0, y0, y1, y2⟩
    refine wpIn_block ?_
    refine region_roundL (fun Y => Y.cell? ⟨B + 1, 0, none⟩ = some (.int .i64 m) ∧ Y.cell? ⟨p, 0, none⟩ = some (.bool z1) ∧ Y.cell? ⟨p, 1, none⟩ = some (.slice z2 z3 z4) ∧ Y.cell? ⟨p, 2, none⟩ = some (.slice z5 z6 z7)) 4
      (by kernel_rfl) (by kernel_rfl) (by rintro ⟨a', w', h⟩; exact h) (mkS _ b0) (fun hHeld => ?_)
    refine wpAnyL_take (i := 0) (v := ?va0) rfl (by kernel_rfl) (by kernel_rfl) (by kernel_rfl) (by kernel_rfl) (fun _ _ _ h => h) (Or.inl ⟨by rfl, ?ha0⟩) (by assumption) ?ra0
    case ha0 =>
      intro w hSw
      try dsimp only at hSw
      go_simp
      try with_reducible rfl
    try simp only [Act.put, List.setIfInBounds_toArray, List.set_cons_zero, List.set_cons_succ]
    refine wpAnyL_take (i := 1) (v := ?va1) rfl (by kernel_rfl) (by kernel_rfl) (by kernel_rfl) (by kernel_rfl) (fun _ _ _ h => h) (Or.inl ⟨by rfl, ?ha1⟩) (by assumption) ?ra1
    case ha1 =>
      intro w hSw
      try dsimp only at hSw
      go_simp
      try with_reducible rfl
    try simp only [Act.put, List.setIfInBounds_toArray, List.set_cons_zero, List.set_cons_succ]
    refine wpAnyL_one (i := 2) (by kernel_rfl) rfl (fun K hK => ?sb2)
    go_simp
    refine (bitsX_any (hrX.later b0) (by omega)).mono ?_
    rintro e w5 ⟨rfl, b5⟩
    rw [hd]
    go_simp
    have b05 : Below X.heap.size X w5 := b0.trans b5
    have s5 := b05.size
    refine hK.out _ _ (fun _ => mkS _ b05) (fun hHeld2 => ?mb2)
    clear hK K hHeld
    have hHeld := hHeld2 (by decide)
    clear hHeld2
    try simp only [Act.put, List.setIfInBounds_toArray, List.set_cons_zero, List.set_cons_succ]
    refine wpAnyL_take (i := 3) (v := ?va3) rfl (by kernel_rfl) (by kernel_rfl) (by kernel_rfl) (by kernel_rfl) (fun _ _ _ h => h) (Or.inl ⟨by rfl, ?ha3⟩) (by assumption) ?ra3
    case ha3 =>
      intro w hSw
      try dsimp only at hSw
      go_simp
      try with_reducible rfl
    try simp only [Act.put, List.setIfInBounds_toArray, List.set_cons_zero, List.set_cons_succ]
    have R5 := h1.later b05
    have f5 := R5.free 0
    have x5 := R5.cell 0
    have R6 : Row (w5.setCell ⟨B + 1, 0, none⟩ (.int .i64 f)) (B + 1) 3 #[.int .i64 f] := R5.set 0 _
    refine wpAnyL_one (i := 4) (by kernel_rfl) rfl (fun K hK => ?sb4)
    go_simp
    try rw [hf]
    refine hK.out _ _ (fun h => absurd rfl h) (fun _ => ?mb4)
    clear hK K
    try simp only [Act.put, List.setIfInBounds_toArray, List.set_cons_zero, List.set_cons_succ]
    refine wpAnyL_done (by kernel_rfl) ?_ _
    refine ⟨keepsFrom_set (keepsFrom_below b05) _ _, (b05.mono (by omega)).setCell (by show B ≤ B + 1; omega) _, ?_, (h3.trans (b05.mono (by omega))).setCell (by show B ≤ B + 1; omega) _, by rw [setSize]; omega⟩
    rw [HN.out]
    exact R6
  case done =>
    rintro D ys X hD hup ⟨h1, h3, h4⟩ hK
    rw [show ys.map Fin.val = List.range es.length from hup, maxOf_bits, HEL.out, HD.out] at h1
    have c5 := h1.cell 0
    gi_wp2
    refine ⟨by simp, .inl ⟨_, _, rfl, run_takeDeferred hK, ?_⟩⟩
    exact ⟨_, results_tmp rfl _ _ _, rfl, (by rw [hB]; exact h3.trans (belowK_b (n₀ := B) (w := w) (by omega) X D _ _ (by omega) hK rfl rfl))⟩
  case stop =>
    rintro D c pre X _ _ h _
    exact h.elim
end Go.Proofs.YtnhfjacifajdlaaGreat
