/-
  Package point as it landed: Add, Sub, Mul, Div. (Made by wip/gen/gen_ptwo2.py.)
-/
import Derived.Test.YtjcacmnmbbnffaaGreatPTwo
namespace Go.Proofs.YtjcacmnmbbnffaaGreat
open Go.RowKit
set_option linter.unusedVariables false
set_option linter.unusedSimpArgs false

/-- an answer's tensor, as it stands in memory, whatever it is -/
theorem One.shape {base N : Nat} {w : World} {e : Ending} {c : Int} {s : List Int} {L : List Rat} (h : One base w e c s L N) :
    ∃ a b n m ca cb, e = .returned (.tuple #[.agg #[.slice a n ca, .slice b m cb], .int .i64 c]) ∧ ((c = 0 ∧ ResT base w (.agg #[.slice a n ca, .slice b m cb]) s L N) ∨ (c ≠ 0 ∧ Value.agg #[.slice a n ca, .slice b m cb] = noTensor)) := by
  rcases h with ⟨rfl, r, rfl, hT⟩ | ⟨h0, rfl⟩
  · obtain ⟨a, b, ca, cb, rfl, h1, h2⟩ := id hT
    exact ⟨a, b, _, _, ca, cb, rfl, .inl ⟨rfl, hT⟩⟩
  · exact ⟨none, none, 0, 0, 0, 0, rfl, .inr ⟨h0, rfl⟩⟩
theorem One.of {base N n m ca cb : Nat} {w : World} {a b : Option Addr} {c : Int} {s : List Int} {L : List Rat} (h : (c = 0 ∧ ResT base w (.agg #[.slice a n ca, .slice b m cb]) s L N) ∨ (c ≠ 0 ∧ Value.agg #[.slice a n ca, .slice b m cb] = noTensor)) :
    One base w (.returned (.tuple #[.agg #[.slice a n ca, .slice b m cb], .int .i64 c])) c s L N := by
  rcases h with ⟨rfl, h⟩ | ⟨h0, h⟩
  · exact .inl ⟨rfl, _, rfl, h⟩
  · exact .inr ⟨h0, by rw [h]⟩
set_option maxRecDepth 100000 in
set_option maxHeartbeats 8000000 in
theorem divP_any {n : Nat} {w : World} {u v : Value} {s1 s2 : List Int} {q1 q2 : List Q3} {a1 b1 a2 b2 : Option Addr} {ca1 cb1 ca2 cb2 : Nat} (T1 : TensQ w u s1 q1 a1 ca1 b1 cb1) (T2 : TensQ w v s2 q2 a2 ca2 b2 cb2) (hs1 : s1.length ≤ 17592186044416) (hs2 : s2.length ≤ 17592186044416) (hq1 : q1.length ≤ 1000000) (hq2 : q2.length ≤ 1000000) (hl1 : lensQ q1 n) (hl2 : lensQ q2 n) (hn : n ≤ 1000000) :
    Calls Tryz.prog 21 #[u, v] w fun e w' => One w.heap.size w' e (twoC (dotC s1 s2 q1 q2) (zipOk (fun _ y => decide (y ≠ 0)) q1 q2)) s1 (zipQ (fun x y => x / y) q1 q2) (2 * n + 4) ∧ Below w.heap.size w w' := by
  have HT1 := Lib.hid T1
  have HT2 := Lib.hid T2
  have HL1 := Lib.hid hl1
  have HL2 := Lib.hid hl2
  obtain rfl := T1.is
  obtain rfl := T2.is
  obtain ⟨W, hW⟩ : ∃ W, (((w.alloc (.cells #[.slice a1 s1.length ca1, .slice b1 q1.length cb1] 26)).alloc (.cells #[.slice a2 s2.length ca2, .slice b2 q2.length cb2] 26)).alloc (.cells #[.slice none 0 0, .slice none 0 0] 26)) = W := ⟨_, rfl⟩
  have R0 : Row W (w.heap.size) 26 #[.slice a1 s1.length ca1, .slice b1 q1.length cb1] := by rw [← hW]; have h := Row.new w 26 #[.slice a1 s1.length ca1, .slice b1 q1.length cb1]; (try simp only [World.size_alloc] at h); exact ((h.alloc _).alloc _)
  have R1 : Row W (w.heap.size + 1) 26 #[.slice a2 s2.length ca2, .slice b2 q2.length cb2] := by rw [← hW]; have h := Row.new (w.alloc (.cells #[.slice a1 s1.length ca1, .slice b1 q1.length cb1] 26)) 26 #[.slice a2 s2.length ca2, .slice b2 q2.length cb2]; (try simp only [World.size_alloc] at h); exact (h.alloc _)
  have R2 : Row W (w.heap.size + 1 + 1) 26 #[.slice none 0 0, .slice none 0 0] := by rw [← hW]; have h := Row.new ((w.alloc (.cells #[.slice a1 s1.length ca1, .slice b1 q1.length cb1] 26)).alloc (.cells #[.slice a2 s2.length ca2, .slice b2 q2.length cb2] 26)) 26 #[.slice none 0 0, .slice none 0 0]; (try simp only [World.size_alloc] at h); exact h
  have hBW : Below w.heap.size w W := by rw [← hW]; exact ((((Below.refl _ _).alloc (by (try simp) <;> omega) _).alloc (by (try simp) <;> omega) _).alloc (by (try simp) <;> omega) _)
  have hsW : W.heap.size = w.heap.size + 1 + 1 + 1 := by rw [← hW]; simp
  have hcall := ofTwo_any (F := 55) (cap := #[]) (ok := fun _ y => decide (y ≠ 0)) (f := fun x y => x / y) (N := (2 * n + 4)) (HT1.out.later hBW) (HT2.out.later hBW) hs1 hs2 hq1 hq2 HL1.out HL2.out hn (enters_of Tryz.func55 (by kernel_rfl) rfl)
    (fun X x y p q hp hq hX hx hy => by
      by_cases h0 : q.rat = 0
      · exact (divQ_zero (hx.arg (HL1.out p hp).1 (HL1.out p hp).2) (hy.arg (HL2.out q hq).1 (HL2.out q hq).2) h0 (by omega)).mono fun e w' h => ⟨.inr ⟨by simp [h0], h.1⟩, h.2⟩
      · exact (divQ_any (hx.arg (HL1.out p hp).1 (HL1.out p hp).2) (hy.arg (HL2.out q hq).1 (HL2.out q hq).2) h0 (by omega)).mono fun e w' ⟨r, h1, h2, h3⟩ => ⟨.inl ⟨by simp [h0], r, h1, h2⟩, h3⟩)
  obtain ⟨L, hL⟩ : ∃ L, zipQ (fun x y => x / y) q1 q2 = L := ⟨_, rfl⟩
  obtain ⟨c, hc⟩ : ∃ c, twoC (dotC s1 s2 q1 q2) (zipOk (fun _ y => decide (y ≠ 0)) q1 q2) = c := ⟨_, rfl⟩
  simp only [hL, hc] at hcall
  rw [hL, hc]
  have HC := Lib.hid hcall
  obtain ⟨c0, c1, _, _⟩ := R0.two
  obtain ⟨c2, c3, _, _⟩ := R1.two
  clear T1 T2 hl1 hl2 hL hc hcall
  go_enter Tryz.func21, Tryz.ntmps21
  (try rw [hW])
  go_wp2_with fail
  refine HC.out.mono ?_
  rintro e w2 ⟨h | ⟨h0, rfl⟩, hb2⟩
  · obtain ⟨rfl, r, rfl, a', b', ca', cb', rfl, RS, RO⟩ := h
    have P2 := R2.later hb2
    have s2 := hb2.size
    obtain ⟨u0, u1, g0, g1⟩ := P2.two
    have HR := Lib.hid RS
    have HO := Lib.hid RO
    clear RS RO
    obtain ⟨l, hl⟩ : ∃ l, L.length = l := ⟨_, rfl⟩
    have HL2 := Lib.hid hl
    rw [hl]
    clear hl
    go_wp2_with fail
    have P3 := P2.set2 (.slice a' s1.length ca') (.slice b' l cb')
    obtain ⟨z0, z1, _, _⟩ := P3.two
    refine bodyPost_ret (v := .tuple #[.agg #[.slice a' s1.length ca', .slice b' l cb'], .int .i64 0]) (by simp [results, Tryz.results21, go_sem, z0, z1]) rfl ⟨.inl ⟨rfl, _, rfl, ?_⟩, below_set2 (hBW.trans (hb2.mono (by omega))) (by omega) _ _⟩
    have hR : ResT w.heap.size w2 (.agg #[.slice a' s1.length ca', .slice b' l cb']) s1 L _ := ResT.mono ⟨a', b', ca', cb', by rw [HL2.out], HR.out, HO.out⟩ (by omega)
    exact hR.far P2 (by decide) (by decide) (by decide) (kept2 _ _)
  · have P2 := R2.later hb2
    have s2 := hb2.size
    obtain ⟨u0, u1, g0, g1⟩ := P2.two
    have H0 := Lib.hid h0
    clear h0
    unfold noTensor
    go_wp2_with fail
    have P3 := P2.set2 (.slice none 0 0) (.slice none 0 0)
    obtain ⟨z0, z1, _, _⟩ := P3.two
    refine bodyPost_ret (v := .tuple #[noTensor, .int .i64 c]) (by simp [results, Tryz.results21, go_sem, z0, z1, noTensor]) rfl ⟨.inr ⟨H0.out, rfl⟩, below_set2 (hBW.trans (hb2.mono (by omega))) (by omega) _ _⟩
set_option maxRecDepth 100000 in
set_option maxHeartbeats 8000000 in
theorem addP_any {n : Nat} {w : World} {u v : Value} {s1 s2 : List Int} {q1 q2 : List Q3} {a1 b1 a2 b2 : Option Addr} {ca1 cb1 ca2 cb2 : Nat} (T1 : TensQ w u s1 q1 a1 ca1 b1 cb1) (T2 : TensQ w v s2 q2 a2 ca2 b2 cb2) (hs1 : s1.length ≤ 17592186044416) (hs2 : s2.length ≤ 17592186044416) (hq1 : q1.length ≤ 1000000) (hq2 : q2.length ≤ 1000000) (hl1 : lensQ q1 n) (hl2 : lensQ q2 n) (hn : n ≤ 1000000) :
    Calls Tryz.prog 13 #[u, v] w fun e w' => One w.heap.size w' e (twoC (dotC s1 s2 q1 q2) (zipOk (fun _ _ => true) q1 q2)) s1 (zipQ (fun x y => x + y) q1 q2) (2 * n + 10) ∧ Below w.heap.size w w' := by
  have HT1 := Lib.hid T1
  have HT2 := Lib.hid T2
  have HL1 := Lib.hid hl1
  have HL2 := Lib.hid hl2
  obtain rfl := T1.is
  obtain rfl := T2.is
  obtain ⟨W, hW⟩ : ∃ W, (((w.alloc (.cells #[.slice a1 s1.length ca1, .slice b1 q1.length cb1] 26)).alloc (.cells #[.slice a2 s2.length ca2, .slice b2 q2.length cb2] 26)).alloc (.cells #[.slice none 0 0, .slice none 0 0] 26)) = W := ⟨_, rfl⟩
  have R0 : Row W (w.heap.size) 26 #[.slice a1 s1.length ca1, .slice b1 q1.length cb1] := by rw [← hW]; have h := Row.new w 26 #[.slice a1 s1.length ca1, .slice b1 q1.length cb1]; (try simp only [World.size_alloc] at h); exact ((h.alloc _).alloc _)
  have R1 : Row W (w.heap.size + 1) 26 #[.slice a2 s2.length ca2, .slice b2 q2.length cb2] := by rw [← hW]; have h := Row.new (w.alloc (.cells #[.slice a1 s1.length ca1, .slice b1 q1.length cb1] 26)) 26 #[.slice a2 s2.length ca2, .slice b2 q2.length cb2]; (try simp only [World.size_alloc] at h); exact (h.alloc _)
  have R2 : Row W (w.heap.size + 1 + 1) 26 #[.slice none 0 0, .slice none 0 0] := by rw [← hW]; have h := Row.new ((w.alloc (.cells #[.slice a1 s1.length ca1, .slice b1 q1.length cb1] 26)).alloc (.cells #[.slice a2 s2.length ca2, .slice b2 q2.length cb2] 26)) 26 #[.slice none 0 0, .slice none 0 0]; (try simp only [World.size_alloc] at h); exact h
  have hBW : Below w.heap.size w W := by rw [← hW]; exact ((((Below.refl _ _).alloc (by (try simp) <;> omega) _).alloc (by (try simp) <;> omega) _).alloc (by (try simp) <;> omega) _)
  have hsW : W.heap.size = w.heap.size + 1 + 1 + 1 := by rw [← hW]; simp
  have hcall := fun (y : World) (hy : Below W.heap.size W y) (g : Nat) (hg : y.cell? ⟨g, 0, none⟩ = some (.func (.func 48) #[] #[])) =>
    ofTwo_any (F := 93) (cap := #[.pointer (some ⟨g, 0, none⟩)]) (ok := fun _ _ => true) (f := fun x y => x + y) (N := (2 * n + 10)) (HT1.out.later (hBW.trans (hy.mono (by omega)))) (HT2.out.later (hBW.trans (hy.mono (by omega)))) hs1 hs2 hq1 hq2 HL1.out HL2.out hn (enters_of Tryz.func93 (by kernel_rfl) rfl)
      (fun X x y' p q hp hq hX hx hy' => (total1_any (n := 0) (F := 48) hx hy' ((hX.cell (World.block_lt_of_cell? _ _ hg)).trans hg) (enters_of Tryz.func48 (by kernel_rfl) rfl) (fun Y x' y'' hY hx2 hy2 => addQ_any (hx2.arg (HL1.out p hp).1 (HL1.out p hp).2) (hy2.arg (HL2.out q hq).1 (HL2.out q hq).2) (by omega))).mono fun e w' ⟨r, e1, e2, e3⟩ => ⟨.inl ⟨rfl, r, e1, e2⟩, e3⟩)
  obtain ⟨L, hL⟩ : ∃ L, zipQ (fun x y => x + y) q1 q2 = L := ⟨_, rfl⟩
  obtain ⟨c, hc⟩ : ∃ c, twoC (dotC s1 s2 q1 q2) (zipOk (fun _ _ => true) q1 q2) = c := ⟨_, rfl⟩
  simp only [hL, hc] at hcall
  rw [hL, hc]
  have HC := Lib.hid hcall
  have mkS : ∀ X, Below W.heap.size W X → X.cell? ⟨w.heap.size, 0, none⟩ = some (.slice a1 s1.length ca1) ∧ X.cell? ⟨w.heap.size, 1, none⟩ = some (.slice b1 q1.length cb1) ∧ X.cell? ⟨w.heap.size + 1, 0, none⟩ = some (.slice a2 s2.length ca2) ∧ X.cell? ⟨w.heap.size + 1, 1, none⟩ = some (.slice b2 q2.length cb2) := fun X h => by
    obtain ⟨x0, x1, _⟩ := (R0.later h).two
    obtain ⟨x2, x3, _⟩ := (R1.later h).two
    exact ⟨x0, x1, x2, x3⟩
  have B0 : Below W.heap.size W W.drew := (Below.refl _ W).drew
  clear T1 T2 hl1 hl2 hL hc hcall
  go_enter Tryz.func13, Tryz.ntmps13
  go_wp2_with fail
  (try rw [hW])
  clear hW
  refine wp_region_held (S := fun X => X.cell? ⟨w.heap.size, 0, none⟩ = some (.slice a1 s1.length ca1) ∧ X.cell? ⟨w.heap.size, 1, none⟩ = some (.slice b1 q1.length cb1) ∧ X.cell? ⟨w.heap.size + 1, 0, none⟩ = some (.slice a2 s2.length ca2) ∧ X.cell? ⟨w.heap.size + 1, 1, none⟩ = some (.slice b2 q2.length cb2)) (by kernel_rfl) ?_
  have hHeld := mkS _ B0
  refine todo [0, 1] ?_
  iterate 2
   refine todoH (v := ?_) rfl (by kernel_rfl) (fun _ _ _ h => h) (by assumption) (Or.inl ⟨by rfl, ?_⟩) ?_
   rotate_left
   · intro w hSw; (try dsimp only at hSw); go_simp; (try with_reducible rfl)
   try simp only [Act.put, List.getElem_toArray, List.getElem_cons_succ, List.getElem_cons_zero, List.setIfInBounds_toArray, List.set_cons_zero, List.set_cons_succ]
  refine todone ?_
  refine wpAnyH_ready (rs := [2]) (by kernel_rfl) (by simp) ?_
  refine AllReadyH.cons rfl (fun K hK => ?stot) AllReadyH.nil
  go_simp
  refine (total_any 48 _).mono ?_
  rintro e yy ⟨rfl, rfl⟩
  obtain ⟨y1, hy1⟩ : ∃ y1, W.drew = y1 := ⟨_, rfl⟩
  rw [hy1] at B0 ⊢
  have A1 : Below W.heap.size W (y1.alloc (.cells #[.func (.func 48) #[] #[]] 73)) := B0.alloc (by have := B0.size; omega) _
  go_simp
  refine hK.out _ _ ?ktot (fun hHeld => ?mtot)
  case ktot =>
    try dsimp only
    exact mkS _ A1
  clear hK K
  try simp only [Act.put, List.setIfInBounds_toArray, List.set_cons_zero, List.set_cons_succ]
  refine wpAnyH_ready (rs := [3]) (by kernel_rfl) (by simp) ?_
  refine AllReadyH.cons rfl (fun K hK => ?stwo) AllReadyH.nil
  go_simp
  refine (HC.out _ A1 y1.heap.size (by simp)).mono ?_
  rintro e w2 ⟨h, hb2⟩
  have A2 : Below W.heap.size W w2 := A1.trans (hb2.mono A1.size)
  have A1s := A1.size
  have P2 := R2.later A2
  obtain ⟨g1, g2, l1, l2, g3, g4, rfl, hr⟩ := h.shape
  go_simp
  refine hK.out _ _ ?ktwo (fun hHeld => ?mtwo)
  case ktwo =>
    try dsimp only
    exact mkS _ A2
  clear hK K
  try simp only [Act.put, List.setIfInBounds_toArray, List.set_cons_zero, List.set_cons_succ]
  refine todo [4, 5] ?_
  iterate 2
   refine todoH (v := ?_) rfl (by kernel_rfl) (fun _ _ _ h => h) (by assumption) (Or.inl ⟨by rfl, ?_⟩) ?_
   rotate_left
   · intro w hSw; (try dsimp only at hSw); go_simp; (try with_reducible rfl)
   try simp only [Act.put, List.getElem_toArray, List.getElem_cons_succ, List.getElem_cons_zero, List.setIfInBounds_toArray, List.set_cons_zero, List.set_cons_succ]
  refine todone ?_
  obtain ⟨k0, k1, k2, k3⟩ := P2.two
  refine wpAnyH_ready (rs := [6]) (by kernel_rfl) (by simp) ?_
  refine AllReadyH.cons rfl (fun K hK => ?sst6) AllReadyH.nil
  go_simp
  refine afterSet2 P2 (fun X6 o6 zs6 => ?_)
  skip
  refine hK.out _ _ ?kst6 (fun hHeld => ?mst6)
  case kst6 =>
    try dsimp only
    exact ⟨((R0.later A2).only o6 (by omega)).cell 0, ((R0.later A2).only o6 (by omega)).cell 1, ((R1.later A2).only o6 (by omega)).cell 0, ((R1.later A2).only o6 (by omega)).cell 1⟩
  clear hK K
  try simp only [Act.put, List.setIfInBounds_toArray, List.set_cons_zero, List.set_cons_succ]
  refine wpAnyH_ready (rs := [7]) (by kernel_rfl) (by simp) ?_
  refine AllReadyH.cons rfl (fun K hK => ?sas7) AllReadyH.nil
  go_simp
  refine hK.out _ _ ?kas7 (fun hHeld => ?mas7)
  case kas7 =>
    try dsimp only
    exact ⟨((R0.later A2).only o6 (by omega)).cell 0, ((R0.later A2).only o6 (by omega)).cell 1, ((R1.later A2).only o6 (by omega)).cell 0, ((R1.later A2).only o6 (by omega)).cell 1⟩
  clear hK K
  try simp only [Act.put, List.setIfInBounds_toArray, List.set_cons_zero, List.set_cons_succ]
  refine wpAnyH_done (by kernel_rfl) ?_ _
  (try dsimp only [Straight])
  obtain ⟨z0, z1, _, _⟩ := zs6.two
  have s2 := A2.size
  have hB6 : Below w.heap.size w X6 := (hBW.trans (A2.mono (by omega))).trans (o6.below (by omega))
  have HRR := Lib.hid hr
  clear hr
  go_wp2_with fail
  refine bodyPost_ret (v := .tuple #[.agg #[.slice g1 l1 g3, .slice g2 l2 g4], .int .i64 c]) (by simp [results, Tryz.results13, go_sem, z0, z1]) rfl ⟨One.of ?_, hB6⟩
  rcases HRR.out with ⟨h0, h⟩ | ⟨h0, h⟩
  · exact .inl ⟨h0, (h.mono (by omega)).far P2 (by decide) (by decide) (by decide) (fun k hk => o6.block k hk)⟩
  · exact .inr ⟨h0, h⟩
set_option maxRecDepth 100000 in
set_option maxHeartbeats 8000000 in
theorem subP_any {n : Nat} {w : World} {u v : Value} {s1 s2 : List Int} {q1 q2 : List Q3} {a1 b1 a2 b2 : Option Addr} {ca1 cb1 ca2 cb2 : Nat} (T1 : TensQ w u s1 q1 a1 ca1 b1 cb1) (T2 : TensQ w v s2 q2 a2 ca2 b2 cb2) (hs1 : s1.length ≤ 17592186044416) (hs2 : s2.length ≤ 17592186044416) (hq1 : q1.length ≤ 1000000) (hq2 : q2.length ≤ 1000000) (hl1 : lensQ q1 n) (hl2 : lensQ q2 n) (hn : n ≤ 1000000) :
    Calls Tryz.prog 14 #[u, v] w fun e w' => One w.heap.size w' e (twoC (dotC s1 s2 q1 q2) (zipOk (fun _ _ => true) q1 q2)) s1 (zipQ (fun x y => x - y) q1 q2) (2 * n + 10) ∧ Below w.heap.size w w' := by
  have HT1 := Lib.hid T1
  have HT2 := Lib.hid T2
  have HL1 := Lib.hid hl1
  have HL2 := Lib.hid hl2
  obtain rfl := T1.is
  obtain rfl := T2.is
  obtain ⟨W, hW⟩ : ∃ W, (((w.alloc (.cells #[.slice a1 s1.length ca1, .slice b1 q1.length cb1] 26)).alloc (.cells #[.slice a2 s2.length ca2, .slice b2 q2.length cb2] 26)).alloc (.cells #[.slice none 0 0, .slice none 0 0] 26)) = W := ⟨_, rfl⟩
  have R0 : Row W (w.heap.size) 26 #[.slice a1 s1.length ca1, .slice b1 q1.length cb1] := by rw [← hW]; have h := Row.new w 26 #[.slice a1 s1.length ca1, .slice b1 q1.length cb1]; (try simp only [World.size_alloc] at h); exact ((h.alloc _).alloc _)
  have R1 : Row W (w.heap.size + 1) 26 #[.slice a2 s2.length ca2, .slice b2 q2.length cb2] := by rw [← hW]; have h := Row.new (w.alloc (.cells #[.slice a1 s1.length ca1, .slice b1 q1.length cb1] 26)) 26 #[.slice a2 s2.length ca2, .slice b2 q2.length cb2]; (try simp only [World.size_alloc] at h); exact (h.alloc _)
  have R2 : Row W (w.heap.size + 1 + 1) 26 #[.slice none 0 0, .slice none 0 0] := by rw [← hW]; have h := Row.new ((w.alloc (.cells #[.slice a1 s1.length ca1, .slice b1 q1.length cb1] 26)).alloc (.cells #[.slice a2 s2.length ca2, .slice b2 q2.length cb2] 26)) 26 #[.slice none 0 0, .slice none 0 0]; (try simp only [World.size_alloc] at h); exact h
  have hBW : Below w.heap.size w W := by rw [← hW]; exact ((((Below.refl _ _).alloc (by (try simp) <;> omega) _).alloc (by (try simp) <;> omega) _).alloc (by (try simp) <;> omega) _)
  have hsW : W.heap.size = w.heap.size + 1 + 1 + 1 := by rw [← hW]; simp
  have hcall := fun (y : World) (hy : Below W.heap.size W y) (g : Nat) (hg : y.cell? ⟨g, 0, none⟩ = some (.func (.func 49) #[] #[])) =>
    ofTwo_any (F := 93) (cap := #[.pointer (some ⟨g, 0, none⟩)]) (ok := fun _ _ => true) (f := fun x y => x - y) (N := (2 * n + 10)) (HT1.out.later (hBW.trans (hy.mono (by omega)))) (HT2.out.later (hBW.trans (hy.mono (by omega)))) hs1 hs2 hq1 hq2 HL1.out HL2.out hn (enters_of Tryz.func93 (by kernel_rfl) rfl)
      (fun X x y' p q hp hq hX hx hy' => (total1_any (n := 0) (F := 49) hx hy' ((hX.cell (World.block_lt_of_cell? _ _ hg)).trans hg) (enters_of Tryz.func49 (by kernel_rfl) rfl) (fun Y x' y'' hY hx2 hy2 => subQ_any (hx2.arg (HL1.out p hp).1 (HL1.out p hp).2) (hy2.arg (HL2.out q hq).1 (HL2.out q hq).2) (by omega))).mono fun e w' ⟨r, e1, e2, e3⟩ => ⟨.inl ⟨rfl, r, e1, e2⟩, e3⟩)
  obtain ⟨L, hL⟩ : ∃ L, zipQ (fun x y => x - y) q1 q2 = L := ⟨_, rfl⟩
  obtain ⟨c, hc⟩ : ∃ c, twoC (dotC s1 s2 q1 q2) (zipOk (fun _ _ => true) q1 q2) = c := ⟨_, rfl⟩
  simp only [hL, hc] at hcall
  rw [hL, hc]
  have HC := Lib.hid hcall
  have mkS : ∀ X, Below W.heap.size W X → X.cell? ⟨w.heap.size, 0, none⟩ = some (.slice a1 s1.length ca1) ∧ X.cell? ⟨w.heap.size, 1, none⟩ = some (.slice b1 q1.length cb1) ∧ X.cell? ⟨w.heap.size + 1, 0, none⟩ = some (.slice a2 s2.length ca2) ∧ X.cell? ⟨w.heap.size + 1, 1, none⟩ = some (.slice b2 q2.length cb2) := fun X h => by
    obtain ⟨x0, x1, _⟩ := (R0.later h).two
    obtain ⟨x2, x3, _⟩ := (R1.later h).two
    exact ⟨x0, x1, x2, x3⟩
  have B0 : Below W.heap.size W W.drew := (Below.refl _ W).drew
  clear T1 T2 hl1 hl2 hL hc hcall
  go_enter Tryz.func14, Tryz.ntmps14
  go_wp2_with fail
  (try rw [hW])
  clear hW
  refine wp_region_held (S := fun X => X.cell? ⟨w.heap.size, 0, none⟩ = some (.slice a1 s1.length ca1) ∧ X.cell? ⟨w.heap.size, 1, none⟩ = some (.slice b1 q1.length cb1) ∧ X.cell? ⟨w.heap.size + 1, 0, none⟩ = some (.slice a2 s2.length ca2) ∧ X.cell? ⟨w.heap.size + 1, 1, none⟩ = some (.slice b2 q2.length cb2)) (by kernel_rfl) ?_
  have hHeld := mkS _ B0
  refine todo [0, 1] ?_
  iterate 2
   refine todoH (v := ?_) rfl (by kernel_rfl) (fun _ _ _ h => h) (by assumption) (Or.inl ⟨by rfl, ?_⟩) ?_
   rotate_left
   · intro w hSw; (try dsimp only at hSw); go_simp; (try with_reducible rfl)
   try simp only [Act.put, List.getElem_toArray, List.getElem_cons_succ, List.getElem_cons_zero, List.setIfInBounds_toArray, List.set_cons_zero, List.set_cons_succ]
  refine todone ?_
  refine wpAnyH_ready (rs := [2]) (by kernel_rfl) (by simp) ?_
  refine AllReadyH.cons rfl (fun K hK => ?stot) AllReadyH.nil
  go_simp
  refine (total_any 49 _).mono ?_
  rintro e yy ⟨rfl, rfl⟩
  obtain ⟨y1, hy1⟩ : ∃ y1, W.drew = y1 := ⟨_, rfl⟩
  rw [hy1] at B0 ⊢
  have A1 : Below W.heap.size W (y1.alloc (.cells #[.func (.func 49) #[] #[]] 73)) := B0.alloc (by have := B0.size; omega) _
  go_simp
  refine hK.out _ _ ?ktot (fun hHeld => ?mtot)
  case ktot =>
    try dsimp only
    exact mkS _ A1
  clear hK K
  try simp only [Act.put, List.setIfInBounds_toArray, List.set_cons_zero, List.set_cons_succ]
  refine wpAnyH_ready (rs := [3]) (by kernel_rfl) (by simp) ?_
  refine AllReadyH.cons rfl (fun K hK => ?stwo) AllReadyH.nil
  go_simp
  refine (HC.out _ A1 y1.heap.size (by simp)).mono ?_
  rintro e w2 ⟨h, hb2⟩
  have A2 : Below W.heap.size W w2 := A1.trans (hb2.mono A1.size)
  have A1s := A1.size
  have P2 := R2.later A2
  obtain ⟨g1, g2, l1, l2, g3, g4, rfl, hr⟩ := h.shape
  go_simp
  refine hK.out _ _ ?ktwo (fun hHeld => ?mtwo)
  case ktwo =>
    try dsimp only
    exact mkS _ A2
  clear hK K
  try simp only [Act.put, List.setIfInBounds_toArray, List.set_cons_zero, List.set_cons_succ]
  refine todo [4, 5] ?_
  iterate 2
   refine todoH (v := ?_) rfl (by kernel_rfl) (fun _ _ _ h => h) (by assumption) (Or.inl ⟨by rfl, ?_⟩) ?_
   rotate_left
   · intro w hSw; (try dsimp only at hSw); go_simp; (try with_reducible rfl)
   try simp only [Act.put, List.getElem_toArray, List.getElem_cons_succ, List.getElem_cons_zero, List.setIfInBounds_toArray, List.set_cons_zero, List.set_cons_succ]
  refine todone ?_
  obtain ⟨k0, k1, k2, k3⟩ := P2.two
  refine wpAnyH_ready (rs := [6]) (by kernel_rfl) (by simp) ?_
  refine AllReadyH.cons rfl (fun K hK => ?sst6) AllReadyH.nil
  go_simp
  refine afterSet2 P2 (fun X6 o6 zs6 => ?_)
  skip
  refine hK.out _ _ ?kst6 (fun hHeld => ?mst6)
  case kst6 =>
    try dsimp only
    exact ⟨((R0.later A2).only o6 (by omega)).cell 0, ((R0.later A2).only o6 (by omega)).cell 1, ((R1.later A2).only o6 (by omega)).cell 0, ((R1.later A2).only o6 (by omega)).cell 1⟩
  clear hK K
  try simp only [Act.put, List.setIfInBounds_toArray, List.set_cons_zero, List.set_cons_succ]
  refine wpAnyH_ready (rs := [7]) (by kernel_rfl) (by simp) ?_
  refine AllReadyH.cons rfl (fun K hK => ?sas7) AllReadyH.nil
  go_simp
  refine hK.out _ _ ?kas7 (fun hHeld => ?mas7)
  case kas7 =>
    try dsimp only
    exact ⟨((R0.later A2).only o6 (by omega)).cell 0, ((R0.later A2).only o6 (by omega)).cell 1, ((R1.later A2).only o6 (by omega)).cell 0, ((R1.later A2).only o6 (by omega)).cell 1⟩
  clear hK K
  try simp only [Act.put, List.setIfInBounds_toArray, List.set_cons_zero, List.set_cons_succ]
  refine wpAnyH_done (by kernel_rfl) ?_ _
  (try dsimp only [Straight])
  obtain ⟨z0, z1, _, _⟩ := zs6.two
  have s2 := A2.size
  have hB6 : Below w.heap.size w X6 := (hBW.trans (A2.mono (by omega))).trans (o6.below (by omega))
  have HRR := Lib.hid hr
  clear hr
  go_wp2_with fail
  refine bodyPost_ret (v := .tuple #[.agg #[.slice g1 l1 g3, .slice g2 l2 g4], .int .i64 c]) (by simp [results, Tryz.results14, go_sem, z0, z1]) rfl ⟨One.of ?_, hB6⟩
  rcases HRR.out with ⟨h0, h⟩ | ⟨h0, h⟩
  · exact .inl ⟨h0, (h.mono (by omega)).far P2 (by decide) (by decide) (by decide) (fun k hk => o6.block k hk)⟩
  · exact .inr ⟨h0, h⟩
set_option maxRecDepth 100000 in
set_option maxHeartbeats 8000000 in
theorem mulP_any {n : Nat} {w : World} {u v : Value} {s1 s2 : List Int} {q1 q2 : List Q3} {a1 b1 a2 b2 : Option Addr} {ca1 cb1 ca2 cb2 : Nat} (T1 : TensQ w u s1 q1 a1 ca1 b1 cb1) (T2 : TensQ w v s2 q2 a2 ca2 b2 cb2) (hs1 : s1.length ≤ 17592186044416) (hs2 : s2.length ≤ 17592186044416) (hq1 : q1.length ≤ 1000000) (hq2 : q2.length ≤ 1000000) (hl1 : lensQ q1 n) (hl2 : lensQ q2 n) (hn : n ≤ 1000000) :
    Calls Tryz.prog 20 #[u, v] w fun e w' => One w.heap.size w' e (twoC (dotC s1 s2 q1 q2) (zipOk (fun _ _ => true) q1 q2)) s1 (zipQ (fun x y => x * y) q1 q2) (2 * n + 4) ∧ Below w.heap.size w w' := by
  have HT1 := Lib.hid T1
  have HT2 := Lib.hid T2
  have HL1 := Lib.hid hl1
  have HL2 := Lib.hid hl2
  obtain rfl := T1.is
  obtain rfl := T2.is
  obtain ⟨W, hW⟩ : ∃ W, (((w.alloc (.cells #[.slice a1 s1.length ca1, .slice b1 q1.length cb1] 26)).alloc (.cells #[.slice a2 s2.length ca2, .slice b2 q2.length cb2] 26)).alloc (.cells #[.slice none 0 0, .slice none 0 0] 26)) = W := ⟨_, rfl⟩
  have R0 : Row W (w.heap.size) 26 #[.slice a1 s1.length ca1, .slice b1 q1.length cb1] := by rw [← hW]; have h := Row.new w 26 #[.slice a1 s1.length ca1, .slice b1 q1.length cb1]; (try simp only [World.size_alloc] at h); exact ((h.alloc _).alloc _)
  have R1 : Row W (w.heap.size + 1) 26 #[.slice a2 s2.length ca2, .slice b2 q2.length cb2] := by rw [← hW]; have h := Row.new (w.alloc (.cells #[.slice a1 s1.length ca1, .slice b1 q1.length cb1] 26)) 26 #[.slice a2 s2.length ca2, .slice b2 q2.length cb2]; (try simp only [World.size_alloc] at h); exact (h.alloc _)
  have R2 : Row W (w.heap.size + 1 + 1) 26 #[.slice none 0 0, .slice none 0 0] := by rw [← hW]; have h := Row.new ((w.alloc (.cells #[.slice a1 s1.length ca1, .slice b1 q1.length cb1] 26)).alloc (.cells #[.slice a2 s2.length ca2, .slice b2 q2.length cb2] 26)) 26 #[.slice none 0 0, .slice none 0 0]; (try simp only [World.size_alloc] at h); exact h
  have hBW : Below w.heap.size w W := by rw [← hW]; exact ((((Below.refl _ _).alloc (by (try simp) <;> omega) _).alloc (by (try simp) <;> omega) _).alloc (by (try simp) <;> omega) _)
  have hsW : W.heap.size = w.heap.size + 1 + 1 + 1 := by rw [← hW]; simp
  have hcall := fun (y : World) (hy : Below W.heap.size W y) (g : Nat) (hg : y.cell? ⟨g, 0, none⟩ = some (.func (.func 54) #[] #[])) =>
    ofTwo_any (F := 93) (cap := #[.pointer (some ⟨g, 0, none⟩)]) (ok := fun _ _ => true) (f := fun x y => x * y) (N := (2 * n + 4)) (HT1.out.later (hBW.trans (hy.mono (by omega)))) (HT2.out.later (hBW.trans (hy.mono (by omega)))) hs1 hs2 hq1 hq2 HL1.out HL2.out hn (enters_of Tryz.func93 (by kernel_rfl) rfl)
      (fun X x y' p q hp hq hX hx hy' => (total1_any (n := 0) (F := 54) hx hy' ((hX.cell (World.block_lt_of_cell? _ _ hg)).trans hg) (enters_of Tryz.func54 (by kernel_rfl) rfl) (fun Y x' y'' hY hx2 hy2 => mulQ_any (hx2.arg (HL1.out p hp).1 (HL1.out p hp).2) (hy2.arg (HL2.out q hq).1 (HL2.out q hq).2) (by omega))).mono fun e w' ⟨r, e1, e2, e3⟩ => ⟨.inl ⟨rfl, r, e1, e2⟩, e3⟩)
  obtain ⟨L, hL⟩ : ∃ L, zipQ (fun x y => x * y) q1 q2 = L := ⟨_, rfl⟩
  obtain ⟨c, hc⟩ : ∃ c, twoC (dotC s1 s2 q1 q2) (zipOk (fun _ _ => true) q1 q2) = c := ⟨_, rfl⟩
  simp only [hL, hc] at hcall
  rw [hL, hc]
  have HC := Lib.hid hcall
  have mkS : ∀ X, Below W.heap.size W X → X.cell? ⟨w.heap.size, 0, none⟩ = some (.slice a1 s1.length ca1) ∧ X.cell? ⟨w.heap.size, 1, none⟩ = some (.slice b1 q1.length cb1) ∧ X.cell? ⟨w.heap.size + 1, 0, none⟩ = some (.slice a2 s2.length ca2) ∧ X.cell? ⟨w.heap.size + 1, 1, none⟩ = some (.slice b2 q2.length cb2) := fun X h => by
    obtain ⟨x0, x1, _⟩ := (R0.later h).two
    obtain ⟨x2, x3, _⟩ := (R1.later h).two
    exact ⟨x0, x1, x2, x3⟩
  have B0 : Below W.heap.size W W.drew := (Below.refl _ W).drew
  clear T1 T2 hl1 hl2 hL hc hcall
  go_enter Tryz.func20, Tryz.ntmps20
  go_wp2_with fail
  (try rw [hW])
  clear hW
  refine wp_region_held (S := fun X => X.cell? ⟨w.heap.size, 0, none⟩ = some (.slice a1 s1.length ca1) ∧ X.cell? ⟨w.heap.size, 1, none⟩ = some (.slice b1 q1.length cb1) ∧ X.cell? ⟨w.heap.size + 1, 0, none⟩ = some (.slice a2 s2.length ca2) ∧ X.cell? ⟨w.heap.size + 1, 1, none⟩ = some (.slice b2 q2.length cb2)) (by kernel_rfl) ?_
  have hHeld := mkS _ B0
  refine todo [0, 1] ?_
  iterate 2
   refine todoH (v := ?_) rfl (by kernel_rfl) (fun _ _ _ h => h) (by assumption) (Or.inl ⟨by rfl, ?_⟩) ?_
   rotate_left
   · intro w hSw; (try dsimp only at hSw); go_simp; (try with_reducible rfl)
   try simp only [Act.put, List.getElem_toArray, List.getElem_cons_succ, List.getElem_cons_zero, List.setIfInBounds_toArray, List.set_cons_zero, List.set_cons_succ]
  refine todone ?_
  refine wpAnyH_ready (rs := [2]) (by kernel_rfl) (by simp) ?_
  refine AllReadyH.cons rfl (fun K hK => ?stot) AllReadyH.nil
  go_simp
  refine (total_any 54 _).mono ?_
  rintro e yy ⟨rfl, rfl⟩
  obtain ⟨y1, hy1⟩ : ∃ y1, W.drew = y1 := ⟨_, rfl⟩
  rw [hy1] at B0 ⊢
  have A1 : Below W.heap.size W (y1.alloc (.cells #[.func (.func 54) #[] #[]] 73)) := B0.alloc (by have := B0.size; omega) _
  go_simp
  refine hK.out _ _ ?ktot (fun hHeld => ?mtot)
  case ktot =>
    try dsimp only
    exact mkS _ A1
  clear hK K
  try simp only [Act.put, List.setIfInBounds_toArray, List.set_cons_zero, List.set_cons_succ]
  refine wpAnyH_ready (rs := [3]) (by kernel_rfl) (by simp) ?_
  refine AllReadyH.cons rfl (fun K hK => ?stwo) AllReadyH.nil
  go_simp
  refine (HC.out _ A1 y1.heap.size (by simp)).mono ?_
  rintro e w2 ⟨h, hb2⟩
  have A2 : Below W.heap.size W w2 := A1.trans (hb2.mono A1.size)
  have A1s := A1.size
  have P2 := R2.later A2
  obtain ⟨g1, g2, l1, l2, g3, g4, rfl, hr⟩ := h.shape
  go_simp
  refine hK.out _ _ ?ktwo (fun hHeld => ?mtwo)
  case ktwo =>
    try dsimp only
    exact mkS _ A2
  clear hK K
  try simp only [Act.put, List.setIfInBounds_toArray, List.set_cons_zero, List.set_cons_succ]
  refine todo [4, 5] ?_
  iterate 2
   refine todoH (v := ?_) rfl (by kernel_rfl) (fun _ _ _ h => h) (by assumption) (Or.inl ⟨by rfl, ?_⟩) ?_
   rotate_left
   · intro w hSw; (try dsimp only at hSw); go_simp; (try with_reducible rfl)
   try simp only [Act.put, List.getElem_toArray, List.getElem_cons_succ, List.getElem_cons_zero, List.setIfInBounds_toArray, List.set_cons_zero, List.set_cons_succ]
  refine todone ?_
  obtain ⟨k0, k1, k2, k3⟩ := P2.two
  refine wpAnyH_ready (rs := [6]) (by kernel_rfl) (by simp) ?_
  refine AllReadyH.cons rfl (fun K hK => ?sst6) AllReadyH.nil
  go_simp
  refine afterSet2 P2 (fun X6 o6 zs6 => ?_)
  skip
  refine hK.out _ _ ?kst6 (fun hHeld => ?mst6)
  case kst6 =>
    try dsimp only
    exact ⟨((R0.later A2).only o6 (by omega)).cell 0, ((R0.later A2).only o6 (by omega)).cell 1, ((R1.later A2).only o6 (by omega)).cell 0, ((R1.later A2).only o6 (by omega)).cell 1⟩
  clear hK K
  try simp only [Act.put, List.setIfInBounds_toArray, List.set_cons_zero, List.set_cons_succ]
  refine wpAnyH_ready (rs := [7]) (by kernel_rfl) (by simp) ?_
  refine AllReadyH.cons rfl (fun K hK => ?sas7) AllReadyH.nil
  go_simp
  refine hK.out _ _ ?kas7 (fun hHeld => ?mas7)
  case kas7 =>
    try dsimp only
    exact ⟨((R0.later A2).only o6 (by omega)).cell 0, ((R0.later A2).only o6 (by omega)).cell 1, ((R1.later A2).only o6 (by omega)).cell 0, ((R1.later A2).only o6 (by omega)).cell 1⟩
  clear hK K
  try simp only [Act.put, List.setIfInBounds_toArray, List.set_cons_zero, List.set_cons_succ]
  refine wpAnyH_done (by kernel_rfl) ?_ _
  (try dsimp only [Straight])
  obtain ⟨z0, z1, _, _⟩ := zs6.two
  have s2 := A2.size
  have hB6 : Below w.heap.size w X6 := (hBW.trans (A2.mono (by omega))).trans (o6.below (by omega))
  have HRR := Lib.hid hr
  clear hr
  go_wp2_with fail
  refine bodyPost_ret (v := .tuple #[.agg #[.slice g1 l1 g3, .slice g2 l2 g4], .int .i64 c]) (by simp [results, Tryz.results20, go_sem, z0, z1]) rfl ⟨One.of ?_, hB6⟩
  rcases HRR.out with ⟨h0, h⟩ | ⟨h0, h⟩
  · exact .inl ⟨h0, (h.mono (by omega)).far P2 (by decide) (by decide) (by decide) (fun k hk => o6.block k hk)⟩
  · exact .inr ⟨h0, h⟩
end Go.Proofs.YtjcacmnmbbnffaaGreat
