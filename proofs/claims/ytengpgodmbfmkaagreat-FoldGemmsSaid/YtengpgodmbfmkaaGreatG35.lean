/-
  Part 35 of 39: contracts and what they rest on (RefM10).
-/
import Derived.Test.YtengpgodmbfmkaaGreatG33
import Derived.Test.YtengpgodmbfmkaaGreatG34
namespace Go.Proofs.YtengpgodmbfmkaaGreat
set_option linter.unusedVariables false
set_option linter.unusedSimpArgs false
set_option maxRecDepth 100000
set_option maxHeartbeats 40000000
section
open Go.RowKit
def RefO10 (base : Nat) (w' : World) (e : Ending) (s : List Int) (L : List Rat) (m : Nat) : Prop := ∃ G v, e = .returned (.tuple #[.agg #[.slice (some ⟨G, 0, none⟩) 2 2, v], .int .i64 0]) ∧ base ≤ G ∧ ResS G w' (.slice (some ⟨G, 0, none⟩) 2 2) s ∧ RowO G 58 (fun W v x => ResR G W v x m) w' v L
def Ref10 (w' : World) (e : Ending) (c : Int) (s : List Int) (L : List Rat) (m : Nat) : Prop := ∃ r, e = .returned (.tuple #[r, .int .i64 c]) ∧ BoxT10 r ∧ (c = 0 → TenR w' r s L m)
theorem matMulR_bad {n : Nat} {w : World} {u v : Value} {s t : List Int} {X Y : List Rat} {a1 b1 a2 b2 : Option Addr} {ca1 cb1 ca2 cb2 : Nat} (T1 : TensR w u s X n a1 ca1 b1 cb1) (T2 : TensR w v t Y n a2 ca2 b2 cb2) (h : ¬ (s.length = 2 ∧ t.length = 2 ∧ s.getD 1 0 = t.getD 0 0)) (hs : s.length ≤ 1000) (ht : t.length ≤ 1000) :
 Calls Tryz.prog 22 #[u, v] w fun e w' => Ref10 w' e 13 [] [] 0 ∧ Below w.heap.size w w' := by
 have HT1 := Lib.hid T1
 have HT2 := Lib.hid T2
 obtain rfl := T1.is
 obtain rfl := T2.is
 obtain ⟨M1, hM1⟩ : ∃ m, X.length = m := ⟨_, rfl⟩
 obtain ⟨M2, hM2⟩ : ∃ m, Y.length = m := ⟨_, rfl⟩
 have HM1 := Lib.hid hM1
 have HM2 := Lib.hid hM2
 rw [hM1, hM2]
 obtain ⟨N1, hN1⟩ : ∃ m, s.length = m := ⟨_, rfl⟩
 obtain ⟨N2, hN2⟩ : ∃ m, t.length = m := ⟨_, rfl⟩
 have HN1 := Lib.hid hN1
 have HN2 := Lib.hid hN2
 rw [hN1] at hs
 rw [hN2] at ht
 rw [hN1, hN2] at h
 rw [hN1, hN2]
 clear hN1 hN2
 obtain ⟨W, hW⟩ : ∃ W, (((w.alloc (.cells #[.slice a1 N1 ca1, .slice b1 M1 cb1] 36)).alloc (.cells #[.slice a2 N2 ca2, .slice b2 M2 cb2] 36)).alloc (.cells #[.slice none 0 0, .slice none 0 0] 36)) = W := ⟨_, rfl⟩
 have R0 : Row W (w.heap.size) 36 #[.slice a1 N1 ca1, .slice b1 M1 cb1] := by rw [← hW]; have h := Row.new w 36 #[.slice a1 N1 ca1, .slice b1 M1 cb1]; (try simp only [World.size_alloc] at h); exact ((h.alloc _).alloc _)
 have R1 : Row W (w.heap.size + 1) 36 #[.slice a2 N2 ca2, .slice b2 M2 cb2] := by rw [← hW]; have h := Row.new (w.alloc (.cells #[.slice a1 N1 ca1, .slice b1 M1 cb1] 36)) 36 #[.slice a2 N2 ca2, .slice b2 M2 cb2]; (try simp only [World.size_alloc] at h); exact (h.alloc _)
 have R2 : Row W (w.heap.size + 1 + 1) 36 #[.slice none 0 0, .slice none 0 0] := by rw [← hW]; have h := Row.new ((w.alloc (.cells #[.slice a1 N1 ca1, .slice b1 M1 cb1] 36)).alloc (.cells #[.slice a2 N2 ca2, .slice b2 M2 cb2] 36)) 36 #[.slice none 0 0, .slice none 0 0]; (try simp only [World.size_alloc] at h); exact h
 have hBW : Below w.heap.size w W := by rw [← hW]; exact ((((Below.refl _ _).alloc (by (try simp) <;> omega) _).alloc (by (try simp) <;> omega) _).alloc (by (try simp) <;> omega) _)
 have hsW : W.heap.size = w.heap.size + 1 + 1 + 1 := by rw [← hW]; simp
 clear T1 T2 hM1 hM2
 by_cases h1 : N1 = 2
 case neg =>
  have h1I : ((N1 : Int) != 2) = true := by simp; omega
  clear h
  have MK := Lib.hid (show ∀ X, Below W.heap.size W X → X.cell? ⟨w.heap.size, 0, none⟩ = some (.slice a1 N1 ca1) ∧ X.cell? ⟨w.heap.size + 1, 0, none⟩ = some (.slice a2 N2 ca2) from fun X h => by
   obtain ⟨g0, g1, _⟩ := (R0.later h).two
   obtain ⟨g2, g3, _⟩ := (R1.later h).two
   exact ⟨g0, g2⟩)
  go_enter Tryz.func22, Tryz.ntmps22
  (try rw [hW])
  go_wp2_with fail
  (try rw [hW])
  refine wp_region_held_drew (S := fun X => X.cell? ⟨w.heap.size, 0, none⟩ = some (.slice a1 N1 ca1) ∧ X.cell? ⟨w.heap.size + 1, 0, none⟩ = some (.slice a2 N2 ca2)) (by kernel_rfl) (MK.out _ (Below.refl _ _).drew) (fun hHeld => ?_)
  have bd : Below W.heap.size W W.drew := (Below.refl _ _).drew
  refine todo [0, 1, 2, 3, 4, 5, 6, 7, 8, 9, 10, 11, 12, 13, 14, 15, 16, 17, 18, 19, 20] ?_
  iterate 21
   first
   | (refine todoH (v := ?_) rfl (by kernel_rfl) (fun _ _ _ h => h) (by assumption) (Or.inl ⟨by rfl, ?_⟩) ?_
      rotate_left
      · intro w hSw; (try dsimp only at hSw); go_simp; (try with_reducible rfl)
      try simp only [Act.put, nA, nB, nC, nD, nE, nF])
   | (refine todoH (v := undef) rfl (by kernel_rfl) (fun _ _ _ h => h) (by assumption) (Or.inr ⟨by rfl, rfl⟩) ?_
      try simp only [Act.put, nA, nB, nC, nD, nE, nF])
  refine todone ?_
  refine wpAnyH_done (by kernel_rfl) ?_ _
  (try dsimp only [Straight])
  obtain ⟨k0, k1, k2, k3⟩ := R2.two
  have P3 := R2.set2 (.slice none 0 0) (.slice none 0 0)
  obtain ⟨z0, z1, _, _⟩ := P3.two
  have hBE := below_set2 hBW (show w.heap.size ≤ w.heap.size + 1 + 1 by omega) (.slice none 0 0) (.slice none 0 0)
  go_wp2_with fail
  exact bodyPost_ret (v := .tuple #[noTensor, .int .i64 13]) (by simp [results, Tryz.results22, go_sem, z0, z1, noTensor]) rfl ⟨⟨_, rfl, ⟨none, none, 0, 0, 0, 0, rfl⟩, fun h => by cases h⟩, hBE.drew⟩
 case pos =>
  by_cases h2 : N2 = 2
  case neg =>
   subst h1
   have h2I : ((N2 : Int) != 2) = true := by simp; omega
   clear h
   have MK := Lib.hid (show ∀ X, Below W.heap.size W X → X.cell? ⟨w.heap.size, 0, none⟩ = some (.slice a1 2 ca1) ∧ X.cell? ⟨w.heap.size + 1, 0, none⟩ = some (.slice a2 N2 ca2) from fun X h => by
    obtain ⟨g0, g1, _⟩ := (R0.later h).two
    obtain ⟨g2, g3, _⟩ := (R1.later h).two
    exact ⟨g0, g2⟩)
   go_enter Tryz.func22, Tryz.ntmps22
   (try rw [hW])
   go_wp2_with fail
   (try rw [hW])
   refine wp_region_held_drew (S := fun X => X.cell? ⟨w.heap.size, 0, none⟩ = some (.slice a1 2 ca1) ∧ X.cell? ⟨w.heap.size + 1, 0, none⟩ = some (.slice a2 N2 ca2)) (by kernel_rfl) (MK.out _ (Below.refl _ _).drew) (fun hHeld => ?_)
   have bd : Below W.heap.size W W.drew := (Below.refl _ _).drew
   refine todo [0, 1, 2, 3, 4, 5, 6, 7, 8, 9, 10, 11, 12, 13, 14, 15, 16, 17, 18, 19, 20] ?_
   iterate 21
    first
    | (refine todoH (v := ?_) rfl (by kernel_rfl) (fun _ _ _ h => h) (by assumption) (Or.inl ⟨by rfl, ?_⟩) ?_
       rotate_left
       · intro w hSw; (try dsimp only at hSw); go_simp; (try with_reducible rfl)
       try simp only [Act.put, nA, nB, nC, nD, nE, nF])
    | (refine todoH (v := undef) rfl (by kernel_rfl) (fun _ _ _ h => h) (by assumption) (Or.inr ⟨by rfl, rfl⟩) ?_
       try simp only [Act.put, nA, nB, nC, nD, nE, nF])
   refine todone ?_
   refine wpAnyH_done (by kernel_rfl) ?_ _
   (try dsimp only [Straight])
   obtain ⟨k0, k1, k2, k3⟩ := R2.two
   have P3 := R2.set2 (.slice none 0 0) (.slice none 0 0)
   obtain ⟨z0, z1, _, _⟩ := P3.two
   have hBE := below_set2 hBW (show w.heap.size ≤ w.heap.size + 1 + 1 by omega) (.slice none 0 0) (.slice none 0 0)
   go_wp2_with fail
   exact bodyPost_ret (v := .tuple #[noTensor, .int .i64 13]) (by simp [results, Tryz.results22, go_sem, z0, z1, noTensor]) rfl ⟨⟨_, rfl, ⟨none, none, 0, 0, 0, 0, rfl⟩, fun h => by cases h⟩, hBE.drew⟩
  case pos =>
   subst h1
   subst h2
   have h3 : ¬ s.getD 1 0 = t.getD 0 0 := fun e => h ⟨rfl, rfl, e⟩
   obtain ⟨e1, f1, rfl, q1⟩ := HT1.out.sh.at (i := 1) (by rw [HN1.out]; omega)
   obtain ⟨e2, f2, rfl, q2⟩ := HT2.out.sh.at (i := 0) (by rw [HN2.out]; omega)
   obtain ⟨x1, hx1⟩ : ∃ x, s.getD 1 0 = x := ⟨_, rfl⟩
   obtain ⟨x2, hx2⟩ : ∃ x, t.getD 0 0 = x := ⟨_, rfl⟩
   rw [hx1] at q1 h3
   rw [hx2] at q2 h3
   have h3I : (x1 != x2) = true := by simp; exact h3
   have l1 := World.block_lt_of_cell? _ _ q1
   have l2 := World.block_lt_of_cell? _ _ q2
   have hq1 := fun (X : World) (h : Below W.heap.size W X) => ((hBW.trans (h.mono hBW.size)).cell l1).trans q1
   have hq2 := fun (X : World) (h : Below W.heap.size W X) => ((hBW.trans (h.mono hBW.size)).cell l2).trans q2
   clear h hx1 hx2 q1 q2
   have MK := Lib.hid (show ∀ X, Below W.heap.size W X → X.cell? ⟨w.heap.size, 0, none⟩ = some (.slice (some ⟨e1, f1, none⟩) 2 ca1) ∧ X.cell? ⟨w.heap.size + 1, 0, none⟩ = some (.slice (some ⟨e2, f2, none⟩) 2 ca2) ∧ X.cell? ⟨e1, f1 + 1, none⟩ = some (.int .i64 x1) ∧ X.cell? ⟨e2, f2, none⟩ = some (.int .i64 x2) from fun X h => by
    obtain ⟨g0, g1, _⟩ := (R0.later h).two
    obtain ⟨g2, g3, _⟩ := (R1.later h).two
    exact ⟨g0, g2, hq1 X h, hq2 X h⟩)
   go_enter Tryz.func22, Tryz.ntmps22
   (try rw [hW])
   go_wp2_with fail
   (try rw [hW])
   refine wp_region_held_drew (S := fun X => X.cell? ⟨w.heap.size, 0, none⟩ = some (.slice (some ⟨e1, f1, none⟩) 2 ca1) ∧ X.cell? ⟨w.heap.size + 1, 0, none⟩ = some (.slice (some ⟨e2, f2, none⟩) 2 ca2) ∧ X.cell? ⟨e1, f1 + 1, none⟩ = some (.int .i64 x1) ∧ X.cell? ⟨e2, f2, none⟩ = some (.int .i64 x2)) (by kernel_rfl) (MK.out _ (Below.refl _ _).drew) (fun hHeld => ?_)
   have bd : Below W.heap.size W W.drew := (Below.refl _ _).drew
   refine todo [0, 1, 2, 3, 4, 5, 6, 7, 8, 9, 10, 11, 12, 13, 14, 15, 16, 17, 18, 19, 20] ?_
   iterate 21
    first
    | (refine todoH (v := ?_) rfl (by kernel_rfl) (fun _ _ _ h => h) (by assumption) (Or.inl ⟨by rfl, ?_⟩) ?_
       rotate_left
       · intro w hSw; (try dsimp only at hSw); go_simp; (try with_reducible rfl)
       try simp only [Act.put, nA, nB, nC, nD, nE, nF])
    | (refine todoH (v := undef) rfl (by kernel_rfl) (fun _ _ _ h => h) (by assumption) (Or.inr ⟨by rfl, rfl⟩) ?_
       try simp only [Act.put, nA, nB, nC, nD, nE, nF])
   refine todone ?_
   refine wpAnyH_done (by kernel_rfl) ?_ _
   (try dsimp only [Straight])
   obtain ⟨k0, k1, k2, k3⟩ := R2.two
   have P3 := R2.set2 (.slice none 0 0) (.slice none 0 0)
   obtain ⟨z0, z1, _, _⟩ := P3.two
   have hBE := below_set2 hBW (show w.heap.size ≤ w.heap.size + 1 + 1 by omega) (.slice none 0 0) (.slice none 0 0)
   go_wp2_with fail
   exact bodyPost_ret (v := .tuple #[noTensor, .int .i64 13]) (by simp [results, Tryz.results22, go_sem, z0, z1, noTensor]) rfl ⟨⟨_, rfl, ⟨none, none, 0, 0, 0, 0, rfl⟩, fun h => by cases h⟩, hBE.drew⟩
theorem matMulR_14 {n a b c : Nat} {w : World} {u v : Value} {X Y : List Rat} {a1 b1 a2 b2 : Option Addr} {ca1 cb1 ca2 cb2 : Nat} (T1 : TensR w u [(a : Int), (b : Int)] X n a1 ca1 b1 cb1) (T2 : TensR w v [(b : Int), (c : Int)] Y n a2 ca2 b2 cb2) (ha : a ≤ 64) (hb : b ≤ 64) (hc : c ≤ 64) (h : 1024 < a * c) :
 Calls Tryz.prog 22 #[u, v] w fun e w' => Ref10 w' e 14 [] [] 0 ∧ Below w.heap.size w w' := by
 have HT1 := Lib.hid T1
 have HT2 := Lib.hid T2
 obtain rfl := T1.is
 obtain rfl := T2.is
 obtain ⟨M1, hM1⟩ : ∃ m, X.length = m := ⟨_, rfl⟩
 obtain ⟨M2, hM2⟩ : ∃ m, Y.length = m := ⟨_, rfl⟩
 have HM1 := Lib.hid hM1
 have HM2 := Lib.hid hM2
 rw [hM1, hM2]
 obtain ⟨W, hW⟩ : ∃ W, (((w.alloc (.cells #[.slice a1 2 ca1, .slice b1 M1 cb1] 36)).alloc (.cells #[.slice a2 2 ca2, .slice b2 M2 cb2] 36)).alloc (.cells #[.slice none 0 0, .slice none 0 0] 36)) = W := ⟨_, rfl⟩
 have R0 : Row W (w.heap.size) 36 #[.slice a1 2 ca1, .slice b1 M1 cb1] := by rw [← hW]; have h := Row.new w 36 #[.slice a1 2 ca1, .slice b1 M1 cb1]; (try simp only [World.size_alloc] at h); exact ((h.alloc _).alloc _)
 have R1 : Row W (w.heap.size + 1) 36 #[.slice a2 2 ca2, .slice b2 M2 cb2] := by rw [← hW]; have h := Row.new (w.alloc (.cells #[.slice a1 2 ca1, .slice b1 M1 cb1] 36)) 36 #[.slice a2 2 ca2, .slice b2 M2 cb2]; (try simp only [World.size_alloc] at h); exact (h.alloc _)
 have R2 : Row W (w.heap.size + 1 + 1) 36 #[.slice none 0 0, .slice none 0 0] := by rw [← hW]; have h := Row.new ((w.alloc (.cells #[.slice a1 2 ca1, .slice b1 M1 cb1] 36)).alloc (.cells #[.slice a2 2 ca2, .slice b2 M2 cb2] 36)) 36 #[.slice none 0 0, .slice none 0 0]; (try simp only [World.size_alloc] at h); exact h
 have hBW : Below w.heap.size w W := by rw [← hW]; exact ((((Below.refl _ _).alloc (by (try simp) <;> omega) _).alloc (by (try simp) <;> omega) _).alloc (by (try simp) <;> omega) _)
 have hsW : W.heap.size = w.heap.size + 1 + 1 + 1 := by rw [← hW]; simp
 clear T1 T2 hM1 hM2
 obtain ⟨e1, f1, rfl, p10⟩ := HT1.out.sh.at (i := 0) (by simp)
 obtain ⟨e1', f1', he1, p11⟩ := HT1.out.sh.at (i := 1) (by simp)
 obtain ⟨rfl, rfl⟩ : e1 = e1' ∧ f1 = f1' := by simpa using he1
 have l10 := World.block_lt_of_cell? _ _ p10
 have l11 := World.block_lt_of_cell? _ _ p11
 have q10 := fun (X : World) (h : Below W.heap.size W X) => (show X.cell? ⟨e1, f1, none⟩ = some (.int .i64 (a : Int)) from ((hBW.trans (h.mono hBW.size)).cell l10).trans p10)
 have q11 := fun (X : World) (h : Below W.heap.size W X) => (show X.cell? ⟨e1, f1 + 1, none⟩ = some (.int .i64 (b : Int)) from ((hBW.trans (h.mono hBW.size)).cell l11).trans p11)
 clear he1 p10 p11
 obtain ⟨e2, f2, rfl, p20⟩ := HT2.out.sh.at (i := 0) (by simp)
 obtain ⟨e2', f2', he2, p21⟩ := HT2.out.sh.at (i := 1) (by simp)
 obtain ⟨rfl, rfl⟩ : e2 = e2' ∧ f2 = f2' := by simpa using he2
 have l20 := World.block_lt_of_cell? _ _ p20
 have l21 := World.block_lt_of_cell? _ _ p21
 have q20 := fun (X : World) (h : Below W.heap.size W X) => (show X.cell? ⟨e2, f2, none⟩ = some (.int .i64 (b : Int)) from ((hBW.trans (h.mono hBW.size)).cell l20).trans p20)
 have q21 := fun (X : World) (h : Below W.heap.size W X) => (show X.cell? ⟨e2, f2 + 1, none⟩ = some (.int .i64 (c : Int)) from ((hBW.trans (h.mono hBW.size)).cell l21).trans p21)
 clear he2 p20 p21
 obtain ⟨P, hP⟩ : ∃ P, a * c = P := ⟨_, rfl⟩
 have hmul : (a : Int) * (c : Int) = (P : Int) := by rw [← hP]; exact (Int.natCast_mul a c).symm
 have hP4 : P ≤ 4096 := by rw [← hP]; exact Nat.mul_le_mul ha hc
 have HP := Lib.hid hP
 rw [hP] at h
 have MK := Lib.hid (show ∀ X, Below W.heap.size W X → X.cell? ⟨w.heap.size, 0, none⟩ = some (.slice (some ⟨e1, f1, none⟩) 2 ca1) ∧ X.cell? ⟨w.heap.size + 1, 0, none⟩ = some (.slice (some ⟨e2, f2, none⟩) 2 ca2) ∧ X.cell? ⟨e1, f1, none⟩ = some (.int .i64 (a : Int)) ∧ X.cell? ⟨e1, f1 + 1, none⟩ = some (.int .i64 (b : Int)) ∧ X.cell? ⟨e2, f2, none⟩ = some (.int .i64 (b : Int)) ∧ X.cell? ⟨e2, f2 + 1, none⟩ = some (.int .i64 (c : Int)) from fun X h => by
  obtain ⟨g0, g1, _⟩ := (R0.later h).two
  obtain ⟨g2, g3, _⟩ := (R1.later h).two
  exact ⟨g0, g2, q10 X h, q11 X h, q20 X h, q21 X h⟩)
 clear q10 q11 q20 q21 hP
 go_enter Tryz.func22, Tryz.ntmps22
 (try rw [hW])
 go_wp2_with fail
 (try rw [hW])
 (try clear hW)
 refine wp_region_held_drew (S := fun X => X.cell? ⟨w.heap.size, 0, none⟩ = some (.slice (some ⟨e1, f1, none⟩) 2 ca1) ∧ X.cell? ⟨w.heap.size + 1, 0, none⟩ = some (.slice (some ⟨e2, f2, none⟩) 2 ca2) ∧ X.cell? ⟨e1, f1, none⟩ = some (.int .i64 (a : Int)) ∧ X.cell? ⟨e1, f1 + 1, none⟩ = some (.int .i64 (b : Int)) ∧ X.cell? ⟨e2, f2, none⟩ = some (.int .i64 (b : Int)) ∧ X.cell? ⟨e2, f2 + 1, none⟩ = some (.int .i64 (c : Int))) (by kernel_rfl) (MK.out _ (Below.refl _ _).drew) (fun hHeld => ?_)
 have bd : Below W.heap.size W W.drew := (Below.refl _ _).drew
 refine todo [0, 1, 2, 3, 4, 5, 6, 7, 8, 9, 10, 11, 12, 13, 14, 15, 16, 17, 18, 19, 20] ?_
 iterate 21
  first
  | (refine todoH (v := ?_) rfl (by kernel_rfl) (fun _ _ _ h => h) (by assumption) (Or.inl ⟨by rfl, ?_⟩) ?_
     rotate_left
     · intro w hSw; (try dsimp only at hSw); go_simp; (try with_reducible rfl)
     try simp only [Act.put, nA, nB, nC, nD, nE, nF])
  | (refine todoH (v := undef) rfl (by kernel_rfl) (fun _ _ _ h => h) (by assumption) (Or.inr ⟨by rfl, rfl⟩) ?_
     try simp only [Act.put, nA, nB, nC, nD, nE, nF])
 refine todone ?_
 refine wpAnyH_done (by kernel_rfl) ?_ _
 (try dsimp only [Straight])
 go_wp2_with fail
 refine wp_region_held_drew (S := fun X => X.cell? ⟨w.heap.size, 0, none⟩ = some (.slice (some ⟨e1, f1, none⟩) 2 ca1) ∧ X.cell? ⟨w.heap.size + 1, 0, none⟩ = some (.slice (some ⟨e2, f2, none⟩) 2 ca2) ∧ X.cell? ⟨e1, f1, none⟩ = some (.int .i64 (a : Int)) ∧ X.cell? ⟨e1, f1 + 1, none⟩ = some (.int .i64 (b : Int)) ∧ X.cell? ⟨e2, f2, none⟩ = some (.int .i64 (b : Int)) ∧ X.cell? ⟨e2, f2 + 1, none⟩ = some (.int .i64 (c : Int))) (by kernel_rfl) (MK.out _ bd.drew) (fun hHeld2 => ?_)
 clear hHeld
 have hHeld := hHeld2
 clear hHeld2
 refine todo [0, 1, 2, 3, 4, 5, 6, 7, 8, 9, 10, 11, 12, 13, 14] ?_
 iterate 15
  first
  | (refine todoH (v := ?_) rfl (by kernel_rfl) (fun _ _ _ h => h) (by assumption) (Or.inl ⟨by rfl, ?_⟩) ?_
     rotate_left
     · intro w hSw; (try dsimp only at hSw); go_simp; (try with_reducible rfl)
     try simp only [Act.put, nA, nB, nC, nD, nE, nF])
  | (refine todoH (v := undef) rfl (by kernel_rfl) (fun _ _ _ h => h) (by assumption) (Or.inr ⟨by rfl, rfl⟩) ?_
     try simp only [Act.put, nA, nB, nC, nD, nE, nF])
 refine todone ?_
 refine wpAnyH_done (by kernel_rfl) ?_ _
 (try dsimp only [Straight])
 have hPI : (P : Int) > 1024 := by omega
 obtain ⟨k0, k1, k2, k3⟩ := R2.two
 have P3 := R2.set2 (.slice none 0 0) (.slice none 0 0)
 obtain ⟨z0, z1, _, _⟩ := P3.two
 have hBE := below_set2 hBW (show w.heap.size ≤ w.heap.size + 1 + 1 by omega) (.slice none 0 0) (.slice none 0 0)
 go_wp2_with fail
 exact bodyPost_ret (v := .tuple #[noTensor, .int .i64 14]) (by simp [results, Tryz.results22, go_sem, z0, z1, noTensor]) rfl ⟨⟨_, rfl, ⟨none, none, 0, 0, 0, 0, rfl⟩, fun h => by cases h⟩, hBE.drew.drew⟩
def mmL (b c : Nat) (X Y : List Rat) (m : Nat) : List Rat := (List.range m).map fun n => sumK (fun k => X.getD (b * (n / c) + k) 0 * Y.getD (c * k + n % c) 0) b
theorem mmL_len (b c : Nat) (X Y : List Rat) (m : Nat) : (mmL b c X Y m).length = m := by unfold mmL; simp
theorem mmL_next (b c : Nat) (X Y : List Rat) {i j : Nat} (hj : j < c) : mmL b c X Y (c * i + j + 1) = mmL b c X Y (c * i + j) ++ [sumK (fun k => X.getD (b * i + k) 0 * Y.getD (c * k + j) 0) b] := by
 unfold mmL
 rw [List.range_succ, List.map_append, List.map_cons, List.map_nil, (mat_div hj).1, (mat_div hj).2]
theorem mmL_all (a b c : Nat) (X Y : List Rat) : mmL b c X Y (c * a) = mmF a b c X Y := by unfold mmL mmF; rw [Nat.mul_comm]
theorem getD_fit10 {L : List Rat} {B : Nat} (h : ∀ x ∈ L, FitQ x B) (k : Nat) : FitQ (L.getD k 0) B := by
 rw [List.getD_eq_getElem?_getD]
 cases e : L[k]? with
 | none => exact FitQ.zero _
 | some x => exact h x (List.mem_of_getElem? e)
theorem sumFit10 {f : Nat → Rat} {B : Nat} (h : ∀ k, FitQ (f k) B) : ∀ k, FitQ (sumK f k) ((B + 1) * k)
 | 0 => FitQ.zero _
 | k + 1 => by
   have h3 := (sumFit10 h k).add (h k)
   have e : (B + 1) * (k + 1) = (B + 1) * k + B + 1 := by rw [Nat.mul_add, Nat.mul_one]; omega
   rw [e]
   exact h3
theorem matMulR_own {n a b c : Nat} {w : World} {u v : Value} {X Y : List Rat} {a1 b1 a2 b2 : Option Addr} {ca1 cb1 ca2 cb2 : Nat} (T1 : TensR w u [(a : Int), (b : Int)] X n a1 ca1 b1 cb1) (T2 : TensR w v [(b : Int), (c : Int)] Y n a2 ca2 b2 cb2) (ha : a ≤ 64) (hb : b ≤ 64) (hc : c ≤ 64) (h : a * c ≤ 1024) (lX : X.length = a * b) (lY : Y.length = b * c) (fX : ∀ x ∈ X, FitQ x 96) (fY : ∀ x ∈ Y, FitQ x 96) (hn : n ≤ 951) :
 Calls Tryz.prog 22 #[u, v] w fun e w' => RefO10 w.heap.size w' e [(a : Int), (c : Int)] (mmF a b c X Y) 951 ∧ Below w.heap.size w w' := by
 obtain ⟨i0, hi, hz0, hz1, hz2⟩ := info_parts infoR
 have HFX := Lib.hid fX
 have HFY := Lib.hid fY
 have HLX := Lib.hid lX
 have HLY := Lib.hid lY
 clear fX fY lX lY
 have HT1 := Lib.hid T1
 have HT2 := Lib.hid T2
 obtain rfl := T1.is
 obtain rfl := T2.is
 obtain ⟨M1, hM1⟩ : ∃ m, X.length = m := ⟨_, rfl⟩
 obtain ⟨M2, hM2⟩ : ∃ m, Y.length = m := ⟨_, rfl⟩
 have HM1 := Lib.hid hM1
 have HM2 := Lib.hid hM2
 rw [hM1, hM2]
 obtain ⟨W, hW⟩ : ∃ W, (((w.alloc (.cells #[.slice a1 2 ca1, .slice b1 M1 cb1] 36)).alloc (.cells #[.slice a2 2 ca2, .slice b2 M2 cb2] 36)).alloc (.cells #[.slice none 0 0, .slice none 0 0] 36)) = W := ⟨_, rfl⟩
 have R0 : Row W (w.heap.size) 36 #[.slice a1 2 ca1, .slice b1 M1 cb1] := by rw [← hW]; have h := Row.new w 36 #[.slice a1 2 ca1, .slice b1 M1 cb1]; (try simp only [World.size_alloc] at h); exact ((h.alloc _).alloc _)
 have R1 : Row W (w.heap.size + 1) 36 #[.slice a2 2 ca2, .slice b2 M2 cb2] := by rw [← hW]; have h := Row.new (w.alloc (.cells #[.slice a1 2 ca1, .slice b1 M1 cb1] 36)) 36 #[.slice a2 2 ca2, .slice b2 M2 cb2]; (try simp only [World.size_alloc] at h); exact (h.alloc _)
 have R2 : Row W (w.heap.size + 1 + 1) 36 #[.slice none 0 0, .slice none 0 0] := by rw [← hW]; have h := Row.new ((w.alloc (.cells #[.slice a1 2 ca1, .slice b1 M1 cb1] 36)).alloc (.cells #[.slice a2 2 ca2, .slice b2 M2 cb2] 36)) 36 #[.slice none 0 0, .slice none 0 0]; (try simp only [World.size_alloc] at h); exact h
 have hBW : Below w.heap.size w W := by rw [← hW]; exact ((((Below.refl _ _).alloc (by (try simp) <;> omega) _).alloc (by (try simp) <;> omega) _).alloc (by (try simp) <;> omega) _)
 have hsW : W.heap.size = w.heap.size + 1 + 1 + 1 := by rw [← hW]; simp
 clear T1 T2 hM1 hM2
 obtain ⟨e1, f1, rfl, p10⟩ := HT1.out.sh.at (i := 0) (by simp)
 obtain ⟨e1', f1', he1, p11⟩ := HT1.out.sh.at (i := 1) (by simp)
 obtain ⟨rfl, rfl⟩ : e1 = e1' ∧ f1 = f1' := by simpa using he1
 have l10 := World.block_lt_of_cell? _ _ p10
 have l11 := World.block_lt_of_cell? _ _ p11
 have q10 := fun (X : World) (h : Below W.heap.size W X) => (show X.cell? ⟨e1, f1, none⟩ = some (.int .i64 (a : Int)) from ((hBW.trans (h.mono hBW.size)).cell l10).trans p10)
 have q11 := fun (X : World) (h : Below W.heap.size W X) => (show X.cell? ⟨e1, f1 + 1, none⟩ = some (.int .i64 (b : Int)) from ((hBW.trans (h.mono hBW.size)).cell l11).trans p11)
 clear he1 p10 p11
 obtain ⟨e2, f2, rfl, p20⟩ := HT2.out.sh.at (i := 0) (by simp)
 obtain ⟨e2', f2', he2, p21⟩ := HT2.out.sh.at (i := 1) (by simp)
 obtain ⟨rfl, rfl⟩ : e2 = e2' ∧ f2 = f2' := by simpa using he2
 have l20 := World.block_lt_of_cell? _ _ p20
 have l21 := World.block_lt_of_cell? _ _ p21
 have q20 := fun (X : World) (h : Below W.heap.size W X) => (show X.cell? ⟨e2, f2, none⟩ = some (.int .i64 (b : Int)) from ((hBW.trans (h.mono hBW.size)).cell l20).trans p20)
 have q21 := fun (X : World) (h : Below W.heap.size W X) => (show X.cell? ⟨e2, f2 + 1, none⟩ = some (.int .i64 (c : Int)) from ((hBW.trans (h.mono hBW.size)).cell l21).trans p21)
 clear he2 p20 p21
 obtain ⟨P, hP⟩ : ∃ P, a * c = P := ⟨_, rfl⟩
 have hmul : (a : Int) * (c : Int) = (P : Int) := by rw [← hP]; exact (Int.natCast_mul a c).symm
 have hP4 : P ≤ 4096 := by rw [← hP]; exact Nat.mul_le_mul ha hc
 have HP := Lib.hid hP
 rw [hP] at h
 have MK := Lib.hid (show ∀ X, Below W.heap.size W X → X.cell? ⟨w.heap.size, 0, none⟩ = some (.slice (some ⟨e1, f1, none⟩) 2 ca1) ∧ X.cell? ⟨w.heap.size + 1, 0, none⟩ = some (.slice (some ⟨e2, f2, none⟩) 2 ca2) ∧ X.cell? ⟨e1, f1, none⟩ = some (.int .i64 (a : Int)) ∧ X.cell? ⟨e1, f1 + 1, none⟩ = some (.int .i64 (b : Int)) ∧ X.cell? ⟨e2, f2, none⟩ = some (.int .i64 (b : Int)) ∧ X.cell? ⟨e2, f2 + 1, none⟩ = some (.int .i64 (c : Int)) from fun X h => by
  obtain ⟨g0, g1, _⟩ := (R0.later h).two
  obtain ⟨g2, g3, _⟩ := (R1.later h).two
  exact ⟨g0, g2, q10 X h, q11 X h, q20 X h, q21 X h⟩)
 clear q10 q11 q20 q21 hP
 go_enter Tryz.func22, Tryz.ntmps22
 (try rw [hW])
 go_wp2_with fail
 (try rw [hW])
 (try clear hW)
 refine wp_region_held_drew (S := fun X => X.cell? ⟨w.heap.size, 0, none⟩ = some (.slice (some ⟨e1, f1, none⟩) 2 ca1) ∧ X.cell? ⟨w.heap.size + 1, 0, none⟩ = some (.slice (some ⟨e2, f2, none⟩) 2 ca2) ∧ X.cell? ⟨e1, f1, none⟩ = some (.int .i64 (a : Int)) ∧ X.cell? ⟨e1, f1 + 1, none⟩ = some (.int .i64 (b : Int)) ∧ X.cell? ⟨e2, f2, none⟩ = some (.int .i64 (b : Int)) ∧ X.cell? ⟨e2, f2 + 1, none⟩ = some (.int .i64 (c : Int))) (by kernel_rfl) (MK.out _ (Below.refl _ _).drew) (fun hHeld => ?_)
 have bd : Below W.heap.size W W.drew := (Below.refl _ _).drew
 refine todo [0, 1, 2, 3, 4, 5, 6, 7, 8, 9, 10, 11, 12, 13, 14, 15, 16, 17, 18, 19, 20] ?_
 iterate 21
  first
  | (refine todoH (v := ?_) rfl (by kernel_rfl) (fun _ _ _ h => h) (by assumption) (Or.inl ⟨by rfl, ?_⟩) ?_
     rotate_left
     · intro w hSw; (try dsimp only at hSw); go_simp; (try with_reducible rfl)
     try simp only [Act.put, nA, nB, nC, nD, nE, nF])
  | (refine todoH (v := undef) rfl (by kernel_rfl) (fun _ _ _ h => h) (by assumption) (Or.inr ⟨by rfl, rfl⟩) ?_
     try simp only [Act.put, nA, nB, nC, nD, nE, nF])
 refine todone ?_
 refine wpAnyH_done (by kernel_rfl) ?_ _
 (try dsimp only [Straight])
 go_wp2_with fail
 refine wp_region_held_drew (S := fun X => X.cell? ⟨w.heap.size, 0, none⟩ = some (.slice (some ⟨e1, f1, none⟩) 2 ca1) ∧ X.cell? ⟨w.heap.size + 1, 0, none⟩ = some (.slice (some ⟨e2, f2, none⟩) 2 ca2) ∧ X.cell? ⟨e1, f1, none⟩ = some (.int .i64 (a : Int)) ∧ X.cell? ⟨e1, f1 + 1, none⟩ = some (.int .i64 (b : Int)) ∧ X.cell? ⟨e2, f2, none⟩ = some (.int .i64 (b : Int)) ∧ X.cell? ⟨e2, f2 + 1, none⟩ = some (.int .i64 (c : Int))) (by kernel_rfl) (MK.out _ bd.drew) (fun hHeld2 => ?_)
 clear hHeld
 have hHeld := hHeld2
 clear hHeld2
 refine todo [0, 1, 2, 3, 4, 5, 6, 7, 8, 9, 10, 11, 12, 13, 14] ?_
 iterate 15
  first
  | (refine todoH (v := ?_) rfl (by kernel_rfl) (fun _ _ _ h => h) (by assumption) (Or.inl ⟨by rfl, ?_⟩) ?_
     rotate_left
     · intro w hSw; (try dsimp only at hSw); go_simp; (try with_reducible rfl)
     try simp only [Act.put, nA, nB, nC, nD, nE, nF])
  | (refine todoH (v := undef) rfl (by kernel_rfl) (fun _ _ _ h => h) (by assumption) (Or.inr ⟨by rfl, rfl⟩) ?_
     try simp only [Act.put, nA, nB, nC, nD, nE, nF])
 refine todone ?_
 refine wpAnyH_done (by kernel_rfl) ?_ _
 (try dsimp only [Straight])
 have hPI : ¬ (P : Int) > 1024 := by omega
 obtain ⟨G, hG⟩ : ∃ G, W.heap.size = G := ⟨_, rfl⟩
 have HG := Lib.hid hG
 obtain ⟨W2, hW2⟩ : ∃ X, W.alloc (.cells #[.int .i64 (a : Int), .int .i64 (c : Int)] 3) = X := ⟨_, rfl⟩
 obtain ⟨W3, hW3⟩ : ∃ X, W2.alloc (.cells #[.slice (some ⟨G, 0, none⟩) 2 2, .slice none 0 0] 36) = X := ⟨_, rfl⟩
 have s2 : W2.heap.size = G + 1 := by rw [← hW2, World.size_alloc, hG]
 have b12 : Below W.heap.size W W2 := by rw [← hW2]; exact (Below.refl _ _).alloc (Nat.le_refl _) _
 have b23 : Below W2.heap.size W2 W3 := by rw [← hW3]; exact (Below.refl _ _).alloc (Nat.le_refl _) _
 have b13 : Below W.heap.size W W3 := b12.trans (b23.mono b12.size)
 have RR := R2.later b13
 have RO : Row W3 (G + 1) 36 #[.slice (some ⟨G, 0, none⟩) 2 2, .slice none 0 0] := by rw [← s2, ← hW3]; exact Row.new _ _ _
 have rs : ResS G W3 (.slice (some ⟨G, 0, none⟩) 2 2) [(a : Int), (c : Int)] := by
  have h : ResS W.heap.size W2 (.slice (some ⟨W.heap.size, 0, none⟩) 2 2) [(a : Int), (c : Int)] := by
   rw [← hW2]
   exact ⟨⟨rfl, .inr ⟨W.heap.size, 2, #[.int .i64 (a : Int), .int .i64 (c : Int)], rfl, Nat.le_refl _, heap_alloc_new W _, Nat.le_refl _, by unfold maxLen; omega, by simp, by simp⟩⟩, wid2_10 (by omega) (by omega)⟩
  rw [hG] at h
  exact h.later b23
 rw [hG] at b13
 have HRR := Lib.hid RR
 have HRO := Lib.hid RO
 have HRS := Lib.hid rs
 have HB13 := Lib.hid b13
 have HR0 := Lib.hid R0
 have HR1 := Lib.hid R1
 have HBW := Lib.hid hBW
 have HSW := Lib.hid hsW
 have h2' := Lib.hid hW2
 have h3' := Lib.hid hW3
 have s2' := Lib.hid s2
 clear RR RO rs b12 b23 b13 R0 R1 R2 hW2 hW3 s2 hG hBW hsW h
 go_wp2_with fail
 have hG := HG.out
 have hW2 := h2'.out
 have hW3 := h3'.out
 have s2 := s2'.out
 (try simp only [hG, hW2, s2, hW3])
 clear hG hW2 hW3 s2 hmul hPI
 go_loopw [10] (fun i wr => ∃ (i' : Nat) (v : Value), i = .int .i64 (i' : Int) ∧ i' ≤ a ∧ Row wr (w.heap.size + 1 + 1) 36 #[.slice none 0 0, .slice none 0 0] ∧ Row wr (G + 1) 36 #[.slice (some ⟨G, 0, none⟩) 2 2, v] ∧ ResS G wr (.slice (some ⟨G, 0, none⟩) 2 2) [(a : Int), (c : Int)] ∧ RowO G 58 (fun W v x => ResR G W v x 951) wr v (mmL b c X Y (c * i')) ∧ Below G W wr) (fun i _ => a - (intOf i).toNat)
 case atStart => exact ⟨0, _, rfl, Nat.zero_le _, HRR.out, HRO.out, HRS.out.later ((Below.refl _ _).drew.drew), RowO.nil _ _ _ _, HB13.out.drew.drew⟩
 case round =>
  obtain ⟨i, v, rfl, hi', rr, ro, rs, hE, hbI⟩ := hrel
  by_cases hltA : i < a
  · have hltAI : (i : Int) < (a : Int) := by omega
    have H1 := Lib.hid rr
    have H2 := Lib.hid ro
    have H3 := Lib.hid rs
    have H4 := Lib.hid hE
    have H5 := Lib.hid hbI
    clear rr ro rs hE hbI
    go_wp2_with fail
    go_loopw [11] (fun j wr => ∃ (j' : Nat) (v : Value), j = .int .i64 (j' : Int) ∧ j' ≤ c ∧ Row wr (w.heap.size + 1 + 1) 36 #[.slice none 0 0, .slice none 0 0] ∧ Row wr (G + 1) 36 #[.slice (some ⟨G, 0, none⟩) 2 2, v] ∧ ResS G wr (.slice (some ⟨G, 0, none⟩) 2 2) [(a : Int), (c : Int)] ∧ RowO G 58 (fun W v x => ResR G W v x 951) wr v (mmL b c X Y (c * i + j')) ∧ Below G W wr) (fun j _ => c - (intOf j).toNat)
    case atStart => exact ⟨0, _, rfl, Nat.zero_le _, H1.out, H2.out, H3.out, H4.out, H5.out⟩
    case round =>
     rename World => wj
     obtain ⟨j, v, rfl, hj', rr, ro, rs, hE, hbJ⟩ := hrel
     by_cases hltC : j < c
     · have hltCI : (j : Int) < (c : Int) := by omega
       have J1 := Lib.hid rr
       have J2 := Lib.hid ro
       have J3 := Lib.hid rs
       have J4 := Lib.hid hE
       have J5 := Lib.hid hbJ
       have J5sz := Lib.hid (show W.heap.size ≤ wj.heap.size from hbJ.size)
       clear rr ro rs hE hbJ
       go_wp2_with fail
       refine (intRR_any 0 _ (by decide) (by decide)).mono ?_
       rintro e y1 ⟨r7, rfl, q7, hy⟩
       obtain ⟨m7, a7, b7, c7, d7, e7, f7, rfl⟩ := q7.shape10
       obtain ⟨B3, hB3⟩ : ∃ B, y1.heap.size = B := ⟨_, rfl⟩
       obtain ⟨y2, hV⟩ : ∃ X, y1.alloc (.cells #[.bool m7, .slice a7 b7 c7, .slice d7 e7 f7] 58) = X := ⟨_, rfl⟩
       have bz : Below y1.heap.size y1 y2 := by rw [← hV]; exact (Below.refl _ _).alloc (Nat.le_refl _) _
       have NS : Row y2 B3 58 #[.bool m7, .slice a7 b7 c7, .slice d7 e7 f7] := by rw [← hB3, ← hV]; exact Row.new _ _ _
       have hyz := hy.trans (bz.mono hy.size)
       have S2 : ResR wj.heap.size y2 (.agg #[.bool m7, .slice a7 b7 c7, .slice d7 e7 f7]) (sumK (fun k => X.getD (b * i + k) 0 * Y.getD (c * k + j) 0) 0) 951 := by
        have h := (q7.later bz).more (m := 951) (by decide)
        rw [intQ_zero] at h
        exact h
       have HSY := Lib.hid hyz
       have HS2 := Lib.hid S2
       have HNS := Lib.hid NS
       have HY1 := Lib.hid hy
       have HB3 := Lib.hid hB3
       have hV2 := Lib.hid hV
       clear hy bz NS hyz S2 q7 hB3 hV
       go_wp2_with fail
       have hV := hV2.out
       have hB3 := HB3.out
       (try simp only [hB3, hV])
       clear hV hB3
       go_loopw [13] (fun k' wt => ∃ (k : Nat) (m1 : Bool) (p1 : Option Addr) (p2 p3 : Nat) (p4 : Option Addr) (p5 p6 : Nat), k' = .int .i64 (k : Int) ∧ k ≤ b ∧ Row wt B3 58 #[.bool m1, .slice p1 p2 p3, .slice p4 p5 p6] ∧ ResR wj.heap.size wt (.agg #[.bool m1, .slice p1 p2 p3, .slice p4 p5 p6]) (sumK (fun k => X.getD (b * i + k) 0 * Y.getD (c * k + j) 0) k) 951 ∧ Below wj.heap.size wj wt) (fun k' _ => b - (intOf k').toNat)
       case atStart => exact ⟨0, _, _, _, _, _, _, _, rfl, Nat.zero_le _, HNS.out, HS2.out, HSY.out⟩
       case round =>
        rename World => wt
        obtain ⟨k, m1, p1, p2, p3, p4, p5, p6, rfl, hk', rsm, hS, hbt⟩ := hrel
        have hszt := hbt.size
        have hbW : Below W.heap.size W wt := by
         have h1 := J5.out
         rw [← HG.out] at h1
         exact h1.trans (hbt.mono h1.size)
        by_cases hltB : k < b
        · have hltBI : (k : Int) < (b : Int) := by omega
          have hiA : i < a := hltA
          obtain ⟨px, hpx⟩ : ∃ p, b * i = p := ⟨_, rfl⟩
          obtain ⟨py, hpy⟩ : ∃ p, c * k = p := ⟨_, rfl⟩
          have hmx : (b : Int) * (i : Int) = (px : Int) := by rw [← hpx]; exact (Int.natCast_mul b i).symm
          have hmy : (c : Int) * (k : Int) = (py : Int) := by rw [← hpy]; exact (Int.natCast_mul c k).symm
          have hlx : px + k < X.length := by rw [HLX.out, ← hpx]; exact mat_lt hiA hltB
          have hly : py + j < Y.length := by rw [HLY.out, ← hpy]; exact mat_lt hltB hltC
          have hX4 : X.length ≤ 4096 := by rw [HLX.out]; exact Nat.mul_le_mul ha hb
          have hY4 : Y.length ≤ 4096 := by rw [HLY.out]; exact Nat.mul_le_mul hb hc
          obtain ⟨sx, hsx⟩ : ∃ p, px + k = p := ⟨_, rfl⟩
          obtain ⟨sy, hsy⟩ : ∃ p, py + j = p := ⟨_, rfl⟩
          have hsxI : (px : Int) + (k : Int) = (sx : Int) := by omega
          have hsyI : (py : Int) + (j : Int) = (sy : Int) := by omega
          rw [hsx] at hlx
          rw [hsy] at hly
          obtain ⟨bx, ox, x0, x1, x2, qx, hbx, hqx, gx0, gx1, gx2, arx⟩ := (HT1.out.later (HBW.out.trans (hbW.mono HBW.out.size))).el.at hlx
          obtain ⟨b_y, oy, u0, u1, u2, qy, hb_y, hqy, gy0, gy1, gy2, ary⟩ := (HT2.out.later (HBW.out.trans (hbW.mono HBW.out.size))).el.at hly
          subst hbx
          subst hb_y
          have hgx : X.getD (b * i + k) 0 = qx := by rw [hpx, hsx, List.getD_eq_getElem?_getD, hqx]; rfl
          have hgy : Y.getD (c * k + j) 0 = qy := by rw [hpy, hsy, List.getD_eq_getElem?_getD, hqy]; rfl
          have hnx : sumK (fun k => X.getD (b * i + k) 0 * Y.getD (c * k + j) 0) (k + 1) = sumK (fun k => X.getD (b * i + k) 0 * Y.getD (c * k + j) 0) k + qx * qy := by rw [← hgx, ← hgy]; rfl
          have hfit : FitQ (sumK (fun k => X.getD (b * i + k) 0 * Y.getD (c * k + j) 0) (k + 1)) 12352 := (sumFit10 (B := 96 + 96) (fun k => (getD_fit10 HFX.out _).mul (getD_fit10 HFY.out _)) (k + 1)).mono (by omega)
          have hxM : (sx : Int) < (M1 : Int) := by have := HM1.out; omega
          have hyM : (sy : Int) < (M2 : Int) := by have := HM2.out; omega
          have hx0 : (0 : Int) ≤ (sx : Int) := by omega
          have hy0 : (0 : Int) ≤ (sy : Int) := by omega
          have hp4 : px ≤ 4096 := by have := HM1.out; omega
          have hq4 : py ≤ 4096 := by have := HM2.out; omega
          have hs4 : sx ≤ 4096 := by omega
          have ht4 : sy ≤ 4096 := by omega
          have wpx : IntKind.i64.wrap (px : Int) = (px : Int) := IntWalk.i64_in _ (by omega)
          have wpy : IntKind.i64.wrap (py : Int) = (py : Int) := IntWalk.i64_in _ (by omega)
          have wsx : IntKind.i64.wrap (sx : Int) = (sx : Int) := IntWalk.i64_in _ (by omega)
          have wsy : IntKind.i64.wrap (sy : Int) = (sy : Int) := IntWalk.i64_in _ (by omega)
          have HNX := Lib.hid hnx
          have HFIT := Lib.hid hfit
          have HAX := Lib.hid arx
          have HAY := Lib.hid ary
          have HSM := Lib.hid rsm
          have HSS := Lib.hid hS
          have HBT := Lib.hid hbt
          have HBWt := Lib.hid hbW
          have hwB : wj.heap.size ≤ B3 := by rw [← HB3.out]; exact HY1.out.size
          have MKA := Lib.hid (show ∀ Y, Below wt.heap.size wt Y → (Y.cell? ⟨w.heap.size, 1, none⟩ = some (.slice (some ⟨bx, ox, none⟩) M1 cb1)) ∧ (Y.cell? ⟨w.heap.size + 1, 1, none⟩ = some (.slice (some ⟨b_y, oy, none⟩) M2 cb2)) ∧ (Y.cell? ⟨B3, 0, none⟩ = some (.bool m1) ∧ Y.cell? ⟨B3, 1, none⟩ = some (.slice p1 p2 p3) ∧ Y.cell? ⟨B3, 2, none⟩ = some (.slice p4 p5 p6)) ∧ (Y.cell? ⟨bx, ox + sx * 3, none⟩ = some x0 ∧ Y.cell? ⟨bx, ox + sx * 3 + 1, none⟩ = some x1 ∧ Y.cell? ⟨bx, ox + sx * 3 + 2, none⟩ = some x2) ∧ (Y.cell? ⟨b_y, oy + sy * 3, none⟩ = some u0 ∧ Y.cell? ⟨b_y, oy + sy * 3 + 1, none⟩ = some u1 ∧ Y.cell? ⟨b_y, oy + sy * 3 + 2, none⟩ = some u2) from fun Y h => by
           obtain ⟨_, g1, _⟩ := ((HR0.out.later HBWt.out).later h).two
           obtain ⟨_, g3, _⟩ := ((HR1.out.later HBWt.out).later h).two
           obtain ⟨g5, g6, g7, _⟩ := (HSM.out.later h).three
           exact ⟨g1, g3, ⟨g5, g6, g7⟩, ⟨(h.cell (World.block_lt_of_cell? _ _ gx0)).trans gx0, (h.cell (World.block_lt_of_cell? _ _ gx1)).trans gx1, (h.cell (World.block_lt_of_cell? _ _ gx2)).trans gx2⟩, (h.cell (World.block_lt_of_cell? _ _ gy0)).trans gy0, (h.cell (World.block_lt_of_cell? _ _ gy1)).trans gy1, (h.cell (World.block_lt_of_cell? _ _ gy2)).trans gy2⟩)
          clear hpx hpy hsx hsy hlx hly hX4 hY4 hqx hqy gx0 gx1 gx2 gy0 gy1 gy2 arx ary hgx hgy hnx hfit rsm hS hbt hbW
          go_wp2_with fail
          refine wp_region_L (S := fun Y => (Y.cell? ⟨w.heap.size, 1, none⟩ = some (.slice (some ⟨bx, ox, none⟩) M1 cb1)) ∧ (Y.cell? ⟨w.heap.size + 1, 1, none⟩ = some (.slice (some ⟨b_y, oy, none⟩) M2 cb2)) ∧ (Y.cell? ⟨B3, 0, none⟩ = some (.bool m1) ∧ Y.cell? ⟨B3, 1, none⟩ = some (.slice p1 p2 p3) ∧ Y.cell? ⟨B3, 2, none⟩ = some (.slice p4 p5 p6)) ∧ (Y.cell? ⟨bx, ox + sx * 3, none⟩ = some x0 ∧ Y.cell? ⟨bx, ox + sx * 3 + 1, none⟩ = some x1 ∧ Y.cell? ⟨bx, ox + sx * 3 + 2, none⟩ = some x2) ∧ (Y.cell? ⟨b_y, oy + sy * 3, none⟩ = some u0 ∧ Y.cell? ⟨b_y, oy + sy * 3 + 1, none⟩ = some u1 ∧ Y.cell? ⟨b_y, oy + sy * 3 + 2, none⟩ = some u2)) (z := 21) (by kernel_rfl) (MKA.out _ (Below.refl _ _).drew) (fun hHeld => ?_)
          have bd : Below wt.heap.size wt wt.drew := (Below.refl _ _).drew
          refine todo [0, 1, 2, 3, 4, 5, 6, 7, 8, 9, 10, 11, 12, 13, 14, 15, 16, 17, 18] ?_
          iterate 19
           refine todoL (v := ?_) rfl (by kernel_rfl) (fun _ _ _ h => h) (by assumption) (Or.inl ⟨by rfl, ?_⟩) ?_
           rotate_left
           · intro w hSw; (try dsimp only at hSw); go_simp; (try with_reducible rfl)
           try simp only [Act.put, nA, nB, nC, nD, nE, nF]
          refine todone ?_
          refine wpAnyL_one (i := 19) (by kernel_rfl) rfl (fun K hK => ?sbt_19)
          go_simp
          refine (mulRR_any (n := 951) ((HAX.out.later bd).more10 hn) ((HAY.out.later bd).more10 hn) (by decide)).mono ?_
          rintro e w5 ⟨r5, rfl, q5, hb5⟩
          have b5 : Below wt.heap.size wt w5 := bd.trans (hb5.mono bd.size)
          have Q5 := Lib.hid q5
          clear q5
          go_simp
          refine hK.out _ _ (fun _ => MKA.out _ b5) (fun hHeld2 => ?mbt_19)
          clear hK K hHeld
          have hHeld := hHeld2 (by decide)
          clear hHeld2
          try simp only [Act.put, nA, nB, nC, nD, nE, nF]
          refine wpAnyL_one (i := 20) (by kernel_rfl) rfl (fun K hK => ?sbt_20)
          go_simp
          refine (addRR_any (n := 2858) ((HSS.out.later b5).arg.more10 (by decide)) Q5.out.arg (by decide)).mono ?_
          rintro e w6 ⟨r6, rfl, q6, hb6⟩
          have b6 : Below wt.heap.size wt w6 := b5.trans (hb6.mono b5.size)
          obtain ⟨m8, a8, b8, c8, d8, e8, f8, rfl⟩ := q6.shape10
          rw [← HNX.out] at q6
          have Q6 := Lib.hid ((q6.refit10 HFIT.out).mono (base' := wj.heap.size) (by have h1 := b5.size; omega))
          clear q6
          go_simp
          refine hK.out _ _ (fun _ => MKA.out _ b6) (fun hHeld2 => ?mbt_20)
          clear hK K hHeld
          have hHeld := hHeld2 (by decide)
          clear hHeld2
          try simp only [Act.put, nA, nB, nC, nD, nE, nF]
          have R6 : Row w6 B3 58 #[.bool m1, .slice p1 p2 p3, .slice p4 p5 p6] := HSM.out.later b6
          obtain ⟨k1, k2, k3, n1, n2, n3⟩ := R6.three
          refine wpAnyL_one (i := 21) (by kernel_rfl) rfl (fun K hK => ?sbt_21)
          go_simp
          refine hK.out _ _ (fun h => absurd rfl h) (fun _ => ?mbt_21)
          clear hK K
          try simp only [Act.put, nA, nB, nC, nD, nE, nF]
          refine wpAnyL_done (by kernel_rfl) ?_ _
          go_wp2
          go_roundw
          case rel => exact ⟨k + 1, _, _, _, _, _, _, _, by go_num, by omega, R6.set3 _ _ _, Q6.out.far R6 (by decide) (kept3 _ _ _), below_set3 (HBT.out.trans (b6.mono hszt)) hwB _ _ _⟩
          case measure => simp [intOf]; omega
        · obtain rfl : k = b := by omega
          have hltBI : ¬ (k : Int) < (k : Int) := by omega
          have szj : G ≤ wj.heap.size := by rw [← HG.out]; exact J5sz.out
          have rr := J1.out.later hbt
          have ro := J2.out.later hbt
          have rsh := J3.out.later hbt
          obtain ⟨es, hown0, hall0⟩ := J4.out
          have hown := hown0.later hbt
          have hall : AllE (fun v x => ResR G wt v x 951) es (mmL k c X Y (c * i + j)) := hall0.imp fun u x _ h => h.later hbt
          have hle : es.length = c * i + j := by rw [hall.1, mmL_len]
          have hbG : Below G W wt := J5.out.trans (hbt.mono szj)
          have hszG : G ≤ wt.heap.size := Nat.le_trans szj hszt
          have hci : c * i ≤ 4096 := Nat.le_trans (Nat.mul_le_mul hc (show i ≤ 64 by omega)) (by decide)
          have hes : es.length ≤ 4160 := by omega
          obtain ⟨r, hrv, hrb, hrne, hrA⟩ := hown.hits10 hszG
          have n0 := hrne _ _ _ rr (by decide)
          have ng := hrne _ _ _ ro (by decide)
          obtain ⟨c0, c1, c2, _, _, _⟩ := rsm.three
          have cg1 := ro.cell 1
          have hal : Below wt.heap.size wt (wt.alloc (.cells #[.bool m1, .slice p1 p2 p3, .slice p4 p5 p6] 58)) := (Below.refl _ _).alloc (Nat.le_refl _) _
          have HAL := Lib.hid hal
          have HSMv := Lib.hid (hS.mono szj)
          have L1 := Lib.hid rr
          have L2 := Lib.hid ro
          have L3 := Lib.hid rsh
          have HOWN := Lib.hid hown
          have HALL := Lib.hid hall
          have HBG := Lib.hid hbG
          have HSZ := Lib.hid hszG
          have HRV := Lib.hid hrv
          have z2 : w.heap.size + 1 + 1 ≠ G + 1 := by have h1 := HSW.out; have h2 := HG.out; omega
          clear hal hS rr ro rsh hown0 hall0 hown hall hle hbG hbt hbW rsm hci
          go_wp2_with (at_builtin; refine wpList_append_own _ rfl _ _ 34 rfl G 58 i0 _ 3 56 Tryz.underlying34 hi hz0 hz1 hz2 rfl (by decide) _ es.length (flat3 es) rfl (HOWN.out.later HAL.out) ⟨wt.heap.size, 0, none⟩ 1 1 [.bool m1, .slice p1 p2 p3, .slice p4 p5 p6] rfl rfl (cell_three_new _ _ _ _ _) (by simp [Value.oneCell']) (by unfold maxLen; omega) (by omega) (by simp; omega) ?_; intro v' w7 hown' hgrow _; obtain ⟨av7, cv7, rfl⟩ := ownT_slice hown'; have hk7 : Kept r wt w7 := ((Kept.refl r wt).alloc _).grown hgrow HRV.out; have R7 := L2.out.kept hk7 ng; have f7 := R7.free 1; have c7 := R7.cell 1)
          go_roundw
          case rel =>
           obtain ⟨hrow7, hb7⟩ := pushE (P := fun Y v x => ResR G Y v x 951) (e := ⟨.bool m1, .slice p1 p2 p3, .slice p4 p5 p6⟩) (base := G) (w := W) (wr := wt) HBG.out HSZ.out HOWN.out HALL.out HSMv.out (fun u y h => h.apart HOWN.out hgrow (by decide)) hown' hgrow
           have rs7 : ResS G w7 (.slice (some ⟨G, 0, none⟩) 2 2) [(a : Int), (c : Int)] := ResS.apart HOWN.out hgrow (by decide) L3.out
           refine ⟨j + 1, _, by go_num, by omega, (L1.out.kept hk7 n0).far (by show w.heap.size + 1 + 1 ≠ G + 1; exact z2) _, R7.set21 _, rs7.far R7 (by decide) (kept1 _), ?_, hb7.setCell (by show G ≤ G + 1; omega) _⟩
           rw [← Nat.add_assoc, mmL_next k c X Y hltC]
           exact hrow7.far R7 (by decide) (kept1 _) (fun u y h => h.far R7 (by decide) (kept1 _))
          case measure => simp [intOf]; omega
     · obtain rfl : j = c := by omega
       have hltCI : ¬ (j : Int) < (j : Int) := by omega
       have e1' : j * i + j = j * (i + 1) := by rw [Nat.mul_add, Nat.mul_one]
       rw [e1'] at hE
       have Q1 := Lib.hid rr
       have Q2 := Lib.hid ro
       have Q3' := Lib.hid rs
       have Q4 := Lib.hid hE
       have Q5 := Lib.hid hbJ
       clear rr ro rs hE hbJ e1'
       go_wp2
       go_roundw
       case rel => exact ⟨i + 1, v, by go_num, by omega, Q1.out, Q2.out, Q3'.out, Q4.out, Q5.out⟩
       case measure => simp [intOf]; omega
  · obtain rfl : i = a := by omega
    have hltAI : ¬ (i : Int) < (i : Int) := by omega
    rw [mmL_all] at hE
    obtain ⟨es, hown, hall⟩ := hE
    obtain ⟨av, cv, rfl⟩ := ownT_slice hown
    have hle : es.length = i * c := by rw [hall.1, mmF_len]
    have c20 := ro.cell 0
    have d21 := ro.cell 1
    obtain ⟨g10, g11, f10, f11⟩ := rr.two
    have RRs := rr.set2 (.slice (some ⟨G, 0, none⟩) 2 2) (.slice av es.length cv)
    obtain ⟨z0, z1, _, _⟩ := RRs.two
    have hE3 : RowO G 58 (fun W v x => ResR G W v x 951) wr (.slice av es.length cv) (mmF i b c X Y) := ⟨es, hown, hall⟩
    have hT1 := rs.far rr (by decide) (kept2 (.slice (some ⟨G, 0, none⟩) 2 2) (.slice av es.length cv))
    have hT2 := hE3.far rr (by decide) (kept2 (.slice (some ⟨G, 0, none⟩) 2 2) (.slice av es.length cv)) (fun u y h => h.far rr (by decide) (kept2 _ _))
    have HT1 := Lib.hid hT1
    have HT2 := Lib.hid hT2
    have HG3 := Lib.hid (show w.heap.size ≤ G by have h1 := HSW.out; have h2 := HG.out; omega)
    have hbw := HBW.out
    have hbE := below_set2 (hbw.trans (hbI.mono (by have h1 := HSW.out; have h2 := HG.out; omega))) (show w.heap.size ≤ w.heap.size + 1 + 1 by omega) (.slice (some ⟨G, 0, none⟩) 2 2) (.slice av es.length cv)
    have HBE := Lib.hid hbE
    clear hown hall hle RRs hT1 hT2 hbE hE3 hbw hbI rs
    go_wp2_with fail
    exact bodyPost_ret (v := .tuple #[.agg #[.slice (some ⟨G, 0, none⟩) 2 2, .slice av es.length cv], .int .i64 0]) (by simp [results, Tryz.results22, go_sem, z0, z1]) rfl ⟨⟨_, _, rfl, HG3.out, HT1.out, HT2.out⟩, HBE.out⟩
theorem RefO10.ref {base m : Nat} {w' : World} {e : Ending} {s : List Int} {L : List Rat} (h : RefO10 base w' e s L m) (h2 : s.length = 2) : Ref10 w' e 0 s L m := by
 obtain ⟨G, v, rfl, hG, h1, h3⟩ := h
 obtain ⟨es, hown, hall⟩ := h3
 obtain ⟨av, cv, rfl⟩ := ownT_slice hown
 have h1' : ResS G w' (.slice (some ⟨G, 0, none⟩) s.length 2) s := by rw [h2]; exact h1
 have hT := ofT_tens (s := s) (m := es.length) hall.1 h1' ⟨es, hown, hall⟩
 rw [h2] at hT
 exact ⟨_, rfl, ⟨_, _, _, _, _, _, rfl⟩, fun _ => ⟨_, _, _, _, hT⟩⟩
theorem matMulR_good {n a b c : Nat} {w : World} {u v : Value} {X Y : List Rat} {a1 b1 a2 b2 : Option Addr} {ca1 cb1 ca2 cb2 : Nat} (T1 : TensR w u [(a : Int), (b : Int)] X n a1 ca1 b1 cb1) (T2 : TensR w v [(b : Int), (c : Int)] Y n a2 ca2 b2 cb2) (ha : a ≤ 64) (hb : b ≤ 64) (hc : c ≤ 64) (h : a * c ≤ 1024) (lX : X.length = a * b) (lY : Y.length = b * c) (fX : ∀ x ∈ X, FitQ x 96) (fY : ∀ x ∈ Y, FitQ x 96) (hn : n ≤ 951) :
 Calls Tryz.prog 22 #[u, v] w fun e w' => Ref10 w' e 0 [(a : Int), (c : Int)] (mmF a b c X Y) 951 ∧ Below w.heap.size w w' :=
 (matMulR_own T1 T2 ha hb hc h lX lY fX fY hn).mono fun e w' h => ⟨RefO10.ref h.1 rfl, h.2⟩
end
end Go.Proofs.YtengpgodmbfmkaaGreat
