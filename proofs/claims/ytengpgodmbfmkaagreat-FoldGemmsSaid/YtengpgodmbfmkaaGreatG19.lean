/-
  Part 19 of 39: contracts and what they rest on (ROne, FMatx).
-/
import Derived.Test.YtengpgodmbfmkaaGreatG15
namespace Go.Proofs.YtengpgodmbfmkaaGreat
set_option linter.unusedVariables false
set_option linter.unusedSimpArgs false
set_option maxRecDepth 100000
set_option maxHeartbeats 40000000
section
open Go.RowKit
theorem make_any {n : Nat} {w : World} {m1 : Bool} {xs ds : List Int} {a1 a2 : Option Addr} {c1 c2 : Nat} (A : Arg w (.slice a1 xs.length c1) xs a1 c1) (B : Arg w (.slice a2 ds.length c2) ds a2 c2) (hx : xs.length ≤ n) (hd : ds.length ≤ n) (hn : n ≤ 16777000) (h0 : 0 < val ds) :
 Calls Tryz.prog 88 #[.bool m1, .slice a1 xs.length c1, .slice a2 ds.length c2] w fun e w' => ∃ r, e = .returned (.tuple #[r, .int .i64 0]) ∧ ResQ w.heap.size w' r (ratOf m1 (val xs) (val ds)) (n + 2) ∧ Below w.heap.size w w' := by
 obtain ⟨W, hW⟩ : ∃ W, (w.alloc (.cells #[.bool false, .slice none 0 0, .slice none 0 0] 54)) = W := ⟨_, rfl⟩
 have R0 : Row W (w.heap.size) 54 #[.bool false, .slice none 0 0, .slice none 0 0] := by rw [← hW]; exact (Row.new _ _ _)
 have hBW : Below w.heap.size w W := by rw [← hW]; exact ((Below.refl _ _).alloc (by (try simp) <;> omega) _)
 have hsW : w.heap.size + 1 ≤ W.heap.size := by rw [← hW]; simp
 have B' := B.later hBW
 have hb1 := bits_res B' (by omega) (bitsN_is B.wf)
 have hp1 := bits_pos B.wf
 obtain ⟨nb, hnb⟩ : ∃ nb, bitsN ds = nb := ⟨_, rfl⟩
 rw [hnb] at hb1 hp1
 have d1 : ((nb : Int) == 0) = false := by simp; omega
 have hq : ArgQ W (.agg #[.bool m1, .slice a1 xs.length c1, .slice a2 ds.length c2]) (ratOf m1 (val xs) (val ds)) n := ⟨m1, xs, ds, a1, a2, c1, c2, rfl, A.later hBW, B', rfl, hx, hd⟩
 obtain ⟨p0, p1, p2, _, _, _⟩ := R0.three
 clear hnb hp1
 go_enter Tryz.func88, Tryz.ntmps88
 go_wp2_with fail
 refine hb1.mono ?_
 rintro e w' ⟨rfl, rfl⟩
 clear hb1
 go_wp2_with fail
 refine (norm_any hq (by omega)).mono ?_
 rintro e w2 ⟨r2, rfl, q2, hb2⟩
 have hs2 := hb2.size
 obtain ⟨ng, fs, gs, f1, f2, j1, j2, rfl⟩ := q2.arg.box
 clear p0 p1 p2 hW
 have P2 := R0.later hb2
 obtain ⟨u0, u1, u2, g0, g1, g2⟩ := P2.three
 go_wp2_with fail
 refine bodyPost_ret (v := .tuple #[.agg #[.bool ng, .slice f1 fs.length j1, .slice f2 gs.length j2], .int .i64 0]) (by simp [results, Tryz.results88, go_sem, u0, u1, u2]) rfl ⟨_, rfl, ?_, below_set3 (hBW.trans (hb2.mono (by omega))) (by omega) _ _ _⟩
 exact (q2.far P2 (by decide) (kept3 _ _ _)).mono (by omega)
theorem frac_any (p q : Int) (w : World) (hp1 : -9223372036854775808 ≤ p) (hp2 : p ≤ 9223372036854775807) (hq1 : -9223372036854775808 ≤ q) (hq2 : q ≤ 9223372036854775807) (hq0 : q ≠ 0) :
 Calls Tryz.prog 44 #[.int .i64 p, .int .i64 q] w fun e w' => ∃ r, e = .returned (.tuple #[r, .int .i64 0]) ∧ ResQ w.heap.size w' r (ratOf (decide (p < 0) != decide (q < 0)) (p.natAbs : Int) (q.natAbs : Int)) 4 ∧ Below w.heap.size w w' := by
 obtain ⟨bp, hbp⟩ : ∃ b, decide (p < 0) = b := ⟨_, rfl⟩
 obtain ⟨bq, hbq⟩ : ∃ b, decide (q < 0) = b := ⟨_, rfl⟩
 cases bp <;> cases bq
 all_goals (
  obtain ⟨W, hW⟩ : ∃ W, (w.alloc (.cells #[.bool false, .slice none 0 0, .slice none 0 0] 54)) = W := ⟨_, rfl⟩
  have R0 : Row W (w.heap.size) 54 #[.bool false, .slice none 0 0, .slice none 0 0] := by rw [← hW]; exact (Row.new _ _ _)
  have hBW : Below w.heap.size w W := by rw [← hW]; exact ((Below.refl _ _).alloc (by (try simp) <;> omega) _)
  have hsW : w.heap.size + 1 ≤ W.heap.size := by rw [← hW]; simp
  go_enter Tryz.func44, Tryz.ntmps44
  go_wp2_with fail
  refine (size_any p _ hp1 hp2).mono ?_
  rintro e w1 ⟨r1, z1, rfl, q1, l1, hb1⟩
  have hs1 := hb1.size
  obtain ⟨ad1, cp1, rfl, q1, A1⟩ := q1.slice
  go_wp2_with fail
  refine (size_any q _ hq1 hq2).mono ?_
  rintro e w2 ⟨r2, z2, rfl, q2, l2, hb2⟩
  have hs2 := hb2.size
  obtain ⟨ad2, cp2, rfl, q2, A2⟩ := q2.slice
  have P2 := (R0.later hb1).later hb2
  have A1' := A1.later hb2
  have hB2 : Below w.heap.size w w2 := (hBW.trans (hb1.mono (by omega))).trans (hb2.mono (by omega))
  have hz : 0 < val z2 := by rw [q2.eq]; omega
  have hfin : ∀ c, c = (decide (p < 0) != decide (q < 0)) → ratOf c (val z1) (val z2) = ratOf (decide (p < 0) != decide (q < 0)) (p.natAbs : Int) (q.natAbs : Int) := fun c hc => by rw [hc, q1.eq, q2.eq]
  have HF := Lib.hid hfin
  clear hfin hW
  go_wp2_with fail
  refine (make_any A1' A2 l1 l2 (by omega) hz).mono ?_
  rintro e w3 ⟨r3, rfl, q3, hb3⟩
  have hs3 := hb3.size
  rw [HF.out _ (by rw [hbp, hbq]; rfl)] at q3
  obtain ⟨ng, fs, gs, f1, f2, j1, j2, rfl⟩ := q3.arg.box
  have P3 := P2.later hb3
  obtain ⟨u0, u1, u2, g0, g1, g2⟩ := P3.three
  go_wp2_with fail
  refine bodyPost_ret (v := .tuple #[.agg #[.bool ng, .slice f1 fs.length j1, .slice f2 gs.length j2], .int .i64 0]) (by simp [results, Tryz.results44, go_sem, u0, u1, u2]) rfl ⟨_, rfl, ?_, below_set3 (hB2.trans (hb3.mono (by omega))) (by omega) _ _ _⟩
  exact (q3.far P3 (by decide) (kept3 _ _ _)).mono (by omega))
end
section
open Go.RowKit
theorem wid2_10 {A B : Nat} (hA : A ≤ 1000) (hB : B ≤ 1000) : Wid [(A : Int), (B : Int)] := by
 intro x hx
 simp at hx
 rcases hx with rfl | rfl <;> omega
end
end Go.Proofs.YtengpgodmbfmkaaGreat
