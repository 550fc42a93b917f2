/-
  Contracts of package rat: Neg, Sign, Make, Frac.
-/
import Derived.Test.YtofiebilokhccaaRNorm
namespace Go.Proofs.Ytofiebilokhccaa
open Go.RowKit
set_option linter.unusedVariables false
set_option linter.unusedSimpArgs false

set_option maxRecDepth 100000 in
set_option maxHeartbeats 4000000 in
theorem negQ_any {n : Nat} {w : World} {u : Value} {X : Rat} (hu : ArgQ w u X n) (hn : n ≤ 16777000) :
    Calls Try.prog 34 #[u] w fun e w' => ∃ r, e = .returned r ∧ ResQ w.heap.size w' r (-X) (n + 2) ∧ Below w.heap.size w w' := by
  obtain ⟨m1, xs, ds, a1, a2, c1, c2, rfl, A, B, hX, hx, hd⟩ := hu
  obtain ⟨W, hW⟩ : ∃ W, ((w.alloc (.cells #[.bool m1, .slice a1 xs.length c1, .slice a2 ds.length c2] 25)).alloc (.cells #[.bool false, .slice none 0 0, .slice none 0 0] 25)) = W := ⟨_, rfl⟩
  have R0 : Row W (w.heap.size) 25 #[.bool m1, .slice a1 xs.length c1, .slice a2 ds.length c2] := by rw [← hW]; exact ((Row.new _ _ _).alloc _)
  have R1 : Row W (w.heap.size + 1) 25 #[.bool false, .slice none 0 0, .slice none 0 0] := by rw [← hW]; have h := (Row.new (w.alloc (.cells #[.bool m1, .slice a1 xs.length c1, .slice a2 ds.length c2] 25)) 25 #[.bool false, .slice none 0 0, .slice none 0 0]); simp only [World.size_alloc] at h; exact h
  have hBW : Below w.heap.size w W := by rw [← hW]; exact (((Below.refl _ _).alloc (by (try simp) <;> omega) _).alloc (by (try simp) <;> omega) _)
  have hsW : w.heap.size + 1 + 1 ≤ W.heap.size := by rw [← hW]; simp
  obtain ⟨V, hV⟩ : ∃ V, W.setCell ⟨w.heap.size, 0, none⟩ (.bool !m1) = V := ⟨_, rfl⟩
  have hBV : Below w.heap.size w V := by rw [← hV]; exact hBW.setCell (by simp) _
  have hsV : W.heap.size ≤ V.heap.size := by rw [← hV]; simp
  have P0 : Row V (w.heap.size) 25 #[.bool !m1, .slice a1 xs.length c1, .slice a2 ds.length c2] := by rw [← hV]; exact R0.set 0 _
  have P1 : Row V (w.heap.size + 1) 25 #[.bool false, .slice none 0 0, .slice none 0 0] := by rw [← hV]; exact R1.far (by simp) _
  have hq : ArgQ V (.agg #[.bool !m1, .slice a1 xs.length c1, .slice a2 ds.length c2]) (-X) n := ⟨!m1, xs, ds, a1, a2, c1, c2, rfl, A.later hBV, B.later hBV, by rw [rat_turned, hX], hx, hd⟩
  clear hX
  obtain ⟨p0, p1, p2, p3, p4, p5⟩ := R0.three
  obtain ⟨o0, o1, o2, o3, o4, o5⟩ := P0.three
  go_enter Try.func34, Try.ntmps34
  go_wp2_with fail
  (try rw [hV])
  refine (norm_any hq (by omega)).mono ?_
  rintro e w2 ⟨r2, rfl, q2, hb2⟩
  have hs2 := hb2.size
  obtain ⟨ng, fs, gs, f1, f2, j1, j2, rfl⟩ := q2.arg.box
  clear p0 p1 p2 p3 p4 p5 o0 o1 o2 o3 o4 o5 hV hW
  have P2 := P1.later hb2
  obtain ⟨u0, u1, u2, g0, g1, g2⟩ := P2.three
  go_wp2_with fail
  refine bodyPost_ret (v := .agg #[.bool ng, .slice f1 fs.length j1, .slice f2 gs.length j2]) (by simp [results, Try.results34, go_sem, u0, u1, u2]) rfl ⟨_, rfl, ?_, below_set3 (hBV.trans (hb2.mono (by omega))) (by omega) _ _ _⟩
  exact (q2.far P2 (by decide) (kept3 _ _ _)).mono (by omega)

set_option maxRecDepth 100000 in
set_option maxHeartbeats 4000000 in
theorem signQ_any {n : Nat} {w : World} {u : Value} {X : Rat} (hu : ArgQ w u X n) (hn : n ≤ 16777000) :
    Calls Try.prog 40 #[u] w fun e w' => e = .returned (.int .i64 (sgR X)) ∧ Below w.heap.size w w' := by
  obtain ⟨n1, ps, qs, e1, e2, k1, k2, rfl⟩ := hu.box
  obtain ⟨W, hW⟩ : ∃ W, (w.alloc (.cells #[.bool n1, .slice e1 ps.length k1, .slice e2 qs.length k2] 25)) = W := ⟨_, rfl⟩
  have R0 : Row W (w.heap.size) 25 #[.bool n1, .slice e1 ps.length k1, .slice e2 qs.length k2] := by rw [← hW]; exact (Row.new _ _ _)
  have hBW : Below w.heap.size w W := by rw [← hW]; exact ((Below.refl _ _).alloc (by (try simp) <;> omega) _)
  have hsW : w.heap.size + 1 ≤ W.heap.size := by rw [← hW]; simp
  have hu' := hu.later hBW
  obtain ⟨p0, p1, p2, p3, p4, p5⟩ := R0.three
  go_enter Try.func40, Try.ntmps40
  go_wp2_with fail
  refine (plain_any hu' (by omega)).mono ?_
  rintro e w1 ⟨r1, rfl, h1, hb1⟩
  have hs1 := hb1.size
  replace R0 := R0.later hb1
  clear p0 p1 p2 p3 p4 p5 hW
  obtain ⟨m1, xs, ds, a1, a2, c1, c2, rfl, A, B, hX, hx, hd, hB, _⟩ := h1
  obtain ⟨p0, p1, p2, p3, p4, p5⟩ := R0.three
  obtain ⟨V, hV⟩ : ∃ V, ((w1.setCell ⟨w.heap.size, 0, none⟩ (.bool m1)).setCell ⟨w.heap.size, 1, none⟩ (.slice a1 xs.length c1)).setCell ⟨w.heap.size, 2, none⟩ (.slice a2 ds.length c2) = V := ⟨_, rfl⟩
  have P0 : Row V (w.heap.size) 25 #[.bool m1, .slice a1 xs.length c1, .slice a2 ds.length c2] := by rw [← hV]; exact R0.set3 _ _ _
  have hBV : Below w.heap.size w V := by rw [← hV]; exact below_set3 (hBW.trans (hb1.mono (by omega))) (by omega) _ _ _
  have hsV : w1.heap.size ≤ V.heap.size := by rw [← hV]; simp
  have AV : Arg V (.slice a1 xs.length c1) xs a1 c1 := by rw [← hV]; exact A.far R0 (noInts3 _ _ _ _ _ _ _) (kept3 _ _ _)
  have hs : SgnQ V (.agg #[.bool m1, .slice a1 xs.length c1]) (sgn m1 (val xs)) (n + 2) := ⟨m1, xs, a1, c1, rfl, AV, rfl, hx⟩
  have hfin : (sgn m1 (val xs)).sign = sgR X := by rw [← hX, sgR_ratOf _ _ hB]
  have HF := Lib.hid hfin
  obtain ⟨o0, o1, o2, _, _, _⟩ := P0.three
  clear hfin hX
  go_wp2_with fail
  (try rw [hV])
  refine (sign_any hs (by omega)).mono ?_
  rintro e w2 ⟨rfl, hb2⟩
  clear p0 p1 p2 p3 p4 p5 o0 o1 o2 hV
  go_wp2_with fail
  go_ret
  exact ⟨by rw [← HF.out]; rfl, hBV.trans (hb2.mono (by omega))⟩

set_option maxRecDepth 100000 in
set_option maxHeartbeats 4000000 in
theorem make_zero {n : Nat} {w : World} {m1 : Bool} {xs ds : List Int} {a1 a2 : Option Addr} {c1 c2 : Nat} (B : Arg w (.slice a2 ds.length c2) ds a2 c2) (hd : ds.length ≤ 16777000) (h0 : val ds = 0) :
    Calls Try.prog 19 #[.bool m1, .slice a1 xs.length c1, .slice a2 ds.length c2] w fun e w' => e = .returned (.tuple #[.agg #[.bool false, .slice none 0 0, .slice none 0 0], .int .i64 17]) ∧ Below w.heap.size w w' := by
  obtain ⟨W, hW⟩ : ∃ W, (w.alloc (.cells #[.bool false, .slice none 0 0, .slice none 0 0] 25)) = W := ⟨_, rfl⟩
  have R0 : Row W (w.heap.size) 25 #[.bool false, .slice none 0 0, .slice none 0 0] := by rw [← hW]; exact (Row.new _ _ _)
  have hBW : Below w.heap.size w W := by rw [← hW]; exact ((Below.refl _ _).alloc (by (try simp) <;> omega) _)
  have hsW : w.heap.size + 1 ≤ W.heap.size := by rw [← hW]; simp
  have B' := B.later hBW
  have hb1 := bits_res B' (by omega) (bitsN_is B.wf)
  have hp1 := bits_pos B.wf
  obtain ⟨nb, hnb⟩ : ∃ nb, bitsN ds = nb := ⟨_, rfl⟩
  rw [hnb] at hb1 hp1
  have d1 : ((nb : Int) == 0) = true := by obtain rfl : nb = 0 := by omega
                                           rfl
  obtain ⟨u0, u1, u2, g0, g1, g2⟩ := R0.three
  clear hnb hp1 h0
  go_enter Try.func19, Try.ntmps19
  go_wp2_with fail
  refine hb1.mono ?_
  rintro e w' ⟨rfl, rfl⟩
  clear hb1 hW
  go_wp2_with fail
  refine bodyPost_ret (v := .tuple #[.agg #[.bool false, .slice none 0 0, .slice none 0 0], .int .i64 17]) (by simp [results, Try.results19, go_sem, u0, u1, u2]) rfl ⟨rfl, ?_⟩
  first | exact below_set3 hBW (by omega) _ _ _ | exact hBW

set_option maxRecDepth 100000 in
set_option maxHeartbeats 4000000 in
theorem make_any {n : Nat} {w : World} {m1 : Bool} {xs ds : List Int} {a1 a2 : Option Addr} {c1 c2 : Nat} (A : Arg w (.slice a1 xs.length c1) xs a1 c1) (B : Arg w (.slice a2 ds.length c2) ds a2 c2) (hx : xs.length ≤ n) (hd : ds.length ≤ n) (hn : n ≤ 16777000) (h0 : 0 < val ds) :
    Calls Try.prog 19 #[.bool m1, .slice a1 xs.length c1, .slice a2 ds.length c2] w fun e w' => ∃ r, e = .returned (.tuple #[r, .int .i64 0]) ∧ ResQ w.heap.size w' r (ratOf m1 (val xs) (val ds)) (n + 2) ∧ Below w.heap.size w w' := by
  obtain ⟨W, hW⟩ : ∃ W, (w.alloc (.cells #[.bool false, .slice none 0 0, .slice none 0 0] 25)) = W := ⟨_, rfl⟩
  have R0 : Row W (w.heap.size) 25 #[.bool false, .slice none 0 0, .slice none 0 0] := by rw [← hW]; exact (Row.new _ _ _)
  have hBW : Below w.heap.size w W := by rw [← hW]; exact ((Below.refl _ _).alloc (by (try simp) <;> omega) _)
  have hsW : w.heap.size + 1 ≤ W.heap.size := by rw [← hW]; simp
  have B' := B.later hBW
  have hb1 := bits_res B' (by omega) (bitsN_is B.wf)
  have hp1 := bits_pos B.wf
  obtain ⟨nb, hnb⟩ : ∃ nb, bitsN ds = nb := ⟨_, rfl⟩
  rw [hnb] at hb1 hp1
  have d1 : ((nb : Int) == 0) = false := by simp; omega
  have hq : ArgQ W (.agg #[.bool m1, .slice a1 xs.length c1, .slice a2 ds.length c2]) (ratOf m1 (val xs) (val ds)) n := ⟨m1, xs, ds, a1, a2, c1, c2, rfl, A.later hBW, B', rfl, hx, hd⟩
  obtain ⟨p0, p1, p2, _, _, _⟩ := R0.three
  clear hnb hp1
  go_enter Try.func19, Try.ntmps19
  go_wp2_with fail
  refine hb1.mono ?_
  rintro e w' ⟨rfl, rfl⟩
  clear hb1
  go_wp2_with fail
  refine (norm_any hq (by omega)).mono ?_
  rintro e w2 ⟨r2, rfl, q2, hb2⟩
  have hs2 := hb2.size
  obtain ⟨ng, fs, gs, f1, f2, j1, j2, rfl⟩ := q2.arg.box
  clear p0 p1 p2 hW
  have P2 := R0.later hb2
  obtain ⟨u0, u1, u2, g0, g1, g2⟩ := P2.three
  go_wp2_with fail
  refine bodyPost_ret (v := .tuple #[.agg #[.bool ng, .slice f1 fs.length j1, .slice f2 gs.length j2], .int .i64 0]) (by simp [results, Try.results19, go_sem, u0, u1, u2]) rfl ⟨_, rfl, ?_, below_set3 (hBW.trans (hb2.mono (by omega))) (by omega) _ _ _⟩
  exact (q2.far P2 (by decide) (kept3 _ _ _)).mono (by omega)

set_option maxRecDepth 100000 in
set_option maxHeartbeats 4000000 in
theorem frac_zero (p : Int) (w : World) (hp1 : -9223372036854775808 ≤ p) (hp2 : p ≤ 9223372036854775807) :
    Calls Try.prog 23 #[.int .i64 p, .int .i64 0] w fun e w' => e = .returned (.tuple #[.agg #[.bool false, .slice none 0 0, .slice none 0 0], .int .i64 17]) ∧ Below w.heap.size w w' := by
  obtain ⟨q, hq0⟩ : ∃ q : Int, q = 0 := ⟨_, rfl⟩
  have HQ0 := Lib.hid hq0
  have hq1 : -9223372036854775808 ≤ q := by omega
  have hq2 : q ≤ 9223372036854775807 := by omega
  rw [← hq0]
  clear hq0
  obtain ⟨bp, hbp⟩ : ∃ b, decide (p < 0) = b := ⟨_, rfl⟩
  obtain ⟨bq, hbq⟩ : ∃ b, decide (q < 0) = b := ⟨_, rfl⟩
  cases bp <;> cases bq
  all_goals (
    obtain ⟨W, hW⟩ : ∃ W, (w.alloc (.cells #[.bool false, .slice none 0 0, .slice none 0 0] 25)) = W := ⟨_, rfl⟩
    have R0 : Row W (w.heap.size) 25 #[.bool false, .slice none 0 0, .slice none 0 0] := by rw [← hW]; exact (Row.new _ _ _)
    have hBW : Below w.heap.size w W := by rw [← hW]; exact ((Below.refl _ _).alloc (by (try simp) <;> omega) _)
    have hsW : w.heap.size + 1 ≤ W.heap.size := by rw [← hW]; simp
    go_enter Try.func23, Try.ntmps23
    go_wp2_with fail
    refine (size_any p _ hp1 hp2).mono ?_
    rintro e w1 ⟨r1, z1, rfl, q1, l1, hb1⟩
    have hs1 := hb1.size
    obtain ⟨ad1, cp1, rfl, q1, A1⟩ := q1.slice
    go_wp2_with fail
    refine (size_any q _ hq1 hq2).mono ?_
    rintro e w2 ⟨r2, z2, rfl, q2, l2, hb2⟩
    have hs2 := hb2.size
    obtain ⟨ad2, cp2, rfl, q2, A2⟩ := q2.slice
    have P2 := (R0.later hb1).later hb2
    have A1' := A1.later hb2
    have hB2 : Below w.heap.size w w2 := (hBW.trans (hb1.mono (by omega))).trans (hb2.mono (by omega))
    have hz : val z2 = 0 := by rw [q2.eq, HQ0.out]; rfl
    have HZ := Lib.hid hz
    clear hz hW
    go_wp2_with fail
    refine (make_zero (n := 0) (xs := z1) A2 (by omega) HZ.out).mono ?_
    rintro e w3 ⟨rfl, hb3⟩
    have hs3 := hb3.size
    have P3 := P2.later hb3
    obtain ⟨u0, u1, u2, g0, g1, g2⟩ := P3.three
    go_wp2_with fail
    refine bodyPost_ret (v := .tuple #[.agg #[.bool false, .slice none 0 0, .slice none 0 0], .int .i64 17]) (by simp [results, Try.results23, go_sem, u0, u1, u2]) rfl ⟨rfl, ?_⟩
    exact below_set3 (hB2.trans (hb3.mono (by omega))) (by omega) _ _ _)


set_option maxRecDepth 100000 in
set_option maxHeartbeats 4000000 in
theorem frac_any (p q : Int) (w : World) (hp1 : -9223372036854775808 ≤ p) (hp2 : p ≤ 9223372036854775807) (hq1 : -9223372036854775808 ≤ q) (hq2 : q ≤ 9223372036854775807) (hq0 : q ≠ 0) :
    Calls Try.prog 23 #[.int .i64 p, .int .i64 q] w fun e w' => ∃ r, e = .returned (.tuple #[r, .int .i64 0]) ∧ ResQ w.heap.size w' r (ratOf (decide (p < 0) != decide (q < 0)) (p.natAbs : Int) (q.natAbs : Int)) 4 ∧ Below w.heap.size w w' := by
  obtain ⟨bp, hbp⟩ : ∃ b, decide (p < 0) = b := ⟨_, rfl⟩
  obtain ⟨bq, hbq⟩ : ∃ b, decide (q < 0) = b := ⟨_, rfl⟩
  cases bp <;> cases bq
  all_goals (
    obtain ⟨W, hW⟩ : ∃ W, (w.alloc (.cells #[.bool false, .slice none 0 0, .slice none 0 0] 25)) = W := ⟨_, rfl⟩
    have R0 : Row W (w.heap.size) 25 #[.bool false, .slice none 0 0, .slice none 0 0] := by rw [← hW]; exact (Row.new _ _ _)
    have hBW : Below w.heap.size w W := by rw [← hW]; exact ((Below.refl _ _).alloc (by (try simp) <;> omega) _)
    have hsW : w.heap.size + 1 ≤ W.heap.size := by rw [← hW]; simp
    go_enter Try.func23, Try.ntmps23
    go_wp2_with fail
    refine (size_any p _ hp1 hp2).mono ?_
    rintro e w1 ⟨r1, z1, rfl, q1, l1, hb1⟩
    have hs1 := hb1.size
    obtain ⟨ad1, cp1, rfl, q1, A1⟩ := q1.slice
    go_wp2_with fail
    refine (size_any q _ hq1 hq2).mono ?_
    rintro e w2 ⟨r2, z2, rfl, q2, l2, hb2⟩
    have hs2 := hb2.size
    obtain ⟨ad2, cp2, rfl, q2, A2⟩ := q2.slice
    have P2 := (R0.later hb1).later hb2
    have A1' := A1.later hb2
    have hB2 : Below w.heap.size w w2 := (hBW.trans (hb1.mono (by omega))).trans (hb2.mono (by omega))
    have hz : 0 < val z2 := by rw [q2.eq]; omega
    have hfin : ∀ c, c = (decide (p < 0) != decide (q < 0)) → ratOf c (val z1) (val z2) = ratOf (decide (p < 0) != decide (q < 0)) (p.natAbs : Int) (q.natAbs : Int) := fun c hc => by rw [hc, q1.eq, q2.eq]
    have HF := Lib.hid hfin
    clear hfin hW
    go_wp2_with fail
    refine (make_any A1' A2 l1 l2 (by omega) hz).mono ?_
    rintro e w3 ⟨r3, rfl, q3, hb3⟩
    have hs3 := hb3.size
    rw [HF.out _ (by rw [hbp, hbq]; rfl)] at q3
    obtain ⟨ng, fs, gs, f1, f2, j1, j2, rfl⟩ := q3.arg.box
    have P3 := P2.later hb3
    obtain ⟨u0, u1, u2, g0, g1, g2⟩ := P3.three
    go_wp2_with fail
    refine bodyPost_ret (v := .tuple #[.agg #[.bool ng, .slice f1 fs.length j1, .slice f2 gs.length j2], .int .i64 0]) (by simp [results, Try.results23, go_sem, u0, u1, u2]) rfl ⟨_, rfl, ?_, below_set3 (hB2.trans (hb3.mono (by omega))) (by omega) _ _ _⟩
    exact (q3.far P3 (by decide) (kept3 _ _ _)).mono (by omega))

end Go.Proofs.Ytofiebilokhccaa
