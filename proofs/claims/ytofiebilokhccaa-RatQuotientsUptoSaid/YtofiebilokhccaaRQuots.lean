/-
  RatQuotients, for arguments that hold together at most 1048576 values: the law answers true (the quotient of any two, or that there is none), and each argument reads behind the call as it read before. No other condition.
-/
import Derived.Test.YtofiebilokhccaaRLaw0
import Derived.Test.YtofiebilokhccaaRKnown
import Derived.Deep.DeepCutAuto
namespace Go.Proofs.Ytofiebilokhccaa
open Go.RowKit Go.ChangeShapes Go.WideShapes Go.ChangeAt
set_option linter.unusedVariables false
set_option linter.unusedSimpArgs false
set_option maxRecDepth 100000

theorem Kept.setNew {g : Nat} {a w : World} (h : Kept g a w) {p : Addr} (hp : a.heap.size ≤ p.block) (u : Value) : Kept g a (w.setCell p u) := by
  have hb := (Below.refl 0 w).setCell (Nat.zero_le p.block) u
  exact ⟨hb.os.trans h.os, hb.tape.trans h.tape, hb.output.trans h.output, Nat.le_trans h.size hb.size, fun k hk hg => (Below.heap_setCell w p u k (by omega)).trans (h.block k hk hg)⟩

theorem Row.set3Z {w : World} {g : Nat} {t : TypeId} (h : Row w g t #[.bool false, .slice none 0 0, .slice none 0 0]) (x y z : Value) : Row (((w.setCell ⟨g, 0, none⟩ x).setCell ⟨g, 1, none⟩ y).setCell ⟨g, 2, none⟩ z) g t #[x, y, z] := h.set3 x y z
theorem ArgR.set3Z {w : World} {v : Value} {X : Rat} {n g : Nat} (h : ArgR w v X n) (R : Row w g 34 #[.bool false, .slice none 0 0, .slice none 0 0]) (x y z : Value) : ArgR (((w.setCell ⟨g, 0, none⟩ x).setCell ⟨g, 1, none⟩ y).setCell ⟨g, 2, none⟩ z) v X n :=
  h.far R (noInts3 _ _ _ _ _ _ _) (kept3 _ _ _)
theorem ResQ.set3Z {base : Nat} {w : World} {v : Value} {X : Rat} {n g : Nat} (h : ResQ base w v X n) (R : Row w g 25 #[.bool false, .slice none 0 0, .slice none 0 0]) (x y z : Value) : ResQ base (((w.setCell ⟨g, 0, none⟩ x).setCell ⟨g, 1, none⟩ y).setCell ⟨g, 2, none⟩ z) v X n :=
  h.far R (by decide) (kept3 _ _ _)

set_option maxRecDepth 100000 in
set_option maxHeartbeats 8000000 in
theorem ratQuotients_walk (neg0 : Bool) (xs0 ds0 : List Int) (a0 b0 : Option Addr) (ca0 cb0 : Nat) (neg1 : Bool) (xs1 ds1 : List Int) (a1 b1 : Option Addr) (ca1 cb1 : Nat) (w : World) (A0 : Arg w (.slice a0 xs0.length ca0) xs0 a0 ca0) (B0 : Arg w (.slice b0 ds0.length cb0) ds0 b0 cb0) (lx0 : xs0.length ≤ 1048576) (ly0 : ds0.length ≤ 1048576) (nx0 : a0 = none → ca0 = 0) (ny0 : b0 = none → cb0 = 0) (A1 : Arg w (.slice a1 xs1.length ca1) xs1 a1 ca1) (B1 : Arg w (.slice b1 ds1.length cb1) ds1 b1 cb1) (lx1 : xs1.length ≤ 1048576) (ly1 : ds1.length ≤ 1048576) (nx1 : a1 = none → ca1 = 0) (ny1 : b1 = none → cb1 = 0) :
    Calls Try.prog 7 #[.agg #[.bool neg0, .slice a0 xs0.length ca0, .slice b0 ds0.length cb0], .agg #[.bool neg1, .slice a1 xs1.length ca1, .slice b1 ds1.length cb1]] w fun e w' => e = .returned (.bool true) ∧ Below w.heap.size w w' := by
  obtain ⟨X0, hX0⟩ : ∃ X, ratOf neg0 (val xs0) (val ds0) = X := ⟨_, rfl⟩
  have Q0 : ArgQ w (.agg #[.bool neg0, .slice a0 xs0.length ca0, .slice b0 ds0.length cb0]) X0 1048576 := ⟨neg0, xs0, ds0, a0, b0, ca0, cb0, rfl, A0, B0, hX0, lx0, ly0⟩
  obtain ⟨X1, hX1⟩ : ∃ X, ratOf neg1 (val xs1) (val ds1) = X := ⟨_, rfl⟩
  have Q1 : ArgQ w (.agg #[.bool neg1, .slice a1 xs1.length ca1, .slice b1 ds1.length cb1]) X1 1048576 := ⟨neg1, xs1, ds1, a1, b1, ca1, cb1, rfl, A1, B1, hX1, lx1, ly1⟩
  obtain ⟨W, hW⟩ : ∃ W, ((w.alloc (.cells #[.bool neg0, .slice a0 xs0.length ca0, .slice b0 ds0.length cb0] 25)).alloc (.cells #[.bool neg1, .slice a1 xs1.length ca1, .slice b1 ds1.length cb1] 25)) = W := ⟨_, rfl⟩
  have R0 : Row W (w.heap.size) 25 #[.bool neg0, .slice a0 xs0.length ca0, .slice b0 ds0.length cb0] := by rw [← hW]; exact ((Row.new _ _ _).alloc _)
  have R1 : Row W (w.heap.size + 1) 25 #[.bool neg1, .slice a1 xs1.length ca1, .slice b1 ds1.length cb1] := by rw [← hW]; have h := (Row.new (w.alloc (.cells #[.bool neg0, .slice a0 xs0.length ca0, .slice b0 ds0.length cb0] 25)) 25 #[.bool neg1, .slice a1 xs1.length ca1, .slice b1 ds1.length cb1]); simp only [World.size_alloc] at h; exact h
  have hBW : Below w.heap.size w W := by rw [← hW]; exact (((Below.refl _ _).alloc (by (try simp) <;> omega) _).alloc (by (try simp) <;> omega) _)
  have hsW : w.heap.size + 1 + 1 ≤ W.heap.size := by rw [← hW]; simp
  by_cases h0 : X1 = 0
  · have e0 : ((0 : Int) == 0) = true := by decide
    have e17 : ((17 : Int) == 17) = true := by decide
    have Q0W := Q0.later hBW
    have Q1W := Q1.later hBW
    have A0W := A0.later hBW
    have B0W := B0.later hBW
    have A1W := A1.later hBW
    have B1W := B1.later hBW
    have N1 := Lib.hid nx0
    have N2 := Lib.hid ny0
    have N3 := Lib.hid nx1
    have N4 := Lib.hid ny1
    have HX0 := Lib.hid hX0
    have HX1 := Lib.hid hX1
    clear nx0 ny0 nx1 ny1 hX0 hX1
    go_enter Try.func7, Try.ntmps7
    go_upto_region 1 with fail
    clear hW
    go_cut [5, 6] (fun s5 s6 wx => ∃ g : Nat, s5 = .pointer (some ⟨g, 0, none⟩) ∧ s6 = .int .i64 17 ∧ Row wx g 25 #[.bool false, .slice none 0 0, .slice none 0 0] ∧ Below W.heap.size W wx)
    case first =>
      have lt_R0 := R0.lt
      have lt_R1 := R1.lt
      have mkS : ∀ X, Kept (W.heap.size) W X → X.cell? ⟨w.heap.size, 0, none⟩ = some (.bool neg0) ∧ X.cell? ⟨w.heap.size, 1, none⟩ = some (.slice a0 xs0.length ca0) ∧ X.cell? ⟨w.heap.size, 2, none⟩ = some (.slice b0 ds0.length cb0) ∧ X.cell? ⟨w.heap.size + 1, 0, none⟩ = some (.bool neg1) ∧ X.cell? ⟨w.heap.size + 1, 1, none⟩ = some (.slice a1 xs1.length ca1) ∧ X.cell? ⟨w.heap.size + 1, 2, none⟩ = some (.slice b1 ds1.length cb1) ∧ Kept (W.heap.size) W X := fun X h => ⟨(R0.kept h (by omega)).cell 0, (R0.kept h (by omega)).cell 1, (R0.kept h (by omega)).cell 2, (R1.kept h (by omega)).cell 0, (R1.kept h (by omega)).cell 1, (R1.kept h (by omega)).cell 2, h⟩
      go_region_held3 (fun X => X.cell? ⟨w.heap.size, 0, none⟩ = some (.bool neg0) ∧ X.cell? ⟨w.heap.size, 1, none⟩ = some (.slice a0 xs0.length ca0) ∧ X.cell? ⟨w.heap.size, 2, none⟩ = some (.slice b0 ds0.length cb0) ∧ X.cell? ⟨w.heap.size + 1, 0, none⟩ = some (.bool neg1) ∧ X.cell? ⟨w.heap.size + 1, 1, none⟩ = some (.slice a1 xs1.length ca1) ∧ X.cell? ⟨w.heap.size + 1, 2, none⟩ = some (.slice b1 ds1.length cb1) ∧ Kept (W.heap.size) W X)
        ((refine mkS _ ?_; (repeat' (first | exact Kept.refl _ _ | refine Kept.drew ?_ | refine Kept.alloc ?_ _ | refine Kept.set ?_ _ _ | refine Kept.setNew ?_ (by (try simp) <;> omega) _ | refine Kept.below ?_ (by assumption)))))
        ((first
          | (go_at_call 35; have hprev := hbw2; clear hprev; (with_reducible refine (divQ_zero (O.later (show Below w1.heap.size w1 _ by (repeat' (first | exact Below.refl _ _ | refine Below.drew ?_ | refine Below.alloc ?_ (by (try simp) <;> omega) _ | refine below_set3 ?_ (by (try simp) <;> omega) _ _ _ | refine below_set2 ?_ (by (try simp) <;> omega) _ _ | refine Below.setCell ?_ (by (try simp) <;> omega) _ | refine Below.trans ?_ (Below.mono (by assumption) (by (try simp) <;> omega)))))) (P.later (show Below w2.heap.size w2 _ by (repeat' (first | exact Below.refl _ _ | refine Below.drew ?_ | refine Below.alloc ?_ (by (try simp) <;> omega) _ | refine below_set3 ?_ (by (try simp) <;> omega) _ _ _ | refine below_set2 ?_ (by (try simp) <;> omega) _ _ | refine Below.setCell ?_ (by (try simp) <;> omega) _ | refine Below.trans ?_ (Below.mono (by assumption) (by (try simp) <;> omega)))))) h0 (by omega)).mono ?_); rintro e w3 ⟨rfl, hbw3⟩; have hsw3 := hbw3.size; (try simp at hsw3); (try (have zr : Row w3 (W.heap.size) 25 #[.bool false, .slice none 0 0, .slice none 0 0] := (by first | ((with_reducible refine ((((Row.at ?hat).drew.later hbw1).later hbw2).later hbw3)); case hat => ((try simp) <;> omega)) | ((with_reducible refine ((((Row.at ?hat).later hbw1).later hbw2).later hbw3)); case hat => ((try simp) <;> omega)) | fail); obtain ⟨_, _, _, _, _, _⟩ := zr.three)); (try (have zr : Row w3 (w1.heap.size) 25 #[.bool false, .slice none 0 0, .slice none 0 0] := (by first | ((with_reducible refine (((Row.at ?hat).later hbw2).later hbw3)); case hat => ((try simp) <;> omega)) | fail); obtain ⟨_, _, _, _, _, _⟩ := zr.three)); (try (have zr : Row w3 (w2.heap.size) 25 #[.bool false, .slice none 0 0, .slice none 0 0] := (by first | ((with_reducible refine ((Row.at ?hat).later hbw3)); case hat => ((try simp) <;> omega)) | fail); obtain ⟨_, _, _, _, _, _⟩ := zr.three)); skip)
          | (go_at_call 13; have hprev := hbw1; clear hprev; (with_reducible refine (ownR_any (A1W.later (show Below W.heap.size W _ by (repeat' (first | exact Below.refl _ _ | refine Below.drew ?_ | refine Below.alloc ?_ (by (try simp) <;> omega) _ | refine below_set3 ?_ (by (try simp) <;> omega) _ _ _ | refine below_set2 ?_ (by (try simp) <;> omega) _ _ | refine Below.setCell ?_ (by (try simp) <;> omega) _ | refine Below.trans ?_ (Below.mono (by assumption) (by (try simp) <;> omega)))))) (B1W.later (show Below W.heap.size W _ by (repeat' (first | exact Below.refl _ _ | refine Below.drew ?_ | refine Below.alloc ?_ (by (try simp) <;> omega) _ | refine below_set3 ?_ (by (try simp) <;> omega) _ _ _ | refine below_set2 ?_ (by (try simp) <;> omega) _ _ | refine Below.setCell ?_ (by (try simp) <;> omega) _ | refine Below.trans ?_ (Below.mono (by assumption) (by (try simp) <;> omega)))))) (by omega) (by omega) N3.out N4.out).mono ?_); rintro e w2 ⟨r2, rfl, y1, y2, n1, n2, rfl, P1, P2, _, _, hbw2⟩; have hsw2 := hbw2.size; (try simp at hsw2); have P := (show ArgQ w2 (.agg #[.bool neg1, .slice y1 xs1.length n1, .slice y2 ds1.length n2]) X1 1048576 from ⟨neg1, xs1, ds1, y1, y2, n1, n2, rfl, P1, P2, HX1.out, lx1, ly1⟩); skip)
          | (go_at_call 13; (with_reducible refine (ownR_any (A0W.later (show Below W.heap.size W _ by (repeat' (first | exact Below.refl _ _ | refine Below.drew ?_ | refine Below.alloc ?_ (by (try simp) <;> omega) _ | refine below_set3 ?_ (by (try simp) <;> omega) _ _ _ | refine below_set2 ?_ (by (try simp) <;> omega) _ _ | refine Below.setCell ?_ (by (try simp) <;> omega) _ | refine Below.trans ?_ (Below.mono (by assumption) (by (try simp) <;> omega)))))) (B0W.later (show Below W.heap.size W _ by (repeat' (first | exact Below.refl _ _ | refine Below.drew ?_ | refine Below.alloc ?_ (by (try simp) <;> omega) _ | refine below_set3 ?_ (by (try simp) <;> omega) _ _ _ | refine below_set2 ?_ (by (try simp) <;> omega) _ _ | refine Below.setCell ?_ (by (try simp) <;> omega) _ | refine Below.trans ?_ (Below.mono (by assumption) (by (try simp) <;> omega)))))) (by omega) (by omega) N1.out N2.out).mono ?_); rintro e w1 ⟨r1, rfl, z1, z2, l1, l2, rfl, O1, O2, _, _, hbw1⟩; have hsw1 := hbw1.size; (try simp at hsw1); have O := (show ArgQ w1 (.agg #[.bool neg0, .slice z1 xs0.length l1, .slice z2 ds0.length l2]) X0 1048576 from ⟨neg0, xs0, ds0, z1, z2, l1, l2, rfl, O1, O2, HX0.out, lx0, ly0⟩); skip)))
      all_goals (go_wp2_with fail; go_meet; exact ⟨_, rfl, rfl, (by ((repeat (first | (with_reducible refine Row.set3Z ?_ _ _ _) | ((with_reducible refine Row.far ?_ ?hne _); case hne => ((try simp) <;> omega)))); (first | ((with_reducible refine (Row.at ?hat)); case hat => ((try simp) <;> omega)) | ((with_reducible refine ((Row.at ?hat).later hbw3)); case hat => ((try simp) <;> omega)) | ((with_reducible refine (((Row.at ?hat).later hbw2).later hbw3)); case hat => ((try simp) <;> omega)) | ((with_reducible refine ((((Row.at ?hat).drew.later hbw1).later hbw2).later hbw3)); case hat => ((try simp) <;> omega)) | ((with_reducible refine ((((Row.at ?hat).later hbw1).later hbw2).later hbw3)); case hat => ((try simp) <;> omega)) | fail))), by (repeat' (first | exact Below.refl _ _ | refine Below.drew ?_ | refine Below.alloc ?_ (by (try simp) <;> omega) _ | refine below_set3 ?_ (by (try simp) <;> omega) _ _ _ | refine below_set2 ?_ (by (try simp) <;> omega) _ _ | refine Below.setCell ?_ (by (try simp) <;> omega) _ | refine Below.trans ?_ (Below.mono (by assumption) (by (try simp) <;> omega))))⟩)
    case rest =>
      obtain ⟨g, rfl, rfl, R5, hb1⟩ := hcut
      have hs1 := hb1.size
      have Q0U := Q0W.later hb1
      have Q1U := Q1W.later hb1
      have R0U := R0.later hb1
      have R1U := R1.later hb1
      have hBU : Below w.heap.size w wc := hBW.trans (hb1.mono (by omega))
      clear Q0W Q1W A0W B0W A1W B1W R0 R1 A0 B0 A1 B1 Q0 Q1
      go_upto_region 2 with fail
      obtain ⟨U, hU⟩ : ∃ U, wc = U := ⟨_, rfl⟩
      subst hU
      go_cut [7, 8] (fun s7 s8 wx => ∃ g9 : Nat, s7 = .pointer (some ⟨g9, 0, none⟩) ∧ s8 = .bool false ∧ Below wc.heap.size wc wx)
      case first =>
        have lt_R0U := R0U.lt
        have lt_R1U := R1U.lt
        have mkS : ∀ X, Kept (wc.heap.size) wc X → X.cell? ⟨w.heap.size, 0, none⟩ = some (.bool neg0) ∧ X.cell? ⟨w.heap.size, 1, none⟩ = some (.slice a0 xs0.length ca0) ∧ X.cell? ⟨w.heap.size, 2, none⟩ = some (.slice b0 ds0.length cb0) ∧ X.cell? ⟨w.heap.size + 1, 0, none⟩ = some (.bool neg1) ∧ X.cell? ⟨w.heap.size + 1, 1, none⟩ = some (.slice a1 xs1.length ca1) ∧ X.cell? ⟨w.heap.size + 1, 2, none⟩ = some (.slice b1 ds1.length cb1) ∧ Kept (wc.heap.size) wc X := fun X h => ⟨(R0U.kept h (by omega)).cell 0, (R0U.kept h (by omega)).cell 1, (R0U.kept h (by omega)).cell 2, (R1U.kept h (by omega)).cell 0, (R1U.kept h (by omega)).cell 1, (R1U.kept h (by omega)).cell 2, h⟩
        go_region_held3 (fun X => X.cell? ⟨w.heap.size, 0, none⟩ = some (.bool neg0) ∧ X.cell? ⟨w.heap.size, 1, none⟩ = some (.slice a0 xs0.length ca0) ∧ X.cell? ⟨w.heap.size, 2, none⟩ = some (.slice b0 ds0.length cb0) ∧ X.cell? ⟨w.heap.size + 1, 0, none⟩ = some (.bool neg1) ∧ X.cell? ⟨w.heap.size + 1, 1, none⟩ = some (.slice a1 xs1.length ca1) ∧ X.cell? ⟨w.heap.size + 1, 2, none⟩ = some (.slice b1 ds1.length cb1) ∧ Kept (wc.heap.size) wc X)
          ((refine mkS _ ?_; (repeat' (first | exact Kept.refl _ _ | refine Kept.drew ?_ | refine Kept.alloc ?_ _ | refine Kept.set ?_ _ _ | refine Kept.setNew ?_ (by (try simp) <;> omega) _ | refine Kept.below ?_ (by assumption)))))
          ((first
            | (go_at_call 36; have hprev := hbv2; clear hprev; (with_reducible refine (divR_zero (q1.later (show Below v1.heap.size v1 _ by (repeat' (first | exact Below.refl _ _ | refine Below.drew ?_ | refine Below.alloc ?_ (by (try simp) <;> omega) _ | refine below_set3 ?_ (by (try simp) <;> omega) _ _ _ | refine below_set2 ?_ (by (try simp) <;> omega) _ _ | refine Below.setCell ?_ (by (try simp) <;> omega) _ | refine Below.trans ?_ (Below.mono (by assumption) (by (try simp) <;> omega)))))) (q2.later (show Below v2.heap.size v2 _ by (repeat' (first | exact Below.refl _ _ | refine Below.drew ?_ | refine Below.alloc ?_ (by (try simp) <;> omega) _ | refine below_set3 ?_ (by (try simp) <;> omega) _ _ _ | refine below_set2 ?_ (by (try simp) <;> omega) _ _ | refine Below.setCell ?_ (by (try simp) <;> omega) _ | refine Below.trans ?_ (Below.mono (by assumption) (by (try simp) <;> omega)))))) h0).mono ?_); rintro e v3 ⟨rfl, hbv3⟩; have hsv3 := hbv3.size; (try simp at hsv3); (try (have zr : Row v3 (wc.heap.size) 34 #[.bool false, .slice none 0 0, .slice none 0 0] := (by first | ((with_reducible refine ((((Row.at ?hat).drew.later hbv1).later hbv2).later hbv3)); case hat => ((try simp) <;> omega)) | ((with_reducible refine ((((Row.at ?hat).later hbv1).later hbv2).later hbv3)); case hat => ((try simp) <;> omega)) | fail); obtain ⟨_, _, _, _, _, _⟩ := zr.three)); (try (have zr : Row v3 (v1.heap.size) 34 #[.bool false, .slice none 0 0, .slice none 0 0] := (by first | ((with_reducible refine (((Row.at ?hat).later hbv2).later hbv3)); case hat => ((try simp) <;> omega)) | fail); obtain ⟨_, _, _, _, _, _⟩ := zr.three)); (try (have zr : Row v3 (v2.heap.size) 34 #[.bool false, .slice none 0 0, .slice none 0 0] := (by first | ((with_reducible refine ((Row.at ?hat).later hbv3)); case hat => ((try simp) <;> omega)) | fail); obtain ⟨_, _, _, _, _, _⟩ := zr.three)); skip)
            | (go_at_call 17; have hprev := hbv1; clear hprev; (with_reducible refine (ofR_any (Q1U.later (show Below wc.heap.size wc _ by (repeat' (first | exact Below.refl _ _ | refine Below.drew ?_ | refine Below.alloc ?_ (by (try simp) <;> omega) _ | refine below_set3 ?_ (by (try simp) <;> omega) _ _ _ | refine below_set2 ?_ (by (try simp) <;> omega) _ _ | refine Below.setCell ?_ (by (try simp) <;> omega) _ | refine Below.trans ?_ (Below.mono (by assumption) (by (try simp) <;> omega)))))) (by omega)).mono ?_); rintro e v2 ⟨r2, rfl, q2, hbv2⟩; have hsv2 := hbv2.size; (try simp at hsv2); skip)
            | (go_at_call 17; (with_reducible refine (ofR_any (Q0U.later (show Below wc.heap.size wc _ by (repeat' (first | exact Below.refl _ _ | refine Below.drew ?_ | refine Below.alloc ?_ (by (try simp) <;> omega) _ | refine below_set3 ?_ (by (try simp) <;> omega) _ _ _ | refine below_set2 ?_ (by (try simp) <;> omega) _ _ | refine Below.setCell ?_ (by (try simp) <;> omega) _ | refine Below.trans ?_ (Below.mono (by assumption) (by (try simp) <;> omega)))))) (by omega)).mono ?_); rintro e v1 ⟨r1, rfl, q1, hbv1⟩; have hsv1 := hbv1.size; (try simp at hsv1); skip)))
        all_goals (go_wp2_with fail; go_meet; exact ⟨_, rfl, rfl, by (repeat' (first | exact Below.refl _ _ | refine Below.drew ?_ | refine Below.alloc ?_ (by (try simp) <;> omega) _ | refine below_set3 ?_ (by (try simp) <;> omega) _ _ _ | refine below_set2 ?_ (by (try simp) <;> omega) _ _ | refine Below.setCell ?_ (by (try simp) <;> omega) _ | refine Below.trans ?_ (Below.mono (by assumption) (by (try simp) <;> omega))))⟩)
      case rest =>
        obtain ⟨g9, rfl, rfl, hb2⟩ := hcut
        have hs2 := hb2.size
        obtain ⟨p0, p1, p2, _, _, _⟩ := (R5.later hb2).three
        go_wp2_with fail
        refine (known3_any _).mono ?_
        rintro e V5 ⟨rfl, hb5⟩
        go_wp2_with fail
        go_ret
        exact ⟨rfl, (hBU.trans (hb2.mono (by omega))).trans (hb5.mono (by omega))⟩
  · have e0 : ((0 : Int) == 0) = true := by decide
    have e17 : ((17 : Int) == 17) = true := by decide
    have Q0W := Q0.later hBW
    have Q1W := Q1.later hBW
    have A0W := A0.later hBW
    have B0W := B0.later hBW
    have A1W := A1.later hBW
    have B1W := B1.later hBW
    have N1 := Lib.hid nx0
    have N2 := Lib.hid ny0
    have N3 := Lib.hid nx1
    have N4 := Lib.hid ny1
    have HX0 := Lib.hid hX0
    have HX1 := Lib.hid hX1
    clear nx0 ny0 nx1 ny1 hX0 hX1
    go_enter Try.func7, Try.ntmps7
    go_upto_region 1 with fail
    clear hW
    go_cut [5, 6] (fun s5 s6 wx => ∃ (g : Nat) (m : Bool) (fs gs : List Int) (f1 g1 : Option Addr) (j1 k1 : Nat), s5 = .pointer (some ⟨g, 0, none⟩) ∧ s6 = .int .i64 0 ∧ Row wx g 25 #[.bool m, .slice f1 fs.length j1, .slice g1 gs.length k1] ∧ ResQ w.heap.size wx (.agg #[.bool m, .slice f1 fs.length j1, .slice g1 gs.length k1]) (X0 / X1) 3000000 ∧ Below W.heap.size W wx)
    case first =>
      have lt_R0 := R0.lt
      have lt_R1 := R1.lt
      have mkS : ∀ X, Kept (W.heap.size) W X → X.cell? ⟨w.heap.size, 0, none⟩ = some (.bool neg0) ∧ X.cell? ⟨w.heap.size, 1, none⟩ = some (.slice a0 xs0.length ca0) ∧ X.cell? ⟨w.heap.size, 2, none⟩ = some (.slice b0 ds0.length cb0) ∧ X.cell? ⟨w.heap.size + 1, 0, none⟩ = some (.bool neg1) ∧ X.cell? ⟨w.heap.size + 1, 1, none⟩ = some (.slice a1 xs1.length ca1) ∧ X.cell? ⟨w.heap.size + 1, 2, none⟩ = some (.slice b1 ds1.length cb1) ∧ Kept (W.heap.size) W X := fun X h => ⟨(R0.kept h (by omega)).cell 0, (R0.kept h (by omega)).cell 1, (R0.kept h (by omega)).cell 2, (R1.kept h (by omega)).cell 0, (R1.kept h (by omega)).cell 1, (R1.kept h (by omega)).cell 2, h⟩
      go_region_held3 (fun X => X.cell? ⟨w.heap.size, 0, none⟩ = some (.bool neg0) ∧ X.cell? ⟨w.heap.size, 1, none⟩ = some (.slice a0 xs0.length ca0) ∧ X.cell? ⟨w.heap.size, 2, none⟩ = some (.slice b0 ds0.length cb0) ∧ X.cell? ⟨w.heap.size + 1, 0, none⟩ = some (.bool neg1) ∧ X.cell? ⟨w.heap.size + 1, 1, none⟩ = some (.slice a1 xs1.length ca1) ∧ X.cell? ⟨w.heap.size + 1, 2, none⟩ = some (.slice b1 ds1.length cb1) ∧ Kept (W.heap.size) W X)
        ((refine mkS _ ?_; (repeat' (first | exact Kept.refl _ _ | refine Kept.drew ?_ | refine Kept.alloc ?_ _ | refine Kept.set ?_ _ _ | refine Kept.setNew ?_ (by (try simp) <;> omega) _ | refine Kept.below ?_ (by assumption)))))
        ((first
          | (go_at_call 35; have hprev := hbw2; clear hprev; (with_reducible refine (divQ_any (O.later (show Below w1.heap.size w1 _ by (repeat' (first | exact Below.refl _ _ | refine Below.drew ?_ | refine Below.alloc ?_ (by (try simp) <;> omega) _ | refine below_set3 ?_ (by (try simp) <;> omega) _ _ _ | refine below_set2 ?_ (by (try simp) <;> omega) _ _ | refine Below.setCell ?_ (by (try simp) <;> omega) _ | refine Below.trans ?_ (Below.mono (by assumption) (by (try simp) <;> omega)))))) (P.later (show Below w2.heap.size w2 _ by (repeat' (first | exact Below.refl _ _ | refine Below.drew ?_ | refine Below.alloc ?_ (by (try simp) <;> omega) _ | refine below_set3 ?_ (by (try simp) <;> omega) _ _ _ | refine below_set2 ?_ (by (try simp) <;> omega) _ _ | refine Below.setCell ?_ (by (try simp) <;> omega) _ | refine Below.trans ?_ (Below.mono (by assumption) (by (try simp) <;> omega)))))) h0 (by omega)).mono ?_); rintro e w3 ⟨r3, rfl, q3, hbw3⟩; have hsw3 := hbw3.size; (try simp at hsw3); obtain ⟨m, fs, gs, f1, g1, j1, k1, rfl⟩ := q3.arg.box; (try (have zr : Row w3 (W.heap.size) 25 #[.bool false, .slice none 0 0, .slice none 0 0] := (by first | ((with_reducible refine ((((Row.at ?hat).drew.later hbw1).later hbw2).later hbw3)); case hat => ((try simp) <;> omega)) | ((with_reducible refine ((((Row.at ?hat).later hbw1).later hbw2).later hbw3)); case hat => ((try simp) <;> omega)) | fail); obtain ⟨_, _, _, _, _, _⟩ := zr.three)); (try (have zr : Row w3 (w1.heap.size) 25 #[.bool false, .slice none 0 0, .slice none 0 0] := (by first | ((with_reducible refine (((Row.at ?hat).later hbw2).later hbw3)); case hat => ((try simp) <;> omega)) | fail); obtain ⟨_, _, _, _, _, _⟩ := zr.three)); (try (have zr : Row w3 (w2.heap.size) 25 #[.bool false, .slice none 0 0, .slice none 0 0] := (by first | ((with_reducible refine ((Row.at ?hat).later hbw3)); case hat => ((try simp) <;> omega)) | fail); obtain ⟨_, _, _, _, _, _⟩ := zr.three)); skip)
          | (go_at_call 13; have hprev := hbw1; clear hprev; (with_reducible refine (ownR_any (A1W.later (show Below W.heap.size W _ by (repeat' (first | exact Below.refl _ _ | refine Below.drew ?_ | refine Below.alloc ?_ (by (try simp) <;> omega) _ | refine below_set3 ?_ (by (try simp) <;> omega) _ _ _ | refine below_set2 ?_ (by (try simp) <;> omega) _ _ | refine Below.setCell ?_ (by (try simp) <;> omega) _ | refine Below.trans ?_ (Below.mono (by assumption) (by (try simp) <;> omega)))))) (B1W.later (show Below W.heap.size W _ by (repeat' (first | exact Below.refl _ _ | refine Below.drew ?_ | refine Below.alloc ?_ (by (try simp) <;> omega) _ | refine below_set3 ?_ (by (try simp) <;> omega) _ _ _ | refine below_set2 ?_ (by (try simp) <;> omega) _ _ | refine Below.setCell ?_ (by (try simp) <;> omega) _ | refine Below.trans ?_ (Below.mono (by assumption) (by (try simp) <;> omega)))))) (by omega) (by omega) N3.out N4.out).mono ?_); rintro e w2 ⟨r2, rfl, y1, y2, n1, n2, rfl, P1, P2, _, _, hbw2⟩; have hsw2 := hbw2.size; (try simp at hsw2); have P := (show ArgQ w2 (.agg #[.bool neg1, .slice y1 xs1.length n1, .slice y2 ds1.length n2]) X1 1048576 from ⟨neg1, xs1, ds1, y1, y2, n1, n2, rfl, P1, P2, HX1.out, lx1, ly1⟩); skip)
          | (go_at_call 13; (with_reducible refine (ownR_any (A0W.later (show Below W.heap.size W _ by (repeat' (first | exact Below.refl _ _ | refine Below.drew ?_ | refine Below.alloc ?_ (by (try simp) <;> omega) _ | refine below_set3 ?_ (by (try simp) <;> omega) _ _ _ | refine below_set2 ?_ (by (try simp) <;> omega) _ _ | refine Below.setCell ?_ (by (try simp) <;> omega) _ | refine Below.trans ?_ (Below.mono (by assumption) (by (try simp) <;> omega)))))) (B0W.later (show Below W.heap.size W _ by (repeat' (first | exact Below.refl _ _ | refine Below.drew ?_ | refine Below.alloc ?_ (by (try simp) <;> omega) _ | refine below_set3 ?_ (by (try simp) <;> omega) _ _ _ | refine below_set2 ?_ (by (try simp) <;> omega) _ _ | refine Below.setCell ?_ (by (try simp) <;> omega) _ | refine Below.trans ?_ (Below.mono (by assumption) (by (try simp) <;> omega)))))) (by omega) (by omega) N1.out N2.out).mono ?_); rintro e w1 ⟨r1, rfl, z1, z2, l1, l2, rfl, O1, O2, _, _, hbw1⟩; have hsw1 := hbw1.size; (try simp at hsw1); have O := (show ArgQ w1 (.agg #[.bool neg0, .slice z1 xs0.length l1, .slice z2 ds0.length l2]) X0 1048576 from ⟨neg0, xs0, ds0, z1, z2, l1, l2, rfl, O1, O2, HX0.out, lx0, ly0⟩); skip)))
      all_goals (go_wp2_with fail; go_meet; exact ⟨_, m, fs, gs, f1, g1, j1, k1, rfl, rfl, (by ((repeat (first | (with_reducible refine Row.set3Z ?_ _ _ _) | ((with_reducible refine Row.far ?_ ?hne _); case hne => ((try simp) <;> omega)))); (first | ((with_reducible refine (Row.at ?hat)); case hat => ((try simp) <;> omega)) | ((with_reducible refine ((Row.at ?hat).later hbw3)); case hat => ((try simp) <;> omega)) | ((with_reducible refine (((Row.at ?hat).later hbw2).later hbw3)); case hat => ((try simp) <;> omega)) | ((with_reducible refine ((((Row.at ?hat).drew.later hbw1).later hbw2).later hbw3)); case hat => ((try simp) <;> omega)) | ((with_reducible refine ((((Row.at ?hat).later hbw1).later hbw2).later hbw3)); case hat => ((try simp) <;> omega)) | fail))), (by ((repeat ((with_reducible refine ResQ.set3Z ?_ ?hrow _ _ _); case hrow => ((repeat (first | (with_reducible refine Row.set3Z ?_ _ _ _) | ((with_reducible refine Row.far ?_ ?hne _); case hne => ((try simp) <;> omega)))); (first | ((with_reducible refine (Row.at ?hat)); case hat => ((try simp) <;> omega)) | ((with_reducible refine ((Row.at ?hat).later hbw3)); case hat => ((try simp) <;> omega)) | ((with_reducible refine (((Row.at ?hat).later hbw2).later hbw3)); case hat => ((try simp) <;> omega)) | ((with_reducible refine ((((Row.at ?hat).drew.later hbw1).later hbw2).later hbw3)); case hat => ((try simp) <;> omega)) | ((with_reducible refine ((((Row.at ?hat).later hbw1).later hbw2).later hbw3)); case hat => ((try simp) <;> omega)) | fail)))); exact ((q3.later (show Below w3.heap.size w3 _ by (repeat' (first | exact Below.refl _ _ | refine Below.drew ?_ | refine Below.alloc ?_ (by (try simp) <;> omega) _ | refine below_set3 ?_ (by (try simp) <;> omega) _ _ _ | refine below_set2 ?_ (by (try simp) <;> omega) _ _ | refine Below.setCell ?_ (by (try simp) <;> omega) _ | refine Below.trans ?_ (Below.mono (by assumption) (by (try simp) <;> omega)))))).more (by omega)).mono (by (try simp) <;> omega))), by (repeat' (first | exact Below.refl _ _ | refine Below.drew ?_ | refine Below.alloc ?_ (by (try simp) <;> omega) _ | refine below_set3 ?_ (by (try simp) <;> omega) _ _ _ | refine below_set2 ?_ (by (try simp) <;> omega) _ _ | refine Below.setCell ?_ (by (try simp) <;> omega) _ | refine Below.trans ?_ (Below.mono (by assumption) (by (try simp) <;> omega))))⟩)
    case rest =>
      obtain ⟨g, m, fs, gs, f1, g1, j1, k1, rfl, rfl, R5, q5, hb1⟩ := hcut
      have hs1 := hb1.size
      have Q0U := Q0W.later hb1
      have Q1U := Q1W.later hb1
      have R0U := R0.later hb1
      have R1U := R1.later hb1
      have hBU : Below w.heap.size w wc := hBW.trans (hb1.mono (by omega))
      clear Q0W Q1W A0W B0W A1W B1W R0 R1 A0 B0 A1 B1 Q0 Q1
      go_upto_region 2 with fail
      obtain ⟨U, hU⟩ : ∃ U, wc = U := ⟨_, rfl⟩
      subst hU
      go_cut [7, 8] (fun s7 s8 wx => ∃ (g9 : Nat) (m9 : Bool) (fs9 gs9 : List Int) (f9 g9' : Option Addr) (j9 k9 : Nat), s7 = .pointer (some ⟨g9, 0, none⟩) ∧ s8 = .bool true ∧ Row wx g9 34 #[.bool m9, .slice f9 fs9.length j9, .slice g9' gs9.length k9] ∧ ArgR wx (.agg #[.bool m9, .slice f9 fs9.length j9, .slice g9' gs9.length k9]) (X0 / X1) 100000000 ∧ Below wc.heap.size wc wx)
      case first =>
        have lt_R0U := R0U.lt
        have lt_R1U := R1U.lt
        have mkS : ∀ X, Kept (wc.heap.size) wc X → X.cell? ⟨w.heap.size, 0, none⟩ = some (.bool neg0) ∧ X.cell? ⟨w.heap.size, 1, none⟩ = some (.slice a0 xs0.length ca0) ∧ X.cell? ⟨w.heap.size, 2, none⟩ = some (.slice b0 ds0.length cb0) ∧ X.cell? ⟨w.heap.size + 1, 0, none⟩ = some (.bool neg1) ∧ X.cell? ⟨w.heap.size + 1, 1, none⟩ = some (.slice a1 xs1.length ca1) ∧ X.cell? ⟨w.heap.size + 1, 2, none⟩ = some (.slice b1 ds1.length cb1) ∧ Kept (wc.heap.size) wc X := fun X h => ⟨(R0U.kept h (by omega)).cell 0, (R0U.kept h (by omega)).cell 1, (R0U.kept h (by omega)).cell 2, (R1U.kept h (by omega)).cell 0, (R1U.kept h (by omega)).cell 1, (R1U.kept h (by omega)).cell 2, h⟩
        go_region_held3 (fun X => X.cell? ⟨w.heap.size, 0, none⟩ = some (.bool neg0) ∧ X.cell? ⟨w.heap.size, 1, none⟩ = some (.slice a0 xs0.length ca0) ∧ X.cell? ⟨w.heap.size, 2, none⟩ = some (.slice b0 ds0.length cb0) ∧ X.cell? ⟨w.heap.size + 1, 0, none⟩ = some (.bool neg1) ∧ X.cell? ⟨w.heap.size + 1, 1, none⟩ = some (.slice a1 xs1.length ca1) ∧ X.cell? ⟨w.heap.size + 1, 2, none⟩ = some (.slice b1 ds1.length cb1) ∧ Kept (wc.heap.size) wc X)
          ((refine mkS _ ?_; (repeat' (first | exact Kept.refl _ _ | refine Kept.drew ?_ | refine Kept.alloc ?_ _ | refine Kept.set ?_ _ _ | refine Kept.setNew ?_ (by (try simp) <;> omega) _ | refine Kept.below ?_ (by assumption)))))
          ((first
            | (go_at_call 36; have hprev := hbv2; clear hprev; (with_reducible refine (divR_any (q1.later (show Below v1.heap.size v1 _ by (repeat' (first | exact Below.refl _ _ | refine Below.drew ?_ | refine Below.alloc ?_ (by (try simp) <;> omega) _ | refine below_set3 ?_ (by (try simp) <;> omega) _ _ _ | refine below_set2 ?_ (by (try simp) <;> omega) _ _ | refine Below.setCell ?_ (by (try simp) <;> omega) _ | refine Below.trans ?_ (Below.mono (by assumption) (by (try simp) <;> omega)))))) (q2.later (show Below v2.heap.size v2 _ by (repeat' (first | exact Below.refl _ _ | refine Below.drew ?_ | refine Below.alloc ?_ (by (try simp) <;> omega) _ | refine below_set3 ?_ (by (try simp) <;> omega) _ _ _ | refine below_set2 ?_ (by (try simp) <;> omega) _ _ | refine Below.setCell ?_ (by (try simp) <;> omega) _ | refine Below.trans ?_ (Below.mono (by assumption) (by (try simp) <;> omega)))))) h0 (by omega)).mono ?_); rintro e v3 ⟨r3, rfl, q3, hbv3⟩; have hsv3 := hbv3.size; (try simp at hsv3); obtain ⟨m9, fs9, gs9, f9, g9, j9, k9, rfl⟩ := q3.box; (try (have zr : Row v3 (wc.heap.size) 34 #[.bool false, .slice none 0 0, .slice none 0 0] := (by first | ((with_reducible refine ((((Row.at ?hat).drew.later hbv1).later hbv2).later hbv3)); case hat => ((try simp) <;> omega)) | ((with_reducible refine ((((Row.at ?hat).later hbv1).later hbv2).later hbv3)); case hat => ((try simp) <;> omega)) | fail); obtain ⟨_, _, _, _, _, _⟩ := zr.three)); (try (have zr : Row v3 (v1.heap.size) 34 #[.bool false, .slice none 0 0, .slice none 0 0] := (by first | ((with_reducible refine (((Row.at ?hat).later hbv2).later hbv3)); case hat => ((try simp) <;> omega)) | fail); obtain ⟨_, _, _, _, _, _⟩ := zr.three)); (try (have zr : Row v3 (v2.heap.size) 34 #[.bool false, .slice none 0 0, .slice none 0 0] := (by first | ((with_reducible refine ((Row.at ?hat).later hbv3)); case hat => ((try simp) <;> omega)) | fail); obtain ⟨_, _, _, _, _, _⟩ := zr.three)); skip)
            | (go_at_call 17; have hprev := hbv1; clear hprev; (with_reducible refine (ofR_any (Q1U.later (show Below wc.heap.size wc _ by (repeat' (first | exact Below.refl _ _ | refine Below.drew ?_ | refine Below.alloc ?_ (by (try simp) <;> omega) _ | refine below_set3 ?_ (by (try simp) <;> omega) _ _ _ | refine below_set2 ?_ (by (try simp) <;> omega) _ _ | refine Below.setCell ?_ (by (try simp) <;> omega) _ | refine Below.trans ?_ (Below.mono (by assumption) (by (try simp) <;> omega)))))) (by omega)).mono ?_); rintro e v2 ⟨r2, rfl, q2, hbv2⟩; have hsv2 := hbv2.size; (try simp at hsv2); skip)
            | (go_at_call 17; (with_reducible refine (ofR_any (Q0U.later (show Below wc.heap.size wc _ by (repeat' (first | exact Below.refl _ _ | refine Below.drew ?_ | refine Below.alloc ?_ (by (try simp) <;> omega) _ | refine below_set3 ?_ (by (try simp) <;> omega) _ _ _ | refine below_set2 ?_ (by (try simp) <;> omega) _ _ | refine Below.setCell ?_ (by (try simp) <;> omega) _ | refine Below.trans ?_ (Below.mono (by assumption) (by (try simp) <;> omega)))))) (by omega)).mono ?_); rintro e v1 ⟨r1, rfl, q1, hbv1⟩; have hsv1 := hbv1.size; (try simp at hsv1); skip)))
        all_goals (go_wp2_with fail; go_meet; exact ⟨_, m9, fs9, gs9, f9, g9, j9, k9, rfl, rfl, (by ((repeat (first | (with_reducible refine Row.set3Z ?_ _ _ _) | ((with_reducible refine Row.far ?_ ?hne _); case hne => ((try simp) <;> omega)))); (first | ((with_reducible refine (Row.at ?hat)); case hat => ((try simp) <;> omega)) | ((with_reducible refine ((Row.at ?hat).later hbv3)); case hat => ((try simp) <;> omega)) | ((with_reducible refine (((Row.at ?hat).later hbv2).later hbv3)); case hat => ((try simp) <;> omega)) | ((with_reducible refine ((((Row.at ?hat).drew.later hbv1).later hbv2).later hbv3)); case hat => ((try simp) <;> omega)) | ((with_reducible refine ((((Row.at ?hat).later hbv1).later hbv2).later hbv3)); case hat => ((try simp) <;> omega)) | fail))), (by ((repeat ((with_reducible refine ArgR.set3Z ?_ ?hrow _ _ _); case hrow => ((repeat (first | (with_reducible refine Row.set3Z ?_ _ _ _) | ((with_reducible refine Row.far ?_ ?hne _); case hne => ((try simp) <;> omega)))); (first | ((with_reducible refine (Row.at ?hat)); case hat => ((try simp) <;> omega)) | ((with_reducible refine ((Row.at ?hat).later hbv3)); case hat => ((try simp) <;> omega)) | ((with_reducible refine (((Row.at ?hat).later hbv2).later hbv3)); case hat => ((try simp) <;> omega)) | ((with_reducible refine ((((Row.at ?hat).drew.later hbv1).later hbv2).later hbv3)); case hat => ((try simp) <;> omega)) | ((with_reducible refine ((((Row.at ?hat).later hbv1).later hbv2).later hbv3)); case hat => ((try simp) <;> omega)) | fail)))); exact ((q3.later (show Below v3.heap.size v3 _ by (repeat' (first | exact Below.refl _ _ | refine Below.drew ?_ | refine Below.alloc ?_ (by (try simp) <;> omega) _ | refine below_set3 ?_ (by (try simp) <;> omega) _ _ _ | refine below_set2 ?_ (by (try simp) <;> omega) _ _ | refine Below.setCell ?_ (by (try simp) <;> omega) _ | refine Below.trans ?_ (Below.mono (by assumption) (by (try simp) <;> omega)))))).more (by omega)))), by (repeat' (first | exact Below.refl _ _ | refine Below.drew ?_ | refine Below.alloc ?_ (by (try simp) <;> omega) _ | refine below_set3 ?_ (by (try simp) <;> omega) _ _ _ | refine below_set2 ?_ (by (try simp) <;> omega) _ _ | refine Below.setCell ?_ (by (try simp) <;> omega) _ | refine Below.trans ?_ (Below.mono (by assumption) (by (try simp) <;> omega))))⟩)
      case rest =>
        obtain ⟨g9, m9, fs9, gs9, f9, g9', j9, k9, rfl, rfl, R9, q9, hb2⟩ := hcut
        have hs2 := hb2.size
        obtain ⟨p0, p1, p2, _, _, _⟩ := (R5.later hb2).three
        obtain ⟨o0, o1, o2, _, _, _⟩ := R9.three
        go_wp2_with fail
        refine (isR_true q9 (q5.later hb2) (by omega) (by omega)).mono ?_
        rintro e V4 ⟨rfl, hb4⟩
        have hs4 := hb4.size
        clear p0 p1 p2 o0 o1 o2
        go_wp2_with fail
        refine (known3_any _).mono ?_
        rintro e V5 ⟨rfl, hb5⟩
        go_wp2_with fail
        go_ret
        exact ⟨rfl, ((hBU.trans (hb2.mono (by omega))).trans (hb4.mono (by omega))).trans (hb5.mono (by omega))⟩

namespace ratQuotients
theorem contract (H : Type) (enc : TypeId × Value → H) (W : World) (base : Nat) (args : Array Value) (ds gs : List (DataW H)) (before : List MemPlace)
    (hval : ∀ (j : Nat) t v, Try.f7.params[j]? = some t → args[j]? = some v → Value.okWide Try.prog W .any base t v)
    (hW : DataW.Whole enc Try.prog Try.f7.params.toList Rows.ratQuotientsSpec.vars false W args.toList ds gs before) (hk : Rows.uptoSmall H (ds ++ gs) = true) :
    Calls Try.prog 7 args W fun e W' => ∃ v, e = .returned v ∧ Rows.ratQuotientsSpec.post enc Try.prog Try.f7 false true false false W args v W' := by
  have hW' := hW
  have hlt := fun p hp => hW'.lt p hp
  obtain ⟨p, q, hA0, hV, rfl, hfz, hnd⟩ := hW
  have hA : DataW.TrodAll enc Try.prog W 0 (fun _ => true) true Try.f7.params.toList args.toList ds p := hA0
  rw [Try.params7] at hA hval
  obtain ⟨v0, vs0, d0, ds0, p0, q0, ha0, rfl, rfl, h0, r0⟩ := trodAll_cons hA
  obtain ⟨v1, vs1, d1, ds1, p1, q1, ha1, rfl, rfl, h1, r1⟩ := trodAll_cons r0
  obtain ⟨rfl, rfl, rfl⟩ := trodAll_nil r1
  subst ha1
  obtain rfl : args = #[v0, v1] := by cases args; simp_all
  obtain ⟨rfl, rfl⟩ := trodVars_none hV
  clear hA hA0 hV
  simp only [List.append_nil] at hW' hk hlt
  obtain ⟨k0, k1⟩ := small2 hk
  obtain ⟨neg0, xs0, ys0, a0, b0, ca0, cb0, rfl, A0, B0, lx0, ly0, nx0, ny0⟩ := open_rat (hval 0 25 v0 rfl rfl) h0 k0
  obtain ⟨neg1, xs1, ys1, a1, b1, ca1, cb1, rfl, A1, B1, lx1, ly1, nx1, ny1⟩ := open_rat (hval 1 25 v1 rfl rfl) h1 k1
  refine (ratQuotients_walk neg0 xs0 ys0 a0 b0 ca0 cb0 neg1 xs1 ys1 a1 b1 ca1 cb1 W A0 B0 lx0 ly0 nx0 ny0 A1 B1 lx1 ly1 nx1 ny1).mono fun e W' ⟨he, hb⟩ => ?_
  subst he
  have t0 := Below.trod laid (by kernel_rfl) (of_decide_eq_true (by kernel_rfl)) h0 hb (fun x hx => hlt x (by simp [hx]))
  have t1 := Below.trod laid (by kernel_rfl) (of_decide_eq_true (by kernel_rfl)) h1 hb (fun x hx => hlt x (by simp [hx]))
  exact ⟨_, rfl, [d0, d1], [], (p0 ++ p1), [], (p0 ++ (p1 ++ [])), [], hW', trodAll_cons_mk (shut_bool Try.underlying4 _) trodAll_mk0,
    (trodAll_cons_mk t0 (trodAll_cons_mk t1 trodAll_mk0)), rfl, hb.frame _, fun h => by cases h⟩

set_option maxRecDepth 100000 in
theorem lifted (os : Os) (started : os.Started) (H : Type) (enc : TypeId × Value → H) (F : Stop.Interp) :
    ReturnsInHanded {} Try.checked os 7 .any ((Rows.OpenSpec.upto Rows.ratQuotientsSpec).pre6 enc Try.prog Try.f7 Rows.ratQuotientsUptoRow.domain false) (((Rows.OpenSpec.upto Rows.ratQuotientsSpec).at F).post enc Try.prog Try.f7 false true false false) := by
  refine returnsInHanded_of_cond (C := Try.checked) (s := Rows.OpenSpec.upto Rows.ratQuotientsSpec) (k := Rows.uptoSmall) rfl own started (by kernel_rfl) Try.func7
    (OpenSpec.witness (enc := enc) (C := Try.checked) (s := Rows.OpenSpec.upto Rows.ratQuotientsSpec) (k := Rows.uptoSmall) rfl false ⟨#[], #[.agg #[.bool false, .slice none 0 0, .slice none 0 0], .agg #[.bool false, .slice none 0 0, .slice none 0 0]], []⟩ 8 (by kernel_rfl) (by kernel_rfl) (by kernel_rfl)
      (x := ([.agg [.lit (.bool false), .nil, .nil], .agg [.lit (.bool false), .nil, .nil]], [], [])) (by kernel_rfl) rfl (by kernel_rfl)) ?_
  intro W base args ds gs before hval hW _ hk _
  exact contract H enc W base args ds gs before hval hW hk

theorem proved : Rows.RatQuotientsUptoSaid :=
  OpenClaim.holds_of_cond 7 Try.f7 rfl rfl rfl rfl rfl rfl rfl ⟨rfl, rfl, rfl, rfl, rfl⟩ rfl rfl rfl rfl rfl (by kernel_rfl) Try.func7 (by kernel_rfl)
    (of_decide_eq_true (by kernel_rfl)) (by unfold Func.isWrapper; first | (rw [if_pos (by decide +kernel)]; kernel_rfl) | (rw [if_neg (by decide +kernel)]; exact ⟨rfl, rfl⟩))
    (fun os started H enc _ F => lifted os started H enc F)
end ratQuotients
end Go.Proofs.Ytofiebilokhccaa
