/-
  Layer 9's law MoveSlices: for every tensor and every numbers the law holds (arguments that hold together at most 1048576 values). (Made by wip/gen/gen_mlaw.py.)
-/
import Derived.Test.YtooglnhlhgmhdaaGreatK32
import Derived.Test.YtooglnhlhgmhdaaGreatMRefS
namespace Go.Proofs.YtooglnhlhgmhdaaGreat
open Go.RowKit
set_option linter.unusedVariables false
set_option linter.unusedSimpArgs false

theorem moveSlices_code {s t : List Int} {qs : List Q3} (h : mayT s qs = 0) : slC (shV s qs) t = orL [mayT s qs, slC s t] := by
  rw [(elsV_ok h).1, orL2 h]
theorem moveSlices_good {s t : List Int} {qs : List Q3} (h : orL [mayT s qs, slC s t] = 0) : mayT s qs = 0 ∧ slC (shV s qs) t = 0 ∧ slS (shV s qs) t = slS s t ∧ slV (shV s qs) t (elsV s qs) = slV s t (qs.map Q3.rat) ∧ Ok9 (slS s t) (slV s t (qs.map Q3.rat)).length := by
  have h0 := (or0 h).1
  have h1 := or1 (or0 h).2
  have okS : OkS s := mayC_zero.1 (mayT_rank h0)
  refine ⟨h0, by rw [moveSlices_code h0]; exact h, by rw [(elsV_ok h0).1], by rw [(elsV_ok h0).1, (elsV_ok h0).2], ?_⟩
  exact ⟨slS_ok h1 okS, by unfold slV; rw [fillV_len]; have h3 := prodS_pos (slS_ok h1 okS).pos; omega⟩
set_option maxRecDepth 100000 in
set_option maxHeartbeats 8000000 in
theorem moveSlices_walk {v u : Value} {s t : List Int} {qs : List Q3} {a b ad : Option Addr} {ca cb cd : Nat} (W : World) (T : TensQ W v s qs a ca b cb) (D : ArgS W u t ad cd) (nd : ad = none → cd = 0) (ls : s.length ≤ 1048576) (lq : sizeQs qs ≤ 1048576) (lt : t.length ≤ 1048576) :
    Calls Tryz.prog 6 #[v, u] W fun e W' => e = .returned (.bool true) ∧ Below W.heap.size W W' := by
  obtain rfl := D.is
  have HT := Lib.hid T
  have HD := Lib.hid D
  have HND := Lib.hid nd
  have hlen := sizeQs_len qs
  have HL := Lib.hid (lensQ.of lq)
  have hq1 : qs.length ≤ 1048576 := by omega
  obtain rfl := T.is
  obtain ⟨V, hV⟩ : ∃ V, W.alloc (.cells #[.slice a s.length ca, .slice b qs.length cb] 26) = V := ⟨_, rfl⟩
  have R0 : Row V W.heap.size 26 #[.slice a s.length ca, .slice b qs.length cb] := by rw [← hV]; exact Row.new _ _ _
  have hBV : Below W.heap.size W V := by rw [← hV]; exact (Below.refl _ _).alloc (by simp) _
  have tX : ∀ X, Below V.heap.size V X → TensQ X (.agg #[.slice a s.length ca, .slice b qs.length cb]) s qs a ca b cb := fun X h => HT.out.later (hBV.trans (h.mono hBV.size))
  have dX : ∀ X, Below V.heap.size V X → ArgS X (.slice ad t.length cd) t ad cd := fun X h => HD.out.later (hBV.trans (h.mono hBV.size))
  have TX := Lib.hid tX
  have DX := Lib.hid dX
  have own1 := ownT_any (tX V (Below.refl _ _)) (by omega) (by omega) (fun q hq => ⟨Nat.le_trans (HL.out q hq).1 (by omega), Nat.le_trans (HL.out q hq).2 (by omega)⟩)
  obtain ⟨c0, c1, _, _⟩ := R0.two
  clear T D nd tX dX lq hlen
  go_enter Tryz.func6, Tryz.ntmps6
  go_wp2_with fail
  (try rw [hV])
  refine own1.mono ?_
  rintro e y1 ⟨p1, r1, cx1, cy1, rfl, S1, E1, B1⟩
  have T1 := Lib.hid (ownT_tens S1 E1)
  clear hV S1 E1 own1
  go_wp2_with fail
  refine (own9_any (DX.out y1 B1) HND.out (by omega)).mono ?_
  rintro e y2 ⟨r2, rfl, RS2, hy2⟩
  obtain ⟨a2, cc2, A2, n2⟩ := RS2.arg2
  obtain rfl := A2.is
  have B2 : Below V.heap.size V y2 := B1.trans (hy2.mono B1.size)
  have hcon := slice_any (n := 1048576) (T1.out.later hy2) A2 n2 (by omega) (by omega) (by omega) HL.out (by omega)
  obtain ⟨c, hc⟩ : ∃ c, orL [mayT s qs, slC s t] = c := ⟨_, rfl⟩
  rw [hc] at hcon
  have HC := Lib.hid hc
  clear hc RS2 A2
  go_wp2_with fail
  refine hcon.mono ?_
  rintro e y3 ⟨hO, hy3⟩
  obtain ⟨x0, x1, x2, x3, x4, x5, rfl, hA⟩ := hO.ans9
  have HA3 : Hid (AnsM y2.heap.size y3 (.agg #[.slice x0 x1 x2, .slice x3 x4 x5]) c (slS s t) (slV s t (qs.map Q3.rat)) (1048576 + 2)) := Lib.hid hA
  have B3 : Below V.heap.size V y3 := B2.trans (hy3.mono B2.size)
  obtain ⟨y4, h4⟩ : ∃ y, y3.alloc (.cells #[.slice x0 x1 x2, .slice x3 x4 x5] 26) = y := ⟨_, rfl⟩
  have R4 : Row y4 y3.heap.size 26 #[.slice x0 x1 x2, .slice x3 x4 x5] := by rw [← h4]; exact Row.new _ _ _
  have b4 : Below y3.heap.size y3 y4 := by rw [← h4]; exact (Below.refl _ _).alloc (Nat.le_refl _) _
  have HA4 := Lib.hid (HA3.out.later b4)
  have B4 : Below V.heap.size V y4 := B3.trans (b4.mono B3.size)
  have hlt3 : V.heap.size ≤ y3.heap.size := B3.size
  obtain ⟨k0, k1, _, _⟩ := (R0.later B4).two
  have hof := of9_any (n := 1048576) (TX.out y4 B4) (by omega) (by omega) HL.out (by omega)
  clear hO hA hcon c0 c1
  go_wp2_with fail
  (try rw [h4])
  refine hof.mono ?_
  rintro e y5 ⟨r5, rfl, TR5, hy5⟩
  have HR5 := Lib.hid TR5
  obtain ⟨ra, rca, rb, rcb, TT⟩ := TR5
  obtain rfl := TT.is
  have B5 : Below V.heap.size V y5 := B4.trans (hy5.mono B4.size)
  have href := sliceR_any HR5.out of_ok (DX.out y5 B5) HND.out (by omega) (by omega)
  obtain ⟨f, hf⟩ : ∃ f, slC (shV s qs) t = f := ⟨_, rfl⟩
  rw [hf] at href
  have HF := Lib.hid hf
  clear h4 hof TT hf
  go_wp2_with fail
  refine href.mono ?_
  rintro e y6 ⟨⟨r6, rfl, ⟨w0, w1, w2, w3, w4, w5, rfl⟩, ht6⟩, hy6⟩
  have B6 : Below V.heap.size V y6 := B5.trans (hy6.mono B5.size)
  obtain ⟨y7, h7⟩ : ∃ y, y6.alloc (.cells #[.slice w0 w1 w2, .slice w3 w4 w5] 34) = y := ⟨_, rfl⟩
  have R7 : Row y7 y6.heap.size 34 #[.slice w0 w1 w2, .slice w3 w4 w5] := by rw [← h7]; exact Row.new _ _ _
  have b7 : Below y6.heap.size y6 y7 := by rw [← h7]; exact (Below.refl _ _).alloc (Nat.le_refl _) _
  have B7 : Below V.heap.size V y7 := B6.trans (b7.mono B6.size)
  have b47 : Below y4.heap.size y4 y7 := (hy5.trans (hy6.mono hy5.size)).trans (b7.mono (hy5.trans (hy6.mono hy5.size)).size)
  have R47 := R4.later b47
  obtain ⟨m0, m1, _, _⟩ := R47.two
  obtain ⟨j0, j1, _, _⟩ := R7.two
  obtain ⟨k2, k3, _, _⟩ := (R0.later B7).two
  have his := is9b_any (n := 1048576) (m := 5 * 1048576 + 6) (N := 1048576 + 2) (c := c) (f := f) (TX.out y7 B7) (by omega) (by omega) HL.out (by omega) (HA4.out.later b47) ⟨w0, w1, w2, w3, w4, w5, rfl⟩
    (fun h => by rw [← HF.out, ← HC.out]; exact moveSlices_code h) (fun h => by rw [← HC.out]; exact orL_cons h) (fun h => by
      obtain ⟨h0, g1, g2, g3, g4⟩ := moveSlices_good (HC.out.trans h)
      have hf0 : f = 0 := by rw [← HF.out]; exact g1
      have := (ht6 hf0).later b7
      rw [g2, g3] at this
      exact ⟨this, g4⟩) (by omega) (by omega)
  clear k0 k1 ht6 href R4 R47
  go_wp2_with fail
  (try rw [h7])
  refine his.mono ?_
  rintro e y8 ⟨rfl, hy8⟩
  clear h7 m0 m1 j0 j1 k2 k3 his
  go_wp2_with fail
  refine (known9_any y8).mono ?_
  rintro e y9 ⟨rfl, hy9⟩
  go_wp2_with fail
  go_ret
  exact ⟨rfl, hBV.trans ((B7.trans ((hy8.trans (hy9.mono hy8.size)).mono B7.size)).mono hBV.size)⟩
end Go.Proofs.YtooglnhlhgmhdaaGreat
