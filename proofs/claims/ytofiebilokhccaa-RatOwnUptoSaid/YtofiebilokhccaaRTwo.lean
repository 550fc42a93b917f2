/-
  Contracts of package rat: Div, Same, Bits, May.
-/
import Derived.Test.YtofiebilokhccaaRMul
import Derived.Test.YtofiebilokhccaaROne
import Derived.Test.YtofiebilokhccaaRCmp
import Derived.Test.YtofiebilokhccaaRRefF
namespace Go.Proofs.Ytofiebilokhccaa
open Go.RowKit
set_option linter.unusedVariables false
set_option linter.unusedSimpArgs false

set_option maxRecDepth 100000 in
set_option maxHeartbeats 4000000 in
theorem divQ_zero {n : Nat} {w : World} {u v : Value} {X Y : Rat} (hu : ArgQ w u X n) (hv : ArgQ w v Y n) (hY : Y = 0) (hn : n ≤ 16777000) :
    Calls Try.prog 35 #[u, v] w fun e w' => e = .returned (.tuple #[.agg #[.bool false, .slice none 0 0, .slice none 0 0], .int .i64 17]) ∧ Below w.heap.size w w' := by
  obtain ⟨m1, xs, ds, a1, a2, c1, c2, rfl⟩ := hu.box
  obtain ⟨m2, zs, es, a3, a4, c3, c4, rfl⟩ := hv.box
  obtain ⟨W, hW⟩ : ∃ W, (((w.alloc (.cells #[.bool m1, .slice a1 xs.length c1, .slice a2 ds.length c2] 25)).alloc (.cells #[.bool m2, .slice a3 zs.length c3, .slice a4 es.length c4] 25)).alloc (.cells #[.bool false, .slice none 0 0, .slice none 0 0] 25)) = W := ⟨_, rfl⟩
  have R0 : Row W (w.heap.size) 25 #[.bool m1, .slice a1 xs.length c1, .slice a2 ds.length c2] := by rw [← hW]; exact (((Row.new _ _ _).alloc _).alloc _)
  have R1 : Row W (w.heap.size + 1) 25 #[.bool m2, .slice a3 zs.length c3, .slice a4 es.length c4] := by rw [← hW]; have h := (Row.new (w.alloc (.cells #[.bool m1, .slice a1 xs.length c1, .slice a2 ds.length c2] 25)) 25 #[.bool m2, .slice a3 zs.length c3, .slice a4 es.length c4]); simp only [World.size_alloc] at h; exact (h.alloc _)
  have R2 : Row W (w.heap.size + 1 + 1) 25 #[.bool false, .slice none 0 0, .slice none 0 0] := by rw [← hW]; have h := (Row.new ((w.alloc (.cells #[.bool m1, .slice a1 xs.length c1, .slice a2 ds.length c2] 25)).alloc (.cells #[.bool m2, .slice a3 zs.length c3, .slice a4 es.length c4] 25)) 25 #[.bool false, .slice none 0 0, .slice none 0 0]); simp only [World.size_alloc] at h; exact h
  have hBW : Below w.heap.size w W := by rw [← hW]; exact ((((Below.refl _ _).alloc (by (try simp) <;> omega) _).alloc (by (try simp) <;> omega) _).alloc (by (try simp) <;> omega) _)
  have hsW : w.heap.size + 1 + 1 + 1 ≤ W.heap.size := by rw [← hW]; simp
  have hsg := signQ_any (hv.later hBW) hn
  rw [(sgR_zero Y).2 hY] at hsg
  clear hY
  have h00 : ((0 : Int) == 0) = true := by decide
  obtain ⟨p0, p1, p2, _, _, _⟩ := R0.three
  obtain ⟨o0, o1, o2, _, _, _⟩ := R1.three
  go_enter Try.func35, Try.ntmps35
  go_wp2_with fail
  refine hsg.mono ?_
  rintro e w1 ⟨rfl, hb1⟩
  have P1 := R2.later hb1
  clear hsg hW p0 p1 p2 o0 o1 o2
  obtain ⟨u0, u1, u2, g0, g1, g2⟩ := P1.three
  go_wp2_with fail
  refine bodyPost_ret (v := .tuple #[.agg #[.bool false, .slice none 0 0, .slice none 0 0], .int .i64 17]) (by simp [results, Try.results35, go_sem, u0, u1, u2]) rfl ⟨rfl, ?_⟩
  first | exact below_set3 (hBW.trans (hb1.mono (by omega))) (by omega) _ _ _ | exact (hBW.trans (hb1.mono (by omega)))

set_option maxRecDepth 100000 in
set_option maxHeartbeats 4000000 in
theorem divQ_any {n : Nat} {w : World} {u v : Value} {X Y : Rat} (hu : ArgQ w u X n) (hv : ArgQ w v Y n) (hY : Y ≠ 0) (hn : n ≤ 16777000) :
    Calls Try.prog 35 #[u, v] w fun e w' => ∃ r, e = .returned (.tuple #[r, .int .i64 0]) ∧ ResQ w.heap.size w' r (X / Y) (2 * n + 4) ∧ Below w.heap.size w w' := by
  obtain ⟨m1, xs, ds, a1, a2, c1, c2, rfl⟩ := hu.box
  have hv0 := hv
  obtain ⟨m2, zs, es, a3, a4, c3, c4, rfl, C, D, hYe, hz, he⟩ := hv
  have hI : ratOf m2 (val es) (val zs) = Y⁻¹ := by rw [rat_over _ _ _ (val_nonneg C.wf) (val_nonneg D.wf), hYe]
  obtain ⟨W, hW⟩ : ∃ W, (((w.alloc (.cells #[.bool m1, .slice a1 xs.length c1, .slice a2 ds.length c2] 25)).alloc (.cells #[.bool m2, .slice a3 zs.length c3, .slice a4 es.length c4] 25)).alloc (.cells #[.bool false, .slice none 0 0, .slice none 0 0] 25)) = W := ⟨_, rfl⟩
  have R0 : Row W (w.heap.size) 25 #[.bool m1, .slice a1 xs.length c1, .slice a2 ds.length c2] := by rw [← hW]; exact (((Row.new _ _ _).alloc _).alloc _)
  have R1 : Row W (w.heap.size + 1) 25 #[.bool m2, .slice a3 zs.length c3, .slice a4 es.length c4] := by rw [← hW]; have h := (Row.new (w.alloc (.cells #[.bool m1, .slice a1 xs.length c1, .slice a2 ds.length c2] 25)) 25 #[.bool m2, .slice a3 zs.length c3, .slice a4 es.length c4]); simp only [World.size_alloc] at h; exact (h.alloc _)
  have R2 : Row W (w.heap.size + 1 + 1) 25 #[.bool false, .slice none 0 0, .slice none 0 0] := by rw [← hW]; have h := (Row.new ((w.alloc (.cells #[.bool m1, .slice a1 xs.length c1, .slice a2 ds.length c2] 25)).alloc (.cells #[.bool m2, .slice a3 zs.length c3, .slice a4 es.length c4] 25)) 25 #[.bool false, .slice none 0 0, .slice none 0 0]); simp only [World.size_alloc] at h; exact h
  have hBW : Below w.heap.size w W := by rw [← hW]; exact ((((Below.refl _ _).alloc (by (try simp) <;> omega) _).alloc (by (try simp) <;> omega) _).alloc (by (try simp) <;> omega) _)
  have hsW : w.heap.size + 1 + 1 + 1 ≤ W.heap.size := by rw [← hW]; simp
  have hq : ArgQ W (.agg #[.bool m2, .slice a4 es.length c4, .slice a3 zs.length c3]) Y⁻¹ n := ⟨m2, es, zs, a4, a3, c4, c3, rfl, D.later hBW, C.later hBW, hI, he, hz⟩
  have hsg := signQ_any (hv0.later hBW) hn
  have h00 : (sgR Y == 0) = false := by simp; exact fun h => hY ((sgR_zero Y).1 h)
  obtain ⟨s, hs⟩ : ∃ s, sgR Y = s := ⟨_, rfl⟩
  rw [hs] at hsg h00
  have hu' := hu.later hBW
  clear hY hs hI hYe
  obtain ⟨p0, p1, p2, _, _, _⟩ := R0.three
  obtain ⟨o0, o1, o2, _, _, _⟩ := R1.three
  go_enter Try.func35, Try.ntmps35
  go_wp2_with fail
  refine hsg.mono ?_
  rintro e w1 ⟨rfl, hb1⟩
  have hs1 := hb1.size
  clear hsg hW p0 p1 p2 o0 o1 o2
  obtain ⟨p0, p1, p2, _, _, _⟩ := (R0.later hb1).three
  obtain ⟨o0, o1, o2, _, _, _⟩ := (R1.later hb1).three
  go_wp2_with fail
  refine (mulQ_any (hu'.later hb1) (hq.later hb1) hn).mono ?_
  rintro e w2 ⟨r2, rfl, q2, hb2⟩
  have hs2 := hb2.size
  rw [← Rat.div_def] at q2
  obtain ⟨m4, fs, gs, f1, f2, j1, j2, rfl⟩ := q2.arg.box
  have P2 := (R2.later hb1).later hb2
  clear p0 p1 p2 o0 o1 o2
  obtain ⟨u0, u1, u2, g0, g1, g2⟩ := P2.three
  go_wp2_with fail
  refine bodyPost_ret (v := .tuple #[.agg #[.bool m4, .slice f1 fs.length j1, .slice f2 gs.length j2], .int .i64 0]) (by simp [results, Try.results35, go_sem, u0, u1, u2]) rfl ⟨_, rfl, ?_, below_set3 ((hBW.trans (hb1.mono (by omega))).trans (hb2.mono (by omega))) (by omega) _ _ _⟩
  exact (q2.far P2 (by decide) (kept3 _ _ _)).mono (by omega)

set_option maxRecDepth 100000 in
set_option maxHeartbeats 4000000 in
theorem sameQ_any {n : Nat} {w : World} {u v : Value} {X Y : Rat} (hu : ArgQ w u X n) (hv : ArgQ w v Y n) (hn : n ≤ 16777000) :
    Calls Try.prog 39 #[u, v] w fun e w' => e = .returned (.bool (sgR (X - Y) == 0)) ∧ Below w.heap.size w w' := by
  obtain ⟨m1, xs, ds, a1, a2, c1, c2, rfl⟩ := hu.box
  obtain ⟨m2, zs, es, a3, a4, c3, c4, rfl⟩ := hv.box
  obtain ⟨W, hW⟩ : ∃ W, ((w.alloc (.cells #[.bool m1, .slice a1 xs.length c1, .slice a2 ds.length c2] 25)).alloc (.cells #[.bool m2, .slice a3 zs.length c3, .slice a4 es.length c4] 25)) = W := ⟨_, rfl⟩
  have R0 : Row W (w.heap.size) 25 #[.bool m1, .slice a1 xs.length c1, .slice a2 ds.length c2] := by rw [← hW]; exact ((Row.new _ _ _).alloc _)
  have R1 : Row W (w.heap.size + 1) 25 #[.bool m2, .slice a3 zs.length c3, .slice a4 es.length c4] := by rw [← hW]; have h := (Row.new (w.alloc (.cells #[.bool m1, .slice a1 xs.length c1, .slice a2 ds.length c2] 25)) 25 #[.bool m2, .slice a3 zs.length c3, .slice a4 es.length c4]); simp only [World.size_alloc] at h; exact h
  have hBW : Below w.heap.size w W := by rw [← hW]; exact (((Below.refl _ _).alloc (by (try simp) <;> omega) _).alloc (by (try simp) <;> omega) _)
  have hsW : w.heap.size + 1 + 1 ≤ W.heap.size := by rw [← hW]; simp
  have hc := cmpQ_any (hu.later hBW) (hv.later hBW) hn
  obtain ⟨s, hs⟩ : ∃ s, sgR (X - Y) = s := ⟨_, rfl⟩
  rw [hs] at hc ⊢
  clear hs
  obtain ⟨p0, p1, p2, _, _, _⟩ := R0.three
  obtain ⟨o0, o1, o2, _, _, _⟩ := R1.three
  go_enter Try.func39, Try.ntmps39
  go_wp2_with fail
  refine hc.mono ?_
  rintro e w1 ⟨rfl, hb1⟩
  clear hc hW p0 p1 p2 o0 o1 o2
  go_wp2_with fail
  go_ret
  exact ⟨rfl, hBW.trans (hb1.mono (by omega))⟩

set_option maxRecDepth 100000 in
set_option maxHeartbeats 4000000 in
theorem bitsQ_any {n k1 k2 : Nat} {w : World} {u : Value} {X : Rat} (hu : ArgQ w u X n) (hn : n ≤ 16777000) (h1 : IsBits (X.num.natAbs : Int) k1) (h2 : IsBits (X.den : Int) k2) :
    Calls Try.prog 42 #[u] w fun e w' => e = .returned (.int .i64 (max (k1 : Int) (k2 : Int))) ∧ Below w.heap.size w w' := by
  obtain ⟨m1, xs, ds, a1, a2, c1, c2, rfl⟩ := hu.box
  obtain ⟨W, hW⟩ : ∃ W, (w.alloc (.cells #[.bool m1, .slice a1 xs.length c1, .slice a2 ds.length c2] 25)) = W := ⟨_, rfl⟩
  have R0 : Row W (w.heap.size) 25 #[.bool m1, .slice a1 xs.length c1, .slice a2 ds.length c2] := by rw [← hW]; exact (Row.new _ _ _)
  have hBW : Below w.heap.size w W := by rw [← hW]; exact ((Below.refl _ _).alloc (by (try simp) <;> omega) _)
  have hsW : w.heap.size + 1 ≤ W.heap.size := by rw [← hW]; simp
  have hu' := hu.later hBW
  obtain ⟨p0, p1, p2, p3, p4, p5⟩ := R0.three
  go_enter Try.func42, Try.ntmps42
  go_wp2_with fail
  refine (norm_any hu' (by omega)).mono ?_
  rintro e w1 ⟨r1, rfl, q1, hb1⟩
  have hs1 := hb1.size
  obtain ⟨fs, gs, f1, f2, j1, j2, rfl, A, B, lf, lg⟩ := q1
  obtain ⟨m4, hm4⟩ : ∃ m, decide (X.num < 0) = m := ⟨_, rfl⟩
  rw [hm4]
  rw [← A.eq] at h1
  rw [← B.eq] at h2
  have A1 := A.at_.2
  have B1 := B.at_.2
  have P0 := R0.later hb1
  clear p0 p1 p2 p3 p4 p5 hW hm4 A B hu hu'
  obtain ⟨p0, p1, p2, p3, p4, p5⟩ := P0.three
  obtain ⟨V, hV⟩ : ∃ V, ((w1.setCell ⟨w.heap.size, 0, none⟩ (.bool m4)).setCell ⟨w.heap.size, 1, none⟩ (.slice f1 fs.length j1)).setCell ⟨w.heap.size, 2, none⟩ (.slice f2 gs.length j2) = V := ⟨_, rfl⟩
  have Q0 : Row V (w.heap.size) 25 #[.bool m4, .slice f1 fs.length j1, .slice f2 gs.length j2] := by rw [← hV]; exact P0.set3 _ _ _
  have hBV : Below w.heap.size w V := by rw [← hV]; exact below_set3 (hBW.trans (hb1.mono (by omega))) (by omega) _ _ _
  have hsV : w1.heap.size ≤ V.heap.size := by rw [← hV]; simp
  have AV : Arg V (.slice f1 fs.length j1) fs f1 j1 := by rw [← hV]; exact A1.far P0 (noInts3 _ _ _ _ _ _ _) (kept3 _ _ _)
  have BV : Arg V (.slice f2 gs.length j2) gs f2 j2 := by rw [← hV]; exact B1.far P0 (noInts3 _ _ _ _ _ _ _) (kept3 _ _ _)
  have mkS : ∀ X, Kept (w.heap.size + 1 + 1 + 1) V X → X.cell? ⟨w.heap.size, 0, none⟩ = some (.bool m4) ∧ X.cell? ⟨w.heap.size, 1, none⟩ = some (.slice f1 fs.length j1) ∧ X.cell? ⟨w.heap.size, 2, none⟩ = some (.slice f2 gs.length j2) ∧ Kept (w.heap.size + 1 + 1 + 1) V X := fun X h => ⟨(Q0.kept h (by omega)).cell 0, (Q0.kept h (by omega)).cell 1, (Q0.kept h (by omega)).cell 2, h⟩
  go_wp2_with fail
  (try rw [hV])
  clear hV p0 p1 p2 p3 p4 p5
  go_region_held3 (fun X => X.cell? ⟨w.heap.size, 0, none⟩ = some (.bool m4) ∧ X.cell? ⟨w.heap.size, 1, none⟩ = some (.slice f1 fs.length j1) ∧ X.cell? ⟨w.heap.size, 2, none⟩ = some (.slice f2 gs.length j2) ∧ Kept (w.heap.size + 1 + 1 + 1) V X)
    (((refine mkS _ ?_; (repeat' (first | exact Kept.refl _ _ | refine Kept.drew ?_ | refine Kept.alloc ?_ _ | refine Kept.set ?_ _ _ | refine Kept.below ?_ (by assumption))))))
    ((first
      | (go_at_call 55; (with_reducible refine (bits_res (BV.later (show Below V.heap.size V _ by (repeat' (first | exact Below.refl _ _ | refine Below.drew ?_ | refine Below.alloc ?_ (by (try simp) <;> omega) _ | refine below_set3 ?_ (by (try simp) <;> omega) _ _ _ | refine below_set2 ?_ (by (try simp) <;> omega) _ _ | refine Below.setCell ?_ (by (try simp) <;> omega) _ | refine Below.trans ?_ (Below.mono (by assumption) (by (try simp) <;> omega)))))) (by omega) h2).mono ?_); rintro e w' ⟨rfl, rfl⟩)
      | (go_at_call 55; (with_reducible refine (bits_res (AV.later (show Below V.heap.size V _ by (repeat' (first | exact Below.refl _ _ | refine Below.drew ?_ | refine Below.alloc ?_ (by (try simp) <;> omega) _ | refine below_set3 ?_ (by (try simp) <;> omega) _ _ _ | refine below_set2 ?_ (by (try simp) <;> omega) _ _ | refine Below.setCell ?_ (by (try simp) <;> omega) _ | refine Below.trans ?_ (Below.mono (by assumption) (by (try simp) <;> omega)))))) (by omega) h1).mono ?_); rintro e w' ⟨rfl, rfl⟩)))
  go_wp2_with fail
  go_ret
  exact ⟨rfl, by first | exact hBV | exact hBV.drew⟩

set_option maxRecDepth 100000 in
set_option maxHeartbeats 4000000 in
theorem eqS_any {w : World} {xs ys : List Int} {a b : Option Addr} {c d : Nat} (A : Arg w (.slice a xs.length c) xs a c) (B : Arg w (.slice b ys.length d) ys b d) (hx : xs.length ≤ 70368744177664) (hy : ys.length ≤ 70368744177664) :
    Calls Try.prog 52 #[.slice a xs.length c, .slice b ys.length d] w fun e w' => e = .returned (.bool (decide (xs = ys))) ∧ Below w.heap.size w w' := by
  by_cases hl : xs.length = ys.length
  case neg =>
    have hne : decide (xs = ys) = false := decide_eq_false (fun h => hl (by rw [h]))
    have hn1 : ((xs.length : Int) != (ys.length : Int)) = true := by simp; omega
    rw [hne]
    clear hl hne
    go_enter Try.func52, Try.ntmps52
    go_wp2_with fail
    go_ret
    exact ⟨rfl, Below.refl _ _⟩
  obtain ⟨m, hm⟩ : ∃ m, xs.length = m := ⟨_, rfl⟩
  have hm2 : ys.length = m := by omega
  have la := A.lim
  have lb := B.lim
  have hext : (∀ j, j < m → xs.getD j 0 = ys.getD j 0) → xs = ys := by
    intro h
    apply List.ext_getElem (by omega)
    intro i h1 h2
    have := h i (by omega)
    simpa [h1, h2] using this
  have HX := Lib.hid hext
  have hmm : ((m : Int) != (m : Int)) = false := by simp
  have HL1 := Lib.hid hm
  have HL2 := Lib.hid hm2
  rw [hm] at hx ⊢
  rw [hm2]
  clear hl hm hm2 hext A B hy
  go_enter Try.func52, Try.ntmps52
  go_wp2_with fail
  go_loopw [5, 13] (fun _ i wr => ∃ k : Nat, i = .int .i64 k ∧ k ≤ m ∧ (∀ j, j < k → xs.getD j 0 = ys.getD j 0) ∧ Below w.heap.size w wr) (fun _ i _ => m - (intOf i).toNat)
  case atStart => exact ⟨0, rfl, Nat.zero_le _, fun j hj => by omega, Below.refl _ _⟩
  case round =>
    obtain ⟨k, rfl, hk, hall, hb⟩ := hrel
    have HA := Lib.hid hall
    clear hall
    by_cases hlt : k < m
    · have HK := Lib.hid hlt
      obtain ⟨p, o, rfl, c1⟩ : ∃ p o, a = some ⟨p, o, none⟩ ∧ wr.cell? ⟨p, o + k, none⟩ = some (.int .u32 (xs.getD k 0)) := by
        rcases la.later hb with e | ⟨p, o, e, hc⟩
        · rw [e] at HL1; have := HL1.out; simp at this; omega
        · exact ⟨p, o, e, hc k (by rw [HL1.out]; exact hlt)⟩
      obtain ⟨p2, o2, rfl, c2⟩ : ∃ p o, b = some ⟨p, o, none⟩ ∧ wr.cell? ⟨p, o + k, none⟩ = some (.int .u32 (ys.getD k 0)) := by
        rcases lb.later hb with e | ⟨p, o, e, hc⟩
        · rw [e] at HL2; have := HL2.out; simp at this; omega
        · exact ⟨p, o, e, hc k (by rw [HL2.out]; exact hlt)⟩
      obtain ⟨x, hxk⟩ : ∃ x, xs.getD k 0 = x := ⟨_, rfl⟩
      obtain ⟨y, hyk⟩ : ∃ y, ys.getD k 0 = y := ⟨_, rfl⟩
      rw [hxk] at c1
      rw [hyk] at c2
      have HXK := Lib.hid hxk
      have HYK := Lib.hid hyk
      have hk0 : (0 : Int) ≤ (k : Int) := Int.natCast_nonneg _
      have hk1 : (k : Int) < (m : Int) := by omega
      clear hxk hyk la lb
      by_cases e : x = y
      · have hne : (x != y) = false := by simp [e]
        have fin : ∃ j : Nat, Value.int .i64 ((k : Int) + 1) = .int .i64 j ∧ j ≤ m ∧ (∀ i, i < j → xs.getD i 0 = ys.getD i 0) :=
          ⟨k + 1, by go_num, HK.out, fun i hi => by
            by_cases h : i = k
            · subst h; rw [HXK.out, HYK.out]; exact e
            · exact HA.out i (by omega)⟩
        have FIN := Lib.hid fin
        clear fin e
        go_wp2_with fail
        go_quiet (fail)
        go_wp2_with fail
        go_roundw
        case rel =>
          obtain ⟨j, h1, h2, h3⟩ := FIN.out
          exact ⟨j, h1, h2, h3, ⟨hb.os, hb.tape, hb.output, hb.size, hb.block⟩⟩
        case measure => have := HK.out; simp [intOf]; omega
      · have hne : (x != y) = true := by simp [e]
        have hd : decide (xs = ys) = false := decide_eq_false (fun h => e (by rw [← HXK.out, ← HYK.out, h]))
        have HD := Lib.hid hd
        clear e hd
        go_wp2_with fail
        go_quiet (fail)
        go_wp2_with fail
        go_ret
        exact ⟨by rw [HD.out]; rfl, ⟨hb.os, hb.tape, hb.output, hb.size, hb.block⟩⟩
    · obtain rfl : k = m := by omega
      have hd : decide (xs = ys) = true := decide_eq_true (HX.out HA.out)
      have HD := Lib.hid hd
      clear hd
      go_wp2_with fail
      go_ret
      exact ⟨by rw [HD.out]; rfl, hb⟩

/-- May's answer: is it valid? -/
def mayCode (b : Bool) : Int := if b = true then 0 else 6
theorem eq_isB {base : Nat} {w : World} {u : Value} {xs zs : List Int} {N : Int} (hx : Wf xs) (h : Res base w u zs N) : decide (xs = zs) = isB xs N := by
  unfold isB
  by_cases e : xs = zs
  · rw [decide_eq_true e, e]
    exact (decide_eq_true ⟨h.full, h.eq⟩).symm
  · rw [decide_eq_false e]
    exact (decide_eq_false (fun k => e (canon hx h.wf k.1 h.full (k.2.trans h.eq.symm)))).symm

set_option maxRecDepth 100000 in
set_option maxHeartbeats 4000000 in
theorem mayQ_any {n : Nat} {w : World} {m1 : Bool} {xs ds : List Int} {a1 a2 : Option Addr} {c1 c2 : Nat} (A : Arg w (.slice a1 xs.length c1) xs a1 c1) (B : Arg w (.slice a2 ds.length c2) ds a2 c2)
    (hx : xs.length ≤ n) (hd : ds.length ≤ n) (hn : n ≤ 16777000) :
    Calls Try.prog 14 #[.agg #[.bool m1, .slice a1 xs.length c1, .slice a2 ds.length c2]] w fun e w' => e = .returned (.int .i64 (mayCode (validB m1 xs ds (ratOf m1 (val xs) (val ds))))) ∧ Below w.heap.size w w' := by
  obtain ⟨X, hX⟩ : ∃ X, ratOf m1 (val xs) (val ds) = X := ⟨_, rfl⟩
  have hq : ArgQ w (.agg #[.bool m1, .slice a1 xs.length c1, .slice a2 ds.length c2]) X n := ⟨m1, xs, ds, a1, a2, c1, c2, rfl, A, B, hX, hx, hd⟩
  rw [hX]
  clear hX
  obtain ⟨vb, hvb⟩ : ∃ b, validB m1 xs ds X = b := ⟨_, rfl⟩
  rw [hvb]
  have HVB := Lib.hid hvb
  clear hvb
  obtain ⟨W, hW⟩ : ∃ W, (w.alloc (.cells #[.bool m1, .slice a1 xs.length c1, .slice a2 ds.length c2] 25)) = W := ⟨_, rfl⟩
  have R0 : Row W (w.heap.size) 25 #[.bool m1, .slice a1 xs.length c1, .slice a2 ds.length c2] := by rw [← hW]; exact (Row.new _ _ _)
  have hBW : Below w.heap.size w W := by rw [← hW]; exact ((Below.refl _ _).alloc (by (try simp) <;> omega) _)
  have hsW : w.heap.size + 1 ≤ W.heap.size := by rw [← hW]; simp
  obtain ⟨p0, p1, p2, _, _, _⟩ := R0.three
  have hq' := hq.later hBW
  have AW := A.later hBW
  have BW := B.later hBW
  go_enter Try.func14, Try.ntmps14
  go_wp2_with fail
  refine (norm_any hq' (by omega)).mono ?_
  rintro e w1 ⟨r1, rfl, h1, hb1⟩
  have hs1 := hb1.size
  obtain ⟨fs, gs, f1, f2, j1, j2, rfl, Rf, Rg, lf, lg⟩ := h1
  obtain ⟨m4, hm4⟩ : ∃ m, decide (X.num < 0) = m := ⟨_, rfl⟩
  have hv : vb = ((m1 == m4) && (decide (xs = fs) && decide (ds = gs))) := by rw [← HVB.out, eq_isB A.wf Rf, eq_isB B.wf Rg]; unfold validB; rw [hm4]
  rw [hm4]
  have HV0 := Lib.hid hv
  have Cf := Rf.at_.2
  have Cg := Rg.at_.2
  clear p0 p1 p2 hW hq hq' hv hm4 Rf Rg A B
  have Q0 := R0.later hb1
  obtain ⟨U, hU⟩ : ∃ U, w1.alloc (.cells #[.bool m4, .slice f1 fs.length j1, .slice f2 gs.length j2] 25) = U := ⟨_, rfl⟩
  have hBU : Below w1.heap.size w1 U := by rw [← hU]; exact (Below.refl _ _).alloc (Nat.le_refl _) _
  have R5 : Row U w1.heap.size 25 #[.bool m4, .slice f1 fs.length j1, .slice f2 gs.length j2] := by rw [← hU]; exact Row.new _ _ _
  have hsU : w1.heap.size + 1 ≤ U.heap.size := by rw [← hU]; simp
  have AU := (AW.later hb1).later hBU
  have BU := (BW.later hb1).later hBU
  have CfU := Cf.later hBU
  have CgU := Cg.later hBU
  have k1 := eqS_any AU CfU (by omega) (by omega)
  obtain ⟨b1, hb1'⟩ : ∃ b, decide (xs = fs) = b := ⟨_, rfl⟩
  obtain ⟨b2, hb2'⟩ : ∃ b, decide (ds = gs) = b := ⟨_, rfl⟩
  rw [hb1'] at k1
  have hv1 := HV0.out
  rw [hb1', hb2'] at hv1
  have HB2 := Lib.hid hb2'
  clear hb1' hb2' HV0
  obtain ⟨p0, p1, p2, _, _, _⟩ := Q0.three
  obtain ⟨q0, q1, q2, _, _, _⟩ := (Q0.later hBU).three
  obtain ⟨o0, o1, o2, _, _, _⟩ := R5.three
  have hB2 : Below w.heap.size w U := (hBW.trans (hb1.mono (by omega))).trans (hBU.mono (by omega))
  obtain ⟨b0, hb0⟩ : ∃ b, (m1 == m4) = b := ⟨_, rfl⟩
  rw [hb0] at hv1
  have hb1' : (m1 != m4) = !b0 := by rw [← hb0]; cases m1 <;> cases m4 <;> rfl
  have HV := Lib.hid hv1
  clear hv1
  cases b0 with
  | false =>
    have e0 : (m1 != m4) = true := hb1'
    clear hb1'
    go_wp2_with fail
    go_ret
    exact ⟨by rw [HV.out]; rfl, by first | exact hB2 | (rw [hU]; exact hB2)⟩
  | true =>
    have e0 : (m1 != m4) = false := hb1'
    clear hb1'
    cases b1 with
    | false =>
      go_wp2_with fail
      (try rw [hU])
      refine k1.mono ?_
      rintro e w2 ⟨rfl, hb2⟩
      clear k1
      go_wp2_with fail
      go_ret
      exact ⟨by rw [HV.out]; rfl, hB2.trans (hb2.mono (by omega))⟩
    | true =>
      go_wp2_with fail
      (try rw [hU])
      refine k1.mono ?_
      rintro e w2 ⟨rfl, hb2⟩
      have hs2 := hb2.size
      have k2 := eqS_any (BU.later hb2) (CgU.later hb2) (by omega) (by omega)
      rw [HB2.out] at k2
      clear k1 p0 p1 p2 q0 q1 q2 o0 o1 o2 hU
      obtain ⟨q0, q1, q2, _, _, _⟩ := ((Q0.later hBU).later hb2).three
      obtain ⟨o0, o1, o2, _, _, _⟩ := (R5.later hb2).three
      go_wp2_with fail
      refine k2.mono ?_
      rintro e w3 ⟨rfl, hb3⟩
      clear k2
      cases b2 with
      | true =>
        go_wp2_with fail
        go_ret
        exact ⟨by rw [HV.out]; rfl, (hB2.trans (hb2.mono (by omega))).trans (hb3.mono (by omega))⟩
      | false =>
        go_wp2_with fail
        go_ret
        exact ⟨by rw [HV.out]; rfl, (hB2.trans (hb2.mono (by omega))).trans (hb3.mono (by omega))⟩
end Go.Proofs.Ytofiebilokhccaa
