/-
  Layer 7's laws: the helper mix: a tensor, and another one of its shape times a number.
-/
import Derived.Test.YtnhfjacifajdlaaGreatTDotFit
namespace Go.Proofs.YtnhfjacifajdlaaGreat
open Go.RowKit
set_option linter.unusedVariables false
set_option linter.unusedSimpArgs false

def mixL (L1 L2 : List Rat) (x : Rat) : List Rat := List.zipWith (fun a b => a + x * b) L1 L2
theorem mixL_len {L1 L2 : List Rat} {x : Rat} (h : L2.length = L1.length) : (mixL L1 L2 x).length = L1.length := by unfold mixL; rw [List.length_zipWith]; omega
theorem mixL_at {L1 L2 : List Rat} {x a b : Rat} {k : Nat} (h1 : L1[k]? = some a) (h2 : L2[k]? = some b) : (mixL L1 L2 x)[k]? = some (a + x * b) := by unfold mixL; rw [List.getElem?_zipWith, h1, h2]
set_option maxRecDepth 100000 in
set_option maxHeartbeats 8000000 in
theorem mixT_any {n B : Nat} {w : World} {u v y : Value} {s1 s2 : List Int} {q1 q2 : List Q3} {x : Q3} {a1 b1 a2 b2 : Option Addr} {ca1 cb1 ca2 cb2 : Nat} (T1 : TensQ w u s1 q1 a1 ca1 b1 cb1) (T2 : TensQ w v s2 q2 a2 ca2 b2 cb2) (hx : RawQ w y x) (hlen : q2.length = q1.length) (hq : q1.length ≤ 1048576)
    (hl1 : lensQ q1 n) (hl2 : lensQ q2 n) (hlx : x.num.length ≤ n ∧ x.den.length ≤ n) (hn : n ≤ 1048576) (hfit : ∀ (k : Nat) (p q : Q3), q1[k]? = some p → q2[k]? = some q → FitQ (p.rat + x.rat * q.rat) B) :
    Calls Tryz.prog 38 #[u, v, y] w fun e w' => ∃ (b' : Option Addr) (cb' : Nat), e = .returned (.agg #[.slice a1 s1.length ca1, .slice b' q1.length cb']) ∧
      RowO w.heap.size 44 (fun W v x => ResQ w.heap.size W v x (B / 32 + 1)) w' (.slice b' q1.length cb') (mixL (q1.map Q3.rat) (q2.map Q3.rat) x.rat) ∧ Below w.heap.size w w' := by
  obtain ⟨i0, hi, hz0, hz1, hz2⟩ := info_parts infoQ
  have HT1 := Lib.hid T1
  have HT2 := Lib.hid T2
  have HX := Lib.hid hx
  obtain rfl := T1.is
  obtain rfl := T2.is
  obtain ⟨e1, e2, k1, k2, hv, _⟩ := id hx
  subst hv
  obtain ⟨W, hW⟩ : ∃ W, ((((w.alloc (.cells #[.slice a1 s1.length ca1, .slice b1 q1.length cb1] 26)).alloc (.cells #[.slice a2 s2.length ca2, .slice b2 q2.length cb2] 26)).alloc (.cells #[.bool x.neg, .slice e1 x.num.length k1, .slice e2 x.den.length k2] 44)).alloc (.cells #[.slice none 0 0, .slice none 0 0] 26)) = W := ⟨_, rfl⟩
  have R0 : Row W (w.heap.size) 26 #[.slice a1 s1.length ca1, .slice b1 q1.length cb1] := by rw [← hW]; exact ((((Row.new _ _ _).alloc _).alloc _).alloc _)
  have R1 : Row W (w.heap.size + 1) 26 #[.slice a2 s2.length ca2, .slice b2 q2.length cb2] := by rw [← hW]; have h := (Row.new (w.alloc (.cells #[.slice a1 s1.length ca1, .slice b1 q1.length cb1] 26)) 26 #[.slice a2 s2.length ca2, .slice b2 q2.length cb2]); simp only [World.size_alloc] at h; exact ((h.alloc _).alloc _)
  have R2 : Row W (w.heap.size + 1 + 1) 44 #[.bool x.neg, .slice e1 x.num.length k1, .slice e2 x.den.length k2] := by rw [← hW]; have h := (Row.new ((w.alloc (.cells #[.slice a1 s1.length ca1, .slice b1 q1.length cb1] 26)).alloc (.cells #[.slice a2 s2.length ca2, .slice b2 q2.length cb2] 26)) 44 #[.bool x.neg, .slice e1 x.num.length k1, .slice e2 x.den.length k2]); simp only [World.size_alloc] at h; exact (h.alloc _)
  have R3 : Row W (w.heap.size + 1 + 1 + 1) 26 #[.slice none 0 0, .slice none 0 0] := by rw [← hW]; have h := (Row.new (((w.alloc (.cells #[.slice a1 s1.length ca1, .slice b1 q1.length cb1] 26)).alloc (.cells #[.slice a2 s2.length ca2, .slice b2 q2.length cb2] 26)).alloc (.cells #[.bool x.neg, .slice e1 x.num.length k1, .slice e2 x.den.length k2] 44)) 26 #[.slice none 0 0, .slice none 0 0]); simp only [World.size_alloc] at h; exact h
  have hBW : Below w.heap.size w W := by rw [← hW]; exact (((((Below.refl _ _).alloc (by (try simp) <;> omega) _).alloc (by (try simp) <;> omega) _).alloc (by (try simp) <;> omega) _).alloc (by (try simp) <;> omega) _)
  have hsW : w.heap.size + 1 + 1 + 1 + 1 ≤ W.heap.size := by rw [← hW]; simp
  obtain ⟨p0, p1, _, _⟩ := R0.two
  have HLEN := Lib.hid hlen
  have hgs : W.heap.size = w.heap.size + 1 + 1 + 1 + 1 := by rw [← hW]; simp
  have HGS := Lib.hid hgs
  clear T1 T2 hx hlen hgs
  go_enter Tryz.func38, Tryz.ntmps38
  go_wp2_with fail
  (try rw [hW])
  have r0 := R0.alloc (.cells #[.slice a1 s1.length ca1, .slice none 0 0] 26)
  have r1 := R1.alloc (.cells #[.slice a1 s1.length ca1, .slice none 0 0] 26)
  have r2 := R2.alloc (.cells #[.slice a1 s1.length ca1, .slice none 0 0] 26)
  have r3 := R3.alloc (.cells #[.slice a1 s1.length ca1, .slice none 0 0] 26)
  have r4 := Row.new W 26 #[.slice a1 s1.length ca1, .slice none 0 0]
  have hB4 : Below (w.heap.size + 1 + 1 + 1) W (W.alloc (.cells #[.slice a1 s1.length ca1, .slice none 0 0] 26)) := (Below.refl _ _).alloc (by omega) _
  obtain ⟨g, hg⟩ : ∃ g, w.heap.size + 1 + 1 + 1 + 1 = g := ⟨_, rfl⟩
  have hg2 : w.heap.size + 1 + 1 + 1 + 1 ≤ g := by omega
  rw [HGS.out, hg] at r4
  rw [HGS.out, hg]
  have hlen := HLEN.out
  generalize W.alloc (.cells #[.slice a1 s1.length ca1, .slice none 0 0] 26) = W4 at *
  have H0 := Lib.hid r0
  have H1 := Lib.hid r1
  have H2 := Lib.hid r2
  have H3 := Lib.hid r3
  have H4 := Lib.hid r4
  have HB4 := Lib.hid hB4
  have HML := Lib.hid (mixL_len (x := x.rat) (L1 := q1.map Q3.rat) (L2 := q2.map Q3.rat) (by rw [List.length_map, List.length_map]; exact hlen))
  clear hlen hg r0 r1 r2 r3 r4 hB4 R0 R1 R2 R3 p0 p1 hW
  go_loopw [8] (fun i wr => ∃ (k : Nat) (v : Value), i = .int .i64 (k : Int) ∧ k ≤ q1.length ∧ Row wr w.heap.size 26 #[.slice a1 s1.length ca1, .slice b1 q1.length cb1] ∧ Row wr (w.heap.size + 1) 26 #[.slice a2 s2.length ca2, .slice b2 q2.length cb2] ∧ Row wr (w.heap.size + 1 + 1) 44 #[.bool x.neg, .slice e1 x.num.length k1, .slice e2 x.den.length k2] ∧ Row wr (w.heap.size + 1 + 1 + 1) 26 #[.slice none 0 0, .slice none 0 0] ∧
    Row wr g 26 #[.slice a1 s1.length ca1, v] ∧ RowO (w.heap.size + 1 + 1 + 1) 44 (fun W v x => ResQ (w.heap.size + 1 + 1 + 1) W v x (B / 32 + 1)) wr v ((mixL (q1.map Q3.rat) (q2.map Q3.rat) x.rat).take k) ∧ Below (w.heap.size + 1 + 1 + 1) W wr) (fun i _ => q1.length - (intOf i).toNat)
  case atStart => exact ⟨0, _, rfl, Nat.zero_le _, H0.out, H1.out, H2.out, H3.out, H4.out, RowO.nil _ _ _ _, HB4.out⟩
  case round =>
    obtain ⟨k, v, rfl, hk, r0, r1, r2, r3, r4, ⟨es, hown, hall⟩, hb⟩ := hrel
    have hszW := hb.size
    have hsz : w.heap.size + 1 + 1 + 1 ≤ wr.heap.size := by omega
    have hbw : Below w.heap.size w wr := hBW.trans (hb.mono (by omega))
    have c01 := r0.cell 1
    have c11 := r1.cell 1
    have c20 := r2.cell 0
    have c21 := r2.cell 1
    have c22 := r2.cell 2
    have c41 := r4.cell 1
    have hle : es.length = k := by have h := HML.out; rw [List.length_map] at h; rw [hall.1, List.length_take, h]; omega
    by_cases hlt : k < q1.length
    · obtain ⟨bb, o, x0, x1, x2, p, hbo, hpk, f0, f1, f2, hrp⟩ := (HT1.out.el.later hbw (fun v x _ k => k.later hbw)).at hlt
      obtain ⟨bd, od, z0, z1, z2, q, hbd, hqk, d0, d1, d2, hrq⟩ := (HT2.out.el.later hbw (fun v x _ k => k.later hbw)).at (i := k) (by have := HLEN.out; omega)
      have hmp := List.mem_of_getElem? hpk
      have hmq := List.mem_of_getElem? hqk
      have hb0 : bb < w.heap.size := HT1.out.el.low (by intro h; rw [h] at hlt; simp at hlt) hbo
      have hd0 : bd < w.heap.size := HT2.out.el.low (by intro h; have h2 := HLEN.out; rw [h] at h2; simp at h2; omega) hbd
      subst hbo
      subst hbd
      have hcp := hrp.arg (n := 2 * n + 4) (by have := (hl1 p hmp).1; omega) (by have := (hl1 p hmp).2; omega)
      have hcq := hrq.arg (hl2 q hmq).1 (hl2 q hmq).2
      have hcx := (HX.out.later hbw).arg hlx.1 hlx.2
      have hft := hfit k p q hpk hqk
      obtain ⟨r, hrv, hrb, hrne⟩ := hown.hits hsz
      have n0 := hrne _ _ _ r0 (by decide)
      have n1 := hrne _ _ _ r1 (by decide)
      have n2 : w.heap.size + 1 + 1 ≠ r := by omega
      have n3 := hrne _ _ _ r3 (by decide)
      have n4 := hrne _ _ _ r4 (by decide)
      have mkS : ∀ X, Kept r wr X → X.cell? ⟨g, 1, none⟩ = some v ∧ X.cell? ⟨w.heap.size, 1, none⟩ = some (.slice (some ⟨bb, o, none⟩) q1.length cb1) ∧ X.cell? ⟨w.heap.size + 1, 1, none⟩ = some (.slice (some ⟨bd, od, none⟩) q2.length cb2) ∧ X.cell? ⟨w.heap.size + 1 + 1, 0, none⟩ = some (.bool x.neg) ∧ X.cell? ⟨w.heap.size + 1 + 1, 1, none⟩ = some (.slice e1 x.num.length k1) ∧ X.cell? ⟨w.heap.size + 1 + 1, 2, none⟩ = some (.slice e2 x.den.length k2) ∧ X.cell? ⟨bb, o + k * 3, none⟩ = some x0 ∧ X.cell? ⟨bb, o + k * 3 + 1, none⟩ = some x1 ∧ X.cell? ⟨bb, o + k * 3 + 2, none⟩ = some x2 ∧ X.cell? ⟨bd, od + k * 3, none⟩ = some z0 ∧ X.cell? ⟨bd, od + k * 3 + 1, none⟩ = some z1 ∧ X.cell? ⟨bd, od + k * 3 + 2, none⟩ = some z2 ∧ Kept r wr X := fun X h =>
        ⟨h.cell c41 n4, h.cell c01 n0, h.cell c11 n1, h.cell c20 n2, h.cell c21 n2, h.cell c22 n2, h.cell f0 (by show bb ≠ r; omega), h.cell f1 (by show bb ≠ r; omega), h.cell f2 (by show bb ≠ r; omega), h.cell d0 (by show bd ≠ r; omega), h.cell d1 (by show bd ≠ r; omega), h.cell d2 (by show bd ≠ r; omega), h⟩
      have hltI : (k : Int) < (q1.length : Int) := by omega
      have hltJ : (k : Int) < (q2.length : Int) := by have := HLEN.out; omega
      have hS0 := mkS wr.drew ((Kept.refl r wr).drew)
      have hRP := Lib.hid hcp
      have hRQ := Lib.hid hcq
      have hRX := Lib.hid hcx
      have HF := Lib.hid hft
      clear hcp hcq hcx hft hrp hrq
      go_wp2_with fail
      refine wp_region_L (S := fun X => X.cell? ⟨g, 1, none⟩ = some v ∧ X.cell? ⟨w.heap.size, 1, none⟩ = some (.slice (some ⟨bb, o, none⟩) q1.length cb1) ∧ X.cell? ⟨w.heap.size + 1, 1, none⟩ = some (.slice (some ⟨bd, od, none⟩) q2.length cb2) ∧ X.cell? ⟨w.heap.size + 1 + 1, 0, none⟩ = some (.bool x.neg) ∧ X.cell? ⟨w.heap.size + 1 + 1, 1, none⟩ = some (.slice e1 x.num.length k1) ∧ X.cell? ⟨w.heap.size + 1 + 1, 2, none⟩ = some (.slice e2 x.den.length k2) ∧ X.cell? ⟨bb, o + k * 3, none⟩ = some x0 ∧ X.cell? ⟨bb, o + k * 3 + 1, none⟩ = some x1 ∧ X.cell? ⟨bb, o + k * 3 + 2, none⟩ = some x2 ∧ X.cell? ⟨bd, od + k * 3, none⟩ = some z0 ∧ X.cell? ⟨bd, od + k * 3 + 1, none⟩ = some z1 ∧ X.cell? ⟨bd, od + k * 3 + 2, none⟩ = some z2 ∧ Kept r wr X) (z := 18) (by kernel_rfl) hS0 (fun hHeld => ?_)
      refine wpAnyL_take (i := 0) (v := ?va0) rfl (by kernel_rfl) (by kernel_rfl) (by kernel_rfl) (by kernel_rfl) (fun _ _ _ h => h) (Or.inl ⟨by rfl, ?ha0⟩) (by assumption) ?ra0
      case ha0 =>
        intro w hSw
        try dsimp only at hSw
        go_simp
        try with_reducible rfl
      try simp only [Act.put, List.setIfInBounds_toArray, List.set_cons_zero, List.set_cons_succ]
      refine wpAnyL_take (i := 1) (v := ?va1) rfl (by kernel_rfl) (by kernel_rfl) (by kernel_rfl) (by kernel_rfl) (fun _ _ _ h => h) (Or.inl ⟨by rfl, ?ha1⟩) (by assumption) ?ra1
      case ha1 =>
        intro w hSw
        try dsimp only at hSw
        go_simp
        try with_reducible rfl
      try simp only [Act.put, List.setIfInBounds_toArray, List.set_cons_zero, List.set_cons_succ]
      refine wpAnyL_take (i := 2) (v := ?va2) rfl (by kernel_rfl) (by kernel_rfl) (by kernel_rfl) (by kernel_rfl) (fun _ _ _ h => h) (Or.inl ⟨by rfl, ?ha2⟩) (by assumption) ?ra2
      case ha2 =>
        intro w hSw
        try dsimp only at hSw
        go_simp
        try with_reducible rfl
      try simp only [Act.put, List.setIfInBounds_toArray, List.set_cons_zero, List.set_cons_succ]
      refine wpAnyL_take (i := 3) (v := ?va3) rfl (by kernel_rfl) (by kernel_rfl) (by kernel_rfl) (by kernel_rfl) (fun _ _ _ h => h) (Or.inl ⟨by rfl, ?ha3⟩) (by assumption) ?ra3
      case ha3 =>
        intro w hSw
        try dsimp only at hSw
        go_simp
        try with_reducible rfl
      try simp only [Act.put, List.setIfInBounds_toArray, List.set_cons_zero, List.set_cons_succ]
      refine wpAnyL_take (i := 4) (v := ?va4) rfl (by kernel_rfl) (by kernel_rfl) (by kernel_rfl) (by kernel_rfl) (fun _ _ _ h => h) (Or.inl ⟨by rfl, ?ha4⟩) (by assumption) ?ra4
      case ha4 =>
        intro w hSw
        try dsimp only at hSw
        go_simp
        try with_reducible rfl
      try simp only [Act.put, List.setIfInBounds_toArray, List.set_cons_zero, List.set_cons_succ]
      refine wpAnyL_take (i := 5) (v := ?va5) rfl (by kernel_rfl) (by kernel_rfl) (by kernel_rfl) (by kernel_rfl) (fun _ _ _ h => h) (Or.inl ⟨by rfl, ?ha5⟩) (by assumption) ?ra5
      case ha5 =>
        intro w hSw
        try dsimp only at hSw
        go_simp
        try with_reducible rfl
      try simp only [Act.put, List.setIfInBounds_toArray, List.set_cons_zero, List.set_cons_succ]
      refine wpAnyL_take (i := 6) (v := ?va6) rfl (by kernel_rfl) (by kernel_rfl) (by kernel_rfl) (by kernel_rfl) (fun _ _ _ h => h) (Or.inl ⟨by rfl, ?ha6⟩) (by assumption) ?ra6
      case ha6 =>
        intro w hSw
        try dsimp only at hSw
        go_simp
        try with_reducible rfl
      try simp only [Act.put, List.setIfInBounds_toArray, List.set_cons_zero, List.set_cons_succ]
      refine wpAnyL_take (i := 7) (v := ?va7) rfl (by kernel_rfl) (by kernel_rfl) (by kernel_rfl) (by kernel_rfl) (fun _ _ _ h => h) (Or.inl ⟨by rfl, ?ha7⟩) (by assumption) ?ra7
      case ha7 =>
        intro w hSw
        try dsimp only at hSw
        go_simp
        try with_reducible rfl
      try simp only [Act.put, List.setIfInBounds_toArray, List.set_cons_zero, List.set_cons_succ]
      refine wpAnyL_take (i := 8) (v := ?va8) rfl (by kernel_rfl) (by kernel_rfl) (by kernel_rfl) (by kernel_rfl) (fun _ _ _ h => h) (Or.inl ⟨by rfl, ?ha8⟩) (by assumption) ?ra8
      case ha8 =>
        intro w hSw
        try dsimp only at hSw
        go_simp
        try with_reducible rfl
      try simp only [Act.put, List.setIfInBounds_toArray, List.set_cons_zero, List.set_cons_succ]
      refine wpAnyL_take (i := 9) (v := ?va9) rfl (by kernel_rfl) (by kernel_rfl) (by kernel_rfl) (by kernel_rfl) (fun _ _ _ h => h) (Or.inl ⟨by rfl, ?ha9⟩) (by assumption) ?ra9
      case ha9 =>
        intro w hSw
        try dsimp only at hSw
        go_simp
        try with_reducible rfl
      try simp only [Act.put, List.setIfInBounds_toArray, List.set_cons_zero, List.set_cons_succ]
      refine wpAnyL_take (i := 10) (v := ?va10) rfl (by kernel_rfl) (by kernel_rfl) (by kernel_rfl) (by kernel_rfl) (fun _ _ _ h => h) (Or.inl ⟨by rfl, ?ha10⟩) (by assumption) ?ra10
      case ha10 =>
        intro w hSw
        try dsimp only at hSw
        go_simp
        try with_reducible rfl
      try simp only [Act.put, List.setIfInBounds_toArray, List.set_cons_zero, List.set_cons_succ]
      refine wpAnyL_take (i := 11) (v := ?va11) rfl (by kernel_rfl) (by kernel_rfl) (by kernel_rfl) (by kernel_rfl) (fun _ _ _ h => h) (Or.inl ⟨by rfl, ?ha11⟩) (by assumption) ?ra11
      case ha11 =>
        intro w hSw
        try dsimp only at hSw
        go_simp
        try with_reducible rfl
      try simp only [Act.put, List.setIfInBounds_toArray, List.set_cons_zero, List.set_cons_succ]
      refine wpAnyL_take (i := 12) (v := ?va12) rfl (by kernel_rfl) (by kernel_rfl) (by kernel_rfl) (by kernel_rfl) (fun _ _ _ h => h) (Or.inl ⟨by rfl, ?ha12⟩) (by assumption) ?ra12
      case ha12 =>
        intro w hSw
        try dsimp only at hSw
        go_simp
        try with_reducible rfl
      try simp only [Act.put, List.setIfInBounds_toArray, List.set_cons_zero, List.set_cons_succ]
      refine wpAnyL_one (i := 13) (by kernel_rfl) rfl (fun K hK => ?sb13)
      go_simp
      have hbd4 : Below wr.heap.size wr wr.drew := (Below.refl _ _).drew
      refine (mulQ_any (hRX.out.later hbd4) (hRQ.out.later hbd4) (by omega)).mono ?_
      rintro e w4 ⟨rm, rfl, qm, hb4⟩
      have Q4 := Lib.hid qm.argQ
      obtain ⟨m4, g1, g2, g3, g4, g5, g6, rfl⟩ := qm.shape
      clear qm
      go_simp
      have hb4w : Below wr.heap.size wr w4 := hbd4.trans hb4
      have hk4 : Kept r wr w4 := ((Kept.refl r wr).drew).below hb4
      refine hK.out _ _ (fun _ => mkS _ hk4) (fun hHeld2 => ?mb13)
      clear hK K hHeld
      have hHeld := hHeld2 (by decide)
      clear hHeld2
      try simp only [Act.put, List.setIfInBounds_toArray, List.set_cons_zero, List.set_cons_succ]
      refine wpAnyL_one (i := 14) (by kernel_rfl) rfl (fun K hK => ?sb14)
      go_simp
      refine (addQ_any (hRP.out.later hb4w) Q4.out (by omega)).mono ?_
      rintro e w5 ⟨rv, rfl, qv, hb5⟩
      have Q5 := Lib.hid (qv.refit HF.out)
      obtain ⟨m5, j1, l1, j2, j3, l2, j4, rfl⟩ := qv.shape
      clear qv
      go_simp
      have hb5w : Below wr.heap.size wr w5 := hb4w.trans (hb5.mono hb4w.size)
      have hB5 : Below (w.heap.size + 1 + 1 + 1) W w5 := hb.trans (hb5w.mono hsz)
      have hk5 : Kept r wr w5 := (Kept.refl r wr).below hb5w
      refine hK.out _ _ (fun _ => mkS _ hk5) (fun hHeld2 => ?mb14)
      clear hK K hHeld
      have hHeld := hHeld2 (by decide)
      clear hHeld2
      try simp only [Act.put, List.setIfInBounds_toArray, List.set_cons_zero, List.set_cons_succ]
      refine wpAnyL_one (i := 15) (by kernel_rfl) rfl (fun K hK => ?sb15)
      go_simp
      refine hK.out _ _ (fun _ => mkS _ (hk5.alloc _)) (fun hHeld2 => ?mb15)
      clear hK K hHeld
      have hHeld := hHeld2 (by decide)
      clear hHeld2
      try simp only [Act.put, List.setIfInBounds_toArray, List.set_cons_zero, List.set_cons_succ]
      refine wpAnyL_one (i := 16) (by kernel_rfl) rfl (fun K hK => ?sb16)
      have hown5 : OwnE (w.heap.size + 1 + 1 + 1) 44 w5 v es := hown.later hb5w
      have hall5 : AllE (fun v x => ResQ (w.heap.size + 1 + 1 + 1) w5 v x (B / 32 + 1)) es ((mixL (q1.map Q3.rat) (q2.map Q3.rat) x.rat).take k) := hall.imp fun u x _ h => h.later hb5w
      have hsz5 : w.heap.size + 1 + 1 + 1 ≤ w5.heap.size := Nat.le_trans hsz hb5w.size
      refine step_append_ownT rfl _ _ 24 rfl (w.heap.size + 1 + 1 + 1) 44 i0 _ 3 56 Tryz.underlying24 hi hz0 hz1 hz2 rfl (by decide) _ es.length (flat3 es) rfl (hown5.later ((Below.refl _ _).alloc (Nat.le_refl _) _)) ⟨w5.heap.size, 0, none⟩ 1 1 [.bool m5, .slice j1 l1 j2, .slice j3 l2 j4] rfl rfl (cell_three_new _ _ _ _ _) (by simp [Value.oneCell']) (by unfold maxLen; omega) (by omega) (by simp; omega) ?_
      intro v' w6 hown' hgrow _
      obtain ⟨av, cv, rfl⟩ := ownT_slice hown'
      have hk6 : Kept r wr w6 := (hk5.alloc _).grown hgrow hrv
      refine hK.out _ _ (fun _ => mkS _ hk6) (fun hHeld2 => ?mb16)
      clear hK K hHeld
      have hHeld := hHeld2 (by decide)
      clear hHeld2
      try simp only [Act.put, List.setIfInBounds_toArray, List.set_cons_zero, List.set_cons_succ]
      refine wpAnyL_take (i := 17) (v := ?va17) rfl (by kernel_rfl) (by kernel_rfl) (by kernel_rfl) (by kernel_rfl) (fun _ _ _ h => h) (Or.inl ⟨by rfl, ?ha17⟩) (by assumption) ?ra17
      case ha17 =>
        intro w hSw
        try dsimp only at hSw
        go_simp
        try with_reducible rfl
      try simp only [Act.put, List.setIfInBounds_toArray, List.set_cons_zero, List.set_cons_succ]
      have R46 := r4.kept hk6 n4
      have f41 := R46.free 1
      have d41 := R46.cell 1
      refine wpAnyL_one (i := 18) (by kernel_rfl) rfl (fun K hK => ?sb18)
      go_simp
      refine hK.out _ _ (fun h => absurd rfl h) (fun _ => ?mb18)
      clear hK K
      try simp only [Act.put, List.setIfInBounds_toArray, List.set_cons_zero, List.set_cons_succ]
      refine wpAnyL_done (by kernel_rfl) ?_ _
      go_wp2
      go_roundw
      case rel =>
        have hx5 : ResQ (w.heap.size + 1 + 1 + 1) w5 (E3.agg ⟨.bool m5, .slice j1 l1 j2, .slice j3 l2 j4⟩) (p.rat + x.rat * q.rat) (B / 32 + 1) := Q5.out.mono (by have := hb4w.size; omega)
        obtain ⟨hrow6, hb6⟩ := pushE (P := fun W v x => ResQ (w.heap.size + 1 + 1 + 1) W v x (B / 32 + 1)) (e := ⟨.bool m5, .slice j1 l1 j2, .slice j3 l2 j4⟩) hB5 hsz5 hown5 hall5 hx5 (fun u y h => ResQ.apart hown5 hgrow (by decide) h) hown' hgrow
        rw [hle] at hrow6
        have hnext : (mixL (q1.map Q3.rat) (q2.map Q3.rat) x.rat).take (k + 1) = (mixL (q1.map Q3.rat) (q2.map Q3.rat) x.rat).take k ++ [p.rat + x.rat * q.rat] :=
          take_nextL (mixL_at (by rw [List.getElem?_map, hpk]; rfl) (by rw [List.getElem?_map, hqk]; rfl))
        refine ⟨k + 1, _, by go_num, by omega, (r0.kept hk6 n0).far (by show w.heap.size ≠ g; omega) _, (r1.kept hk6 n1).far (by show w.heap.size + 1 ≠ g; omega) _, (r2.kept hk6 n2).far (by show w.heap.size + 1 + 1 ≠ g; omega) _, (r3.kept hk6 n3).far (by show w.heap.size + 1 + 1 + 1 ≠ g; omega) _, R46.set21 _, ?_, hb6.setCell (by show w.heap.size + 1 + 1 + 1 ≤ g; omega) _⟩
        rw [hnext]
        exact hrow6.far R46 (by decide) (kept1 _) (fun u y h => h.far R46 (by decide) (kept1 _))
      case measure => simp [intOf]; omega
    · obtain rfl : k = q1.length := by omega
      have hltI : ¬ (q1.length : Int) < (q1.length : Int) := by omega
      rw [List.take_of_length_le (by have h := HML.out; rw [List.length_map] at h; omega)] at hall
      obtain ⟨av, cv, rfl⟩ := ownT_slice hown
      have hel : es.length = q1.length := hle
      rw [hel] at r4 hown
      have c40 := r4.cell 0
      have d41 := r4.cell 1
      have h30 := r3.free 0
      have h31 := r3.free 1
      have g30 := r3.cell 0
      have g31 := r3.cell 1
      have R3s := r3.set2 (.slice a1 s1.length ca1) (.slice av q1.length cv)
      obtain ⟨z0, z1, _, _⟩ := R3s.two
      have HOWN := Lib.hid hown
      have HALL := Lib.hid hall
      have HR3 := Lib.hid r3
      clear hown hall hle R3s r3 hszW
      go_wp2
      refine bodyPost_ret (v := .agg #[.slice a1 s1.length ca1, .slice av q1.length cv]) (by simp [results, Tryz.results38, go_sem, z0, z1]) rfl ⟨_, _, rfl, ?_, below_set2 hbw (by omega) _ _⟩
      have hrow := RowO.far (P := fun W v x => ResQ (w.heap.size + 1 + 1 + 1) W v x (B / 32 + 1)) ⟨es, HOWN.out, HALL.out⟩ HR3.out (by decide) (kept2 (.slice a1 s1.length ca1) (.slice av q1.length cv)) (fun u y h => ResQ.far h HR3.out (by decide) (kept2 _ _))
      exact RowO.mono hrow (by omega) (fun v x h => h.mono (by omega))
end Go.Proofs.YtnhfjacifajdlaaGreat
