/-
  Contracts of the reference of layer 3: Make, Of.
-/
import Derived.Test.YtnhfjacifajdlaaGreatB5
namespace Go.Proofs.YtnhfjacifajdlaaGreat
set_option maxRecDepth 100000
section
open Go.RowKit
set_option linter.unusedVariables false
set_option linter.unusedSimpArgs false
theorem ArgQ.box {w : World} {v : Value} {X : Rat} {n : Nat} (h : ArgQ w v X n) : ∃ (neg : Bool) (xs ys : List Int) (ad bd : Option Addr) (ca cb : Nat), v = .agg #[.bool neg, .slice ad xs.length ca, .slice bd ys.length cb] := by
  obtain ⟨neg, xs, ys, ad, bd, ca, cb, rfl, _⟩ := h
  exact ⟨neg, xs, ys, ad, bd, ca, cb, rfl⟩
set_option maxRecDepth 100000 in
set_option maxHeartbeats 2000000 in
theorem plain_any {n : Nat} {w : World} {v : Value} {X : Rat} (h : ArgQ w v X n) (hn : n ≤ 2147483648) :
    Calls Tryz.prog 76 #[v] w fun e w' => ∃ r, e = .returned r ∧ PlainQ w' r X (n + 2) ∧ Below w.heap.size w w' := by
  obtain ⟨neg, xs, ys, a1, a2, c1, c2, rfl, A, B, hX, hx, hy⟩ := h
  obtain ⟨W, hW⟩ : ∃ W, ((w.alloc (.cells #[.bool neg, .slice a1 xs.length c1, .slice a2 ys.length c2] 44)).alloc (.cells #[.bool false, .slice none 0 0, .slice none 0 0] 44)) = W := ⟨_, rfl⟩
  have R0 : Row W (w.heap.size) 44 #[.bool neg, .slice a1 xs.length c1, .slice a2 ys.length c2] := by rw [← hW]; exact ((Row.new _ _ _).alloc _)
  have R1 : Row W (w.heap.size + 1) 44 #[.bool false, .slice none 0 0, .slice none 0 0] := by rw [← hW]; have h := (Row.new (w.alloc (.cells #[.bool neg, .slice a1 xs.length c1, .slice a2 ys.length c2] 44)) 44 #[.bool false, .slice none 0 0, .slice none 0 0]); simp only [World.size_alloc] at h; exact h
  have hBW : Below w.heap.size w W := by rw [← hW]; exact (((Below.refl _ _).alloc (by (try simp) <;> omega) _).alloc (by (try simp) <;> omega) _)
  have hsW : w.heap.size + 1 + 1 ≤ W.heap.size := by rw [← hW]; simp
  have A' := A.later hBW
  have B' := B.later hBW
  obtain ⟨e0, e1, e2, _, _, _⟩ := R0.three
  have hb1 := bits_res A' (by omega) (bitsN_is A.wf)
  have hp1 := bits_pos A.wf
  have hb2 := bits_res B' (by omega) (bitsN_is B.wf)
  have hp2 := bits_pos B.wf
  have h01 := val_nonneg A.wf
  have h02 := val_nonneg B.wf
  obtain ⟨m1, hm1⟩ : ∃ m, bitsN xs = m := ⟨_, rfl⟩
  obtain ⟨m2, hm2⟩ : ∃ m, bitsN ys = m := ⟨_, rfl⟩
  rw [hm1] at hb1 hp1
  rw [hm2] at hb2 hp2
  clear hm1 hm2
  by_cases z1 : val xs = 0
  · have hX0 : X = 0 := by rw [← hX, z1]; exact ratOf_zero_left _ _
    have HX := Lib.hid hX0
    have d1 : ((m1 : Int) == 0) = true := by obtain rfl : m1 = 0 := by omega
                                             rfl
    clear hX hX0 z1 hp1 hp2 h01 h02
    go_enter Tryz.func76, Tryz.ntmps76
    go_wp2_with fail
    refine hb1.mono ?_
    rintro e w' ⟨rfl, rfl⟩
    clear hb1 hb2
    go_wp2_with fail
    refine (int_any 0 _ (by omega) (by omega)).mono ?_
    rintro e w2 ⟨r2, rfl, q2, hb2⟩
    have P2 := q2.plain
    obtain ⟨neg', us, vs, b1, b2, k1, k2, rfl⟩ := q2.arg.box
    have R1' := R1.later hb2
    clear e0 e1 e2 hW
    obtain ⟨u0, u1, u2, g0, g1, g2⟩ := R1'.three
    go_wp2_with fail
    refine bodyPost_ret (v := .agg #[.bool neg', .slice b1 us.length k1, .slice b2 vs.length k2]) (by simp [results, Tryz.results76, go_sem, u0, u1, u2]) rfl ⟨_, rfl, ?_, below_set3 (hBW.trans (hb2.mono (by omega))) (by omega) _ _ _⟩
    rw [HX.out, ← intQ_zero]
    exact (P2.far R1' (noInts3 _ _ _ _ _ _ _) (kept3 _ _ _)).more (by omega)
  · by_cases z2 : val ys = 0
    · have hX0 : X = 0 := by rw [← hX, z2]; exact ratOf_zero_right _ _
      have HX := Lib.hid hX0
      have d1 : ((m1 : Int) == 0) = false := by simp; omega
      have d2 : ((m2 : Int) == 0) = true := by obtain rfl : m2 = 0 := by omega
                                               rfl
      clear hX hX0 z1 z2 hp1 hp2 h01 h02
      go_enter Tryz.func76, Tryz.ntmps76
      go_wp2_with fail
      refine hb1.mono ?_
      rintro e w' ⟨rfl, rfl⟩
      clear hb1
      go_wp2_with fail
      refine hb2.mono ?_
      rintro e w' ⟨rfl, rfl⟩
      clear hb2
      go_wp2_with fail
      refine (int_any 0 _ (by omega) (by omega)).mono ?_
      rintro e w2 ⟨r2, rfl, q2, hb2⟩
      have P2 := q2.plain
      obtain ⟨neg', us, vs, b1, b2, k1, k2, rfl⟩ := q2.arg.box
      have R1' := R1.later hb2
      clear e0 e1 e2 hW
      obtain ⟨u0, u1, u2, g0, g1, g2⟩ := R1'.three
      go_wp2_with fail
      refine bodyPost_ret (v := .agg #[.bool neg', .slice b1 us.length k1, .slice b2 vs.length k2]) (by simp [results, Tryz.results76, go_sem, u0, u1, u2]) rfl ⟨_, rfl, ?_, below_set3 (hBW.trans (hb2.mono (by omega))) (by omega) _ _ _⟩
      rw [HX.out, ← intQ_zero]
      exact (P2.far R1' (noInts3 _ _ _ _ _ _ _) (kept3 _ _ _)).more (by omega)
    · have HX := Lib.hid hX
      have d1 : ((m1 : Int) == 0) = false := by simp; omega
      have d2 : ((m2 : Int) == 0) = false := by simp; omega
      have hpos : 0 < val ys := by omega
      have hn0 : val xs = 0 → neg = false := fun h => absurd h z1
      clear hX z1 z2 hp1 hp2 h01 h02
      obtain ⟨u0, u1, u2, g0, g1, g2⟩ := R1.three
      have HN := Lib.hid hn0
      clear hn0
      go_enter Tryz.func76, Tryz.ntmps76
      go_wp2_with fail
      refine hb1.mono ?_
      rintro e w' ⟨rfl, rfl⟩
      clear hb1
      go_wp2_with fail
      refine hb2.mono ?_
      rintro e w' ⟨rfl, rfl⟩
      clear hb2 hW
      go_wp2_with fail
      refine bodyPost_ret (v := .agg #[.bool neg, .slice a1 xs.length c1, .slice a2 ys.length c2]) (by simp [results, Tryz.results76, go_sem, u0, u1, u2]) rfl ⟨_, rfl, ?_, below_set3 hBW (by omega) _ _ _⟩
      exact ⟨neg, xs, ys, a1, a2, c1, c2, rfl, A'.far R1 (noInts3 _ _ _ _ _ _ _) (kept3 _ _ _), B'.far R1 (noInts3 _ _ _ _ _ _ _) (kept3 _ _ _), HX.out, by omega, by omega, hpos, HN.out⟩
set_option maxRecDepth 100000 in
set_option maxHeartbeats 1000000 in
theorem side_any {w : World} {g : Nat} {xs gs : List Int} {a1 gd : Option Addr} {c1 gc : Nat} (G : w.cell? ⟨g, 0, none⟩ = some (.slice gd gs.length gc)) (Ag : Arg w (.slice gd gs.length gc) gs gd gc)
    (A : Arg w (.slice a1 xs.length c1) xs a1 c1) (hpos : 0 < val gs) (hx : xs.length ≤ 134217728) (hg : gs.length ≤ 134217728) :
    Calls Tryz.prog 91 #[.slice a1 xs.length c1, .pointer (some ⟨g, 0, none⟩)] w fun e w' => ∃ r zs, e = .returned r ∧ Res w.heap.size w' r zs (val xs / val gs) ∧ zs.length ≤ xs.length ∧ Below w.heap.size w w' := by
  go_enter Tryz.func91, Tryz.ntmps91
  go_wp2_with fail
  refine (div_any A Ag hx hg hpos).mono ?_
  rintro e w2 ⟨r2, s2, rfl, hb2, ⟨z2, q2, l2⟩, _⟩
  clear G
  go_wp2_with fail
  go_ret
  exact ⟨r2, z2, rfl, q2, l2, hb2⟩
set_option maxRecDepth 100000 in
set_option maxHeartbeats 4000000 in
theorem bothNorm_any {w : World} {g : Nat} {neg : Bool} {xs ys gs : List Int} {a1 a2 gd : Option Addr} {c1 c2 gc : Nat} (G : w.cell? ⟨g, 0, none⟩ = some (.slice gd gs.length gc)) (Ag : Arg w (.slice gd gs.length gc) gs gd gc)
    (A : Arg w (.slice a1 xs.length c1) xs a1 c1) (B : Arg w (.slice a2 ys.length c2) ys a2 c2) (hpos : 0 < val gs) (hx : xs.length ≤ 134217728) (hy : ys.length ≤ 134217728) (hg : gs.length ≤ 134217728) :
    Calls Tryz.prog 90 #[.agg #[.bool neg, .slice a1 xs.length c1, .slice a2 ys.length c2], .func (.func 91) #[] #[.pointer (some ⟨g, 0, none⟩)]] w fun e w' => ∃ r, e = .returned r ∧ ∃ (us vs : List Int) (b1 b2 : Option Addr) (k1 k2 : Nat), r = .agg #[.bool neg, .slice b1 us.length k1, .slice b2 vs.length k2] ∧
      Res w.heap.size w' (.slice b1 us.length k1) us (val xs / val gs) ∧ Res w.heap.size w' (.slice b2 vs.length k2) vs (val ys / val gs) ∧ us.length ≤ xs.length ∧ vs.length ≤ ys.length ∧ Below w.heap.size w w' := by
  have hgl := World.block_lt_of_cell? w _ G
  obtain ⟨W, hW⟩ : ∃ W, ((w.alloc (.cells #[.bool neg, .slice a1 xs.length c1, .slice a2 ys.length c2] 44)).alloc (.cells #[.bool false, .slice none 0 0, .slice none 0 0] 44)) = W := ⟨_, rfl⟩
  have R0 : Row W (w.heap.size) 44 #[.bool neg, .slice a1 xs.length c1, .slice a2 ys.length c2] := by rw [← hW]; exact ((Row.new _ _ _).alloc _)
  have R1 : Row W (w.heap.size + 1) 44 #[.bool false, .slice none 0 0, .slice none 0 0] := by rw [← hW]; have h := (Row.new (w.alloc (.cells #[.bool neg, .slice a1 xs.length c1, .slice a2 ys.length c2] 44)) 44 #[.bool false, .slice none 0 0, .slice none 0 0]); simp only [World.size_alloc] at h; exact h
  have hBW : Below w.heap.size w W := by rw [← hW]; exact (((Below.refl _ _).alloc (by (try simp) <;> omega) _).alloc (by (try simp) <;> omega) _)
  have hsW : w.heap.size + 1 + 1 ≤ W.heap.size := by rw [← hW]; simp
  have mkS : ∀ X, Below (w.heap.size + 1) W X → X.cell? ⟨w.heap.size, 0, none⟩ = some (.bool neg) ∧ X.cell? ⟨w.heap.size, 1, none⟩ = some (.slice a1 xs.length c1) ∧ X.cell? ⟨w.heap.size, 2, none⟩ = some (.slice a2 ys.length c2) ∧ Below w.heap.size w X ∧ Below (w.heap.size + 1) W X := fun X h => ⟨(R0.below h (by omega)).cell 0, (R0.below h (by omega)).cell 1, (R0.below h (by omega)).cell 2, hBW.trans (h.mono (by omega)), h⟩
  go_enter Tryz.func90, Tryz.ntmps90
  go_wp2_with fail
  clear hW
  go_region_held3 (fun X => X.cell? ⟨w.heap.size, 0, none⟩ = some (.bool neg) ∧ X.cell? ⟨w.heap.size, 1, none⟩ = some (.slice a1 xs.length c1) ∧ X.cell? ⟨w.heap.size, 2, none⟩ = some (.slice a2 ys.length c2) ∧ Below w.heap.size w X ∧ Below (w.heap.size + 1) W X)
    (((refine mkS _ ?_; (repeat' (first | exact Below.refl _ _ | refine Below.drew ?_ | refine Below.alloc ?_ (by (try simp) <;> omega) _ | refine below_set3 ?_ (by (try simp) <;> omega) _ _ _ | refine below_set2 ?_ (by (try simp) <;> omega) _ _ | refine Below.setCell ?_ (by (try simp) <;> omega) _ | refine Below.trans ?_ (Below.mono (by assumption) (by (try simp) <;> omega)))))))
    ((first
      | (have HB : Below w.heap.size w _ := (‹_ ∧ _ ∧ _ ∧ Below w.heap.size w _ ∧ _›).2.2.2.1; go_at_call 91; first
        | ((with_reducible refine (side_any (((HB).cell (p := ⟨g, 0, none⟩) hgl).trans G) (Ag.later HB) (A.later HB) hpos (by omega) (by omega)).mono ?_); rintro e w2 ⟨r2, z2, rfl, q2, l2, hb2⟩; have hs2 := hb2.size; (try simp at hs2); obtain ⟨ad2, cp2, rfl, q2, A2⟩ := q2.slice; clear HB)
        | ((with_reducible refine (side_any (((HB).cell (p := ⟨g, 0, none⟩) hgl).trans G) (Ag.later HB) (B.later HB) hpos (by omega) (by omega)).mono ?_); rintro e w3 ⟨r3, z3, rfl, q3, l3, hb3⟩; clear HB; have hs3 := hb3.size; (try simp at hs3); obtain ⟨ad3, cp3, rfl, q3, A3⟩ := q3.slice; replace q2 := q2.later hb3; have R1' := R1.later (show Below W.heap.size W w3 by (repeat' (first | exact Below.refl _ _ | refine Below.drew ?_ | refine Below.alloc ?_ (by (try simp) <;> omega) _ | refine below_set3 ?_ (by (try simp) <;> omega) _ _ _ | refine below_set2 ?_ (by (try simp) <;> omega) _ _ | refine Below.setCell ?_ (by (try simp) <;> omega) _ | refine Below.trans ?_ (Below.mono (by assumption) (by (try simp) <;> omega))))); obtain ⟨u0, u1, u2, g0, g1, g2⟩ := R1'.three))))
  go_wp2_with fail
  refine bodyPost_ret (v := .agg #[.bool neg, .slice ad2 z2.length cp2, .slice ad3 z3.length cp3]) (by simp [results, Tryz.results90, go_sem, u0, u1, u2]) rfl ⟨_, rfl, z2, z3, ad2, ad3, cp2, cp3, rfl, ?_, ?_, l2, l3, ?_⟩
  · exact (q2.far R1' (by decide) (kept3 _ _ _)).mono (by (try simp) <;> omega)
  · exact (q3.far R1' (by decide) (kept3 _ _ _)).mono (by (try simp) <;> omega)
  · (repeat' (first | exact Below.refl _ _ | exact hBW | refine Below.drew ?_ | refine Below.alloc ?_ (by (try simp) <;> omega) _ | refine below_set3 ?_ (by (try simp) <;> omega) _ _ _ | refine below_set2 ?_ (by (try simp) <;> omega) _ _ | refine Below.setCell ?_ (by (try simp) <;> omega) _ | refine Below.trans ?_ (Below.mono (by assumption) (by (try simp) <;> omega))))
set_option maxRecDepth 100000 in
set_option maxHeartbeats 4000000 in
theorem norm_any {n : Nat} {w : World} {v : Value} {X : Rat} (h : ArgQ w v X n) (hn : n ≤ 67108864) :
    Calls Tryz.prog 54 #[v] w fun e w' => ∃ r, e = .returned r ∧ ResQ w.heap.size w' r X (n + 2) ∧ Below w.heap.size w w' := by
  obtain ⟨neg0, xs0, ys0, e1, e2, k1, k2, rfl⟩ := h.box
  obtain ⟨W, hW⟩ : ∃ W, ((w.alloc (.cells #[.bool neg0, .slice e1 xs0.length k1, .slice e2 ys0.length k2] 44)).alloc (.cells #[.bool false, .slice none 0 0, .slice none 0 0] 44)) = W := ⟨_, rfl⟩
  have R0 : Row W (w.heap.size) 44 #[.bool neg0, .slice e1 xs0.length k1, .slice e2 ys0.length k2] := by rw [← hW]; exact ((Row.new _ _ _).alloc _)
  have R1 : Row W (w.heap.size + 1) 44 #[.bool false, .slice none 0 0, .slice none 0 0] := by rw [← hW]; have h := (Row.new (w.alloc (.cells #[.bool neg0, .slice e1 xs0.length k1, .slice e2 ys0.length k2] 44)) 44 #[.bool false, .slice none 0 0, .slice none 0 0]); simp only [World.size_alloc] at h; exact h
  have hBW : Below w.heap.size w W := by rw [← hW]; exact (((Below.refl _ _).alloc (by (try simp) <;> omega) _).alloc (by (try simp) <;> omega) _)
  have hsW : w.heap.size + 1 + 1 ≤ W.heap.size := by rw [← hW]; simp
  have h' := h.later hBW
  obtain ⟨t0, t1, t2, f0, f1, f2⟩ := R0.three
  have hmf : ∀ (fn : Fn) (first cap : Array Value) (w : World), (Instr.makeFunc fn first cap).run Tryz.prog w = .ok (.func fn first cap) w := fun _ _ _ _ => rfl
  go_enter Tryz.func54, Tryz.ntmps54
  go_wp2_with fail
  refine (plain_any h' (by omega)).mono ?_
  rintro e w1 ⟨r1, rfl, hp, hb1⟩
  have hs1 := hb1.size
  replace R0 := R0.later hb1
  replace R1 := R1.later hb1
  clear t0 t1 t2 f0 f1 f2 hW h h'
  obtain ⟨neg, xs, ys, a1, a2, c1, c2, rfl, A, B, hX, hx, hy, hpos, hn0⟩ := hp
  obtain ⟨t0, t1, t2, f0, f1, f2⟩ := R0.three
  obtain ⟨V, hV⟩ : ∃ V, ((w1.setCell ⟨w.heap.size, 0, none⟩ (.bool neg)).setCell ⟨w.heap.size, 1, none⟩ (.slice a1 xs.length c1)).setCell ⟨w.heap.size, 2, none⟩ (.slice a2 ys.length c2) = V := ⟨_, rfl⟩
  have hBV : Below w.heap.size w V := by rw [← hV]; exact below_set3 (hBW.trans (hb1.mono (by omega))) (by omega) _ _ _
  have hsV : w.heap.size + 1 + 1 ≤ V.heap.size := by rw [← hV]; simp; omega
  have AV : Arg V (.slice a1 xs.length c1) xs a1 c1 := by rw [← hV]; exact A.far R0 (noInts3 _ _ _ _ _ _ _) (kept3 _ _ _)
  have BV : Arg V (.slice a2 ys.length c2) ys a2 c2 := by rw [← hV]; exact B.far R0 (noInts3 _ _ _ _ _ _ _) (kept3 _ _ _)
  have Q0 : Row V (w.heap.size) 44 #[.bool neg, .slice a1 xs.length c1, .slice a2 ys.length c2] := by rw [← hV]; exact R0.set3 _ _ _
  have Q1 : Row V (w.heap.size + 1) 44 #[.bool false, .slice none 0 0, .slice none 0 0] := by rw [← hV]; exact ((R1.far (by simp <;> omega) _).far (by simp <;> omega) _).far (by simp <;> omega) _
  obtain ⟨p0, p1, p2, _, _, _⟩ := Q0.three
  have h0 := val_nonneg A.wf
  have e1 := ratOf_neg h0 hpos hn0
  have e2 := ratOf_abs (n := neg) h0 hpos
  have e3 := ratOf_den (n := neg) (A := val xs) hpos
  have hgp : 0 < (Int.gcd (val xs) (val ys) : Int) := gcd_pos_right hpos
  rw [hX] at e1 e2 e3
  have E1 := Lib.hid e1
  have E2 := Lib.hid e2
  have E3 := Lib.hid e3
  clear e1 e2 e3 hX hn0 R0 R1 A B hb1 hs1
  go_wp2_with fail
  refine (gcd_any AV BV (by omega) (by omega)).mono ?_
  rintro e w2 ⟨r2, gs, rfl, q2, l2, hb2⟩
  have hs2 := hb2.size
  obtain ⟨gd, gc, rfl, q2, Ag⟩ := q2.slice
  have q2e := q2.eq
  have hgs : 0 < val gs := by rw [q2e]; exact hgp
  have QE := Lib.hid q2e
  clear q2e hgp t0 t1 t2 f0 f1 f2 hV p0 p1 p2
  obtain ⟨U, hU⟩ : ∃ U, (w2.alloc (.cells #[.slice none 0 0] 42)).setCell ⟨w2.heap.size, 0, none⟩ (.slice gd gs.length gc) = U := ⟨_, rfl⟩
  have hBU : Below w2.heap.size w2 U := by rw [← hU]; exact ((Below.refl _ _).alloc (by simp) _).setCell (by simp) _
  have hB2 : Below w.heap.size w U := (hBV.trans (hb2.mono (by omega))).trans (hBU.mono (by omega))
  have hsU : U.heap.size = w2.heap.size + 1 := by rw [← hU]; simp
  have G : U.cell? ⟨w2.heap.size, 0, none⟩ = some (.slice gd gs.length gc) := by
    rw [← hU]; exact ((Row.new w2 42 #[.slice none 0 0]).set 0 _).cell 0
  obtain ⟨p0, p1, p2, _, _, _⟩ := ((Q0.later hb2).later hBU).three
  replace Q1 := (Q1.later hb2).later hBU
  have AU := (AV.later hb2).later hBU
  have BU := (BV.later hb2).later hBU
  have AgU := Ag.later hBU
  obtain ⟨pa, pb, pc, _, _, _⟩ := (Q0.later hb2).three
  go_wp2_with fail
  refine (bothNorm_any G AgU AU BU hgs (by omega) (by omega) (by omega)).mono ?_
  rintro e w3 ⟨r3, rfl, us, vs, b1, b2, j1, j2, rfl, q3, q4, l3, l4, hb3⟩
  have hs3 := hb3.size
  replace Q1 := Q1.later hb3
  obtain ⟨u0, u1, u2, g0, g1, g2⟩ := Q1.three
  clear p0 p1 p2 pa pb pc G
  go_wp2_with fail
  refine bodyPost_ret (v := .agg #[.bool neg, .slice b1 us.length j1, .slice b2 vs.length j2]) (by simp [results, Tryz.results54, go_sem, u0, u1, u2]) rfl ⟨_, rfl, ⟨us, vs, b1, b2, j1, j2, by rw [E1.out], ?_, ?_, by omega, by omega⟩, below_set3 (hB2.trans (hb3.mono (by omega))) (by omega) _ _ _⟩
  · rw [E2.out, ← QE.out]
    exact (q3.far Q1 (by decide) (kept3 _ _ _)).mono (by omega)
  · rw [E3.out, ← QE.out]
    exact (q4.far Q1 (by decide) (kept3 _ _ _)).mono (by omega)
end
section
open Go.RowKit
set_option linter.unusedVariables false
set_option linter.unusedSimpArgs false
set_option maxRecDepth 100000 in
set_option maxHeartbeats 8000000 in
theorem joinedP_any {n : Nat} {w : World} {m1 m2 : Bool} {xs ds zs es : List Int} {a1 a2 a3 a4 : Option Addr} {c1 c2 c3 c4 : Nat} {recv : Value}
    (A : Arg w (.slice a1 xs.length c1) xs a1 c1) (B : Arg w (.slice a2 ds.length c2) ds a2 c2) (C : Arg w (.slice a3 zs.length c3) zs a3 c3) (D : Arg w (.slice a4 es.length c4) es a4 c4)
    (hx : xs.length ≤ n) (hd : ds.length ≤ n) (hz : zs.length ≤ n) (he : es.length ≤ n) (hn : n ≤ 16777216) (hB : 0 < val ds) (hD : 0 < val es)
    (hr : SgnQ w recv (sgn m1 (val xs * val es)) (2 * n + 2)) :
    Calls Tryz.prog 77 #[.agg #[.bool m1, .slice a1 xs.length c1, .slice a2 ds.length c2], .agg #[.bool m2, .slice a3 zs.length c3, .slice a4 es.length c4], .func (.func 79) #[recv] #[]] w fun e w' =>
      ∃ r, e = .returned r ∧ ResQ w.heap.size w' r (ratOf m1 (val xs) (val ds) + ratOf m2 (val zs) (val es)) (2 * n + 6) ∧ Below w.heap.size w w' := by
  obtain ⟨W, hW⟩ : ∃ W, (((w.alloc (.cells #[.bool m1, .slice a1 xs.length c1, .slice a2 ds.length c2] 44)).alloc (.cells #[.bool m2, .slice a3 zs.length c3, .slice a4 es.length c4] 44)).alloc (.cells #[.bool false, .slice none 0 0, .slice none 0 0] 44)) = W := ⟨_, rfl⟩
  have R0 : Row W (w.heap.size) 44 #[.bool m1, .slice a1 xs.length c1, .slice a2 ds.length c2] := by rw [← hW]; exact (((Row.new _ _ _).alloc _).alloc _)
  have R1 : Row W (w.heap.size + 1) 44 #[.bool m2, .slice a3 zs.length c3, .slice a4 es.length c4] := by rw [← hW]; have h := (Row.new (w.alloc (.cells #[.bool m1, .slice a1 xs.length c1, .slice a2 ds.length c2] 44)) 44 #[.bool m2, .slice a3 zs.length c3, .slice a4 es.length c4]); simp only [World.size_alloc] at h; exact (h.alloc _)
  have R2 : Row W (w.heap.size + 1 + 1) 44 #[.bool false, .slice none 0 0, .slice none 0 0] := by rw [← hW]; have h := (Row.new ((w.alloc (.cells #[.bool m1, .slice a1 xs.length c1, .slice a2 ds.length c2] 44)).alloc (.cells #[.bool m2, .slice a3 zs.length c3, .slice a4 es.length c4] 44)) 44 #[.bool false, .slice none 0 0, .slice none 0 0]); simp only [World.size_alloc] at h; exact h
  have hBW : Below w.heap.size w W := by rw [← hW]; exact ((((Below.refl _ _).alloc (by (try simp) <;> omega) _).alloc (by (try simp) <;> omega) _).alloc (by (try simp) <;> omega) _)
  have hsW : w.heap.size + 1 + 1 + 1 ≤ W.heap.size := by rw [← hW]; simp
  have A' := A.later hBW
  have B' := B.later hBW
  have C' := C.later hBW
  have D' := D.later hBW
  have hr' := hr.later hBW
  obtain ⟨p0, p1, p2, _, _, _⟩ := R0.three
  obtain ⟨o0, o1, o2, _, _, _⟩ := R1.three
  go_enter Tryz.func77, Tryz.ntmps77
  go_wp2_with fail
  refine (over_any (neg := m2) (neg' := m1) C' B' hz hd (by omega)).mono ?_
  rintro e w1 ⟨r1, rfl, h1, hb1⟩
  have hs1 := hb1.size
  go_wp2_with fail
  refine (plus_any (hr'.later hb1) h1 (by omega)).mono ?_
  rintro e w2 ⟨r2, rfl, ⟨rn, us, b1, k1, rfl, F, hS, hl⟩, hb2⟩
  have hs2 := hb2.size
  have hval : ratOf rn (val us) (val ds * val es) = ratOf m1 (val xs) (val ds) + ratOf m2 (val zs) (val es) := rat_sum hB hD (hS.trans rfl)
  have HV := Lib.hid hval
  clear hval hS hW h1 hr hr' p0 p1 p2 o0 o1 o2
  obtain ⟨U, hU⟩ : ∃ U, w2.alloc (.cells #[.bool rn, .slice b1 us.length k1] 108) = U := ⟨_, rfl⟩
  have hBU : Below w2.heap.size w2 U := by rw [← hU]; exact (Below.refl _ _).alloc (by simp) _
  have hsU : w2.heap.size + 1 ≤ U.heap.size := by rw [← hU]; simp
  have Q7 : Row U w2.heap.size 108 #[.bool rn, .slice b1 us.length k1] := by rw [← hU]; exact Row.new _ _ _
  have P0 := ((R0.later hb1).later hb2).later hBU
  have P1 := ((R1.later hb1).later hb2).later hBU
  have P2 := ((R2.later hb1).later hb2).later hBU
  have BU := ((B'.later hb1).later hb2).later hBU
  have DU := ((D'.later hb1).later hb2).later hBU
  have FU := F.later hBU
  have hB2 : Below w.heap.size w U := ((hBW.trans (hb1.mono (by omega))).trans (hb2.mono (by omega))).trans (hBU.mono (by omega))
  have mkS : ∀ X, Kept (w.heap.size + 1 + 1) U X → X.cell? ⟨w2.heap.size, 0, none⟩ = some (.bool rn) ∧ X.cell? ⟨w2.heap.size, 1, none⟩ = some (.slice b1 us.length k1) ∧ X.cell? ⟨w.heap.size, 2, none⟩ = some (.slice a2 ds.length c2) ∧ X.cell? ⟨w.heap.size + 1, 2, none⟩ = some (.slice a4 es.length c4) ∧ Kept (w.heap.size + 1 + 1) U X := fun X h => ⟨(Q7.kept h (by omega)).cell 0, (Q7.kept h (by omega)).cell 1, (P0.kept h (by omega)).cell 2, (P1.kept h (by omega)).cell 2, h⟩
  go_wp2_with fail
  clear hU R0 R1 R2 A B C D A' B' C' D' F hb1 hb2 hBU hBW
  go_region_held3 (fun X => X.cell? ⟨w2.heap.size, 0, none⟩ = some (.bool rn) ∧ X.cell? ⟨w2.heap.size, 1, none⟩ = some (.slice b1 us.length k1) ∧ X.cell? ⟨w.heap.size, 2, none⟩ = some (.slice a2 ds.length c2) ∧ X.cell? ⟨w.heap.size + 1, 2, none⟩ = some (.slice a4 es.length c4) ∧ Kept (w.heap.size + 1 + 1) U X)
    (((refine mkS _ ?_; (repeat' (first | exact Kept.refl _ _ | refine Kept.drew ?_ | refine Kept.alloc ?_ _ | refine Kept.set ?_ _ _ | refine Kept.below ?_ (by assumption))))))
    ((first
      | (go_at_call 54; refine (norm_any (n := 2 * n + 4) ⟨rn, us, z3, b1, ad3, k1, cp3, rfl, F3, A3, HV3.out, by omega, by omega⟩ (by omega)).mono ?_; rintro e w4 ⟨r4, rfl, q4, hb4⟩; obtain ⟨ng, fs, gs, f1, f2, j1, j2, rfl⟩ := q4.arg.box; have P4 := P3.later hb4; obtain ⟨u0, u1, u2, g0, g1, g2⟩ := P4.three)
      | (go_at_call 80; refine (product_any (by first | exact Row.new _ _ _ | exact (Row.new _ _ _).drew) (BU.later (by (repeat' (first | exact Below.refl _ _ | refine Below.drew ?_ | refine Below.alloc ?_ (by (try simp) <;> omega) _ | refine below_set3 ?_ (by (try simp) <;> omega) _ _ _ | refine below_set2 ?_ (by (try simp) <;> omega) _ _ | refine Below.setCell ?_ (by (try simp) <;> omega) _ | refine Below.trans ?_ (Below.mono (by assumption) (by (try simp) <;> omega)))))) (DU.later (by (repeat' (first | exact Below.refl _ _ | refine Below.drew ?_ | refine Below.alloc ?_ (by (try simp) <;> omega) _ | refine below_set3 ?_ (by (try simp) <;> omega) _ _ _ | refine below_set2 ?_ (by (try simp) <;> omega) _ _ | refine Below.setCell ?_ (by (try simp) <;> omega) _ | refine Below.trans ?_ (Below.mono (by assumption) (by (try simp) <;> omega)))))) hd he (by omega)).mono ?_; rintro e w3 ⟨r3, z3, rfl, q3, l3, hb3⟩; obtain ⟨ad3, cp3, rfl, q3, A3⟩ := q3.slice; have hb3' := (show Below U.heap.size U w3 by (repeat' (first | exact Below.refl _ _ | refine Below.drew ?_ | refine Below.alloc ?_ (by (try simp) <;> omega) _ | refine below_set3 ?_ (by (try simp) <;> omega) _ _ _ | refine below_set2 ?_ (by (try simp) <;> omega) _ _ | refine Below.setCell ?_ (by (try simp) <;> omega) _ | refine Below.trans ?_ (Below.mono (by assumption) (by (try simp) <;> omega))))); have F3 := FU.later hb3'; have P3 := P2.later hb3'; have HV3 := Lib.hid ((congrArg (ratOf rn (val us)) q3.eq).trans HV.out))))
  have hs4 := hb4.size
  have hs3 := hb3'.size
  go_wp2_with fail
  refine bodyPost_ret (v := .agg #[.bool ng, .slice f1 fs.length j1, .slice f2 gs.length j2]) (by simp [results, Tryz.results77, go_sem, u0, u1, u2]) rfl ⟨_, rfl, ?_, ?_⟩
  · exact ((q4.far P4 (by decide) (kept3 _ _ _)).mono (by omega)).more (by omega)
  · exact below_set3 ((hB2.trans (hb3'.mono (by omega))).trans (hb4.mono (by omega))) (by omega) _ _ _
set_option maxRecDepth 100000 in
set_option maxHeartbeats 8000000 in
theorem joinedM_any {n : Nat} {w : World} {m1 m2 : Bool} {xs ds zs es : List Int} {a1 a2 a3 a4 : Option Addr} {c1 c2 c3 c4 : Nat} {recv : Value}
    (A : Arg w (.slice a1 xs.length c1) xs a1 c1) (B : Arg w (.slice a2 ds.length c2) ds a2 c2) (C : Arg w (.slice a3 zs.length c3) zs a3 c3) (D : Arg w (.slice a4 es.length c4) es a4 c4)
    (hx : xs.length ≤ n) (hd : ds.length ≤ n) (hz : zs.length ≤ n) (he : es.length ≤ n) (hn : n ≤ 16777216) (hB : 0 < val ds) (hD : 0 < val es)
    (hr : SgnQ w recv (sgn m1 (val xs * val es)) (2 * n + 2)) :
    Calls Tryz.prog 77 #[.agg #[.bool m1, .slice a1 xs.length c1, .slice a2 ds.length c2], .agg #[.bool m2, .slice a3 zs.length c3, .slice a4 es.length c4], .func (.func 133) #[recv] #[]] w fun e w' =>
      ∃ r, e = .returned r ∧ ResQ w.heap.size w' r (ratOf m1 (val xs) (val ds) - ratOf m2 (val zs) (val es)) (2 * n + 6) ∧ Below w.heap.size w w' := by
  obtain ⟨W, hW⟩ : ∃ W, (((w.alloc (.cells #[.bool m1, .slice a1 xs.length c1, .slice a2 ds.length c2] 44)).alloc (.cells #[.bool m2, .slice a3 zs.length c3, .slice a4 es.length c4] 44)).alloc (.cells #[.bool false, .slice none 0 0, .slice none 0 0] 44)) = W := ⟨_, rfl⟩
  have R0 : Row W (w.heap.size) 44 #[.bool m1, .slice a1 xs.length c1, .slice a2 ds.length c2] := by rw [← hW]; exact (((Row.new _ _ _).alloc _).alloc _)
  have R1 : Row W (w.heap.size + 1) 44 #[.bool m2, .slice a3 zs.length c3, .slice a4 es.length c4] := by rw [← hW]; have h := (Row.new (w.alloc (.cells #[.bool m1, .slice a1 xs.length c1, .slice a2 ds.length c2] 44)) 44 #[.bool m2, .slice a3 zs.length c3, .slice a4 es.length c4]); simp only [World.size_alloc] at h; exact (h.alloc _)
  have R2 : Row W (w.heap.size + 1 + 1) 44 #[.bool false, .slice none 0 0, .slice none 0 0] := by rw [← hW]; have h := (Row.new ((w.alloc (.cells #[.bool m1, .slice a1 xs.length c1, .slice a2 ds.length c2] 44)).alloc (.cells #[.bool m2, .slice a3 zs.length c3, .slice a4 es.length c4] 44)) 44 #[.bool false, .slice none 0 0, .slice none 0 0]); simp only [World.size_alloc] at h; exact h
  have hBW : Below w.heap.size w W := by rw [← hW]; exact ((((Below.refl _ _).alloc (by (try simp) <;> omega) _).alloc (by (try simp) <;> omega) _).alloc (by (try simp) <;> omega) _)
  have hsW : w.heap.size + 1 + 1 + 1 ≤ W.heap.size := by rw [← hW]; simp
  have A' := A.later hBW
  have B' := B.later hBW
  have C' := C.later hBW
  have D' := D.later hBW
  have hr' := hr.later hBW
  obtain ⟨p0, p1, p2, _, _, _⟩ := R0.three
  obtain ⟨o0, o1, o2, _, _, _⟩ := R1.three
  go_enter Tryz.func77, Tryz.ntmps77
  go_wp2_with fail
  refine (over_any (neg := m2) (neg' := m1) C' B' hz hd (by omega)).mono ?_
  rintro e w1 ⟨r1, rfl, h1, hb1⟩
  have hs1 := hb1.size
  go_wp2_with fail
  refine (minus_any (hr'.later hb1) h1 (by omega)).mono ?_
  rintro e w2 ⟨r2, rfl, ⟨rn, us, b1, k1, rfl, F, hS, hl⟩, hb2⟩
  have hs2 := hb2.size
  have hval : ratOf rn (val us) (val ds * val es) = ratOf m1 (val xs) (val ds) - ratOf m2 (val zs) (val es) := rat_diff hB hD (hS.trans (by rw [sgn_not, Int.sub_eq_add_neg]))
  have HV := Lib.hid hval
  clear hval hS hW h1 hr hr' p0 p1 p2 o0 o1 o2
  obtain ⟨U, hU⟩ : ∃ U, w2.alloc (.cells #[.bool rn, .slice b1 us.length k1] 108) = U := ⟨_, rfl⟩
  have hBU : Below w2.heap.size w2 U := by rw [← hU]; exact (Below.refl _ _).alloc (by simp) _
  have hsU : w2.heap.size + 1 ≤ U.heap.size := by rw [← hU]; simp
  have Q7 : Row U w2.heap.size 108 #[.bool rn, .slice b1 us.length k1] := by rw [← hU]; exact Row.new _ _ _
  have P0 := ((R0.later hb1).later hb2).later hBU
  have P1 := ((R1.later hb1).later hb2).later hBU
  have P2 := ((R2.later hb1).later hb2).later hBU
  have BU := ((B'.later hb1).later hb2).later hBU
  have DU := ((D'.later hb1).later hb2).later hBU
  have FU := F.later hBU
  have hB2 : Below w.heap.size w U := ((hBW.trans (hb1.mono (by omega))).trans (hb2.mono (by omega))).trans (hBU.mono (by omega))
  have mkS : ∀ X, Kept (w.heap.size + 1 + 1) U X → X.cell? ⟨w2.heap.size, 0, none⟩ = some (.bool rn) ∧ X.cell? ⟨w2.heap.size, 1, none⟩ = some (.slice b1 us.length k1) ∧ X.cell? ⟨w.heap.size, 2, none⟩ = some (.slice a2 ds.length c2) ∧ X.cell? ⟨w.heap.size + 1, 2, none⟩ = some (.slice a4 es.length c4) ∧ Kept (w.heap.size + 1 + 1) U X := fun X h => ⟨(Q7.kept h (by omega)).cell 0, (Q7.kept h (by omega)).cell 1, (P0.kept h (by omega)).cell 2, (P1.kept h (by omega)).cell 2, h⟩
  go_wp2_with fail
  clear hU R0 R1 R2 A B C D A' B' C' D' F hb1 hb2 hBU hBW
  go_region_held3 (fun X => X.cell? ⟨w2.heap.size, 0, none⟩ = some (.bool rn) ∧ X.cell? ⟨w2.heap.size, 1, none⟩ = some (.slice b1 us.length k1) ∧ X.cell? ⟨w.heap.size, 2, none⟩ = some (.slice a2 ds.length c2) ∧ X.cell? ⟨w.heap.size + 1, 2, none⟩ = some (.slice a4 es.length c4) ∧ Kept (w.heap.size + 1 + 1) U X)
    (((refine mkS _ ?_; (repeat' (first | exact Kept.refl _ _ | refine Kept.drew ?_ | refine Kept.alloc ?_ _ | refine Kept.set ?_ _ _ | refine Kept.below ?_ (by assumption))))))
    ((first
      | (go_at_call 54; refine (norm_any (n := 2 * n + 4) ⟨rn, us, z3, b1, ad3, k1, cp3, rfl, F3, A3, HV3.out, by omega, by omega⟩ (by omega)).mono ?_; rintro e w4 ⟨r4, rfl, q4, hb4⟩; obtain ⟨ng, fs, gs, f1, f2, j1, j2, rfl⟩ := q4.arg.box; have P4 := P3.later hb4; obtain ⟨u0, u1, u2, g0, g1, g2⟩ := P4.three)
      | (go_at_call 80; refine (product_any (by first | exact Row.new _ _ _ | exact (Row.new _ _ _).drew) (BU.later (by (repeat' (first | exact Below.refl _ _ | refine Below.drew ?_ | refine Below.alloc ?_ (by (try simp) <;> omega) _ | refine below_set3 ?_ (by (try simp) <;> omega) _ _ _ | refine below_set2 ?_ (by (try simp) <;> omega) _ _ | refine Below.setCell ?_ (by (try simp) <;> omega) _ | refine Below.trans ?_ (Below.mono (by assumption) (by (try simp) <;> omega)))))) (DU.later (by (repeat' (first | exact Below.refl _ _ | refine Below.drew ?_ | refine Below.alloc ?_ (by (try simp) <;> omega) _ | refine below_set3 ?_ (by (try simp) <;> omega) _ _ _ | refine below_set2 ?_ (by (try simp) <;> omega) _ _ | refine Below.setCell ?_ (by (try simp) <;> omega) _ | refine Below.trans ?_ (Below.mono (by assumption) (by (try simp) <;> omega)))))) hd he (by omega)).mono ?_; rintro e w3 ⟨r3, z3, rfl, q3, l3, hb3⟩; obtain ⟨ad3, cp3, rfl, q3, A3⟩ := q3.slice; have hb3' := (show Below U.heap.size U w3 by (repeat' (first | exact Below.refl _ _ | refine Below.drew ?_ | refine Below.alloc ?_ (by (try simp) <;> omega) _ | refine below_set3 ?_ (by (try simp) <;> omega) _ _ _ | refine below_set2 ?_ (by (try simp) <;> omega) _ _ | refine Below.setCell ?_ (by (try simp) <;> omega) _ | refine Below.trans ?_ (Below.mono (by assumption) (by (try simp) <;> omega))))); have F3 := FU.later hb3'; have P3 := P2.later hb3'; have HV3 := Lib.hid ((congrArg (ratOf rn (val us)) q3.eq).trans HV.out))))
  have hs4 := hb4.size
  have hs3 := hb3'.size
  go_wp2_with fail
  refine bodyPost_ret (v := .agg #[.bool ng, .slice f1 fs.length j1, .slice f2 gs.length j2]) (by simp [results, Tryz.results77, go_sem, u0, u1, u2]) rfl ⟨_, rfl, ?_, ?_⟩
  · exact ((q4.far P4 (by decide) (kept3 _ _ _)).mono (by omega)).more (by omega)
  · exact below_set3 ((hB2.trans (hb3'.mono (by omega))).trans (hb4.mono (by omega))) (by omega) _ _ _
end
section
open Go.RowKit
set_option linter.unusedVariables false
set_option linter.unusedSimpArgs false
set_option maxRecDepth 100000 in
set_option maxHeartbeats 8000000 in
theorem addQ_any {n : Nat} {w : World} {u v : Value} {X Y : Rat} (hu : ArgQ w u X n) (hv : ArgQ w v Y n) (hn : n ≤ 16777000) :
    Calls Tryz.prog 40 #[u, v] w fun e w' => ∃ r, e = .returned r ∧ ResQ w.heap.size w' r (X + Y) (2 * n + 10) ∧ Below w.heap.size w w' := by
  obtain ⟨n1, ps, qs, e1, e2, k1, k2, rfl⟩ := hu.box
  obtain ⟨n2, rs, ss, e3, e4, k3, k4, rfl⟩ := hv.box
  obtain ⟨W, hW⟩ : ∃ W, (((w.alloc (.cells #[.bool n1, .slice e1 ps.length k1, .slice e2 qs.length k2] 44)).alloc (.cells #[.bool n2, .slice e3 rs.length k3, .slice e4 ss.length k4] 44)).alloc (.cells #[.bool false, .slice none 0 0, .slice none 0 0] 44)) = W := ⟨_, rfl⟩
  have R0 : Row W (w.heap.size) 44 #[.bool n1, .slice e1 ps.length k1, .slice e2 qs.length k2] := by rw [← hW]; exact (((Row.new _ _ _).alloc _).alloc _)
  have R1 : Row W (w.heap.size + 1) 44 #[.bool n2, .slice e3 rs.length k3, .slice e4 ss.length k4] := by rw [← hW]; have h := (Row.new (w.alloc (.cells #[.bool n1, .slice e1 ps.length k1, .slice e2 qs.length k2] 44)) 44 #[.bool n2, .slice e3 rs.length k3, .slice e4 ss.length k4]); simp only [World.size_alloc] at h; exact (h.alloc _)
  have R2 : Row W (w.heap.size + 1 + 1) 44 #[.bool false, .slice none 0 0, .slice none 0 0] := by rw [← hW]; have h := (Row.new ((w.alloc (.cells #[.bool n1, .slice e1 ps.length k1, .slice e2 qs.length k2] 44)).alloc (.cells #[.bool n2, .slice e3 rs.length k3, .slice e4 ss.length k4] 44)) 44 #[.bool false, .slice none 0 0, .slice none 0 0]); simp only [World.size_alloc] at h; exact h
  have hBW : Below w.heap.size w W := by rw [← hW]; exact ((((Below.refl _ _).alloc (by (try simp) <;> omega) _).alloc (by (try simp) <;> omega) _).alloc (by (try simp) <;> omega) _)
  have hsW : w.heap.size + 1 + 1 + 1 ≤ W.heap.size := by rw [← hW]; simp
  have hu' := (hu.later hBW).later (Below.refl _ W).drew
  have hv' := hv.later hBW
  obtain ⟨p0, p1, p2, p3, p4, p5⟩ := R0.three
  obtain ⟨o0, o1, o2, o3, o4, o5⟩ := R1.three
  have hmf : ∀ (fn : Fn) (first cap : Array Value) (w : World), (Instr.makeFunc fn first cap).run Tryz.prog w = .ok (.func fn first cap) w := fun _ _ _ _ => rfl
  go_enter Tryz.func40, Tryz.ntmps40
  go_wp2_with fail
  clear hW
  refine wp_region_noPanic ?_
  refine wp_region_held_drew (S := fun _ => True) (by kernel_rfl) trivial (fun hHeld => ?_)
  clear hHeld
  refine wpAnyH_ready (rs := [0, 2]) (by kernel_rfl) (by simp) ?_
  refine AllReadyH.cons rfl (fun K hK => ?o1_0) (AllReadyH.cons rfl (fun K hK => ?o1_2) AllReadyH.nil)
  case o1_0 =>
    go_simp
    refine hK.out _ _ trivial (fun hHeld => ?_)
    clear hK K hHeld
    try simp only [Act.put, List.setIfInBounds_toArray, List.set_cons_zero, List.set_cons_succ]
    refine wpAnyH_ready (rs := [1, 2]) (by kernel_rfl) (by simp) ?_
    refine AllReadyH.cons rfl (fun K hK => ?o2_1) (AllReadyH.cons rfl (fun K hK => ?o2_2) AllReadyH.nil)
    case o2_1 =>
      go_simp
      (refine (plain_any hu' (by omega)).mono ?_)
      rintro e w1 ⟨r1, rfl, h1, hb1⟩
      have hb1d : Below W.heap.size W w1 := ⟨hb1.os, hb1.tape, hb1.output, hb1.size, hb1.block⟩
      obtain ⟨m1, xs, ds, a1, a2, c1, c2, rfl, A, B, hX, hx, hd, hB, _⟩ := h1
      have R0' := R0.later hb1d
      have R1' := R1.later hb1d
      obtain ⟨i0, i1, i2, _, _, _⟩ := R1'.three
      go_simp
      refine hK.out _ _ trivial (fun hHeld => ?_)
      clear hK K hHeld
      try simp only [Act.put, List.setIfInBounds_toArray, List.set_cons_zero, List.set_cons_succ]
      refine wpAnyH_ready (rs := [2]) (by kernel_rfl) (by simp) ?_
      refine AllReadyH.cons rfl (fun K hK => ?o3_2) AllReadyH.nil
      case o3_2 =>
        go_simp
        refine hK.out _ _ trivial (fun hHeld => ?_)
        clear hK K hHeld
        try simp only [Act.put, List.setIfInBounds_toArray, List.set_cons_zero, List.set_cons_succ]
        refine wpAnyH_ready (rs := [3]) (by kernel_rfl) (by simp) ?_
        refine AllReadyH.cons rfl (fun K hK => ?o4_3) AllReadyH.nil
        case o4_3 =>
          go_simp
          (refine (plain_any (hv'.later (show Below W.heap.size W w1 from hb1d)) (by omega)).mono ?_)
          rintro e w2 ⟨r2, rfl, h2, hb2⟩
          obtain ⟨m2, zs, es, a3, a4, c3, c4, rfl, C, D, hY, hz, he, hD, _⟩ := h2
          obtain ⟨t0, t1, t2, t3, t4, t5⟩ := (R0'.later hb2).three
          obtain ⟨s0, s1, s2, s3, s4, s5⟩ := (R1'.later hb2).three
          go_simp
          refine hK.out _ _ trivial (fun hHeld => ?_)
          clear hK K hHeld
          try simp only [Act.put, List.setIfInBounds_toArray, List.set_cons_zero, List.set_cons_succ]
          refine wpAnyH_ready (rs := [4]) (by kernel_rfl) (by simp) ?_
          refine AllReadyH.cons rfl (fun K hK => ?o5_4) AllReadyH.nil
          case o5_4 =>
            go_simp
            refine hK.out _ _ trivial (fun hHeld => ?_)
            clear hK K hHeld
            try simp only [Act.put, List.setIfInBounds_toArray, List.set_cons_zero, List.set_cons_succ]
            refine wpAnyH_ready (rs := [5]) (by kernel_rfl) (by simp) ?_
            refine AllReadyH.cons rfl (fun K hK => ?o6_5) AllReadyH.nil
            case o6_5 =>
              go_simp
              refine hK.out _ _ trivial (fun hHeld => ?_)
              clear hK K hHeld
              try simp only [Act.put, List.setIfInBounds_toArray, List.set_cons_zero, List.set_cons_succ]
              refine wpAnyH_done (by kernel_rfl) ?_ _
              refine NoPanic.normal ?_
              have hs1 := hb1d.size
              have hs2 := hb2.size
              obtain ⟨V, hV⟩ : ∃ V, (((((w2.setCell ⟨w.heap.size, 0, none⟩ (.bool m1)).setCell ⟨w.heap.size, 1, none⟩ (.slice a1 xs.length c1)).setCell ⟨w.heap.size, 2, none⟩ (.slice a2 ds.length c2)).setCell ⟨w.heap.size + 1, 0, none⟩ (.bool m2)).setCell ⟨w.heap.size + 1, 1, none⟩ (.slice a3 zs.length c3)).setCell ⟨w.heap.size + 1, 2, none⟩ (.slice a4 es.length c4) = V := ⟨_, rfl⟩
              have Z0 := (R0'.later hb2)
              have Z1 := (R1'.later hb2)
              have Z1' : Row (((w2.setCell ⟨w.heap.size, 0, none⟩ (.bool m1)).setCell ⟨w.heap.size, 1, none⟩ (.slice a1 xs.length c1)).setCell ⟨w.heap.size, 2, none⟩ (.slice a2 ds.length c2)) (w.heap.size + 1) 44 #[.bool n2, .slice e3 rs.length k3, .slice e4 ss.length k4] := ((Z1.far (by simp) _).far (by simp) _).far (by simp) _
              have P0 : Row V (w.heap.size) 44 #[.bool m1, .slice a1 xs.length c1, .slice a2 ds.length c2] := by rw [← hV]; exact (((Z0.set3 _ _ _).far (by simp) _).far (by simp) _).far (by simp) _
              have P1 : Row V (w.heap.size + 1) 44 #[.bool m2, .slice a3 zs.length c3, .slice a4 es.length c4] := by rw [← hV]; exact Z1'.set3 _ _ _
              have P2 : Row V (w.heap.size + 1 + 1) 44 #[.bool false, .slice none 0 0, .slice none 0 0] := by rw [← hV]; exact ((((((((R2.later hb1d).later hb2)).far (by simp <;> omega) _).far (by simp <;> omega) _).far (by simp <;> omega) _).far (by simp <;> omega) _).far (by simp <;> omega) _).far (by simp <;> omega) _
              have hsV : w2.heap.size ≤ V.heap.size := by rw [← hV]; simp
              have hB2 : Below w.heap.size w V := by rw [← hV]; exact below_set3 (below_set3 ((hBW.trans (hb1d.mono (by omega))).trans (hb2.mono (by omega))) (by omega) _ _ _) (by omega) _ _ _
              have AV : Arg V (.slice a1 xs.length c1) xs a1 c1 := by rw [← hV]; exact ((A.later hb2).far Z0 (noInts3 _ _ _ _ _ _ _) (kept3 _ _ _)).far Z1' (noInts3 _ _ _ _ _ _ _) (kept3 _ _ _)
              have BV : Arg V (.slice a2 ds.length c2) ds a2 c2 := by rw [← hV]; exact ((B.later hb2).far Z0 (noInts3 _ _ _ _ _ _ _) (kept3 _ _ _)).far Z1' (noInts3 _ _ _ _ _ _ _) (kept3 _ _ _)
              have CV : Arg V (.slice a3 zs.length c3) zs a3 c3 := by rw [← hV]; exact (C.far Z0 (noInts3 _ _ _ _ _ _ _) (kept3 _ _ _)).far Z1' (noInts3 _ _ _ _ _ _ _) (kept3 _ _ _)
              have DV : Arg V (.slice a4 es.length c4) es a4 c4 := by rw [← hV]; exact (D.far Z0 (noInts3 _ _ _ _ _ _ _) (kept3 _ _ _)).far Z1' (noInts3 _ _ _ _ _ _ _) (kept3 _ _ _)
              have hfin : ratOf m1 (val xs) (val ds) + ratOf m2 (val zs) (val es) = X + Y := by rw [hX, hY]
              have HF := Lib.hid hfin
              have mkS : ∀ X, Kept (w.heap.size + 1 + 1) V X → X.cell? ⟨w.heap.size, 0, none⟩ = some (.bool m1) ∧ X.cell? ⟨w.heap.size, 1, none⟩ = some (.slice a1 xs.length c1) ∧ X.cell? ⟨w.heap.size, 2, none⟩ = some (.slice a2 ds.length c2) ∧ X.cell? ⟨w.heap.size + 1, 0, none⟩ = some (.bool m2) ∧ X.cell? ⟨w.heap.size + 1, 1, none⟩ = some (.slice a3 zs.length c3) ∧ X.cell? ⟨w.heap.size + 1, 2, none⟩ = some (.slice a4 es.length c4) ∧ Kept (w.heap.size + 1 + 1) V X := fun X h => ⟨(P0.kept h (by omega)).cell 0, (P0.kept h (by omega)).cell 1, (P0.kept h (by omega)).cell 2, (P1.kept h (by omega)).cell 0, (P1.kept h (by omega)).cell 1, (P1.kept h (by omega)).cell 2, h⟩
              clear hfin hX hY Z0 Z1 Z1' A B C D R0 R1 R2 R0' R1' hu hv hu' hv' hb1 hb1d hb2 hBW p0 p1 p2 p3 p4 p5 o0 o1 o2 o3 o4 o5 t0 t1 t2 t3 t4 t5 s0 s1 s2 s3 s4 s5 i0 i1 i2
              go_wp2_with fail
              (try rw [hV])
              clear hV
              go_region_held3 (fun X => X.cell? ⟨w.heap.size, 0, none⟩ = some (.bool m1) ∧ X.cell? ⟨w.heap.size, 1, none⟩ = some (.slice a1 xs.length c1) ∧ X.cell? ⟨w.heap.size, 2, none⟩ = some (.slice a2 ds.length c2) ∧ X.cell? ⟨w.heap.size + 1, 0, none⟩ = some (.bool m2) ∧ X.cell? ⟨w.heap.size + 1, 1, none⟩ = some (.slice a3 zs.length c3) ∧ X.cell? ⟨w.heap.size + 1, 2, none⟩ = some (.slice a4 es.length c4) ∧ Kept (w.heap.size + 1 + 1) V X)
                (((refine mkS _ ?_; (repeat' (first | exact Kept.refl _ _ | refine Kept.drew ?_ | refine Kept.alloc ?_ _ | refine Kept.set ?_ _ _ | refine Kept.below ?_ (by assumption))))))
                ((first
                  | (go_at_call 77; refine (joinedP_any (n := n + 2) (AV.later hb3d) (BV.later hb3d) (CV.later hb3d) (DV.later hb3d) (by omega) (by omega) (by omega) (by omega) (by omega) hB hD (h3.later (Below.refl _ _))).mono ?_; rintro e w4 ⟨r4, rfl, q4, hb4⟩; rw [HF.out] at q4; obtain ⟨ng, fs, gs, f1, f2, j1, j2, rfl⟩ := q4.arg.box; have P4 := P3.later hb4; obtain ⟨u0, u1, u2, g0, g1, g2⟩ := P4.three)
                  | (go_at_call 78; refine (over_any (AV.later (Below.refl _ V).drew) (DV.later (Below.refl _ V).drew) (show xs.length ≤ n + 2 by omega) (by omega) (by omega)).mono ?_; rintro e w3 ⟨r3, rfl, h3, hb3⟩; have hb3d : Below V.heap.size V w3 := ⟨hb3.os, hb3.tape, hb3.output, hb3.size, hb3.block⟩; have P3 := P2.later hb3d)))
              have hs3 := hb3d.size
              have hs4 := hb4.size
              go_wp2_with fail
              refine bodyPost_ret (v := .agg #[.bool ng, .slice f1 fs.length j1, .slice f2 gs.length j2]) (by simp [results, Tryz.results40, go_sem, u0, u1, u2]) rfl ⟨_, rfl, ?_, ?_⟩
              · exact ((q4.far P4 (by decide) (kept3 _ _ _)).mono (by omega)).more (by omega)
              · exact below_set3 ((hB2.trans (hb3d.mono (by omega))).trans (hb4.mono (by omega))) (by omega) _ _ _
    case o2_2 =>
      go_simp
      refine hK.out _ _ trivial (fun hHeld => ?_)
      clear hK K hHeld
      try simp only [Act.put, List.setIfInBounds_toArray, List.set_cons_zero, List.set_cons_succ]
      refine wpAnyH_ready (rs := [1]) (by kernel_rfl) (by simp) ?_
      refine AllReadyH.cons rfl (fun K hK => ?o7_1) AllReadyH.nil
      case o7_1 =>
        go_simp
        (refine (plain_any hu' (by omega)).mono ?_)
        rintro e w1 ⟨r1, rfl, h1, hb1⟩
        have hb1d : Below W.heap.size W w1 := ⟨hb1.os, hb1.tape, hb1.output, hb1.size, hb1.block⟩
        obtain ⟨m1, xs, ds, a1, a2, c1, c2, rfl, A, B, hX, hx, hd, hB, _⟩ := h1
        have R0' := R0.later hb1d
        have R1' := R1.later hb1d
        obtain ⟨i0, i1, i2, _, _, _⟩ := R1'.three
        go_simp
        refine hK.out _ _ trivial (fun hHeld => ?_)
        clear hK K hHeld
        try simp only [Act.put, List.setIfInBounds_toArray, List.set_cons_zero, List.set_cons_succ]
        refine wpAnyH_ready (rs := [3]) (by kernel_rfl) (by simp) ?_
        refine AllReadyH.cons rfl (fun K hK => ?o8_3) AllReadyH.nil
        case o8_3 =>
          go_simp
          (refine (plain_any (hv'.later (show Below W.heap.size W w1 from hb1d)) (by omega)).mono ?_)
          rintro e w2 ⟨r2, rfl, h2, hb2⟩
          obtain ⟨m2, zs, es, a3, a4, c3, c4, rfl, C, D, hY, hz, he, hD, _⟩ := h2
          obtain ⟨t0, t1, t2, t3, t4, t5⟩ := (R0'.later hb2).three
          obtain ⟨s0, s1, s2, s3, s4, s5⟩ := (R1'.later hb2).three
          go_simp
          refine hK.out _ _ trivial (fun hHeld => ?_)
          clear hK K hHeld
          try simp only [Act.put, List.setIfInBounds_toArray, List.set_cons_zero, List.set_cons_succ]
          refine wpAnyH_ready (rs := [4]) (by kernel_rfl) (by simp) ?_
          refine AllReadyH.cons rfl (fun K hK => ?o9_4) AllReadyH.nil
          case o9_4 =>
            go_simp
            refine hK.out _ _ trivial (fun hHeld => ?_)
            clear hK K hHeld
            try simp only [Act.put, List.setIfInBounds_toArray, List.set_cons_zero, List.set_cons_succ]
            refine wpAnyH_ready (rs := [5]) (by kernel_rfl) (by simp) ?_
            refine AllReadyH.cons rfl (fun K hK => ?o10_5) AllReadyH.nil
            case o10_5 =>
              go_simp
              refine hK.out _ _ trivial (fun hHeld => ?_)
              clear hK K hHeld
              try simp only [Act.put, List.setIfInBounds_toArray, List.set_cons_zero, List.set_cons_succ]
              refine wpAnyH_done (by kernel_rfl) ?_ _
              refine NoPanic.normal ?_
              have hs1 := hb1d.size
              have hs2 := hb2.size
              obtain ⟨V, hV⟩ : ∃ V, (((((w2.setCell ⟨w.heap.size, 0, none⟩ (.bool m1)).setCell ⟨w.heap.size, 1, none⟩ (.slice a1 xs.length c1)).setCell ⟨w.heap.size, 2, none⟩ (.slice a2 ds.length c2)).setCell ⟨w.heap.size + 1, 0, none⟩ (.bool m2)).setCell ⟨w.heap.size + 1, 1, none⟩ (.slice a3 zs.length c3)).setCell ⟨w.heap.size + 1, 2, none⟩ (.slice a4 es.length c4) = V := ⟨_, rfl⟩
              have Z0 := (R0'.later hb2)
              have Z1 := (R1'.later hb2)
              have Z1' : Row (((w2.setCell ⟨w.heap.size, 0, none⟩ (.bool m1)).setCell ⟨w.heap.size, 1, none⟩ (.slice a1 xs.length c1)).setCell ⟨w.heap.size, 2, none⟩ (.slice a2 ds.length c2)) (w.heap.size + 1) 44 #[.bool n2, .slice e3 rs.length k3, .slice e4 ss.length k4] := ((Z1.far (by simp) _).far (by simp) _).far (by simp) _
              have P0 : Row V (w.heap.size) 44 #[.bool m1, .slice a1 xs.length c1, .slice a2 ds.length c2] := by rw [← hV]; exact (((Z0.set3 _ _ _).far (by simp) _).far (by simp) _).far (by simp) _
              have P1 : Row V (w.heap.size + 1) 44 #[.bool m2, .slice a3 zs.length c3, .slice a4 es.length c4] := by rw [← hV]; exact Z1'.set3 _ _ _
              have P2 : Row V (w.heap.size + 1 + 1) 44 #[.bool false, .slice none 0 0, .slice none 0 0] := by rw [← hV]; exact ((((((((R2.later hb1d).later hb2)).far (by simp <;> omega) _).far (by simp <;> omega) _).far (by simp <;> omega) _).far (by simp <;> omega) _).far (by simp <;> omega) _).far (by simp <;> omega) _
              have hsV : w2.heap.size ≤ V.heap.size := by rw [← hV]; simp
              have hB2 : Below w.heap.size w V := by rw [← hV]; exact below_set3 (below_set3 ((hBW.trans (hb1d.mono (by omega))).trans (hb2.mono (by omega))) (by omega) _ _ _) (by omega) _ _ _
              have AV : Arg V (.slice a1 xs.length c1) xs a1 c1 := by rw [← hV]; exact ((A.later hb2).far Z0 (noInts3 _ _ _ _ _ _ _) (kept3 _ _ _)).far Z1' (noInts3 _ _ _ _ _ _ _) (kept3 _ _ _)
              have BV : Arg V (.slice a2 ds.length c2) ds a2 c2 := by rw [← hV]; exact ((B.later hb2).far Z0 (noInts3 _ _ _ _ _ _ _) (kept3 _ _ _)).far Z1' (noInts3 _ _ _ _ _ _ _) (kept3 _ _ _)
              have CV : Arg V (.slice a3 zs.length c3) zs a3 c3 := by rw [← hV]; exact (C.far Z0 (noInts3 _ _ _ _ _ _ _) (kept3 _ _ _)).far Z1' (noInts3 _ _ _ _ _ _ _) (kept3 _ _ _)
              have DV : Arg V (.slice a4 es.length c4) es a4 c4 := by rw [← hV]; exact (D.far Z0 (noInts3 _ _ _ _ _ _ _) (kept3 _ _ _)).far Z1' (noInts3 _ _ _ _ _ _ _) (kept3 _ _ _)
              have hfin : ratOf m1 (val xs) (val ds) + ratOf m2 (val zs) (val es) = X + Y := by rw [hX, hY]
              have HF := Lib.hid hfin
              have mkS : ∀ X, Kept (w.heap.size + 1 + 1) V X → X.cell? ⟨w.heap.size, 0, none⟩ = some (.bool m1) ∧ X.cell? ⟨w.heap.size, 1, none⟩ = some (.slice a1 xs.length c1) ∧ X.cell? ⟨w.heap.size, 2, none⟩ = some (.slice a2 ds.length c2) ∧ X.cell? ⟨w.heap.size + 1, 0, none⟩ = some (.bool m2) ∧ X.cell? ⟨w.heap.size + 1, 1, none⟩ = some (.slice a3 zs.length c3) ∧ X.cell? ⟨w.heap.size + 1, 2, none⟩ = some (.slice a4 es.length c4) ∧ Kept (w.heap.size + 1 + 1) V X := fun X h => ⟨(P0.kept h (by omega)).cell 0, (P0.kept h (by omega)).cell 1, (P0.kept h (by omega)).cell 2, (P1.kept h (by omega)).cell 0, (P1.kept h (by omega)).cell 1, (P1.kept h (by omega)).cell 2, h⟩
              clear hfin hX hY Z0 Z1 Z1' A B C D R0 R1 R2 R0' R1' hu hv hu' hv' hb1 hb1d hb2 hBW p0 p1 p2 p3 p4 p5 o0 o1 o2 o3 o4 o5 t0 t1 t2 t3 t4 t5 s0 s1 s2 s3 s4 s5 i0 i1 i2
              go_wp2_with fail
              (try rw [hV])
              clear hV
              go_region_held3 (fun X => X.cell? ⟨w.heap.size, 0, none⟩ = some (.bool m1) ∧ X.cell? ⟨w.heap.size, 1, none⟩ = some (.slice a1 xs.length c1) ∧ X.cell? ⟨w.heap.size, 2, none⟩ = some (.slice a2 ds.length c2) ∧ X.cell? ⟨w.heap.size + 1, 0, none⟩ = some (.bool m2) ∧ X.cell? ⟨w.heap.size + 1, 1, none⟩ = some (.slice a3 zs.length c3) ∧ X.cell? ⟨w.heap.size + 1, 2, none⟩ = some (.slice a4 es.length c4) ∧ Kept (w.heap.size + 1 + 1) V X)
                (((refine mkS _ ?_; (repeat' (first | exact Kept.refl _ _ | refine Kept.drew ?_ | refine Kept.alloc ?_ _ | refine Kept.set ?_ _ _ | refine Kept.below ?_ (by assumption))))))
                ((first
                  | (go_at_call 77; refine (joinedP_any (n := n + 2) (AV.later hb3d) (BV.later hb3d) (CV.later hb3d) (DV.later hb3d) (by omega) (by omega) (by omega) (by omega) (by omega) hB hD (h3.later (Below.refl _ _))).mono ?_; rintro e w4 ⟨r4, rfl, q4, hb4⟩; rw [HF.out] at q4; obtain ⟨ng, fs, gs, f1, f2, j1, j2, rfl⟩ := q4.arg.box; have P4 := P3.later hb4; obtain ⟨u0, u1, u2, g0, g1, g2⟩ := P4.three)
                  | (go_at_call 78; refine (over_any (AV.later (Below.refl _ V).drew) (DV.later (Below.refl _ V).drew) (show xs.length ≤ n + 2 by omega) (by omega) (by omega)).mono ?_; rintro e w3 ⟨r3, rfl, h3, hb3⟩; have hb3d : Below V.heap.size V w3 := ⟨hb3.os, hb3.tape, hb3.output, hb3.size, hb3.block⟩; have P3 := P2.later hb3d)))
              have hs3 := hb3d.size
              have hs4 := hb4.size
              go_wp2_with fail
              refine bodyPost_ret (v := .agg #[.bool ng, .slice f1 fs.length j1, .slice f2 gs.length j2]) (by simp [results, Tryz.results40, go_sem, u0, u1, u2]) rfl ⟨_, rfl, ?_, ?_⟩
              · exact ((q4.far P4 (by decide) (kept3 _ _ _)).mono (by omega)).more (by omega)
              · exact below_set3 ((hB2.trans (hb3d.mono (by omega))).trans (hb4.mono (by omega))) (by omega) _ _ _
  case o1_2 =>
    go_simp
    refine hK.out _ _ trivial (fun hHeld => ?_)
    clear hK K hHeld
    try simp only [Act.put, List.setIfInBounds_toArray, List.set_cons_zero, List.set_cons_succ]
    refine wpAnyH_ready (rs := [0]) (by kernel_rfl) (by simp) ?_
    refine AllReadyH.cons rfl (fun K hK => ?o11_0) AllReadyH.nil
    case o11_0 =>
      go_simp
      refine hK.out _ _ trivial (fun hHeld => ?_)
      clear hK K hHeld
      try simp only [Act.put, List.setIfInBounds_toArray, List.set_cons_zero, List.set_cons_succ]
      refine wpAnyH_ready (rs := [1]) (by kernel_rfl) (by simp) ?_
      refine AllReadyH.cons rfl (fun K hK => ?o12_1) AllReadyH.nil
      case o12_1 =>
        go_simp
        (refine (plain_any hu' (by omega)).mono ?_)
        rintro e w1 ⟨r1, rfl, h1, hb1⟩
        have hb1d : Below W.heap.size W w1 := ⟨hb1.os, hb1.tape, hb1.output, hb1.size, hb1.block⟩
        obtain ⟨m1, xs, ds, a1, a2, c1, c2, rfl, A, B, hX, hx, hd, hB, _⟩ := h1
        have R0' := R0.later hb1d
        have R1' := R1.later hb1d
        obtain ⟨i0, i1, i2, _, _, _⟩ := R1'.three
        go_simp
        refine hK.out _ _ trivial (fun hHeld => ?_)
        clear hK K hHeld
        try simp only [Act.put, List.setIfInBounds_toArray, List.set_cons_zero, List.set_cons_succ]
        refine wpAnyH_ready (rs := [3]) (by kernel_rfl) (by simp) ?_
        refine AllReadyH.cons rfl (fun K hK => ?o13_3) AllReadyH.nil
        case o13_3 =>
          go_simp
          (refine (plain_any (hv'.later (show Below W.heap.size W w1 from hb1d)) (by omega)).mono ?_)
          rintro e w2 ⟨r2, rfl, h2, hb2⟩
          obtain ⟨m2, zs, es, a3, a4, c3, c4, rfl, C, D, hY, hz, he, hD, _⟩ := h2
          obtain ⟨t0, t1, t2, t3, t4, t5⟩ := (R0'.later hb2).three
          obtain ⟨s0, s1, s2, s3, s4, s5⟩ := (R1'.later hb2).three
          go_simp
          refine hK.out _ _ trivial (fun hHeld => ?_)
          clear hK K hHeld
          try simp only [Act.put, List.setIfInBounds_toArray, List.set_cons_zero, List.set_cons_succ]
          refine wpAnyH_ready (rs := [4]) (by kernel_rfl) (by simp) ?_
          refine AllReadyH.cons rfl (fun K hK => ?o14_4) AllReadyH.nil
          case o14_4 =>
            go_simp
            refine hK.out _ _ trivial (fun hHeld => ?_)
            clear hK K hHeld
            try simp only [Act.put, List.setIfInBounds_toArray, List.set_cons_zero, List.set_cons_succ]
            refine wpAnyH_ready (rs := [5]) (by kernel_rfl) (by simp) ?_
            refine AllReadyH.cons rfl (fun K hK => ?o15_5) AllReadyH.nil
            case o15_5 =>
              go_simp
              refine hK.out _ _ trivial (fun hHeld => ?_)
              clear hK K hHeld
              try simp only [Act.put, List.setIfInBounds_toArray, List.set_cons_zero, List.set_cons_succ]
              refine wpAnyH_done (by kernel_rfl) ?_ _
              refine NoPanic.normal ?_
              have hs1 := hb1d.size
              have hs2 := hb2.size
              obtain ⟨V, hV⟩ : ∃ V, (((((w2.setCell ⟨w.heap.size, 0, none⟩ (.bool m1)).setCell ⟨w.heap.size, 1, none⟩ (.slice a1 xs.length c1)).setCell ⟨w.heap.size, 2, none⟩ (.slice a2 ds.length c2)).setCell ⟨w.heap.size + 1, 0, none⟩ (.bool m2)).setCell ⟨w.heap.size + 1, 1, none⟩ (.slice a3 zs.length c3)).setCell ⟨w.heap.size + 1, 2, none⟩ (.slice a4 es.length c4) = V := ⟨_, rfl⟩
              have Z0 := (R0'.later hb2)
              have Z1 := (R1'.later hb2)
              have Z1' : Row (((w2.setCell ⟨w.heap.size, 0, none⟩ (.bool m1)).setCell ⟨w.heap.size, 1, none⟩ (.slice a1 xs.length c1)).setCell ⟨w.heap.size, 2, none⟩ (.slice a2 ds.length c2)) (w.heap.size + 1) 44 #[.bool n2, .slice e3 rs.length k3, .slice e4 ss.length k4] := ((Z1.far (by simp) _).far (by simp) _).far (by simp) _
              have P0 : Row V (w.heap.size) 44 #[.bool m1, .slice a1 xs.length c1, .slice a2 ds.length c2] := by rw [← hV]; exact (((Z0.set3 _ _ _).far (by simp) _).far (by simp) _).far (by simp) _
              have P1 : Row V (w.heap.size + 1) 44 #[.bool m2, .slice a3 zs.length c3, .slice a4 es.length c4] := by rw [← hV]; exact Z1'.set3 _ _ _
              have P2 : Row V (w.heap.size + 1 + 1) 44 #[.bool false, .slice none 0 0, .slice none 0 0] := by rw [← hV]; exact ((((((((R2.later hb1d).later hb2)).far (by simp <;> omega) _).far (by simp <;> omega) _).far (by simp <;> omega) _).far (by simp <;> omega) _).far (by simp <;> omega) _).far (by simp <;> omega) _
              have hsV : w2.heap.size ≤ V.heap.size := by rw [← hV]; simp
              have hB2 : Below w.heap.size w V := by rw [← hV]; exact below_set3 (below_set3 ((hBW.trans (hb1d.mono (by omega))).trans (hb2.mono (by omega))) (by omega) _ _ _) (by omega) _ _ _
              have AV : Arg V (.slice a1 xs.length c1) xs a1 c1 := by rw [← hV]; exact ((A.later hb2).far Z0 (noInts3 _ _ _ _ _ _ _) (kept3 _ _ _)).far Z1' (noInts3 _ _ _ _ _ _ _) (kept3 _ _ _)
              have BV : Arg V (.slice a2 ds.length c2) ds a2 c2 := by rw [← hV]; exact ((B.later hb2).far Z0 (noInts3 _ _ _ _ _ _ _) (kept3 _ _ _)).far Z1' (noInts3 _ _ _ _ _ _ _) (kept3 _ _ _)
              have CV : Arg V (.slice a3 zs.length c3) zs a3 c3 := by rw [← hV]; exact (C.far Z0 (noInts3 _ _ _ _ _ _ _) (kept3 _ _ _)).far Z1' (noInts3 _ _ _ _ _ _ _) (kept3 _ _ _)
              have DV : Arg V (.slice a4 es.length c4) es a4 c4 := by rw [← hV]; exact (D.far Z0 (noInts3 _ _ _ _ _ _ _) (kept3 _ _ _)).far Z1' (noInts3 _ _ _ _ _ _ _) (kept3 _ _ _)
              have hfin : ratOf m1 (val xs) (val ds) + ratOf m2 (val zs) (val es) = X + Y := by rw [hX, hY]
              have HF := Lib.hid hfin
              have mkS : ∀ X, Kept (w.heap.size + 1 + 1) V X → X.cell? ⟨w.heap.size, 0, none⟩ = some (.bool m1) ∧ X.cell? ⟨w.heap.size, 1, none⟩ = some (.slice a1 xs.length c1) ∧ X.cell? ⟨w.heap.size, 2, none⟩ = some (.slice a2 ds.length c2) ∧ X.cell? ⟨w.heap.size + 1, 0, none⟩ = some (.bool m2) ∧ X.cell? ⟨w.heap.size + 1, 1, none⟩ = some (.slice a3 zs.length c3) ∧ X.cell? ⟨w.heap.size + 1, 2, none⟩ = some (.slice a4 es.length c4) ∧ Kept (w.heap.size + 1 + 1) V X := fun X h => ⟨(P0.kept h (by omega)).cell 0, (P0.kept h (by omega)).cell 1, (P0.kept h (by omega)).cell 2, (P1.kept h (by omega)).cell 0, (P1.kept h (by omega)).cell 1, (P1.kept h (by omega)).cell 2, h⟩
              clear hfin hX hY Z0 Z1 Z1' A B C D R0 R1 R2 R0' R1' hu hv hu' hv' hb1 hb1d hb2 hBW p0 p1 p2 p3 p4 p5 o0 o1 o2 o3 o4 o5 t0 t1 t2 t3 t4 t5 s0 s1 s2 s3 s4 s5 i0 i1 i2
              go_wp2_with fail
              (try rw [hV])
              clear hV
              go_region_held3 (fun X => X.cell? ⟨w.heap.size, 0, none⟩ = some (.bool m1) ∧ X.cell? ⟨w.heap.size, 1, none⟩ = some (.slice a1 xs.length c1) ∧ X.cell? ⟨w.heap.size, 2, none⟩ = some (.slice a2 ds.length c2) ∧ X.cell? ⟨w.heap.size + 1, 0, none⟩ = some (.bool m2) ∧ X.cell? ⟨w.heap.size + 1, 1, none⟩ = some (.slice a3 zs.length c3) ∧ X.cell? ⟨w.heap.size + 1, 2, none⟩ = some (.slice a4 es.length c4) ∧ Kept (w.heap.size + 1 + 1) V X)
                (((refine mkS _ ?_; (repeat' (first | exact Kept.refl _ _ | refine Kept.drew ?_ | refine Kept.alloc ?_ _ | refine Kept.set ?_ _ _ | refine Kept.below ?_ (by assumption))))))
                ((first
                  | (go_at_call 77; refine (joinedP_any (n := n + 2) (AV.later hb3d) (BV.later hb3d) (CV.later hb3d) (DV.later hb3d) (by omega) (by omega) (by omega) (by omega) (by omega) hB hD (h3.later (Below.refl _ _))).mono ?_; rintro e w4 ⟨r4, rfl, q4, hb4⟩; rw [HF.out] at q4; obtain ⟨ng, fs, gs, f1, f2, j1, j2, rfl⟩ := q4.arg.box; have P4 := P3.later hb4; obtain ⟨u0, u1, u2, g0, g1, g2⟩ := P4.three)
                  | (go_at_call 78; refine (over_any (AV.later (Below.refl _ V).drew) (DV.later (Below.refl _ V).drew) (show xs.length ≤ n + 2 by omega) (by omega) (by omega)).mono ?_; rintro e w3 ⟨r3, rfl, h3, hb3⟩; have hb3d : Below V.heap.size V w3 := ⟨hb3.os, hb3.tape, hb3.output, hb3.size, hb3.block⟩; have P3 := P2.later hb3d)))
              have hs3 := hb3d.size
              have hs4 := hb4.size
              go_wp2_with fail
              refine bodyPost_ret (v := .agg #[.bool ng, .slice f1 fs.length j1, .slice f2 gs.length j2]) (by simp [results, Tryz.results40, go_sem, u0, u1, u2]) rfl ⟨_, rfl, ?_, ?_⟩
              · exact ((q4.far P4 (by decide) (kept3 _ _ _)).mono (by omega)).more (by omega)
              · exact below_set3 ((hB2.trans (hb3d.mono (by omega))).trans (hb4.mono (by omega))) (by omega) _ _ _
end
section
open Go.RowKit
set_option linter.unusedVariables false
set_option linter.unusedSimpArgs false
theorem sgR_diff {m n : Bool} {A B C D : Int} (hB : 0 < B) (hD : 0 < D) : sgR (ratOf m A B - ratOf n C D) = (sgn m (A * D) - sgn n (C * B)).sign := by
  have h := rat_diff (m := m) (n := n) (r := false) (S := sgn m (A * D) - sgn n (C * B)) hB hD (by rw [sgn_not, sgn_pos, Int.sub_eq_add_neg])
  rw [← h, sgR_ratOf _ _ (Int.mul_pos hB hD), sgn_pos]
set_option maxRecDepth 100000 in
set_option maxHeartbeats 8000000 in
theorem cmpQ_any {n : Nat} {w : World} {u v : Value} {X Y : Rat} (hu : ArgQ w u X n) (hv : ArgQ w v Y n) (hn : n ≤ 16777000) :
    Calls Tryz.prog 106 #[u, v] w fun e w' => e = .returned (.int .i64 (sgR (X - Y))) ∧ Below w.heap.size w w' := by
  obtain ⟨n1, ps, qs, e1, e2, k1, k2, rfl⟩ := hu.box
  obtain ⟨n2, rs, ss, e3, e4, k3, k4, rfl⟩ := hv.box
  obtain ⟨W, hW⟩ : ∃ W, ((w.alloc (.cells #[.bool n1, .slice e1 ps.length k1, .slice e2 qs.length k2] 44)).alloc (.cells #[.bool n2, .slice e3 rs.length k3, .slice e4 ss.length k4] 44)) = W := ⟨_, rfl⟩
  have R0 : Row W (w.heap.size) 44 #[.bool n1, .slice e1 ps.length k1, .slice e2 qs.length k2] := by rw [← hW]; exact ((Row.new _ _ _).alloc _)
  have R1 : Row W (w.heap.size + 1) 44 #[.bool n2, .slice e3 rs.length k3, .slice e4 ss.length k4] := by rw [← hW]; have h := (Row.new (w.alloc (.cells #[.bool n1, .slice e1 ps.length k1, .slice e2 qs.length k2] 44)) 44 #[.bool n2, .slice e3 rs.length k3, .slice e4 ss.length k4]); simp only [World.size_alloc] at h; exact h
  have hBW : Below w.heap.size w W := by rw [← hW]; exact (((Below.refl _ _).alloc (by (try simp) <;> omega) _).alloc (by (try simp) <;> omega) _)
  have hsW : w.heap.size + 1 + 1 ≤ W.heap.size := by rw [← hW]; simp
  have hu' := (hu.later hBW).later (Below.refl _ W).drew
  have hv' := hv.later hBW
  obtain ⟨p0, p1, p2, p3, p4, p5⟩ := R0.three
  obtain ⟨o0, o1, o2, o3, o4, o5⟩ := R1.three
  have hmf : ∀ (fn : Fn) (first cap : Array Value) (w : World), (Instr.makeFunc fn first cap).run Tryz.prog w = .ok (.func fn first cap) w := fun _ _ _ _ => rfl
  go_enter Tryz.func106, Tryz.ntmps106
  go_wp2_with fail
  clear hW
  refine wp_region_noPanic ?_
  refine wp_region_held_drew (S := fun _ => True) (by kernel_rfl) trivial (fun hHeld => ?_)
  clear hHeld
  refine wpAnyH_ready (rs := [0, 2]) (by kernel_rfl) (by simp) ?_
  refine AllReadyH.cons rfl (fun K hK => ?o1_0) (AllReadyH.cons rfl (fun K hK => ?o1_2) AllReadyH.nil)
  case o1_0 =>
    go_simp
    refine hK.out _ _ trivial (fun hHeld => ?_)
    clear hK K hHeld
    try simp only [Act.put, List.setIfInBounds_toArray, List.set_cons_zero, List.set_cons_succ]
    refine wpAnyH_ready (rs := [1, 2]) (by kernel_rfl) (by simp) ?_
    refine AllReadyH.cons rfl (fun K hK => ?o2_1) (AllReadyH.cons rfl (fun K hK => ?o2_2) AllReadyH.nil)
    case o2_1 =>
      go_simp
      (refine (plain_any hu' (by omega)).mono ?_)
      rintro e w1 ⟨r1, rfl, h1, hb1⟩
      have hb1d : Below W.heap.size W w1 := ⟨hb1.os, hb1.tape, hb1.output, hb1.size, hb1.block⟩
      obtain ⟨m1, xs, ds, a1, a2, c1, c2, rfl, A, B, hX, hx, hd, hB, _⟩ := h1
      have R0' := R0.later hb1d
      have R1' := R1.later hb1d
      obtain ⟨i0, i1, i2, _, _, _⟩ := R1'.three
      go_simp
      refine hK.out _ _ trivial (fun hHeld => ?_)
      clear hK K hHeld
      try simp only [Act.put, List.setIfInBounds_toArray, List.set_cons_zero, List.set_cons_succ]
      refine wpAnyH_ready (rs := [2]) (by kernel_rfl) (by simp) ?_
      refine AllReadyH.cons rfl (fun K hK => ?o3_2) AllReadyH.nil
      case o3_2 =>
        go_simp
        refine hK.out _ _ trivial (fun hHeld => ?_)
        clear hK K hHeld
        try simp only [Act.put, List.setIfInBounds_toArray, List.set_cons_zero, List.set_cons_succ]
        refine wpAnyH_ready (rs := [3]) (by kernel_rfl) (by simp) ?_
        refine AllReadyH.cons rfl (fun K hK => ?o4_3) AllReadyH.nil
        case o4_3 =>
          go_simp
          (refine (plain_any (hv'.later (show Below W.heap.size W w1 from hb1d)) (by omega)).mono ?_)
          rintro e w2 ⟨r2, rfl, h2, hb2⟩
          obtain ⟨m2, zs, es, a3, a4, c3, c4, rfl, C, D, hY, hz, he, hD, _⟩ := h2
          obtain ⟨t0, t1, t2, t3, t4, t5⟩ := (R0'.later hb2).three
          obtain ⟨s0, s1, s2, s3, s4, s5⟩ := (R1'.later hb2).three
          go_simp
          refine hK.out _ _ trivial (fun hHeld => ?_)
          clear hK K hHeld
          try simp only [Act.put, List.setIfInBounds_toArray, List.set_cons_zero, List.set_cons_succ]
          refine wpAnyH_ready (rs := [4]) (by kernel_rfl) (by simp) ?_
          refine AllReadyH.cons rfl (fun K hK => ?o5_4) AllReadyH.nil
          case o5_4 =>
            go_simp
            refine hK.out _ _ trivial (fun hHeld => ?_)
            clear hK K hHeld
            try simp only [Act.put, List.setIfInBounds_toArray, List.set_cons_zero, List.set_cons_succ]
            refine wpAnyH_ready (rs := [5]) (by kernel_rfl) (by simp) ?_
            refine AllReadyH.cons rfl (fun K hK => ?o6_5) AllReadyH.nil
            case o6_5 =>
              go_simp
              refine hK.out _ _ trivial (fun hHeld => ?_)
              clear hK K hHeld
              try simp only [Act.put, List.setIfInBounds_toArray, List.set_cons_zero, List.set_cons_succ]
              refine wpAnyH_done (by kernel_rfl) ?_ _
              refine NoPanic.normal ?_
              have hs1 := hb1d.size
              have hs2 := hb2.size
              obtain ⟨V, hV⟩ : ∃ V, (((((w2.setCell ⟨w.heap.size, 0, none⟩ (.bool m1)).setCell ⟨w.heap.size, 1, none⟩ (.slice a1 xs.length c1)).setCell ⟨w.heap.size, 2, none⟩ (.slice a2 ds.length c2)).setCell ⟨w.heap.size + 1, 0, none⟩ (.bool m2)).setCell ⟨w.heap.size + 1, 1, none⟩ (.slice a3 zs.length c3)).setCell ⟨w.heap.size + 1, 2, none⟩ (.slice a4 es.length c4) = V := ⟨_, rfl⟩
              have Z0 := (R0'.later hb2)
              have Z1 := (R1'.later hb2)
              have Z1' : Row (((w2.setCell ⟨w.heap.size, 0, none⟩ (.bool m1)).setCell ⟨w.heap.size, 1, none⟩ (.slice a1 xs.length c1)).setCell ⟨w.heap.size, 2, none⟩ (.slice a2 ds.length c2)) (w.heap.size + 1) 44 #[.bool n2, .slice e3 rs.length k3, .slice e4 ss.length k4] := ((Z1.far (by simp) _).far (by simp) _).far (by simp) _
              have P0 : Row V (w.heap.size) 44 #[.bool m1, .slice a1 xs.length c1, .slice a2 ds.length c2] := by rw [← hV]; exact (((Z0.set3 _ _ _).far (by simp) _).far (by simp) _).far (by simp) _
              have P1 : Row V (w.heap.size + 1) 44 #[.bool m2, .slice a3 zs.length c3, .slice a4 es.length c4] := by rw [← hV]; exact Z1'.set3 _ _ _
              have hsV : w2.heap.size ≤ V.heap.size := by rw [← hV]; simp
              have hB2 : Below w.heap.size w V := by rw [← hV]; exact below_set3 (below_set3 ((hBW.trans (hb1d.mono (by omega))).trans (hb2.mono (by omega))) (by omega) _ _ _) (by omega) _ _ _
              have AV : Arg V (.slice a1 xs.length c1) xs a1 c1 := by rw [← hV]; exact ((A.later hb2).far Z0 (noInts3 _ _ _ _ _ _ _) (kept3 _ _ _)).far Z1' (noInts3 _ _ _ _ _ _ _) (kept3 _ _ _)
              have BV : Arg V (.slice a2 ds.length c2) ds a2 c2 := by rw [← hV]; exact ((B.later hb2).far Z0 (noInts3 _ _ _ _ _ _ _) (kept3 _ _ _)).far Z1' (noInts3 _ _ _ _ _ _ _) (kept3 _ _ _)
              have CV : Arg V (.slice a3 zs.length c3) zs a3 c3 := by rw [← hV]; exact (C.far Z0 (noInts3 _ _ _ _ _ _ _) (kept3 _ _ _)).far Z1' (noInts3 _ _ _ _ _ _ _) (kept3 _ _ _)
              have DV : Arg V (.slice a4 es.length c4) es a4 c4 := by rw [← hV]; exact (D.far Z0 (noInts3 _ _ _ _ _ _ _) (kept3 _ _ _)).far Z1' (noInts3 _ _ _ _ _ _ _) (kept3 _ _ _)
              have hfin : (sgn m1 (val xs * val es) - sgn m2 (val zs * val ds)).sign = sgR (X - Y) := by rw [← sgR_diff hB hD, hX, hY]
              have HF := Lib.hid hfin
              have mkS : ∀ X, Kept (w.heap.size + 1 + 1) V X → X.cell? ⟨w.heap.size, 0, none⟩ = some (.bool m1) ∧ X.cell? ⟨w.heap.size, 1, none⟩ = some (.slice a1 xs.length c1) ∧ X.cell? ⟨w.heap.size, 2, none⟩ = some (.slice a2 ds.length c2) ∧ X.cell? ⟨w.heap.size + 1, 0, none⟩ = some (.bool m2) ∧ X.cell? ⟨w.heap.size + 1, 1, none⟩ = some (.slice a3 zs.length c3) ∧ X.cell? ⟨w.heap.size + 1, 2, none⟩ = some (.slice a4 es.length c4) ∧ Kept (w.heap.size + 1 + 1) V X := fun X h => ⟨(P0.kept h (by omega)).cell 0, (P0.kept h (by omega)).cell 1, (P0.kept h (by omega)).cell 2, (P1.kept h (by omega)).cell 0, (P1.kept h (by omega)).cell 1, (P1.kept h (by omega)).cell 2, h⟩
              clear hfin hX hY Z0 Z1 Z1' A B C D R0 R1 R0' R1' hu hv hu' hv' hb1 hb1d hb2 hBW p0 p1 p2 p3 p4 p5 o0 o1 o2 o3 o4 o5 t0 t1 t2 t3 t4 t5 s0 s1 s2 s3 s4 s5 i0 i1 i2
              go_wp2_with fail
              (try rw [hV])
              clear hV
              go_region_held3 (fun X => X.cell? ⟨w.heap.size, 0, none⟩ = some (.bool m1) ∧ X.cell? ⟨w.heap.size, 1, none⟩ = some (.slice a1 xs.length c1) ∧ X.cell? ⟨w.heap.size, 2, none⟩ = some (.slice a2 ds.length c2) ∧ X.cell? ⟨w.heap.size + 1, 0, none⟩ = some (.bool m2) ∧ X.cell? ⟨w.heap.size + 1, 1, none⟩ = some (.slice a3 zs.length c3) ∧ X.cell? ⟨w.heap.size + 1, 2, none⟩ = some (.slice a4 es.length c4) ∧ Kept (w.heap.size + 1 + 1) V X)
                (((refine mkS _ ?_; (repeat' (first | exact Kept.refl _ _ | refine Kept.drew ?_ | refine Kept.alloc ?_ _ | refine Kept.set ?_ _ _ | refine Kept.below ?_ (by assumption))))))
                ((first
                  | (go_at_call 81; refine (sign_any h5 (by omega)).mono ?_; rintro e w6 ⟨rfl, hb6⟩)
                  | (go_at_call 133; refine (minus_any (h3.later hb4) h4 (by omega)).mono ?_; rintro e w5 ⟨r5, rfl, h5, hb5⟩)
                  | (go_at_call 78; (with_reducible refine (over_any (m := n + 2) (CV.later hb3d) (BV.later hb3d) hz hd (by omega)).mono ?_); rintro e w4 ⟨r4, rfl, h4, hb4⟩)
                  | (go_at_call 78; (with_reducible refine (over_any (m := n + 2) (AV.later (Below.refl _ V).drew) (DV.later (Below.refl _ V).drew) hx he (by omega)).mono ?_); rintro e w3 ⟨r3, rfl, h3, hb3⟩; have hb3d : Below V.heap.size V w3 := ⟨hb3.os, hb3.tape, hb3.output, hb3.size, hb3.block⟩)))
              have hs3 := hb3d.size
              have hs4 := hb4.size
              have hs5 := hb5.size
              go_wp2_with fail
              go_ret
              exact ⟨by rw [← HF.out]; rfl, (((hB2.trans (hb3d.mono (by omega))).trans (hb4.mono (by omega))).trans (hb5.mono (by omega))).trans (hb6.mono (by omega))⟩
    case o2_2 =>
      go_simp
      refine hK.out _ _ trivial (fun hHeld => ?_)
      clear hK K hHeld
      try simp only [Act.put, List.setIfInBounds_toArray, List.set_cons_zero, List.set_cons_succ]
      refine wpAnyH_ready (rs := [1]) (by kernel_rfl) (by simp) ?_
      refine AllReadyH.cons rfl (fun K hK => ?o7_1) AllReadyH.nil
      case o7_1 =>
        go_simp
        (refine (plain_any hu' (by omega)).mono ?_)
        rintro e w1 ⟨r1, rfl, h1, hb1⟩
        have hb1d : Below W.heap.size W w1 := ⟨hb1.os, hb1.tape, hb1.output, hb1.size, hb1.block⟩
        obtain ⟨m1, xs, ds, a1, a2, c1, c2, rfl, A, B, hX, hx, hd, hB, _⟩ := h1
        have R0' := R0.later hb1d
        have R1' := R1.later hb1d
        obtain ⟨i0, i1, i2, _, _, _⟩ := R1'.three
        go_simp
        refine hK.out _ _ trivial (fun hHeld => ?_)
        clear hK K hHeld
        try simp only [Act.put, List.setIfInBounds_toArray, List.set_cons_zero, List.set_cons_succ]
        refine wpAnyH_ready (rs := [3]) (by kernel_rfl) (by simp) ?_
        refine AllReadyH.cons rfl (fun K hK => ?o8_3) AllReadyH.nil
        case o8_3 =>
          go_simp
          (refine (plain_any (hv'.later (show Below W.heap.size W w1 from hb1d)) (by omega)).mono ?_)
          rintro e w2 ⟨r2, rfl, h2, hb2⟩
          obtain ⟨m2, zs, es, a3, a4, c3, c4, rfl, C, D, hY, hz, he, hD, _⟩ := h2
          obtain ⟨t0, t1, t2, t3, t4, t5⟩ := (R0'.later hb2).three
          obtain ⟨s0, s1, s2, s3, s4, s5⟩ := (R1'.later hb2).three
          go_simp
          refine hK.out _ _ trivial (fun hHeld => ?_)
          clear hK K hHeld
          try simp only [Act.put, List.setIfInBounds_toArray, List.set_cons_zero, List.set_cons_succ]
          refine wpAnyH_ready (rs := [4]) (by kernel_rfl) (by simp) ?_
          refine AllReadyH.cons rfl (fun K hK => ?o9_4) AllReadyH.nil
          case o9_4 =>
            go_simp
            refine hK.out _ _ trivial (fun hHeld => ?_)
            clear hK K hHeld
            try simp only [Act.put, List.setIfInBounds_toArray, List.set_cons_zero, List.set_cons_succ]
            refine wpAnyH_ready (rs := [5]) (by kernel_rfl) (by simp) ?_
            refine AllReadyH.cons rfl (fun K hK => ?o10_5) AllReadyH.nil
            case o10_5 =>
              go_simp
              refine hK.out _ _ trivial (fun hHeld => ?_)
              clear hK K hHeld
              try simp only [Act.put, List.setIfInBounds_toArray, List.set_cons_zero, List.set_cons_succ]
              refine wpAnyH_done (by kernel_rfl) ?_ _
              refine NoPanic.normal ?_
              have hs1 := hb1d.size
              have hs2 := hb2.size
              obtain ⟨V, hV⟩ : ∃ V, (((((w2.setCell ⟨w.heap.size, 0, none⟩ (.bool m1)).setCell ⟨w.heap.size, 1, none⟩ (.slice a1 xs.length c1)).setCell ⟨w.heap.size, 2, none⟩ (.slice a2 ds.length c2)).setCell ⟨w.heap.size + 1, 0, none⟩ (.bool m2)).setCell ⟨w.heap.size + 1, 1, none⟩ (.slice a3 zs.length c3)).setCell ⟨w.heap.size + 1, 2, none⟩ (.slice a4 es.length c4) = V := ⟨_, rfl⟩
              have Z0 := (R0'.later hb2)
              have Z1 := (R1'.later hb2)
              have Z1' : Row (((w2.setCell ⟨w.heap.size, 0, none⟩ (.bool m1)).setCell ⟨w.heap.size, 1, none⟩ (.slice a1 xs.length c1)).setCell ⟨w.heap.size, 2, none⟩ (.slice a2 ds.length c2)) (w.heap.size + 1) 44 #[.bool n2, .slice e3 rs.length k3, .slice e4 ss.length k4] := ((Z1.far (by simp) _).far (by simp) _).far (by simp) _
              have P0 : Row V (w.heap.size) 44 #[.bool m1, .slice a1 xs.length c1, .slice a2 ds.length c2] := by rw [← hV]; exact (((Z0.set3 _ _ _).far (by simp) _).far (by simp) _).far (by simp) _
              have P1 : Row V (w.heap.size + 1) 44 #[.bool m2, .slice a3 zs.length c3, .slice a4 es.length c4] := by rw [← hV]; exact Z1'.set3 _ _ _
              have hsV : w2.heap.size ≤ V.heap.size := by rw [← hV]; simp
              have hB2 : Below w.heap.size w V := by rw [← hV]; exact below_set3 (below_set3 ((hBW.trans (hb1d.mono (by omega))).trans (hb2.mono (by omega))) (by omega) _ _ _) (by omega) _ _ _
              have AV : Arg V (.slice a1 xs.length c1) xs a1 c1 := by rw [← hV]; exact ((A.later hb2).far Z0 (noInts3 _ _ _ _ _ _ _) (kept3 _ _ _)).far Z1' (noInts3 _ _ _ _ _ _ _) (kept3 _ _ _)
              have BV : Arg V (.slice a2 ds.length c2) ds a2 c2 := by rw [← hV]; exact ((B.later hb2).far Z0 (noInts3 _ _ _ _ _ _ _) (kept3 _ _ _)).far Z1' (noInts3 _ _ _ _ _ _ _) (kept3 _ _ _)
              have CV : Arg V (.slice a3 zs.length c3) zs a3 c3 := by rw [← hV]; exact (C.far Z0 (noInts3 _ _ _ _ _ _ _) (kept3 _ _ _)).far Z1' (noInts3 _ _ _ _ _ _ _) (kept3 _ _ _)
              have DV : Arg V (.slice a4 es.length c4) es a4 c4 := by rw [← hV]; exact (D.far Z0 (noInts3 _ _ _ _ _ _ _) (kept3 _ _ _)).far Z1' (noInts3 _ _ _ _ _ _ _) (kept3 _ _ _)
              have hfin : (sgn m1 (val xs * val es) - sgn m2 (val zs * val ds)).sign = sgR (X - Y) := by rw [← sgR_diff hB hD, hX, hY]
              have HF := Lib.hid hfin
              have mkS : ∀ X, Kept (w.heap.size + 1 + 1) V X → X.cell? ⟨w.heap.size, 0, none⟩ = some (.bool m1) ∧ X.cell? ⟨w.heap.size, 1, none⟩ = some (.slice a1 xs.length c1) ∧ X.cell? ⟨w.heap.size, 2, none⟩ = some (.slice a2 ds.length c2) ∧ X.cell? ⟨w.heap.size + 1, 0, none⟩ = some (.bool m2) ∧ X.cell? ⟨w.heap.size + 1, 1, none⟩ = some (.slice a3 zs.length c3) ∧ X.cell? ⟨w.heap.size + 1, 2, none⟩ = some (.slice a4 es.length c4) ∧ Kept (w.heap.size + 1 + 1) V X := fun X h => ⟨(P0.kept h (by omega)).cell 0, (P0.kept h (by omega)).cell 1, (P0.kept h (by omega)).cell 2, (P1.kept h (by omega)).cell 0, (P1.kept h (by omega)).cell 1, (P1.kept h (by omega)).cell 2, h⟩
              clear hfin hX hY Z0 Z1 Z1' A B C D R0 R1 R0' R1' hu hv hu' hv' hb1 hb1d hb2 hBW p0 p1 p2 p3 p4 p5 o0 o1 o2 o3 o4 o5 t0 t1 t2 t3 t4 t5 s0 s1 s2 s3 s4 s5 i0 i1 i2
              go_wp2_with fail
              (try rw [hV])
              clear hV
              go_region_held3 (fun X => X.cell? ⟨w.heap.size, 0, none⟩ = some (.bool m1) ∧ X.cell? ⟨w.heap.size, 1, none⟩ = some (.slice a1 xs.length c1) ∧ X.cell? ⟨w.heap.size, 2, none⟩ = some (.slice a2 ds.length c2) ∧ X.cell? ⟨w.heap.size + 1, 0, none⟩ = some (.bool m2) ∧ X.cell? ⟨w.heap.size + 1, 1, none⟩ = some (.slice a3 zs.length c3) ∧ X.cell? ⟨w.heap.size + 1, 2, none⟩ = some (.slice a4 es.length c4) ∧ Kept (w.heap.size + 1 + 1) V X)
                (((refine mkS _ ?_; (repeat' (first | exact Kept.refl _ _ | refine Kept.drew ?_ | refine Kept.alloc ?_ _ | refine Kept.set ?_ _ _ | refine Kept.below ?_ (by assumption))))))
                ((first
                  | (go_at_call 81; refine (sign_any h5 (by omega)).mono ?_; rintro e w6 ⟨rfl, hb6⟩)
                  | (go_at_call 133; refine (minus_any (h3.later hb4) h4 (by omega)).mono ?_; rintro e w5 ⟨r5, rfl, h5, hb5⟩)
                  | (go_at_call 78; (with_reducible refine (over_any (m := n + 2) (CV.later hb3d) (BV.later hb3d) hz hd (by omega)).mono ?_); rintro e w4 ⟨r4, rfl, h4, hb4⟩)
                  | (go_at_call 78; (with_reducible refine (over_any (m := n + 2) (AV.later (Below.refl _ V).drew) (DV.later (Below.refl _ V).drew) hx he (by omega)).mono ?_); rintro e w3 ⟨r3, rfl, h3, hb3⟩; have hb3d : Below V.heap.size V w3 := ⟨hb3.os, hb3.tape, hb3.output, hb3.size, hb3.block⟩)))
              have hs3 := hb3d.size
              have hs4 := hb4.size
              have hs5 := hb5.size
              go_wp2_with fail
              go_ret
              exact ⟨by rw [← HF.out]; rfl, (((hB2.trans (hb3d.mono (by omega))).trans (hb4.mono (by omega))).trans (hb5.mono (by omega))).trans (hb6.mono (by omega))⟩
  case o1_2 =>
    go_simp
    refine hK.out _ _ trivial (fun hHeld => ?_)
    clear hK K hHeld
    try simp only [Act.put, List.setIfInBounds_toArray, List.set_cons_zero, List.set_cons_succ]
    refine wpAnyH_ready (rs := [0]) (by kernel_rfl) (by simp) ?_
    refine AllReadyH.cons rfl (fun K hK => ?o11_0) AllReadyH.nil
    case o11_0 =>
      go_simp
      refine hK.out _ _ trivial (fun hHeld => ?_)
      clear hK K hHeld
      try simp only [Act.put, List.setIfInBounds_toArray, List.set_cons_zero, List.set_cons_succ]
      refine wpAnyH_ready (rs := [1]) (by kernel_rfl) (by simp) ?_
      refine AllReadyH.cons rfl (fun K hK => ?o12_1) AllReadyH.nil
      case o12_1 =>
        go_simp
        (refine (plain_any hu' (by omega)).mono ?_)
        rintro e w1 ⟨r1, rfl, h1, hb1⟩
        have hb1d : Below W.heap.size W w1 := ⟨hb1.os, hb1.tape, hb1.output, hb1.size, hb1.block⟩
        obtain ⟨m1, xs, ds, a1, a2, c1, c2, rfl, A, B, hX, hx, hd, hB, _⟩ := h1
        have R0' := R0.later hb1d
        have R1' := R1.later hb1d
        obtain ⟨i0, i1, i2, _, _, _⟩ := R1'.three
        go_simp
        refine hK.out _ _ trivial (fun hHeld => ?_)
        clear hK K hHeld
        try simp only [Act.put, List.setIfInBounds_toArray, List.set_cons_zero, List.set_cons_succ]
        refine wpAnyH_ready (rs := [3]) (by kernel_rfl) (by simp) ?_
        refine AllReadyH.cons rfl (fun K hK => ?o13_3) AllReadyH.nil
        case o13_3 =>
          go_simp
          (refine (plain_any (hv'.later (show Below W.heap.size W w1 from hb1d)) (by omega)).mono ?_)
          rintro e w2 ⟨r2, rfl, h2, hb2⟩
          obtain ⟨m2, zs, es, a3, a4, c3, c4, rfl, C, D, hY, hz, he, hD, _⟩ := h2
          obtain ⟨t0, t1, t2, t3, t4, t5⟩ := (R0'.later hb2).three
          obtain ⟨s0, s1, s2, s3, s4, s5⟩ := (R1'.later hb2).three
          go_simp
          refine hK.out _ _ trivial (fun hHeld => ?_)
          clear hK K hHeld
          try simp only [Act.put, List.setIfInBounds_toArray, List.set_cons_zero, List.set_cons_succ]
          refine wpAnyH_ready (rs := [4]) (by kernel_rfl) (by simp) ?_
          refine AllReadyH.cons rfl (fun K hK => ?o14_4) AllReadyH.nil
          case o14_4 =>
            go_simp
            refine hK.out _ _ trivial (fun hHeld => ?_)
            clear hK K hHeld
            try simp only [Act.put, List.setIfInBounds_toArray, List.set_cons_zero, List.set_cons_succ]
            refine wpAnyH_ready (rs := [5]) (by kernel_rfl) (by simp) ?_
            refine AllReadyH.cons rfl (fun K hK => ?o15_5) AllReadyH.nil
            case o15_5 =>
              go_simp
              refine hK.out _ _ trivial (fun hHeld => ?_)
              clear hK K hHeld
              try simp only [Act.put, List.setIfInBounds_toArray, List.set_cons_zero, List.set_cons_succ]
              refine wpAnyH_done (by kernel_rfl) ?_ _
              refine NoPanic.normal ?_
              have hs1 := hb1d.size
              have hs2 := hb2.size
              obtain ⟨V, hV⟩ : ∃ V, (((((w2.setCell ⟨w.heap.size, 0, none⟩ (.bool m1)).setCell ⟨w.heap.size, 1, none⟩ (.slice a1 xs.length c1)).setCell ⟨w.heap.size, 2, none⟩ (.slice a2 ds.length c2)).setCell ⟨w.heap.size + 1, 0, none⟩ (.bool m2)).setCell ⟨w.heap.size + 1, 1, none⟩ (.slice a3 zs.length c3)).setCell ⟨w.heap.size + 1, 2, none⟩ (.slice a4 es.length c4) = V := ⟨_, rfl⟩
              have Z0 := (R0'.later hb2)
              have Z1 := (R1'.later hb2)
              have Z1' : Row (((w2.setCell ⟨w.heap.size, 0, none⟩ (.bool m1)).setCell ⟨w.heap.size, 1, none⟩ (.slice a1 xs.length c1)).setCell ⟨w.heap.size, 2, none⟩ (.slice a2 ds.length c2)) (w.heap.size + 1) 44 #[.bool n2, .slice e3 rs.length k3, .slice e4 ss.length k4] := ((Z1.far (by simp) _).far (by simp) _).far (by simp) _
              have P0 : Row V (w.heap.size) 44 #[.bool m1, .slice a1 xs.length c1, .slice a2 ds.length c2] := by rw [← hV]; exact (((Z0.set3 _ _ _).far (by simp) _).far (by simp) _).far (by simp) _
              have P1 : Row V (w.heap.size + 1) 44 #[.bool m2, .slice a3 zs.length c3, .slice a4 es.length c4] := by rw [← hV]; exact Z1'.set3 _ _ _
              have hsV : w2.heap.size ≤ V.heap.size := by rw [← hV]; simp
              have hB2 : Below w.heap.size w V := by rw [← hV]; exact below_set3 (below_set3 ((hBW.trans (hb1d.mono (by omega))).trans (hb2.mono (by omega))) (by omega) _ _ _) (by omega) _ _ _
              have AV : Arg V (.slice a1 xs.length c1) xs a1 c1 := by rw [← hV]; exact ((A.later hb2).far Z0 (noInts3 _ _ _ _ _ _ _) (kept3 _ _ _)).far Z1' (noInts3 _ _ _ _ _ _ _) (kept3 _ _ _)
              have BV : Arg V (.slice a2 ds.length c2) ds a2 c2 := by rw [← hV]; exact ((B.later hb2).far Z0 (noInts3 _ _ _ _ _ _ _) (kept3 _ _ _)).far Z1' (noInts3 _ _ _ _ _ _ _) (kept3 _ _ _)
              have CV : Arg V (.slice a3 zs.length c3) zs a3 c3 := by rw [← hV]; exact (C.far Z0 (noInts3 _ _ _ _ _ _ _) (kept3 _ _ _)).far Z1' (noInts3 _ _ _ _ _ _ _) (kept3 _ _ _)
              have DV : Arg V (.slice a4 es.length c4) es a4 c4 := by rw [← hV]; exact (D.far Z0 (noInts3 _ _ _ _ _ _ _) (kept3 _ _ _)).far Z1' (noInts3 _ _ _ _ _ _ _) (kept3 _ _ _)
              have hfin : (sgn m1 (val xs * val es) - sgn m2 (val zs * val ds)).sign = sgR (X - Y) := by rw [← sgR_diff hB hD, hX, hY]
              have HF := Lib.hid hfin
              have mkS : ∀ X, Kept (w.heap.size + 1 + 1) V X → X.cell? ⟨w.heap.size, 0, none⟩ = some (.bool m1) ∧ X.cell? ⟨w.heap.size, 1, none⟩ = some (.slice a1 xs.length c1) ∧ X.cell? ⟨w.heap.size, 2, none⟩ = some (.slice a2 ds.length c2) ∧ X.cell? ⟨w.heap.size + 1, 0, none⟩ = some (.bool m2) ∧ X.cell? ⟨w.heap.size + 1, 1, none⟩ = some (.slice a3 zs.length c3) ∧ X.cell? ⟨w.heap.size + 1, 2, none⟩ = some (.slice a4 es.length c4) ∧ Kept (w.heap.size + 1 + 1) V X := fun X h => ⟨(P0.kept h (by omega)).cell 0, (P0.kept h (by omega)).cell 1, (P0.kept h (by omega)).cell 2, (P1.kept h (by omega)).cell 0, (P1.kept h (by omega)).cell 1, (P1.kept h (by omega)).cell 2, h⟩
              clear hfin hX hY Z0 Z1 Z1' A B C D R0 R1 R0' R1' hu hv hu' hv' hb1 hb1d hb2 hBW p0 p1 p2 p3 p4 p5 o0 o1 o2 o3 o4 o5 t0 t1 t2 t3 t4 t5 s0 s1 s2 s3 s4 s5 i0 i1 i2
              go_wp2_with fail
              (try rw [hV])
              clear hV
              go_region_held3 (fun X => X.cell? ⟨w.heap.size, 0, none⟩ = some (.bool m1) ∧ X.cell? ⟨w.heap.size, 1, none⟩ = some (.slice a1 xs.length c1) ∧ X.cell? ⟨w.heap.size, 2, none⟩ = some (.slice a2 ds.length c2) ∧ X.cell? ⟨w.heap.size + 1, 0, none⟩ = some (.bool m2) ∧ X.cell? ⟨w.heap.size + 1, 1, none⟩ = some (.slice a3 zs.length c3) ∧ X.cell? ⟨w.heap.size + 1, 2, none⟩ = some (.slice a4 es.length c4) ∧ Kept (w.heap.size + 1 + 1) V X)
                (((refine mkS _ ?_; (repeat' (first | exact Kept.refl _ _ | refine Kept.drew ?_ | refine Kept.alloc ?_ _ | refine Kept.set ?_ _ _ | refine Kept.below ?_ (by assumption))))))
                ((first
                  | (go_at_call 81; refine (sign_any h5 (by omega)).mono ?_; rintro e w6 ⟨rfl, hb6⟩)
                  | (go_at_call 133; refine (minus_any (h3.later hb4) h4 (by omega)).mono ?_; rintro e w5 ⟨r5, rfl, h5, hb5⟩)
                  | (go_at_call 78; (with_reducible refine (over_any (m := n + 2) (CV.later hb3d) (BV.later hb3d) hz hd (by omega)).mono ?_); rintro e w4 ⟨r4, rfl, h4, hb4⟩)
                  | (go_at_call 78; (with_reducible refine (over_any (m := n + 2) (AV.later (Below.refl _ V).drew) (DV.later (Below.refl _ V).drew) hx he (by omega)).mono ?_); rintro e w3 ⟨r3, rfl, h3, hb3⟩; have hb3d : Below V.heap.size V w3 := ⟨hb3.os, hb3.tape, hb3.output, hb3.size, hb3.block⟩)))
              have hs3 := hb3d.size
              have hs4 := hb4.size
              have hs5 := hb5.size
              go_wp2_with fail
              go_ret
              exact ⟨by rw [← HF.out]; rfl, (((hB2.trans (hb3d.mono (by omega))).trans (hb4.mono (by omega))).trans (hb5.mono (by omega))).trans (hb6.mono (by omega))⟩
end
section
open Go.RowKit
set_option linter.unusedVariables false
set_option linter.unusedSimpArgs false
theorem Row.at {w : World} {g : Nat} {t : TypeId} {cs : Array Value} (h : g = w.heap.size) : Row (w.alloc (.cells cs t)) g t cs := h ▸ Row.new w t cs
set_option maxRecDepth 100000 in
set_option maxHeartbeats 4000000 in
theorem mulQ_any {n : Nat} {w : World} {u v : Value} {X Y : Rat} (hu : ArgQ w u X n) (hv : ArgQ w v Y n) (hn : n ≤ 16777000) :
    Calls Tryz.prog 41 #[u, v] w fun e w' => ∃ r, e = .returned r ∧ ResQ w.heap.size w' r (X * Y) (2 * n + 4) ∧ Below w.heap.size w w' := by
  obtain ⟨m1, xs, ds, a1, a2, c1, c2, rfl, A, B, hX, hx, hd⟩ := hu
  obtain ⟨m2, zs, es, a3, a4, c3, c4, rfl, C, D, hY, hz, he⟩ := hv
  obtain ⟨W, hW⟩ : ∃ W, (((w.alloc (.cells #[.bool m1, .slice a1 xs.length c1, .slice a2 ds.length c2] 44)).alloc (.cells #[.bool m2, .slice a3 zs.length c3, .slice a4 es.length c4] 44)).alloc (.cells #[.bool false, .slice none 0 0, .slice none 0 0] 44)) = W := ⟨_, rfl⟩
  have R0 : Row W (w.heap.size) 44 #[.bool m1, .slice a1 xs.length c1, .slice a2 ds.length c2] := by rw [← hW]; exact (((Row.new _ _ _).alloc _).alloc _)
  have R1 : Row W (w.heap.size + 1) 44 #[.bool m2, .slice a3 zs.length c3, .slice a4 es.length c4] := by rw [← hW]; have h := (Row.new (w.alloc (.cells #[.bool m1, .slice a1 xs.length c1, .slice a2 ds.length c2] 44)) 44 #[.bool m2, .slice a3 zs.length c3, .slice a4 es.length c4]); simp only [World.size_alloc] at h; exact (h.alloc _)
  have R2 : Row W (w.heap.size + 1 + 1) 44 #[.bool false, .slice none 0 0, .slice none 0 0] := by rw [← hW]; have h := (Row.new ((w.alloc (.cells #[.bool m1, .slice a1 xs.length c1, .slice a2 ds.length c2] 44)).alloc (.cells #[.bool m2, .slice a3 zs.length c3, .slice a4 es.length c4] 44)) 44 #[.bool false, .slice none 0 0, .slice none 0 0]); simp only [World.size_alloc] at h; exact h
  have hBW : Below w.heap.size w W := by rw [← hW]; exact ((((Below.refl _ _).alloc (by (try simp) <;> omega) _).alloc (by (try simp) <;> omega) _).alloc (by (try simp) <;> omega) _)
  have hsW : w.heap.size + 1 + 1 + 1 ≤ W.heap.size := by rw [← hW]; simp
  have hfin : ratOf (!(m1 == m2)) (val xs * val zs) (val ds * val es) = X * Y := by rw [← hX, ← hY]; exact rat_prod m1 m2 _ _ _ _
  have HF := Lib.hid hfin
  clear hfin hX hY
  have mkS : ∀ X, Kept (w.heap.size + 1 + 1) W X → X.cell? ⟨w.heap.size, 0, none⟩ = some (.bool m1) ∧ X.cell? ⟨w.heap.size, 1, none⟩ = some (.slice a1 xs.length c1) ∧ X.cell? ⟨w.heap.size, 2, none⟩ = some (.slice a2 ds.length c2) ∧ X.cell? ⟨w.heap.size + 1, 0, none⟩ = some (.bool m2) ∧ X.cell? ⟨w.heap.size + 1, 1, none⟩ = some (.slice a3 zs.length c3) ∧ X.cell? ⟨w.heap.size + 1, 2, none⟩ = some (.slice a4 es.length c4) ∧ Kept (w.heap.size + 1 + 1) W X := fun X h => ⟨(R0.kept h (by omega)).cell 0, (R0.kept h (by omega)).cell 1, (R0.kept h (by omega)).cell 2, (R1.kept h (by omega)).cell 0, (R1.kept h (by omega)).cell 1, (R1.kept h (by omega)).cell 2, h⟩
  go_enter Tryz.func41, Tryz.ntmps41
  go_wp2_with fail
  clear hW
  go_region_held3 (fun X => X.cell? ⟨w.heap.size, 0, none⟩ = some (.bool m1) ∧ X.cell? ⟨w.heap.size, 1, none⟩ = some (.slice a1 xs.length c1) ∧ X.cell? ⟨w.heap.size, 2, none⟩ = some (.slice a2 ds.length c2) ∧ X.cell? ⟨w.heap.size + 1, 0, none⟩ = some (.bool m2) ∧ X.cell? ⟨w.heap.size + 1, 1, none⟩ = some (.slice a3 zs.length c3) ∧ X.cell? ⟨w.heap.size + 1, 2, none⟩ = some (.slice a4 es.length c4) ∧ Kept (w.heap.size + 1 + 1) W X)
    (((refine mkS _ ?_; (repeat' (first | exact Kept.refl _ _ | refine Kept.drew ?_ | refine Kept.alloc ?_ _ | refine Kept.set ?_ _ _ | refine Kept.below ?_ (by assumption))))))
    ((first
      | (go_at_call 54; refine (norm_any (n := 2 * n + 2) ⟨!(m1 == m2), z3, z4, ad3, ad4, cp3, cp4, rfl, A3', A4, HV.out, by omega, by omega⟩ (by omega)).mono ?_; rintro e w5 ⟨r5, rfl, q5, hb5⟩; obtain ⟨ng, fs, gs, f1, f2, j1, j2, rfl⟩ := q5.arg.box; have P5 := R2.kept (show Kept (w.heap.size + 1 + 1 + 1) W w5 by (repeat' (first | exact Kept.refl _ _ | refine Kept.drew ?_ | refine Kept.alloc ?_ _ | refine Kept.set ?_ _ _ | refine Kept.below ?_ (by assumption)))) (by omega); obtain ⟨u0, u1, u2, g0, g1, g2⟩ := P5.three)
      | (go_at_call 80; refine (product_any (xs := ds) (ys := es) (ad := a2) (bd := a4) (ca := c2) (cb := c4) (by first | (first | exact Row.at (by simp) | exact (Row.at (by simp)).drew | exact (Row.at (by simp)).alloc _ | exact ((Row.at (by simp)).alloc _).drew) | (refine Row.later ?_ hb3; first | exact Row.at (by simp) | exact (Row.at (by simp)).drew | exact (Row.at (by simp)).alloc _ | exact ((Row.at (by simp)).alloc _).drew)) (B.later (Kept.under (show Kept (w.heap.size + 1 + 1) W _ by (repeat' (first | exact Kept.refl _ _ | refine Kept.drew ?_ | refine Kept.alloc ?_ _ | refine Kept.set ?_ _ _ | refine Kept.below ?_ (by assumption)))) hBW (by omega) (by omega))) (D.later (Kept.under (show Kept (w.heap.size + 1 + 1) W _ by (repeat' (first | exact Kept.refl _ _ | refine Kept.drew ?_ | refine Kept.alloc ?_ _ | refine Kept.set ?_ _ _ | refine Kept.below ?_ (by assumption)))) hBW (by omega) (by omega))) hd he (by omega)).mono ?_; rintro e w4 ⟨r4, z4, rfl, q4, l4, hb4⟩; obtain ⟨ad4, cp4, rfl, q4, A4⟩ := q4.slice; have A3' := A3.later (show Below w3.heap.size w3 w4 by (repeat' (first | exact Below.refl _ _ | refine Below.drew ?_ | refine Below.alloc ?_ (by (try simp) <;> omega) _ | refine below_set3 ?_ (by (try simp) <;> omega) _ _ _ | refine below_set2 ?_ (by (try simp) <;> omega) _ _ | refine Below.setCell ?_ (by (try simp) <;> omega) _ | refine Below.trans ?_ (Below.mono (by assumption) (by (try simp) <;> omega))))); have HV := Lib.hid ((show ratOf (!(m1 == m2)) (val z3) (val z4) = ratOf (!(m1 == m2)) (val xs * val zs) (val ds * val es) by rw [q3.eq, q4.eq]).trans HF.out))
      | (go_at_call 80; refine (product_any (xs := xs) (ys := zs) (ad := a1) (bd := a3) (ca := c1) (cb := c3) (by first | (first | exact Row.at (by simp) | exact (Row.at (by simp)).drew | exact (Row.at (by simp)).alloc _ | exact ((Row.at (by simp)).alloc _).drew) | (refine Row.later ?_ hb3; first | exact Row.at (by simp) | exact (Row.at (by simp)).drew | exact (Row.at (by simp)).alloc _ | exact ((Row.at (by simp)).alloc _).drew)) (A.later (Kept.under (show Kept (w.heap.size + 1 + 1) W _ by (repeat' (first | exact Kept.refl _ _ | refine Kept.drew ?_ | refine Kept.alloc ?_ _ | refine Kept.set ?_ _ _ | refine Kept.below ?_ (by assumption)))) hBW (by omega) (by omega))) (C.later (Kept.under (show Kept (w.heap.size + 1 + 1) W _ by (repeat' (first | exact Kept.refl _ _ | refine Kept.drew ?_ | refine Kept.alloc ?_ _ | refine Kept.set ?_ _ _ | refine Kept.below ?_ (by assumption)))) hBW (by omega) (by omega))) hx hz (by omega)).mono ?_; rintro e w3 ⟨r3, z3, rfl, q3, l3, hb3⟩; obtain ⟨ad3, cp3, rfl, q3, A3⟩ := q3.slice)))
  all_goals (
    have hs4 := hb4.size
    have hs5 := hb5.size
    have hk5 := (show Kept (w.heap.size + 1 + 1 + 1) W w5 by (repeat' (first | exact Kept.refl _ _ | refine Kept.drew ?_ | refine Kept.alloc ?_ _ | refine Kept.set ?_ _ _ | refine Kept.below ?_ (by assumption)))).size
    have hk4 := (show Kept (w.heap.size + 1 + 1 + 1) W w4 by (repeat' (first | exact Kept.refl _ _ | refine Kept.drew ?_ | refine Kept.alloc ?_ _ | refine Kept.set ?_ _ _ | refine Kept.below ?_ (by assumption)))).size
    have hK4 := (Kept.under (show Kept (w.heap.size + 1 + 1 + 1) W w5 by (repeat' (first | exact Kept.refl _ _ | refine Kept.drew ?_ | refine Kept.alloc ?_ _ | refine Kept.set ?_ _ _ | refine Kept.below ?_ (by assumption)))) hBW (by omega) (by omega))
    go_wp2_with fail
    refine bodyPost_ret (v := .agg #[.bool ng, .slice f1 fs.length j1, .slice f2 gs.length j2]) (by simp [results, Tryz.results41, go_sem, u0, u1, u2]) rfl ⟨_, rfl, ?_, below_set3 hK4 (by omega) _ _ _⟩
    exact ((q5.far P5 (by decide) (kept3 _ _ _)).mono (by omega)).more (by omega))
end
section
open Go.RowKit
set_option linter.unusedVariables false
set_option linter.unusedSimpArgs false
set_option maxRecDepth 100000 in
set_option maxHeartbeats 4000000 in
theorem signQ_any {n : Nat} {w : World} {u : Value} {X : Rat} (hu : ArgQ w u X n) (hn : n ≤ 16777000) :
    Calls Tryz.prog 42 #[u] w fun e w' => e = .returned (.int .i64 (sgR X)) ∧ Below w.heap.size w w' := by
  obtain ⟨n1, ps, qs, e1, e2, k1, k2, rfl⟩ := hu.box
  obtain ⟨W, hW⟩ : ∃ W, (w.alloc (.cells #[.bool n1, .slice e1 ps.length k1, .slice e2 qs.length k2] 44)) = W := ⟨_, rfl⟩
  have R0 : Row W (w.heap.size) 44 #[.bool n1, .slice e1 ps.length k1, .slice e2 qs.length k2] := by rw [← hW]; exact (Row.new _ _ _)
  have hBW : Below w.heap.size w W := by rw [← hW]; exact ((Below.refl _ _).alloc (by (try simp) <;> omega) _)
  have hsW : w.heap.size + 1 ≤ W.heap.size := by rw [← hW]; simp
  have hu' := hu.later hBW
  obtain ⟨p0, p1, p2, p3, p4, p5⟩ := R0.three
  go_enter Tryz.func42, Tryz.ntmps42
  go_wp2_with fail
  refine (plain_any hu' (by omega)).mono ?_
  rintro e w1 ⟨r1, rfl, h1, hb1⟩
  have hs1 := hb1.size
  replace R0 := R0.later hb1
  clear p0 p1 p2 p3 p4 p5 hW
  obtain ⟨m1, xs, ds, a1, a2, c1, c2, rfl, A, B, hX, hx, hd, hB, _⟩ := h1
  obtain ⟨p0, p1, p2, p3, p4, p5⟩ := R0.three
  obtain ⟨V, hV⟩ : ∃ V, ((w1.setCell ⟨w.heap.size, 0, none⟩ (.bool m1)).setCell ⟨w.heap.size, 1, none⟩ (.slice a1 xs.length c1)).setCell ⟨w.heap.size, 2, none⟩ (.slice a2 ds.length c2) = V := ⟨_, rfl⟩
  have P0 : Row V (w.heap.size) 44 #[.bool m1, .slice a1 xs.length c1, .slice a2 ds.length c2] := by rw [← hV]; exact R0.set3 _ _ _
  have hBV : Below w.heap.size w V := by rw [← hV]; exact below_set3 (hBW.trans (hb1.mono (by omega))) (by omega) _ _ _
  have hsV : w1.heap.size ≤ V.heap.size := by rw [← hV]; simp
  have AV : Arg V (.slice a1 xs.length c1) xs a1 c1 := by rw [← hV]; exact A.far R0 (noInts3 _ _ _ _ _ _ _) (kept3 _ _ _)
  have hs : SgnQ V (.agg #[.bool m1, .slice a1 xs.length c1]) (sgn m1 (val xs)) (n + 2) := ⟨m1, xs, a1, c1, rfl, AV, rfl, hx⟩
  have hfin : (sgn m1 (val xs)).sign = sgR X := by rw [← hX, sgR_ratOf _ _ hB]
  have HF := Lib.hid hfin
  obtain ⟨o0, o1, o2, _, _, _⟩ := P0.three
  clear hfin hX
  go_wp2_with fail
  (try rw [hV])
  refine (sign_any hs (by omega)).mono ?_
  rintro e w2 ⟨rfl, hb2⟩
  clear p0 p1 p2 p3 p4 p5 o0 o1 o2 hV
  go_wp2_with fail
  go_ret
  exact ⟨by rw [← HF.out]; rfl, hBV.trans (hb2.mono (by omega))⟩
end
section
open Go.RowKit
set_option linter.unusedVariables false
set_option linter.unusedSimpArgs false
set_option maxRecDepth 100000 in
set_option maxHeartbeats 1000000 in
theorem smallL_any (N : Int) (w : World) (hN : 0 ≤ N) (hN2 : N ≤ 9223372036854775807) :
    Calls Tryz.prog 100 #[.int .i64 N] w fun e w' => ∃ u, e = .returned u ∧ ∃ zs, ResD w.heap.size w' u zs N ∧ zs.length ≤ 5 ∧ Below w.heap.size w w' := by
  obtain ⟨i0, hi, hz0, hz1, hz2⟩ := info_parts infoInt
  go_enter Tryz.func100, Tryz.ntmps100
  go_wp2
  go_loopw [0, 3] (fun n s wr => ∃ (m : Int) (ds : List Int) (v : Value), n = .int .i64 m ∧ v = s ∧ 0 ≤ m ∧ m ≤ 9223372036854775807 ∧ ds.length ≤ 5 ∧ NumI w.heap.size wr v ds ∧ WfD ds ∧ valD ds + 10000 ^ ds.length * m = N ∧ (m = 0 → trimN ds ds.length = ds.length) ∧ Below w.heap.size w wr) (fun n _ _ => (intOf n).toNat)
  case atStart => exact ⟨N, [], _, rfl, rfl, hN, hN2, by simp, World.ownsRow_nil _ _ _ _, WfD.nil, by simp [valD], fun _ => rfl, Below.refl _ _⟩
  case round =>
    obtain ⟨m, ds, v, rfl, rfl, hm, hm2, hlen, hown, hwf, hval, hfull, hb⟩ := hrel
    have hsz := hb.size
    have HV := Lib.hid hval
    have HF := Lib.hid hfull
    have HO := Lib.hid hown
    have hrow : wr.ownsRow w.heap.size 3 1 v ds.length (ds.map (Value.int .i64)) := hown
    have h0v := val_nonnegD hwf
    have hle : 10000 ^ ds.length * m ≤ N := by omega
    have hlen4 : 0 < m → ds.length ≤ 4 := by
      intro hp
      rcases Nat.lt_or_ge 4 ds.length with k | k
      · exfalso
        have e5 : ds.length = 5 := by omega
        rw [e5] at hle
        simp at hle
        omega
      · exact k
    clear hval hfull hown hle h0v
    by_cases hpos : 0 < m
    · have hl4 := hlen4 hpos
      clear hlen4
      go_wp2_with (at_builtin; refine wpList_append_own _ rfl _ _ 48 rfl w.heap.size 3 i0 (.int .i64 0) 1 8 Tryz.underlying48 hi hz0 hz1 hz2 rfl (by decide) _ _ _ rfl (hrow.alloc _) ⟨wr.heap.size, 0, none⟩ 1 1 [.int .i64 (m % 10000)] rfl rfl (cell_one_new _ _ _) (by simp [Value.oneCell']) (by unfold maxLen; omega) (by omega) (by simp; omega) ?_; intro v' w1 hown' hgrow _)
      go_roundw
      case rel =>
        obtain ⟨hn, hbw⟩ := push_num hb hsz HO.out hown' hgrow
        refine ⟨m / 10000, ds ++ [m % 10000], v', rfl, rfl, by omega, by omega, ?_, hn, hwf.snoc (by omega), ?_, fun h0 => full_snoc ds (by omega), hbw⟩
        · rw [List.length_append, List.length_singleton]
          omega
        · rw [valD_snoc, List.length_append, List.length_singleton, Int.pow_succ]
          have h1 := HV.out
          have h2 : m % 10000 + 10000 * (m / 10000) = m := by omega
          generalize m % 10000 = r at *
          generalize m / 10000 = q at *
          generalize (10000 : Int) ^ ds.length = P at *
          grind
      case measure => simp [intOf]; omega
    · have h0 : m = 0 := by omega
      subst h0
      go_wp2
      go_ret
      exact ⟨_, rfl, ds, ⟨HO.out, hwf, (by have h := HF.out; simpa using h), by have := HV.out; simpa using this⟩, hlen, hb⟩
/-- a literal of one digit -/
theorem digit_lit {w : World} {g : Nat} {x : Int} (h : Row w g 3 #[.int .i64 x]) (hx : 0 < x ∧ x < 10000) : ArgD w (.slice (some ⟨g, 0, none⟩) 1 1) [x] (some ⟨g, 0, none⟩) 1 := by
  refine ⟨rfl, .inr ⟨g, 0, rfl, fun i hi => ?_⟩, by simp, WfD.cons (by omega) WfD.nil, ?_⟩
  · obtain rfl : i = 0 := by simpa using hi
    exact h.cell 0
  · show trimN [x] 1 = 1
    unfold trimN
    rw [if_neg (by simp; omega)]
set_option maxHeartbeats 1000000 in
theorem sizeR_any (n : Int) (w : World) (h0 : -9223372036854775808 ≤ n) (h1 : n ≤ 9223372036854775807) :
    Calls Tryz.prog 87 #[.int .i64 n] w fun e w' => ∃ r, e = .returned r ∧ ∃ zs, ResD w.heap.size w' r zs (n.natAbs : Int) ∧ zs.length ≤ 6 ∧ Below w.heap.size w w' := by
  by_cases hn : n < 0
  · have hd : decide (n < 0) = true := decide_eq_true hn
    obtain ⟨m, hm⟩ : ∃ m : Int, n = -m - 1 := ⟨-n - 1, by omega⟩
    have e1 : ((n.natAbs : Nat) : Int) = m + 1 := by omega
    rw [e1]
    subst hm
    have hs1 : -m - 1 + 1 = -m := by omega
    have hw1 : IntKind.i64.wrap (-m - 1 + 1) = -m := by rw [hs1]; exact IntWalk.i64_in _ (by omega)
    have hw2 : IntKind.i64.wrap (- -m) = m := by rw [Int.neg_neg]; exact IntWalk.i64_in _ (by omega)
    clear e1
    go_enter Tryz.func87, Tryz.ntmps87
    go_wp2_with fail
    have key : ∀ q : Int, q = m → Calls Tryz.prog 100 #[.int .i64 q] w fun e w' => ∃ u, e = .returned u ∧ ∃ zs, ResD w.heap.size w' u zs m ∧ zs.length ≤ 5 ∧ Below w.heap.size w w' := by
      rintro q rfl; exact smallL_any _ _ (by omega) (by omega)
    refine (key _ (by first | rfl | omega | (unfold wrap64; omega))).mono ?_
    rintro e w1 ⟨r1, rfl, z1, q1, n1, hb1⟩
    obtain ⟨ad1, c1, rfl, q1, A1⟩ := q1.slice
    have hb2 : Below w1.heap.size w1 (w1.alloc (.cells #[.int .i64 1] 3)) := (Below.refl _ _).alloc (Nat.le_refl _) _
    have A1' := A1.later hb2
    have L := digit_lit (Row.new w1 3 #[.int .i64 1]) (by omega)
    have hs1' := hb1.size
    clear hw1 hw2 hs1 key
    go_wp2_with fail
    refine (addD_any A1' L (by omega) (by simp)).mono ?_
    rintro e w2 ⟨r2, rfl, z2, q2, n2, hb3⟩
    have hv : valD z2 = m + 1 := by rw [q2.eq, q1.eq]; simp [valD]
    have HV := Lib.hid hv
    have hs2 : w.heap.size ≤ (w1.alloc (.cells #[.int .i64 1] 3)).heap.size := by simp; omega
    simp only [List.length_cons, List.length_nil] at n2
    clear hv
    go_wp2_with fail
    go_ret
    exact ⟨_, rfl, z2, ⟨q2.num.mono hs2, q2.wf, q2.full, HV.out⟩, by omega, (hb1.trans (hb2.mono hs1')).trans (hb3.mono hs2)⟩
  · have hd : decide (n < 0) = false := decide_eq_false hn
    have e1 : ((n.natAbs : Nat) : Int) = n := by omega
    rw [e1]
    clear e1
    go_enter Tryz.func87, Tryz.ntmps87
    go_wp2_with fail
    refine (smallL_any n _ (by omega) (by omega)).mono ?_
    rintro e w' ⟨r, rfl, z, q, nz, hb⟩
    go_wp2_with fail
    go_ret
    exact ⟨r, rfl, z, q, by omega, hb⟩
end
section
open Go.RowKit
set_option linter.unusedVariables false
set_option linter.unusedSimpArgs false
set_option maxRecDepth 100000 in
set_option maxHeartbeats 4000000 in
theorem makeR_any {n : Nat} {w : World} {m1 : Bool} {xs ds : List Int} {a1 a2 : Option Addr} {c1 c2 : Nat} (A : ArgD w (.slice a1 xs.length c1) xs a1 c1) (B : ArgD w (.slice a2 ds.length c2) ds a2 c2) (hx : xs.length ≤ n) (hd : ds.length ≤ n) (hn : n ≤ 4294967296) :
    Calls Tryz.prog 60 #[.bool m1, .slice a1 xs.length c1, .slice a2 ds.length c2] w fun e w' => ∃ r, e = .returned r ∧ ArgR w' r (ratOf m1 (valD xs) (valD ds)) (n + 1) ∧ Below w.heap.size w w' := by
  have h0x := val_nonnegD A.wf
  have h0d := val_nonnegD B.wf
  obtain ⟨W, hW⟩ : ∃ W, (w.alloc (.cells #[.bool false, .slice none 0 0, .slice none 0 0] 50)) = W := ⟨_, rfl⟩
  have R0 : Row W (w.heap.size) 50 #[.bool false, .slice none 0 0, .slice none 0 0] := by rw [← hW]; exact (Row.new _ _ _)
  have hBW : Below w.heap.size w W := by rw [← hW]; exact ((Below.refl _ _).alloc (by (try simp) <;> omega) _)
  have hsW : w.heap.size + 1 ≤ W.heap.size := by rw [← hW]; simp
  by_cases z1 : valD xs = 0
  · have d1 := lenD_zero A.wf A.full z1
    have hX : ratOf m1 (valD xs) (valD ds) = 0 := by rw [z1]; exact ratOf_zero_left _ _
    have HX := Lib.hid hX
    have hb2 : Below W.heap.size W (W.alloc (.cells #[.int .i64 1] 3)) := (Below.refl _ _).alloc (Nat.le_refl _) _
    have L := digit_lit (Row.new W 3 #[.int .i64 1]) (by omega)
    have R0' := R0.later hb2
    obtain ⟨u0, u1, u2, g0, g1, g2⟩ := R0'.three
    obtain ⟨p0, p1, p2, p3, p4, p5⟩ := R0.three
    clear hX
    go_enter Tryz.func60, Tryz.ntmps60
    go_wp2_with fail
    refine bodyPost_ret (v := .agg #[.bool false, .slice none 0 0, .slice (some ⟨W.heap.size, 0, none⟩) 1 1]) (by simp [results, Tryz.results60, go_sem, u0, u1, u2]) rfl ⟨_, rfl, ⟨[], [1], none, some ⟨W.heap.size, 0, none⟩, 0, 1, ?_, ?_, ?_, ?_, ?_, by simp, by simp⟩, ?_⟩
    · rw [HX.out]; rfl
    · exact ⟨rfl, .inl rfl, Nat.le_refl _, WfD.nil, rfl⟩
    · exact L.far R0' (noInts3 _ _ _ _ _ _ _) (kept3 _ _ _)
    · rw [HX.out]; rfl
    · rw [HX.out]; rfl
    · exact below_set3 (hBW.trans (hb2.mono (by omega))) (by omega) _ _ _
  by_cases z2 : valD ds = 0
  · have d1 := lenD_pos (show 0 < valD xs by omega)
    have d2 := lenD_zero B.wf B.full z2
    have hX : ratOf m1 (valD xs) (valD ds) = 0 := by rw [z2]; exact ratOf_zero_right _ _
    have HX := Lib.hid hX
    have hb2 : Below W.heap.size W (W.alloc (.cells #[.int .i64 1] 3)) := (Below.refl _ _).alloc (Nat.le_refl _) _
    have L := digit_lit (Row.new W 3 #[.int .i64 1]) (by omega)
    have R0' := R0.later hb2
    obtain ⟨u0, u1, u2, g0, g1, g2⟩ := R0'.three
    obtain ⟨p0, p1, p2, p3, p4, p5⟩ := R0.three
    clear hX
    go_enter Tryz.func60, Tryz.ntmps60
    go_wp2_with fail
    refine bodyPost_ret (v := .agg #[.bool false, .slice none 0 0, .slice (some ⟨W.heap.size, 0, none⟩) 1 1]) (by simp [results, Tryz.results60, go_sem, u0, u1, u2]) rfl ⟨_, rfl, ⟨[], [1], none, some ⟨W.heap.size, 0, none⟩, 0, 1, ?_, ?_, ?_, ?_, ?_, by simp, by simp⟩, ?_⟩
    · rw [HX.out]; rfl
    · exact ⟨rfl, .inl rfl, Nat.le_refl _, WfD.nil, rfl⟩
    · exact L.far R0' (noInts3 _ _ _ _ _ _ _) (kept3 _ _ _)
    · rw [HX.out]; rfl
    · rw [HX.out]; rfl
    · exact below_set3 (hBW.trans (hb2.mono (by omega))) (by omega) _ _ _
  have hpx : 0 < valD xs := by omega
  have hpd : 0 < valD ds := by omega
  have d1 := lenD_pos hpx
  have d2 := lenD_pos hpd
  have A' := A.later hBW
  have B' := B.later hBW
  have e1 := ratOf_neg (n := m1) h0x hpd (fun h => absurd h z1)
  have e2 := ratOf_abs (n := m1) h0x hpd
  have e3 := ratOf_den (n := m1) (A := valD xs) hpd
  have hgp : 0 < (Int.gcd (valD xs) (valD ds) : Int) := gcd_pos hpx
  have E1 := Lib.hid e1
  have E2 := Lib.hid e2
  have E3 := Lib.hid e3
  clear e1 e2 e3 z1 z2
  go_enter Tryz.func60, Tryz.ntmps60
  go_wp2_with fail
  refine (gcdD_any A' B' (by omega) (by omega)).mono ?_
  rintro e w1 ⟨r1, rfl, gs, gd, gc, G, hG, lG, hb1⟩
  have hs1 := hb1.size
  have A1 := A'.later hb1
  have B1 := B'.later hb1
  have hgs : 0 < valD gs := by rw [hG]; exact hgp
  have HG := Lib.hid hG
  have eG := G.is
  subst eG
  clear hG hgp hW
  go_wp2_with fail
  refine (divD_any A1 G (by omega) (by omega) hgs).mono ?_
  rintro e w2 ⟨r2, s2, rfl, hb2, ⟨z2, q2, l2⟩, _⟩
  have hs2 := hb2.size
  obtain ⟨ad2, cp2, rfl, q2, A2⟩ := q2.slice
  have B2 := B1.later hb2
  have G2 := G.later hb2
  go_wp2_with fail
  refine (divD_any B2 G2 (by omega) (by omega) hgs).mono ?_
  rintro e w3 ⟨r3, s3, rfl, hb3, ⟨z3, q3, l3⟩, _⟩
  have hs3 := hb3.size
  obtain ⟨ad3, cp3, rfl, q3, A3⟩ := q3.slice
  have A2' := A2.later hb3
  have P3 := ((R0.later hb1).later hb2).later hb3
  have v2 := q2.eq
  have v3 := q3.eq
  rw [HG.out] at v2 v3
  have V2 := Lib.hid v2
  have V3 := Lib.hid v3
  clear v2 v3 q2 q3
  obtain ⟨u0, u1, u2, g0, g1, g2⟩ := P3.three
  go_wp2_with fail
  refine bodyPost_ret (v := .agg #[.bool m1, .slice ad2 z2.length cp2, .slice ad3 z3.length cp3]) (by simp [results, Tryz.results60, go_sem, u0, u1, u2]) rfl ⟨_, rfl, ⟨z2, z3, ad2, ad3, cp2, cp3, by rw [E1.out], ?_, ?_, ?_, ?_, by omega, by omega⟩, ?_⟩
  · exact A2'.far P3 (noInts3 _ _ _ _ _ _ _) (kept3 _ _ _)
  · exact A3.far P3 (noInts3 _ _ _ _ _ _ _) (kept3 _ _ _)
  · rw [V2.out, E2.out]
  · rw [V3.out, E3.out]
  · exact below_set3 (((hBW.trans (hb1.mono (by omega))).trans (hb2.mono (by omega))).trans (hb3.mono (by omega))) (by omega) _ _ _
set_option maxRecDepth 100000 in
set_option maxHeartbeats 4000000 in
theorem ofR_any {n : Nat} {w : World} {v : Value} {X : Rat} (h : ArgQ w v X n) (hn : n ≤ 134217728) :
    Calls Tryz.prog 25 #[v] w fun e w' => ∃ r, e = .returned r ∧ ArgR w' r X (5 * n + 1) ∧ Below w.heap.size w w' := by
  obtain ⟨m1, xs, ds, a1, a2, c1, c2, rfl, A, B, hX, hx, hd⟩ := h
  obtain ⟨W, hW⟩ : ∃ W, ((w.alloc (.cells #[.bool m1, .slice a1 xs.length c1, .slice a2 ds.length c2] 44)).alloc (.cells #[.bool false, .slice none 0 0, .slice none 0 0] 50)) = W := ⟨_, rfl⟩
  have R0 : Row W (w.heap.size) 44 #[.bool m1, .slice a1 xs.length c1, .slice a2 ds.length c2] := by rw [← hW]; exact ((Row.new _ _ _).alloc _)
  have R1 : Row W (w.heap.size + 1) 50 #[.bool false, .slice none 0 0, .slice none 0 0] := by rw [← hW]; have h := (Row.new (w.alloc (.cells #[.bool m1, .slice a1 xs.length c1, .slice a2 ds.length c2] 44)) 50 #[.bool false, .slice none 0 0, .slice none 0 0]); simp only [World.size_alloc] at h; exact h
  have hBW : Below w.heap.size w W := by rw [← hW]; exact (((Below.refl _ _).alloc (by (try simp) <;> omega) _).alloc (by (try simp) <;> omega) _)
  have hsW : w.heap.size + 1 + 1 ≤ W.heap.size := by rw [← hW]; simp
  have HX := Lib.hid hX
  clear hX
  have mkS : ∀ X, Kept (w.heap.size + 1) W X → X.cell? ⟨w.heap.size, 0, none⟩ = some (.bool m1) ∧ X.cell? ⟨w.heap.size, 1, none⟩ = some (.slice a1 xs.length c1) ∧ X.cell? ⟨w.heap.size, 2, none⟩ = some (.slice a2 ds.length c2) ∧ Kept (w.heap.size + 1) W X := fun X h => ⟨(R0.kept h (by omega)).cell 0, (R0.kept h (by omega)).cell 1, (R0.kept h (by omega)).cell 2, h⟩
  go_enter Tryz.func25, Tryz.ntmps25
  go_wp2_with fail
  clear hW
  go_region_held3 (fun X => X.cell? ⟨w.heap.size, 0, none⟩ = some (.bool m1) ∧ X.cell? ⟨w.heap.size, 1, none⟩ = some (.slice a1 xs.length c1) ∧ X.cell? ⟨w.heap.size, 2, none⟩ = some (.slice a2 ds.length c2) ∧ Kept (w.heap.size + 1) W X)
    (((refine mkS _ ?_; (repeat' (first | exact Kept.refl _ _ | refine Kept.drew ?_ | refine Kept.alloc ?_ _ | refine Kept.set ?_ _ _ | refine Kept.below ?_ (by assumption))))))
    ((first
      | (go_at_call 60; refine (makeR_any (n := 5 * n) (A3.later hb4) A4 (by omega) (by omega) (by omega)).mono ?_; rintro e w5 ⟨r5, rfl, q5, hb5⟩; rw [HV.out] at q5; obtain ⟨fs, gs, f1, f2, j1, j2, e5, _⟩ := id q5; subst e5; have P5 := R1.kept (show Kept (w.heap.size + 1 + 1 + 1) W w5 by (repeat' (first | exact Kept.refl _ _ | refine Kept.drew ?_ | refine Kept.alloc ?_ _ | refine Kept.set ?_ _ _ | refine Kept.below ?_ (by assumption)))) (by omega); obtain ⟨u0, u1, u2, g0, g1, g2⟩ := P5.three)
      | (go_at_call 61; (with_reducible refine (of_any (B.later (Kept.under (show Kept (w.heap.size + 1) W _ by (repeat' (first | exact Kept.refl _ _ | refine Kept.drew ?_ | refine Kept.alloc ?_ _ | refine Kept.set ?_ _ _ | refine Kept.below ?_ (by assumption)))) hBW (by omega) (by omega))) (by omega)).mono ?_); rintro e w4 ⟨r4, rfl, z4, q4, l4, hb4⟩; obtain ⟨ad4, cp4, rfl, q4, A4⟩ := q4.slice; have HV := Lib.hid ((show ratOf m1 (valD z3) (valD z4) = ratOf m1 (val xs) (val ds) by rw [q3.eq, q4.eq]).trans HX.out))
      | (go_at_call 61; (with_reducible refine (of_any (A.later (Kept.under (show Kept (w.heap.size + 1) W _ by (repeat' (first | exact Kept.refl _ _ | refine Kept.drew ?_ | refine Kept.alloc ?_ _ | refine Kept.set ?_ _ _ | refine Kept.below ?_ (by assumption)))) hBW (by omega) (by omega))) (by omega)).mono ?_); rintro e w3 ⟨r3, rfl, z3, q3, l3, hb3⟩; obtain ⟨ad3, cp3, rfl, q3, A3⟩ := q3.slice)))
  have hs5 := hb5.size
  have hk5 := (show Kept (w.heap.size + 1 + 1 + 1) W w5 by (repeat' (first | exact Kept.refl _ _ | refine Kept.drew ?_ | refine Kept.alloc ?_ _ | refine Kept.set ?_ _ _ | refine Kept.below ?_ (by assumption)))).size
  have hK5 := (Kept.under (show Kept (w.heap.size + 1 + 1 + 1) W w5 by (repeat' (first | exact Kept.refl _ _ | refine Kept.drew ?_ | refine Kept.alloc ?_ _ | refine Kept.set ?_ _ _ | refine Kept.below ?_ (by assumption)))) hBW (by omega) (by omega))
  go_wp2_with fail
  refine bodyPost_ret (v := .agg #[.bool (decide (X.num < 0)), .slice f1 fs.length j1, .slice f2 gs.length j2]) (by simp [results, Tryz.results25, go_sem, u0, u1, u2]) rfl ⟨_, rfl, ?_, below_set3 hK5 (by omega) _ _ _⟩
  exact (q5.far P5 (noInts3 _ _ _ _ _ _ _) (kept3 _ _ _))
end
end Go.Proofs.YtnhfjacifajdlaaGreat
