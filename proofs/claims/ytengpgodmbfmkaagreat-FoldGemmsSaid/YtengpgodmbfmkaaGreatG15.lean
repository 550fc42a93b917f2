/-
  Part 15 of 39: contracts and what they rest on (RNorm, RMul, SMem, TMem).
-/
import Derived.Test.YtengpgodmbfmkaaGreatG12
import Derived.Test.YtengpgodmbfmkaaGreatG13
namespace Go.Proofs.YtengpgodmbfmkaaGreat
set_option linter.unusedVariables false
set_option linter.unusedSimpArgs false
set_option maxRecDepth 100000
set_option maxHeartbeats 40000000
section
open Go.RowKit
theorem ArgQ.box {w : World} {v : Value} {X : Rat} {n : Nat} (h : ArgQ w v X n) : ∃ (neg : Bool) (xs ys : List Int) (ad bd : Option Addr) (ca cb : Nat), v = .agg #[.bool neg, .slice ad xs.length ca, .slice bd ys.length cb] := by
 obtain ⟨neg, xs, ys, ad, bd, ca, cb, rfl, _⟩ := h
 exact ⟨neg, xs, ys, ad, bd, ca, cb, rfl⟩
theorem plain_any {n : Nat} {w : World} {v : Value} {X : Rat} (h : ArgQ w v X n) (hn : n ≤ 2147483648) :
 Calls Tryz.prog 118 #[v] w fun e w' => ∃ r, e = .returned r ∧ PlainQ w' r X (n + 2) ∧ Below w.heap.size w w' := by
 obtain ⟨neg, xs, ys, a1, a2, c1, c2, rfl, A, B, hX, hx, hy⟩ := h
 obtain ⟨W, hW⟩ : ∃ W, ((w.alloc (.cells #[.bool neg, .slice a1 xs.length c1, .slice a2 ys.length c2] 54)).alloc (.cells #[.bool false, .slice none 0 0, .slice none 0 0] 54)) = W := ⟨_, rfl⟩
 have R0 : Row W (w.heap.size) 54 #[.bool neg, .slice a1 xs.length c1, .slice a2 ys.length c2] := by rw [← hW]; exact ((Row.new _ _ _).alloc _)
 have R1 : Row W (w.heap.size + 1) 54 #[.bool false, .slice none 0 0, .slice none 0 0] := by rw [← hW]; have h := (Row.new (w.alloc (.cells #[.bool neg, .slice a1 xs.length c1, .slice a2 ys.length c2] 54)) 54 #[.bool false, .slice none 0 0, .slice none 0 0]); simp only [World.size_alloc] at h; exact h
 have hBW : Below w.heap.size w W := by rw [← hW]; exact (((Below.refl _ _).alloc (by (try simp) <;> omega) _).alloc (by (try simp) <;> omega) _)
 have hsW : w.heap.size + 1 + 1 ≤ W.heap.size := by rw [← hW]; simp
 have A' := A.later hBW
 have B' := B.later hBW
 obtain ⟨e0, e1, e2, _, _, _⟩ := R0.three
 have hb1 := bits_res A' (by omega) (bitsN_is A.wf)
 have hp1 := bits_pos A.wf
 have hb2 := bits_res B' (by omega) (bitsN_is B.wf)
 have hp2 := bits_pos B.wf
 have h01 := val_nonneg A.wf
 have h02 := val_nonneg B.wf
 obtain ⟨m1, hm1⟩ : ∃ m, bitsN xs = m := ⟨_, rfl⟩
 obtain ⟨m2, hm2⟩ : ∃ m, bitsN ys = m := ⟨_, rfl⟩
 rw [hm1] at hb1 hp1
 rw [hm2] at hb2 hp2
 clear hm1 hm2
 by_cases z1 : val xs = 0
 · have hX0 : X = 0 := by rw [← hX, z1]; exact ratOf_zero_left _ _
   have HX := Lib.hid hX0
   have d1 : ((m1 : Int) == 0) = true := by obtain rfl : m1 = 0 := by omega
                                            rfl
   clear hX hX0 z1 hp1 hp2 h01 h02
   go_enter Tryz.func118, Tryz.ntmps118
   go_wp2_with fail
   refine hb1.mono ?_
   rintro e w' ⟨rfl, rfl⟩
   clear hb1 hb2
   go_wp2_with fail
   refine (int_any 0 _ (by omega) (by omega)).mono ?_
   rintro e w2 ⟨r2, rfl, q2, hb2⟩
   have P2 := q2.plain
   obtain ⟨neg', us, vs, b1, b2, k1, k2, rfl⟩ := q2.arg.box
   have R1' := R1.later hb2
   clear e0 e1 e2 hW
   obtain ⟨u0, u1, u2, g0, g1, g2⟩ := R1'.three
   go_wp2_with fail
   refine bodyPost_ret (v := .agg #[.bool neg', .slice b1 us.length k1, .slice b2 vs.length k2]) (by simp [results, Tryz.results118, go_sem, u0, u1, u2]) rfl ⟨_, rfl, ?_, below_set3 (hBW.trans (hb2.mono (by omega))) (by omega) _ _ _⟩
   rw [HX.out, ← intQ_zero]
   exact (P2.far R1' (noInts3 _ _ _ _ _ _ _) (kept3 _ _ _)).more (by omega)
 · by_cases z2 : val ys = 0
   · have hX0 : X = 0 := by rw [← hX, z2]; exact ratOf_zero_right _ _
     have HX := Lib.hid hX0
     have d1 : ((m1 : Int) == 0) = false := by simp; omega
     have d2 : ((m2 : Int) == 0) = true := by obtain rfl : m2 = 0 := by omega
                                              rfl
     clear hX hX0 z1 z2 hp1 hp2 h01 h02
     go_enter Tryz.func118, Tryz.ntmps118
     go_wp2_with fail
     refine hb1.mono ?_
     rintro e w' ⟨rfl, rfl⟩
     clear hb1
     go_wp2_with fail
     refine hb2.mono ?_
     rintro e w' ⟨rfl, rfl⟩
     clear hb2
     go_wp2_with fail
     refine (int_any 0 _ (by omega) (by omega)).mono ?_
     rintro e w2 ⟨r2, rfl, q2, hb2⟩
     have P2 := q2.plain
     obtain ⟨neg', us, vs, b1, b2, k1, k2, rfl⟩ := q2.arg.box
     have R1' := R1.later hb2
     clear e0 e1 e2 hW
     obtain ⟨u0, u1, u2, g0, g1, g2⟩ := R1'.three
     go_wp2_with fail
     refine bodyPost_ret (v := .agg #[.bool neg', .slice b1 us.length k1, .slice b2 vs.length k2]) (by simp [results, Tryz.results118, go_sem, u0, u1, u2]) rfl ⟨_, rfl, ?_, below_set3 (hBW.trans (hb2.mono (by omega))) (by omega) _ _ _⟩
     rw [HX.out, ← intQ_zero]
     exact (P2.far R1' (noInts3 _ _ _ _ _ _ _) (kept3 _ _ _)).more (by omega)
   · have HX := Lib.hid hX
     have d1 : ((m1 : Int) == 0) = false := by simp; omega
     have d2 : ((m2 : Int) == 0) = false := by simp; omega
     have hpos : 0 < val ys := by omega
     have hn0 : val xs = 0 → neg = false := fun h => absurd h z1
     clear hX z1 z2 hp1 hp2 h01 h02
     obtain ⟨u0, u1, u2, g0, g1, g2⟩ := R1.three
     have HN := Lib.hid hn0
     clear hn0
     go_enter Tryz.func118, Tryz.ntmps118
     go_wp2_with fail
     refine hb1.mono ?_
     rintro e w' ⟨rfl, rfl⟩
     clear hb1
     go_wp2_with fail
     refine hb2.mono ?_
     rintro e w' ⟨rfl, rfl⟩
     clear hb2 hW
     go_wp2_with fail
     refine bodyPost_ret (v := .agg #[.bool neg, .slice a1 xs.length c1, .slice a2 ys.length c2]) (by simp [results, Tryz.results118, go_sem, u0, u1, u2]) rfl ⟨_, rfl, ?_, below_set3 hBW (by omega) _ _ _⟩
     exact ⟨neg, xs, ys, a1, a2, c1, c2, rfl, A'.far R1 (noInts3 _ _ _ _ _ _ _) (kept3 _ _ _), B'.far R1 (noInts3 _ _ _ _ _ _ _) (kept3 _ _ _), HX.out, by omega, by omega, hpos, HN.out⟩
theorem side_any {w : World} {g : Nat} {xs gs : List Int} {a1 gd : Option Addr} {c1 gc : Nat} (G : w.cell? ⟨g, 0, none⟩ = some (.slice gd gs.length gc)) (Ag : Arg w (.slice gd gs.length gc) gs gd gc)
 (A : Arg w (.slice a1 xs.length c1) xs a1 c1) (hpos : 0 < val gs) (hx : xs.length ≤ 134217728) (hg : gs.length ≤ 134217728) :
 Calls Tryz.prog 137 #[.slice a1 xs.length c1, .pointer (some ⟨g, 0, none⟩)] w fun e w' => ∃ r zs, e = .returned r ∧ Res w.heap.size w' r zs (val xs / val gs) ∧ zs.length ≤ xs.length ∧ Below w.heap.size w w' := by
 go_enter Tryz.func137, Tryz.ntmps137
 go_wp2_with fail
 refine (div_any A Ag hx hg hpos).mono ?_
 rintro e w2 ⟨r2, s2, rfl, hb2, ⟨z2, q2, l2⟩, _⟩
 clear G
 go_wp2_with fail
 go_ret
 exact ⟨r2, z2, rfl, q2, l2, hb2⟩
theorem bothNorm_any {w : World} {g : Nat} {neg : Bool} {xs ys gs : List Int} {a1 a2 gd : Option Addr} {c1 c2 gc : Nat} (G : w.cell? ⟨g, 0, none⟩ = some (.slice gd gs.length gc)) (Ag : Arg w (.slice gd gs.length gc) gs gd gc)
 (A : Arg w (.slice a1 xs.length c1) xs a1 c1) (B : Arg w (.slice a2 ys.length c2) ys a2 c2) (hpos : 0 < val gs) (hx : xs.length ≤ 134217728) (hy : ys.length ≤ 134217728) (hg : gs.length ≤ 134217728) :
 Calls Tryz.prog 136 #[.agg #[.bool neg, .slice a1 xs.length c1, .slice a2 ys.length c2], .func (.func 137) #[] #[.pointer (some ⟨g, 0, none⟩)]] w fun e w' => ∃ r, e = .returned r ∧ ∃ (us vs : List Int) (b1 b2 : Option Addr) (k1 k2 : Nat), r = .agg #[.bool neg, .slice b1 us.length k1, .slice b2 vs.length k2] ∧
  Res w.heap.size w' (.slice b1 us.length k1) us (val xs / val gs) ∧ Res w.heap.size w' (.slice b2 vs.length k2) vs (val ys / val gs) ∧ us.length ≤ xs.length ∧ vs.length ≤ ys.length ∧ Below w.heap.size w w' := by
 have hgl := World.block_lt_of_cell? w _ G
 obtain ⟨W, hW⟩ : ∃ W, ((w.alloc (.cells #[.bool neg, .slice a1 xs.length c1, .slice a2 ys.length c2] 54)).alloc (.cells #[.bool false, .slice none 0 0, .slice none 0 0] 54)) = W := ⟨_, rfl⟩
 have R0 : Row W (w.heap.size) 54 #[.bool neg, .slice a1 xs.length c1, .slice a2 ys.length c2] := by rw [← hW]; exact ((Row.new _ _ _).alloc _)
 have R1 : Row W (w.heap.size + 1) 54 #[.bool false, .slice none 0 0, .slice none 0 0] := by rw [← hW]; have h := (Row.new (w.alloc (.cells #[.bool neg, .slice a1 xs.length c1, .slice a2 ys.length c2] 54)) 54 #[.bool false, .slice none 0 0, .slice none 0 0]); simp only [World.size_alloc] at h; exact h
 have hBW : Below w.heap.size w W := by rw [← hW]; exact (((Below.refl _ _).alloc (by (try simp) <;> omega) _).alloc (by (try simp) <;> omega) _)
 have hsW : w.heap.size + 1 + 1 ≤ W.heap.size := by rw [← hW]; simp
 have mkS : ∀ X, Below (w.heap.size + 1) W X → X.cell? ⟨w.heap.size, 0, none⟩ = some (.bool neg) ∧ X.cell? ⟨w.heap.size, 1, none⟩ = some (.slice a1 xs.length c1) ∧ X.cell? ⟨w.heap.size, 2, none⟩ = some (.slice a2 ys.length c2) ∧ Below w.heap.size w X ∧ Below (w.heap.size + 1) W X := fun X h => ⟨(R0.below h (by omega)).cell 0, (R0.below h (by omega)).cell 1, (R0.below h (by omega)).cell 2, hBW.trans (h.mono (by omega)), h⟩
 go_enter Tryz.func136, Tryz.ntmps136
 go_wp2_with fail
 clear hW
 go_region_held3 (fun X => X.cell? ⟨w.heap.size, 0, none⟩ = some (.bool neg) ∧ X.cell? ⟨w.heap.size, 1, none⟩ = some (.slice a1 xs.length c1) ∧ X.cell? ⟨w.heap.size, 2, none⟩ = some (.slice a2 ys.length c2) ∧ Below w.heap.size w X ∧ Below (w.heap.size + 1) W X)
  (((refine mkS _ ?_; (repeat' (first | exact Below.refl _ _ | refine Below.drew ?_ | refine Below.alloc ?_ (by (try simp) <;> omega) _ | refine below_set3 ?_ (by (try simp) <;> omega) _ _ _ | refine below_set2 ?_ (by (try simp) <;> omega) _ _ | refine Below.setCell ?_ (by (try simp) <;> omega) _ | refine Below.trans ?_ (Below.mono (by assumption) (by (try simp) <;> omega)))))))
  ((first
    | (have HB : Below w.heap.size w _ := (‹_ ∧ _ ∧ _ ∧ Below w.heap.size w _ ∧ _›).2.2.2.1; go_at_call 137; first
      | ((with_reducible refine (side_any (((HB).cell (p := ⟨g, 0, none⟩) hgl).trans G) (Ag.later HB) (A.later HB) hpos (by omega) (by omega)).mono ?_); rintro e w2 ⟨r2, z2, rfl, q2, l2, hb2⟩; have hs2 := hb2.size; (try simp at hs2); obtain ⟨ad2, cp2, rfl, q2, A2⟩ := q2.slice; clear HB)
      | ((with_reducible refine (side_any (((HB).cell (p := ⟨g, 0, none⟩) hgl).trans G) (Ag.later HB) (B.later HB) hpos (by omega) (by omega)).mono ?_); rintro e w3 ⟨r3, z3, rfl, q3, l3, hb3⟩; clear HB; have hs3 := hb3.size; (try simp at hs3); obtain ⟨ad3, cp3, rfl, q3, A3⟩ := q3.slice; replace q2 := q2.later hb3; have R1' := R1.later (show Below W.heap.size W w3 by (repeat' (first | exact Below.refl _ _ | refine Below.drew ?_ | refine Below.alloc ?_ (by (try simp) <;> omega) _ | refine below_set3 ?_ (by (try simp) <;> omega) _ _ _ | refine below_set2 ?_ (by (try simp) <;> omega) _ _ | refine Below.setCell ?_ (by (try simp) <;> omega) _ | refine Below.trans ?_ (Below.mono (by assumption) (by (try simp) <;> omega))))); obtain ⟨u0, u1, u2, g0, g1, g2⟩ := R1'.three))))
 go_wp2_with fail
 refine bodyPost_ret (v := .agg #[.bool neg, .slice ad2 z2.length cp2, .slice ad3 z3.length cp3]) (by simp [results, Tryz.results136, go_sem, u0, u1, u2]) rfl ⟨_, rfl, z2, z3, ad2, ad3, cp2, cp3, rfl, ?_, ?_, l2, l3, ?_⟩
 · exact (q2.far R1' (by decide) (kept3 _ _ _)).mono (by (try simp) <;> omega)
 · exact (q3.far R1' (by decide) (kept3 _ _ _)).mono (by (try simp) <;> omega)
 · (repeat' (first | exact Below.refl _ _ | exact hBW | refine Below.drew ?_ | refine Below.alloc ?_ (by (try simp) <;> omega) _ | refine below_set3 ?_ (by (try simp) <;> omega) _ _ _ | refine below_set2 ?_ (by (try simp) <;> omega) _ _ | refine Below.setCell ?_ (by (try simp) <;> omega) _ | refine Below.trans ?_ (Below.mono (by assumption) (by (try simp) <;> omega))))
theorem norm_any {n : Nat} {w : World} {v : Value} {X : Rat} (h : ArgQ w v X n) (hn : n ≤ 67108864) :
 Calls Tryz.prog 90 #[v] w fun e w' => ∃ r, e = .returned r ∧ ResQ w.heap.size w' r X (n + 2) ∧ Below w.heap.size w w' := by
 obtain ⟨neg0, xs0, ys0, e1, e2, k1, k2, rfl⟩ := h.box
 obtain ⟨W, hW⟩ : ∃ W, ((w.alloc (.cells #[.bool neg0, .slice e1 xs0.length k1, .slice e2 ys0.length k2] 54)).alloc (.cells #[.bool false, .slice none 0 0, .slice none 0 0] 54)) = W := ⟨_, rfl⟩
 have R0 : Row W (w.heap.size) 54 #[.bool neg0, .slice e1 xs0.length k1, .slice e2 ys0.length k2] := by rw [← hW]; exact ((Row.new _ _ _).alloc _)
 have R1 : Row W (w.heap.size + 1) 54 #[.bool false, .slice none 0 0, .slice none 0 0] := by rw [← hW]; have h := (Row.new (w.alloc (.cells #[.bool neg0, .slice e1 xs0.length k1, .slice e2 ys0.length k2] 54)) 54 #[.bool false, .slice none 0 0, .slice none 0 0]); simp only [World.size_alloc] at h; exact h
 have hBW : Below w.heap.size w W := by rw [← hW]; exact (((Below.refl _ _).alloc (by (try simp) <;> omega) _).alloc (by (try simp) <;> omega) _)
 have hsW : w.heap.size + 1 + 1 ≤ W.heap.size := by rw [← hW]; simp
 have h' := h.later hBW
 obtain ⟨t0, t1, t2, f0, f1, f2⟩ := R0.three
 have hmf : ∀ (fn : Fn) (first cap : Array Value) (w : World), (Instr.makeFunc fn first cap).run Tryz.prog w = .ok (.func fn first cap) w := fun _ _ _ _ => rfl
 go_enter Tryz.func90, Tryz.ntmps90
 go_wp2_with fail
 refine (plain_any h' (by omega)).mono ?_
 rintro e w1 ⟨r1, rfl, hp, hb1⟩
 have hs1 := hb1.size
 replace R0 := R0.later hb1
 replace R1 := R1.later hb1
 clear t0 t1 t2 f0 f1 f2 hW h h'
 obtain ⟨neg, xs, ys, a1, a2, c1, c2, rfl, A, B, hX, hx, hy, hpos, hn0⟩ := hp
 obtain ⟨t0, t1, t2, f0, f1, f2⟩ := R0.three
 obtain ⟨V, hV⟩ : ∃ V, ((w1.setCell ⟨w.heap.size, 0, none⟩ (.bool neg)).setCell ⟨w.heap.size, 1, none⟩ (.slice a1 xs.length c1)).setCell ⟨w.heap.size, 2, none⟩ (.slice a2 ys.length c2) = V := ⟨_, rfl⟩
 have hBV : Below w.heap.size w V := by rw [← hV]; exact below_set3 (hBW.trans (hb1.mono (by omega))) (by omega) _ _ _
 have hsV : w.heap.size + 1 + 1 ≤ V.heap.size := by rw [← hV]; simp; omega
 have AV : Arg V (.slice a1 xs.length c1) xs a1 c1 := by rw [← hV]; exact A.far R0 (noInts3 _ _ _ _ _ _ _) (kept3 _ _ _)
 have BV : Arg V (.slice a2 ys.length c2) ys a2 c2 := by rw [← hV]; exact B.far R0 (noInts3 _ _ _ _ _ _ _) (kept3 _ _ _)
 have Q0 : Row V (w.heap.size) 54 #[.bool neg, .slice a1 xs.length c1, .slice a2 ys.length c2] := by rw [← hV]; exact R0.set3 _ _ _
 have Q1 : Row V (w.heap.size + 1) 54 #[.bool false, .slice none 0 0, .slice none 0 0] := by rw [← hV]; exact ((R1.far (by simp <;> omega) _).far (by simp <;> omega) _).far (by simp <;> omega) _
 obtain ⟨p0, p1, p2, _, _, _⟩ := Q0.three
 have h0 := val_nonneg A.wf
 have e1 := ratOf_neg h0 hpos hn0
 have e2 := ratOf_abs (n := neg) h0 hpos
 have e3 := ratOf_den (n := neg) (A := val xs) hpos
 have hgp : 0 < (Int.gcd (val xs) (val ys) : Int) := gcd_pos_right hpos
 rw [hX] at e1 e2 e3
 have E1 := Lib.hid e1
 have E2 := Lib.hid e2
 have E3 := Lib.hid e3
 clear e1 e2 e3 hX hn0 R0 R1 A B hb1 hs1
 go_wp2_with fail
 refine (gcd_any AV BV (by omega) (by omega)).mono ?_
 rintro e w2 ⟨r2, gs, rfl, q2, l2, hb2⟩
 have hs2 := hb2.size
 obtain ⟨gd, gc, rfl, q2, Ag⟩ := q2.slice
 have q2e := q2.eq
 have hgs : 0 < val gs := by rw [q2e]; exact hgp
 have QE := Lib.hid q2e
 clear q2e hgp t0 t1 t2 f0 f1 f2 hV p0 p1 p2
 obtain ⟨U, hU⟩ : ∃ U, (w2.alloc (.cells #[.slice none 0 0] 52)).setCell ⟨w2.heap.size, 0, none⟩ (.slice gd gs.length gc) = U := ⟨_, rfl⟩
 have hBU : Below w2.heap.size w2 U := by rw [← hU]; exact ((Below.refl _ _).alloc (by simp) _).setCell (by simp) _
 have hB2 : Below w.heap.size w U := (hBV.trans (hb2.mono (by omega))).trans (hBU.mono (by omega))
 have hsU : U.heap.size = w2.heap.size + 1 := by rw [← hU]; simp
 have G : U.cell? ⟨w2.heap.size, 0, none⟩ = some (.slice gd gs.length gc) := by
  rw [← hU]; exact ((Row.new w2 52 #[.slice none 0 0]).set 0 _).cell 0
 obtain ⟨p0, p1, p2, _, _, _⟩ := ((Q0.later hb2).later hBU).three
 replace Q1 := (Q1.later hb2).later hBU
 have AU := (AV.later hb2).later hBU
 have BU := (BV.later hb2).later hBU
 have AgU := Ag.later hBU
 obtain ⟨pa, pb, pc, _, _, _⟩ := (Q0.later hb2).three
 go_wp2_with fail
 refine (bothNorm_any G AgU AU BU hgs (by omega) (by omega) (by omega)).mono ?_
 rintro e w3 ⟨r3, rfl, us, vs, b1, b2, j1, j2, rfl, q3, q4, l3, l4, hb3⟩
 have hs3 := hb3.size
 replace Q1 := Q1.later hb3
 obtain ⟨u0, u1, u2, g0, g1, g2⟩ := Q1.three
 clear p0 p1 p2 pa pb pc G
 go_wp2_with fail
 refine bodyPost_ret (v := .agg #[.bool neg, .slice b1 us.length j1, .slice b2 vs.length j2]) (by simp [results, Tryz.results90, go_sem, u0, u1, u2]) rfl ⟨_, rfl, ⟨us, vs, b1, b2, j1, j2, by rw [E1.out], ?_, ?_, by omega, by omega⟩, below_set3 (hB2.trans (hb3.mono (by omega))) (by omega) _ _ _⟩
 · rw [E2.out, ← QE.out]
   exact (q3.far Q1 (by decide) (kept3 _ _ _)).mono (by omega)
 · rw [E3.out, ← QE.out]
   exact (q4.far Q1 (by decide) (kept3 _ _ _)).mono (by omega)
end
section
open Go.RowKit
theorem Row.at {w : World} {g : Nat} {t : TypeId} {cs : Array Value} (h : g = w.heap.size) : Row (w.alloc (.cells cs t)) g t cs := h ▸ Row.new w t cs
theorem mulQ_any {n : Nat} {w : World} {u v : Value} {X Y : Rat} (hu : ArgQ w u X n) (hv : ArgQ w v Y n) (hn : n ≤ 16777000) :
 Calls Tryz.prog 93 #[u, v] w fun e w' => ∃ r, e = .returned r ∧ ResQ w.heap.size w' r (X * Y) (2 * n + 4) ∧ Below w.heap.size w w' := by
 obtain ⟨m1, xs, ds, a1, a2, c1, c2, rfl, A, B, hX, hx, hd⟩ := hu
 obtain ⟨m2, zs, es, a3, a4, c3, c4, rfl, C, D, hY, hz, he⟩ := hv
 obtain ⟨W, hW⟩ : ∃ W, (((w.alloc (.cells #[.bool m1, .slice a1 xs.length c1, .slice a2 ds.length c2] 54)).alloc (.cells #[.bool m2, .slice a3 zs.length c3, .slice a4 es.length c4] 54)).alloc (.cells #[.bool false, .slice none 0 0, .slice none 0 0] 54)) = W := ⟨_, rfl⟩
 have R0 : Row W (w.heap.size) 54 #[.bool m1, .slice a1 xs.length c1, .slice a2 ds.length c2] := by rw [← hW]; exact (((Row.new _ _ _).alloc _).alloc _)
 have R1 : Row W (w.heap.size + 1) 54 #[.bool m2, .slice a3 zs.length c3, .slice a4 es.length c4] := by rw [← hW]; have h := (Row.new (w.alloc (.cells #[.bool m1, .slice a1 xs.length c1, .slice a2 ds.length c2] 54)) 54 #[.bool m2, .slice a3 zs.length c3, .slice a4 es.length c4]); simp only [World.size_alloc] at h; exact (h.alloc _)
 have R2 : Row W (w.heap.size + 1 + 1) 54 #[.bool false, .slice none 0 0, .slice none 0 0] := by rw [← hW]; have h := (Row.new ((w.alloc (.cells #[.bool m1, .slice a1 xs.length c1, .slice a2 ds.length c2] 54)).alloc (.cells #[.bool m2, .slice a3 zs.length c3, .slice a4 es.length c4] 54)) 54 #[.bool false, .slice none 0 0, .slice none 0 0]); simp only [World.size_alloc] at h; exact h
 have hBW : Below w.heap.size w W := by rw [← hW]; exact ((((Below.refl _ _).alloc (by (try simp) <;> omega) _).alloc (by (try simp) <;> omega) _).alloc (by (try simp) <;> omega) _)
 have hsW : w.heap.size + 1 + 1 + 1 ≤ W.heap.size := by rw [← hW]; simp
 have hfin : ratOf (!(m1 == m2)) (val xs * val zs) (val ds * val es) = X * Y := by rw [← hX, ← hY]; exact rat_prod m1 m2 _ _ _ _
 have HF := Lib.hid hfin
 clear hfin hX hY
 have mkS : ∀ X, Kept (w.heap.size + 1 + 1) W X → X.cell? ⟨w.heap.size, 0, none⟩ = some (.bool m1) ∧ X.cell? ⟨w.heap.size, 1, none⟩ = some (.slice a1 xs.length c1) ∧ X.cell? ⟨w.heap.size, 2, none⟩ = some (.slice a2 ds.length c2) ∧ X.cell? ⟨w.heap.size + 1, 0, none⟩ = some (.bool m2) ∧ X.cell? ⟨w.heap.size + 1, 1, none⟩ = some (.slice a3 zs.length c3) ∧ X.cell? ⟨w.heap.size + 1, 2, none⟩ = some (.slice a4 es.length c4) ∧ Kept (w.heap.size + 1 + 1) W X := fun X h => ⟨(R0.kept h (by omega)).cell 0, (R0.kept h (by omega)).cell 1, (R0.kept h (by omega)).cell 2, (R1.kept h (by omega)).cell 0, (R1.kept h (by omega)).cell 1, (R1.kept h (by omega)).cell 2, h⟩
 go_enter Tryz.func93, Tryz.ntmps93
 go_wp2_with fail
 clear hW
 go_region_held3 (fun X => X.cell? ⟨w.heap.size, 0, none⟩ = some (.bool m1) ∧ X.cell? ⟨w.heap.size, 1, none⟩ = some (.slice a1 xs.length c1) ∧ X.cell? ⟨w.heap.size, 2, none⟩ = some (.slice a2 ds.length c2) ∧ X.cell? ⟨w.heap.size + 1, 0, none⟩ = some (.bool m2) ∧ X.cell? ⟨w.heap.size + 1, 1, none⟩ = some (.slice a3 zs.length c3) ∧ X.cell? ⟨w.heap.size + 1, 2, none⟩ = some (.slice a4 es.length c4) ∧ Kept (w.heap.size + 1 + 1) W X)
  (((refine mkS _ ?_; (repeat' (first | exact Kept.refl _ _ | refine Kept.drew ?_ | refine Kept.alloc ?_ _ | refine Kept.set ?_ _ _ | refine Kept.below ?_ (by assumption))))))
  ((first
    | (go_at_call 90; refine (norm_any (n := 2 * n + 2) ⟨!(m1 == m2), z3, z4, ad3, ad4, cp3, cp4, rfl, A3', A4, HV.out, by omega, by omega⟩ (by omega)).mono ?_; rintro e w5 ⟨r5, rfl, q5, hb5⟩; obtain ⟨ng, fs, gs, f1, f2, j1, j2, rfl⟩ := q5.arg.box; have P5 := R2.kept (show Kept (w.heap.size + 1 + 1 + 1) W w5 by (repeat' (first | exact Kept.refl _ _ | refine Kept.drew ?_ | refine Kept.alloc ?_ _ | refine Kept.set ?_ _ _ | refine Kept.below ?_ (by assumption)))) (by omega); obtain ⟨u0, u1, u2, g0, g1, g2⟩ := P5.three)
    | (go_at_call 140; refine (product_any (xs := ds) (ys := es) (ad := a2) (bd := a4) (ca := c2) (cb := c4) (by first | (first | exact Row.at (by simp) | exact (Row.at (by simp)).drew | exact (Row.at (by simp)).alloc _ | exact ((Row.at (by simp)).alloc _).drew) | (refine Row.later ?_ hb3; first | exact Row.at (by simp) | exact (Row.at (by simp)).drew | exact (Row.at (by simp)).alloc _ | exact ((Row.at (by simp)).alloc _).drew)) (B.later (Kept.under (show Kept (w.heap.size + 1 + 1) W _ by (repeat' (first | exact Kept.refl _ _ | refine Kept.drew ?_ | refine Kept.alloc ?_ _ | refine Kept.set ?_ _ _ | refine Kept.below ?_ (by assumption)))) hBW (by omega) (by omega))) (D.later (Kept.under (show Kept (w.heap.size + 1 + 1) W _ by (repeat' (first | exact Kept.refl _ _ | refine Kept.drew ?_ | refine Kept.alloc ?_ _ | refine Kept.set ?_ _ _ | refine Kept.below ?_ (by assumption)))) hBW (by omega) (by omega))) hd he (by omega)).mono ?_; rintro e w4 ⟨r4, z4, rfl, q4, l4, hb4⟩; obtain ⟨ad4, cp4, rfl, q4, A4⟩ := q4.slice; have A3' := A3.later (show Below w3.heap.size w3 w4 by (repeat' (first | exact Below.refl _ _ | refine Below.drew ?_ | refine Below.alloc ?_ (by (try simp) <;> omega) _ | refine below_set3 ?_ (by (try simp) <;> omega) _ _ _ | refine below_set2 ?_ (by (try simp) <;> omega) _ _ | refine Below.setCell ?_ (by (try simp) <;> omega) _ | refine Below.trans ?_ (Below.mono (by assumption) (by (try simp) <;> omega))))); have HV := Lib.hid ((show ratOf (!(m1 == m2)) (val z3) (val z4) = ratOf (!(m1 == m2)) (val xs * val zs) (val ds * val es) by rw [q3.eq, q4.eq]).trans HF.out))
    | (go_at_call 140; refine (product_any (xs := xs) (ys := zs) (ad := a1) (bd := a3) (ca := c1) (cb := c3) (by first | (first | exact Row.at (by simp) | exact (Row.at (by simp)).drew | exact (Row.at (by simp)).alloc _ | exact ((Row.at (by simp)).alloc _).drew) | (refine Row.later ?_ hb3; first | exact Row.at (by simp) | exact (Row.at (by simp)).drew | exact (Row.at (by simp)).alloc _ | exact ((Row.at (by simp)).alloc _).drew)) (A.later (Kept.under (show Kept (w.heap.size + 1 + 1) W _ by (repeat' (first | exact Kept.refl _ _ | refine Kept.drew ?_ | refine Kept.alloc ?_ _ | refine Kept.set ?_ _ _ | refine Kept.below ?_ (by assumption)))) hBW (by omega) (by omega))) (C.later (Kept.under (show Kept (w.heap.size + 1 + 1) W _ by (repeat' (first | exact Kept.refl _ _ | refine Kept.drew ?_ | refine Kept.alloc ?_ _ | refine Kept.set ?_ _ _ | refine Kept.below ?_ (by assumption)))) hBW (by omega) (by omega))) hx hz (by omega)).mono ?_; rintro e w3 ⟨r3, z3, rfl, q3, l3, hb3⟩; obtain ⟨ad3, cp3, rfl, q3, A3⟩ := q3.slice)))
 all_goals (
  have hs4 := hb4.size
  have hs5 := hb5.size
  have hk5 := (show Kept (w.heap.size + 1 + 1 + 1) W w5 by (repeat' (first | exact Kept.refl _ _ | refine Kept.drew ?_ | refine Kept.alloc ?_ _ | refine Kept.set ?_ _ _ | refine Kept.below ?_ (by assumption)))).size
  have hk4 := (show Kept (w.heap.size + 1 + 1 + 1) W w4 by (repeat' (first | exact Kept.refl _ _ | refine Kept.drew ?_ | refine Kept.alloc ?_ _ | refine Kept.set ?_ _ _ | refine Kept.below ?_ (by assumption)))).size
  have hK4 := (Kept.under (show Kept (w.heap.size + 1 + 1 + 1) W w5 by (repeat' (first | exact Kept.refl _ _ | refine Kept.drew ?_ | refine Kept.alloc ?_ _ | refine Kept.set ?_ _ _ | refine Kept.below ?_ (by assumption)))) hBW (by omega) (by omega))
  go_wp2_with fail
  refine bodyPost_ret (v := .agg #[.bool ng, .slice f1 fs.length j1, .slice f2 gs.length j2]) (by simp [results, Tryz.results93, go_sem, u0, u1, u2]) rfl ⟨_, rfl, ?_, below_set3 hK4 (by omega) _ _ _⟩
  exact ((q5.far P5 (by decide) (kept3 _ _ _)).mono (by omega)).more (by omega))
end
section
open Go.RowKit
def LimS (w : World) (ad : Option Addr) (xs : List Int) : Prop :=
 xs = [] ∨ ∃ b off, ad = some ⟨b, off, none⟩ ∧ ∀ i, i < xs.length → w.cell? ⟨b, off + i, none⟩ = some (.int .i64 (xs.getD i 0))
theorem LimS.below {w w' : World} {ad : Option Addr} {xs : List Int} {B : Nat} (h : LimS w ad xs) (hb : Below B w w') (hB : ∀ a, ad = some a → a.block < B) : LimS w' ad xs := by
 rcases h with rfl | ⟨b, off, rfl, hc⟩
 · exact .inl rfl
 · exact .inr ⟨b, off, rfl, fun i hi => (hb.cell (p := ⟨b, off + i, none⟩) (hB ⟨b, off, none⟩ rfl)).trans (hc i hi)⟩
theorem LimS.later {w w' : World} {ad : Option Addr} {xs : List Int} (h : LimS w ad xs) (hb : Below w.heap.size w w') : LimS w' ad xs := by
 rcases h with rfl | ⟨b, off, rfl, hc⟩
 · exact .inl rfl
 · refine .inr ⟨b, off, rfl, fun i hi => ?_⟩
   have hlt := World.block_lt_of_cell? w _ (hc i hi)
   exact (hb.cell (p := ⟨b, off + i, none⟩) hlt).trans (hc i hi)
theorem LimS.lt {w : World} {ad : Option Addr} {xs : List Int} (h : LimS w ad xs) (hn : xs ≠ []) : ∀ a, ad = some a → a.block < w.heap.size := by
 rcases h with rfl | ⟨b, off, rfl, hc⟩
 · exact absurd rfl hn
 · intro a ha
   cases ha
   exact World.block_lt_of_cell? w _ (hc 0 (List.length_pos_iff.2 hn))
def NumS (base : Nat) (w : World) (v : Value) (xs : List Int) : Prop := w.ownsRow base 3 1 v xs.length (xs.map (Value.int .i64))
theorem NumS.read {base : Nat} {w : World} {v : Value} {xs : List Int} (h : NumS base w v xs) : ∃ ad cap, v = .slice ad xs.length cap ∧ LimS w ad xs ∧ xs.length ≤ cap ∧ cap ≤ maxLen ∧ (∀ a, ad = some a → base ≤ a.block ∧ a.block < w.heap.size) := by
 obtain ⟨h1, h2⟩ := h
 rcases h2 with ⟨rfl, hn⟩ | ⟨g, cap, cur, rfl, hb, hg, hc, hm, hs, ht⟩
 · obtain rfl := List.eq_nil_of_length_eq_zero hn
   exact ⟨none, 0, rfl, .inl rfl, Nat.le_refl _, by unfold maxLen; omega, fun a ha => by cases ha⟩
 · refine ⟨_, cap, rfl, .inr ⟨g, 0, rfl, fun i hi => ?_⟩, hc, hm, fun a ha => by cases ha; exact ⟨hb, lt_of_block hg⟩⟩
   have hj := World.ownsRow.cellAt (w := w) (base := base) (e := 3) (size := 1) (g := g) (n := xs.length) (cap := cap) (xs := xs.map (Value.int .i64)) ⟨h1, .inr ⟨g, cap, cur, rfl, hb, hg, hc, hm, hs, ht⟩⟩ i (by omega)
   rw [Nat.zero_add, hj]
   simp [hi]
theorem NumS.lt {base : Nat} {w : World} {v : Value} {xs : List Int} (h : NumS base w v xs) : ∀ k, v.ownBlock = some k → base ≤ k ∧ k < w.heap.size := World.ownsRow.lt h
theorem NumS.kept {base B : Nat} {w w' : World} {v : Value} {xs : List Int} (h : NumS base w v xs) (hb : Below B w w') (hB : ∀ k, v.ownBlock = some k → k < B) : NumS base w' v xs := by
 obtain ⟨h1, h2⟩ := h
 refine ⟨h1, ?_⟩
 rcases h2 with h2 | ⟨g, cap, cur, rfl, hg0, hg, hc, hm, hs, ht⟩
 · exact .inl h2
 · exact .inr ⟨g, cap, cur, rfl, hg0, (hb.block g (hB g rfl)).trans hg, hc, hm, hs, ht⟩
theorem NumS.later {base : Nat} {w w' : World} {v : Value} {xs : List Int} (h : NumS base w v xs) (hb : Below w.heap.size w w') : NumS base w' v xs := h.kept hb fun k hk => (h.lt k hk).2
theorem NumS.mono {base base' : Nat} {w : World} {v : Value} {xs : List Int} (h : NumS base w v xs) (hb : base' ≤ base) : NumS base' w v xs := by
 obtain ⟨h1, h2⟩ := h
 refine ⟨h1, ?_⟩
 rcases h2 with h2 | ⟨g, cap, cur, rfl, hg0, hg, hc, hm, hs, ht⟩
 · exact .inl h2
 · exact .inr ⟨g, cap, cur, rfl, Nat.le_trans hb hg0, hg, hc, hm, hs, ht⟩
def BlkS (w : World) (g : Nat) (zs : List Int) : Prop := w.heap[g]? = some (.cells (zs.map (Value.int .i64)).toArray 3 (0, 0))
theorem BlkS.cell {w : World} {g : Nat} {zs : List Int} (h : BlkS w g zs) (i : Nat) (hi : i < zs.length) : w.cell? ⟨g, i, none⟩ = some (.int .i64 (zs.getD i 0)) := by
 have e : w.cell? ⟨g, i, none⟩ = ((zs.map (Value.int .i64)).toArray)[i]? := cell_of_row w g i _ 3 (0, 0) h
 rw [e]; simp [hi]
theorem BlkS.free {w : World} {g : Nat} {zs : List Int} (h : BlkS w g zs) (i : Nat) : w.frozen? ⟨g, i, none⟩ = false := by
 exact frozen_of_row w g i _ 3 h
theorem BlkS.lt {w : World} {g : Nat} {zs : List Int} (h : BlkS w g zs) : g < w.heap.size := lt_of_block h
theorem BlkS.same {w w' : World} {g : Nat} {zs : List Int} (h : BlkS w g zs) (e : w'.heap[g]? = w.heap[g]?) : BlkS w' g zs := e.trans h
theorem BlkS.alloc {w : World} {g : Nat} {zs : List Int} (h : BlkS w g zs) (o : Obj) : BlkS (w.alloc o) g zs := h.same (Below.heap_alloc _ _ _ h.lt)
theorem BlkS.set {w : World} {g : Nat} {zs : List Int} (h : BlkS w g zs) (i : Nat) (x : Int) : BlkS (w.setCell ⟨g, i, none⟩ (.int .i64 x)) g (zs.set i x) := by
 have hh := heap_setCell_same w g i _ 3 (.int .i64 x) h
 unfold BlkS
 rw [hh]
 congr 2
 simp [List.map_set]
theorem BlkS.made (w : World) (n : Nat) : BlkS (w.alloc (.cells (madeCells #[.int .i64 0] n) 3)) w.heap.size (List.replicate n 0) := by
 have h := heap_alloc_new w (.cells (madeCells #[.int .i64 0] n) 3)
 unfold BlkS
 rw [h]
 congr 2
 apply Array.ext
 · simp [madeCells]
 · intro i h1 h2
   simp [madeCells, Nat.mod_one]
theorem NumS.ofBlk {base g : Nat} {w : World} {zs : List Int} (h : BlkS w g zs) (hb : base ≤ g) (n : Nat) (hn : n ≤ zs.length) (hm : zs.length ≤ maxLen) : NumS base w (.slice (some ⟨g, 0, none⟩) n zs.length) (zs.take n) := by
 have e : (zs.take n).length = n := by rw [List.length_take]; omega
 unfold NumS
 rw [e]
 refine ⟨by rw [List.length_map, e, Nat.mul_one], .inr ⟨g, zs.length, _, rfl, hb, h, hn, hm, by simp, ?_⟩⟩
 simp [List.map_take]
theorem BlkS.grown {w w' : World} {g : Nat} {row : Option Nat} {zs : List Int} (h : BlkS w g zs) (k : w.grownBy w' row) (hb : some g ≠ row) : BlkS w' g zs := h.same (k.block g h.lt hb)
def Wid (xs : List Int) : Prop := ∀ x ∈ xs, -9223372036854775808 ≤ x ∧ x ≤ 9223372036854775807
theorem Wid.nil : Wid [] := fun _ h => by cases h
theorem Wid.append {xs ys : List Int} (h : Wid xs) (k : Wid ys) : Wid (xs ++ ys) := fun x hx => (List.mem_append.1 hx).elim (h x) (k x)
theorem Wid.one {x : Int} (h : -9223372036854775808 ≤ x ∧ x ≤ 9223372036854775807) : Wid [x] := fun y hy => by rw [List.mem_singleton.1 hy]; exact h
theorem Wid.take {xs : List Int} (h : Wid xs) (n : Nat) : Wid (xs.take n) := fun x hx => h x (List.mem_of_mem_take hx)
theorem Wid.getD {xs : List Int} (h : Wid xs) (i : Nat) : -9223372036854775808 ≤ xs.getD i 0 ∧ xs.getD i 0 ≤ 9223372036854775807 := by
 by_cases hi : i < xs.length
 · rw [List.getD_eq_getElem?_getD, List.getElem?_eq_getElem hi]; exact h _ (List.getElem_mem hi)
 · simp [List.getElem?_eq_none (Nat.le_of_not_lt hi)]
structure ArgS (w : World) (u : Value) (xs : List Int) (ad : Option Addr) (cap : Nat) : Prop where
 is : u = .slice ad xs.length cap
 lim : LimS w ad xs
 le : xs.length ≤ cap
 wf : Wid xs
theorem ArgS.later {w w' : World} {u : Value} {xs : List Int} {ad : Option Addr} {cap : Nat} (h : ArgS w u xs ad cap) (hb : Below w.heap.size w w') : ArgS w' u xs ad cap := ⟨h.is, h.lim.later hb, h.le, h.wf⟩
structure ResS (base : Nat) (w : World) (u : Value) (xs : List Int) : Prop where
 num : NumS base w u xs
 wf : Wid xs
theorem ResS.later {base : Nat} {w w' : World} {u : Value} {xs : List Int} (h : ResS base w u xs) (hb : Below w.heap.size w w') : ResS base w' u xs := ⟨h.num.later hb, h.wf⟩
theorem infoS : (Tryz.prog.info? 3).map (fun i => (i.zero, i.size, i.bytes)) = some (some (.int .i64 0), 1, 8) := by kernel_rfl
theorem pushS {base : Nat} {w wr w1 : World} {v v' : Value} {ds : List Int} {d : Int} {o : Obj} (hb : Below base w wr) (hbase : base ≤ wr.heap.size) (hown : NumS base wr v ds)
 (hown' : w1.ownsRow base 3 1 v' (ds.length + 1) (ds.map (Value.int .i64) ++ [Value.int .i64 d])) (hgrow : (wr.alloc o).grownBy w1 v.ownBlock) : NumS base w1 v' (ds ++ [d]) ∧ Below base w w1 := by
 refine ⟨?_, (hb.alloc hbase o).grown hgrow (by simp; omega) (fun k hk => (hown.lt k hk).1)⟩
 unfold NumS
 rw [List.length_append, List.map_append]
 exact hown'
theorem ArgS.at {w : World} {u : Value} {xs : List Int} {ad : Option Addr} {cap : Nat} (h : ArgS w u xs ad cap) {i : Nat} (hi : i < xs.length) :
 ∃ b off, ad = some ⟨b, off, none⟩ ∧ w.cell? ⟨b, off + i, none⟩ = some (.int .i64 (xs.getD i 0)) := by
 rcases h.lim with rfl | ⟨b, off, e, hc⟩
 · simp at hi
 · exact ⟨b, off, e, hc i hi⟩
theorem ResS.nil (base : Nat) (w : World) : ResS base w (.slice none 0 0) [] := ⟨⟨rfl, .inl ⟨rfl, rfl⟩⟩, Wid.nil⟩
theorem ResS.mono {base base' : Nat} {w : World} {u : Value} {xs : List Int} (h : ResS base w u xs) (hb : base' ≤ base) : ResS base' w u xs := ⟨h.num.mono hb, h.wf⟩
theorem ResS.slice {base : Nat} {w : World} {u : Value} {xs : List Int} (h : ResS base w u xs) : ∃ ad cap, u = .slice ad xs.length cap ∧ ResS base w (.slice ad xs.length cap) xs ∧ ArgS w (.slice ad xs.length cap) xs ad cap ∧ (ad = none → cap = 0) := by
 obtain ⟨ad, cap, h1, h2, h3, h4, _⟩ := h.num.read
 subst h1
 refine ⟨ad, cap, rfl, h, ⟨rfl, h2, h3, h.wf⟩, fun hn => ?_⟩
 subst hn
 obtain ⟨_, h5⟩ := h.num
 rcases h5 with ⟨e, _⟩ | ⟨g, c, cur, e, _⟩
 · simp only [Value.slice.injEq] at e; exact e.2.2
 · simp at e
theorem cells_argS {w : World} {ys : List Int} {ad : Addr} {cap : Nat} (lx : LimS w (some ad) ys) : ∀ j u, (ys.map (Value.int .i64))[j]? = some u → w.cell? (ad.add j) = some u := by
 intro j u hj
 rcases lx with rfl | ⟨b, off, e, hc⟩
 · simp at hj
 · cases e
   rw [List.getElem?_map] at hj
   have hjl : j < ys.length := by
    rcases Nat.lt_or_ge j ys.length with h | h
    · exact h
    · rw [List.getElem?_eq_none h] at hj; cases hj
   rw [show (⟨b, off, none⟩ : Addr).add j = ⟨b, off + j, none⟩ from (by unfold Addr.add; split <;> simp_all), hc j hjl, ← hj]
   simp [hjl]
end
section
open Go.RowKit
structure E3 where
 a : Value
 b : Value
 c : Value
def E3.agg (e : E3) : Value := .agg #[e.a, e.b, e.c]
def flat3 : List E3 → List Value
 | [] => []
 | e :: r => e.a :: e.b :: e.c :: flat3 r
theorem flat3_append (a b : List E3) : flat3 (a ++ b) = flat3 a ++ flat3 b := by
 induction a with
 | nil => rfl
 | cons e r ih => simp only [List.cons_append, flat3, ih]
theorem flat3_at {es : List E3} {i : Nat} {e : E3} (h : es[i]? = some e) : (flat3 es)[i * 3]? = some e.a ∧ (flat3 es)[i * 3 + 1]? = some e.b ∧ (flat3 es)[i * 3 + 2]? = some e.c := by
 induction es generalizing i with
 | nil => simp at h
 | cons d r ih =>
   cases i with
   | zero =>
     simp only [List.getElem?_cons_zero, Option.some.injEq] at h
     subst h
     exact ⟨rfl, rfl, rfl⟩
   | succ i =>
     have h2 := ih (i := i) (by simpa using h)
     rw [show (i + 1) * 3 = i * 3 + 1 + 1 + 1 by omega]
     simp only [flat3]
     exact h2
def CellsE (w : World) (b o : Nat) (es : List E3) : Prop := ∀ i e, es[i]? = some e → w.cell? ⟨b, o + i * 3, none⟩ = some e.a ∧ w.cell? ⟨b, o + i * 3 + 1, none⟩ = some e.b ∧ w.cell? ⟨b, o + i * 3 + 2, none⟩ = some e.c
def OwnE (base : Nat) (T : TypeId) (w : World) (v : Value) (es : List E3) : Prop := w.ownsRow base T 3 v es.length (flat3 es)
theorem OwnE.nil (base : Nat) (T : TypeId) (w : World) : OwnE base T w (.slice none 0 0) [] := ⟨rfl, .inl ⟨rfl, rfl⟩⟩
theorem OwnE.lt {base : Nat} {T : TypeId} {w : World} {v : Value} {es : List E3} (h : OwnE base T w v es) : ∀ k, v.ownBlock = some k → base ≤ k ∧ k < w.heap.size := World.ownsRow.lt h
theorem OwnE.same {base : Nat} {T : TypeId} {w w' : World} {v : Value} {es : List E3} (h : OwnE base T w v es) (hk : ∀ k, v.ownBlock = some k → w'.heap[k]? = w.heap[k]?) : OwnE base T w' v es := by
 obtain ⟨h1, h2⟩ := h
 refine ⟨h1, ?_⟩
 rcases h2 with h2 | ⟨g, cap, cur, rfl, hg0, hg, hc, hm, hs, ht⟩
 · exact .inl h2
 · exact .inr ⟨g, cap, cur, rfl, hg0, (hk g rfl).trans hg, hc, hm, hs, ht⟩
theorem OwnE.later {base : Nat} {T : TypeId} {w w' : World} {v : Value} {es : List E3} (h : OwnE base T w v es) (hb : Below w.heap.size w w') : OwnE base T w' v es := h.same fun k hk => hb.block k (h.lt k hk).2
theorem OwnE.mono {base base' : Nat} {T : TypeId} {w : World} {v : Value} {es : List E3} (h : OwnE base T w v es) (hb : base' ≤ base) : OwnE base' T w v es := by
 obtain ⟨h1, h2⟩ := h
 refine ⟨h1, ?_⟩
 rcases h2 with h2 | ⟨g, cap, cur, rfl, hg0, hr⟩
 · exact .inl h2
 · exact .inr ⟨g, cap, cur, rfl, Nat.le_trans hb hg0, hr⟩
theorem OwnE.row {base : Nat} {T : TypeId} {w : World} {v : Value} {es : List E3} (h : OwnE base T w v es) : (v = .slice none 0 0 ∧ es = []) ∨ ∃ g cap, v = .slice (some ⟨g, 0, none⟩) es.length cap ∧ base ≤ g ∧ g < w.heap.size ∧ es.length ≤ cap ∧ cap ≤ maxLen ∧ CellsE w g 0 es := by
 obtain ⟨h1, h2⟩ := h
 rcases h2 with ⟨hv, hn⟩ | ⟨g, cap, cur, hv, hb, hg, hc, hm, hs, ht⟩
 · exact .inl ⟨hv, List.eq_nil_of_length_eq_zero hn⟩
 · refine .inr ⟨g, cap, hv, hb, lt_of_block hg, hc, hm, fun i e he => ?_⟩
   have hi : i < es.length := by
    rcases Nat.lt_or_ge i es.length with k | k
    · exact k
    · rw [List.getElem?_eq_none k] at he; cases he
   have hat : ∀ j, j < es.length * 3 → w.cell? ⟨g, j, none⟩ = (flat3 es)[j]? := fun j hj =>
    World.ownsRow.cellAt (w := w) (base := base) (e := T) (size := 3) (g := g) (n := es.length) (cap := cap) (xs := flat3 es) ⟨h1, .inr ⟨g, cap, cur, rfl, hb, hg, hc, hm, hs, ht⟩⟩ j hj
   obtain ⟨f0, f1, f2⟩ := flat3_at he
   simp only [Nat.zero_add]
   exact ⟨(hat _ (by omega)).trans f0, (hat _ (by omega)).trans f1, (hat _ (by omega)).trans f2⟩
theorem CellsE.later {w w' : World} {b o : Nat} {es : List E3} (h : CellsE w b o es) (hb : Below w.heap.size w w') : CellsE w' b o es := fun i e he => by
 obtain ⟨h0, h1, h2⟩ := h i e he
 exact ⟨(hb.cell (World.block_lt_of_cell? w _ h0)).trans h0, (hb.cell (World.block_lt_of_cell? w _ h1)).trans h1, (hb.cell (World.block_lt_of_cell? w _ h2)).trans h2⟩
def AllE {α : Type} (P : Value → α → Prop) (es : List E3) (L : List α) : Prop := es.length = L.length ∧ ∀ (i : Nat) (e : E3) (x : α), es[i]? = some e → L[i]? = some x → P e.agg x
theorem AllE.nil {α : Type} (P : Value → α → Prop) : AllE P [] ([] : List α) := ⟨rfl, fun i e x h => by simp at h⟩
theorem AllE.imp {α : Type} {P Q : Value → α → Prop} {es : List E3} {L : List α} (h : AllE P es L) (k : ∀ v x, x ∈ L → P v x → Q v x) : AllE Q es L := ⟨h.1, fun i e x h1 h2 => k _ _ (List.mem_of_getElem? h2) (h.2 i e x h1 h2)⟩
theorem AllE.snoc {α : Type} {P : Value → α → Prop} {es : List E3} {L : List α} {e : E3} {x : α} (h : AllE P es L) (hx : P e.agg x) : AllE P (es ++ [e]) (L ++ [x]) := by
 refine ⟨by simp [h.1], fun i d y h1 h2 => ?_⟩
 by_cases hlt : i < es.length
 · rw [List.getElem?_append_left hlt] at h1
   rw [List.getElem?_append_left (by rw [← h.1]; exact hlt)] at h2
   exact h.2 i d y h1 h2
 · have hi : i = es.length := by
    rcases Nat.lt_or_ge i (es ++ [e]).length with k | k
    · simp at k; omega
    · rw [List.getElem?_eq_none k] at h1; cases h1
   subst hi
   rw [List.getElem?_append_right (Nat.le_refl _), Nat.sub_self] at h1
   rw [List.getElem?_append_right (by rw [h.1]; exact Nat.le_refl _), h.1, Nat.sub_self] at h2
   simp only [List.getElem?_cons_zero, Option.some.injEq] at h1 h2
   subst h1
   subst h2
   exact hx
theorem AllE.at {α : Type} {P : Value → α → Prop} {es : List E3} {L : List α} (h : AllE P es L) {i : Nat} (hi : i < L.length) : ∃ e x, es[i]? = some e ∧ L[i]? = some x ∧ P e.agg x := by
 have h1 : i < es.length := by rw [h.1]; exact hi
 exact ⟨es[i], L[i], List.getElem?_eq_getElem h1, List.getElem?_eq_getElem hi, h.2 i _ _ (List.getElem?_eq_getElem h1) (List.getElem?_eq_getElem hi)⟩
structure RowA {α : Type} (P : World → Value → α → Prop) (w : World) (u : Value) (L : List α) (ad : Option Addr) (cap : Nat) : Prop where
 is : u = .slice ad L.length cap
 le : L.length ≤ cap
 els : L = [] ∨ ∃ b o es, ad = some ⟨b, o, none⟩ ∧ CellsE w b o es ∧ AllE (P w) es L
theorem RowA.later {α : Type} {P : World → Value → α → Prop} {w w' : World} {u : Value} {L : List α} {ad : Option Addr} {cap : Nat} (h : RowA P w u L ad cap) (hb : Below w.heap.size w w') (hP : ∀ v x, x ∈ L → P w v x → P w' v x) : RowA P w' u L ad cap := by
 refine ⟨h.is, h.le, ?_⟩
 rcases h.els with e | ⟨b, o, es, e, c, k⟩
 · exact .inl e
 · exact .inr ⟨b, o, es, e, c.later hb, k.imp hP⟩
theorem RowA.at {α : Type} {P : World → Value → α → Prop} {w : World} {u : Value} {L : List α} {ad : Option Addr} {cap : Nat} (h : RowA P w u L ad cap) {i : Nat} (hi : i < L.length) :
 ∃ b o x y z q, ad = some ⟨b, o, none⟩ ∧ L[i]? = some q ∧ w.cell? ⟨b, o + i * 3, none⟩ = some x ∧ w.cell? ⟨b, o + i * 3 + 1, none⟩ = some y ∧ w.cell? ⟨b, o + i * 3 + 2, none⟩ = some z ∧ P w (.agg #[x, y, z]) q := by
 rcases h.els with e | ⟨b, o, es, e, c, k⟩
 · rw [e] at hi; simp at hi
 · obtain ⟨d, q, h1, h2, h3⟩ := k.at hi
   obtain ⟨c0, c1, c2⟩ := c i d h1
   exact ⟨b, o, d.a, d.b, d.c, q, e, h2, c0, c1, c2, h3⟩
def RowO {α : Type} (base : Nat) (T : TypeId) (P : World → Value → α → Prop) (w : World) (u : Value) (L : List α) : Prop := ∃ es, OwnE base T w u es ∧ AllE (P w) es L
theorem RowO.nil {α : Type} (base : Nat) (T : TypeId) (P : World → Value → α → Prop) (w : World) : RowO base T P w (.slice none 0 0) ([] : List α) := ⟨[], OwnE.nil _ _ _, AllE.nil _⟩
theorem RowO.later {α : Type} {base : Nat} {T : TypeId} {P : World → Value → α → Prop} {w w' : World} {u : Value} {L : List α} (h : RowO base T P w u L) (hb : Below w.heap.size w w') (hP : ∀ v x, P w v x → P w' v x) : RowO base T P w' u L := by
 obtain ⟨es, h1, h2⟩ := h
 exact ⟨es, h1.later hb, h2.imp fun v x _ => hP v x⟩
theorem RowO.mono {α : Type} {base base' : Nat} {T : TypeId} {P Q : World → Value → α → Prop} {w : World} {u : Value} {L : List α} (h : RowO base T P w u L) (hb : base' ≤ base) (hP : ∀ v x, P w v x → Q w v x) : RowO base' T Q w u L := by
 obtain ⟨es, h1, h2⟩ := h
 exact ⟨es, h1.mono hb, h2.imp fun v x _ => hP v x⟩
theorem RowO.arg {α : Type} {base : Nat} {T : TypeId} {P : World → Value → α → Prop} {w : World} {u : Value} {L : List α} (h : RowO base T P w u L) : ∃ ad cap, RowA P w u L ad cap ∧ (ad = none → cap = 0) ∧ cap ≤ maxLen := by
 obtain ⟨es, h1, h2⟩ := h
 rcases h1.row with ⟨rfl, rfl⟩ | ⟨g, cap, rfl, _, _, hc, hm, hcells⟩
 · have e : L = [] := List.eq_nil_of_length_eq_zero h2.1.symm
   subst e
   exact ⟨none, 0, ⟨rfl, Nat.le_refl _, .inl rfl⟩, fun _ => rfl, by unfold maxLen; omega⟩
 · exact ⟨some ⟨g, 0, none⟩, cap, ⟨by rw [h2.1], by rw [← h2.1]; exact hc, .inr ⟨g, 0, es, rfl, hcells, h2⟩⟩, (fun h => by cases h), hm⟩
theorem OwnE.typed {base : Nat} {T : TypeId} {w : World} {v : Value} {es : List E3} (h : OwnE base T w v es) {g : Nat} (hg : v.ownBlock = some g) : ∃ cur, w.heap[g]? = some (.cells cur T (0, 0)) := by
 obtain ⟨_, h2⟩ := h
 rcases h2 with ⟨rfl, _⟩ | ⟨g', cap, cur, rfl, _, hh, _⟩
 · cases hg
 · simp [Value.ownBlock] at hg
   subst hg
   exact ⟨cur, hh⟩
theorem apartV {base base' size n sz m : Nat} {T t : TypeId} {w w' : World} {v u : Value} {ys : List Value} {xs : List Value} {o : Obj} (h : w.ownsRow base T sz v m ys) (hg : (w.alloc o).grownBy w' v.ownBlock) (hT : T ≠ t) (k : w.ownsRow base' t size u n xs) : w'.ownsRow base' t size u n xs := by
 obtain ⟨k1, k2⟩ := k
 refine ⟨k1, ?_⟩
 rcases k2 with k2 | ⟨g, cap, cur, rfl, hg0, hh, hrest⟩
 · exact .inl k2
 · refine .inr ⟨g, cap, cur, rfl, hg0, ?_, hrest⟩
   have hlt := lt_of_block hh
   rw [hg.block g (by rw [World.size_alloc]; omega) (fun e => by
    obtain ⟨_, h2⟩ := h
    rcases h2 with ⟨rfl, _⟩ | ⟨g', cap', cur', rfl, _, hc, _⟩
    · cases e
    · simp only [Value.ownBlock, Option.some.injEq] at e
      subst e
      rw [hh] at hc
      simp only [Option.some.injEq, Obj.cells.injEq] at hc
      exact hT hc.2.1.symm), Below.heap_alloc _ _ _ hlt]
   exact hh
theorem apartE {base base' size n : Nat} {T t : TypeId} {w w' : World} {v u : Value} {es : List E3} {xs : List Value} {o : Obj} (h : OwnE base T w v es) (hg : (w.alloc o).grownBy w' v.ownBlock) (hT : T ≠ t) (k : w.ownsRow base' t size u n xs) : w'.ownsRow base' t size u n xs := apartV h hg hT k
theorem pushE {α : Type} {base : Nat} {T : TypeId} {P : World → Value → α → Prop} {w wr w1 : World} {v v' : Value} {es : List E3} {L : List α} {e : E3} {x : α} {o : Obj} (hb : Below base w wr) (hbase : base ≤ wr.heap.size)
 (hown : OwnE base T wr v es) (hall : AllE (P wr) es L) (hx : P wr e.agg x) (hst : ∀ u y, P wr u y → P w1 u y)
 (hown' : w1.ownsRow base T 3 v' (es.length + 1) (flat3 es ++ [e.a, e.b, e.c])) (hgrow : (wr.alloc o).grownBy w1 v.ownBlock) : RowO base T P w1 v' (L ++ [x]) ∧ Below base w w1 := by
 refine ⟨⟨es ++ [e], ?_, (hall.snoc hx).imp fun u y _ => hst u y⟩, (hb.alloc hbase o).grown hgrow (by simp; omega) (fun k hk => (hown.lt k hk).1)⟩
 unfold OwnE
 rw [List.length_append, flat3_append]
 exact hown'
theorem cell_three_new (w : World) (a b c : Value) (t : TypeId) : ∀ j u, [a, b, c][j]? = some u → (w.alloc (.cells #[a, b, c] t)).cell? ((⟨w.heap.size, 0, none⟩ : Addr).add j) = some u := by
 intro j u hj
 match j, hj with
 | 0, hj => simp at hj; subst hj; simp [Addr.add]
 | 1, hj => simp at hj; subst hj; simp [Addr.add]
 | 2, hj => simp at hj; subst hj; simp [Addr.add]
 | j + 3, hj => simp at hj
theorem step_append_ownT {P : Program} {ops : Array Oper} {o : Oper} {a : Act} {w : World} {K : Act → World → Prop} {Q : Exit → Act → World → Prop} {E : Prop} (hgd : o.guard = none) (s x : Operand) (t : TypeId)
 (ho : o.op = .call { callee := .builtin .append, args := #[s, x], argTypes := #[t, t] })
 (base : Nat) (e : TypeId) (i : TypeInfo) (z : Value) (size bytes : Nat) (ht : P.underlying t = some (.slice e)) (hi : P.info? e = some i) (hz : i.zero = some z)
 (hsize : i.size = size) (hby : i.bytes = bytes) (hzs : z.cells.size = size) (hsz : 0 < size)
 (v : Value) (n : Nat) (xs : List Value) (hs : a.eval s = v) (hown : w.ownsRow base e size v n xs)
 (ad : Addr) (m c : Nat) (news : List Value) (hx : a.eval x = .slice (some ad) m c) (hl : news.length = m * size) (hnews : ∀ j u, news[j]? = some u → w.cell? (ad.add j) = some u) (h1 : ∀ u ∈ news, u.oneCell' = true)
 (h63 : n + m ≤ maxLen) (hbytes : (n + m) * bytes ≤ 140737488355328) (hbase : base ≤ w.heap.size)
 (h : ∀ v' w', w'.ownsRow base e size v' (n + m) (xs ++ news) → w.grownBy w' v.ownBlock → (v' = .slice none 0 0 ↔ v = .slice none 0 0 ∧ m = 0) → K (a.put o.dst v') w') :
 if Region.wanted o (yielded ops a.tmps) = true then Oper.wp P o a w K Q else E := by
 have hw : Region.wanted o (yielded ops a.tmps) = true := by simp [Region.wanted, hgd]
 rw [if_pos hw]
 exact wp_append_own w s x t ho base e i z size bytes ht hi hz hsize hby hzs hsz v n xs hs hown ad m c news hx hl hnews h1 h63 hbytes hbase h
end
end Go.Proofs.YtengpgodmbfmkaaGreat
