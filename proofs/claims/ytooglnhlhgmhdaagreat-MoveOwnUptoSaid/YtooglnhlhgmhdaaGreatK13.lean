/-
  Package shape as it landed: isBelow, count, May, Count, Same.
-/
import Derived.Test.YtooglnhlhgmhdaaGreatK1
import Derived.Test.YtooglnhlhgmhdaaGreatK2
import Derived.Test.YtooglnhlhgmhdaaGreatK3
import Derived.Test.YtooglnhlhgmhdaaGreatK4
import Derived.Test.YtooglnhlhgmhdaaGreatK5
import Derived.Test.YtooglnhlhgmhdaaGreatK7
import Derived.Test.YtooglnhlhgmhdaaGreatK10
import Derived.Test.YtooglnhlhgmhdaaGreatK11
import Derived.Test.YtooglnhlhgmhdaaGreatK12
import Derived.WalkKit
import Derived.Test.YtooglnhlhgmhdaaGreatRows
import Derived.BigQuiet
import Derived.Deep.QuietTactic
import Derived.Lib.Hide
import Derived.Lib.Small
import Derived.Lib.Walk
import Derived.Lib.BitFns
import Derived.Maps.AppendAt
import Derived.RangeFuncNested
import Derived.RangeFuncBound
import Derived.RangeFuncCalls
import Derived.RangeFuncLeaves
import Derived.Shelf.Abstract
import Derived.OwnWalkIn
import Derived.TacticsInMore
import Derived.LoopNIn
import Derived.LoopIn
import Derived.RangeFuncBox
import Derived.Deep.RegionHeld3
import Derived.OrdersIn
import Derived.StillTailTactics
import Derived.RangeFuncFrom
import Derived.Laws.EntriesVeiled
import Derived.ProofKit
import Derived.OpenShut
import Derived.JoinedCond
import Derived.Carry
import Derived.Laws.AppendOwnNone
import Derived.Lib.ItoaNum
import Derived.Deep.RegionLaw
import Derived.WalkMore
import Derived.Lib.SmallJoins
import Derived.IntWalk
import Derived.Deep.DeepCutAuto
namespace Go.Proofs.YtooglnhlhgmhdaaGreat
set_option maxRecDepth 100000
section
open Go.RowKit
set_option linter.unusedVariables false
set_option linter.unusedSimpArgs false
theorem ArgQ.box {w : World} {v : Value} {X : Rat} {n : Nat} (h : ArgQ w v X n) : ∃ (neg : Bool) (xs ys : List Int) (ad bd : Option Addr) (ca cb : Nat), v = .agg #[.bool neg, .slice ad xs.length ca, .slice bd ys.length cb] := by
  obtain ⟨neg, xs, ys, ad, bd, ca, cb, rfl, _⟩ := h
  exact ⟨neg, xs, ys, ad, bd, ca, cb, rfl⟩
set_option maxRecDepth 100000 in
set_option maxHeartbeats 2000000 in
theorem plain_any {n : Nat} {w : World} {v : Value} {X : Rat} (h : ArgQ w v X n) (hn : n ≤ 2147483648) :
    Calls Tryz.prog 102 #[v] w fun e w' => ∃ r, e = .returned r ∧ PlainQ w' r X (n + 2) ∧ Below w.heap.size w w' := by
  obtain ⟨neg, xs, ys, a1, a2, c1, c2, rfl, A, B, hX, hx, hy⟩ := h
  obtain ⟨W, hW⟩ : ∃ W, ((w.alloc (.cells #[.bool neg, .slice a1 xs.length c1, .slice a2 ys.length c2] 58)).alloc (.cells #[.bool false, .slice none 0 0, .slice none 0 0] 58)) = W := ⟨_, rfl⟩
  have R0 : Row W (w.heap.size) 58 #[.bool neg, .slice a1 xs.length c1, .slice a2 ys.length c2] := by rw [← hW]; exact ((Row.new _ _ _).alloc _)
  have R1 : Row W (w.heap.size + 1) 58 #[.bool false, .slice none 0 0, .slice none 0 0] := by rw [← hW]; have h := (Row.new (w.alloc (.cells #[.bool neg, .slice a1 xs.length c1, .slice a2 ys.length c2] 58)) 58 #[.bool false, .slice none 0 0, .slice none 0 0]); simp only [World.size_alloc] at h; exact h
  have hBW : Below w.heap.size w W := by rw [← hW]; exact (((Below.refl _ _).alloc (by (try simp) <;> omega) _).alloc (by (try simp) <;> omega) _)
  have hsW : w.heap.size + 1 + 1 ≤ W.heap.size := by rw [← hW]; simp
  have A' := A.later hBW
  have B' := B.later hBW
  obtain ⟨e0, e1, e2, _, _, _⟩ := R0.three
  have hb1 := bits_res A' (by omega) (bitsN_is A.wf)
  have hp1 := bits_pos A.wf
  have hb2 := bits_res B' (by omega) (bitsN_is B.wf)
  have hp2 := bits_pos B.wf
  have h01 := val_nonneg A.wf
  have h02 := val_nonneg B.wf
  obtain ⟨m1, hm1⟩ : ∃ m, bitsN xs = m := ⟨_, rfl⟩
  obtain ⟨m2, hm2⟩ : ∃ m, bitsN ys = m := ⟨_, rfl⟩
  rw [hm1] at hb1 hp1
  rw [hm2] at hb2 hp2
  clear hm1 hm2
  by_cases z1 : val xs = 0
  · have hX0 : X = 0 := by rw [← hX, z1]; exact ratOf_zero_left _ _
    have HX := Lib.hid hX0
    have d1 : ((m1 : Int) == 0) = true := by obtain rfl : m1 = 0 := by omega
                                             rfl
    clear hX hX0 z1 hp1 hp2 h01 h02
    go_enter Tryz.func102, Tryz.ntmps102
    go_wp2_with fail
    refine hb1.mono ?_
    rintro e w' ⟨rfl, rfl⟩
    clear hb1 hb2
    go_wp2_with fail
    refine (int_any 0 _ (by omega) (by omega)).mono ?_
    rintro e w2 ⟨r2, rfl, q2, hb2⟩
    have P2 := q2.plain
    obtain ⟨neg', us, vs, b1, b2, k1, k2, rfl⟩ := q2.arg.box
    have R1' := R1.later hb2
    clear e0 e1 e2 hW
    obtain ⟨u0, u1, u2, g0, g1, g2⟩ := R1'.three
    go_wp2_with fail
    refine bodyPost_ret (v := .agg #[.bool neg', .slice b1 us.length k1, .slice b2 vs.length k2]) (by simp [results, Tryz.results102, go_sem, u0, u1, u2]) rfl ⟨_, rfl, ?_, below_set3 (hBW.trans (hb2.mono (by omega))) (by omega) _ _ _⟩
    rw [HX.out, ← intQ_zero]
    exact (P2.far R1' (noInts3 _ _ _ _ _ _ _) (kept3 _ _ _)).more (by omega)
  · by_cases z2 : val ys = 0
    · have hX0 : X = 0 := by rw [← hX, z2]; exact ratOf_zero_right _ _
      have HX := Lib.hid hX0
      have d1 : ((m1 : Int) == 0) = false := by simp; omega
      have d2 : ((m2 : Int) == 0) = true := by obtain rfl : m2 = 0 := by omega
                                               rfl
      clear hX hX0 z1 z2 hp1 hp2 h01 h02
      go_enter Tryz.func102, Tryz.ntmps102
      go_wp2_with fail
      refine hb1.mono ?_
      rintro e w' ⟨rfl, rfl⟩
      clear hb1
      go_wp2_with fail
      refine hb2.mono ?_
      rintro e w' ⟨rfl, rfl⟩
      clear hb2
      go_wp2_with fail
      refine (int_any 0 _ (by omega) (by omega)).mono ?_
      rintro e w2 ⟨r2, rfl, q2, hb2⟩
      have P2 := q2.plain
      obtain ⟨neg', us, vs, b1, b2, k1, k2, rfl⟩ := q2.arg.box
      have R1' := R1.later hb2
      clear e0 e1 e2 hW
      obtain ⟨u0, u1, u2, g0, g1, g2⟩ := R1'.three
      go_wp2_with fail
      refine bodyPost_ret (v := .agg #[.bool neg', .slice b1 us.length k1, .slice b2 vs.length k2]) (by simp [results, Tryz.results102, go_sem, u0, u1, u2]) rfl ⟨_, rfl, ?_, below_set3 (hBW.trans (hb2.mono (by omega))) (by omega) _ _ _⟩
      rw [HX.out, ← intQ_zero]
      exact (P2.far R1' (noInts3 _ _ _ _ _ _ _) (kept3 _ _ _)).more (by omega)
    · have HX := Lib.hid hX
      have d1 : ((m1 : Int) == 0) = false := by simp; omega
      have d2 : ((m2 : Int) == 0) = false := by simp; omega
      have hpos : 0 < val ys := by omega
      have hn0 : val xs = 0 → neg = false := fun h => absurd h z1
      clear hX z1 z2 hp1 hp2 h01 h02
      obtain ⟨u0, u1, u2, g0, g1, g2⟩ := R1.three
      have HN := Lib.hid hn0
      clear hn0
      go_enter Tryz.func102, Tryz.ntmps102
      go_wp2_with fail
      refine hb1.mono ?_
      rintro e w' ⟨rfl, rfl⟩
      clear hb1
      go_wp2_with fail
      refine hb2.mono ?_
      rintro e w' ⟨rfl, rfl⟩
      clear hb2 hW
      go_wp2_with fail
      refine bodyPost_ret (v := .agg #[.bool neg, .slice a1 xs.length c1, .slice a2 ys.length c2]) (by simp [results, Tryz.results102, go_sem, u0, u1, u2]) rfl ⟨_, rfl, ?_, below_set3 hBW (by omega) _ _ _⟩
      exact ⟨neg, xs, ys, a1, a2, c1, c2, rfl, A'.far R1 (noInts3 _ _ _ _ _ _ _) (kept3 _ _ _), B'.far R1 (noInts3 _ _ _ _ _ _ _) (kept3 _ _ _), HX.out, by omega, by omega, hpos, HN.out⟩
set_option maxRecDepth 100000 in
set_option maxHeartbeats 1000000 in
theorem side_any {w : World} {g : Nat} {xs gs : List Int} {a1 gd : Option Addr} {c1 gc : Nat} (G : w.cell? ⟨g, 0, none⟩ = some (.slice gd gs.length gc)) (Ag : Arg w (.slice gd gs.length gc) gs gd gc)
    (A : Arg w (.slice a1 xs.length c1) xs a1 c1) (hpos : 0 < val gs) (hx : xs.length ≤ 134217728) (hg : gs.length ≤ 134217728) :
    Calls Tryz.prog 121 #[.slice a1 xs.length c1, .pointer (some ⟨g, 0, none⟩)] w fun e w' => ∃ r zs, e = .returned r ∧ Res w.heap.size w' r zs (val xs / val gs) ∧ zs.length ≤ xs.length ∧ Below w.heap.size w w' := by
  go_enter Tryz.func121, Tryz.ntmps121
  go_wp2_with fail
  refine (div_any A Ag hx hg hpos).mono ?_
  rintro e w2 ⟨r2, s2, rfl, hb2, ⟨z2, q2, l2⟩, _⟩
  clear G
  go_wp2_with fail
  go_ret
  exact ⟨r2, z2, rfl, q2, l2, hb2⟩
set_option maxRecDepth 100000 in
set_option maxHeartbeats 4000000 in
theorem bothNorm_any {w : World} {g : Nat} {neg : Bool} {xs ys gs : List Int} {a1 a2 gd : Option Addr} {c1 c2 gc : Nat} (G : w.cell? ⟨g, 0, none⟩ = some (.slice gd gs.length gc)) (Ag : Arg w (.slice gd gs.length gc) gs gd gc)
    (A : Arg w (.slice a1 xs.length c1) xs a1 c1) (B : Arg w (.slice a2 ys.length c2) ys a2 c2) (hpos : 0 < val gs) (hx : xs.length ≤ 134217728) (hy : ys.length ≤ 134217728) (hg : gs.length ≤ 134217728) :
    Calls Tryz.prog 120 #[.agg #[.bool neg, .slice a1 xs.length c1, .slice a2 ys.length c2], .func (.func 121) #[] #[.pointer (some ⟨g, 0, none⟩)]] w fun e w' => ∃ r, e = .returned r ∧ ∃ (us vs : List Int) (b1 b2 : Option Addr) (k1 k2 : Nat), r = .agg #[.bool neg, .slice b1 us.length k1, .slice b2 vs.length k2] ∧
      Res w.heap.size w' (.slice b1 us.length k1) us (val xs / val gs) ∧ Res w.heap.size w' (.slice b2 vs.length k2) vs (val ys / val gs) ∧ us.length ≤ xs.length ∧ vs.length ≤ ys.length ∧ Below w.heap.size w w' := by
  have hgl := World.block_lt_of_cell? w _ G
  obtain ⟨W, hW⟩ : ∃ W, ((w.alloc (.cells #[.bool neg, .slice a1 xs.length c1, .slice a2 ys.length c2] 58)).alloc (.cells #[.bool false, .slice none 0 0, .slice none 0 0] 58)) = W := ⟨_, rfl⟩
  have R0 : Row W (w.heap.size) 58 #[.bool neg, .slice a1 xs.length c1, .slice a2 ys.length c2] := by rw [← hW]; exact ((Row.new _ _ _).alloc _)
  have R1 : Row W (w.heap.size + 1) 58 #[.bool false, .slice none 0 0, .slice none 0 0] := by rw [← hW]; have h := (Row.new (w.alloc (.cells #[.bool neg, .slice a1 xs.length c1, .slice a2 ys.length c2] 58)) 58 #[.bool false, .slice none 0 0, .slice none 0 0]); simp only [World.size_alloc] at h; exact h
  have hBW : Below w.heap.size w W := by rw [← hW]; exact (((Below.refl _ _).alloc (by (try simp) <;> omega) _).alloc (by (try simp) <;> omega) _)
  have hsW : w.heap.size + 1 + 1 ≤ W.heap.size := by rw [← hW]; simp
  have mkS : ∀ X, Below (w.heap.size + 1) W X → X.cell? ⟨w.heap.size, 0, none⟩ = some (.bool neg) ∧ X.cell? ⟨w.heap.size, 1, none⟩ = some (.slice a1 xs.length c1) ∧ X.cell? ⟨w.heap.size, 2, none⟩ = some (.slice a2 ys.length c2) ∧ Below w.heap.size w X ∧ Below (w.heap.size + 1) W X := fun X h => ⟨(R0.below h (by omega)).cell 0, (R0.below h (by omega)).cell 1, (R0.below h (by omega)).cell 2, hBW.trans (h.mono (by omega)), h⟩
  go_enter Tryz.func120, Tryz.ntmps120
  go_wp2_with fail
  clear hW
  go_region_held3 (fun X => X.cell? ⟨w.heap.size, 0, none⟩ = some (.bool neg) ∧ X.cell? ⟨w.heap.size, 1, none⟩ = some (.slice a1 xs.length c1) ∧ X.cell? ⟨w.heap.size, 2, none⟩ = some (.slice a2 ys.length c2) ∧ Below w.heap.size w X ∧ Below (w.heap.size + 1) W X)
    (((refine mkS _ ?_; (repeat' (first | exact Below.refl _ _ | refine Below.drew ?_ | refine Below.alloc ?_ (by (try simp) <;> omega) _ | refine below_set3 ?_ (by (try simp) <;> omega) _ _ _ | refine below_set2 ?_ (by (try simp) <;> omega) _ _ | refine Below.setCell ?_ (by (try simp) <;> omega) _ | refine Below.trans ?_ (Below.mono (by assumption) (by (try simp) <;> omega)))))))
    ((first
      | (have HB : Below w.heap.size w _ := (‹_ ∧ _ ∧ _ ∧ Below w.heap.size w _ ∧ _›).2.2.2.1; go_at_call 121; first
        | ((with_reducible refine (side_any (((HB).cell (p := ⟨g, 0, none⟩) hgl).trans G) (Ag.later HB) (A.later HB) hpos (by omega) (by omega)).mono ?_); rintro e w2 ⟨r2, z2, rfl, q2, l2, hb2⟩; have hs2 := hb2.size; (try simp at hs2); obtain ⟨ad2, cp2, rfl, q2, A2⟩ := q2.slice; clear HB)
        | ((with_reducible refine (side_any (((HB).cell (p := ⟨g, 0, none⟩) hgl).trans G) (Ag.later HB) (B.later HB) hpos (by omega) (by omega)).mono ?_); rintro e w3 ⟨r3, z3, rfl, q3, l3, hb3⟩; clear HB; have hs3 := hb3.size; (try simp at hs3); obtain ⟨ad3, cp3, rfl, q3, A3⟩ := q3.slice; replace q2 := q2.later hb3; have R1' := R1.later (show Below W.heap.size W w3 by (repeat' (first | exact Below.refl _ _ | refine Below.drew ?_ | refine Below.alloc ?_ (by (try simp) <;> omega) _ | refine below_set3 ?_ (by (try simp) <;> omega) _ _ _ | refine below_set2 ?_ (by (try simp) <;> omega) _ _ | refine Below.setCell ?_ (by (try simp) <;> omega) _ | refine Below.trans ?_ (Below.mono (by assumption) (by (try simp) <;> omega))))); obtain ⟨u0, u1, u2, g0, g1, g2⟩ := R1'.three))))
  go_wp2_with fail
  refine bodyPost_ret (v := .agg #[.bool neg, .slice ad2 z2.length cp2, .slice ad3 z3.length cp3]) (by simp [results, Tryz.results120, go_sem, u0, u1, u2]) rfl ⟨_, rfl, z2, z3, ad2, ad3, cp2, cp3, rfl, ?_, ?_, l2, l3, ?_⟩
  · exact (q2.far R1' (by decide) (kept3 _ _ _)).mono (by (try simp) <;> omega)
  · exact (q3.far R1' (by decide) (kept3 _ _ _)).mono (by (try simp) <;> omega)
  · (repeat' (first | exact Below.refl _ _ | exact hBW | refine Below.drew ?_ | refine Below.alloc ?_ (by (try simp) <;> omega) _ | refine below_set3 ?_ (by (try simp) <;> omega) _ _ _ | refine below_set2 ?_ (by (try simp) <;> omega) _ _ | refine Below.setCell ?_ (by (try simp) <;> omega) _ | refine Below.trans ?_ (Below.mono (by assumption) (by (try simp) <;> omega))))
set_option maxRecDepth 100000 in
set_option maxHeartbeats 4000000 in
theorem norm_any {n : Nat} {w : World} {v : Value} {X : Rat} (h : ArgQ w v X n) (hn : n ≤ 67108864) :
    Calls Tryz.prog 100 #[v] w fun e w' => ∃ r, e = .returned r ∧ ResQ w.heap.size w' r X (n + 2) ∧ Below w.heap.size w w' := by
  obtain ⟨neg0, xs0, ys0, e1, e2, k1, k2, rfl⟩ := h.box
  obtain ⟨W, hW⟩ : ∃ W, ((w.alloc (.cells #[.bool neg0, .slice e1 xs0.length k1, .slice e2 ys0.length k2] 58)).alloc (.cells #[.bool false, .slice none 0 0, .slice none 0 0] 58)) = W := ⟨_, rfl⟩
  have R0 : Row W (w.heap.size) 58 #[.bool neg0, .slice e1 xs0.length k1, .slice e2 ys0.length k2] := by rw [← hW]; exact ((Row.new _ _ _).alloc _)
  have R1 : Row W (w.heap.size + 1) 58 #[.bool false, .slice none 0 0, .slice none 0 0] := by rw [← hW]; have h := (Row.new (w.alloc (.cells #[.bool neg0, .slice e1 xs0.length k1, .slice e2 ys0.length k2] 58)) 58 #[.bool false, .slice none 0 0, .slice none 0 0]); simp only [World.size_alloc] at h; exact h
  have hBW : Below w.heap.size w W := by rw [← hW]; exact (((Below.refl _ _).alloc (by (try simp) <;> omega) _).alloc (by (try simp) <;> omega) _)
  have hsW : w.heap.size + 1 + 1 ≤ W.heap.size := by rw [← hW]; simp
  have h' := h.later hBW
  obtain ⟨t0, t1, t2, f0, f1, f2⟩ := R0.three
  have hmf : ∀ (fn : Fn) (first cap : Array Value) (w : World), (Instr.makeFunc fn first cap).run Tryz.prog w = .ok (.func fn first cap) w := fun _ _ _ _ => rfl
  go_enter Tryz.func100, Tryz.ntmps100
  go_wp2_with fail
  refine (plain_any h' (by omega)).mono ?_
  rintro e w1 ⟨r1, rfl, hp, hb1⟩
  have hs1 := hb1.size
  replace R0 := R0.later hb1
  replace R1 := R1.later hb1
  clear t0 t1 t2 f0 f1 f2 hW h h'
  obtain ⟨neg, xs, ys, a1, a2, c1, c2, rfl, A, B, hX, hx, hy, hpos, hn0⟩ := hp
  obtain ⟨t0, t1, t2, f0, f1, f2⟩ := R0.three
  obtain ⟨V, hV⟩ : ∃ V, ((w1.setCell ⟨w.heap.size, 0, none⟩ (.bool neg)).setCell ⟨w.heap.size, 1, none⟩ (.slice a1 xs.length c1)).setCell ⟨w.heap.size, 2, none⟩ (.slice a2 ys.length c2) = V := ⟨_, rfl⟩
  have hBV : Below w.heap.size w V := by rw [← hV]; exact below_set3 (hBW.trans (hb1.mono (by omega))) (by omega) _ _ _
  have hsV : w.heap.size + 1 + 1 ≤ V.heap.size := by rw [← hV]; simp; omega
  have AV : Arg V (.slice a1 xs.length c1) xs a1 c1 := by rw [← hV]; exact A.far R0 (noInts3 _ _ _ _ _ _ _) (kept3 _ _ _)
  have BV : Arg V (.slice a2 ys.length c2) ys a2 c2 := by rw [← hV]; exact B.far R0 (noInts3 _ _ _ _ _ _ _) (kept3 _ _ _)
  have Q0 : Row V (w.heap.size) 58 #[.bool neg, .slice a1 xs.length c1, .slice a2 ys.length c2] := by rw [← hV]; exact R0.set3 _ _ _
  have Q1 : Row V (w.heap.size + 1) 58 #[.bool false, .slice none 0 0, .slice none 0 0] := by rw [← hV]; exact ((R1.far (by simp <;> omega) _).far (by simp <;> omega) _).far (by simp <;> omega) _
  obtain ⟨p0, p1, p2, _, _, _⟩ := Q0.three
  have h0 := val_nonneg A.wf
  have e1 := ratOf_neg h0 hpos hn0
  have e2 := ratOf_abs (n := neg) h0 hpos
  have e3 := ratOf_den (n := neg) (A := val xs) hpos
  have hgp : 0 < (Int.gcd (val xs) (val ys) : Int) := gcd_pos_right hpos
  rw [hX] at e1 e2 e3
  have E1 := Lib.hid e1
  have E2 := Lib.hid e2
  have E3 := Lib.hid e3
  clear e1 e2 e3 hX hn0 R0 R1 A B hb1 hs1
  go_wp2_with fail
  refine (gcd_any AV BV (by omega) (by omega)).mono ?_
  rintro e w2 ⟨r2, gs, rfl, q2, l2, hb2⟩
  have hs2 := hb2.size
  obtain ⟨gd, gc, rfl, q2, Ag⟩ := q2.slice
  have q2e := q2.eq
  have hgs : 0 < val gs := by rw [q2e]; exact hgp
  have QE := Lib.hid q2e
  clear q2e hgp t0 t1 t2 f0 f1 f2 hV p0 p1 p2
  obtain ⟨U, hU⟩ : ∃ U, (w2.alloc (.cells #[.slice none 0 0] 56)).setCell ⟨w2.heap.size, 0, none⟩ (.slice gd gs.length gc) = U := ⟨_, rfl⟩
  have hBU : Below w2.heap.size w2 U := by rw [← hU]; exact ((Below.refl _ _).alloc (by simp) _).setCell (by simp) _
  have hB2 : Below w.heap.size w U := (hBV.trans (hb2.mono (by omega))).trans (hBU.mono (by omega))
  have hsU : U.heap.size = w2.heap.size + 1 := by rw [← hU]; simp
  have G : U.cell? ⟨w2.heap.size, 0, none⟩ = some (.slice gd gs.length gc) := by
    rw [← hU]; exact ((Row.new w2 56 #[.slice none 0 0]).set 0 _).cell 0
  obtain ⟨p0, p1, p2, _, _, _⟩ := ((Q0.later hb2).later hBU).three
  replace Q1 := (Q1.later hb2).later hBU
  have AU := (AV.later hb2).later hBU
  have BU := (BV.later hb2).later hBU
  have AgU := Ag.later hBU
  obtain ⟨pa, pb, pc, _, _, _⟩ := (Q0.later hb2).three
  go_wp2_with fail
  refine (bothNorm_any G AgU AU BU hgs (by omega) (by omega) (by omega)).mono ?_
  rintro e w3 ⟨r3, rfl, us, vs, b1, b2, j1, j2, rfl, q3, q4, l3, l4, hb3⟩
  have hs3 := hb3.size
  replace Q1 := Q1.later hb3
  obtain ⟨u0, u1, u2, g0, g1, g2⟩ := Q1.three
  clear p0 p1 p2 pa pb pc G
  go_wp2_with fail
  refine bodyPost_ret (v := .agg #[.bool neg, .slice b1 us.length j1, .slice b2 vs.length j2]) (by simp [results, Tryz.results100, go_sem, u0, u1, u2]) rfl ⟨_, rfl, ⟨us, vs, b1, b2, j1, j2, by rw [E1.out], ?_, ?_, by omega, by omega⟩, below_set3 (hB2.trans (hb3.mono (by omega))) (by omega) _ _ _⟩
  · rw [E2.out, ← QE.out]
    exact (q3.far Q1 (by decide) (kept3 _ _ _)).mono (by omega)
  · rw [E3.out, ← QE.out]
    exact (q4.far Q1 (by decide) (kept3 _ _ _)).mono (by omega)
end
section
open Go.RowKit
set_option linter.unusedVariables false
set_option linter.unusedSimpArgs false
set_option maxRecDepth 100000 in
set_option maxHeartbeats 1000000 in
theorem smallL_any (N : Int) (w : World) (hN : 0 ≤ N) (hN2 : N ≤ 9223372036854775807) :
    Calls Tryz.prog 115 #[.int .i64 N] w fun e w' => ∃ u, e = .returned u ∧ ∃ zs, ResD w.heap.size w' u zs N ∧ zs.length ≤ 5 ∧ Below w.heap.size w w' := by
  obtain ⟨i0, hi, hz0, hz1, hz2⟩ := info_parts infoInt
  go_enter Tryz.func115, Tryz.ntmps115
  go_wp2
  go_loopw [0, 3] (fun n s wr => ∃ (m : Int) (ds : List Int) (v : Value), n = .int .i64 m ∧ v = s ∧ 0 ≤ m ∧ m ≤ 9223372036854775807 ∧ ds.length ≤ 5 ∧ NumI w.heap.size wr v ds ∧ WfD ds ∧ valD ds + 10000 ^ ds.length * m = N ∧ (m = 0 → trimN ds ds.length = ds.length) ∧ Below w.heap.size w wr) (fun n _ _ => (intOf n).toNat)
  case atStart => exact ⟨N, [], _, rfl, rfl, hN, hN2, by simp, World.ownsRow_nil _ _ _ _, WfD.nil, by simp [valD], fun _ => rfl, Below.refl _ _⟩
  case round =>
    obtain ⟨m, ds, v, rfl, rfl, hm, hm2, hlen, hown, hwf, hval, hfull, hb⟩ := hrel
    have hsz := hb.size
    have HV := Lib.hid hval
    have HF := Lib.hid hfull
    have HO := Lib.hid hown
    have hrow : wr.ownsRow w.heap.size 3 1 v ds.length (ds.map (Value.int .i64)) := hown
    have h0v := val_nonnegD hwf
    have hle : 10000 ^ ds.length * m ≤ N := by omega
    have hlen4 : 0 < m → ds.length ≤ 4 := by
      intro hp
      rcases Nat.lt_or_ge 4 ds.length with k | k
      · exfalso
        have e5 : ds.length = 5 := by omega
        rw [e5] at hle
        simp at hle
        omega
      · exact k
    clear hval hfull hown hle h0v
    by_cases hpos : 0 < m
    · have hl4 := hlen4 hpos
      clear hlen4
      go_wp2_with (at_builtin; refine wpList_append_own _ rfl _ _ 73 rfl w.heap.size 3 i0 (.int .i64 0) 1 8 Tryz.underlying73 hi hz0 hz1 hz2 rfl (by decide) _ _ _ rfl (hrow.alloc _) ⟨wr.heap.size, 0, none⟩ 1 1 [.int .i64 (m % 10000)] rfl rfl (cell_one_new _ _ _) (by simp [Value.oneCell']) (by unfold maxLen; omega) (by omega) (by simp; omega) ?_; intro v' w1 hown' hgrow _)
      go_roundw
      case rel =>
        obtain ⟨hn, hbw⟩ := push_num hb hsz HO.out hown' hgrow
        refine ⟨m / 10000, ds ++ [m % 10000], v', rfl, rfl, by omega, by omega, ?_, hn, hwf.snoc (by omega), ?_, fun h0 => full_snoc ds (by omega), hbw⟩
        · rw [List.length_append, List.length_singleton]
          omega
        · rw [valD_snoc, List.length_append, List.length_singleton, Int.pow_succ]
          have h1 := HV.out
          have h2 : m % 10000 + 10000 * (m / 10000) = m := by omega
          generalize m % 10000 = r at *
          generalize m / 10000 = q at *
          generalize (10000 : Int) ^ ds.length = P at *
          grind
      case measure => simp [intOf]; omega
    · have h0 : m = 0 := by omega
      subst h0
      go_wp2
      go_ret
      exact ⟨_, rfl, ds, ⟨HO.out, hwf, (by have h := HF.out; simpa using h), by have := HV.out; simpa using this⟩, hlen, hb⟩
/-- a literal of one digit -/
theorem digit_lit {w : World} {g : Nat} {x : Int} (h : Row w g 3 #[.int .i64 x]) (hx : 0 < x ∧ x < 10000) : ArgD w (.slice (some ⟨g, 0, none⟩) 1 1) [x] (some ⟨g, 0, none⟩) 1 := by
  refine ⟨rfl, .inr ⟨g, 0, rfl, fun i hi => ?_⟩, by simp, WfD.cons (by omega) WfD.nil, ?_⟩
  · obtain rfl : i = 0 := by simpa using hi
    exact h.cell 0
  · show trimN [x] 1 = 1
    unfold trimN
    rw [if_neg (by simp; omega)]
set_option maxHeartbeats 1000000 in
theorem sizeR_any (n : Int) (w : World) (h0 : -9223372036854775808 ≤ n) (h1 : n ≤ 9223372036854775807) :
    Calls Tryz.prog 90 #[.int .i64 n] w fun e w' => ∃ r, e = .returned r ∧ ∃ zs, ResD w.heap.size w' r zs (n.natAbs : Int) ∧ zs.length ≤ 6 ∧ Below w.heap.size w w' := by
  by_cases hn : n < 0
  · have hd : decide (n < 0) = true := decide_eq_true hn
    obtain ⟨m, hm⟩ : ∃ m : Int, n = -m - 1 := ⟨-n - 1, by omega⟩
    have e1 : ((n.natAbs : Nat) : Int) = m + 1 := by omega
    rw [e1]
    subst hm
    have hs1 : -m - 1 + 1 = -m := by omega
    have hw1 : IntKind.i64.wrap (-m - 1 + 1) = -m := by rw [hs1]; exact IntWalk.i64_in _ (by omega)
    have hw2 : IntKind.i64.wrap (- -m) = m := by rw [Int.neg_neg]; exact IntWalk.i64_in _ (by omega)
    clear e1
    go_enter Tryz.func90, Tryz.ntmps90
    go_wp2_with fail
    have key : ∀ q : Int, q = m → Calls Tryz.prog 115 #[.int .i64 q] w fun e w' => ∃ u, e = .returned u ∧ ∃ zs, ResD w.heap.size w' u zs m ∧ zs.length ≤ 5 ∧ Below w.heap.size w w' := by
      rintro q rfl; exact smallL_any _ _ (by omega) (by omega)
    refine (key _ (by first | rfl | omega | (unfold wrap64; omega))).mono ?_
    rintro e w1 ⟨r1, rfl, z1, q1, n1, hb1⟩
    obtain ⟨ad1, c1, rfl, q1, A1⟩ := q1.slice
    have hb2 : Below w1.heap.size w1 (w1.alloc (.cells #[.int .i64 1] 3)) := (Below.refl _ _).alloc (Nat.le_refl _) _
    have A1' := A1.later hb2
    have L := digit_lit (Row.new w1 3 #[.int .i64 1]) (by omega)
    have hs1' := hb1.size
    clear hw1 hw2 hs1 key
    go_wp2_with fail
    refine (addD_any A1' L (by omega) (by simp)).mono ?_
    rintro e w2 ⟨r2, rfl, z2, q2, n2, hb3⟩
    have hv : valD z2 = m + 1 := by rw [q2.eq, q1.eq]; simp [valD]
    have HV := Lib.hid hv
    have hs2 : w.heap.size ≤ (w1.alloc (.cells #[.int .i64 1] 3)).heap.size := by simp; omega
    simp only [List.length_cons, List.length_nil] at n2
    clear hv
    go_wp2_with fail
    go_ret
    exact ⟨_, rfl, z2, ⟨q2.num.mono hs2, q2.wf, q2.full, HV.out⟩, by omega, (hb1.trans (hb2.mono hs1')).trans (hb3.mono hs2)⟩
  · have hd : decide (n < 0) = false := decide_eq_false hn
    have e1 : ((n.natAbs : Nat) : Int) = n := by omega
    rw [e1]
    clear e1
    go_enter Tryz.func90, Tryz.ntmps90
    go_wp2_with fail
    refine (smallL_any n _ (by omega) (by omega)).mono ?_
    rintro e w' ⟨r, rfl, z, q, nz, hb⟩
    go_wp2_with fail
    go_ret
    exact ⟨r, rfl, z, q, by omega, hb⟩
end
section
open Go.RowKit
set_option linter.unusedVariables false
set_option linter.unusedSimpArgs false
/-- the numbers xs lie from the address ad on -/
def LimS (w : World) (ad : Option Addr) (xs : List Int) : Prop :=
  xs = [] ∨ ∃ b off, ad = some ⟨b, off, none⟩ ∧ ∀ i, i < xs.length → w.cell? ⟨b, off + i, none⟩ = some (.int .i64 (xs.getD i 0))
theorem LimS.nil (w : World) (ad : Option Addr) : LimS w ad [] := .inl rfl
theorem LimS.below {w w' : World} {ad : Option Addr} {xs : List Int} {B : Nat} (h : LimS w ad xs) (hb : Below B w w') (hB : ∀ a, ad = some a → a.block < B) : LimS w' ad xs := by
  rcases h with rfl | ⟨b, off, rfl, hc⟩
  · exact .inl rfl
  · exact .inr ⟨b, off, rfl, fun i hi => (hb.cell (p := ⟨b, off + i, none⟩) (hB ⟨b, off, none⟩ rfl)).trans (hc i hi)⟩
theorem LimS.later {w w' : World} {ad : Option Addr} {xs : List Int} (h : LimS w ad xs) (hb : Below w.heap.size w w') : LimS w' ad xs := by
  rcases h with rfl | ⟨b, off, rfl, hc⟩
  · exact .inl rfl
  · refine .inr ⟨b, off, rfl, fun i hi => ?_⟩
    have hlt := World.block_lt_of_cell? w _ (hc i hi)
    exact (hb.cell (p := ⟨b, off + i, none⟩) hlt).trans (hc i hi)
theorem LimS.take {w : World} {ad : Option Addr} {xs : List Int} (h : LimS w ad xs) (n : Nat) : LimS w ad (xs.take n) := by
  rcases h with rfl | ⟨b, off, rfl, hc⟩
  · exact .inl (by simp)
  · refine .inr ⟨b, off, rfl, fun i hi => ?_⟩
    rw [List.length_take] at hi
    rw [hc i (by omega)]
    simp [show i < n by omega]
theorem LimS.lt {w : World} {ad : Option Addr} {xs : List Int} (h : LimS w ad xs) (hn : xs ≠ []) : ∀ a, ad = some a → a.block < w.heap.size := by
  rcases h with rfl | ⟨b, off, rfl, hc⟩
  · exact absurd rfl hn
  · intro a ha
    cases ha
    exact World.block_lt_of_cell? w _ (hc 0 (List.length_pos_iff.2 hn))
/-- v is a slice of the call's own numbers xs -/
def NumS (base : Nat) (w : World) (v : Value) (xs : List Int) : Prop := w.ownsRow base 3 1 v xs.length (xs.map (Value.int .i64))
theorem NumS.read {base : Nat} {w : World} {v : Value} {xs : List Int} (h : NumS base w v xs) : ∃ ad cap, v = .slice ad xs.length cap ∧ LimS w ad xs ∧ xs.length ≤ cap ∧ cap ≤ maxLen ∧ (∀ a, ad = some a → base ≤ a.block ∧ a.block < w.heap.size) := by
  obtain ⟨h1, h2⟩ := h
  rcases h2 with ⟨rfl, hn⟩ | ⟨g, cap, cur, rfl, hb, hg, hc, hm, hs, ht⟩
  · obtain rfl := List.eq_nil_of_length_eq_zero hn
    exact ⟨none, 0, rfl, .inl rfl, Nat.le_refl _, by unfold maxLen; omega, fun a ha => by cases ha⟩
  · refine ⟨_, cap, rfl, .inr ⟨g, 0, rfl, fun i hi => ?_⟩, hc, hm, fun a ha => by cases ha; exact ⟨hb, lt_of_block hg⟩⟩
    have hj := World.ownsRow.cellAt (w := w) (base := base) (e := 3) (size := 1) (g := g) (n := xs.length) (cap := cap) (xs := xs.map (Value.int .i64)) ⟨h1, .inr ⟨g, cap, cur, rfl, hb, hg, hc, hm, hs, ht⟩⟩ i (by omega)
    rw [Nat.zero_add, hj]
    simp [hi]
theorem NumS.lt {base : Nat} {w : World} {v : Value} {xs : List Int} (h : NumS base w v xs) : ∀ k, v.ownBlock = some k → base ≤ k ∧ k < w.heap.size := World.ownsRow.lt h
theorem NumS.kept {base B : Nat} {w w' : World} {v : Value} {xs : List Int} (h : NumS base w v xs) (hb : Below B w w') (hB : ∀ k, v.ownBlock = some k → k < B) : NumS base w' v xs := by
  obtain ⟨h1, h2⟩ := h
  refine ⟨h1, ?_⟩
  rcases h2 with h2 | ⟨g, cap, cur, rfl, hg0, hg, hc, hm, hs, ht⟩
  · exact .inl h2
  · exact .inr ⟨g, cap, cur, rfl, hg0, (hb.block g (hB g rfl)).trans hg, hc, hm, hs, ht⟩
theorem NumS.later {base : Nat} {w w' : World} {v : Value} {xs : List Int} (h : NumS base w v xs) (hb : Below w.heap.size w w') : NumS base w' v xs := h.kept hb fun k hk => (h.lt k hk).2
theorem NumS.mono {base base' : Nat} {w : World} {v : Value} {xs : List Int} (h : NumS base w v xs) (hb : base' ≤ base) : NumS base' w v xs := by
  obtain ⟨h1, h2⟩ := h
  refine ⟨h1, ?_⟩
  rcases h2 with h2 | ⟨g, cap, cur, rfl, hg0, hg, hc, hm, hs, ht⟩
  · exact .inl h2
  · exact .inr ⟨g, cap, cur, rfl, Nat.le_trans hb hg0, hg, hc, hm, hs, ht⟩
/-- a block of numbers, known whole -/
def BlkS (w : World) (g : Nat) (zs : List Int) : Prop := w.heap[g]? = some (.cells (zs.map (Value.int .i64)).toArray 3 (0, 0))
theorem BlkS.cell {w : World} {g : Nat} {zs : List Int} (h : BlkS w g zs) (i : Nat) (hi : i < zs.length) : w.cell? ⟨g, i, none⟩ = some (.int .i64 (zs.getD i 0)) := by
  have e : w.cell? ⟨g, i, none⟩ = ((zs.map (Value.int .i64)).toArray)[i]? := cell_of_row w g i _ 3 (0, 0) h
  rw [e]; simp [hi]
theorem BlkS.free {w : World} {g : Nat} {zs : List Int} (h : BlkS w g zs) (i : Nat) : w.frozen? ⟨g, i, none⟩ = false := by
  exact frozen_of_row w g i _ 3 h
theorem BlkS.lt {w : World} {g : Nat} {zs : List Int} (h : BlkS w g zs) : g < w.heap.size := lt_of_block h
theorem BlkS.same {w w' : World} {g : Nat} {zs : List Int} (h : BlkS w g zs) (e : w'.heap[g]? = w.heap[g]?) : BlkS w' g zs := e.trans h
theorem BlkS.alloc {w : World} {g : Nat} {zs : List Int} (h : BlkS w g zs) (o : Obj) : BlkS (w.alloc o) g zs := h.same (Below.heap_alloc _ _ _ h.lt)
theorem BlkS.only {w w' : World} {g b : Nat} {zs : List Int} (h : BlkS w g zs) (k : Only b w w') (hb : g ≠ b) : BlkS w' g zs := h.same (k.block g hb)
theorem BlkS.below {w w' : World} {g B : Nat} {zs : List Int} (h : BlkS w g zs) (k : Below B w w') (hb : g < B) : BlkS w' g zs := h.same (k.block g hb)
theorem BlkS.set {w : World} {g : Nat} {zs : List Int} (h : BlkS w g zs) (i : Nat) (x : Int) : BlkS (w.setCell ⟨g, i, none⟩ (.int .i64 x)) g (zs.set i x) := by
  have hh := heap_setCell_same w g i _ 3 (.int .i64 x) h
  unfold BlkS
  rw [hh]
  congr 2
  simp [List.map_set]
theorem BlkS.made (w : World) (n : Nat) : BlkS (w.alloc (.cells (madeCells #[.int .i64 0] n) 3)) w.heap.size (List.replicate n 0) := by
  have h := heap_alloc_new w (.cells (madeCells #[.int .i64 0] n) 3)
  unfold BlkS
  rw [h]
  congr 2
  apply Array.ext
  · simp [madeCells]
  · intro i h1 h2
    simp [madeCells, Nat.mod_one]
theorem NumS.ofBlk {base g : Nat} {w : World} {zs : List Int} (h : BlkS w g zs) (hb : base ≤ g) (n : Nat) (hn : n ≤ zs.length) (hm : zs.length ≤ maxLen) : NumS base w (.slice (some ⟨g, 0, none⟩) n zs.length) (zs.take n) := by
  have e : (zs.take n).length = n := by rw [List.length_take]; omega
  unfold NumS
  rw [e]
  refine ⟨by rw [List.length_map, e, Nat.mul_one], .inr ⟨g, zs.length, _, rfl, hb, h, hn, hm, by simp, ?_⟩⟩
  simp [List.map_take]
theorem BlkS.grown {w w' : World} {g : Nat} {row : Option Nat} {zs : List Int} (h : BlkS w g zs) (k : w.grownBy w' row) (hb : some g ≠ row) : BlkS w' g zs := h.same (k.block g h.lt hb)
/-- all are of 64 bits -/
def Wid (xs : List Int) : Prop := ∀ x ∈ xs, -9223372036854775808 ≤ x ∧ x ≤ 9223372036854775807
theorem Wid.nil : Wid [] := fun _ h => by cases h
theorem Wid.append {xs ys : List Int} (h : Wid xs) (k : Wid ys) : Wid (xs ++ ys) := fun x hx => (List.mem_append.1 hx).elim (h x) (k x)
theorem Wid.one {x : Int} (h : -9223372036854775808 ≤ x ∧ x ≤ 9223372036854775807) : Wid [x] := fun y hy => by rw [List.mem_singleton.1 hy]; exact h
theorem Wid.take {xs : List Int} (h : Wid xs) (n : Nat) : Wid (xs.take n) := fun x hx => h x (List.mem_of_mem_take hx)
theorem Wid.drop {xs : List Int} (h : Wid xs) (n : Nat) : Wid (xs.drop n) := fun x hx => h x (List.mem_of_mem_drop hx)
theorem Wid.getD {xs : List Int} (h : Wid xs) (i : Nat) : -9223372036854775808 ≤ xs.getD i 0 ∧ xs.getD i 0 ≤ 9223372036854775807 := by
  by_cases hi : i < xs.length
  · rw [List.getD_eq_getElem?_getD, List.getElem?_eq_getElem hi]; exact h _ (List.getElem_mem hi)
  · simp [List.getElem?_eq_none (Nat.le_of_not_lt hi)]
/-- an argument: numbers -/
structure ArgS (w : World) (u : Value) (xs : List Int) (ad : Option Addr) (cap : Nat) : Prop where
  is : u = .slice ad xs.length cap
  lim : LimS w ad xs
  le : xs.length ≤ cap
  wf : Wid xs
theorem ArgS.later {w w' : World} {u : Value} {xs : List Int} {ad : Option Addr} {cap : Nat} (h : ArgS w u xs ad cap) (hb : Below w.heap.size w w') : ArgS w' u xs ad cap := ⟨h.is, h.lim.later hb, h.le, h.wf⟩
/-- a result: numbers in new memory -/
structure ResS (base : Nat) (w : World) (u : Value) (xs : List Int) : Prop where
  num : NumS base w u xs
  wf : Wid xs
theorem ResS.later {base : Nat} {w w' : World} {u : Value} {xs : List Int} (h : ResS base w u xs) (hb : Below w.heap.size w w') : ResS base w' u xs := ⟨h.num.later hb, h.wf⟩
theorem ResS.arg {base : Nat} {w : World} {u : Value} {xs : List Int} (h : ResS base w u xs) : ∃ ad cap, ArgS w u xs ad cap := by
  obtain ⟨ad, cap, h1, h2, h3, _, _⟩ := h.num.read
  exact ⟨ad, cap, h1, h2, h3, h.wf⟩
theorem infoS : (Tryz.prog.info? 3).map (fun i => (i.zero, i.size, i.bytes)) = some (some (.int .i64 0), 1, 8) := by kernel_rfl
theorem pushS {base : Nat} {w wr w1 : World} {v v' : Value} {ds : List Int} {d : Int} {o : Obj} (hb : Below base w wr) (hbase : base ≤ wr.heap.size) (hown : NumS base wr v ds)
    (hown' : w1.ownsRow base 3 1 v' (ds.length + 1) (ds.map (Value.int .i64) ++ [Value.int .i64 d])) (hgrow : (wr.alloc o).grownBy w1 v.ownBlock) : NumS base w1 v' (ds ++ [d]) ∧ Below base w w1 := by
  refine ⟨?_, (hb.alloc hbase o).grown hgrow (by simp; omega) (fun k hk => (hown.lt k hk).1)⟩
  unfold NumS
  rw [List.length_append, List.map_append]
  exact hown'
theorem ArgS.at {w : World} {u : Value} {xs : List Int} {ad : Option Addr} {cap : Nat} (h : ArgS w u xs ad cap) {i : Nat} (hi : i < xs.length) :
    ∃ b off, ad = some ⟨b, off, none⟩ ∧ w.cell? ⟨b, off + i, none⟩ = some (.int .i64 (xs.getD i 0)) := by
  rcases h.lim with rfl | ⟨b, off, e, hc⟩
  · simp at hi
  · exact ⟨b, off, e, hc i hi⟩
theorem ResS.nil (base : Nat) (w : World) : ResS base w (.slice none 0 0) [] := ⟨⟨rfl, .inl ⟨rfl, rfl⟩⟩, Wid.nil⟩
theorem nil_argS (w : World) : ArgS w (.slice none 0 0) [] none 0 := ⟨rfl, .inl rfl, Nat.le_refl _, Wid.nil⟩
theorem ResS.mono {base base' : Nat} {w : World} {u : Value} {xs : List Int} (h : ResS base w u xs) (hb : base' ≤ base) : ResS base' w u xs := ⟨h.num.mono hb, h.wf⟩
theorem ResS.slice {base : Nat} {w : World} {u : Value} {xs : List Int} (h : ResS base w u xs) : ∃ ad cap, u = .slice ad xs.length cap ∧ ResS base w (.slice ad xs.length cap) xs ∧ ArgS w (.slice ad xs.length cap) xs ad cap ∧ (ad = none → cap = 0) := by
  obtain ⟨ad, cap, h1, h2, h3, h4, _⟩ := h.num.read
  subst h1
  refine ⟨ad, cap, rfl, h, ⟨rfl, h2, h3, h.wf⟩, fun hn => ?_⟩
  subst hn
  obtain ⟨_, h5⟩ := h.num
  rcases h5 with ⟨e, _⟩ | ⟨g, c, cur, e, _⟩
  · simp only [Value.slice.injEq] at e; exact e.2.2
  · simp at e
theorem cells_argS {w : World} {ys : List Int} {ad : Addr} {cap : Nat} (lx : LimS w (some ad) ys) : ∀ j u, (ys.map (Value.int .i64))[j]? = some u → w.cell? (ad.add j) = some u := by
  intro j u hj
  rcases lx with rfl | ⟨b, off, e, hc⟩
  · simp at hj
  · cases e
    rw [List.getElem?_map] at hj
    have hjl : j < ys.length := by
      rcases Nat.lt_or_ge j ys.length with h | h
      · exact h
      · rw [List.getElem?_eq_none h] at hj; cases hj
    rw [show (⟨b, off, none⟩ : Addr).add j = ⟨b, off + j, none⟩ from (by unfold Addr.add; split <;> simp_all), hc j hjl, ← hj]
    simp [hjl]
/-- a literal -/
theorem ArgS.lit (w : World) (xs : List Int) (h : Wid xs) : ArgS (w.alloc (.cells (xs.map (Value.int .i64)).toArray 3)) (.slice (some ⟨w.heap.size, 0, none⟩) xs.length xs.length) xs (some ⟨w.heap.size, 0, none⟩) xs.length := by
  refine ⟨rfl, .inr ⟨w.heap.size, 0, rfl, fun i hi => ?_⟩, Nat.le_refl _, h⟩
  have e : (w.alloc (.cells (xs.map (Value.int .i64)).toArray 3)).cell? ⟨w.heap.size, i, none⟩ = ((xs.map (Value.int .i64)).toArray)[i]? := cell_of_row _ _ i _ 3 (0, 0) (heap_alloc_new w _)
  rw [Nat.zero_add, e]
  simp [hi]
end
section
open Go.RowKit
set_option linter.unusedVariables false
set_option linter.unusedSimpArgs false
/-- block g has room for cap numbers, of which the first are zs -/
def PartS (w : World) (g cap : Nat) (zs : List Int) : Prop := ∃ cur : Array Value, w.heap[g]? = some (.cells cur 3 (0, 0)) ∧ cur.size = cap ∧ zs.length ≤ cap ∧ cur.toList.take zs.length = zs.map (Value.int .i64)
theorem PartS.cell {w : World} {g cap : Nat} {zs : List Int} (h : PartS w g cap zs) (i : Nat) (hi : i < zs.length) : w.cell? ⟨g, i, none⟩ = some (.int .i64 (zs.getD i 0)) := by
  obtain ⟨cur, hh, hs, hl, ht⟩ := h
  have e : w.cell? ⟨g, i, none⟩ = cur[i]? := cell_of_row w g i _ 3 (0, 0) hh
  rw [e]
  have h1 : (cur.toList.take zs.length)[i]? = cur[i]? := by rw [List.getElem?_take_of_lt hi]; simp
  rw [← h1, ht]
  simp [hi]
theorem PartS.free {w : World} {g cap : Nat} {zs : List Int} (h : PartS w g cap zs) (i : Nat) : w.frozen? ⟨g, i, none⟩ = false := by
  obtain ⟨cur, hh, _⟩ := h
  exact frozen_of_row w g i _ 3 hh
theorem PartS.lt {w : World} {g cap : Nat} {zs : List Int} (h : PartS w g cap zs) : g < w.heap.size := by obtain ⟨cur, hh, _⟩ := h; exact lt_of_block hh
theorem PartS.le {w : World} {g cap : Nat} {zs : List Int} (h : PartS w g cap zs) : zs.length ≤ cap := by obtain ⟨_, _, _, h, _⟩ := h; exact h
theorem PartS.same {w w' : World} {g cap : Nat} {zs : List Int} (h : PartS w g cap zs) (e : w'.heap[g]? = w.heap[g]?) : PartS w' g cap zs := by
  obtain ⟨cur, hh, r⟩ := h
  exact ⟨cur, e.trans hh, r⟩
theorem PartS.later {w w' : World} {g cap : Nat} {zs : List Int} (h : PartS w g cap zs) (k : Below w.heap.size w w') : PartS w' g cap zs := h.same (k.block g h.lt)
theorem PartS.far {w : World} {g cap : Nat} {zs : List Int} (h : PartS w g cap zs) {p : Addr} (hne : g ≠ p.block) (u : Value) : PartS (w.setCell p u) g cap zs := h.same (Below.heap_setCell _ _ _ _ hne)
theorem PartS.set {w : World} {g cap : Nat} {zs : List Int} (h : PartS w g cap zs) (i : Nat) (hi : i < zs.length) (x : Int) : PartS (w.setCell ⟨g, i, none⟩ (.int .i64 x)) g cap (zs.set i x) := by
  obtain ⟨cur, hh, hs, hl, ht⟩ := h
  refine ⟨cur.setIfInBounds i (.int .i64 x), ?_, by simpa using hs, by simpa using hl, ?_⟩
  · have e := heap_setCell_same w g i _ 3 (.int .i64 x) hh
    rw [e]
  · rw [List.length_set, Array.toList_setIfInBounds, List.take_set, ht, List.map_set]
theorem PartS.num {base g cap : Nat} {w : World} {zs : List Int} (h : PartS w g cap zs) (hb : base ≤ g) (hm : cap ≤ maxLen) : NumS base w (.slice (some ⟨g, 0, none⟩) zs.length cap) zs := by
  obtain ⟨cur, hh, hs, hl, ht⟩ := h
  exact ⟨by simp, .inr ⟨g, cap, cur, rfl, hb, hh, hl, hm, by simpa using hs, by simpa using ht⟩⟩
theorem ResS.grown {base : Nat} {w w' : World} {u : Value} {xs : List Int} {row : Option Nat} (h : ResS base w u xs) (k : w.grownBy w' row) (hb : ∀ g, u.ownBlock = some g → some g ≠ row) : ResS base w' u xs := by
  refine ⟨?_, h.wf⟩
  obtain ⟨h1, h2⟩ := h.num
  refine ⟨h1, ?_⟩
  rcases h2 with h2 | ⟨r, cap, cur, rfl, hr, hh, hrest⟩
  · exact .inl h2
  · exact .inr ⟨r, cap, cur, rfl, hr, (k.block r (lt_of_block hh) (hb r rfl)).trans hh, hrest⟩
/-- a slice of slices of numbers, all of the call's own -/
def RowsS (base : Nat) (w : World) (v : Value) (L : List (List Int)) : Prop :=
  ∃ vals : List Value, w.ownsRow base 22 1 v vals.length vals ∧ vals.length = L.length ∧ ∀ i, i < L.length → ∃ u, vals[i]? = some u ∧ ResS base w u (L.getD i [])
theorem RowsS.later {base : Nat} {w w' : World} {v : Value} {L : List (List Int)} (h : RowsS base w v L) (hb : Below w.heap.size w w') : RowsS base w' v L := by
  obtain ⟨vals, h1, h2, h3⟩ := h
  refine ⟨vals, ?_, h2, fun i hi => ?_⟩
  · obtain ⟨m1, m2⟩ := h1
    refine ⟨m1, ?_⟩
    rcases m2 with m2 | ⟨r, cap, cur, rfl, hr, hh, hrest⟩
    · exact .inl m2
    · exact .inr ⟨r, cap, cur, rfl, hr, (hb.block r (lt_of_block hh)).trans hh, hrest⟩
  · obtain ⟨u, e, R⟩ := h3 i hi
    exact ⟨u, e, R.later hb⟩
theorem RowsS.slice {base : Nat} {w : World} {v : Value} {L : List (List Int)} (h : RowsS base w v L) (hn : L ≠ []) : ∃ g cap, v = .slice (some ⟨g, 0, none⟩) L.length cap ∧ base ≤ g ∧ L.length ≤ cap ∧ cap ≤ maxLen ∧
    ∀ i, i < L.length → ∃ u, w.cell? ⟨g, i, none⟩ = some u ∧ ResS base w u (L.getD i []) := by
  obtain ⟨vals, h1, h2, h3⟩ := h
  obtain ⟨m1, m2⟩ := h1
  rcases m2 with ⟨e, h0⟩ | ⟨r, cap, cur, rfl, hr, hh, hc, hm, hs, ht⟩
  · exact absurd (List.eq_nil_of_length_eq_zero (by omega)) hn
  · refine ⟨r, cap, by rw [h2], hr, by omega, hm, fun i hi => ?_⟩
    obtain ⟨u, e, R⟩ := h3 i hi
    refine ⟨u, ?_, R⟩
    have hj := World.ownsRow.cellAt (w := w) (base := base) (e := 22) (size := 1) (g := r) (n := vals.length) (cap := cap) (xs := vals) ⟨m1, .inr ⟨r, cap, cur, rfl, hr, hh, hc, hm, hs, ht⟩⟩ i (by omega)
    rw [hj, e]
theorem RowsS.apart {base : Nat} {w : World} {v u : Value} {vals : List Value} {n : Nat} {xs : List Int} (h : w.ownsRow base 22 1 v n vals) (R : ResS base w u xs) : ∀ g, u.ownBlock = some g → some g ≠ v.ownBlock := by
  intro g hg he
  obtain ⟨_, m2⟩ := h
  obtain ⟨_, r2⟩ := R.num
  rcases r2 with ⟨rfl, _⟩ | ⟨r, cap, cur, rfl, _, hh, _⟩
  · cases hg
  · simp [Value.ownBlock] at hg
    subst hg
    rcases m2 with ⟨rfl, _⟩ | ⟨q, cap2, cur2, rfl, _, hh2, _⟩
    · cases he
    · simp [Value.ownBlock] at he
      subst he
      have := hh.symm.trans hh2
      simp at this
end
section
open Go.RowKit
set_option linter.unusedVariables false
set_option linter.unusedSimpArgs false
def belowB (n m : Int) : Bool := decide (0 ≤ n ∧ n < m)
theorem belowB_yes {n m : Int} (h : 0 ≤ n) (h2 : n < m) : belowB n m = true := decide_eq_true ⟨h, h2⟩
theorem belowB_no {n m : Int} (h : n < 0 ∨ m ≤ n) : belowB n m = false := decide_eq_false (by omega)
set_option maxRecDepth 100000 in
set_option maxHeartbeats 2000000 in
theorem below_any (n m : Int) (w : World) : Calls Tryz.prog 110 #[.int .i64 n, .int .i64 m] w fun e w' => e = .returned (.bool (belowB n m)) ∧ w = w' := by
  obtain ⟨b, hb⟩ : ∃ b, belowB n m = b := ⟨_, rfl⟩
  rw [hb]
  by_cases h0 : 0 ≤ n
  · by_cases h1 : n < m
    · obtain rfl : b = true := by rw [← hb, belowB_yes h0 h1]
      clear hb
      go_enter Tryz.func110, Tryz.ntmps110
      go_wp2
      go_ret
      exact ⟨rfl, rfl⟩
    · obtain rfl : b = false := by rw [← hb, belowB_no (by omega)]
      clear hb
      go_enter Tryz.func110, Tryz.ntmps110
      go_wp2
      go_ret
      exact ⟨rfl, rfl⟩
  · obtain rfl : b = false := by rw [← hb, belowB_no (by omega)]
    clear hb
    go_enter Tryz.func110, Tryz.ntmps110
    go_wp2
    go_ret
    exact ⟨rfl, rfl⟩
/-- what has been counted of the first k dimensions: the product, the error -/
def Cnt (s : List Int) (k : Nat) (n e : Int) : Prop := posS (s.take k) ∧ 1 ≤ n ∧ n ≤ 1024 ∧ (e = 0 ∧ n = prodS (s.take k) ∨ e = 14 ∧ 1024 < prodS (s.take k))
theorem Cnt.nil (s : List Int) : Cnt s 0 1 0 := ⟨(fun x h => by simp at h), by omega, by omega, .inl ⟨rfl, rfl⟩⟩
theorem quo_lt {d n : Int} (h1 : 1 ≤ n) : 1024 / n < d ↔ 1024 < n * d := by
  rw [Int.ediv_lt_iff_lt_mul (by omega), Int.mul_comm]
theorem take_pos {s : List Int} {k : Nat} {d : Int} (h : posS (s.take k)) (hd : s[k]? = some d) (h1 : 1 ≤ d) : posS (s.take (k + 1)) := by
  rw [List.take_add_one, hd, Option.toList_some]
  intro x hx
  rcases List.mem_append.1 hx with h2 | h2
  · exact h x h2
  · rw [List.mem_singleton.1 h2]; exact h1
theorem prod_next {s : List Int} {k : Nat} {d : Int} (hd : s[k]? = some d) : prodS (s.take (k + 1)) = prodS (s.take k) * d := by
  have hk : k < s.length := by
    rcases Nat.lt_or_ge k s.length with g | g
    · exact g
    · rw [List.getElem?_eq_none g] at hd; cases hd
  rw [prodS_take hk, List.getD_eq_getElem?_getD, hd]
  rfl
theorem Cnt.big {s : List Int} {k : Nat} {n e d : Int} (h : Cnt s k n e) (hd : s[k]? = some d) (h1 : 1 ≤ d) (h2 : 1024 / n < d) : Cnt s (k + 1) n 14 := by
  obtain ⟨hp, n1, n2, h3⟩ := h
  refine ⟨take_pos hp hd h1, n1, n2, .inr ⟨rfl, ?_⟩⟩
  rw [prod_next hd]
  rw [quo_lt n1] at h2
  rcases h3 with ⟨_, rfl⟩ | ⟨_, h4⟩
  · exact h2
  · have := Int.mul_le_mul_of_nonneg_left h1 (show 0 ≤ prodS (s.take k) by omega)
    omega
theorem Cnt.next {s : List Int} {k : Nat} {n e d : Int} (h : Cnt s k n e) (hd : s[k]? = some d) (h1 : 1 ≤ d) (h2 : ¬ 1024 / n < d) : Cnt s (k + 1) (n * d) e ∧ 1 ≤ n * d ∧ n * d ≤ 1024 := by
  obtain ⟨hp, n1, n2, h3⟩ := h
  rw [quo_lt n1] at h2
  have h5 : 1 * 1 ≤ n * d := Int.mul_le_mul n1 h1 (by omega) (by omega)
  refine ⟨⟨take_pos hp hd h1, by omega, by omega, ?_⟩, by omega, by omega⟩
  rw [prod_next hd]
  rcases h3 with ⟨h3, rfl⟩ | ⟨h3, h4⟩
  · exact .inl ⟨h3, rfl⟩
  · refine .inr ⟨h3, ?_⟩
    have := Int.mul_le_mul_of_nonneg_left h1 (show 0 ≤ prodS (s.take k) by omega)
    omega
set_option maxRecDepth 100000 in
set_option maxHeartbeats 2000000 in
theorem cnt_any {u : Value} {xs : List Int} {ad : Option Addr} {cap : Nat} {w : World} (A : ArgS w u xs ad cap) :
    Calls Tryz.prog 92 #[u] w fun e w' => e = .returned (.tuple #[.int .i64 (countS xs), .int .i64 (mayC xs)]) ∧ w = w' := by
  have HA := Lib.hid A
  obtain rfl := A.is
  obtain ⟨L, hL⟩ : ∃ L, xs.length = L := ⟨_, rfl⟩
  have HL := Lib.hid hL
  obtain ⟨c, hc⟩ : ∃ c, mayC xs = c := ⟨_, rfl⟩
  have HC := Lib.hid hc
  obtain ⟨t, ht⟩ : ∃ t, countS xs = t := ⟨_, rfl⟩
  have HT := Lib.hid ht
  rw [hL, hc, ht]
  clear A hL hc ht
  by_cases h4 : 4 < L
  · have hm : mayC xs = 14 := mayC_rank (by rw [HL.out]; exact h4)
    obtain rfl : c = 14 := by rw [← HC.out]; exact hm
    obtain rfl : t = 0 := by rw [← HT.out]; exact count_bad (by rw [hm]; decide)
    have h4I : (4 : Int) < (L : Int) := by omega
    clear hm
    go_enter Tryz.func92, Tryz.ntmps92
    go_wp2
    go_step3
    go_wp2
    rw [Exit.noGoto_ret]
    go_ret2
    exact ⟨rfl, rfl⟩
  · have h4I : ¬ (4 : Int) < (L : Int) := by omega
    go_enter Tryz.func92, Tryz.ntmps92
    go_wp2
    go_step3
    go_wp2
    go_step3
    go_wp2
    go_loop [4, 5, 13] (fun n e i => ∃ (k : Nat) (N E : Int), i = .int .i64 (k : Int) ∧ n = .int .i64 N ∧ e = .int .i64 E ∧ k ≤ L ∧ Cnt xs k N E) (fun _ _ i => L - (intOf i).toNat)
    case atStart => exact ⟨0, 1, 0, rfl, rfl, rfl, Nat.zero_le _, Cnt.nil _⟩
    case round =>
      obtain ⟨k, N, E, rfl, rfl, rfl, hkL, hI⟩ := hrel
      obtain ⟨hp, n1, n2, hE⟩ := hI
      by_cases hlt : k < L
      · obtain ⟨b, off, rfl, hc⟩ := HA.out.at (i := k) (by rw [HL.out]; exact hlt)
        have hx : xs[k]? = some (xs.getD k 0) := by rw [List.getD_eq_getElem?_getD, List.getElem?_eq_getElem (by rw [HL.out]; exact hlt)]; rfl
        obtain ⟨x, hxe⟩ : ∃ x, xs.getD k 0 = x := ⟨_, rfl⟩
        rw [hxe] at hc hx
        have HX := Lib.hid hx
        have hltI : (k : Int) < (L : Int) := by omega
        have HI : Hid (Cnt xs k N E) := Lib.hid ⟨hp, n1, n2, hE⟩
        clear hxe hx hp hE
        by_cases h1 : x < 1
        · have hm : mayC xs = 13 := by
            refine mayC_dim (by rw [HL.out]; omega) fun hp => ?_
            have := hp x (List.mem_of_getElem? HX.out)
            omega
          obtain rfl : c = 13 := by rw [← HC.out]; exact hm
          obtain rfl : t = 0 := by rw [← HT.out]; exact count_bad (by rw [hm]; decide)
          clear hm
          go_wp2
          go_ret2
          exact ⟨rfl, rfl⟩
        · by_cases h2 : 1024 / N < x
          · go_wp2
            go_round
            case rel => exact ⟨k + 1, N, 14, by go_num, rfl, rfl, by omega, HI.out.big HX.out (by omega) h2⟩
            case measure => simp [intOf]; omega
          · obtain ⟨hI, m1, m2⟩ := HI.out.next HX.out (by omega) h2
            have hw : wrap64 (N * x) = N * x := by unfold wrap64; omega
            have HJ := Lib.hid hI
            clear hI
            go_wp2
            go_round
            case rel => exact ⟨k + 1, _, E, by go_num, by first | rfl | rw [hw], rfl, by omega, HJ.out⟩
            case measure => simp [intOf]; omega
      · obtain rfl : k = L := by omega
        have hltI : ¬ (k : Int) < (k : Int) := by omega
        rw [List.take_of_length_le (by rw [HL.out]; exact Nat.le_refl _)] at hE hp
        rcases hE with ⟨rfl, hN⟩ | ⟨rfl, hN⟩
        · have ok : OkS xs := ⟨by rw [HL.out]; omega, hp, by omega⟩
          obtain rfl : c = 0 := by rw [← HC.out]; exact mayC_ok ok
          obtain rfl : t = N := by rw [← HT.out, ok.count]; exact hN.symm
          clear hN hp ok
          go_wp2
          go_ret2
          exact ⟨rfl, rfl⟩
        · have hm : mayC xs = 14 := mayC_count (by rw [HL.out]; omega) hp hN
          obtain rfl : c = 14 := by rw [← HC.out]; exact hm
          obtain rfl : t = 0 := by rw [← HT.out]; exact count_bad (by rw [hm]; decide)
          clear hN hp hm
          go_wp2
          go_ret2
          exact ⟨rfl, rfl⟩
set_option maxRecDepth 100000 in
set_option maxHeartbeats 2000000 in
theorem mayS_eq {u : Value} {xs : List Int} {ad : Option Addr} {cap : Nat} {w : World} (A : ArgS w u xs ad cap) :
    Calls Tryz.prog 52 #[u] w fun e w' => e = .returned (.int .i64 (mayC xs)) ∧ w = w' := by
  have h := cnt_any A
  obtain rfl := A.is
  obtain ⟨c, hc⟩ : ∃ c, mayC xs = c := ⟨_, rfl⟩
  obtain ⟨t, ht⟩ : ∃ t, countS xs = t := ⟨_, rfl⟩
  obtain ⟨L, hL⟩ : ∃ L, xs.length = L := ⟨_, rfl⟩
  rw [hc, ht, hL] at h
  rw [hc, hL]
  clear A hc ht hL
  go_enter Tryz.func52, Tryz.ntmps52
  go_wp2_with (go_at_call 92; refine h.mono ?_; rintro e w1 ⟨rfl, rfl⟩)
  go_ret
  exact ⟨rfl, rfl⟩
set_option maxRecDepth 100000 in
set_option maxHeartbeats 2000000 in
theorem countS_eq {u : Value} {xs : List Int} {ad : Option Addr} {cap : Nat} {w : World} (A : ArgS w u xs ad cap) :
    Calls Tryz.prog 93 #[u] w fun e w' => e = .returned (.int .i64 (countS xs)) ∧ w = w' := by
  have h := cnt_any A
  obtain rfl := A.is
  obtain ⟨c, hc⟩ : ∃ c, mayC xs = c := ⟨_, rfl⟩
  obtain ⟨t, ht⟩ : ∃ t, countS xs = t := ⟨_, rfl⟩
  obtain ⟨L, hL⟩ : ∃ L, xs.length = L := ⟨_, rfl⟩
  rw [hc, ht, hL] at h
  rw [ht, hL]
  clear A hc ht hL
  go_enter Tryz.func93, Tryz.ntmps93
  go_wp2_with (go_at_call 92; refine h.mono ?_; rintro e w1 ⟨rfl, rfl⟩)
  go_ret
  exact ⟨rfl, rfl⟩
theorem mayS_any {u : Value} {xs : List Int} {ad : Option Addr} {cap : Nat} {w : World} (A : ArgS w u xs ad cap) (hx : xs.length ≤ 17592186044416) :
    Calls Tryz.prog 52 #[u] w fun e w' => e = .returned (.int .i64 (mayC xs)) ∧ Below w.heap.size w w' :=
  (mayS_eq A).mono fun _ _ ⟨h1, h2⟩ => ⟨h1, h2 ▸ Below.refl _ _⟩
end
end Go.Proofs.YtooglnhlhgmhdaaGreat
