/-
  Part 18 of 29: contracts and what they rest on (RNorm, ICode2, GConcat).
-/
import Derived.Test.YtjgiacghlkkjfaaGreatDoorF1
import Derived.Test.YtjgiacghlkkjfaaGreatDoorF2
import Derived.Test.YtjgiacghlkkjfaaGreatDoorF3
import Derived.Test.YtjgiacghlkkjfaaGreatDoorF4
import Derived.Test.YtjgiacghlkkjfaaGreatDoorF5
import Derived.Test.YtjgiacghlkkjfaaGreatDoorF6
import Derived.Test.YtjgiacghlkkjfaaGreatDoorF7
import Derived.Test.YtjgiacghlkkjfaaGreatDoorF8
import Derived.Test.YtjgiacghlkkjfaaGreatDoorF9
import Derived.Test.YtjgiacghlkkjfaaGreatDoorF10
import Derived.Test.YtjgiacghlkkjfaaGreatDoorF11
import Derived.Test.YtjgiacghlkkjfaaGreatDoorF12
import Derived.Test.YtjgiacghlkkjfaaGreatDoorF13
import Derived.Test.YtjgiacghlkkjfaaGreatDoorF14
import Derived.WalkKit
import Derived.Test.YtjgiacghlkkjfaaGreatDoorRows
import Derived.OrdersHeld
import Derived.Deep.RegionHeld
import Derived.BigQuiet
import Derived.Deep.QuietTactic
import Derived.Lib.Hide
import Derived.Lib.Small
import Derived.Lib.Walk
import Derived.Lib.BitFns
import Derived.Maps.AppendAt
import Derived.RangeFuncNested
import Derived.RangeFuncBound
import Derived.RangeFuncCalls
import Derived.RangeFuncLeaves
import Derived.Shelf.Abstract
import Derived.OwnWalkIn
import Derived.TacticsInMore
import Derived.LoopNIn
import Derived.LoopIn
import Derived.RangeFuncBox
import Derived.Deep.RegionHeld3
import Derived.OrdersIn
import Derived.StillTailTactics
import Derived.RangeFuncFrom
import Derived.Laws.EntriesVeiled
import Derived.ProofKit
import Derived.OpenShut
import Derived.JoinedCond
import Derived.Carry
import Derived.Laws.AppendOwnNone
import Derived.Lib.ItoaNum
import Derived.Deep.RegionLaw
import Derived.WalkMore
import Derived.Lib.SmallJoins
import Derived.IntWalk
import Derived.Deep.DeepCutAuto
import Derived.Laws.OwnMore
import Derived.ArgAppend
import Derived.Deep.Slices
import Derived.Laws.CopyOwn
import Derived.Lib.SliceRun
import Derived.SizedLaws
import Derived.Great.BuildSlice
import Derived.Defers
import Derived.Recover
import Derived.Shelf.Small.Wraps
import Derived.Shelf.Strconv.Itoa3
import Derived.Shelf.Strconv.AtoiAll
import Derived.Laws.RangeAny
import Derived.Lib.AppendZerosOnto
namespace Go.Proofs.YtjgiacghlkkjfaaGreatDoor
set_option maxRecDepth 100000
section
open Go.RowKit
set_option linter.unusedVariables false
set_option linter.unusedSimpArgs false
theorem ArgQ.box {w : World} {v : Value} {X : Rat} {n : Nat} (h : ArgQ w v X n) : ∃ (neg : Bool) (xs ys : List Int) (ad bd : Option Addr) (ca cb : Nat), v = .agg #[.bool neg, .slice ad xs.length ca, .slice bd ys.length cb] := by
  obtain ⟨neg, xs, ys, ad, bd, ca, cb, rfl, _⟩ := h
  exact ⟨neg, xs, ys, ad, bd, ca, cb, rfl⟩
set_option maxRecDepth 100000 in
set_option maxHeartbeats 2000000 in
theorem plain_any {n : Nat} {w : World} {v : Value} {X : Rat} (h : ArgQ w v X n) (hn : n ≤ 2147483648) :
    Calls Tryz.prog 156 #[v] w fun e w' => ∃ r, e = .returned r ∧ PlainQ w' r X (n + 2) ∧ Below w.heap.size w w' := by
  obtain ⟨neg, xs, ys, a1, a2, c1, c2, rfl, A, B, hX, hx, hy⟩ := h
  obtain ⟨W, hW⟩ : ∃ W, ((w.alloc (.cells #[.bool neg, .slice a1 xs.length c1, .slice a2 ys.length c2] 93)).alloc (.cells #[.bool false, .slice none 0 0, .slice none 0 0] 93)) = W := ⟨_, rfl⟩
  have R0 : Row W (w.heap.size) 93 #[.bool neg, .slice a1 xs.length c1, .slice a2 ys.length c2] := by rw [← hW]; exact ((Row.new _ _ _).alloc _)
  have R1 : Row W (w.heap.size + 1) 93 #[.bool false, .slice none 0 0, .slice none 0 0] := by rw [← hW]; have h := (Row.new (w.alloc (.cells #[.bool neg, .slice a1 xs.length c1, .slice a2 ys.length c2] 93)) 93 #[.bool false, .slice none 0 0, .slice none 0 0]); simp only [World.size_alloc] at h; exact h
  have hBW : Below w.heap.size w W := by rw [← hW]; exact (((Below.refl _ _).alloc (by (try simp) <;> omega) _).alloc (by (try simp) <;> omega) _)
  have hsW : w.heap.size + 1 + 1 ≤ W.heap.size := by rw [← hW]; simp
  have A' := A.later hBW
  have B' := B.later hBW
  obtain ⟨e0, e1, e2, _, _, _⟩ := R0.three
  have hb1 := bits_res A' (by omega) (bitsN_is A.wf)
  have hp1 := bits_pos A.wf
  have hb2 := bits_res B' (by omega) (bitsN_is B.wf)
  have hp2 := bits_pos B.wf
  have h01 := val_nonneg A.wf
  have h02 := val_nonneg B.wf
  obtain ⟨m1, hm1⟩ : ∃ m, bitsN xs = m := ⟨_, rfl⟩
  obtain ⟨m2, hm2⟩ : ∃ m, bitsN ys = m := ⟨_, rfl⟩
  rw [hm1] at hb1 hp1
  rw [hm2] at hb2 hp2
  clear hm1 hm2
  by_cases z1 : val xs = 0
  · have hX0 : X = 0 := by rw [← hX, z1]; exact ratOf_zero_left _ _
    have HX := Lib.hid hX0
    have d1 : ((m1 : Int) == 0) = true := by obtain rfl : m1 = 0 := by omega
                                             rfl
    clear hX hX0 z1 hp1 hp2 h01 h02
    go_enter Tryz.func156, Tryz.ntmps156
    go_wp2_with fail
    refine hb1.mono ?_
    rintro e w' ⟨rfl, rfl⟩
    clear hb1 hb2
    go_wp2_with fail
    refine (int_any 0 _ (by omega) (by omega)).mono ?_
    rintro e w2 ⟨r2, rfl, q2, hb2⟩
    have P2 := q2.plain
    obtain ⟨neg', us, vs, b1, b2, k1, k2, rfl⟩ := q2.arg.box
    have R1' := R1.later hb2
    clear e0 e1 e2 hW
    obtain ⟨u0, u1, u2, g0, g1, g2⟩ := R1'.three
    go_wp2_with fail
    refine bodyPost_ret (v := .agg #[.bool neg', .slice b1 us.length k1, .slice b2 vs.length k2]) (by simp [results, Tryz.results156, go_sem, u0, u1, u2]) rfl ⟨_, rfl, ?_, below_set3 (hBW.trans (hb2.mono (by omega))) (by omega) _ _ _⟩
    rw [HX.out, ← intQ_zero]
    exact (P2.far R1' (noInts3 _ _ _ _ _ _ _) (kept3 _ _ _)).more (by omega)
  · by_cases z2 : val ys = 0
    · have hX0 : X = 0 := by rw [← hX, z2]; exact ratOf_zero_right _ _
      have HX := Lib.hid hX0
      have d1 : ((m1 : Int) == 0) = false := by simp; omega
      have d2 : ((m2 : Int) == 0) = true := by obtain rfl : m2 = 0 := by omega
                                               rfl
      clear hX hX0 z1 z2 hp1 hp2 h01 h02
      go_enter Tryz.func156, Tryz.ntmps156
      go_wp2_with fail
      refine hb1.mono ?_
      rintro e w' ⟨rfl, rfl⟩
      clear hb1
      go_wp2_with fail
      refine hb2.mono ?_
      rintro e w' ⟨rfl, rfl⟩
      clear hb2
      go_wp2_with fail
      refine (int_any 0 _ (by omega) (by omega)).mono ?_
      rintro e w2 ⟨r2, rfl, q2, hb2⟩
      have P2 := q2.plain
      obtain ⟨neg', us, vs, b1, b2, k1, k2, rfl⟩ := q2.arg.box
      have R1' := R1.later hb2
      clear e0 e1 e2 hW
      obtain ⟨u0, u1, u2, g0, g1, g2⟩ := R1'.three
      go_wp2_with fail
      refine bodyPost_ret (v := .agg #[.bool neg', .slice b1 us.length k1, .slice b2 vs.length k2]) (by simp [results, Tryz.results156, go_sem, u0, u1, u2]) rfl ⟨_, rfl, ?_, below_set3 (hBW.trans (hb2.mono (by omega))) (by omega) _ _ _⟩
      rw [HX.out, ← intQ_zero]
      exact (P2.far R1' (noInts3 _ _ _ _ _ _ _) (kept3 _ _ _)).more (by omega)
    · have HX := Lib.hid hX
      have d1 : ((m1 : Int) == 0) = false := by simp; omega
      have d2 : ((m2 : Int) == 0) = false := by simp; omega
      have hpos : 0 < val ys := by omega
      have hn0 : val xs = 0 → neg = false := fun h => absurd h z1
      clear hX z1 z2 hp1 hp2 h01 h02
      obtain ⟨u0, u1, u2, g0, g1, g2⟩ := R1.three
      have HN := Lib.hid hn0
      clear hn0
      go_enter Tryz.func156, Tryz.ntmps156
      go_wp2_with fail
      refine hb1.mono ?_
      rintro e w' ⟨rfl, rfl⟩
      clear hb1
      go_wp2_with fail
      refine hb2.mono ?_
      rintro e w' ⟨rfl, rfl⟩
      clear hb2 hW
      go_wp2_with fail
      refine bodyPost_ret (v := .agg #[.bool neg, .slice a1 xs.length c1, .slice a2 ys.length c2]) (by simp [results, Tryz.results156, go_sem, u0, u1, u2]) rfl ⟨_, rfl, ?_, below_set3 hBW (by omega) _ _ _⟩
      exact ⟨neg, xs, ys, a1, a2, c1, c2, rfl, A'.far R1 (noInts3 _ _ _ _ _ _ _) (kept3 _ _ _), B'.far R1 (noInts3 _ _ _ _ _ _ _) (kept3 _ _ _), HX.out, by omega, by omega, hpos, HN.out⟩
set_option maxRecDepth 100000 in
set_option maxHeartbeats 1000000 in
theorem side_any {w : World} {g : Nat} {xs gs : List Int} {a1 gd : Option Addr} {c1 gc : Nat} (G : w.cell? ⟨g, 0, none⟩ = some (.slice gd gs.length gc)) (Ag : Arg w (.slice gd gs.length gc) gs gd gc)
    (A : Arg w (.slice a1 xs.length c1) xs a1 c1) (hpos : 0 < val gs) (hx : xs.length ≤ 134217728) (hg : gs.length ≤ 134217728) :
    Calls Tryz.prog 219 #[.slice a1 xs.length c1, .pointer (some ⟨g, 0, none⟩)] w fun e w' => ∃ r zs, e = .returned r ∧ Res w.heap.size w' r zs (val xs / val gs) ∧ zs.length ≤ xs.length ∧ Below w.heap.size w w' := by
  go_enter Tryz.func219, Tryz.ntmps219
  go_wp2_with fail
  refine (div_any A Ag hx hg hpos).mono ?_
  rintro e w2 ⟨r2, s2, rfl, hb2, ⟨z2, q2, l2⟩, _⟩
  clear G
  go_wp2_with fail
  go_ret
  exact ⟨r2, z2, rfl, q2, l2, hb2⟩
set_option maxRecDepth 100000 in
set_option maxHeartbeats 4000000 in
theorem bothNorm_any {w : World} {g : Nat} {neg : Bool} {xs ys gs : List Int} {a1 a2 gd : Option Addr} {c1 c2 gc : Nat} (G : w.cell? ⟨g, 0, none⟩ = some (.slice gd gs.length gc)) (Ag : Arg w (.slice gd gs.length gc) gs gd gc)
    (A : Arg w (.slice a1 xs.length c1) xs a1 c1) (B : Arg w (.slice a2 ys.length c2) ys a2 c2) (hpos : 0 < val gs) (hx : xs.length ≤ 134217728) (hy : ys.length ≤ 134217728) (hg : gs.length ≤ 134217728) :
    Calls Tryz.prog 218 #[.agg #[.bool neg, .slice a1 xs.length c1, .slice a2 ys.length c2], .func (.func 219) #[] #[.pointer (some ⟨g, 0, none⟩)]] w fun e w' => ∃ r, e = .returned r ∧ ∃ (us vs : List Int) (b1 b2 : Option Addr) (k1 k2 : Nat), r = .agg #[.bool neg, .slice b1 us.length k1, .slice b2 vs.length k2] ∧
      Res w.heap.size w' (.slice b1 us.length k1) us (val xs / val gs) ∧ Res w.heap.size w' (.slice b2 vs.length k2) vs (val ys / val gs) ∧ us.length ≤ xs.length ∧ vs.length ≤ ys.length ∧ Below w.heap.size w w' := by
  have hgl := World.block_lt_of_cell? w _ G
  obtain ⟨W, hW⟩ : ∃ W, ((w.alloc (.cells #[.bool neg, .slice a1 xs.length c1, .slice a2 ys.length c2] 93)).alloc (.cells #[.bool false, .slice none 0 0, .slice none 0 0] 93)) = W := ⟨_, rfl⟩
  have R0 : Row W (w.heap.size) 93 #[.bool neg, .slice a1 xs.length c1, .slice a2 ys.length c2] := by rw [← hW]; exact ((Row.new _ _ _).alloc _)
  have R1 : Row W (w.heap.size + 1) 93 #[.bool false, .slice none 0 0, .slice none 0 0] := by rw [← hW]; have h := (Row.new (w.alloc (.cells #[.bool neg, .slice a1 xs.length c1, .slice a2 ys.length c2] 93)) 93 #[.bool false, .slice none 0 0, .slice none 0 0]); simp only [World.size_alloc] at h; exact h
  have hBW : Below w.heap.size w W := by rw [← hW]; exact (((Below.refl _ _).alloc (by (try simp) <;> omega) _).alloc (by (try simp) <;> omega) _)
  have hsW : w.heap.size + 1 + 1 ≤ W.heap.size := by rw [← hW]; simp
  have mkS : ∀ X, Below (w.heap.size + 1) W X → X.cell? ⟨w.heap.size, 0, none⟩ = some (.bool neg) ∧ X.cell? ⟨w.heap.size, 1, none⟩ = some (.slice a1 xs.length c1) ∧ X.cell? ⟨w.heap.size, 2, none⟩ = some (.slice a2 ys.length c2) ∧ Below w.heap.size w X ∧ Below (w.heap.size + 1) W X := fun X h => ⟨(R0.below h (by omega)).cell 0, (R0.below h (by omega)).cell 1, (R0.below h (by omega)).cell 2, hBW.trans (h.mono (by omega)), h⟩
  go_enter Tryz.func218, Tryz.ntmps218
  go_wp2_with fail
  clear hW
  go_region_held3 (fun X => X.cell? ⟨w.heap.size, 0, none⟩ = some (.bool neg) ∧ X.cell? ⟨w.heap.size, 1, none⟩ = some (.slice a1 xs.length c1) ∧ X.cell? ⟨w.heap.size, 2, none⟩ = some (.slice a2 ys.length c2) ∧ Below w.heap.size w X ∧ Below (w.heap.size + 1) W X)
    (((refine mkS _ ?_; (repeat' (first | exact Below.refl _ _ | refine Below.drew ?_ | refine Below.alloc ?_ (by (try simp) <;> omega) _ | refine below_set3 ?_ (by (try simp) <;> omega) _ _ _ | refine below_set2 ?_ (by (try simp) <;> omega) _ _ | refine Below.setCell ?_ (by (try simp) <;> omega) _ | refine Below.trans ?_ (Below.mono (by assumption) (by (try simp) <;> omega)))))))
    ((first
      | (have HB : Below w.heap.size w _ := (‹_ ∧ _ ∧ _ ∧ Below w.heap.size w _ ∧ _›).2.2.2.1; go_at_call 219; first
        | ((with_reducible refine (side_any (((HB).cell (p := ⟨g, 0, none⟩) hgl).trans G) (Ag.later HB) (A.later HB) hpos (by omega) (by omega)).mono ?_); rintro e w2 ⟨r2, z2, rfl, q2, l2, hb2⟩; have hs2 := hb2.size; (try simp at hs2); obtain ⟨ad2, cp2, rfl, q2, A2⟩ := q2.slice; clear HB)
        | ((with_reducible refine (side_any (((HB).cell (p := ⟨g, 0, none⟩) hgl).trans G) (Ag.later HB) (B.later HB) hpos (by omega) (by omega)).mono ?_); rintro e w3 ⟨r3, z3, rfl, q3, l3, hb3⟩; clear HB; have hs3 := hb3.size; (try simp at hs3); obtain ⟨ad3, cp3, rfl, q3, A3⟩ := q3.slice; replace q2 := q2.later hb3; have R1' := R1.later (show Below W.heap.size W w3 by (repeat' (first | exact Below.refl _ _ | refine Below.drew ?_ | refine Below.alloc ?_ (by (try simp) <;> omega) _ | refine below_set3 ?_ (by (try simp) <;> omega) _ _ _ | refine below_set2 ?_ (by (try simp) <;> omega) _ _ | refine Below.setCell ?_ (by (try simp) <;> omega) _ | refine Below.trans ?_ (Below.mono (by assumption) (by (try simp) <;> omega))))); obtain ⟨u0, u1, u2, g0, g1, g2⟩ := R1'.three))))
  go_wp2_with fail
  refine bodyPost_ret (v := .agg #[.bool neg, .slice ad2 z2.length cp2, .slice ad3 z3.length cp3]) (by simp [results, Tryz.results218, go_sem, u0, u1, u2]) rfl ⟨_, rfl, z2, z3, ad2, ad3, cp2, cp3, rfl, ?_, ?_, l2, l3, ?_⟩
  · exact (q2.far R1' (by decide) (kept3 _ _ _)).mono (by (try simp) <;> omega)
  · exact (q3.far R1' (by decide) (kept3 _ _ _)).mono (by (try simp) <;> omega)
  · (repeat' (first | exact Below.refl _ _ | exact hBW | refine Below.drew ?_ | refine Below.alloc ?_ (by (try simp) <;> omega) _ | refine below_set3 ?_ (by (try simp) <;> omega) _ _ _ | refine below_set2 ?_ (by (try simp) <;> omega) _ _ | refine Below.setCell ?_ (by (try simp) <;> omega) _ | refine Below.trans ?_ (Below.mono (by assumption) (by (try simp) <;> omega))))
set_option maxRecDepth 100000 in
set_option maxHeartbeats 4000000 in
theorem norm_any {n : Nat} {w : World} {v : Value} {X : Rat} (h : ArgQ w v X n) (hn : n ≤ 67108864) :
    Calls Tryz.prog 174 #[v] w fun e w' => ∃ r, e = .returned r ∧ ResQ w.heap.size w' r X (n + 2) ∧ Below w.heap.size w w' := by
  obtain ⟨neg0, xs0, ys0, e1, e2, k1, k2, rfl⟩ := h.box
  obtain ⟨W, hW⟩ : ∃ W, ((w.alloc (.cells #[.bool neg0, .slice e1 xs0.length k1, .slice e2 ys0.length k2] 93)).alloc (.cells #[.bool false, .slice none 0 0, .slice none 0 0] 93)) = W := ⟨_, rfl⟩
  have R0 : Row W (w.heap.size) 93 #[.bool neg0, .slice e1 xs0.length k1, .slice e2 ys0.length k2] := by rw [← hW]; exact ((Row.new _ _ _).alloc _)
  have R1 : Row W (w.heap.size + 1) 93 #[.bool false, .slice none 0 0, .slice none 0 0] := by rw [← hW]; have h := (Row.new (w.alloc (.cells #[.bool neg0, .slice e1 xs0.length k1, .slice e2 ys0.length k2] 93)) 93 #[.bool false, .slice none 0 0, .slice none 0 0]); simp only [World.size_alloc] at h; exact h
  have hBW : Below w.heap.size w W := by rw [← hW]; exact (((Below.refl _ _).alloc (by (try simp) <;> omega) _).alloc (by (try simp) <;> omega) _)
  have hsW : w.heap.size + 1 + 1 ≤ W.heap.size := by rw [← hW]; simp
  have h' := h.later hBW
  obtain ⟨t0, t1, t2, f0, f1, f2⟩ := R0.three
  have hmf : ∀ (fn : Fn) (first cap : Array Value) (w : World), (Instr.makeFunc fn first cap).run Tryz.prog w = .ok (.func fn first cap) w := fun _ _ _ _ => rfl
  go_enter Tryz.func174, Tryz.ntmps174
  go_wp2_with fail
  refine (plain_any h' (by omega)).mono ?_
  rintro e w1 ⟨r1, rfl, hp, hb1⟩
  have hs1 := hb1.size
  replace R0 := R0.later hb1
  replace R1 := R1.later hb1
  clear t0 t1 t2 f0 f1 f2 hW h h'
  obtain ⟨neg, xs, ys, a1, a2, c1, c2, rfl, A, B, hX, hx, hy, hpos, hn0⟩ := hp
  obtain ⟨t0, t1, t2, f0, f1, f2⟩ := R0.three
  obtain ⟨V, hV⟩ : ∃ V, ((w1.setCell ⟨w.heap.size, 0, none⟩ (.bool neg)).setCell ⟨w.heap.size, 1, none⟩ (.slice a1 xs.length c1)).setCell ⟨w.heap.size, 2, none⟩ (.slice a2 ys.length c2) = V := ⟨_, rfl⟩
  have hBV : Below w.heap.size w V := by rw [← hV]; exact below_set3 (hBW.trans (hb1.mono (by omega))) (by omega) _ _ _
  have hsV : w.heap.size + 1 + 1 ≤ V.heap.size := by rw [← hV]; simp; omega
  have AV : Arg V (.slice a1 xs.length c1) xs a1 c1 := by rw [← hV]; exact A.far R0 (noInts3 _ _ _ _ _ _ _) (kept3 _ _ _)
  have BV : Arg V (.slice a2 ys.length c2) ys a2 c2 := by rw [← hV]; exact B.far R0 (noInts3 _ _ _ _ _ _ _) (kept3 _ _ _)
  have Q0 : Row V (w.heap.size) 93 #[.bool neg, .slice a1 xs.length c1, .slice a2 ys.length c2] := by rw [← hV]; exact R0.set3 _ _ _
  have Q1 : Row V (w.heap.size + 1) 93 #[.bool false, .slice none 0 0, .slice none 0 0] := by rw [← hV]; exact ((R1.far (by simp <;> omega) _).far (by simp <;> omega) _).far (by simp <;> omega) _
  obtain ⟨p0, p1, p2, _, _, _⟩ := Q0.three
  have h0 := val_nonneg A.wf
  have e1 := ratOf_neg h0 hpos hn0
  have e2 := ratOf_abs (n := neg) h0 hpos
  have e3 := ratOf_den (n := neg) (A := val xs) hpos
  have hgp : 0 < (Int.gcd (val xs) (val ys) : Int) := gcd_pos_right hpos
  rw [hX] at e1 e2 e3
  have E1 := Lib.hid e1
  have E2 := Lib.hid e2
  have E3 := Lib.hid e3
  clear e1 e2 e3 hX hn0 R0 R1 A B hb1 hs1
  go_wp2_with fail
  refine (gcd_any AV BV (by omega) (by omega)).mono ?_
  rintro e w2 ⟨r2, gs, rfl, q2, l2, hb2⟩
  have hs2 := hb2.size
  obtain ⟨gd, gc, rfl, q2, Ag⟩ := q2.slice
  have q2e := q2.eq
  have hgs : 0 < val gs := by rw [q2e]; exact hgp
  have QE := Lib.hid q2e
  clear q2e hgp t0 t1 t2 f0 f1 f2 hV p0 p1 p2
  obtain ⟨U, hU⟩ : ∃ U, (w2.alloc (.cells #[.slice none 0 0] 91)).setCell ⟨w2.heap.size, 0, none⟩ (.slice gd gs.length gc) = U := ⟨_, rfl⟩
  have hBU : Below w2.heap.size w2 U := by rw [← hU]; exact ((Below.refl _ _).alloc (by simp) _).setCell (by simp) _
  have hB2 : Below w.heap.size w U := (hBV.trans (hb2.mono (by omega))).trans (hBU.mono (by omega))
  have hsU : U.heap.size = w2.heap.size + 1 := by rw [← hU]; simp
  have G : U.cell? ⟨w2.heap.size, 0, none⟩ = some (.slice gd gs.length gc) := by
    rw [← hU]; exact ((Row.new w2 91 #[.slice none 0 0]).set 0 _).cell 0
  obtain ⟨p0, p1, p2, _, _, _⟩ := ((Q0.later hb2).later hBU).three
  replace Q1 := (Q1.later hb2).later hBU
  have AU := (AV.later hb2).later hBU
  have BU := (BV.later hb2).later hBU
  have AgU := Ag.later hBU
  obtain ⟨pa, pb, pc, _, _, _⟩ := (Q0.later hb2).three
  go_wp2_with fail
  refine (bothNorm_any G AgU AU BU hgs (by omega) (by omega) (by omega)).mono ?_
  rintro e w3 ⟨r3, rfl, us, vs, b1, b2, j1, j2, rfl, q3, q4, l3, l4, hb3⟩
  have hs3 := hb3.size
  replace Q1 := Q1.later hb3
  obtain ⟨u0, u1, u2, g0, g1, g2⟩ := Q1.three
  clear p0 p1 p2 pa pb pc G
  go_wp2_with fail
  refine bodyPost_ret (v := .agg #[.bool neg, .slice b1 us.length j1, .slice b2 vs.length j2]) (by simp [results, Tryz.results174, go_sem, u0, u1, u2]) rfl ⟨_, rfl, ⟨us, vs, b1, b2, j1, j2, by rw [E1.out], ?_, ?_, by omega, by omega⟩, below_set3 (hB2.trans (hb3.mono (by omega))) (by omega) _ _ _⟩
  · rw [E2.out, ← QE.out]
    exact (q3.far Q1 (by decide) (kept3 _ _ _)).mono (by omega)
  · rw [E3.out, ← QE.out]
    exact (q4.far Q1 (by decide) (kept3 _ _ _)).mono (by omega)
end
section
open Go.RowKit
set_option linter.unusedVariables false
set_option linter.unusedSimpArgs false
set_option maxRecDepth 100000 in
set_option maxHeartbeats 8000000 in
theorem areAlike_any {o : Int} {xs : List Int} {ls : List (List Int)} {a2 al : Option Addr} {c2 cl : Nat} {w : World} (A : ArgS w (.slice a2 xs.length c2) xs a2 c2) (na : a2 = none → c2 = 0) (hx : xs.length ≤ 1000) (L : RowL w (.slice al ls.length cl) ls al cl) (ok : ∀ x ∈ ls, OkS x) (hl : ls.length ≤ 1000) (h0 : 0 < ls.length) : Calls Tryz.prog 184 #[.agg #[.int .i64 o, .slice a2 xs.length c2, .slice al ls.length cl]] w fun e w' => e = .returned (.bool (likeB xs ls)) ∧ Below w.heap.size w w' := by
  have H0 := Lib.hid h0
  obtain ⟨c, hc⟩ : ∃ c, likeB xs ls = c := ⟨_, rfl⟩
  rw [hc]
  have HC := Lib.hid hc
  have HNA := Lib.hid na
  have HA := Lib.hid A
  have HL := Lib.hid L
  have HOK := Lib.hid ok
  obtain ⟨m, hm⟩ : ∃ m, xs.length = m := ⟨_, rfl⟩
  obtain ⟨k, hk⟩ : ∃ k, ls.length = k := ⟨_, rfl⟩
  have HM := Lib.hid hm
  have HK := Lib.hid hk
  rw [hm] at hx ⊢
  rw [hk] at hl ⊢
  obtain ⟨W, hW⟩ : ∃ W, w.alloc (.cells #[.int .i64 o, .slice a2 m c2, .slice al k cl] 189) = W := ⟨_, rfl⟩
  have R0 : Row W w.heap.size 189 #[.int .i64 o, .slice a2 m c2, .slice al k cl] := by rw [← hW]; exact Row.new _ _ _
  have hbW : Below w.heap.size w W := by rw [← hW]; exact (Below.refl _ _).alloc (Nat.le_refl _) _
  obtain ⟨k0, k1, k2, _, _, _⟩ := R0.three
  clear A L ok hm hk hc h0 na
  have hk1 : 0 < k := by rw [← HK.out]; exact H0.out
  obtain ⟨b, o0, ax, cx, rfl, hbl, hcx, hAx, hnx⟩ := (HL.out.later hbW).at (i := 0) (by rw [HK.out]; omega)
  rw [Nat.add_zero] at hcx
  have okx := HOK.out _ (shp_in (i := 0) (by rw [HK.out]; omega))
  have hrk := okx.rank
  obtain ⟨lx, hlx⟩ : ∃ l, (shpI ls 0).length = l := ⟨_, rfl⟩
  obtain ⟨t0, ht0⟩ : ∃ l, onesS (shpI ls 0) xs = l := ⟨_, rfl⟩
  have HT0 := Lib.hid ht0
  have hlr : t0.length = lx := by rw [← ht0, ones_len, hlx]
  have HLR := Lib.hid hlr
  have hon := fun X (hX : Below W.heap.size W X) => onesC_any (hAx.later hX) (HA.out.later (hbW.trans (hX.mono hbW.size))) hnx HNA.out (by omega) (by rw [HM.out]; omega)
  rw [ht0, hlx, HM.out] at hon
  have HON := Lib.hid hon
  rw [hlx] at hcx hrk
  have MK := Lib.hid (show ∀ X, Below W.heap.size W X → (fun X => X.cell? ⟨w.heap.size, 1, none⟩ = some (.slice a2 m c2) ∧ X.cell? ⟨w.heap.size, 2, none⟩ = some (.slice (some ⟨b, o0, none⟩) k cl) ∧ X.cell? ⟨b, o0, none⟩ = some (.slice ax lx cx)) X from fun X h => by
    obtain ⟨g0, g1, g2, _⟩ := (R0.later h).three
    exact ⟨g1, g2, (h.cell hbl).trans hcx⟩)
  have B0 : Below W.heap.size W W.drew := (Below.refl _ _).drew
  have hR0 := Lib.hid R0
  clear hon hlx ht0 hlr hAx okx R0 k0 k1 k2
  go_enter Tryz.func184, Tryz.ntmps184
  (try rw [hW])
  go_wp2_with fail
  (try rw [hW])
  clear hW
  refine wp_region_held_drew (S := fun X => X.cell? ⟨w.heap.size, 1, none⟩ = some (.slice a2 m c2) ∧ X.cell? ⟨w.heap.size, 2, none⟩ = some (.slice (some ⟨b, o0, none⟩) k cl) ∧ X.cell? ⟨b, o0, none⟩ = some (.slice ax lx cx)) (by kernel_rfl) (MK.out _ B0) (fun hHeld => ?_)
  obtain ⟨y0, hdrh⟩ : ∃ Y, W.drew = Y := ⟨_, rfl⟩
  rw [hdrh] at B0 hHeld ⊢
  clear hdrh
  refine todo [0, 1, 2, 3, 4, 5] ?_
  iterate 6
   refine todoH (v := ?_) rfl (by kernel_rfl) (fun _ _ _ h => h) (by assumption) (Or.inl ⟨by rfl, ?_⟩) ?_
   rotate_left
   · intro w hSw; (try dsimp only at hSw); go_simp; (try with_reducible rfl)
   try simp only [Act.put, List.getElem_toArray, List.getElem_cons_succ, List.getElem_cons_zero, List.setIfInBounds_toArray, List.set_cons_zero, List.set_cons_succ]
  refine todone ?_
  refine wpAnyH_ready (rs := [6]) (by kernel_rfl) (by simp) ?_
  refine AllReadyH.cons rfl (fun K hK => ?sh_6) AllReadyH.nil
  go_simp
  refine (HON.out _ B0).mono ?_
  rintro e y1 ⟨r, rfl, hr, hy⟩
  have B1 : Below W.heap.size W y1 := B0.trans (hy.mono B0.size)
  have Dh1 := hy
  clear hy
  obtain ⟨ar, cr, rfl, hr2⟩ := res_slice11 hr
  rw [HLR.out] at hr2 ⊢
  have HR := Lib.hid hr2
  clear hr hr2
  go_simp
  refine hK.out _ _ (MK.out _ B1) (fun hHeld2 => ?mh_6)
  clear hK K hHeld
  have hHeld := hHeld2
  clear hHeld2
  try simp only [Act.put, List.getElem_toArray, List.getElem_cons_succ, List.getElem_cons_zero, List.setIfInBounds_toArray, List.set_cons_zero, List.set_cons_succ]
  refine todo [7] ?_
  iterate 1
   refine todoH (v := ?_) rfl (by kernel_rfl) (fun _ _ _ h => h) (by assumption) (Or.inl ⟨by rfl, ?_⟩) ?_
   rotate_left
   · intro w hSw; (try dsimp only at hSw); go_simp; (try with_reducible rfl)
   try simp only [Act.put, List.getElem_toArray, List.getElem_cons_succ, List.getElem_cons_zero, List.setIfInBounds_toArray, List.set_cons_zero, List.set_cons_succ]
  refine todone ?_
  refine wpAnyH_done (by kernel_rfl) ?_ _
  (try dsimp only [Straight])
  obtain ⟨k0, k1, k2, _, _, _⟩ := (hR0.out.later B1).three
  clear hHeld
  go_wp2_with fail
  go_loopw [5, 16] (fun _ i wi => ∃ j : Nat, i = .int .i64 (j : Int) ∧ j ≤ k ∧ Hid (∀ y ∈ ls.take j, onesS y xs = t0) ∧ Below y1.heap.size y1 wi) (fun _ i _ => k - (intOf i).toNat)
  case atStart => exact ⟨0, rfl, Nat.zero_le _, Lib.hid (fun y hy => by simp at hy), Below.refl _ _⟩
  case round =>
    rename World => wi
    obtain ⟨j, rfl, hj, hall, hbi⟩ := hrel
    have bWi : Below W.heap.size W wi := B1.trans (hbi.mono B1.size)
    clear k0 k1 k2
    obtain ⟨k0, k1, k2, _, _, _⟩ := (hR0.out.later bWi).three
    by_cases hlt : j < k
    · have hltI : (j : Int) < (k : Int) := by omega
      have hj0 : (0 : Int) ≤ (j : Int) := by omega
      obtain ⟨b', o', ay, cy, he, hbl', hcy, hAy, hny⟩ := (HL.out.later (hbW.trans (bWi.mono hbW.size))).at (i := j) (by rw [HK.out]; exact hlt)
      cases he
      have oky := HOK.out _ (shp_in (i := j) (by rw [HK.out]; exact hlt))
      have hry := oky.rank
      obtain ⟨ly, hly⟩ : ∃ l, (shpI ls j).length = l := ⟨_, rfl⟩
      have hon := onesC_any hAy (HA.out.later (hbW.trans (bWi.mono hbW.size))) hny HNA.out (by omega) (by rw [HM.out]; omega)
      rw [hly, HM.out] at hon
      rw [hly] at hcy hry
      obtain ⟨t1, ht1⟩ : ∃ l, onesS (shpI ls j) xs = l := ⟨_, rfl⟩
      have hlr1 : t1.length = ly := by rw [← ht1, ones_len, hly]
      rw [ht1] at hon
      have HON1 := Lib.hid hon
      have HLR1 := Lib.hid hlr1
      have HT1 := Lib.hid ht1
      clear hon hly ht1 hlr1 hAy oky
      go_wp2_with fail
      refine HON1.out.mono ?_
      rintro e w2 ⟨r, rfl, hr, hy⟩
      obtain ⟨ar1, cr1, rfl, hr2⟩ := res_slice11 hr
      rw [HLR1.out] at hr2
      (try rw [HLR1.out])
      have hq1 := hr2.at_
      have hq0 := (HR.out.later (hbi.trans (hy.mono hbi.size))).at_
      have hss := sameS_any hq1.2.1 hq0.2.1 hq1.2.2 hq0.2.2 (by rw [HLR1.out]; omega) (by rw [HLR.out]; omega)
      obtain ⟨q, hq⟩ : ∃ q, decide (t1 = t0) = q := ⟨_, rfl⟩
      rw [hq] at hss
      have HQ := Lib.hid hq
      have HSS := Lib.hid hss
      have hb3 : Below y1.heap.size y1 w2 := hbi.trans (hy.mono hbi.size)
      clear hr hr2 hq1 hq0 hss hq hcy hy k0 k1 k2
      go_wp2_with fail
      refine HSS.out.mono ?_
      rintro e w3 ⟨rfl, hy⟩
      have hb4 : Below y1.heap.size y1 w3 := hb3.trans (hy.mono hb3.size)
      clear hy
      cases q with
      | true =>
        go_wp2_with fail
        go_roundw
        case rel =>
          refine ⟨j + 1, by go_num, by omega, Lib.hid fun y hy => ?_, hb4⟩
          rw [List.take_add_one, shp_some (by rw [HK.out]; exact hlt)] at hy
          rcases List.mem_append.1 hy with hy | hy
          · exact hall.out y hy
          · have e : y = shpI ls j := by simpa using hy
            rw [e, HT1.out]
            exact of_decide_eq_true HQ.out
        case measure => simp [intOf]; omega
      | false =>
        obtain rfl : c = false := by
          rw [← HC.out]
          cases hl : likeB xs ls with
          | false => rfl
          | true =>
            have h5 := of_decide_eq_true (List.all_eq_true.1 hl _ (shp_in (i := j) (by rw [HK.out]; exact hlt)))
            rw [HT1.out, HT0.out] at h5
            have h6 := HQ.out
            rw [decide_eq_true h5] at h6
            cases h6
        go_wp2_with fail
        (try rw [Exit.noGoto_ret])
        go_ret
        exact ⟨rfl, hbW.trans ((B1.trans (hb4.mono B1.size)).mono hbW.size)⟩
    · obtain rfl : j = k := by omega
      obtain rfl : c = true := by
        rw [← HC.out]
        unfold likeB
        rw [List.all_eq_true]
        intro y hy
        rw [HT0.out]
        exact decide_eq_true (hall.out y (by rw [List.take_of_length_le (by rw [HK.out]; exact Nat.le_refl _)]; exact hy))
      go_wp2_with fail
      go_ret
      exact ⟨rfl, hbW.trans (bWi.mono hbW.size)⟩
theorem trS_take {x p : List Int} {i : Nat} (hi : i < p.length) : (p.take (i + 1)).map (fun n : Int => x.getD n.toNat 0) = (p.take i).map (fun n : Int => x.getD n.toNat 0) ++ [x.getD (p.getD i 0).toNat 0] := by
  rw [List.take_add_one, List.getElem?_eq_getElem hi, List.map_append, getD_elem hi]
  rfl
set_option maxRecDepth 100000 in
set_option maxHeartbeats 8000000 in
theorem permuted_any {o : Int} {xs : List Int} {ls : List (List Int)} {a2 al : Option Addr} {c2 cl : Nat} {w : World} (A : ArgS w (.slice a2 xs.length c2) xs a2 c2) (na : a2 = none → c2 = 0) (hx : xs.length ≤ 1000) (L : RowL w (.slice al ls.length cl) ls al cl) (ok : ∀ x ∈ ls, OkS x) (hl : ls.length ≤ 1000) (h0 : 0 < ls.length) (hp : ∀ n ∈ xs, 0 ≤ n ∧ n < (shpI ls 0).length) :
    Calls Tryz.prog 187 #[.agg #[.int .i64 o, .slice a2 xs.length c2, .slice al ls.length cl]] w fun e w' => ∃ r, e = .returned r ∧ ResS w.heap.size w' r (trS (shpI ls 0) xs) ∧ Below w.heap.size w w' := by
  have H0 := Lib.hid h0
  obtain ⟨res, hres⟩ : ∃ c, trS (shpI ls 0) xs = c := ⟨_, rfl⟩
  rw [hres]
  have HRES := Lib.hid hres
  have HNA := Lib.hid na
  have HP := Lib.hid hp
  have HA := Lib.hid A
  have HL := Lib.hid L
  have HOK := Lib.hid ok
  obtain ⟨m, hm⟩ : ∃ m, xs.length = m := ⟨_, rfl⟩
  obtain ⟨k, hk⟩ : ∃ k, ls.length = k := ⟨_, rfl⟩
  have HM := Lib.hid hm
  have HK := Lib.hid hk
  rw [hm] at hx ⊢
  rw [hk] at hl ⊢
  obtain ⟨W, hW⟩ : ∃ W, w.alloc (.cells #[.int .i64 o, .slice a2 m c2, .slice al k cl] 189) = W := ⟨_, rfl⟩
  have R0 : Row W w.heap.size 189 #[.int .i64 o, .slice a2 m c2, .slice al k cl] := by rw [← hW]; exact Row.new _ _ _
  have hbW : Below w.heap.size w W := by rw [← hW]; exact (Below.refl _ _).alloc (Nat.le_refl _) _
  obtain ⟨k0, k1, k2, _, _, _⟩ := R0.three
  clear A L ok hm hk hres h0 na hp
  have hk1 : 0 < k := by rw [← HK.out]; exact H0.out
  have hk1I : (0 : Int) < (k : Int) := by omega
  have okx := HOK.out _ (shp_in (i := 0) (by rw [HK.out]; omega))
  have hrk := okx.rank
  obtain ⟨lx, hlx⟩ : ∃ l, (shpI ls 0).length = l := ⟨_, rfl⟩
  have HLX := Lib.hid hlx
  have hmk := make_runH m m (Nat.le_refl _) (by omega)
  rw [hlx] at hrk
  have hR0 := Lib.hid R0
  have hwres : Wid res := by
    rw [← HRES.out]
    intro y hy
    unfold trS at hy
    obtain ⟨n, hn, rfl⟩ := List.mem_map.1 hy
    have hn2 := HP.out n hn
    have h1 := okx.pos.getD (i := n.toNat) (by omega)
    have h2 := getD_le_prod okx.pos (k := n.toNat) (by omega)
    have h3 := okx.few
    omega
  have HWR := Lib.hid hwres
  obtain ⟨v0, v1, v2, _, _, _⟩ := (R0.alloc (.cells (madeCells #[.int .i64 0] m) 3)).three
  clear hlx R0 okx hwres
  go_enter Tryz.func187, Tryz.ntmps187
  (try rw [hW])
  go_wp2_with fail
  clear v0 v1 v2
  obtain ⟨V, hV⟩ : ∃ V, W.alloc (.cells (madeCells #[.int .i64 0] m) 3) = V := ⟨_, rfl⟩
  have bV : Below W.heap.size W V := by rw [← hV]; exact (Below.refl _ _).alloc (Nat.le_refl _) _
  have hRA : PartS V W.heap.size m (List.replicate m 0) := by
    have h := BlkS.made W m
    rw [← hV]
    exact ⟨_, h, by simp, by simp, by simp⟩
  have HRA := Lib.hid hRA
  (try rw [hV])
  (try rw [hW])
  clear hmk hRA hV hW k0 k1 k2
  obtain ⟨k0, k1, k2, _, _, _⟩ := (hR0.out.later bV).three
  go_loopw [4, 5, 13] (fun _ _ i wi => ∃ j : Nat, i = .int .i64 (j : Int) ∧ j ≤ m ∧ PartS wi W.heap.size m (((xs.take j).map fun n : Int => (shpI ls 0).getD n.toNat 0) ++ List.replicate (m - j) 0) ∧ Below W.heap.size W wi) (fun _ _ i _ => m - (intOf i).toNat)
  case atStart => exact ⟨0, rfl, Nat.zero_le _, by simpa using HRA.out, bV⟩
  case round =>
    rename World => wi
    obtain ⟨j, rfl, hj, hP, hbi⟩ := hrel
    have HPP := Lib.hid hP
    clear k0 k1 k2
    obtain ⟨k0, k1, k2, _, _, _⟩ := (hR0.out.later hbi).three
    have hlj : ((xs.take j).map fun n : Int => (shpI ls 0).getD n.toNat 0).length = j := by rw [List.length_map, List.length_take, HM.out]; omega
    by_cases hlt : j < m
    · have hltI : (j : Int) < (m : Int) := by omega
      have hj0 : (0 : Int) ≤ (j : Int) := by omega
      obtain ⟨ba, oa, rfl, hca⟩ := (HA.out.later (hbW.trans (hbi.mono hbW.size))).at (i := j) (by rw [HM.out]; exact hlt)
      obtain ⟨n, hn⟩ : ∃ n, xs.getD j 0 = n := ⟨_, rfl⟩
      have hnr := HP.out n (by rw [← hn, getD_elem (by rw [HM.out]; exact hlt)]; exact List.getElem_mem _)
      rw [HLX.out] at hnr
      rw [hn] at hca
      obtain ⟨b, o0, ax, cx, rfl, hbl, hcx, hAx, hnx⟩ := (HL.out.later (hbW.trans (hbi.mono hbW.size))).at (i := 0) (by rw [HK.out]; omega)
      rw [Nat.add_zero, HLX.out] at hcx
      obtain ⟨nn, rfl⟩ : ∃ q : Nat, n = (q : Int) := ⟨n.toNat, by omega⟩
      obtain ⟨bx, ox, rfl, hcd⟩ := hAx.at (i := nn) (by rw [HLX.out]; omega)
      obtain ⟨d, hd⟩ : ∃ d, (shpI ls 0).getD nn 0 = d := ⟨_, rfl⟩
      rw [hd] at hcd
      have hnl : (nn : Int) < (lx : Int) := by omega
      have hf := hP.free j
      have hck := hP.cell j (by rw [List.length_append, hlj, List.length_replicate]; omega)
      have hP1 := hP.set j (by rw [List.length_append, hlj, List.length_replicate]; omega) d
      rw [set_midS hlj hlt] at hP1
      have hnx2 : ((xs.take (j + 1)).map fun n : Int => (shpI ls 0).getD n.toNat 0) = ((xs.take j).map fun n : Int => (shpI ls 0).getD n.toNat 0) ++ [d] := by
        rw [trS_take (by rw [HM.out]; exact hlt), hn, ← hd]
        rfl
      rw [← hnx2] at hP1
      have HP1 := Lib.hid hP1
      have hb2 : Below W.heap.size W (wi.setCell ⟨W.heap.size, j, none⟩ (.int .i64 d)) := hbi.setCell (Nat.le_refl _) _
      clear hP hn hAx hlj hd hP1 hnx2
      go_wp2_with fail
      go_roundw
      case rel => exact ⟨j + 1, by go_num, by omega, HP1.out, hb2⟩
      case measure => simp [intOf]; omega
    · obtain rfl : j = m := by omega
      have hltI : ¬ (j : Int) < (j : Int) := by omega
      clear hP
      go_wp2_with fail
      go_ret
      have hp := HPP.out
      rw [Nat.sub_self, List.replicate_zero, List.append_nil, List.take_of_length_le (by rw [HM.out]; exact Nat.le_refl _)] at hp
      have hp2 : PartS wi W.heap.size j res := by rw [← HRES.out]; exact hp
      have hn := hp2.num (Nat.le_refl _) (by unfold maxLen; omega)
      have hrl : res.length = j := by rw [← HRES.out]; unfold trS; rw [List.length_map, HM.out]
      rw [hrl] at hn
      exact ⟨_, rfl, ⟨hn.mono hbW.size, HWR.out⟩, hbW.trans (hbi.mono hbW.size)⟩
theorem catD_bound {a : Nat} {l : List (List Int)} (h : ∀ x ∈ l, OkS x ∧ a < x.length) : (l.length : Int) ≤ catD a l ∧ catD a l ≤ 1024 * l.length := catD_pos fun y hy => by
  obtain ⟨h1, h2⟩ := h y hy
  have h3 := getD_le_prod h1.pos h2
  have h4 := h1.few
  exact ⟨h1.pos.getD h2, by omega⟩
set_option maxRecDepth 100000 in
set_option maxHeartbeats 40000000 in
theorem joined_call {o : Int} {xs : List Int} {ls : List (List Int)} {a2 al : Option Addr} {c2 cl : Nat} {w : World} (A : ArgS w (.slice a2 xs.length c2) xs a2 c2) (na : a2 = none → c2 = 0) (hx : xs.length ≤ 1000) (L : RowL w (.slice al ls.length cl) ls al cl) (ok : ∀ x ∈ ls, OkS x) (hl : ls.length ≤ 1000) {a : Nat} (h0 : 0 < ls.length) (hx0 : 0 < xs.length) (hxa : xs.getD 0 0 = (a : Int)) (hax : ∀ y ∈ ls, a < y.length) :
    Calls Tryz.prog 192 #[.agg #[.int .i64 o, .slice a2 xs.length c2, .slice al ls.length cl]] w fun e w' => ∃ r, e = .returned r ∧ ResS w.heap.size w' r (catS a ls) ∧ Below w.heap.size w w' := by
  have H0 := Lib.hid h0
  obtain ⟨res, hres⟩ : ∃ c, catS a ls = c := ⟨_, rfl⟩
  rw [hres]
  have HRES := Lib.hid hres
  have HXA := Lib.hid hxa
  have HX := Lib.hid (show ∀ y ∈ ls, OkS y ∧ a < y.length from fun y hy => ⟨ok y hy, hax y hy⟩)
  have HA := Lib.hid A
  have HL := Lib.hid L
  have HOK := Lib.hid ok
  obtain ⟨m, hm⟩ : ∃ m, xs.length = m := ⟨_, rfl⟩
  obtain ⟨k, hk⟩ : ∃ k, ls.length = k := ⟨_, rfl⟩
  have HM := Lib.hid hm
  have HK := Lib.hid hk
  rw [hm] at hx ⊢
  rw [hk] at hl ⊢
  obtain ⟨W, hW⟩ : ∃ W, w.alloc (.cells #[.int .i64 o, .slice a2 m c2, .slice al k cl] 189) = W := ⟨_, rfl⟩
  have R0 : Row W w.heap.size 189 #[.int .i64 o, .slice a2 m c2, .slice al k cl] := by rw [← hW]; exact Row.new _ _ _
  have hbW : Below w.heap.size w W := by rw [← hW]; exact (Below.refl _ _).alloc (Nat.le_refl _) _
  obtain ⟨k0, k1, k2, _, _, _⟩ := R0.three
  rw [hm] at hx0
  clear A L ok hm hk hres h0 hxa hax
  have hk1 : 0 < k := by rw [← HK.out]; exact H0.out
  have hk1I : (0 : Int) < (k : Int) := by omega
  have hm1I : (0 : Int) < (m : Int) := by omega
  have hx0m := HX.out _ (shp_in (i := 0) (by rw [HK.out]; omega))
  have hrk := hx0m.1.rank
  obtain ⟨x0, hx0e⟩ : ∃ x, shpI ls 0 = x := ⟨_, rfl⟩
  have HX0 := Lib.hid hx0e
  rw [hx0e] at hrk hx0m
  obtain ⟨ba, oa, rfl, hca⟩ := (HA.out.later hbW).at (i := 0) (by rw [HM.out]; exact hx0)
  rw [HXA.out, Nat.add_zero] at hca
  obtain ⟨b, o0, ax, cx, rfl, hbl, hcx, hAx, hnx⟩ := (HL.out.later hbW).at (i := 0) (by rw [HK.out]; omega)
  rw [Nat.add_zero, hx0e] at hcx
  rw [hx0e] at hAx
  have hcap : k ≤ cl := by rw [← HK.out]; exact HL.out.2.1
  have hcln := cloneS_any hAx hnx (by omega)
  have hI1 : (1 : Int) ≤ (k : Int) := by omega
  have hIc : (k : Int) ≤ (cl : Int) := by omega
  have hR0 := Lib.hid R0
  obtain ⟨lx, hlx⟩ : ∃ l, x0.length = l := ⟨_, rfl⟩
  have HLX := Lib.hid hlx
  rw [hlx] at hrk hcx hcln
  clear hx0e R0 hAx hlx
  go_enter Tryz.func192, Tryz.ntmps192
  (try rw [hW])
  go_upto_region 3 with (go_at_call 96; (try rw [hW]); refine hcln.mono ?_; rintro e w1 ⟨r, rfl, RC, hb1⟩; obtain ⟨ar, cr, rfl, IL, hlc, nl, wl⟩ := RC.idx)
  (try rw [hW])
  clear hW
  rw [HLX.out] at hlc
  (try rw [HLX.out])
  have HIL := Lib.hid IL
  have HWL := Lib.hid wl
  have HB1 := Lib.hid hb1
  clear IL wl RC hcln nl k0 k1 k2 hcx hca
  obtain ⟨k0, k1, k2, _, _, _⟩ := (hR0.out.later hb1).three
  go_cut [18, 19, 20] (fun s18 s19 s20 wx => ∃ (adf : Option Addr) (capf : Nat), s18 = .slice adf (k - 1) capf ∧ s19 = .int .i64 ((k - 1 : Nat) : Int) ∧ s20 = .int .i64 0 ∧ (k ≤ 1 ∨ adf = some ⟨b, o0 + 1, none⟩) ∧ wx = w1)
  case first =>
    rcases (show (cl = 1 ∧ k = 1) ∨ 1 < cl by omega) with ⟨rfl, rfl⟩ | hc1
    · go_wp2_with fail
      all_goals (go_meet; refine ⟨_, _, rfl, rfl, rfl, .inl (Nat.le_refl _), rfl⟩)
    · have hc1I : (1 : Int) < (cl : Int) := by omega
      go_wp2_with fail
      all_goals (go_meet; refine ⟨some ⟨b, o0 + 1, none⟩, cl - 1, ?_, ?_, rfl, .inr rfl, rfl⟩ <;> first | rfl | (simp; omega))
  case rest =>
    obtain ⟨adf, capf, rfl, rfl, rfl, hadf, rfl⟩ := hcut
    have HADF := Lib.hid hadf
    obtain ⟨NM, hNM⟩ : ∃ n, k - 1 = n := ⟨_, rfl⟩
    have hnm1 : NM + 1 ≤ k ∧ k ≤ NM + 1 := by omega
    rw [hNM]
    clear hadf hNM k0 k1 k2
    go_wp2_with fail
    go_loopw [6, 20] (fun _ i wr => ∃ (j : Nat) (zs : List Int), i = .int .i64 (j : Int) ∧ j ≤ NM ∧ IdxP W.heap.size wr ar cr zs ∧ zs = x0.set a (catD a (ls.take (j + 1))) ∧ Below W.heap.size W wr) (fun _ i _ => NM - (intOf i).toNat)
    case atStart => exact ⟨0, _, rfl, Nat.zero_le _, HIL.out, by
      rw [List.take_add_one, shp_some (by rw [HK.out]; omega), HX0.out]
      simp only [List.take_zero, List.nil_append, Option.toList, catD, Int.add_zero]
      exact set_self9.symm, HB1.out⟩
    case round =>
      obtain ⟨j, zs, rfl, hj, hI, hzs, hb⟩ := hrel
      have hsz := hb.size
      have HZS := Lib.hid hzs
      have hlz : zs.length = lx := by rw [hzs, List.length_set, HLX.out]
      have HLZ := Lib.hid hlz
      have HI := Lib.hid hI
      have HB := Lib.hid hb
      have hax0 : a < lx := by rw [← HLX.out]; exact hx0m.2
      clear hzs
      by_cases hlt : j < NM
      · have hltI : (j : Int) < (NM : Int) := by omega
        obtain rfl := HADF.out.resolve_left (by omega)
        obtain ⟨b', o', ay, cy, e', hbl', c0, hAy, hny⟩ := (HL.out.later (hbW.trans (hb.mono hbW.size))).at (i := j + 1) (by rw [HK.out]; omega)
        cases e'
        rw [show o0 + (j + 1) = o0 + 1 + j by omega] at c0
        have hmx := HX.out _ (shp_in (i := j + 1) (by rw [HK.out]; omega))
        obtain ⟨x, hxe⟩ : ∃ x, shpI ls (j + 1) = x := ⟨_, rfl⟩
        rw [hxe] at c0 hAy hmx
        have HXE := Lib.hid hxe
        obtain ⟨bx, ox, rfl, c2⟩ := hAy.at (i := a) hmx.2
        obtain ⟨d, hd⟩ : ∃ d, x.getD a 0 = d := ⟨_, rfl⟩
        rw [hd] at c2
        have hpre : ∀ y ∈ ls.take (j + 1), OkS y ∧ a < y.length := fun y hy => HX.out y (List.mem_of_mem_take hy)
        have hbd := catD_bound hpre
        rw [List.length_take, HK.out] at hbd
        have hd3 := hmx.1.pos.getD hmx.2
        have hd4 := getD_le_prod hmx.1.pos hmx.2
        have hd5 := hmx.1.few
        rw [hd] at hd3 hd4
        obtain ⟨gl, rfl, hgB, hmax, hP⟩ := hI.at (i := a) (by rw [hlz]; exact hax0)
        have cz := hP.cell a (by rw [hlz]; exact hax0)
        have hzv : zs.getD a 0 = catD a (ls.take (j + 1)) := by rw [HZS.out]; exact getD_set_self _ _ _ hx0m.2
        obtain ⟨z, hz⟩ : ∃ z, catD a (ls.take (j + 1)) = z := ⟨_, rfl⟩
        rw [hz] at hzv hbd
        rw [hzv] at cz
        have hmin : min (j + 1) k = j + 1 := by omega
        rw [hmin] at hbd
        have wy : IntKind.i64.wrap (z + d) = z + d := IntWalk.i64_in _ (by omega)
        have hnx2 : zs.set a (z + d) = x0.set a (catD a (ls.take (j + 1 + 1))) := by
          rw [HZS.out, set_set9, List.take_add_one (l := ls) (i := j + 1), shp_some (by rw [HK.out]; omega), HXE.out, Option.toList_some, catD_snoc, hz, hd]
        have HNX := Lib.hid hnx2
        have ha0 : (a : Int) < (lx : Int) := by omega
        obtain ⟨ly, hly⟩ : ∃ l, x.length = l := ⟨_, rfl⟩
        rw [hly] at c0 hmx
        have haxI : (a : Int) < (ly : Int) := by have := hmx.2; omega
        have hfd0 := hP.free a
        have hgl := hP.lt
        have hfd : wr.drew.frozen? ⟨gl, a, none⟩ = false := hP.free a
        have HP2 := Lib.hid hP
        have hS0 : wr.drew.cell? ⟨gl, a, none⟩ = some (.int .i64 z) ∧ wr.drew.cell? ⟨bx, ox + a, none⟩ = some (.int .i64 d) := ⟨cz, c2⟩
        clear hI hb hAy hd hz hzv hnx2 hP cz c2 hpre hfd0 hly hmx hd3 hd4 hd5
        go_wp2_with fail
        clear c0
        refine wp_region_L (S := fun Y => Y.cell? ⟨gl, a, none⟩ = some (.int .i64 z) ∧ Y.cell? ⟨bx, ox + a, none⟩ = some (.int .i64 d)) (z := 10) (by kernel_rfl) hS0 (fun hHeld => ?_)
        refine todo [0, 1, 2, 3, 4, 5, 6, 7, 8, 9] ?_
        iterate 10
         refine todoL (v := ?_) rfl (by kernel_rfl) (fun _ _ _ h => h) (by assumption) (Or.inl ⟨by rfl, ?_⟩) ?_
         rotate_left
         · intro w hSw; (try dsimp only at hSw); go_simp; (try with_reducible rfl)
         try simp only [Act.put, List.getElem_toArray, List.getElem_cons_succ, List.getElem_cons_zero, List.setIfInBounds_toArray, List.set_cons_zero, List.set_cons_succ]
        refine todone ?_
        refine wpAnyL_one (i := 10) (by kernel_rfl) rfl (fun K hK => ?sbj_10)
        go_simp
        refine hK.out _ _ (fun h => absurd rfl h) (fun _ => ?mbj_10)
        clear hK K
        try simp only [Act.put, List.getElem_toArray, List.getElem_cons_succ, List.getElem_cons_zero, List.setIfInBounds_toArray, List.set_cons_zero, List.set_cons_succ]
        refine wpAnyL_done (by kernel_rfl) ?_ _
        go_wp2_with fail
        go_roundw
        case rel =>
          exact ⟨j + 1, _, by go_num, by omega, .inr ⟨gl, rfl, hgB, hmax, PartS.set (show PartS wr.drew gl cr zs from HP2.out) a (by rw [HLZ.out]; exact hax0) (z + d)⟩, HNX.out, setBelow (HB.out.drew) hgB _ _⟩
        case measure => simp [intOf]; omega
      · obtain rfl : j = NM := by omega
        have hltI : ¬ (j : Int) < (j : Int) := by omega
        have hzr : zs = res := by
          rw [HZS.out, ← HRES.out]
          unfold catS
          rw [List.take_of_length_le (by rw [HK.out]; omega), HX0.out]
        have hwd : Wid zs := by
          have hb5 := catD_bound HX.out
          rw [HK.out] at hb5
          rw [HZS.out]
          intro y hy
          rcases List.mem_or_eq_of_mem_set hy with h | rfl
          · exact HWL.out y h
          · rw [List.take_of_length_le (by rw [HK.out]; omega)]
            omega
        have hR := HI.out.res hwd
        rw [HLZ.out, hzr] at hR
        have HRR := Lib.hid (hR.mono hbW.size)
        clear hI hzr hwd hR
        go_wp2_with fail
        go_ret
        exact ⟨_, rfl, HRR.out, hbW.trans (hb.mono hbW.size)⟩
end
section
open Go.RowKit
set_option linter.unusedVariables false
set_option linter.unusedSimpArgs false
/-- parts that are put together: how many structs, and their cells -/
def PartsG (k : Nat) (w : World) (g : Nat) (L : List (Nat × List Value)) : Prop :=
  ∀ (i n : Nat) (xs : List Value), L[i]? = some (n, xs) → ∃ ad cap, w.cell? ⟨g, i, none⟩ = some (.slice ad n cap) ∧ (ad = none → cap = 0) ∧ n ≤ cap ∧ xs.length = n * k ∧ (∀ a, ad = some a → ∀ j u, xs[j]? = some u → w.cell? (a.add j) = some u) ∧ ∀ u ∈ xs, u.oneCell' = true
theorem PartsG.later {k : Nat} {w w' : World} {g : Nat} {L : List (Nat × List Value)} (h : PartsG k w g L) (hb : Below w.heap.size w w') : PartsG k w' g L := by
  intro i n xs hi
  obtain ⟨ad, cap, h1, h2, h3, h4, h5, h6⟩ := h i n xs hi
  exact ⟨ad, cap, oldCell h1 hb, h2, h3, h4, fun a e j u hj => oldCell (h5 a e j u hj) hb, h6⟩
def sumG (L : List (Nat × List Value)) : Nat := (L.map (·.1)).sum
def flatG (L : List (Nat × List Value)) : List Value := (L.map (·.2)).flatten
theorem sumG_take {L : List (Nat × List Value)} {i n : Nat} {xs : List Value} (h : L[i]? = some (n, xs)) : sumG (L.take (i + 1)) = sumG (L.take i) + n ∧ flatG (L.take (i + 1)) = flatG (L.take i) ++ xs := by
  unfold sumG flatG
  rw [take_nextN h]
  simp
theorem sumG_le {L : List (Nat × List Value)} (i : Nat) : sumG (L.take i) ≤ sumG L := by
  have h : sumG L = sumG (L.take i) + sumG (L.drop i) := by
    unfold sumG
    rw [← List.sum_append, ← List.map_append, List.take_append_drop]
  omega
set_option maxRecDepth 100000 in
set_option maxHeartbeats 2000000 in
theorem growS_any (n : Nat) (w : World) (hn : n ≤ 1000000) :
    Calls Tryz.prog 176 #[.slice none 0 0, .int .i64 (n : Int)] w fun e w' => ∃ v, e = .returned v ∧ w'.ownsRow w.heap.size 43 1 v 0 [] ∧ Below w.heap.size w w' := by
  obtain ⟨i0, hi, hz0, hz1, hz2⟩ := info_parts infoShape13
  rcases Nat.eq_zero_or_pos n with rfl | hpos
  · go_enter Tryz.func176, Tryz.ntmps176
    go_wp2
    go_ret
    exact ⟨_, rfl, World.ownsRow_nil _ _ _ _, Below.refl _ _⟩
  · have hrz : ∀ ty, (Builtin.append_ #[36, 3] ty #[.slice none 0 0, .int .i64 (n : Int)]).run Tryz.prog w =
        .ok (.slice (some ⟨w.heap.size, 0, none⟩) n (grownCap w n 0 43)) (w.drew.alloc (.cells (([] : List Value).toArray ++ Builtin.zeroCells (.slice none 0 0 : Value).cells n ++ Builtin.zeroCells (.slice none 0 0 : Value).cells (grownCap w n 0 43 - n)) 43)) := fun ty => by
      have h := Lib.run_append_grow_zeros w 36 3 ty 43 i0 (.slice none 0 0) .i64 .i64 Tryz.underlying36 Tryz.underlying3 hi hz0 none 0 0 [] (run_firstCells_none w.drew i0.size 0 0 0) n (by omega) (by rw [hz1]; omega) (by omega) (by omega)
        (by rw [hz2]; omega) (by rw [Nat.zero_add]; exact growslice_fits (by omega) (by rw [hz2]; omega))
      simpa using h
    have hG1 : n ≤ grownCap w n 0 43 := grownCap_ge w _ _ _
    have hG2 : grownCap w n 0 43 ≤ maxLen := grownCap_le_maxLen w n 0 43 (by unfold maxLen; omega)
    obtain ⟨G, hG⟩ : ∃ G, G = grownCap w n 0 43 := ⟨_, rfl⟩
    rw [← hG] at hrz hG1 hG2
    have HG := Lib.hid hG2
    have hG63 : (G : Int) ≤ 9223372036854775807 := by unfold maxLen at hG2; omega
    have hGn : (n : Int) ≤ (G : Int) := by omega
    have hnp : (0 : Int) < (n : Int) := by omega
    have hn2 : (n : Int) ≤ 140737488355328 := by omega
    clear hG hG2
    go_enter Tryz.func176, Tryz.ntmps176
    go_wp2_with (at_builtin; refine Lib.wpList_append_run _ rfl _ _ _ _ rfl _ _ rfl rfl _ _ (hrz _) ?_)
    go_ret
    refine ⟨_, rfl, ?_, (Below.refl _ w).drew.alloc (Nat.le_refl _) _⟩
    refine ⟨rfl, .inr ⟨w.heap.size, G, _, rfl, Nat.le_refl _, heap_alloc_new _ _, Nat.zero_le _, HG.out, ?_, ?_⟩⟩
    · simp [Builtin.zeroCells, Value.cells]; omega
    · simp
theorem step_joinS {ops : Array Oper} {rest : List Oper} {o : Oper} {a : Act} {w : World} {Q : Exit → Act → World → Prop} (hg : Region.wanted o (yielded ops a.tmps) = true) (s x : Nat)
    (hop : o.op = Op.call { callee := Callee.builtin Builtin.append, args := #[Operand.tmp s, Operand.tmp x], argTypes := #[36, 36] }) {base : Nat} {v : Value} {n m cap : Nat} {xs ys : List Value} {ad : Option Addr}
    (hs : a.eval (.tmp s) = v) (hx : a.eval (.tmp x) = .slice ad m cap) (hv : w.ownsRow base 43 1 v n xs) (hn : ad = none → cap = 0) (hc : m ≤ cap) (hy : ys.length = m * 1) (hA : ∀ a, ad = some a → ∀ j u, ys[j]? = some u → w.cell? (a.add j) = some u) (h1 : ∀ u ∈ ys, u.oneCell' = true) (hl : n + m ≤ 1000000) (hb : base ≤ w.heap.size)
    (h : ∀ v' w1, w1.ownsRow base 43 1 v' (n + m) (xs ++ ys) → Below base w w1 → wpList Tryz.prog ops Q rest (a.put o.dst v') w1) : wpList Tryz.prog ops Q (o :: rest) a w := by
  obtain ⟨i0, hi, hz0, hz1, hz2⟩ := info_parts infoShape13
  refine wpList_step fun K hK => ?_
  rw [if_pos hg]
  cases ad with
  | none =>
    have hc0 := hn rfl
    subst hc0
    obtain rfl : m = 0 := by omega
    have hxs : ys = [] := List.eq_nil_of_length_eq_zero (by omega)
    subst hxs
    have hrun := run_append_owned_none (P := Tryz.prog) (w := w) base 36 o.type 43 i0 1 Tryz.underlying36 hi v n xs hv
    unfold Oper.wp
    simp [execOp, hop, resolve, invoke, builtin, hs, hx, hrun, Result.andThen]
    exact hK _ _ (h _ _ (by rw [List.append_nil]; exact hv) (Below.refl _ _))
  | some ad =>
    obtain ⟨v', w1, hrun, hown, hgrow, _⟩ := run_append_own (P := Tryz.prog) w base 36 o.type 43 i0 (.slice none 0 0) 1 24 Tryz.underlying36 hi hz0 hz1 hz2 rfl (by decide) v n xs hv ad m cap ys hy (hA ad rfl) h1 (by unfold maxLen; omega) (by omega) hb
    unfold Oper.wp
    simp [execOp, hop, resolve, invoke, builtin, hs, hx, hrun, Result.andThen]
    exact hK _ _ (h v' w1 hown ((Below.refl _ w).grown hgrow hb (fun k hk => (World.ownsRow.lt hv k hk).1)))
set_option maxRecDepth 100000 in
set_option maxHeartbeats 4000000 in
theorem concatS_any {L : List (Nat × List Value)} {g : Nat} {w : World} (P : PartsG 1 w g L) (hk : L.length ≤ 1000) (ht : sumG L ≤ 1000000) :
    Calls Tryz.prog 142 #[.slice (some ⟨g, 0, none⟩) L.length L.length] w fun e w' => ∃ r, e = .returned r ∧ w'.ownsRow w.heap.size 43 1 r (sumG L) (flatG L) ∧ Below w.heap.size w w' := by
  obtain ⟨K, hK⟩ : ∃ K, L.length = K := ⟨_, rfl⟩
  have HK := Lib.hid hK
  have HP := Lib.hid P
  have HT := Lib.hid ht
  rw [hK] at hk ⊢
  have hkI : (K : Int) ≤ 1000 := by omega
  clear hK P ht
  go_enter Tryz.func142, Tryz.ntmps142
  go_wp2
  go_loop [3, 11] (fun s i => ∃ k : Nat, i = .int .i64 (k : Int) ∧ k ≤ K ∧ s = .int .i64 (sumG (L.take k) : Int)) (fun _ i => K - (intOf i).toNat)
  case atStart => exact ⟨0, rfl, Nat.zero_le _, rfl⟩
  case round =>
    obtain ⟨k, rfl, hkK, rfl⟩ := hrel
    have hle := sumG_le (L := L) k
    obtain ⟨S, hS⟩ : ∃ S, sumG (L.take k) = S := ⟨_, rfl⟩
    have hSB : (S : Int) ≤ 1000000 := by have := HT.out; omega
    rw [hS]
    by_cases hlt : k < K
    · obtain ⟨⟨m, xs⟩, h0⟩ : ∃ p, L[k]? = some p := ⟨_, List.getElem?_eq_getElem (by rw [HK.out]; exact hlt)⟩
      obtain ⟨ad, cap, h1, _⟩ := HP.out k m xs h0
      have hj := (sumG_take h0).1
      rw [hS] at hj
      have hle2 := sumG_le (L := L) (k + 1)
      have hsum : (S : Int) + (m : Int) ≤ 1000000 := by have := HT.out; omega
      have hws : IntKind.i64.wrap ((S : Int) + (m : Int)) = (S : Int) + (m : Int) := IntWalk.i64_in _ (by omega)
      have hns : ¬ (S : Int) + (m : Int) < 0 := by omega
      have hin : 0 ≤ (k : Int) ∧ (k : Int) < (K : Int) := by omega
      have hltI : (k : Int) < (K : Int) := by omega
      have HJ := Lib.hid hj
      clear hS hj h0
      go_wp2
      go_round
      case rel => exact ⟨k + 1, by go_num, by omega, by rw [HJ.out]; simp⟩
      case measure => simp [intOf]; omega
    · obtain rfl : k = K := by omega
      have hfull : L.take k = L := List.take_of_length_le (by rw [HK.out]; exact Nat.le_refl _)
      have hg := growS_any S w (by omega)
      have HF := Lib.hid hfull
      clear hS hfull
      go_wp2_with (go_at_call 176; refine hg.mono ?_; rintro e w1 ⟨v1, rfl, N1, hb1⟩)
      clear hg
      go_wp2
      go_loopw [6, 27] (fun s i wr => ∃ j : Nat, i = .int .i64 (j : Int) ∧ j ≤ k ∧ wr.ownsRow w.heap.size 43 1 s (sumG (L.take j)) (flatG (L.take j)) ∧ Below w.heap.size w wr) (fun _ i _ => k - (intOf i).toNat)
      case atStart => exact ⟨0, rfl, Nat.zero_le _, N1, hb1⟩
      case round =>
        obtain ⟨j, rfl, hjk, R, hb⟩ := hrel
        have hsz := hb.size
        by_cases hjl : j < k
        · obtain ⟨⟨m, xs⟩, h0⟩ : ∃ p, L[j]? = some p := ⟨_, List.getElem?_eq_getElem (by rw [HK.out]; exact hjl)⟩
          obtain ⟨ad, cap, h1, h2, h3, h4, h5, h6⟩ := (HP.out.later hb) j m xs h0
          have hj := sumG_take h0
          have hle4 := sumG_le (L := L) (j + 1)
          have htot : sumG (L.take j) + m ≤ 1000000 := by rw [← hj.1]; exact Nat.le_trans hle4 HT.out
          have hin : 0 ≤ (j : Int) ∧ (j : Int) < (k : Int) := by omega
          have hltI : (j : Int) < (k : Int) := by omega
          have HJ := Lib.hid hj
          have HR := Lib.hid R
          have HH := Lib.hid (And.intro h2 (And.intro h3 (And.intro h4 (And.intro h5 h6))))
          have HLE := Lib.hid htot
          clear hj h0 R h2 h3 h4 h5 h6 htot
          go_wp2_with (at_builtin; refine step_joinS rfl 31 32 rfl rfl rfl HR.out HH.out.1 HH.out.2.1 HH.out.2.2.1 HH.out.2.2.2.1 HH.out.2.2.2.2 HLE.out hsz ?_; intro v' w2 R2 hb2)
          have HR2 := Lib.hid R2
          clear R2
          go_roundw
          case rel => exact ⟨j + 1, by go_num, by omega, by rw [HJ.out.1, HJ.out.2]; exact HR2.out, hb.trans hb2⟩
          case measure => simp [intOf]; omega
        · obtain rfl : j = k := by omega
          have hnl : ¬ (j : Int) < (j : Int) := by omega
          go_wp2
          go_ret
          exact ⟨_, rfl, by rw [HF.out] at R; exact R, hb⟩
theorem ownsPart {k base n c : Nat} {T : TypeId} {w : World} {a : Option Addr} {xs : List Value} (h : w.ownsRow base T k (.slice a n c) n xs) : (a = none → c = 0) ∧ n ≤ c ∧ xs.length = n * k ∧ ∀ a', a = some a' → ∀ j u, xs[j]? = some u → w.cell? (a'.add j) = some u := by
  obtain ⟨h1, h2⟩ := h
  rcases h2 with ⟨e, rfl⟩ | ⟨g, cap, cur, e, hb, hg, hc, hm, hs, ht⟩
  · simp only [Value.slice.injEq] at e
    obtain ⟨rfl, _, rfl⟩ := e
    exact ⟨fun _ => rfl, Nat.le_refl _, h1, fun a' e => by cases e⟩
  · simp only [Value.slice.injEq] at e
    obtain ⟨rfl, _, rfl⟩ := e
    refine ⟨(fun e => by cases e), hc, h1, fun a' e j u hj => ?_⟩
    obtain rfl := (Option.some.inj e)
    have hjl : j < n * k := by
      rcases Nat.lt_or_ge j xs.length with h | h
      · rw [← h1]; exact h
      · rw [List.getElem?_eq_none h] at hj; cases hj
    have e1 : (cur.toList.take (n * k))[j]? = some u := by rw [ht]; exact hj
    rw [List.getElem?_take, if_pos hjl, Array.getElem?_toList] at e1
    rw [show (⟨g, 0, none⟩ : Addr).add j = ⟨g, j, none⟩ from by unfold Addr.add; split <;> simp_all]
    exact (cell_of_row w g _ cur _ _ hg).trans e1
/-- two rows, put together -/
theorem RowC.cat2 {α : Type} {B k : Nat} {T : TypeId} {Q : World → List Value → α → Prop} {w : World} {a1 a2 : Option Addr} {c1 c2 : Nat} {l1 l2 : List α} (hL : LatC Q) (F1 : RowC B T k Q w (.slice a1 l1.length c1) l1) (F2 : RowC B T k Q w (.slice a2 l2.length c2) l2) (h1 : ∀ c x, Q w c x → ∀ u ∈ c, u.oneCell' = true) :
    ∃ X1 X2 : List Value, (∀ w' g, Below w.heap.size w w' → w'.cell? ⟨g, 0, none⟩ = some (.slice a1 l1.length c1) → w'.cell? ⟨g, 1, none⟩ = some (.slice a2 l2.length c2) → PartsG k w' g [(l1.length, X1), (l2.length, X2)]) ∧
      ∀ w' r base', Below w.heap.size w w' → w'.ownsRow base' T k r (l1.length + l2.length) (X1 ++ X2) → RowC base' T k Q w' r (l1 ++ l2) := by
  obtain ⟨cs1, o1, e1, k1, q1⟩ := F1
  obtain ⟨cs2, o2, e2, k2, q2⟩ := F2
  obtain ⟨p1, p2, p3, p4⟩ := ownsPart o1
  obtain ⟨r1, r2, r3, r4⟩ := ownsPart o2
  have one : ∀ (cs : List (List Value)) (l : List α), cs.length = l.length → (∀ (i : Nat) (c : List Value) (x : α), cs[i]? = some c → l[i]? = some x → Q w c x) → ∀ u ∈ cs.flatten, u.oneCell' = true := by
    intro cs l hl hq u hu
    obtain ⟨c, hc, huc⟩ := List.mem_flatten.1 hu
    obtain ⟨i, hi, he⟩ := List.mem_iff_getElem.1 hc
    exact h1 c l[i] (hq i c l[i] (by rw [List.getElem?_eq_getElem hi, he]) (List.getElem?_eq_getElem (by omega))) u huc
  refine ⟨cs1.flatten, cs2.flatten, fun w' g hb z1 z2 => ?_, fun w' r base' hb ho => ⟨cs1 ++ cs2, ?_, ?_, ?_, ?_⟩⟩
  · intro i n xs hi
    match i, hi with
    | 0, hi =>
      simp only [List.getElem?_cons_zero, Option.some.injEq, Prod.mk.injEq] at hi
      obtain ⟨rfl, rfl⟩ := hi
      exact ⟨a1, c1, z1, p1, p2, p3, fun a e j u hj => oldCell (p4 a e j u hj) hb, one cs1 l1 e1 q1⟩
    | 1, hi =>
      simp only [List.getElem?_cons_succ, List.getElem?_cons_zero, Option.some.injEq, Prod.mk.injEq] at hi
      obtain ⟨rfl, rfl⟩ := hi
      exact ⟨a2, c2, z2, r1, r2, r3, fun a e j u hj => oldCell (r4 a e j u hj) hb, one cs2 l2 e2 q2⟩
    | i + 2, hi => simp at hi
  · rw [List.length_append, List.flatten_append]; exact ho
  · simp [e1, e2]
  · intro c hc
    rcases List.mem_append.1 hc with hc | hc
    · exact k1 c hc
    · exact k2 c hc
  · intro i c x a b
    refine hL _ _ _ _ ?_ hb
    by_cases hlt : i < cs1.length
    · rw [List.getElem?_append_left hlt] at a
      rw [List.getElem?_append_left (by omega)] at b
      exact q1 i c x a b
    · rw [List.getElem?_append_right (by omega)] at a b
      rw [e1] at a
      exact q2 _ c x a b
theorem sum_two13 {n m : Nat} {X Y : List Value} : sumG [(n, X), (m, Y)] = n + m ∧ flatG [(n, X), (m, Y)] = X ++ Y := by
  unfold sumG flatG
  simp
end
end Go.Proofs.YtjgiacghlkkjfaaGreatDoor
