/-
  RatField, for arguments that hold together at most 1048576 values: the law answers true (any three rationals are of a field), and each argument reads behind the call as it read before. No other condition.
-/
import Derived.Test.YtofiebilokhccaaRLaw0
import Derived.Test.YtofiebilokhccaaRVar
import Derived.Test.YtofiebilokhccaaRKnown
import Derived.Deep.DeepCutAuto
namespace Go.Proofs.Ytofiebilokhccaa
open Go.RowKit Go.ChangeShapes Go.WideShapes Go.ChangeAt
set_option linter.unusedVariables false
set_option linter.unusedSimpArgs false
set_option maxRecDepth 100000

theorem Kept.setNew {g : Nat} {a w : World} (h : Kept g a w) {p : Addr} (hp : a.heap.size ≤ p.block) (u : Value) : Kept g a (w.setCell p u) := by
  have hb := (Below.refl 0 w).setCell (Nat.zero_le p.block) u
  exact ⟨hb.os.trans h.os, hb.tape.trans h.tape, hb.output.trans h.output, Nat.le_trans h.size hb.size, fun k hk hg => (Below.heap_setCell w p u k (by omega)).trans (h.block k hk hg)⟩

theorem Row.set3Z {w : World} {g : Nat} {t : TypeId} (h : Row w g t #[.bool false, .slice none 0 0, .slice none 0 0]) (x y z : Value) : Row (((w.setCell ⟨g, 0, none⟩ x).setCell ⟨g, 1, none⟩ y).setCell ⟨g, 2, none⟩ z) g t #[x, y, z] := h.set3 x y z
theorem ArgR.set3Z {w : World} {v : Value} {X : Rat} {n g : Nat} (h : ArgR w v X n) (R : Row w g 34 #[.bool false, .slice none 0 0, .slice none 0 0]) (x y z : Value) : ArgR (((w.setCell ⟨g, 0, none⟩ x).setCell ⟨g, 1, none⟩ y).setCell ⟨g, 2, none⟩ z) v X n :=
  h.far R (noInts3 _ _ _ _ _ _ _) (kept3 _ _ _)
theorem ResQ.set3Z {base : Nat} {w : World} {v : Value} {X : Rat} {n g : Nat} (h : ResQ base w v X n) (R : Row w g 25 #[.bool false, .slice none 0 0, .slice none 0 0]) (x y z : Value) : ResQ base (((w.setCell ⟨g, 0, none⟩ x).setCell ⟨g, 1, none⟩ y).setCell ⟨g, 2, none⟩ z) v X n :=
  h.far R (by decide) (kept3 _ _ _)

theorem signQ_c {n : Nat} {w : World} {u : Value} {X : Rat} {c : Int} (hu : ArgQ w u X n) (hc : sgR X = c) (hn : n ≤ 16777000) :
    Calls Try.prog 40 #[u] w fun e w' => e = .returned (.int .i64 c) ∧ Below w.heap.size w w' := by
  have k := signQ_any hu hn
  rwa [hc] at k
theorem rat_off (x y : Rat) : x + y - y = x := by
  rw [Rat.sub_eq_add_neg, Rat.add_assoc, Rat.add_neg_cancel, Rat.add_zero]
theorem rat_back3 (x y : Rat) (h : y ≠ 0) : x * y / y = x := by
  rw [Rat.div_def, Rat.mul_assoc, Rat.mul_inv_cancel _ h, Rat.mul_one]
theorem sgR_none (x : Rat) : sgR (x + -x) = 0 := by rw [sgR_zero, Rat.add_neg_cancel]

set_option maxRecDepth 100000 in
set_option maxHeartbeats 8000000 in
theorem ratField_walk (neg0 : Bool) (xs0 ds0 : List Int) (a0 b0 : Option Addr) (ca0 cb0 : Nat) (neg1 : Bool) (xs1 ds1 : List Int) (a1 b1 : Option Addr) (ca1 cb1 : Nat) (neg2 : Bool) (xs2 ds2 : List Int) (a2 b2 : Option Addr) (ca2 cb2 : Nat) (w : World) (A0 : Arg w (.slice a0 xs0.length ca0) xs0 a0 ca0) (B0 : Arg w (.slice b0 ds0.length cb0) ds0 b0 cb0) (lx0 : xs0.length ≤ 1048576) (ly0 : ds0.length ≤ 1048576) (nx0 : a0 = none → ca0 = 0) (ny0 : b0 = none → cb0 = 0) (A1 : Arg w (.slice a1 xs1.length ca1) xs1 a1 ca1) (B1 : Arg w (.slice b1 ds1.length cb1) ds1 b1 cb1) (lx1 : xs1.length ≤ 1048576) (ly1 : ds1.length ≤ 1048576) (nx1 : a1 = none → ca1 = 0) (ny1 : b1 = none → cb1 = 0) (A2 : Arg w (.slice a2 xs2.length ca2) xs2 a2 ca2) (B2 : Arg w (.slice b2 ds2.length cb2) ds2 b2 cb2) (lx2 : xs2.length ≤ 1048576) (ly2 : ds2.length ≤ 1048576) (nx2 : a2 = none → ca2 = 0) (ny2 : b2 = none → cb2 = 0) :
    Calls Try.prog 9 #[.agg #[.bool neg0, .slice a0 xs0.length ca0, .slice b0 ds0.length cb0], .agg #[.bool neg1, .slice a1 xs1.length ca1, .slice b1 ds1.length cb1], .agg #[.bool neg2, .slice a2 xs2.length ca2, .slice b2 ds2.length cb2]] w fun e w' => e = .returned (.bool true) ∧ Below w.heap.size w w' := by
  obtain ⟨X0, hX0⟩ : ∃ X, ratOf neg0 (val xs0) (val ds0) = X := ⟨_, rfl⟩
  have Q0 : ArgQ w (.agg #[.bool neg0, .slice a0 xs0.length ca0, .slice b0 ds0.length cb0]) X0 1048576 := ⟨neg0, xs0, ds0, a0, b0, ca0, cb0, rfl, A0, B0, hX0, lx0, ly0⟩
  obtain ⟨X1, hX1⟩ : ∃ X, ratOf neg1 (val xs1) (val ds1) = X := ⟨_, rfl⟩
  have Q1 : ArgQ w (.agg #[.bool neg1, .slice a1 xs1.length ca1, .slice b1 ds1.length cb1]) X1 1048576 := ⟨neg1, xs1, ds1, a1, b1, ca1, cb1, rfl, A1, B1, hX1, lx1, ly1⟩
  obtain ⟨X2, hX2⟩ : ∃ X, ratOf neg2 (val xs2) (val ds2) = X := ⟨_, rfl⟩
  have Q2 : ArgQ w (.agg #[.bool neg2, .slice a2 xs2.length ca2, .slice b2 ds2.length cb2]) X2 1048576 := ⟨neg2, xs2, ds2, a2, b2, ca2, cb2, rfl, A2, B2, hX2, lx2, ly2⟩
  obtain ⟨W, hW⟩ : ∃ W, (((w.alloc (.cells #[.bool neg0, .slice a0 xs0.length ca0, .slice b0 ds0.length cb0] 25)).alloc (.cells #[.bool neg1, .slice a1 xs1.length ca1, .slice b1 ds1.length cb1] 25)).alloc (.cells #[.bool neg2, .slice a2 xs2.length ca2, .slice b2 ds2.length cb2] 25)) = W := ⟨_, rfl⟩
  have R0 : Row W (w.heap.size) 25 #[.bool neg0, .slice a0 xs0.length ca0, .slice b0 ds0.length cb0] := by rw [← hW]; exact (((Row.new _ _ _).alloc _).alloc _)
  have R1 : Row W (w.heap.size + 1) 25 #[.bool neg1, .slice a1 xs1.length ca1, .slice b1 ds1.length cb1] := by rw [← hW]; have h := (Row.new (w.alloc (.cells #[.bool neg0, .slice a0 xs0.length ca0, .slice b0 ds0.length cb0] 25)) 25 #[.bool neg1, .slice a1 xs1.length ca1, .slice b1 ds1.length cb1]); simp only [World.size_alloc] at h; exact (h.alloc _)
  have R2 : Row W (w.heap.size + 1 + 1) 25 #[.bool neg2, .slice a2 xs2.length ca2, .slice b2 ds2.length cb2] := by rw [← hW]; have h := (Row.new ((w.alloc (.cells #[.bool neg0, .slice a0 xs0.length ca0, .slice b0 ds0.length cb0] 25)).alloc (.cells #[.bool neg1, .slice a1 xs1.length ca1, .slice b1 ds1.length cb1] 25)) 25 #[.bool neg2, .slice a2 xs2.length ca2, .slice b2 ds2.length cb2]); simp only [World.size_alloc] at h; exact h
  have hBW : Below w.heap.size w W := by rw [← hW]; exact ((((Below.refl _ _).alloc (by (try simp) <;> omega) _).alloc (by (try simp) <;> omega) _).alloc (by (try simp) <;> omega) _)
  have hsW : w.heap.size + 1 + 1 + 1 ≤ W.heap.size := by rw [← hW]; simp
  have E1 := Lib.hid (Rat.add_comm X0 X1)
  have E2 := Lib.hid (Rat.mul_comm X0 X1)
  have E3 := Lib.hid (Rat.add_assoc X0 X1 X2)
  have E4 := Lib.hid (Rat.mul_assoc X0 X1 X2)
  have E5 := Lib.hid (Rat.add_mul X0 X1 X2)
  have E6 := Lib.hid (rat_off X0 X1)
  have E7 := Lib.hid (sgR_none X0)
  obtain ⟨s, hs⟩ : ∃ s, sgR X1 = s := ⟨_, rfl⟩
  have HS := Lib.hid hs
  have hsz : s = 0 ↔ X1 = 0 := by rw [← hs]; exact sgR_zero X1
  have HZ := Lib.hid hsz
  clear hs hsz
  have Q0W := Q0.later hBW
  have HX0 := Lib.hid hX0
  clear nx0 ny0 hX0
  have Q1W := Q1.later hBW
  have HX1 := Lib.hid hX1
  clear nx1 ny1 hX1
  have Q2W := Q2.later hBW
  have HX2 := Lib.hid hX2
  clear nx2 ny2 hX2
  go_enter Try.func9, Try.ntmps9
  go_upto_region 1 with fail
  clear hW
  go_cut [7, 8] (fun s7 s8 wx => ∃ (bA : Nat) (mA : Bool) (fsA gsA : List Int) (fA gA : Option Addr) (jA kA : Nat) (bB : Nat) (mB : Bool) (fsB gsB : List Int) (fB gB : Option Addr) (jB kB : Nat), s7 = .pointer (some ⟨bA, 0, none⟩) ∧ s8 = .pointer (some ⟨bB, 0, none⟩) ∧ Row wx bA 25 #[.bool mA, .slice fA fsA.length jA, .slice gA gsA.length kA] ∧ Row wx bB 25 #[.bool mB, .slice fB fsB.length jB, .slice gB gsB.length kB] ∧ ResQ w.heap.size wx (.agg #[.bool mA, .slice fA fsA.length jA, .slice gA gsA.length kA]) (X0 + X1) 2097162 ∧ ResQ w.heap.size wx (.agg #[.bool mB, .slice fB fsB.length jB, .slice gB gsB.length kB]) (X0 * X1) 2097162 ∧ Below W.heap.size W wx)
  case first =>
    have lt_R0 := R0.lt
    have lt_R1 := R1.lt
    have mkS : ∀ X, Kept (W.heap.size) W X → X.cell? ⟨w.heap.size, 0, none⟩ = some (.bool neg0) ∧ X.cell? ⟨w.heap.size, 1, none⟩ = some (.slice a0 xs0.length ca0) ∧ X.cell? ⟨w.heap.size, 2, none⟩ = some (.slice b0 ds0.length cb0) ∧ X.cell? ⟨w.heap.size + 1, 0, none⟩ = some (.bool neg1) ∧ X.cell? ⟨w.heap.size + 1, 1, none⟩ = some (.slice a1 xs1.length ca1) ∧ X.cell? ⟨w.heap.size + 1, 2, none⟩ = some (.slice b1 ds1.length cb1) ∧ Kept (W.heap.size) W X := fun X h => ⟨(R0.kept h (by omega)).cell 0, (R0.kept h (by omega)).cell 1, (R0.kept h (by omega)).cell 2, (R1.kept h (by omega)).cell 0, (R1.kept h (by omega)).cell 1, (R1.kept h (by omega)).cell 2, h⟩
    refine wp_region_noPanic ?_
    refine wp_region_held_drew (S := (fun X => X.cell? ⟨w.heap.size, 0, none⟩ = some (.bool neg0) ∧ X.cell? ⟨w.heap.size, 1, none⟩ = some (.slice a0 xs0.length ca0) ∧ X.cell? ⟨w.heap.size, 2, none⟩ = some (.slice b0 ds0.length cb0) ∧ X.cell? ⟨w.heap.size + 1, 0, none⟩ = some (.bool neg1) ∧ X.cell? ⟨w.heap.size + 1, 1, none⟩ = some (.slice a1 xs1.length ca1) ∧ X.cell? ⟨w.heap.size + 1, 2, none⟩ = some (.slice b1 ds1.length cb1) ∧ Kept (W.heap.size) W X)) (by kernel_rfl) (mkS _ ((Kept.refl _ _).drew)) (fun hHeld => ?_)
    refine wpAnyH_take (i := 0) (v := ?vl0) rfl (by kernel_rfl) (by kernel_rfl) (by kernel_rfl) (fun _ _ _ h => h) (Or.inl ⟨by rfl, ?hl0⟩) (by assumption) ?rl0
    case hl0 =>
      intro w hSw
      try dsimp only at hSw
      go_simp
      try with_reducible rfl
    try simp only [Act.put, List.setIfInBounds_toArray, List.set_cons_zero, List.set_cons_succ]
    refine wpAnyH_take (i := 1) (v := ?vl1) rfl (by kernel_rfl) (by kernel_rfl) (by kernel_rfl) (fun _ _ _ h => h) (Or.inl ⟨by rfl, ?hl1⟩) (by assumption) ?rl1
    case hl1 =>
      intro w hSw
      try dsimp only at hSw
      go_simp
      try with_reducible rfl
    try simp only [Act.put, List.setIfInBounds_toArray, List.set_cons_zero, List.set_cons_succ]
    refine wpAnyH_take (i := 3) (v := ?vl2) rfl (by kernel_rfl) (by kernel_rfl) (by kernel_rfl) (fun _ _ _ h => h) (Or.inl ⟨by rfl, ?hl2⟩) (by assumption) ?rl2
    case hl2 =>
      intro w hSw
      try dsimp only at hSw
      go_simp
      try with_reducible rfl
    try simp only [Act.put, List.setIfInBounds_toArray, List.set_cons_zero, List.set_cons_succ]
    refine wpAnyH_take (i := 4) (v := ?vl3) rfl (by kernel_rfl) (by kernel_rfl) (by kernel_rfl) (fun _ _ _ h => h) (Or.inl ⟨by rfl, ?hl3⟩) (by assumption) ?rl3
    case hl3 =>
      intro w hSw
      try dsimp only at hSw
      go_simp
      try with_reducible rfl
    try simp only [Act.put, List.setIfInBounds_toArray, List.set_cons_zero, List.set_cons_succ]
    obtain ⟨V0, hV0⟩ : ∃ V, W.drew = V := ⟨_, rfl⟩
    rw [hV0] at hHeld
    rw [hV0]
    have hb0 : Below W.heap.size W V0 := by rw [← hV0]; exact (Below.refl _ _).drew
    have hs0 : W.heap.size ≤ V0.heap.size := hb0.size
    clear hV0
    refine wpAnyH_ready (rs := [2, 6, 7]) (by kernel_rfl) (by simp) ?_
    refine AllReadyH.cons rfl (fun K hK => ?o1_2) (AllReadyH.cons rfl (fun K hK => ?o1_6) (AllReadyH.cons rfl (fun K hK => ?o1_7) AllReadyH.nil))
    case o1_2 =>
      go_simp
      refine (addQ_any (Q0W.later hb0) (Q1W.later hb0) (by omega)).mono ?_
      rintro e X2 ⟨rA, rfl, qA, hc2⟩
      obtain ⟨mA, fsA, gsA, fA, gA, jA, kA, rfl⟩ := qA.arg.box
      go_simp
      have hbX2 : Below W.heap.size W X2 := hb0.trans (hc2.mono hs0)
      have hsX2 : W.heap.size ≤ X2.heap.size := hbX2.size
      refine hK.out _ _ (mkS _ ((Kept.refl _ _).below hbX2)) (fun hHeld2 => ?_)
      clear hK K hHeld
      have hHeld := hHeld2
      clear hHeld2
      try simp only [Act.put, List.setIfInBounds_toArray, List.set_cons_zero, List.set_cons_succ]
      refine wpAnyH_ready (rs := [5, 6, 7]) (by kernel_rfl) (by simp) ?_
      refine AllReadyH.cons rfl (fun K hK => ?o3_5) (AllReadyH.cons rfl (fun K hK => ?o3_6) (AllReadyH.cons rfl (fun K hK => ?o3_7) AllReadyH.nil))
      case o3_5 =>
        go_simp
        refine (mulQ_any (Q0W.later hbX2) (Q1W.later hbX2) (by omega)).mono ?_
        rintro e X4 ⟨rB, rfl, qB, hc4⟩
        obtain ⟨mB, fsB, gsB, fB, gB, jB, kB, rfl⟩ := qB.arg.box
        go_simp
        have hbX4 : Below W.heap.size W X4 := hbX2.trans (hc4.mono hsX2)
        have hsX4 : W.heap.size ≤ X4.heap.size := hbX4.size
        have q0X4 := qA.later hc4
        refine hK.out _ _ (mkS _ ((Kept.refl _ _).below hbX4)) (fun hHeld2 => ?_)
        clear hK K hHeld
        have hHeld := hHeld2
        clear hHeld2
        try simp only [Act.put, List.setIfInBounds_toArray, List.set_cons_zero, List.set_cons_succ]
        refine wpAnyH_ready (rs := [6, 7]) (by kernel_rfl) (by simp) ?_
        refine AllReadyH.cons rfl (fun K hK => ?o5_6) (AllReadyH.cons rfl (fun K hK => ?o5_7) AllReadyH.nil)
        case o5_6 =>
          go_simp
          refine afterAlloc (fun X6 hc6 hl6 zn6 => ?_)
          have hbX6 : Below W.heap.size W X6 := hbX4.trans (hc6.mono hsX4)
          have hsX6 : W.heap.size ≤ X6.heap.size := hbX6.size
          have q0X6 := q0X4.later hc6
          have q1X6 := qB.later hc6
          refine hK.out _ _ (mkS _ ((Kept.refl _ _).below hbX6)) (fun hHeld2 => ?_)
          clear hK K hHeld
          have hHeld := hHeld2
          clear hHeld2
          try simp only [Act.put, List.setIfInBounds_toArray, List.set_cons_zero, List.set_cons_succ]
          refine wpAnyH_ready (rs := [7]) (by kernel_rfl) (by simp) ?_
          refine AllReadyH.cons rfl (fun K hK => ?o7_7) AllReadyH.nil
          case o7_7 =>
            go_simp
            refine afterAlloc (fun X8 hc8 hl8 zn8 => ?_)
            have hbX8 : Below W.heap.size W X8 := hbX6.trans (hc8.mono hsX6)
            have hsX8 : W.heap.size ≤ X8.heap.size := hbX8.size
            have z0X8 := zn6.later hc8
            have q0X8 := q0X6.later hc8
            have q1X8 := q1X6.later hc8
            have lt0X8 := zn6.lt
            refine hK.out _ _ (mkS _ ((Kept.refl _ _).below hbX8)) (fun hHeld2 => ?_)
            clear hK K hHeld
            have hHeld := hHeld2
            clear hHeld2
            try simp only [Act.put, List.setIfInBounds_toArray, List.set_cons_zero, List.set_cons_succ]
            obtain ⟨d90, d91, d92, d93, d94, d95⟩ := z0X8.three
            refine wpAnyH_ready (rs := [8]) (by kernel_rfl) (by simp) ?_
            refine AllReadyH.cons rfl (fun K hK => ?s9) AllReadyH.nil
            go_simp
            refine afterSet3 z0X8 (fun X9 o9 zs9 => ?_)
            clear d90 d91 d92 d93 d94 d95
            have hbX9 : Below W.heap.size W X9 := hbX8.trans (o9.below hsX4)
            have z1X9 := zn8.only o9 (by omega)
            have q0X9 := q0X8.only z0X8 o9
            have q1X9 := q1X8.only z0X8 o9
            refine hK.out _ _ (mkS _ ((Kept.refl _ _).below hbX9)) (fun hHeld => ?_)
            clear hK K
            try simp only [Act.put, List.setIfInBounds_toArray, List.set_cons_zero, List.set_cons_succ]
            obtain ⟨d100, d101, d102, d103, d104, d105⟩ := z1X9.three
            refine wpAnyH_ready (rs := [9]) (by kernel_rfl) (by simp) ?_
            refine AllReadyH.cons rfl (fun K hK => ?s10) AllReadyH.nil
            go_simp
            refine afterSet3 z1X9 (fun X10 o10 zs10 => ?_)
            clear d100 d101 d102 d103 d104 d105
            have hbX10 : Below W.heap.size W X10 := hbX9.trans (o10.below hsX6)
            have z0X10 := zs9.only o10 (by omega)
            have q0X10 := q0X9.only z1X9 o10
            have q1X10 := q1X9.only z1X9 o10
            refine hK.out _ _ (mkS _ ((Kept.refl _ _).below hbX10)) (fun hHeld => ?_)
            clear hK K
            try simp only [Act.put, List.setIfInBounds_toArray, List.set_cons_zero, List.set_cons_succ]
            refine wpAnyH_done (by kernel_rfl) ?_ _
            refine NoPanic.normal ?_
            go_wp2_with fail
            go_meet
            exact ⟨_, mA, fsA, gsA, fA, gA, jA, kA, _, mB, fsB, gsB, fB, gB, jB, kB, rfl, rfl, z0X10, zs10, (q0X10.more (by omega)).mono (by omega), (q1X10.more (by omega)).mono (by omega), hbX10⟩
        case o5_7 =>
          go_simp
          refine afterAlloc (fun X11 hc11 hl11 zn11 => ?_)
          have hbX11 : Below W.heap.size W X11 := hbX4.trans (hc11.mono hsX4)
          have hsX11 : W.heap.size ≤ X11.heap.size := hbX11.size
          have q0X11 := q0X4.later hc11
          have q1X11 := qB.later hc11
          refine hK.out _ _ (mkS _ ((Kept.refl _ _).below hbX11)) (fun hHeld2 => ?_)
          clear hK K hHeld
          have hHeld := hHeld2
          clear hHeld2
          try simp only [Act.put, List.setIfInBounds_toArray, List.set_cons_zero, List.set_cons_succ]
          refine wpAnyH_ready (rs := [6]) (by kernel_rfl) (by simp) ?_
          refine AllReadyH.cons rfl (fun K hK => ?o12_6) AllReadyH.nil
          case o12_6 =>
            go_simp
            refine afterAlloc (fun X13 hc13 hl13 zn13 => ?_)
            have hbX13 : Below W.heap.size W X13 := hbX11.trans (hc13.mono hsX11)
            have hsX13 : W.heap.size ≤ X13.heap.size := hbX13.size
            have q0X13 := q0X11.later hc13
            have z1X13 := zn11.later hc13
            have q1X13 := q1X11.later hc13
            have lt1X13 := zn11.lt
            refine hK.out _ _ (mkS _ ((Kept.refl _ _).below hbX13)) (fun hHeld2 => ?_)
            clear hK K hHeld
            have hHeld := hHeld2
            clear hHeld2
            try simp only [Act.put, List.setIfInBounds_toArray, List.set_cons_zero, List.set_cons_succ]
            obtain ⟨d140, d141, d142, d143, d144, d145⟩ := zn13.three
            refine wpAnyH_ready (rs := [8]) (by kernel_rfl) (by simp) ?_
            refine AllReadyH.cons rfl (fun K hK => ?s14) AllReadyH.nil
            go_simp
            refine afterSet3 zn13 (fun X14 o14 zs14 => ?_)
            clear d140 d141 d142 d143 d144 d145
            have hbX14 : Below W.heap.size W X14 := hbX13.trans (o14.below hsX11)
            have z1X14 := z1X13.only o14 (by omega)
            have q0X14 := q0X13.only zn13 o14
            have q1X14 := q1X13.only zn13 o14
            refine hK.out _ _ (mkS _ ((Kept.refl _ _).below hbX14)) (fun hHeld => ?_)
            clear hK K
            try simp only [Act.put, List.setIfInBounds_toArray, List.set_cons_zero, List.set_cons_succ]
            obtain ⟨d150, d151, d152, d153, d154, d155⟩ := z1X14.three
            refine wpAnyH_ready (rs := [9]) (by kernel_rfl) (by simp) ?_
            refine AllReadyH.cons rfl (fun K hK => ?s15) AllReadyH.nil
            go_simp
            refine afterSet3 z1X14 (fun X15 o15 zs15 => ?_)
            clear d150 d151 d152 d153 d154 d155
            have hbX15 : Below W.heap.size W X15 := hbX14.trans (o15.below hsX4)
            have z0X15 := zs14.only o15 (by omega)
            have q0X15 := q0X14.only z1X14 o15
            have q1X15 := q1X14.only z1X14 o15
            refine hK.out _ _ (mkS _ ((Kept.refl _ _).below hbX15)) (fun hHeld => ?_)
            clear hK K
            try simp only [Act.put, List.setIfInBounds_toArray, List.set_cons_zero, List.set_cons_succ]
            refine wpAnyH_done (by kernel_rfl) ?_ _
            refine NoPanic.normal ?_
            go_wp2_with fail
            go_meet
            exact ⟨_, mA, fsA, gsA, fA, gA, jA, kA, _, mB, fsB, gsB, fB, gB, jB, kB, rfl, rfl, z0X15, zs15, (q0X15.more (by omega)).mono (by omega), (q1X15.more (by omega)).mono (by omega), hbX15⟩
      case o3_6 =>
        go_simp
        refine afterAlloc (fun X16 hc16 hl16 zn16 => ?_)
        have hbX16 : Below W.heap.size W X16 := hbX2.trans (hc16.mono hsX2)
        have hsX16 : W.heap.size ≤ X16.heap.size := hbX16.size
        have q0X16 := qA.later hc16
        refine hK.out _ _ (mkS _ ((Kept.refl _ _).below hbX16)) (fun hHeld2 => ?_)
        clear hK K hHeld
        have hHeld := hHeld2
        clear hHeld2
        try simp only [Act.put, List.setIfInBounds_toArray, List.set_cons_zero, List.set_cons_succ]
        refine wpAnyH_ready (rs := [5, 7]) (by kernel_rfl) (by simp) ?_
        refine AllReadyH.cons rfl (fun K hK => ?o17_5) (AllReadyH.cons rfl (fun K hK => ?o17_7) AllReadyH.nil)
        case o17_5 =>
          go_simp
          refine (mulQ_any (Q0W.later hbX16) (Q1W.later hbX16) (by omega)).mono ?_
          rintro e X18 ⟨rB, rfl, qB, hc18⟩
          obtain ⟨mB, fsB, gsB, fB, gB, jB, kB, rfl⟩ := qB.arg.box
          go_simp
          have hbX18 : Below W.heap.size W X18 := hbX16.trans (hc18.mono hsX16)
          have hsX18 : W.heap.size ≤ X18.heap.size := hbX18.size
          have z0X18 := zn16.later hc18
          have q0X18 := q0X16.later hc18
          refine hK.out _ _ (mkS _ ((Kept.refl _ _).below hbX18)) (fun hHeld2 => ?_)
          clear hK K hHeld
          have hHeld := hHeld2
          clear hHeld2
          try simp only [Act.put, List.setIfInBounds_toArray, List.set_cons_zero, List.set_cons_succ]
          refine wpAnyH_ready (rs := [7]) (by kernel_rfl) (by simp) ?_
          refine AllReadyH.cons rfl (fun K hK => ?o19_7) AllReadyH.nil
          case o19_7 =>
            go_simp
            refine afterAlloc (fun X20 hc20 hl20 zn20 => ?_)
            have hbX20 : Below W.heap.size W X20 := hbX18.trans (hc20.mono hsX18)
            have hsX20 : W.heap.size ≤ X20.heap.size := hbX20.size
            have z0X20 := z0X18.later hc20
            have q0X20 := q0X18.later hc20
            have q1X20 := qB.later hc20
            have lt0X20 := z0X18.lt
            refine hK.out _ _ (mkS _ ((Kept.refl _ _).below hbX20)) (fun hHeld2 => ?_)
            clear hK K hHeld
            have hHeld := hHeld2
            clear hHeld2
            try simp only [Act.put, List.setIfInBounds_toArray, List.set_cons_zero, List.set_cons_succ]
            obtain ⟨d210, d211, d212, d213, d214, d215⟩ := z0X20.three
            refine wpAnyH_ready (rs := [8]) (by kernel_rfl) (by simp) ?_
            refine AllReadyH.cons rfl (fun K hK => ?s21) AllReadyH.nil
            go_simp
            refine afterSet3 z0X20 (fun X21 o21 zs21 => ?_)
            clear d210 d211 d212 d213 d214 d215
            have hbX21 : Below W.heap.size W X21 := hbX20.trans (o21.below hsX2)
            have z1X21 := zn20.only o21 (by omega)
            have q0X21 := q0X20.only z0X20 o21
            have q1X21 := q1X20.only z0X20 o21
            refine hK.out _ _ (mkS _ ((Kept.refl _ _).below hbX21)) (fun hHeld => ?_)
            clear hK K
            try simp only [Act.put, List.setIfInBounds_toArray, List.set_cons_zero, List.set_cons_succ]
            obtain ⟨d220, d221, d222, d223, d224, d225⟩ := z1X21.three
            refine wpAnyH_ready (rs := [9]) (by kernel_rfl) (by simp) ?_
            refine AllReadyH.cons rfl (fun K hK => ?s22) AllReadyH.nil
            go_simp
            refine afterSet3 z1X21 (fun X22 o22 zs22 => ?_)
            clear d220 d221 d222 d223 d224 d225
            have hbX22 : Below W.heap.size W X22 := hbX21.trans (o22.below hsX18)
            have z0X22 := zs21.only o22 (by omega)
            have q0X22 := q0X21.only z1X21 o22
            have q1X22 := q1X21.only z1X21 o22
            refine hK.out _ _ (mkS _ ((Kept.refl _ _).below hbX22)) (fun hHeld => ?_)
            clear hK K
            try simp only [Act.put, List.setIfInBounds_toArray, List.set_cons_zero, List.set_cons_succ]
            refine wpAnyH_done (by kernel_rfl) ?_ _
            refine NoPanic.normal ?_
            go_wp2_with fail
            go_meet
            exact ⟨_, mA, fsA, gsA, fA, gA, jA, kA, _, mB, fsB, gsB, fB, gB, jB, kB, rfl, rfl, z0X22, zs22, (q0X22.more (by omega)).mono (by omega), (q1X22.more (by omega)).mono (by omega), hbX22⟩
        case o17_7 =>
          go_simp
          refine afterAlloc (fun X23 hc23 hl23 zn23 => ?_)
          have hbX23 : Below W.heap.size W X23 := hbX16.trans (hc23.mono hsX16)
          have hsX23 : W.heap.size ≤ X23.heap.size := hbX23.size
          have z0X23 := zn16.later hc23
          have q0X23 := q0X16.later hc23
          have lt0X23 := zn16.lt
          refine hK.out _ _ (mkS _ ((Kept.refl _ _).below hbX23)) (fun hHeld2 => ?_)
          clear hK K hHeld
          have hHeld := hHeld2
          clear hHeld2
          try simp only [Act.put, List.setIfInBounds_toArray, List.set_cons_zero, List.set_cons_succ]
          refine wpAnyH_ready (rs := [5]) (by kernel_rfl) (by simp) ?_
          refine AllReadyH.cons rfl (fun K hK => ?o24_5) AllReadyH.nil
          case o24_5 =>
            go_simp
            refine (mulQ_any (Q0W.later hbX23) (Q1W.later hbX23) (by omega)).mono ?_
            rintro e X25 ⟨rB, rfl, qB, hc25⟩
            obtain ⟨mB, fsB, gsB, fB, gB, jB, kB, rfl⟩ := qB.arg.box
            go_simp
            have hbX25 : Below W.heap.size W X25 := hbX23.trans (hc25.mono hsX23)
            have hsX25 : W.heap.size ≤ X25.heap.size := hbX25.size
            have z0X25 := z0X23.later hc25
            have q0X25 := q0X23.later hc25
            have z1X25 := zn23.later hc25
            refine hK.out _ _ (mkS _ ((Kept.refl _ _).below hbX25)) (fun hHeld2 => ?_)
            clear hK K hHeld
            have hHeld := hHeld2
            clear hHeld2
            try simp only [Act.put, List.setIfInBounds_toArray, List.set_cons_zero, List.set_cons_succ]
            obtain ⟨d260, d261, d262, d263, d264, d265⟩ := z0X25.three
            refine wpAnyH_ready (rs := [8]) (by kernel_rfl) (by simp) ?_
            refine AllReadyH.cons rfl (fun K hK => ?s26) AllReadyH.nil
            go_simp
            refine afterSet3 z0X25 (fun X26 o26 zs26 => ?_)
            clear d260 d261 d262 d263 d264 d265
            have hbX26 : Below W.heap.size W X26 := hbX25.trans (o26.below hsX2)
            have z1X26 := z1X25.only o26 (by omega)
            have q0X26 := q0X25.only z0X25 o26
            have q1X26 := qB.only z0X25 o26
            refine hK.out _ _ (mkS _ ((Kept.refl _ _).below hbX26)) (fun hHeld => ?_)
            clear hK K
            try simp only [Act.put, List.setIfInBounds_toArray, List.set_cons_zero, List.set_cons_succ]
            obtain ⟨d270, d271, d272, d273, d274, d275⟩ := z1X26.three
            refine wpAnyH_ready (rs := [9]) (by kernel_rfl) (by simp) ?_
            refine AllReadyH.cons rfl (fun K hK => ?s27) AllReadyH.nil
            go_simp
            refine afterSet3 z1X26 (fun X27 o27 zs27 => ?_)
            clear d270 d271 d272 d273 d274 d275
            have hbX27 : Below W.heap.size W X27 := hbX26.trans (o27.below hsX16)
            have z0X27 := zs26.only o27 (by omega)
            have q0X27 := q0X26.only z1X26 o27
            have q1X27 := q1X26.only z1X26 o27
            refine hK.out _ _ (mkS _ ((Kept.refl _ _).below hbX27)) (fun hHeld => ?_)
            clear hK K
            try simp only [Act.put, List.setIfInBounds_toArray, List.set_cons_zero, List.set_cons_succ]
            refine wpAnyH_done (by kernel_rfl) ?_ _
            refine NoPanic.normal ?_
            go_wp2_with fail
            go_meet
            exact ⟨_, mA, fsA, gsA, fA, gA, jA, kA, _, mB, fsB, gsB, fB, gB, jB, kB, rfl, rfl, z0X27, zs27, (q0X27.more (by omega)).mono (by omega), (q1X27.more (by omega)).mono (by omega), hbX27⟩
      case o3_7 =>
        go_simp
        refine afterAlloc (fun X28 hc28 hl28 zn28 => ?_)
        have hbX28 : Below W.heap.size W X28 := hbX2.trans (hc28.mono hsX2)
        have hsX28 : W.heap.size ≤ X28.heap.size := hbX28.size
        have q0X28 := qA.later hc28
        refine hK.out _ _ (mkS _ ((Kept.refl _ _).below hbX28)) (fun hHeld2 => ?_)
        clear hK K hHeld
        have hHeld := hHeld2
        clear hHeld2
        try simp only [Act.put, List.setIfInBounds_toArray, List.set_cons_zero, List.set_cons_succ]
        refine wpAnyH_ready (rs := [5, 6]) (by kernel_rfl) (by simp) ?_
        refine AllReadyH.cons rfl (fun K hK => ?o29_5) (AllReadyH.cons rfl (fun K hK => ?o29_6) AllReadyH.nil)
        case o29_5 =>
          go_simp
          refine (mulQ_any (Q0W.later hbX28) (Q1W.later hbX28) (by omega)).mono ?_
          rintro e X30 ⟨rB, rfl, qB, hc30⟩
          obtain ⟨mB, fsB, gsB, fB, gB, jB, kB, rfl⟩ := qB.arg.box
          go_simp
          have hbX30 : Below W.heap.size W X30 := hbX28.trans (hc30.mono hsX28)
          have hsX30 : W.heap.size ≤ X30.heap.size := hbX30.size
          have q0X30 := q0X28.later hc30
          have z1X30 := zn28.later hc30
          refine hK.out _ _ (mkS _ ((Kept.refl _ _).below hbX30)) (fun hHeld2 => ?_)
          clear hK K hHeld
          have hHeld := hHeld2
          clear hHeld2
          try simp only [Act.put, List.setIfInBounds_toArray, List.set_cons_zero, List.set_cons_succ]
          refine wpAnyH_ready (rs := [6]) (by kernel_rfl) (by simp) ?_
          refine AllReadyH.cons rfl (fun K hK => ?o31_6) AllReadyH.nil
          case o31_6 =>
            go_simp
            refine afterAlloc (fun X32 hc32 hl32 zn32 => ?_)
            have hbX32 : Below W.heap.size W X32 := hbX30.trans (hc32.mono hsX30)
            have hsX32 : W.heap.size ≤ X32.heap.size := hbX32.size
            have q0X32 := q0X30.later hc32
            have z1X32 := z1X30.later hc32
            have q1X32 := qB.later hc32
            have lt1X32 := z1X30.lt
            refine hK.out _ _ (mkS _ ((Kept.refl _ _).below hbX32)) (fun hHeld2 => ?_)
            clear hK K hHeld
            have hHeld := hHeld2
            clear hHeld2
            try simp only [Act.put, List.setIfInBounds_toArray, List.set_cons_zero, List.set_cons_succ]
            obtain ⟨d330, d331, d332, d333, d334, d335⟩ := zn32.three
            refine wpAnyH_ready (rs := [8]) (by kernel_rfl) (by simp) ?_
            refine AllReadyH.cons rfl (fun K hK => ?s33) AllReadyH.nil
            go_simp
            refine afterSet3 zn32 (fun X33 o33 zs33 => ?_)
            clear d330 d331 d332 d333 d334 d335
            have hbX33 : Below W.heap.size W X33 := hbX32.trans (o33.below hsX30)
            have z1X33 := z1X32.only o33 (by omega)
            have q0X33 := q0X32.only zn32 o33
            have q1X33 := q1X32.only zn32 o33
            refine hK.out _ _ (mkS _ ((Kept.refl _ _).below hbX33)) (fun hHeld => ?_)
            clear hK K
            try simp only [Act.put, List.setIfInBounds_toArray, List.set_cons_zero, List.set_cons_succ]
            obtain ⟨d340, d341, d342, d343, d344, d345⟩ := z1X33.three
            refine wpAnyH_ready (rs := [9]) (by kernel_rfl) (by simp) ?_
            refine AllReadyH.cons rfl (fun K hK => ?s34) AllReadyH.nil
            go_simp
            refine afterSet3 z1X33 (fun X34 o34 zs34 => ?_)
            clear d340 d341 d342 d343 d344 d345
            have hbX34 : Below W.heap.size W X34 := hbX33.trans (o34.below hsX2)
            have z0X34 := zs33.only o34 (by omega)
            have q0X34 := q0X33.only z1X33 o34
            have q1X34 := q1X33.only z1X33 o34
            refine hK.out _ _ (mkS _ ((Kept.refl _ _).below hbX34)) (fun hHeld => ?_)
            clear hK K
            try simp only [Act.put, List.setIfInBounds_toArray, List.set_cons_zero, List.set_cons_succ]
            refine wpAnyH_done (by kernel_rfl) ?_ _
            refine NoPanic.normal ?_
            go_wp2_with fail
            go_meet
            exact ⟨_, mA, fsA, gsA, fA, gA, jA, kA, _, mB, fsB, gsB, fB, gB, jB, kB, rfl, rfl, z0X34, zs34, (q0X34.more (by omega)).mono (by omega), (q1X34.more (by omega)).mono (by omega), hbX34⟩
        case o29_6 =>
          go_simp
          refine afterAlloc (fun X35 hc35 hl35 zn35 => ?_)
          have hbX35 : Below W.heap.size W X35 := hbX28.trans (hc35.mono hsX28)
          have hsX35 : W.heap.size ≤ X35.heap.size := hbX35.size
          have q0X35 := q0X28.later hc35
          have z1X35 := zn28.later hc35
          have lt1X35 := zn28.lt
          refine hK.out _ _ (mkS _ ((Kept.refl _ _).below hbX35)) (fun hHeld2 => ?_)
          clear hK K hHeld
          have hHeld := hHeld2
          clear hHeld2
          try simp only [Act.put, List.setIfInBounds_toArray, List.set_cons_zero, List.set_cons_succ]
          refine wpAnyH_ready (rs := [5]) (by kernel_rfl) (by simp) ?_
          refine AllReadyH.cons rfl (fun K hK => ?o36_5) AllReadyH.nil
          case o36_5 =>
            go_simp
            refine (mulQ_any (Q0W.later hbX35) (Q1W.later hbX35) (by omega)).mono ?_
            rintro e X37 ⟨rB, rfl, qB, hc37⟩
            obtain ⟨mB, fsB, gsB, fB, gB, jB, kB, rfl⟩ := qB.arg.box
            go_simp
            have hbX37 : Below W.heap.size W X37 := hbX35.trans (hc37.mono hsX35)
            have hsX37 : W.heap.size ≤ X37.heap.size := hbX37.size
            have z0X37 := zn35.later hc37
            have q0X37 := q0X35.later hc37
            have z1X37 := z1X35.later hc37
            refine hK.out _ _ (mkS _ ((Kept.refl _ _).below hbX37)) (fun hHeld2 => ?_)
            clear hK K hHeld
            have hHeld := hHeld2
            clear hHeld2
            try simp only [Act.put, List.setIfInBounds_toArray, List.set_cons_zero, List.set_cons_succ]
            obtain ⟨d380, d381, d382, d383, d384, d385⟩ := z0X37.three
            refine wpAnyH_ready (rs := [8]) (by kernel_rfl) (by simp) ?_
            refine AllReadyH.cons rfl (fun K hK => ?s38) AllReadyH.nil
            go_simp
            refine afterSet3 z0X37 (fun X38 o38 zs38 => ?_)
            clear d380 d381 d382 d383 d384 d385
            have hbX38 : Below W.heap.size W X38 := hbX37.trans (o38.below hsX28)
            have z1X38 := z1X37.only o38 (by omega)
            have q0X38 := q0X37.only z0X37 o38
            have q1X38 := qB.only z0X37 o38
            refine hK.out _ _ (mkS _ ((Kept.refl _ _).below hbX38)) (fun hHeld => ?_)
            clear hK K
            try simp only [Act.put, List.setIfInBounds_toArray, List.set_cons_zero, List.set_cons_succ]
            obtain ⟨d390, d391, d392, d393, d394, d395⟩ := z1X38.three
            refine wpAnyH_ready (rs := [9]) (by kernel_rfl) (by simp) ?_
            refine AllReadyH.cons rfl (fun K hK => ?s39) AllReadyH.nil
            go_simp
            refine afterSet3 z1X38 (fun X39 o39 zs39 => ?_)
            clear d390 d391 d392 d393 d394 d395
            have hbX39 : Below W.heap.size W X39 := hbX38.trans (o39.below hsX2)
            have z0X39 := zs38.only o39 (by omega)
            have q0X39 := q0X38.only z1X38 o39
            have q1X39 := q1X38.only z1X38 o39
            refine hK.out _ _ (mkS _ ((Kept.refl _ _).below hbX39)) (fun hHeld => ?_)
            clear hK K
            try simp only [Act.put, List.setIfInBounds_toArray, List.set_cons_zero, List.set_cons_succ]
            refine wpAnyH_done (by kernel_rfl) ?_ _
            refine NoPanic.normal ?_
            go_wp2_with fail
            go_meet
            exact ⟨_, mA, fsA, gsA, fA, gA, jA, kA, _, mB, fsB, gsB, fB, gB, jB, kB, rfl, rfl, z0X39, zs39, (q0X39.more (by omega)).mono (by omega), (q1X39.more (by omega)).mono (by omega), hbX39⟩
    case o1_6 =>
      go_simp
      refine afterAlloc (fun X40 hc40 hl40 zn40 => ?_)
      have hbX40 : Below W.heap.size W X40 := hb0.trans (hc40.mono hs0)
      have hsX40 : W.heap.size ≤ X40.heap.size := hbX40.size
      refine hK.out _ _ (mkS _ ((Kept.refl _ _).below hbX40)) (fun hHeld2 => ?_)
      clear hK K hHeld
      have hHeld := hHeld2
      clear hHeld2
      try simp only [Act.put, List.setIfInBounds_toArray, List.set_cons_zero, List.set_cons_succ]
      refine wpAnyH_ready (rs := [2, 7]) (by kernel_rfl) (by simp) ?_
      refine AllReadyH.cons rfl (fun K hK => ?o41_2) (AllReadyH.cons rfl (fun K hK => ?o41_7) AllReadyH.nil)
      case o41_2 =>
        go_simp
        refine (addQ_any (Q0W.later hbX40) (Q1W.later hbX40) (by omega)).mono ?_
        rintro e X42 ⟨rA, rfl, qA, hc42⟩
        obtain ⟨mA, fsA, gsA, fA, gA, jA, kA, rfl⟩ := qA.arg.box
        go_simp
        have hbX42 : Below W.heap.size W X42 := hbX40.trans (hc42.mono hsX40)
        have hsX42 : W.heap.size ≤ X42.heap.size := hbX42.size
        have z0X42 := zn40.later hc42
        refine hK.out _ _ (mkS _ ((Kept.refl _ _).below hbX42)) (fun hHeld2 => ?_)
        clear hK K hHeld
        have hHeld := hHeld2
        clear hHeld2
        try simp only [Act.put, List.setIfInBounds_toArray, List.set_cons_zero, List.set_cons_succ]
        refine wpAnyH_ready (rs := [5, 7]) (by kernel_rfl) (by simp) ?_
        refine AllReadyH.cons rfl (fun K hK => ?o43_5) (AllReadyH.cons rfl (fun K hK => ?o43_7) AllReadyH.nil)
        case o43_5 =>
          go_simp
          refine (mulQ_any (Q0W.later hbX42) (Q1W.later hbX42) (by omega)).mono ?_
          rintro e X44 ⟨rB, rfl, qB, hc44⟩
          obtain ⟨mB, fsB, gsB, fB, gB, jB, kB, rfl⟩ := qB.arg.box
          go_simp
          have hbX44 : Below W.heap.size W X44 := hbX42.trans (hc44.mono hsX42)
          have hsX44 : W.heap.size ≤ X44.heap.size := hbX44.size
          have z0X44 := z0X42.later hc44
          have q0X44 := qA.later hc44
          refine hK.out _ _ (mkS _ ((Kept.refl _ _).below hbX44)) (fun hHeld2 => ?_)
          clear hK K hHeld
          have hHeld := hHeld2
          clear hHeld2
          try simp only [Act.put, List.setIfInBounds_toArray, List.set_cons_zero, List.set_cons_succ]
          refine wpAnyH_ready (rs := [7]) (by kernel_rfl) (by simp) ?_
          refine AllReadyH.cons rfl (fun K hK => ?o45_7) AllReadyH.nil
          case o45_7 =>
            go_simp
            refine afterAlloc (fun X46 hc46 hl46 zn46 => ?_)
            have hbX46 : Below W.heap.size W X46 := hbX44.trans (hc46.mono hsX44)
            have hsX46 : W.heap.size ≤ X46.heap.size := hbX46.size
            have z0X46 := z0X44.later hc46
            have q0X46 := q0X44.later hc46
            have q1X46 := qB.later hc46
            have lt0X46 := z0X44.lt
            refine hK.out _ _ (mkS _ ((Kept.refl _ _).below hbX46)) (fun hHeld2 => ?_)
            clear hK K hHeld
            have hHeld := hHeld2
            clear hHeld2
            try simp only [Act.put, List.setIfInBounds_toArray, List.set_cons_zero, List.set_cons_succ]
            obtain ⟨d470, d471, d472, d473, d474, d475⟩ := z0X46.three
            refine wpAnyH_ready (rs := [8]) (by kernel_rfl) (by simp) ?_
            refine AllReadyH.cons rfl (fun K hK => ?s47) AllReadyH.nil
            go_simp
            refine afterSet3 z0X46 (fun X47 o47 zs47 => ?_)
            clear d470 d471 d472 d473 d474 d475
            have hbX47 : Below W.heap.size W X47 := hbX46.trans (o47.below hs0)
            have z1X47 := zn46.only o47 (by omega)
            have q0X47 := q0X46.only z0X46 o47
            have q1X47 := q1X46.only z0X46 o47
            refine hK.out _ _ (mkS _ ((Kept.refl _ _).below hbX47)) (fun hHeld => ?_)
            clear hK K
            try simp only [Act.put, List.setIfInBounds_toArray, List.set_cons_zero, List.set_cons_succ]
            obtain ⟨d480, d481, d482, d483, d484, d485⟩ := z1X47.three
            refine wpAnyH_ready (rs := [9]) (by kernel_rfl) (by simp) ?_
            refine AllReadyH.cons rfl (fun K hK => ?s48) AllReadyH.nil
            go_simp
            refine afterSet3 z1X47 (fun X48 o48 zs48 => ?_)
            clear d480 d481 d482 d483 d484 d485
            have hbX48 : Below W.heap.size W X48 := hbX47.trans (o48.below hsX44)
            have z0X48 := zs47.only o48 (by omega)
            have q0X48 := q0X47.only z1X47 o48
            have q1X48 := q1X47.only z1X47 o48
            refine hK.out _ _ (mkS _ ((Kept.refl _ _).below hbX48)) (fun hHeld => ?_)
            clear hK K
            try simp only [Act.put, List.setIfInBounds_toArray, List.set_cons_zero, List.set_cons_succ]
            refine wpAnyH_done (by kernel_rfl) ?_ _
            refine NoPanic.normal ?_
            go_wp2_with fail
            go_meet
            exact ⟨_, mA, fsA, gsA, fA, gA, jA, kA, _, mB, fsB, gsB, fB, gB, jB, kB, rfl, rfl, z0X48, zs48, (q0X48.more (by omega)).mono (by omega), (q1X48.more (by omega)).mono (by omega), hbX48⟩
        case o43_7 =>
          go_simp
          refine afterAlloc (fun X49 hc49 hl49 zn49 => ?_)
          have hbX49 : Below W.heap.size W X49 := hbX42.trans (hc49.mono hsX42)
          have hsX49 : W.heap.size ≤ X49.heap.size := hbX49.size
          have z0X49 := z0X42.later hc49
          have q0X49 := qA.later hc49
          have lt0X49 := z0X42.lt
          refine hK.out _ _ (mkS _ ((Kept.refl _ _).below hbX49)) (fun hHeld2 => ?_)
          clear hK K hHeld
          have hHeld := hHeld2
          clear hHeld2
          try simp only [Act.put, List.setIfInBounds_toArray, List.set_cons_zero, List.set_cons_succ]
          refine wpAnyH_ready (rs := [5]) (by kernel_rfl) (by simp) ?_
          refine AllReadyH.cons rfl (fun K hK => ?o50_5) AllReadyH.nil
          case o50_5 =>
            go_simp
            refine (mulQ_any (Q0W.later hbX49) (Q1W.later hbX49) (by omega)).mono ?_
            rintro e X51 ⟨rB, rfl, qB, hc51⟩
            obtain ⟨mB, fsB, gsB, fB, gB, jB, kB, rfl⟩ := qB.arg.box
            go_simp
            have hbX51 : Below W.heap.size W X51 := hbX49.trans (hc51.mono hsX49)
            have hsX51 : W.heap.size ≤ X51.heap.size := hbX51.size
            have z0X51 := z0X49.later hc51
            have q0X51 := q0X49.later hc51
            have z1X51 := zn49.later hc51
            refine hK.out _ _ (mkS _ ((Kept.refl _ _).below hbX51)) (fun hHeld2 => ?_)
            clear hK K hHeld
            have hHeld := hHeld2
            clear hHeld2
            try simp only [Act.put, List.setIfInBounds_toArray, List.set_cons_zero, List.set_cons_succ]
            obtain ⟨d520, d521, d522, d523, d524, d525⟩ := z0X51.three
            refine wpAnyH_ready (rs := [8]) (by kernel_rfl) (by simp) ?_
            refine AllReadyH.cons rfl (fun K hK => ?s52) AllReadyH.nil
            go_simp
            refine afterSet3 z0X51 (fun X52 o52 zs52 => ?_)
            clear d520 d521 d522 d523 d524 d525
            have hbX52 : Below W.heap.size W X52 := hbX51.trans (o52.below hs0)
            have z1X52 := z1X51.only o52 (by omega)
            have q0X52 := q0X51.only z0X51 o52
            have q1X52 := qB.only z0X51 o52
            refine hK.out _ _ (mkS _ ((Kept.refl _ _).below hbX52)) (fun hHeld => ?_)
            clear hK K
            try simp only [Act.put, List.setIfInBounds_toArray, List.set_cons_zero, List.set_cons_succ]
            obtain ⟨d530, d531, d532, d533, d534, d535⟩ := z1X52.three
            refine wpAnyH_ready (rs := [9]) (by kernel_rfl) (by simp) ?_
            refine AllReadyH.cons rfl (fun K hK => ?s53) AllReadyH.nil
            go_simp
            refine afterSet3 z1X52 (fun X53 o53 zs53 => ?_)
            clear d530 d531 d532 d533 d534 d535
            have hbX53 : Below W.heap.size W X53 := hbX52.trans (o53.below hsX42)
            have z0X53 := zs52.only o53 (by omega)
            have q0X53 := q0X52.only z1X52 o53
            have q1X53 := q1X52.only z1X52 o53
            refine hK.out _ _ (mkS _ ((Kept.refl _ _).below hbX53)) (fun hHeld => ?_)
            clear hK K
            try simp only [Act.put, List.setIfInBounds_toArray, List.set_cons_zero, List.set_cons_succ]
            refine wpAnyH_done (by kernel_rfl) ?_ _
            refine NoPanic.normal ?_
            go_wp2_with fail
            go_meet
            exact ⟨_, mA, fsA, gsA, fA, gA, jA, kA, _, mB, fsB, gsB, fB, gB, jB, kB, rfl, rfl, z0X53, zs53, (q0X53.more (by omega)).mono (by omega), (q1X53.more (by omega)).mono (by omega), hbX53⟩
      case o41_7 =>
        go_simp
        refine afterAlloc (fun X54 hc54 hl54 zn54 => ?_)
        have hbX54 : Below W.heap.size W X54 := hbX40.trans (hc54.mono hsX40)
        have hsX54 : W.heap.size ≤ X54.heap.size := hbX54.size
        have z0X54 := zn40.later hc54
        have lt0X54 := zn40.lt
        refine hK.out _ _ (mkS _ ((Kept.refl _ _).below hbX54)) (fun hHeld2 => ?_)
        clear hK K hHeld
        have hHeld := hHeld2
        clear hHeld2
        try simp only [Act.put, List.setIfInBounds_toArray, List.set_cons_zero, List.set_cons_succ]
        refine wpAnyH_ready (rs := [2]) (by kernel_rfl) (by simp) ?_
        refine AllReadyH.cons rfl (fun K hK => ?o55_2) AllReadyH.nil
        case o55_2 =>
          go_simp
          refine (addQ_any (Q0W.later hbX54) (Q1W.later hbX54) (by omega)).mono ?_
          rintro e X56 ⟨rA, rfl, qA, hc56⟩
          obtain ⟨mA, fsA, gsA, fA, gA, jA, kA, rfl⟩ := qA.arg.box
          go_simp
          have hbX56 : Below W.heap.size W X56 := hbX54.trans (hc56.mono hsX54)
          have hsX56 : W.heap.size ≤ X56.heap.size := hbX56.size
          have z0X56 := z0X54.later hc56
          have z1X56 := zn54.later hc56
          refine hK.out _ _ (mkS _ ((Kept.refl _ _).below hbX56)) (fun hHeld2 => ?_)
          clear hK K hHeld
          have hHeld := hHeld2
          clear hHeld2
          try simp only [Act.put, List.setIfInBounds_toArray, List.set_cons_zero, List.set_cons_succ]
          refine wpAnyH_ready (rs := [5]) (by kernel_rfl) (by simp) ?_
          refine AllReadyH.cons rfl (fun K hK => ?o57_5) AllReadyH.nil
          case o57_5 =>
            go_simp
            refine (mulQ_any (Q0W.later hbX56) (Q1W.later hbX56) (by omega)).mono ?_
            rintro e X58 ⟨rB, rfl, qB, hc58⟩
            obtain ⟨mB, fsB, gsB, fB, gB, jB, kB, rfl⟩ := qB.arg.box
            go_simp
            have hbX58 : Below W.heap.size W X58 := hbX56.trans (hc58.mono hsX56)
            have hsX58 : W.heap.size ≤ X58.heap.size := hbX58.size
            have z0X58 := z0X56.later hc58
            have q0X58 := qA.later hc58
            have z1X58 := z1X56.later hc58
            refine hK.out _ _ (mkS _ ((Kept.refl _ _).below hbX58)) (fun hHeld2 => ?_)
            clear hK K hHeld
            have hHeld := hHeld2
            clear hHeld2
            try simp only [Act.put, List.setIfInBounds_toArray, List.set_cons_zero, List.set_cons_succ]
            obtain ⟨d590, d591, d592, d593, d594, d595⟩ := z0X58.three
            refine wpAnyH_ready (rs := [8]) (by kernel_rfl) (by simp) ?_
            refine AllReadyH.cons rfl (fun K hK => ?s59) AllReadyH.nil
            go_simp
            refine afterSet3 z0X58 (fun X59 o59 zs59 => ?_)
            clear d590 d591 d592 d593 d594 d595
            have hbX59 : Below W.heap.size W X59 := hbX58.trans (o59.below hs0)
            have z1X59 := z1X58.only o59 (by omega)
            have q0X59 := q0X58.only z0X58 o59
            have q1X59 := qB.only z0X58 o59
            refine hK.out _ _ (mkS _ ((Kept.refl _ _).below hbX59)) (fun hHeld => ?_)
            clear hK K
            try simp only [Act.put, List.setIfInBounds_toArray, List.set_cons_zero, List.set_cons_succ]
            obtain ⟨d600, d601, d602, d603, d604, d605⟩ := z1X59.three
            refine wpAnyH_ready (rs := [9]) (by kernel_rfl) (by simp) ?_
            refine AllReadyH.cons rfl (fun K hK => ?s60) AllReadyH.nil
            go_simp
            refine afterSet3 z1X59 (fun X60 o60 zs60 => ?_)
            clear d600 d601 d602 d603 d604 d605
            have hbX60 : Below W.heap.size W X60 := hbX59.trans (o60.below hsX40)
            have z0X60 := zs59.only o60 (by omega)
            have q0X60 := q0X59.only z1X59 o60
            have q1X60 := q1X59.only z1X59 o60
            refine hK.out _ _ (mkS _ ((Kept.refl _ _).below hbX60)) (fun hHeld => ?_)
            clear hK K
            try simp only [Act.put, List.setIfInBounds_toArray, List.set_cons_zero, List.set_cons_succ]
            refine wpAnyH_done (by kernel_rfl) ?_ _
            refine NoPanic.normal ?_
            go_wp2_with fail
            go_meet
            exact ⟨_, mA, fsA, gsA, fA, gA, jA, kA, _, mB, fsB, gsB, fB, gB, jB, kB, rfl, rfl, z0X60, zs60, (q0X60.more (by omega)).mono (by omega), (q1X60.more (by omega)).mono (by omega), hbX60⟩
    case o1_7 =>
      go_simp
      refine afterAlloc (fun X61 hc61 hl61 zn61 => ?_)
      have hbX61 : Below W.heap.size W X61 := hb0.trans (hc61.mono hs0)
      have hsX61 : W.heap.size ≤ X61.heap.size := hbX61.size
      refine hK.out _ _ (mkS _ ((Kept.refl _ _).below hbX61)) (fun hHeld2 => ?_)
      clear hK K hHeld
      have hHeld := hHeld2
      clear hHeld2
      try simp only [Act.put, List.setIfInBounds_toArray, List.set_cons_zero, List.set_cons_succ]
      refine wpAnyH_ready (rs := [2, 6]) (by kernel_rfl) (by simp) ?_
      refine AllReadyH.cons rfl (fun K hK => ?o62_2) (AllReadyH.cons rfl (fun K hK => ?o62_6) AllReadyH.nil)
      case o62_2 =>
        go_simp
        refine (addQ_any (Q0W.later hbX61) (Q1W.later hbX61) (by omega)).mono ?_
        rintro e X63 ⟨rA, rfl, qA, hc63⟩
        obtain ⟨mA, fsA, gsA, fA, gA, jA, kA, rfl⟩ := qA.arg.box
        go_simp
        have hbX63 : Below W.heap.size W X63 := hbX61.trans (hc63.mono hsX61)
        have hsX63 : W.heap.size ≤ X63.heap.size := hbX63.size
        have z1X63 := zn61.later hc63
        refine hK.out _ _ (mkS _ ((Kept.refl _ _).below hbX63)) (fun hHeld2 => ?_)
        clear hK K hHeld
        have hHeld := hHeld2
        clear hHeld2
        try simp only [Act.put, List.setIfInBounds_toArray, List.set_cons_zero, List.set_cons_succ]
        refine wpAnyH_ready (rs := [5, 6]) (by kernel_rfl) (by simp) ?_
        refine AllReadyH.cons rfl (fun K hK => ?o64_5) (AllReadyH.cons rfl (fun K hK => ?o64_6) AllReadyH.nil)
        case o64_5 =>
          go_simp
          refine (mulQ_any (Q0W.later hbX63) (Q1W.later hbX63) (by omega)).mono ?_
          rintro e X65 ⟨rB, rfl, qB, hc65⟩
          obtain ⟨mB, fsB, gsB, fB, gB, jB, kB, rfl⟩ := qB.arg.box
          go_simp
          have hbX65 : Below W.heap.size W X65 := hbX63.trans (hc65.mono hsX63)
          have hsX65 : W.heap.size ≤ X65.heap.size := hbX65.size
          have q0X65 := qA.later hc65
          have z1X65 := z1X63.later hc65
          refine hK.out _ _ (mkS _ ((Kept.refl _ _).below hbX65)) (fun hHeld2 => ?_)
          clear hK K hHeld
          have hHeld := hHeld2
          clear hHeld2
          try simp only [Act.put, List.setIfInBounds_toArray, List.set_cons_zero, List.set_cons_succ]
          refine wpAnyH_ready (rs := [6]) (by kernel_rfl) (by simp) ?_
          refine AllReadyH.cons rfl (fun K hK => ?o66_6) AllReadyH.nil
          case o66_6 =>
            go_simp
            refine afterAlloc (fun X67 hc67 hl67 zn67 => ?_)
            have hbX67 : Below W.heap.size W X67 := hbX65.trans (hc67.mono hsX65)
            have hsX67 : W.heap.size ≤ X67.heap.size := hbX67.size
            have q0X67 := q0X65.later hc67
            have z1X67 := z1X65.later hc67
            have q1X67 := qB.later hc67
            have lt1X67 := z1X65.lt
            refine hK.out _ _ (mkS _ ((Kept.refl _ _).below hbX67)) (fun hHeld2 => ?_)
            clear hK K hHeld
            have hHeld := hHeld2
            clear hHeld2
            try simp only [Act.put, List.setIfInBounds_toArray, List.set_cons_zero, List.set_cons_succ]
            obtain ⟨d680, d681, d682, d683, d684, d685⟩ := zn67.three
            refine wpAnyH_ready (rs := [8]) (by kernel_rfl) (by simp) ?_
            refine AllReadyH.cons rfl (fun K hK => ?s68) AllReadyH.nil
            go_simp
            refine afterSet3 zn67 (fun X68 o68 zs68 => ?_)
            clear d680 d681 d682 d683 d684 d685
            have hbX68 : Below W.heap.size W X68 := hbX67.trans (o68.below hsX65)
            have z1X68 := z1X67.only o68 (by omega)
            have q0X68 := q0X67.only zn67 o68
            have q1X68 := q1X67.only zn67 o68
            refine hK.out _ _ (mkS _ ((Kept.refl _ _).below hbX68)) (fun hHeld => ?_)
            clear hK K
            try simp only [Act.put, List.setIfInBounds_toArray, List.set_cons_zero, List.set_cons_succ]
            obtain ⟨d690, d691, d692, d693, d694, d695⟩ := z1X68.three
            refine wpAnyH_ready (rs := [9]) (by kernel_rfl) (by simp) ?_
            refine AllReadyH.cons rfl (fun K hK => ?s69) AllReadyH.nil
            go_simp
            refine afterSet3 z1X68 (fun X69 o69 zs69 => ?_)
            clear d690 d691 d692 d693 d694 d695
            have hbX69 : Below W.heap.size W X69 := hbX68.trans (o69.below hs0)
            have z0X69 := zs68.only o69 (by omega)
            have q0X69 := q0X68.only z1X68 o69
            have q1X69 := q1X68.only z1X68 o69
            refine hK.out _ _ (mkS _ ((Kept.refl _ _).below hbX69)) (fun hHeld => ?_)
            clear hK K
            try simp only [Act.put, List.setIfInBounds_toArray, List.set_cons_zero, List.set_cons_succ]
            refine wpAnyH_done (by kernel_rfl) ?_ _
            refine NoPanic.normal ?_
            go_wp2_with fail
            go_meet
            exact ⟨_, mA, fsA, gsA, fA, gA, jA, kA, _, mB, fsB, gsB, fB, gB, jB, kB, rfl, rfl, z0X69, zs69, (q0X69.more (by omega)).mono (by omega), (q1X69.more (by omega)).mono (by omega), hbX69⟩
        case o64_6 =>
          go_simp
          refine afterAlloc (fun X70 hc70 hl70 zn70 => ?_)
          have hbX70 : Below W.heap.size W X70 := hbX63.trans (hc70.mono hsX63)
          have hsX70 : W.heap.size ≤ X70.heap.size := hbX70.size
          have q0X70 := qA.later hc70
          have z1X70 := z1X63.later hc70
          have lt1X70 := z1X63.lt
          refine hK.out _ _ (mkS _ ((Kept.refl _ _).below hbX70)) (fun hHeld2 => ?_)
          clear hK K hHeld
          have hHeld := hHeld2
          clear hHeld2
          try simp only [Act.put, List.setIfInBounds_toArray, List.set_cons_zero, List.set_cons_succ]
          refine wpAnyH_ready (rs := [5]) (by kernel_rfl) (by simp) ?_
          refine AllReadyH.cons rfl (fun K hK => ?o71_5) AllReadyH.nil
          case o71_5 =>
            go_simp
            refine (mulQ_any (Q0W.later hbX70) (Q1W.later hbX70) (by omega)).mono ?_
            rintro e X72 ⟨rB, rfl, qB, hc72⟩
            obtain ⟨mB, fsB, gsB, fB, gB, jB, kB, rfl⟩ := qB.arg.box
            go_simp
            have hbX72 : Below W.heap.size W X72 := hbX70.trans (hc72.mono hsX70)
            have hsX72 : W.heap.size ≤ X72.heap.size := hbX72.size
            have z0X72 := zn70.later hc72
            have q0X72 := q0X70.later hc72
            have z1X72 := z1X70.later hc72
            refine hK.out _ _ (mkS _ ((Kept.refl _ _).below hbX72)) (fun hHeld2 => ?_)
            clear hK K hHeld
            have hHeld := hHeld2
            clear hHeld2
            try simp only [Act.put, List.setIfInBounds_toArray, List.set_cons_zero, List.set_cons_succ]
            obtain ⟨d730, d731, d732, d733, d734, d735⟩ := z0X72.three
            refine wpAnyH_ready (rs := [8]) (by kernel_rfl) (by simp) ?_
            refine AllReadyH.cons rfl (fun K hK => ?s73) AllReadyH.nil
            go_simp
            refine afterSet3 z0X72 (fun X73 o73 zs73 => ?_)
            clear d730 d731 d732 d733 d734 d735
            have hbX73 : Below W.heap.size W X73 := hbX72.trans (o73.below hsX63)
            have z1X73 := z1X72.only o73 (by omega)
            have q0X73 := q0X72.only z0X72 o73
            have q1X73 := qB.only z0X72 o73
            refine hK.out _ _ (mkS _ ((Kept.refl _ _).below hbX73)) (fun hHeld => ?_)
            clear hK K
            try simp only [Act.put, List.setIfInBounds_toArray, List.set_cons_zero, List.set_cons_succ]
            obtain ⟨d740, d741, d742, d743, d744, d745⟩ := z1X73.three
            refine wpAnyH_ready (rs := [9]) (by kernel_rfl) (by simp) ?_
            refine AllReadyH.cons rfl (fun K hK => ?s74) AllReadyH.nil
            go_simp
            refine afterSet3 z1X73 (fun X74 o74 zs74 => ?_)
            clear d740 d741 d742 d743 d744 d745
            have hbX74 : Below W.heap.size W X74 := hbX73.trans (o74.below hs0)
            have z0X74 := zs73.only o74 (by omega)
            have q0X74 := q0X73.only z1X73 o74
            have q1X74 := q1X73.only z1X73 o74
            refine hK.out _ _ (mkS _ ((Kept.refl _ _).below hbX74)) (fun hHeld => ?_)
            clear hK K
            try simp only [Act.put, List.setIfInBounds_toArray, List.set_cons_zero, List.set_cons_succ]
            refine wpAnyH_done (by kernel_rfl) ?_ _
            refine NoPanic.normal ?_
            go_wp2_with fail
            go_meet
            exact ⟨_, mA, fsA, gsA, fA, gA, jA, kA, _, mB, fsB, gsB, fB, gB, jB, kB, rfl, rfl, z0X74, zs74, (q0X74.more (by omega)).mono (by omega), (q1X74.more (by omega)).mono (by omega), hbX74⟩
      case o62_6 =>
        go_simp
        refine afterAlloc (fun X75 hc75 hl75 zn75 => ?_)
        have hbX75 : Below W.heap.size W X75 := hbX61.trans (hc75.mono hsX61)
        have hsX75 : W.heap.size ≤ X75.heap.size := hbX75.size
        have z1X75 := zn61.later hc75
        have lt1X75 := zn61.lt
        refine hK.out _ _ (mkS _ ((Kept.refl _ _).below hbX75)) (fun hHeld2 => ?_)
        clear hK K hHeld
        have hHeld := hHeld2
        clear hHeld2
        try simp only [Act.put, List.setIfInBounds_toArray, List.set_cons_zero, List.set_cons_succ]
        refine wpAnyH_ready (rs := [2]) (by kernel_rfl) (by simp) ?_
        refine AllReadyH.cons rfl (fun K hK => ?o76_2) AllReadyH.nil
        case o76_2 =>
          go_simp
          refine (addQ_any (Q0W.later hbX75) (Q1W.later hbX75) (by omega)).mono ?_
          rintro e X77 ⟨rA, rfl, qA, hc77⟩
          obtain ⟨mA, fsA, gsA, fA, gA, jA, kA, rfl⟩ := qA.arg.box
          go_simp
          have hbX77 : Below W.heap.size W X77 := hbX75.trans (hc77.mono hsX75)
          have hsX77 : W.heap.size ≤ X77.heap.size := hbX77.size
          have z0X77 := zn75.later hc77
          have z1X77 := z1X75.later hc77
          refine hK.out _ _ (mkS _ ((Kept.refl _ _).below hbX77)) (fun hHeld2 => ?_)
          clear hK K hHeld
          have hHeld := hHeld2
          clear hHeld2
          try simp only [Act.put, List.setIfInBounds_toArray, List.set_cons_zero, List.set_cons_succ]
          refine wpAnyH_ready (rs := [5]) (by kernel_rfl) (by simp) ?_
          refine AllReadyH.cons rfl (fun K hK => ?o78_5) AllReadyH.nil
          case o78_5 =>
            go_simp
            refine (mulQ_any (Q0W.later hbX77) (Q1W.later hbX77) (by omega)).mono ?_
            rintro e X79 ⟨rB, rfl, qB, hc79⟩
            obtain ⟨mB, fsB, gsB, fB, gB, jB, kB, rfl⟩ := qB.arg.box
            go_simp
            have hbX79 : Below W.heap.size W X79 := hbX77.trans (hc79.mono hsX77)
            have hsX79 : W.heap.size ≤ X79.heap.size := hbX79.size
            have z0X79 := z0X77.later hc79
            have q0X79 := qA.later hc79
            have z1X79 := z1X77.later hc79
            refine hK.out _ _ (mkS _ ((Kept.refl _ _).below hbX79)) (fun hHeld2 => ?_)
            clear hK K hHeld
            have hHeld := hHeld2
            clear hHeld2
            try simp only [Act.put, List.setIfInBounds_toArray, List.set_cons_zero, List.set_cons_succ]
            obtain ⟨d800, d801, d802, d803, d804, d805⟩ := z0X79.three
            refine wpAnyH_ready (rs := [8]) (by kernel_rfl) (by simp) ?_
            refine AllReadyH.cons rfl (fun K hK => ?s80) AllReadyH.nil
            go_simp
            refine afterSet3 z0X79 (fun X80 o80 zs80 => ?_)
            clear d800 d801 d802 d803 d804 d805
            have hbX80 : Below W.heap.size W X80 := hbX79.trans (o80.below hsX61)
            have z1X80 := z1X79.only o80 (by omega)
            have q0X80 := q0X79.only z0X79 o80
            have q1X80 := qB.only z0X79 o80
            refine hK.out _ _ (mkS _ ((Kept.refl _ _).below hbX80)) (fun hHeld => ?_)
            clear hK K
            try simp only [Act.put, List.setIfInBounds_toArray, List.set_cons_zero, List.set_cons_succ]
            obtain ⟨d810, d811, d812, d813, d814, d815⟩ := z1X80.three
            refine wpAnyH_ready (rs := [9]) (by kernel_rfl) (by simp) ?_
            refine AllReadyH.cons rfl (fun K hK => ?s81) AllReadyH.nil
            go_simp
            refine afterSet3 z1X80 (fun X81 o81 zs81 => ?_)
            clear d810 d811 d812 d813 d814 d815
            have hbX81 : Below W.heap.size W X81 := hbX80.trans (o81.below hs0)
            have z0X81 := zs80.only o81 (by omega)
            have q0X81 := q0X80.only z1X80 o81
            have q1X81 := q1X80.only z1X80 o81
            refine hK.out _ _ (mkS _ ((Kept.refl _ _).below hbX81)) (fun hHeld => ?_)
            clear hK K
            try simp only [Act.put, List.setIfInBounds_toArray, List.set_cons_zero, List.set_cons_succ]
            refine wpAnyH_done (by kernel_rfl) ?_ _
            refine NoPanic.normal ?_
            go_wp2_with fail
            go_meet
            exact ⟨_, mA, fsA, gsA, fA, gA, jA, kA, _, mB, fsB, gsB, fB, gB, jB, kB, rfl, rfl, z0X81, zs81, (q0X81.more (by omega)).mono (by omega), (q1X81.more (by omega)).mono (by omega), hbX81⟩
  case rest =>
    obtain ⟨bA, mA, fsA, gsA, fA, gA, jA, kA, bB, mB, fsB, gsB, fB, gB, jB, kB, rfl, rfl, RA, RB, qA, qB, hb1⟩ := hcut
    have hs1 := hb1.size
    have Q0U := Q0W.later hb1
    have R0U := R0.later hb1
    have Q1U := Q1W.later hb1
    have R1U := R1.later hb1
    have Q2U := Q2W.later hb1
    have R2U := R2.later hb1
    have hBU : Below w.heap.size w wc := hBW.trans (hb1.mono (by omega))
    clear Q0 Q0W R0 Q1 Q1W R1 Q2 Q2W R2
    go_wp2_with fail
    have lt_R0U := R0U.lt
    have lt_R1U := R1U.lt
    have lt_R2U := R2U.lt
    have lt_RA := RA.lt
    have lt_RB := RB.lt
    have mkS : ∀ X, Kept (wc.heap.size) wc X → X.cell? ⟨w.heap.size, 0, none⟩ = some (.bool neg0) ∧ X.cell? ⟨w.heap.size, 1, none⟩ = some (.slice a0 xs0.length ca0) ∧ X.cell? ⟨w.heap.size, 2, none⟩ = some (.slice b0 ds0.length cb0) ∧ X.cell? ⟨w.heap.size + 1, 0, none⟩ = some (.bool neg1) ∧ X.cell? ⟨w.heap.size + 1, 1, none⟩ = some (.slice a1 xs1.length ca1) ∧ X.cell? ⟨w.heap.size + 1, 2, none⟩ = some (.slice b1 ds1.length cb1) ∧ X.cell? ⟨w.heap.size + 1 + 1, 0, none⟩ = some (.bool neg2) ∧ X.cell? ⟨w.heap.size + 1 + 1, 1, none⟩ = some (.slice a2 xs2.length ca2) ∧ X.cell? ⟨w.heap.size + 1 + 1, 2, none⟩ = some (.slice b2 ds2.length cb2) ∧ X.cell? ⟨bA, 0, none⟩ = some (.bool mA) ∧ X.cell? ⟨bA, 1, none⟩ = some (.slice fA fsA.length jA) ∧ X.cell? ⟨bA, 2, none⟩ = some (.slice gA gsA.length kA) ∧ X.cell? ⟨bB, 0, none⟩ = some (.bool mB) ∧ X.cell? ⟨bB, 1, none⟩ = some (.slice fB fsB.length jB) ∧ X.cell? ⟨bB, 2, none⟩ = some (.slice gB gsB.length kB) ∧ Kept (wc.heap.size) wc X := fun X h => ⟨(R0U.kept h (by omega)).cell 0, (R0U.kept h (by omega)).cell 1, (R0U.kept h (by omega)).cell 2, (R1U.kept h (by omega)).cell 0, (R1U.kept h (by omega)).cell 1, (R1U.kept h (by omega)).cell 2, (R2U.kept h (by omega)).cell 0, (R2U.kept h (by omega)).cell 1, (R2U.kept h (by omega)).cell 2, (RA.kept h (by omega)).cell 0, (RA.kept h (by omega)).cell 1, (RA.kept h (by omega)).cell 2, (RB.kept h (by omega)).cell 0, (RB.kept h (by omega)).cell 1, (RB.kept h (by omega)).cell 2, h⟩
    go_region_held3 (fun X => X.cell? ⟨w.heap.size, 0, none⟩ = some (.bool neg0) ∧ X.cell? ⟨w.heap.size, 1, none⟩ = some (.slice a0 xs0.length ca0) ∧ X.cell? ⟨w.heap.size, 2, none⟩ = some (.slice b0 ds0.length cb0) ∧ X.cell? ⟨w.heap.size + 1, 0, none⟩ = some (.bool neg1) ∧ X.cell? ⟨w.heap.size + 1, 1, none⟩ = some (.slice a1 xs1.length ca1) ∧ X.cell? ⟨w.heap.size + 1, 2, none⟩ = some (.slice b1 ds1.length cb1) ∧ X.cell? ⟨w.heap.size + 1 + 1, 0, none⟩ = some (.bool neg2) ∧ X.cell? ⟨w.heap.size + 1 + 1, 1, none⟩ = some (.slice a2 xs2.length ca2) ∧ X.cell? ⟨w.heap.size + 1 + 1, 2, none⟩ = some (.slice b2 ds2.length cb2) ∧ X.cell? ⟨bA, 0, none⟩ = some (.bool mA) ∧ X.cell? ⟨bA, 1, none⟩ = some (.slice fA fsA.length jA) ∧ X.cell? ⟨bA, 2, none⟩ = some (.slice gA gsA.length kA) ∧ X.cell? ⟨bB, 0, none⟩ = some (.bool mB) ∧ X.cell? ⟨bB, 1, none⟩ = some (.slice fB fsB.length jB) ∧ X.cell? ⟨bB, 2, none⟩ = some (.slice gB gsB.length kB) ∧ Kept (wc.heap.size) wc X)
      (((refine mkS _ ?_; (repeat' (first | exact Kept.refl _ _ | refine Kept.drew ?_ | refine Kept.alloc ?_ _ | refine Kept.set ?_ _ _ | refine Kept.below ?_ (by assumption))))))
      ((first
        | (go_at_call 44; have hprev := hbv11; clear hprev; (with_reducible refine (same3_any (qv9.later (show Below v9.heap.size v9 _ by (repeat' (first | exact Below.refl _ _ | refine Below.drew ?_ | refine Below.alloc ?_ (by (try simp) <;> omega) _ | refine below_set3 ?_ (by (try simp) <;> omega) _ _ _ | refine below_set2 ?_ (by (try simp) <;> omega) _ _ | refine Below.setCell ?_ (by (try simp) <;> omega) _ | refine Below.trans ?_ (Below.mono (by assumption) (by (try simp) <;> omega)))))) qv11 E4.out (by omega) (by omega)).mono ?_); rintro e v12 ⟨rfl, hbv12⟩; have hsv12 := hbv12.size; (try simp at hsv12); skip)
        | (go_at_call 32; have hprev := hbv10; clear hprev; (with_reducible refine (mulQ_any (n := 2097162) ((Q0U.later (show Below wc.heap.size wc _ by (repeat' (first | exact Below.refl _ _ | refine Below.drew ?_ | refine Below.alloc ?_ (by (try simp) <;> omega) _ | refine below_set3 ?_ (by (try simp) <;> omega) _ _ _ | refine below_set2 ?_ (by (try simp) <;> omega) _ _ | refine Below.setCell ?_ (by (try simp) <;> omega) _ | refine Below.trans ?_ (Below.mono (by assumption) (by (try simp) <;> omega)))))).more (by omega)) (qv10.arg.more (by omega)) (by omega)).mono ?_); rintro e v11 ⟨r11, rfl, qv11, hbv11⟩; have hsv11 := hbv11.size; (try simp at hsv11); skip)
        | (go_at_call 32; have hprev := hbv9; clear hprev; (with_reducible refine (mulQ_any (n := 1048576) ((Q1U.later (show Below wc.heap.size wc _ by (repeat' (first | exact Below.refl _ _ | refine Below.drew ?_ | refine Below.alloc ?_ (by (try simp) <;> omega) _ | refine below_set3 ?_ (by (try simp) <;> omega) _ _ _ | refine below_set2 ?_ (by (try simp) <;> omega) _ _ | refine Below.setCell ?_ (by (try simp) <;> omega) _ | refine Below.trans ?_ (Below.mono (by assumption) (by (try simp) <;> omega)))))).more (by omega)) ((Q2U.later (show Below wc.heap.size wc _ by (repeat' (first | exact Below.refl _ _ | refine Below.drew ?_ | refine Below.alloc ?_ (by (try simp) <;> omega) _ | refine below_set3 ?_ (by (try simp) <;> omega) _ _ _ | refine below_set2 ?_ (by (try simp) <;> omega) _ _ | refine Below.setCell ?_ (by (try simp) <;> omega) _ | refine Below.trans ?_ (Below.mono (by assumption) (by (try simp) <;> omega)))))).more (by omega)) (by omega)).mono ?_); rintro e v10 ⟨r10, rfl, qv10, hbv10⟩; have hsv10 := hbv10.size; (try simp at hsv10); skip)
        | (go_at_call 32; have hprev := hbv8; clear hprev; (with_reducible refine (mulQ_any (n := 2097162) ((qB.arg.later (show Below wc.heap.size wc _ by (repeat' (first | exact Below.refl _ _ | refine Below.drew ?_ | refine Below.alloc ?_ (by (try simp) <;> omega) _ | refine below_set3 ?_ (by (try simp) <;> omega) _ _ _ | refine below_set2 ?_ (by (try simp) <;> omega) _ _ | refine Below.setCell ?_ (by (try simp) <;> omega) _ | refine Below.trans ?_ (Below.mono (by assumption) (by (try simp) <;> omega)))))).more (by omega)) ((Q2U.later (show Below wc.heap.size wc _ by (repeat' (first | exact Below.refl _ _ | refine Below.drew ?_ | refine Below.alloc ?_ (by (try simp) <;> omega) _ | refine below_set3 ?_ (by (try simp) <;> omega) _ _ _ | refine below_set2 ?_ (by (try simp) <;> omega) _ _ | refine Below.setCell ?_ (by (try simp) <;> omega) _ | refine Below.trans ?_ (Below.mono (by assumption) (by (try simp) <;> omega)))))).more (by omega)) (by omega)).mono ?_); rintro e v9 ⟨r9, rfl, qv9, hbv9⟩; have hsv9 := hbv9.size; (try simp at hsv9); skip)
        | (go_at_call 44; have hprev := hbv7; clear hprev; (with_reducible refine (same3_any (qv5.later (show Below v5.heap.size v5 _ by (repeat' (first | exact Below.refl _ _ | refine Below.drew ?_ | refine Below.alloc ?_ (by (try simp) <;> omega) _ | refine below_set3 ?_ (by (try simp) <;> omega) _ _ _ | refine below_set2 ?_ (by (try simp) <;> omega) _ _ | refine Below.setCell ?_ (by (try simp) <;> omega) _ | refine Below.trans ?_ (Below.mono (by assumption) (by (try simp) <;> omega)))))) qv7 E3.out (by omega) (by omega)).mono ?_); rintro e v8 ⟨rfl, hbv8⟩; have hsv8 := hbv8.size; (try simp at hsv8); skip)
        | (go_at_call 28; have hprev := hbv6; clear hprev; (with_reducible refine (addQ_any (n := 2097162) ((Q0U.later (show Below wc.heap.size wc _ by (repeat' (first | exact Below.refl _ _ | refine Below.drew ?_ | refine Below.alloc ?_ (by (try simp) <;> omega) _ | refine below_set3 ?_ (by (try simp) <;> omega) _ _ _ | refine below_set2 ?_ (by (try simp) <;> omega) _ _ | refine Below.setCell ?_ (by (try simp) <;> omega) _ | refine Below.trans ?_ (Below.mono (by assumption) (by (try simp) <;> omega)))))).more (by omega)) (qv6.arg.more (by omega)) (by omega)).mono ?_); rintro e v7 ⟨r7, rfl, qv7, hbv7⟩; have hsv7 := hbv7.size; (try simp at hsv7); skip)
        | (go_at_call 28; have hprev := hbv5; clear hprev; (with_reducible refine (addQ_any (n := 1048576) ((Q1U.later (show Below wc.heap.size wc _ by (repeat' (first | exact Below.refl _ _ | refine Below.drew ?_ | refine Below.alloc ?_ (by (try simp) <;> omega) _ | refine below_set3 ?_ (by (try simp) <;> omega) _ _ _ | refine below_set2 ?_ (by (try simp) <;> omega) _ _ | refine Below.setCell ?_ (by (try simp) <;> omega) _ | refine Below.trans ?_ (Below.mono (by assumption) (by (try simp) <;> omega)))))).more (by omega)) ((Q2U.later (show Below wc.heap.size wc _ by (repeat' (first | exact Below.refl _ _ | refine Below.drew ?_ | refine Below.alloc ?_ (by (try simp) <;> omega) _ | refine below_set3 ?_ (by (try simp) <;> omega) _ _ _ | refine below_set2 ?_ (by (try simp) <;> omega) _ _ | refine Below.setCell ?_ (by (try simp) <;> omega) _ | refine Below.trans ?_ (Below.mono (by assumption) (by (try simp) <;> omega)))))).more (by omega)) (by omega)).mono ?_); rintro e v6 ⟨r6, rfl, qv6, hbv6⟩; have hsv6 := hbv6.size; (try simp at hsv6); skip)
        | (go_at_call 28; have hprev := hbv4; clear hprev; (with_reducible refine (addQ_any (n := 2097162) ((qA.arg.later (show Below wc.heap.size wc _ by (repeat' (first | exact Below.refl _ _ | refine Below.drew ?_ | refine Below.alloc ?_ (by (try simp) <;> omega) _ | refine below_set3 ?_ (by (try simp) <;> omega) _ _ _ | refine below_set2 ?_ (by (try simp) <;> omega) _ _ | refine Below.setCell ?_ (by (try simp) <;> omega) _ | refine Below.trans ?_ (Below.mono (by assumption) (by (try simp) <;> omega)))))).more (by omega)) ((Q2U.later (show Below wc.heap.size wc _ by (repeat' (first | exact Below.refl _ _ | refine Below.drew ?_ | refine Below.alloc ?_ (by (try simp) <;> omega) _ | refine below_set3 ?_ (by (try simp) <;> omega) _ _ _ | refine below_set2 ?_ (by (try simp) <;> omega) _ _ | refine Below.setCell ?_ (by (try simp) <;> omega) _ | refine Below.trans ?_ (Below.mono (by assumption) (by (try simp) <;> omega)))))).more (by omega)) (by omega)).mono ?_); rintro e v5 ⟨r5, rfl, qv5, hbv5⟩; have hsv5 := hbv5.size; (try simp at hsv5); skip)
        | (go_at_call 44; have hprev := hbv3; clear hprev; (with_reducible refine (same3_any (qB.later (show Below wc.heap.size wc _ by (repeat' (first | exact Below.refl _ _ | refine Below.drew ?_ | refine Below.alloc ?_ (by (try simp) <;> omega) _ | refine below_set3 ?_ (by (try simp) <;> omega) _ _ _ | refine below_set2 ?_ (by (try simp) <;> omega) _ _ | refine Below.setCell ?_ (by (try simp) <;> omega) _ | refine Below.trans ?_ (Below.mono (by assumption) (by (try simp) <;> omega)))))) qv3 E2.out (by omega) (by omega)).mono ?_); rintro e v4 ⟨rfl, hbv4⟩; have hsv4 := hbv4.size; (try simp at hsv4); skip)
        | (go_at_call 32; have hprev := hbv2; clear hprev; (with_reducible refine (mulQ_any (n := 1048576) ((Q1U.later (show Below wc.heap.size wc _ by (repeat' (first | exact Below.refl _ _ | refine Below.drew ?_ | refine Below.alloc ?_ (by (try simp) <;> omega) _ | refine below_set3 ?_ (by (try simp) <;> omega) _ _ _ | refine below_set2 ?_ (by (try simp) <;> omega) _ _ | refine Below.setCell ?_ (by (try simp) <;> omega) _ | refine Below.trans ?_ (Below.mono (by assumption) (by (try simp) <;> omega)))))).more (by omega)) ((Q0U.later (show Below wc.heap.size wc _ by (repeat' (first | exact Below.refl _ _ | refine Below.drew ?_ | refine Below.alloc ?_ (by (try simp) <;> omega) _ | refine below_set3 ?_ (by (try simp) <;> omega) _ _ _ | refine below_set2 ?_ (by (try simp) <;> omega) _ _ | refine Below.setCell ?_ (by (try simp) <;> omega) _ | refine Below.trans ?_ (Below.mono (by assumption) (by (try simp) <;> omega)))))).more (by omega)) (by omega)).mono ?_); rintro e v3 ⟨r3, rfl, qv3, hbv3⟩; have hsv3 := hbv3.size; (try simp at hsv3); skip)
        | (go_at_call 44; have hprev := hbv1; clear hprev; (with_reducible refine (same3_any (qA.later (show Below wc.heap.size wc _ by (repeat' (first | exact Below.refl _ _ | refine Below.drew ?_ | refine Below.alloc ?_ (by (try simp) <;> omega) _ | refine below_set3 ?_ (by (try simp) <;> omega) _ _ _ | refine below_set2 ?_ (by (try simp) <;> omega) _ _ | refine Below.setCell ?_ (by (try simp) <;> omega) _ | refine Below.trans ?_ (Below.mono (by assumption) (by (try simp) <;> omega)))))) qv1 E1.out (by omega) (by omega)).mono ?_); rintro e v2 ⟨rfl, hbv2⟩; have hsv2 := hbv2.size; (try simp at hsv2); skip)
        | (go_at_call 28; (with_reducible refine (addQ_any (n := 1048576) ((Q1U.later (show Below wc.heap.size wc _ by (repeat' (first | exact Below.refl _ _ | refine Below.drew ?_ | refine Below.alloc ?_ (by (try simp) <;> omega) _ | refine below_set3 ?_ (by (try simp) <;> omega) _ _ _ | refine below_set2 ?_ (by (try simp) <;> omega) _ _ | refine Below.setCell ?_ (by (try simp) <;> omega) _ | refine Below.trans ?_ (Below.mono (by assumption) (by (try simp) <;> omega)))))).more (by omega)) ((Q0U.later (show Below wc.heap.size wc _ by (repeat' (first | exact Below.refl _ _ | refine Below.drew ?_ | refine Below.alloc ?_ (by (try simp) <;> omega) _ | refine below_set3 ?_ (by (try simp) <;> omega) _ _ _ | refine below_set2 ?_ (by (try simp) <;> omega) _ _ | refine Below.setCell ?_ (by (try simp) <;> omega) _ | refine Below.trans ?_ (Below.mono (by assumption) (by (try simp) <;> omega)))))).more (by omega)) (by omega)).mono ?_); rintro e v1 ⟨r1, rfl, qv1, hbv1⟩; have hsv1 := hbv1.size; (try simp at hsv1); skip)))
    have hK1 : Below wc.heap.size wc v12 := by (repeat' (first | exact Below.refl _ _ | refine Below.drew ?_ | refine Below.alloc ?_ (by (try simp) <;> omega) _ | refine below_set3 ?_ (by (try simp) <;> omega) _ _ _ | refine below_set2 ?_ (by (try simp) <;> omega) _ _ | refine Below.setCell ?_ (by (try simp) <;> omega) _ | refine Below.trans ?_ (Below.mono (by assumption) (by (try simp) <;> omega))))
    replace Q0U := Q0U.later hK1
    replace Q1U := Q1U.later hK1
    replace Q2U := Q2U.later hK1
    replace R0U := R0U.later hK1
    replace R1U := R1U.later hK1
    replace R2U := R2U.later hK1
    replace RA := RA.later hK1
    replace RB := RB.later hK1
    replace qA := qA.later hK1
    replace qB := qB.later hK1
    have hK1s := hK1.size
    replace hBU := hBU.trans (hK1.mono (by omega))
    clear hbv1 hbv2 hbv3 hbv4 hbv5 hbv6 hbv7 hbv8 hbv9 hbv10 hbv11 hbv12 qv1 qv3 qv5 qv6 qv7 qv9 qv10 qv11
    go_wp2_with fail
    have lt_R0U := R0U.lt
    have lt_R1U := R1U.lt
    have lt_R2U := R2U.lt
    have lt_RA := RA.lt
    have lt_RB := RB.lt
    have mkS : ∀ X, Kept (v12.heap.size) v12 X → X.cell? ⟨w.heap.size, 0, none⟩ = some (.bool neg0) ∧ X.cell? ⟨w.heap.size, 1, none⟩ = some (.slice a0 xs0.length ca0) ∧ X.cell? ⟨w.heap.size, 2, none⟩ = some (.slice b0 ds0.length cb0) ∧ X.cell? ⟨w.heap.size + 1, 0, none⟩ = some (.bool neg1) ∧ X.cell? ⟨w.heap.size + 1, 1, none⟩ = some (.slice a1 xs1.length ca1) ∧ X.cell? ⟨w.heap.size + 1, 2, none⟩ = some (.slice b1 ds1.length cb1) ∧ X.cell? ⟨w.heap.size + 1 + 1, 0, none⟩ = some (.bool neg2) ∧ X.cell? ⟨w.heap.size + 1 + 1, 1, none⟩ = some (.slice a2 xs2.length ca2) ∧ X.cell? ⟨w.heap.size + 1 + 1, 2, none⟩ = some (.slice b2 ds2.length cb2) ∧ X.cell? ⟨bA, 0, none⟩ = some (.bool mA) ∧ X.cell? ⟨bA, 1, none⟩ = some (.slice fA fsA.length jA) ∧ X.cell? ⟨bA, 2, none⟩ = some (.slice gA gsA.length kA) ∧ X.cell? ⟨bB, 0, none⟩ = some (.bool mB) ∧ X.cell? ⟨bB, 1, none⟩ = some (.slice fB fsB.length jB) ∧ X.cell? ⟨bB, 2, none⟩ = some (.slice gB gsB.length kB) ∧ Kept (v12.heap.size) v12 X := fun X h => ⟨(R0U.kept h (by omega)).cell 0, (R0U.kept h (by omega)).cell 1, (R0U.kept h (by omega)).cell 2, (R1U.kept h (by omega)).cell 0, (R1U.kept h (by omega)).cell 1, (R1U.kept h (by omega)).cell 2, (R2U.kept h (by omega)).cell 0, (R2U.kept h (by omega)).cell 1, (R2U.kept h (by omega)).cell 2, (RA.kept h (by omega)).cell 0, (RA.kept h (by omega)).cell 1, (RA.kept h (by omega)).cell 2, (RB.kept h (by omega)).cell 0, (RB.kept h (by omega)).cell 1, (RB.kept h (by omega)).cell 2, h⟩
    go_region_held3 (fun X => X.cell? ⟨w.heap.size, 0, none⟩ = some (.bool neg0) ∧ X.cell? ⟨w.heap.size, 1, none⟩ = some (.slice a0 xs0.length ca0) ∧ X.cell? ⟨w.heap.size, 2, none⟩ = some (.slice b0 ds0.length cb0) ∧ X.cell? ⟨w.heap.size + 1, 0, none⟩ = some (.bool neg1) ∧ X.cell? ⟨w.heap.size + 1, 1, none⟩ = some (.slice a1 xs1.length ca1) ∧ X.cell? ⟨w.heap.size + 1, 2, none⟩ = some (.slice b1 ds1.length cb1) ∧ X.cell? ⟨w.heap.size + 1 + 1, 0, none⟩ = some (.bool neg2) ∧ X.cell? ⟨w.heap.size + 1 + 1, 1, none⟩ = some (.slice a2 xs2.length ca2) ∧ X.cell? ⟨w.heap.size + 1 + 1, 2, none⟩ = some (.slice b2 ds2.length cb2) ∧ X.cell? ⟨bA, 0, none⟩ = some (.bool mA) ∧ X.cell? ⟨bA, 1, none⟩ = some (.slice fA fsA.length jA) ∧ X.cell? ⟨bA, 2, none⟩ = some (.slice gA gsA.length kA) ∧ X.cell? ⟨bB, 0, none⟩ = some (.bool mB) ∧ X.cell? ⟨bB, 1, none⟩ = some (.slice fB fsB.length jB) ∧ X.cell? ⟨bB, 2, none⟩ = some (.slice gB gsB.length kB) ∧ Kept (v12.heap.size) v12 X)
      (((refine mkS _ ?_; (repeat' (first | exact Kept.refl _ _ | refine Kept.drew ?_ | refine Kept.alloc ?_ _ | refine Kept.set ?_ _ _ | refine Kept.below ?_ (by assumption))))))
      ((first
        | (go_at_call 40; have hprev := hbx10; clear hprev; (with_reducible refine (signQ_c qx10.arg E7.out (by omega)).mono ?_); rintro e x11 ⟨rfl, hbx11⟩; have hsx11 := hbx11.size; (try simp at hsx11); skip)
        | (go_at_call 28; have hprev := hbx9; clear hprev; (with_reducible refine (addQ_any (n := 2097162) ((Q0U.later (show Below v12.heap.size v12 _ by (repeat' (first | exact Below.refl _ _ | refine Below.drew ?_ | refine Below.alloc ?_ (by (try simp) <;> omega) _ | refine below_set3 ?_ (by (try simp) <;> omega) _ _ _ | refine below_set2 ?_ (by (try simp) <;> omega) _ _ | refine Below.setCell ?_ (by (try simp) <;> omega) _ | refine Below.trans ?_ (Below.mono (by assumption) (by (try simp) <;> omega)))))).more (by omega)) (qx9.arg.more (by omega)) (by omega)).mono ?_); rintro e x10 ⟨r10, rfl, qx10, hbx10⟩; have hsx10 := hbx10.size; (try simp at hsx10); skip)
        | (go_at_call 34; have hprev := hbx8; clear hprev; (with_reducible refine (negQ_any (Q0U.later (show Below v12.heap.size v12 _ by (repeat' (first | exact Below.refl _ _ | refine Below.drew ?_ | refine Below.alloc ?_ (by (try simp) <;> omega) _ | refine below_set3 ?_ (by (try simp) <;> omega) _ _ _ | refine below_set2 ?_ (by (try simp) <;> omega) _ _ | refine Below.setCell ?_ (by (try simp) <;> omega) _ | refine Below.trans ?_ (Below.mono (by assumption) (by (try simp) <;> omega)))))) (by omega)).mono ?_); rintro e x9 ⟨r9, rfl, qx9, hbx9⟩; have hsx9 := hbx9.size; (try simp at hsx9); skip)
        | (go_at_call 44; have hprev := hbx7; clear hprev; (with_reducible refine (same3_any (qx6.later (show Below x6.heap.size x6 _ by (repeat' (first | exact Below.refl _ _ | refine Below.drew ?_ | refine Below.alloc ?_ (by (try simp) <;> omega) _ | refine below_set3 ?_ (by (try simp) <;> omega) _ _ _ | refine below_set2 ?_ (by (try simp) <;> omega) _ _ | refine Below.setCell ?_ (by (try simp) <;> omega) _ | refine Below.trans ?_ (Below.mono (by assumption) (by (try simp) <;> omega)))))) qx7 E6.out (by omega) (by omega)).mono ?_); rintro e x8 ⟨rfl, hbx8⟩; have hsx8 := hbx8.size; (try simp at hsx8); skip)
        | (go_at_call 12; have hprev := hbx6; clear hprev; (with_reducible refine (norm_any (Q0U.later (show Below v12.heap.size v12 _ by (repeat' (first | exact Below.refl _ _ | refine Below.drew ?_ | refine Below.alloc ?_ (by (try simp) <;> omega) _ | refine below_set3 ?_ (by (try simp) <;> omega) _ _ _ | refine below_set2 ?_ (by (try simp) <;> omega) _ _ | refine Below.setCell ?_ (by (try simp) <;> omega) _ | refine Below.trans ?_ (Below.mono (by assumption) (by (try simp) <;> omega)))))) (by omega)).mono ?_); rintro e x7 ⟨r7, rfl, qx7, hbx7⟩; have hsx7 := hbx7.size; (try simp at hsx7); skip)
        | (go_at_call 30; have hprev := hbx5; clear hprev; (with_reducible refine (subQ_any (n := 2097162) ((qA.arg.later (show Below v12.heap.size v12 _ by (repeat' (first | exact Below.refl _ _ | refine Below.drew ?_ | refine Below.alloc ?_ (by (try simp) <;> omega) _ | refine below_set3 ?_ (by (try simp) <;> omega) _ _ _ | refine below_set2 ?_ (by (try simp) <;> omega) _ _ | refine Below.setCell ?_ (by (try simp) <;> omega) _ | refine Below.trans ?_ (Below.mono (by assumption) (by (try simp) <;> omega)))))).more (by omega)) ((Q1U.later (show Below v12.heap.size v12 _ by (repeat' (first | exact Below.refl _ _ | refine Below.drew ?_ | refine Below.alloc ?_ (by (try simp) <;> omega) _ | refine below_set3 ?_ (by (try simp) <;> omega) _ _ _ | refine below_set2 ?_ (by (try simp) <;> omega) _ _ | refine Below.setCell ?_ (by (try simp) <;> omega) _ | refine Below.trans ?_ (Below.mono (by assumption) (by (try simp) <;> omega)))))).more (by omega)) (by omega)).mono ?_); rintro e x6 ⟨r6, rfl, qx6, hbx6⟩; have hsx6 := hbx6.size; (try simp at hsx6); skip)
        | (go_at_call 44; have hprev := hbx4; clear hprev; (with_reducible refine (same3_any (qx1.later (show Below x1.heap.size x1 _ by (repeat' (first | exact Below.refl _ _ | refine Below.drew ?_ | refine Below.alloc ?_ (by (try simp) <;> omega) _ | refine below_set3 ?_ (by (try simp) <;> omega) _ _ _ | refine below_set2 ?_ (by (try simp) <;> omega) _ _ | refine Below.setCell ?_ (by (try simp) <;> omega) _ | refine Below.trans ?_ (Below.mono (by assumption) (by (try simp) <;> omega)))))) qx4 E5.out (by omega) (by omega)).mono ?_); rintro e x5 ⟨rfl, hbx5⟩; have hsx5 := hbx5.size; (try simp at hsx5); skip)
        | (go_at_call 28; have hprev := hbx3; clear hprev; (with_reducible refine (addQ_any (n := 2097162) ((qx2.arg.later (show Below x2.heap.size x2 _ by (repeat' (first | exact Below.refl _ _ | refine Below.drew ?_ | refine Below.alloc ?_ (by (try simp) <;> omega) _ | refine below_set3 ?_ (by (try simp) <;> omega) _ _ _ | refine below_set2 ?_ (by (try simp) <;> omega) _ _ | refine Below.setCell ?_ (by (try simp) <;> omega) _ | refine Below.trans ?_ (Below.mono (by assumption) (by (try simp) <;> omega)))))).more (by omega)) (qx3.arg.more (by omega)) (by omega)).mono ?_); rintro e x4 ⟨r4, rfl, qx4, hbx4⟩; have hsx4 := hbx4.size; (try simp at hsx4); skip)
        | (go_at_call 32; have hprev := hbx2; clear hprev; (with_reducible refine (mulQ_any (n := 1048576) ((Q1U.later (show Below v12.heap.size v12 _ by (repeat' (first | exact Below.refl _ _ | refine Below.drew ?_ | refine Below.alloc ?_ (by (try simp) <;> omega) _ | refine below_set3 ?_ (by (try simp) <;> omega) _ _ _ | refine below_set2 ?_ (by (try simp) <;> omega) _ _ | refine Below.setCell ?_ (by (try simp) <;> omega) _ | refine Below.trans ?_ (Below.mono (by assumption) (by (try simp) <;> omega)))))).more (by omega)) ((Q2U.later (show Below v12.heap.size v12 _ by (repeat' (first | exact Below.refl _ _ | refine Below.drew ?_ | refine Below.alloc ?_ (by (try simp) <;> omega) _ | refine below_set3 ?_ (by (try simp) <;> omega) _ _ _ | refine below_set2 ?_ (by (try simp) <;> omega) _ _ | refine Below.setCell ?_ (by (try simp) <;> omega) _ | refine Below.trans ?_ (Below.mono (by assumption) (by (try simp) <;> omega)))))).more (by omega)) (by omega)).mono ?_); rintro e x3 ⟨r3, rfl, qx3, hbx3⟩; have hsx3 := hbx3.size; (try simp at hsx3); skip)
        | (go_at_call 32; have hprev := hbx1; clear hprev; (with_reducible refine (mulQ_any (n := 1048576) ((Q0U.later (show Below v12.heap.size v12 _ by (repeat' (first | exact Below.refl _ _ | refine Below.drew ?_ | refine Below.alloc ?_ (by (try simp) <;> omega) _ | refine below_set3 ?_ (by (try simp) <;> omega) _ _ _ | refine below_set2 ?_ (by (try simp) <;> omega) _ _ | refine Below.setCell ?_ (by (try simp) <;> omega) _ | refine Below.trans ?_ (Below.mono (by assumption) (by (try simp) <;> omega)))))).more (by omega)) ((Q2U.later (show Below v12.heap.size v12 _ by (repeat' (first | exact Below.refl _ _ | refine Below.drew ?_ | refine Below.alloc ?_ (by (try simp) <;> omega) _ | refine below_set3 ?_ (by (try simp) <;> omega) _ _ _ | refine below_set2 ?_ (by (try simp) <;> omega) _ _ | refine Below.setCell ?_ (by (try simp) <;> omega) _ | refine Below.trans ?_ (Below.mono (by assumption) (by (try simp) <;> omega)))))).more (by omega)) (by omega)).mono ?_); rintro e x2 ⟨r2, rfl, qx2, hbx2⟩; have hsx2 := hbx2.size; (try simp at hsx2); skip)
        | (go_at_call 32; (with_reducible refine (mulQ_any (n := 2097162) ((qA.arg.later (show Below v12.heap.size v12 _ by (repeat' (first | exact Below.refl _ _ | refine Below.drew ?_ | refine Below.alloc ?_ (by (try simp) <;> omega) _ | refine below_set3 ?_ (by (try simp) <;> omega) _ _ _ | refine below_set2 ?_ (by (try simp) <;> omega) _ _ | refine Below.setCell ?_ (by (try simp) <;> omega) _ | refine Below.trans ?_ (Below.mono (by assumption) (by (try simp) <;> omega)))))).more (by omega)) ((Q2U.later (show Below v12.heap.size v12 _ by (repeat' (first | exact Below.refl _ _ | refine Below.drew ?_ | refine Below.alloc ?_ (by (try simp) <;> omega) _ | refine below_set3 ?_ (by (try simp) <;> omega) _ _ _ | refine below_set2 ?_ (by (try simp) <;> omega) _ _ | refine Below.setCell ?_ (by (try simp) <;> omega) _ | refine Below.trans ?_ (Below.mono (by assumption) (by (try simp) <;> omega)))))).more (by omega)) (by omega)).mono ?_); rintro e x1 ⟨r1, rfl, qx1, hbx1⟩; have hsx1 := hbx1.size; (try simp at hsx1); skip)))
    have hK2 : Below v12.heap.size v12 x11 := by (repeat' (first | exact Below.refl _ _ | refine Below.drew ?_ | refine Below.alloc ?_ (by (try simp) <;> omega) _ | refine below_set3 ?_ (by (try simp) <;> omega) _ _ _ | refine below_set2 ?_ (by (try simp) <;> omega) _ _ | refine Below.setCell ?_ (by (try simp) <;> omega) _ | refine Below.trans ?_ (Below.mono (by assumption) (by (try simp) <;> omega))))
    replace Q0U := Q0U.later hK2
    replace Q1U := Q1U.later hK2
    replace Q2U := Q2U.later hK2
    replace R0U := R0U.later hK2
    replace R1U := R1U.later hK2
    replace R2U := R2U.later hK2
    replace RA := RA.later hK2
    replace RB := RB.later hK2
    replace qA := qA.later hK2
    replace qB := qB.later hK2
    have hK2s := hK2.size
    replace hBU := hBU.trans (hK2.mono (by omega))
    clear hbx1 hbx2 hbx3 hbx4 hbx5 hbx6 hbx7 hbx8 hbx9 hbx10 hbx11 qx1 qx2 qx3 qx4 qx6 qx7 qx9 qx10
    obtain ⟨t0, t1, t2, _, _, _⟩ := R1U.three
    go_wp2_with fail
    refine (signQ_c Q1U HS.out (by omega)).mono ?_
    rintro e V5 ⟨rfl, hb5⟩
    have hs5 := hb5.size
    have hBV : Below w.heap.size w V5 := hBU.trans (hb5.mono (by omega))
    clear t0 t1 t2
    by_cases h0 : X1 = 0
    · have hz : s = 0 := HZ.out.2 h0
      subst hz
      go_wp2_with fail
      refine (known3_any _).mono ?_
      rintro e V9 ⟨rfl, hb9⟩
      go_wp2_with fail
      go_ret
      exact ⟨rfl, hBV.trans (hb9.mono (by omega))⟩
    · have hz : ¬ s = 0 := fun h => h0 (HZ.out.1 h)
      have hz2 : (s != 0) = true := by simpa using hz
      have E8 := Lib.hid (rat_back3 X0 X1 h0)
      have Q0V := Q0U.later hb5
      have Q1V := Q1U.later hb5
      have R0V := R0U.later hb5
      have R1V := R1U.later hb5
      have RBV := RB.later hb5
      have qBV := qB.later hb5
      obtain ⟨t0, t1, t2, _, _, _⟩ := R1V.three
      obtain ⟨y0, y1, y2, _, _, _⟩ := RBV.three
      go_wp2_with fail
      refine (divQ_any (n := 2097162) (qBV.arg.more (by omega)) (Q1V.more (by omega)) h0 (by omega)).mono ?_
      rintro e V6 ⟨r6, rfl, q6, hb6⟩
      have hs6 := hb6.size
      rw [E8.out] at q6
      obtain ⟨m9, fs9, gs9, f9, g9, j9, k9, rfl⟩ := q6.arg.box
      obtain ⟨V7, hV7⟩ : ∃ V, V6.alloc (.cells #[.bool m9, .slice f9 fs9.length j9, .slice g9 gs9.length k9] 25) = V := ⟨_, rfl⟩
      have hb7 : Below V6.heap.size V6 V7 := by rw [← hV7]; exact (Below.refl _ _).alloc (Nat.le_refl _) _
      have R9 : Row V7 V6.heap.size 25 #[.bool m9, .slice f9 fs9.length j9, .slice g9 gs9.length k9] := by rw [← hV7]; exact Row.new _ _ _
      have hs7 := hb7.size
      have q7 := q6.later hb7
      have Q0Y := (Q0V.later hb6).later hb7
      have R0Y := (R0V.later hb6).later hb7
      have hBY : Below w.heap.size w V7 := (hBV.trans (hb6.mono (by omega))).trans (hb7.mono (by omega))
      clear t0 t1 t2 y0 y1 y2 Q0V Q1V R0V R1V RBV qBV q6 Q0U Q1U Q2U R0U R1U R2U RA RB qA qB
      go_wp2_with fail
      (try rw [hV7])
      clear hV7
      have lt_R0Y := R0Y.lt
      have lt_R9 := R9.lt
      have mkS : ∀ X, Kept (V7.heap.size) V7 X → X.cell? ⟨w.heap.size, 0, none⟩ = some (.bool neg0) ∧ X.cell? ⟨w.heap.size, 1, none⟩ = some (.slice a0 xs0.length ca0) ∧ X.cell? ⟨w.heap.size, 2, none⟩ = some (.slice b0 ds0.length cb0) ∧ X.cell? ⟨V6.heap.size, 0, none⟩ = some (.bool m9) ∧ X.cell? ⟨V6.heap.size, 1, none⟩ = some (.slice f9 fs9.length j9) ∧ X.cell? ⟨V6.heap.size, 2, none⟩ = some (.slice g9 gs9.length k9) ∧ Kept (V7.heap.size) V7 X := fun X h => ⟨(R0Y.kept h (by omega)).cell 0, (R0Y.kept h (by omega)).cell 1, (R0Y.kept h (by omega)).cell 2, (R9.kept h (by omega)).cell 0, (R9.kept h (by omega)).cell 1, (R9.kept h (by omega)).cell 2, h⟩
      go_region_held3 (fun X => X.cell? ⟨w.heap.size, 0, none⟩ = some (.bool neg0) ∧ X.cell? ⟨w.heap.size, 1, none⟩ = some (.slice a0 xs0.length ca0) ∧ X.cell? ⟨w.heap.size, 2, none⟩ = some (.slice b0 ds0.length cb0) ∧ X.cell? ⟨V6.heap.size, 0, none⟩ = some (.bool m9) ∧ X.cell? ⟨V6.heap.size, 1, none⟩ = some (.slice f9 fs9.length j9) ∧ X.cell? ⟨V6.heap.size, 2, none⟩ = some (.slice g9 gs9.length k9) ∧ Kept (V7.heap.size) V7 X)
        (((refine mkS _ ?_; (repeat' (first | exact Kept.refl _ _ | refine Kept.drew ?_ | refine Kept.alloc ?_ _ | refine Kept.set ?_ _ _ | refine Kept.below ?_ (by assumption))))))
        ((first
          | (go_at_call 44; have hprev := hby1; clear hprev; (with_reducible refine (same3_any (q7.later (show Below V7.heap.size V7 _ by (repeat' (first | exact Below.refl _ _ | refine Below.drew ?_ | refine Below.alloc ?_ (by (try simp) <;> omega) _ | refine below_set3 ?_ (by (try simp) <;> omega) _ _ _ | refine below_set2 ?_ (by (try simp) <;> omega) _ _ | refine Below.setCell ?_ (by (try simp) <;> omega) _ | refine Below.trans ?_ (Below.mono (by assumption) (by (try simp) <;> omega)))))) qy1 (Lib.hid (Eq.refl X0)).out (by omega) (by omega)).mono ?_); rintro e y2 ⟨rfl, hby2⟩; have hsy2 := hby2.size; (try simp at hsy2); skip)
          | (go_at_call 12; (with_reducible refine (norm_any (Q0Y.later (show Below V7.heap.size V7 _ by (repeat' (first | exact Below.refl _ _ | refine Below.drew ?_ | refine Below.alloc ?_ (by (try simp) <;> omega) _ | refine below_set3 ?_ (by (try simp) <;> omega) _ _ _ | refine below_set2 ?_ (by (try simp) <;> omega) _ _ | refine Below.setCell ?_ (by (try simp) <;> omega) _ | refine Below.trans ?_ (Below.mono (by assumption) (by (try simp) <;> omega)))))) (by omega)).mono ?_); rintro e y1 ⟨r1, rfl, qy1, hby1⟩; have hsy1 := hby1.size; (try simp at hsy1); skip)))
      go_wp2_with fail
      refine (known3_any _).mono ?_
      rintro e V9 ⟨rfl, hb9⟩
      go_wp2_with fail
      go_ret
      exact ⟨rfl, (hBY.trans ((show Below V7.heap.size V7 _ by (repeat' (first | exact Below.refl _ _ | refine Below.drew ?_ | refine Below.alloc ?_ (by (try simp) <;> omega) _ | refine below_set3 ?_ (by (try simp) <;> omega) _ _ _ | refine below_set2 ?_ (by (try simp) <;> omega) _ _ | refine Below.setCell ?_ (by (try simp) <;> omega) _ | refine Below.trans ?_ (Below.mono (by assumption) (by (try simp) <;> omega))))).mono (by omega))).trans (hb9.mono (by omega))⟩

namespace ratField
theorem contract (H : Type) (enc : TypeId × Value → H) (W : World) (base : Nat) (args : Array Value) (ds gs : List (DataW H)) (before : List MemPlace)
    (hval : ∀ (j : Nat) t v, Try.f9.params[j]? = some t → args[j]? = some v → Value.okWide Try.prog W .any base t v)
    (hW : DataW.Whole enc Try.prog Try.f9.params.toList Rows.ratFieldSpec.vars false W args.toList ds gs before) (hk : Rows.uptoSmall H (ds ++ gs) = true) :
    Calls Try.prog 9 args W fun e W' => ∃ v, e = .returned v ∧ Rows.ratFieldSpec.post enc Try.prog Try.f9 false true false false W args v W' := by
  have hW' := hW
  have hlt := fun p hp => hW'.lt p hp
  obtain ⟨p, q, hA0, hV, rfl, hfz, hnd⟩ := hW
  have hA : DataW.TrodAll enc Try.prog W 0 (fun _ => true) true Try.f9.params.toList args.toList ds p := hA0
  rw [Try.params9] at hA hval
  obtain ⟨v0, vs0, d0, ds0, p0, q0, ha0, rfl, rfl, h0, r0⟩ := trodAll_cons hA
  obtain ⟨v1, vs1, d1, ds1, p1, q1, ha1, rfl, rfl, h1, r1⟩ := trodAll_cons r0
  obtain ⟨v2, vs2, d2, ds2, p2, q2, ha2, rfl, rfl, h2, r2⟩ := trodAll_cons r1
  obtain ⟨rfl, rfl, rfl⟩ := trodAll_nil r2
  subst ha1
  subst ha2
  obtain rfl : args = #[v0, v1, v2] := by cases args; simp_all
  obtain ⟨rfl, rfl⟩ := trodVars_none hV
  clear hA hA0 hV
  simp only [List.append_nil] at hW' hk hlt
  obtain ⟨k0, k1, k2⟩ := small3 hk
  obtain ⟨neg0, xs0, ys0, a0, b0, ca0, cb0, rfl, A0, B0, lx0, ly0, nx0, ny0⟩ := open_rat (hval 0 25 v0 rfl rfl) h0 k0
  obtain ⟨neg1, xs1, ys1, a1, b1, ca1, cb1, rfl, A1, B1, lx1, ly1, nx1, ny1⟩ := open_rat (hval 1 25 v1 rfl rfl) h1 k1
  obtain ⟨neg2, xs2, ys2, a2, b2, ca2, cb2, rfl, A2, B2, lx2, ly2, nx2, ny2⟩ := open_rat (hval 2 25 v2 rfl rfl) h2 k2
  refine (ratField_walk neg0 xs0 ys0 a0 b0 ca0 cb0 neg1 xs1 ys1 a1 b1 ca1 cb1 neg2 xs2 ys2 a2 b2 ca2 cb2 W A0 B0 lx0 ly0 nx0 ny0 A1 B1 lx1 ly1 nx1 ny1 A2 B2 lx2 ly2 nx2 ny2).mono fun e W' ⟨he, hb⟩ => ?_
  subst he
  have t0 := Below.trod laid (by kernel_rfl) (of_decide_eq_true (by kernel_rfl)) h0 hb (fun x hx => hlt x (by simp [hx]))
  have t1 := Below.trod laid (by kernel_rfl) (of_decide_eq_true (by kernel_rfl)) h1 hb (fun x hx => hlt x (by simp [hx]))
  have t2 := Below.trod laid (by kernel_rfl) (of_decide_eq_true (by kernel_rfl)) h2 hb (fun x hx => hlt x (by simp [hx]))
  exact ⟨_, rfl, [d0, d1, d2], [], (p0 ++ (p1 ++ p2)), [], (p0 ++ (p1 ++ (p2 ++ []))), [], hW', trodAll_cons_mk (shut_bool Try.underlying4 _) trodAll_mk0,
    (trodAll_cons_mk t0 (trodAll_cons_mk t1 (trodAll_cons_mk t2 trodAll_mk0))), rfl, hb.frame _, fun h => by cases h⟩

set_option maxRecDepth 100000 in
theorem lifted (os : Os) (started : os.Started) (H : Type) (enc : TypeId × Value → H) (F : Stop.Interp) :
    ReturnsInHanded {} Try.checked os 9 .any ((Rows.OpenSpec.upto Rows.ratFieldSpec).pre6 enc Try.prog Try.f9 Rows.ratFieldUptoRow.domain false) (((Rows.OpenSpec.upto Rows.ratFieldSpec).at F).post enc Try.prog Try.f9 false true false false) := by
  refine returnsInHanded_of_cond (C := Try.checked) (s := Rows.OpenSpec.upto Rows.ratFieldSpec) (k := Rows.uptoSmall) rfl own started (by kernel_rfl) Try.func9
    (OpenSpec.witness (enc := enc) (C := Try.checked) (s := Rows.OpenSpec.upto Rows.ratFieldSpec) (k := Rows.uptoSmall) rfl false ⟨#[], #[.agg #[.bool false, .slice none 0 0, .slice none 0 0], .agg #[.bool false, .slice none 0 0, .slice none 0 0], .agg #[.bool false, .slice none 0 0, .slice none 0 0]], []⟩ 8 (by kernel_rfl) (by kernel_rfl) (by kernel_rfl)
      (x := ([.agg [.lit (.bool false), .nil, .nil], .agg [.lit (.bool false), .nil, .nil], .agg [.lit (.bool false), .nil, .nil]], [], [])) (by kernel_rfl) rfl (by kernel_rfl)) ?_
  intro W base args ds gs before hval hW _ hk _
  exact contract H enc W base args ds gs before hval hW hk

theorem proved : Rows.RatFieldUptoSaid :=
  OpenClaim.holds_of_cond 9 Try.f9 rfl rfl rfl rfl rfl rfl rfl ⟨rfl, rfl, rfl, rfl, rfl⟩ rfl rfl rfl rfl rfl (by kernel_rfl) Try.func9 (by kernel_rfl)
    (of_decide_eq_true (by kernel_rfl)) (by unfold Func.isWrapper; first | (rw [if_pos (by decide +kernel)]; kernel_rfl) | (rw [if_neg (by decide +kernel)]; exact ⟨rfl, rfl⟩))
    (fun os started H enc _ F => lifted os started H enc F)
end ratField
end Go.Proofs.Ytofiebilokhccaa
