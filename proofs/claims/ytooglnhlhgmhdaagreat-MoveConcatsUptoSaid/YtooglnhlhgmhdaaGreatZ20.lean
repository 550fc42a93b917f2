/-
  The reference of layer 3: Same.
-/
import Derived.Test.YtooglnhlhgmhdaaGreatZ1
import Derived.Test.YtooglnhlhgmhdaaGreatZ2
import Derived.Test.YtooglnhlhgmhdaaGreatZ3
import Derived.Test.YtooglnhlhgmhdaaGreatZ5
import Derived.Test.YtooglnhlhgmhdaaGreatZ7
import Derived.Test.YtooglnhlhgmhdaaGreatZ11
import Derived.Test.YtooglnhlhgmhdaaGreatZ12
import Derived.Test.YtooglnhlhgmhdaaGreatZ13
import Derived.Test.YtooglnhlhgmhdaaGreatZ14
import Derived.Test.YtooglnhlhgmhdaaGreatZ16
import Derived.WalkKit
import Derived.Test.YtooglnhlhgmhdaaGreatRows
import Derived.BigQuiet
import Derived.Deep.QuietTactic
import Derived.Lib.Hide
import Derived.Lib.Small
import Derived.Lib.Walk
import Derived.Lib.BitFns
import Derived.Maps.AppendAt
import Derived.RangeFuncNested
import Derived.RangeFuncBound
import Derived.RangeFuncCalls
import Derived.RangeFuncLeaves
import Derived.Shelf.Abstract
import Derived.OwnWalkIn
import Derived.TacticsInMore
import Derived.LoopNIn
import Derived.LoopIn
import Derived.RangeFuncBox
import Derived.Deep.RegionHeld3
import Derived.OrdersIn
import Derived.StillTailTactics
import Derived.RangeFuncFrom
import Derived.Laws.EntriesVeiled
import Derived.ProofKit
import Derived.OpenShut
import Derived.JoinedCond
import Derived.Carry
import Derived.Laws.AppendOwnNone
import Derived.Lib.ItoaNum
import Derived.Deep.RegionLaw
import Derived.WalkMore
import Derived.Lib.SmallJoins
import Derived.IntWalk
import Derived.Deep.DeepCutAuto
import Derived.Laws.OwnMore
import Derived.OrdersHeld
import Derived.Deep.RegionHeld
import Derived.ArgAppend
namespace Go.Proofs.YtooglnhlhgmhdaaGreat
set_option maxRecDepth 100000
section
open Go.RowKit
set_option linter.unusedVariables false
set_option linter.unusedSimpArgs false
set_option maxRecDepth 100000
/-- the parts of the reference's rational number -/
def RefQ (w : World) (X : Rat) (n : Nat) (zs ys : List Int) (f g : Option Addr) (j k : Nat) : Prop :=
  ArgD w (.slice f zs.length j) zs f j ∧ ArgD w (.slice g ys.length k) ys g k ∧ valD zs = (X.num.natAbs : Int) ∧ valD ys = (X.den : Int) ∧ zs.length ≤ n ∧ ys.length ≤ n
theorem RefQ.of {w : World} {v : Value} {X : Rat} {n : Nat} {m : Bool} (h : ArgR w v X n) (hm : decide (X.num < 0) = m) : ∃ (zs ys : List Int) (f g : Option Addr) (j k : Nat), v = .agg #[.bool m, .slice f zs.length j, .slice g ys.length k] ∧ RefQ w X n zs ys f g j k := by
  subst hm
  obtain ⟨zs, ys, ad, bd, ca, cb, rfl, h⟩ := h
  exact ⟨zs, ys, ad, bd, ca, cb, rfl, h⟩
theorem RefQ.later {w w' : World} {X : Rat} {n : Nat} {zs ys : List Int} {f g : Option Addr} {j k : Nat} (h : RefQ w X n zs ys f g j k) (hb : Below w.heap.size w w') : RefQ w' X n zs ys f g j k :=
  ⟨h.1.later hb, h.2.1.later hb, h.2.2⟩
theorem RefQ.only {w w' : World} {X : Rat} {n : Nat} {zs ys : List Int} {f g : Option Addr} {j k : Nat} (h : RefQ w X n zs ys f g j k) {b : Nat} {t : TypeId} {p : Bool} {ad bd : Option Addr} {l cap m cbp : Nat} (R : Row w b t #[.bool p, .slice ad l cap, .slice bd m cbp]) (o : Only b w w') : RefQ w' X n zs ys f g j k :=
  ⟨h.1.far R (noInts3 _ _ _ _ _ _ _) o.block, h.2.1.far R (noInts3 _ _ _ _ _ _ _) o.block, h.2.2⟩
theorem sign_zeroB (a b : Int) : (sign a b == 0) = decide (a = b) := by
  unfold sign
  rw [Bool.eq_iff_iff, beq_iff_eq, decide_eq_true_iff]
  constructor
  · intro h
    split at h
    · cases h
    · split at h
      · cases h
      · omega
  · intro h
    rw [if_neg (by omega), if_neg (by omega)]
theorem rat_same (X Y : Rat) : decide (X = Y) = ((decide (X.num < 0) == decide (Y.num < 0)) && ((sign (X.num.natAbs : Int) (Y.num.natAbs : Int) == 0) && (sign (X.den : Int) (Y.den : Int) == 0))) := by
  rw [sign_zeroB, sign_zeroB, Bool.eq_iff_iff]
  simp only [decide_eq_true_iff, Bool.and_eq_true, beq_iff_eq]
  constructor
  · rintro rfl; exact ⟨rfl, rfl, rfl⟩
  · rintro ⟨h1, h2, h3⟩
    refine Rat.ext ?_ (by omega)
    have : X.num < 0 ↔ Y.num < 0 := by simpa using h1
    omega
set_option maxRecDepth 100000 in
set_option maxHeartbeats 8000000 in
theorem sameR_any {n : Nat} {w : World} {neg0 neg1 : Bool} {xs0 ds0 xs1 ds1 : List Int} {a0 b0 a1 b1 : Option Addr} {ca0 cb0 ca1 cb1 : Nat} {X Y : Rat} (hu : ArgQ w (.agg #[.bool neg0, .slice a0 xs0.length ca0, .slice b0 ds0.length cb0]) X n) (hv : ArgQ w (.agg #[.bool neg1, .slice a1 xs1.length ca1, .slice b1 ds1.length cb1]) Y n) (hn : n ≤ 16777000) :
    Calls Tryz.prog 38 #[.agg #[.bool neg0, .slice a0 xs0.length ca0, .slice b0 ds0.length cb0], .agg #[.bool neg1, .slice a1 xs1.length ca1, .slice b1 ds1.length cb1]] w fun e w' => e = .returned (.bool (decide (X = Y))) ∧ Below w.heap.size w w' := by
  obtain ⟨W, hW⟩ : ∃ W, ((w.alloc (.cells #[.bool neg0, .slice a0 xs0.length ca0, .slice b0 ds0.length cb0] 58)).alloc (.cells #[.bool neg1, .slice a1 xs1.length ca1, .slice b1 ds1.length cb1] 58)) = W := ⟨_, rfl⟩
  have R0 : Row W (w.heap.size) 58 #[.bool neg0, .slice a0 xs0.length ca0, .slice b0 ds0.length cb0] := by rw [← hW]; exact ((Row.new _ _ _).alloc _)
  have R1 : Row W (w.heap.size + 1) 58 #[.bool neg1, .slice a1 xs1.length ca1, .slice b1 ds1.length cb1] := by rw [← hW]; have h := (Row.new (w.alloc (.cells #[.bool neg0, .slice a0 xs0.length ca0, .slice b0 ds0.length cb0] 58)) 58 #[.bool neg1, .slice a1 xs1.length ca1, .slice b1 ds1.length cb1]); simp only [World.size_alloc] at h; exact h
  have hBW : Below w.heap.size w W := by rw [← hW]; exact (((Below.refl _ _).alloc (by (try simp) <;> omega) _).alloc (by (try simp) <;> omega) _)
  have hsW : w.heap.size + 1 + 1 ≤ W.heap.size := by rw [← hW]; simp
  have Q0W := hu.later hBW
  have Q1W := hv.later hBW
  obtain ⟨nA, hnA⟩ : ∃ b, decide (X.num < 0) = b := ⟨_, rfl⟩
  obtain ⟨nB, hnB⟩ : ∃ b, decide (Y.num < 0) = b := ⟨_, rfl⟩
  have HA := Lib.hid hnA
  have HB := Lib.hid hnB
  obtain ⟨res, hres⟩ : ∃ r, decide (X = Y) = r := ⟨_, rfl⟩
  have HRS := Lib.hid hres
  rw [hres]
  clear hnA hnB hu hv hres
  go_enter Tryz.func38, Tryz.ntmps38
  go_upto_region 1 with fail
  clear hW
  go_cut [5, 6] (fun s5 s6 wx => ∃ (bA : Nat) (zsA ysA : List Int) (fA gA : Option Addr) (jA kA : Nat) (bB : Nat) (zsB ysB : List Int) (fB gB : Option Addr) (jB kB : Nat), s5 = .pointer (some ⟨bA, 0, none⟩) ∧ s6 = .pointer (some ⟨bB, 0, none⟩) ∧ Row wx bA 75 #[.bool nA, .slice fA zsA.length jA, .slice gA ysA.length kA] ∧ Row wx bB 75 #[.bool nB, .slice fB zsB.length jB, .slice gB ysB.length kB] ∧ RefQ wx X (5 * n + 1) zsA ysA fA gA jA kA ∧ RefQ wx Y (5 * n + 1) zsB ysB fB gB jB kB ∧ Below W.heap.size W wx)
  case first =>
    have lt_R0 := R0.lt
    have lt_R1 := R1.lt
    have mkS : ∀ X, Kept (W.heap.size) W X → X.cell? ⟨w.heap.size, 0, none⟩ = some (.bool neg0) ∧ X.cell? ⟨w.heap.size, 1, none⟩ = some (.slice a0 xs0.length ca0) ∧ X.cell? ⟨w.heap.size, 2, none⟩ = some (.slice b0 ds0.length cb0) ∧ X.cell? ⟨w.heap.size + 1, 0, none⟩ = some (.bool neg1) ∧ X.cell? ⟨w.heap.size + 1, 1, none⟩ = some (.slice a1 xs1.length ca1) ∧ X.cell? ⟨w.heap.size + 1, 2, none⟩ = some (.slice b1 ds1.length cb1) ∧ Kept (W.heap.size) W X := fun X h => ⟨(R0.kept h (by omega)).cell 0, (R0.kept h (by omega)).cell 1, (R0.kept h (by omega)).cell 2, (R1.kept h (by omega)).cell 0, (R1.kept h (by omega)).cell 1, (R1.kept h (by omega)).cell 2, h⟩
    refine wp_region_noPanic ?_
    refine wp_region_held_drew (S := (fun X => X.cell? ⟨w.heap.size, 0, none⟩ = some (.bool neg0) ∧ X.cell? ⟨w.heap.size, 1, none⟩ = some (.slice a0 xs0.length ca0) ∧ X.cell? ⟨w.heap.size, 2, none⟩ = some (.slice b0 ds0.length cb0) ∧ X.cell? ⟨w.heap.size + 1, 0, none⟩ = some (.bool neg1) ∧ X.cell? ⟨w.heap.size + 1, 1, none⟩ = some (.slice a1 xs1.length ca1) ∧ X.cell? ⟨w.heap.size + 1, 2, none⟩ = some (.slice b1 ds1.length cb1) ∧ Kept (W.heap.size) W X)) (by kernel_rfl) (mkS _ ((Kept.refl _ _).drew)) (fun hHeld => ?_)
    refine wpAnyH_take (i := 0) (v := ?vl0) rfl (by kernel_rfl) (by kernel_rfl) (by kernel_rfl) (fun _ _ _ h => h) (Or.inl ⟨by rfl, ?hl0⟩) (by assumption) ?rl0
    case hl0 =>
      intro w hSw
      try dsimp only at hSw
      go_simp
      try with_reducible rfl
    try simp only [Act.put, List.setIfInBounds_toArray, List.set_cons_zero, List.set_cons_succ]
    refine wpAnyH_take (i := 2) (v := ?vl1) rfl (by kernel_rfl) (by kernel_rfl) (by kernel_rfl) (fun _ _ _ h => h) (Or.inl ⟨by rfl, ?hl1⟩) (by assumption) ?rl1
    case hl1 =>
      intro w hSw
      try dsimp only at hSw
      go_simp
      try with_reducible rfl
    try simp only [Act.put, List.setIfInBounds_toArray, List.set_cons_zero, List.set_cons_succ]
    obtain ⟨V0, hV0⟩ : ∃ V, W.drew = V := ⟨_, rfl⟩
    rw [hV0] at hHeld
    rw [hV0]
    have hb0 : Below W.heap.size W V0 := by rw [← hV0]; exact (Below.refl _ _).drew
    have hs0 : W.heap.size ≤ V0.heap.size := hb0.size
    clear hV0
    refine wpAnyH_ready (rs := [1, 4, 5]) (by kernel_rfl) (by simp) ?_
    refine AllReadyH.cons rfl (fun K hK => ?o1_1) (AllReadyH.cons rfl (fun K hK => ?o1_4) (AllReadyH.cons rfl (fun K hK => ?o1_5) AllReadyH.nil))
    case o1_1 =>
      go_simp
      refine (ofR_any (Q0W.later hb0) (by omega)).mono ?_
      rintro e X2 ⟨rA, rfl, qrA, hc2⟩
      obtain ⟨zsA, ysA, fA, gA, jA, kA, rfl, qA⟩ := RefQ.of qrA HA.out
      clear qrA
      go_simp
      have hbX2 : Below W.heap.size W X2 := hb0.trans (hc2.mono hs0)
      have hsX2 : W.heap.size ≤ X2.heap.size := hbX2.size
      refine hK.out _ _ (mkS _ ((Kept.refl _ _).below hbX2)) (fun hHeld2 => ?_)
      clear hK K hHeld
      have hHeld := hHeld2
      clear hHeld2
      try simp only [Act.put, List.setIfInBounds_toArray, List.set_cons_zero, List.set_cons_succ]
      refine wpAnyH_ready (rs := [3, 4, 5]) (by kernel_rfl) (by simp) ?_
      refine AllReadyH.cons rfl (fun K hK => ?o3_3) (AllReadyH.cons rfl (fun K hK => ?o3_4) (AllReadyH.cons rfl (fun K hK => ?o3_5) AllReadyH.nil))
      case o3_3 =>
        go_simp
        refine (ofR_any (Q1W.later hbX2) (by omega)).mono ?_
        rintro e X4 ⟨rB, rfl, qrB, hc4⟩
        obtain ⟨zsB, ysB, fB, gB, jB, kB, rfl, qB⟩ := RefQ.of qrB HB.out
        clear qrB
        go_simp
        have hbX4 : Below W.heap.size W X4 := hbX2.trans (hc4.mono hsX2)
        have hsX4 : W.heap.size ≤ X4.heap.size := hbX4.size
        have q0X4 := qA.later hc4
        refine hK.out _ _ (mkS _ ((Kept.refl _ _).below hbX4)) (fun hHeld2 => ?_)
        clear hK K hHeld
        have hHeld := hHeld2
        clear hHeld2
        try simp only [Act.put, List.setIfInBounds_toArray, List.set_cons_zero, List.set_cons_succ]
        refine wpAnyH_ready (rs := [4, 5]) (by kernel_rfl) (by simp) ?_
        refine AllReadyH.cons rfl (fun K hK => ?o5_4) (AllReadyH.cons rfl (fun K hK => ?o5_5) AllReadyH.nil)
        case o5_4 =>
          go_simp
          refine afterAlloc (fun X6 hc6 hl6 zn6 => ?_)
          have hbX6 : Below W.heap.size W X6 := hbX4.trans (hc6.mono hsX4)
          have hsX6 : W.heap.size ≤ X6.heap.size := hbX6.size
          have q0X6 := q0X4.later hc6
          have q1X6 := qB.later hc6
          refine hK.out _ _ (mkS _ ((Kept.refl _ _).below hbX6)) (fun hHeld2 => ?_)
          clear hK K hHeld
          have hHeld := hHeld2
          clear hHeld2
          try simp only [Act.put, List.setIfInBounds_toArray, List.set_cons_zero, List.set_cons_succ]
          refine wpAnyH_ready (rs := [5]) (by kernel_rfl) (by simp) ?_
          refine AllReadyH.cons rfl (fun K hK => ?o7_5) AllReadyH.nil
          case o7_5 =>
            go_simp
            refine afterAlloc (fun X8 hc8 hl8 zn8 => ?_)
            have hbX8 : Below W.heap.size W X8 := hbX6.trans (hc8.mono hsX6)
            have hsX8 : W.heap.size ≤ X8.heap.size := hbX8.size
            have z0X8 := zn6.later hc8
            have q0X8 := q0X6.later hc8
            have q1X8 := q1X6.later hc8
            have lt0X8 := zn6.lt
            refine hK.out _ _ (mkS _ ((Kept.refl _ _).below hbX8)) (fun hHeld2 => ?_)
            clear hK K hHeld
            have hHeld := hHeld2
            clear hHeld2
            try simp only [Act.put, List.setIfInBounds_toArray, List.set_cons_zero, List.set_cons_succ]
            obtain ⟨d90, d91, d92, d93, d94, d95⟩ := z0X8.three
            refine wpAnyH_ready (rs := [6]) (by kernel_rfl) (by simp) ?_
            refine AllReadyH.cons rfl (fun K hK => ?s9) AllReadyH.nil
            go_simp
            refine afterSet3 z0X8 (fun X9 o9 zs9 => ?_)
            clear d90 d91 d92 d93 d94 d95
            have hbX9 : Below W.heap.size W X9 := hbX8.trans (o9.below hsX4)
            have z1X9 := zn8.only o9 (by omega)
            have q0X9 := q0X8.only z0X8 o9
            have q1X9 := q1X8.only z0X8 o9
            refine hK.out _ _ (mkS _ ((Kept.refl _ _).below hbX9)) (fun hHeld => ?_)
            clear hK K
            try simp only [Act.put, List.setIfInBounds_toArray, List.set_cons_zero, List.set_cons_succ]
            obtain ⟨d100, d101, d102, d103, d104, d105⟩ := z1X9.three
            refine wpAnyH_ready (rs := [7]) (by kernel_rfl) (by simp) ?_
            refine AllReadyH.cons rfl (fun K hK => ?s10) AllReadyH.nil
            go_simp
            refine afterSet3 z1X9 (fun X10 o10 zs10 => ?_)
            clear d100 d101 d102 d103 d104 d105
            have hbX10 : Below W.heap.size W X10 := hbX9.trans (o10.below hsX6)
            have z0X10 := zs9.only o10 (by omega)
            have q0X10 := q0X9.only z1X9 o10
            have q1X10 := q1X9.only z1X9 o10
            refine hK.out _ _ (mkS _ ((Kept.refl _ _).below hbX10)) (fun hHeld => ?_)
            clear hK K
            try simp only [Act.put, List.setIfInBounds_toArray, List.set_cons_zero, List.set_cons_succ]
            refine wpAnyH_done (by kernel_rfl) ?_ _
            refine NoPanic.normal ?_
            go_wp2_with fail
            go_meet
            exact ⟨_, zsA, ysA, fA, gA, jA, kA, _, zsB, ysB, fB, gB, jB, kB, rfl, rfl, z0X10, zs10, q0X10, q1X10, hbX10⟩
        case o5_5 =>
          go_simp
          refine afterAlloc (fun X11 hc11 hl11 zn11 => ?_)
          have hbX11 : Below W.heap.size W X11 := hbX4.trans (hc11.mono hsX4)
          have hsX11 : W.heap.size ≤ X11.heap.size := hbX11.size
          have q0X11 := q0X4.later hc11
          have q1X11 := qB.later hc11
          refine hK.out _ _ (mkS _ ((Kept.refl _ _).below hbX11)) (fun hHeld2 => ?_)
          clear hK K hHeld
          have hHeld := hHeld2
          clear hHeld2
          try simp only [Act.put, List.setIfInBounds_toArray, List.set_cons_zero, List.set_cons_succ]
          refine wpAnyH_ready (rs := [4]) (by kernel_rfl) (by simp) ?_
          refine AllReadyH.cons rfl (fun K hK => ?o12_4) AllReadyH.nil
          case o12_4 =>
            go_simp
            refine afterAlloc (fun X13 hc13 hl13 zn13 => ?_)
            have hbX13 : Below W.heap.size W X13 := hbX11.trans (hc13.mono hsX11)
            have hsX13 : W.heap.size ≤ X13.heap.size := hbX13.size
            have q0X13 := q0X11.later hc13
            have z1X13 := zn11.later hc13
            have q1X13 := q1X11.later hc13
            have lt1X13 := zn11.lt
            refine hK.out _ _ (mkS _ ((Kept.refl _ _).below hbX13)) (fun hHeld2 => ?_)
            clear hK K hHeld
            have hHeld := hHeld2
            clear hHeld2
            try simp only [Act.put, List.setIfInBounds_toArray, List.set_cons_zero, List.set_cons_succ]
            obtain ⟨d140, d141, d142, d143, d144, d145⟩ := zn13.three
            refine wpAnyH_ready (rs := [6]) (by kernel_rfl) (by simp) ?_
            refine AllReadyH.cons rfl (fun K hK => ?s14) AllReadyH.nil
            go_simp
            refine afterSet3 zn13 (fun X14 o14 zs14 => ?_)
            clear d140 d141 d142 d143 d144 d145
            have hbX14 : Below W.heap.size W X14 := hbX13.trans (o14.below hsX11)
            have z1X14 := z1X13.only o14 (by omega)
            have q0X14 := q0X13.only zn13 o14
            have q1X14 := q1X13.only zn13 o14
            refine hK.out _ _ (mkS _ ((Kept.refl _ _).below hbX14)) (fun hHeld => ?_)
            clear hK K
            try simp only [Act.put, List.setIfInBounds_toArray, List.set_cons_zero, List.set_cons_succ]
            obtain ⟨d150, d151, d152, d153, d154, d155⟩ := z1X14.three
            refine wpAnyH_ready (rs := [7]) (by kernel_rfl) (by simp) ?_
            refine AllReadyH.cons rfl (fun K hK => ?s15) AllReadyH.nil
            go_simp
            refine afterSet3 z1X14 (fun X15 o15 zs15 => ?_)
            clear d150 d151 d152 d153 d154 d155
            have hbX15 : Below W.heap.size W X15 := hbX14.trans (o15.below hsX4)
            have z0X15 := zs14.only o15 (by omega)
            have q0X15 := q0X14.only z1X14 o15
            have q1X15 := q1X14.only z1X14 o15
            refine hK.out _ _ (mkS _ ((Kept.refl _ _).below hbX15)) (fun hHeld => ?_)
            clear hK K
            try simp only [Act.put, List.setIfInBounds_toArray, List.set_cons_zero, List.set_cons_succ]
            refine wpAnyH_done (by kernel_rfl) ?_ _
            refine NoPanic.normal ?_
            go_wp2_with fail
            go_meet
            exact ⟨_, zsA, ysA, fA, gA, jA, kA, _, zsB, ysB, fB, gB, jB, kB, rfl, rfl, z0X15, zs15, q0X15, q1X15, hbX15⟩
      case o3_4 =>
        go_simp
        refine afterAlloc (fun X16 hc16 hl16 zn16 => ?_)
        have hbX16 : Below W.heap.size W X16 := hbX2.trans (hc16.mono hsX2)
        have hsX16 : W.heap.size ≤ X16.heap.size := hbX16.size
        have q0X16 := qA.later hc16
        refine hK.out _ _ (mkS _ ((Kept.refl _ _).below hbX16)) (fun hHeld2 => ?_)
        clear hK K hHeld
        have hHeld := hHeld2
        clear hHeld2
        try simp only [Act.put, List.setIfInBounds_toArray, List.set_cons_zero, List.set_cons_succ]
        refine wpAnyH_ready (rs := [3, 5]) (by kernel_rfl) (by simp) ?_
        refine AllReadyH.cons rfl (fun K hK => ?o17_3) (AllReadyH.cons rfl (fun K hK => ?o17_5) AllReadyH.nil)
        case o17_3 =>
          go_simp
          refine (ofR_any (Q1W.later hbX16) (by omega)).mono ?_
          rintro e X18 ⟨rB, rfl, qrB, hc18⟩
          obtain ⟨zsB, ysB, fB, gB, jB, kB, rfl, qB⟩ := RefQ.of qrB HB.out
          clear qrB
          go_simp
          have hbX18 : Below W.heap.size W X18 := hbX16.trans (hc18.mono hsX16)
          have hsX18 : W.heap.size ≤ X18.heap.size := hbX18.size
          have z0X18 := zn16.later hc18
          have q0X18 := q0X16.later hc18
          refine hK.out _ _ (mkS _ ((Kept.refl _ _).below hbX18)) (fun hHeld2 => ?_)
          clear hK K hHeld
          have hHeld := hHeld2
          clear hHeld2
          try simp only [Act.put, List.setIfInBounds_toArray, List.set_cons_zero, List.set_cons_succ]
          refine wpAnyH_ready (rs := [5]) (by kernel_rfl) (by simp) ?_
          refine AllReadyH.cons rfl (fun K hK => ?o19_5) AllReadyH.nil
          case o19_5 =>
            go_simp
            refine afterAlloc (fun X20 hc20 hl20 zn20 => ?_)
            have hbX20 : Below W.heap.size W X20 := hbX18.trans (hc20.mono hsX18)
            have hsX20 : W.heap.size ≤ X20.heap.size := hbX20.size
            have z0X20 := z0X18.later hc20
            have q0X20 := q0X18.later hc20
            have q1X20 := qB.later hc20
            have lt0X20 := z0X18.lt
            refine hK.out _ _ (mkS _ ((Kept.refl _ _).below hbX20)) (fun hHeld2 => ?_)
            clear hK K hHeld
            have hHeld := hHeld2
            clear hHeld2
            try simp only [Act.put, List.setIfInBounds_toArray, List.set_cons_zero, List.set_cons_succ]
            obtain ⟨d210, d211, d212, d213, d214, d215⟩ := z0X20.three
            refine wpAnyH_ready (rs := [6]) (by kernel_rfl) (by simp) ?_
            refine AllReadyH.cons rfl (fun K hK => ?s21) AllReadyH.nil
            go_simp
            refine afterSet3 z0X20 (fun X21 o21 zs21 => ?_)
            clear d210 d211 d212 d213 d214 d215
            have hbX21 : Below W.heap.size W X21 := hbX20.trans (o21.below hsX2)
            have z1X21 := zn20.only o21 (by omega)
            have q0X21 := q0X20.only z0X20 o21
            have q1X21 := q1X20.only z0X20 o21
            refine hK.out _ _ (mkS _ ((Kept.refl _ _).below hbX21)) (fun hHeld => ?_)
            clear hK K
            try simp only [Act.put, List.setIfInBounds_toArray, List.set_cons_zero, List.set_cons_succ]
            obtain ⟨d220, d221, d222, d223, d224, d225⟩ := z1X21.three
            refine wpAnyH_ready (rs := [7]) (by kernel_rfl) (by simp) ?_
            refine AllReadyH.cons rfl (fun K hK => ?s22) AllReadyH.nil
            go_simp
            refine afterSet3 z1X21 (fun X22 o22 zs22 => ?_)
            clear d220 d221 d222 d223 d224 d225
            have hbX22 : Below W.heap.size W X22 := hbX21.trans (o22.below hsX18)
            have z0X22 := zs21.only o22 (by omega)
            have q0X22 := q0X21.only z1X21 o22
            have q1X22 := q1X21.only z1X21 o22
            refine hK.out _ _ (mkS _ ((Kept.refl _ _).below hbX22)) (fun hHeld => ?_)
            clear hK K
            try simp only [Act.put, List.setIfInBounds_toArray, List.set_cons_zero, List.set_cons_succ]
            refine wpAnyH_done (by kernel_rfl) ?_ _
            refine NoPanic.normal ?_
            go_wp2_with fail
            go_meet
            exact ⟨_, zsA, ysA, fA, gA, jA, kA, _, zsB, ysB, fB, gB, jB, kB, rfl, rfl, z0X22, zs22, q0X22, q1X22, hbX22⟩
        case o17_5 =>
          go_simp
          refine afterAlloc (fun X23 hc23 hl23 zn23 => ?_)
          have hbX23 : Below W.heap.size W X23 := hbX16.trans (hc23.mono hsX16)
          have hsX23 : W.heap.size ≤ X23.heap.size := hbX23.size
          have z0X23 := zn16.later hc23
          have q0X23 := q0X16.later hc23
          have lt0X23 := zn16.lt
          refine hK.out _ _ (mkS _ ((Kept.refl _ _).below hbX23)) (fun hHeld2 => ?_)
          clear hK K hHeld
          have hHeld := hHeld2
          clear hHeld2
          try simp only [Act.put, List.setIfInBounds_toArray, List.set_cons_zero, List.set_cons_succ]
          refine wpAnyH_ready (rs := [3]) (by kernel_rfl) (by simp) ?_
          refine AllReadyH.cons rfl (fun K hK => ?o24_3) AllReadyH.nil
          case o24_3 =>
            go_simp
            refine (ofR_any (Q1W.later hbX23) (by omega)).mono ?_
            rintro e X25 ⟨rB, rfl, qrB, hc25⟩
            obtain ⟨zsB, ysB, fB, gB, jB, kB, rfl, qB⟩ := RefQ.of qrB HB.out
            clear qrB
            go_simp
            have hbX25 : Below W.heap.size W X25 := hbX23.trans (hc25.mono hsX23)
            have hsX25 : W.heap.size ≤ X25.heap.size := hbX25.size
            have z0X25 := z0X23.later hc25
            have q0X25 := q0X23.later hc25
            have z1X25 := zn23.later hc25
            refine hK.out _ _ (mkS _ ((Kept.refl _ _).below hbX25)) (fun hHeld2 => ?_)
            clear hK K hHeld
            have hHeld := hHeld2
            clear hHeld2
            try simp only [Act.put, List.setIfInBounds_toArray, List.set_cons_zero, List.set_cons_succ]
            obtain ⟨d260, d261, d262, d263, d264, d265⟩ := z0X25.three
            refine wpAnyH_ready (rs := [6]) (by kernel_rfl) (by simp) ?_
            refine AllReadyH.cons rfl (fun K hK => ?s26) AllReadyH.nil
            go_simp
            refine afterSet3 z0X25 (fun X26 o26 zs26 => ?_)
            clear d260 d261 d262 d263 d264 d265
            have hbX26 : Below W.heap.size W X26 := hbX25.trans (o26.below hsX2)
            have z1X26 := z1X25.only o26 (by omega)
            have q0X26 := q0X25.only z0X25 o26
            have q1X26 := qB.only z0X25 o26
            refine hK.out _ _ (mkS _ ((Kept.refl _ _).below hbX26)) (fun hHeld => ?_)
            clear hK K
            try simp only [Act.put, List.setIfInBounds_toArray, List.set_cons_zero, List.set_cons_succ]
            obtain ⟨d270, d271, d272, d273, d274, d275⟩ := z1X26.three
            refine wpAnyH_ready (rs := [7]) (by kernel_rfl) (by simp) ?_
            refine AllReadyH.cons rfl (fun K hK => ?s27) AllReadyH.nil
            go_simp
            refine afterSet3 z1X26 (fun X27 o27 zs27 => ?_)
            clear d270 d271 d272 d273 d274 d275
            have hbX27 : Below W.heap.size W X27 := hbX26.trans (o27.below hsX16)
            have z0X27 := zs26.only o27 (by omega)
            have q0X27 := q0X26.only z1X26 o27
            have q1X27 := q1X26.only z1X26 o27
            refine hK.out _ _ (mkS _ ((Kept.refl _ _).below hbX27)) (fun hHeld => ?_)
            clear hK K
            try simp only [Act.put, List.setIfInBounds_toArray, List.set_cons_zero, List.set_cons_succ]
            refine wpAnyH_done (by kernel_rfl) ?_ _
            refine NoPanic.normal ?_
            go_wp2_with fail
            go_meet
            exact ⟨_, zsA, ysA, fA, gA, jA, kA, _, zsB, ysB, fB, gB, jB, kB, rfl, rfl, z0X27, zs27, q0X27, q1X27, hbX27⟩
      case o3_5 =>
        go_simp
        refine afterAlloc (fun X28 hc28 hl28 zn28 => ?_)
        have hbX28 : Below W.heap.size W X28 := hbX2.trans (hc28.mono hsX2)
        have hsX28 : W.heap.size ≤ X28.heap.size := hbX28.size
        have q0X28 := qA.later hc28
        refine hK.out _ _ (mkS _ ((Kept.refl _ _).below hbX28)) (fun hHeld2 => ?_)
        clear hK K hHeld
        have hHeld := hHeld2
        clear hHeld2
        try simp only [Act.put, List.setIfInBounds_toArray, List.set_cons_zero, List.set_cons_succ]
        refine wpAnyH_ready (rs := [3, 4]) (by kernel_rfl) (by simp) ?_
        refine AllReadyH.cons rfl (fun K hK => ?o29_3) (AllReadyH.cons rfl (fun K hK => ?o29_4) AllReadyH.nil)
        case o29_3 =>
          go_simp
          refine (ofR_any (Q1W.later hbX28) (by omega)).mono ?_
          rintro e X30 ⟨rB, rfl, qrB, hc30⟩
          obtain ⟨zsB, ysB, fB, gB, jB, kB, rfl, qB⟩ := RefQ.of qrB HB.out
          clear qrB
          go_simp
          have hbX30 : Below W.heap.size W X30 := hbX28.trans (hc30.mono hsX28)
          have hsX30 : W.heap.size ≤ X30.heap.size := hbX30.size
          have q0X30 := q0X28.later hc30
          have z1X30 := zn28.later hc30
          refine hK.out _ _ (mkS _ ((Kept.refl _ _).below hbX30)) (fun hHeld2 => ?_)
          clear hK K hHeld
          have hHeld := hHeld2
          clear hHeld2
          try simp only [Act.put, List.setIfInBounds_toArray, List.set_cons_zero, List.set_cons_succ]
          refine wpAnyH_ready (rs := [4]) (by kernel_rfl) (by simp) ?_
          refine AllReadyH.cons rfl (fun K hK => ?o31_4) AllReadyH.nil
          case o31_4 =>
            go_simp
            refine afterAlloc (fun X32 hc32 hl32 zn32 => ?_)
            have hbX32 : Below W.heap.size W X32 := hbX30.trans (hc32.mono hsX30)
            have hsX32 : W.heap.size ≤ X32.heap.size := hbX32.size
            have q0X32 := q0X30.later hc32
            have z1X32 := z1X30.later hc32
            have q1X32 := qB.later hc32
            have lt1X32 := z1X30.lt
            refine hK.out _ _ (mkS _ ((Kept.refl _ _).below hbX32)) (fun hHeld2 => ?_)
            clear hK K hHeld
            have hHeld := hHeld2
            clear hHeld2
            try simp only [Act.put, List.setIfInBounds_toArray, List.set_cons_zero, List.set_cons_succ]
            obtain ⟨d330, d331, d332, d333, d334, d335⟩ := zn32.three
            refine wpAnyH_ready (rs := [6]) (by kernel_rfl) (by simp) ?_
            refine AllReadyH.cons rfl (fun K hK => ?s33) AllReadyH.nil
            go_simp
            refine afterSet3 zn32 (fun X33 o33 zs33 => ?_)
            clear d330 d331 d332 d333 d334 d335
            have hbX33 : Below W.heap.size W X33 := hbX32.trans (o33.below hsX30)
            have z1X33 := z1X32.only o33 (by omega)
            have q0X33 := q0X32.only zn32 o33
            have q1X33 := q1X32.only zn32 o33
            refine hK.out _ _ (mkS _ ((Kept.refl _ _).below hbX33)) (fun hHeld => ?_)
            clear hK K
            try simp only [Act.put, List.setIfInBounds_toArray, List.set_cons_zero, List.set_cons_succ]
            obtain ⟨d340, d341, d342, d343, d344, d345⟩ := z1X33.three
            refine wpAnyH_ready (rs := [7]) (by kernel_rfl) (by simp) ?_
            refine AllReadyH.cons rfl (fun K hK => ?s34) AllReadyH.nil
            go_simp
            refine afterSet3 z1X33 (fun X34 o34 zs34 => ?_)
            clear d340 d341 d342 d343 d344 d345
            have hbX34 : Below W.heap.size W X34 := hbX33.trans (o34.below hsX2)
            have z0X34 := zs33.only o34 (by omega)
            have q0X34 := q0X33.only z1X33 o34
            have q1X34 := q1X33.only z1X33 o34
            refine hK.out _ _ (mkS _ ((Kept.refl _ _).below hbX34)) (fun hHeld => ?_)
            clear hK K
            try simp only [Act.put, List.setIfInBounds_toArray, List.set_cons_zero, List.set_cons_succ]
            refine wpAnyH_done (by kernel_rfl) ?_ _
            refine NoPanic.normal ?_
            go_wp2_with fail
            go_meet
            exact ⟨_, zsA, ysA, fA, gA, jA, kA, _, zsB, ysB, fB, gB, jB, kB, rfl, rfl, z0X34, zs34, q0X34, q1X34, hbX34⟩
        case o29_4 =>
          go_simp
          refine afterAlloc (fun X35 hc35 hl35 zn35 => ?_)
          have hbX35 : Below W.heap.size W X35 := hbX28.trans (hc35.mono hsX28)
          have hsX35 : W.heap.size ≤ X35.heap.size := hbX35.size
          have q0X35 := q0X28.later hc35
          have z1X35 := zn28.later hc35
          have lt1X35 := zn28.lt
          refine hK.out _ _ (mkS _ ((Kept.refl _ _).below hbX35)) (fun hHeld2 => ?_)
          clear hK K hHeld
          have hHeld := hHeld2
          clear hHeld2
          try simp only [Act.put, List.setIfInBounds_toArray, List.set_cons_zero, List.set_cons_succ]
          refine wpAnyH_ready (rs := [3]) (by kernel_rfl) (by simp) ?_
          refine AllReadyH.cons rfl (fun K hK => ?o36_3) AllReadyH.nil
          case o36_3 =>
            go_simp
            refine (ofR_any (Q1W.later hbX35) (by omega)).mono ?_
            rintro e X37 ⟨rB, rfl, qrB, hc37⟩
            obtain ⟨zsB, ysB, fB, gB, jB, kB, rfl, qB⟩ := RefQ.of qrB HB.out
            clear qrB
            go_simp
            have hbX37 : Below W.heap.size W X37 := hbX35.trans (hc37.mono hsX35)
            have hsX37 : W.heap.size ≤ X37.heap.size := hbX37.size
            have z0X37 := zn35.later hc37
            have q0X37 := q0X35.later hc37
            have z1X37 := z1X35.later hc37
            refine hK.out _ _ (mkS _ ((Kept.refl _ _).below hbX37)) (fun hHeld2 => ?_)
            clear hK K hHeld
            have hHeld := hHeld2
            clear hHeld2
            try simp only [Act.put, List.setIfInBounds_toArray, List.set_cons_zero, List.set_cons_succ]
            obtain ⟨d380, d381, d382, d383, d384, d385⟩ := z0X37.three
            refine wpAnyH_ready (rs := [6]) (by kernel_rfl) (by simp) ?_
            refine AllReadyH.cons rfl (fun K hK => ?s38) AllReadyH.nil
            go_simp
            refine afterSet3 z0X37 (fun X38 o38 zs38 => ?_)
            clear d380 d381 d382 d383 d384 d385
            have hbX38 : Below W.heap.size W X38 := hbX37.trans (o38.below hsX28)
            have z1X38 := z1X37.only o38 (by omega)
            have q0X38 := q0X37.only z0X37 o38
            have q1X38 := qB.only z0X37 o38
            refine hK.out _ _ (mkS _ ((Kept.refl _ _).below hbX38)) (fun hHeld => ?_)
            clear hK K
            try simp only [Act.put, List.setIfInBounds_toArray, List.set_cons_zero, List.set_cons_succ]
            obtain ⟨d390, d391, d392, d393, d394, d395⟩ := z1X38.three
            refine wpAnyH_ready (rs := [7]) (by kernel_rfl) (by simp) ?_
            refine AllReadyH.cons rfl (fun K hK => ?s39) AllReadyH.nil
            go_simp
            refine afterSet3 z1X38 (fun X39 o39 zs39 => ?_)
            clear d390 d391 d392 d393 d394 d395
            have hbX39 : Below W.heap.size W X39 := hbX38.trans (o39.below hsX2)
            have z0X39 := zs38.only o39 (by omega)
            have q0X39 := q0X38.only z1X38 o39
            have q1X39 := q1X38.only z1X38 o39
            refine hK.out _ _ (mkS _ ((Kept.refl _ _).below hbX39)) (fun hHeld => ?_)
            clear hK K
            try simp only [Act.put, List.setIfInBounds_toArray, List.set_cons_zero, List.set_cons_succ]
            refine wpAnyH_done (by kernel_rfl) ?_ _
            refine NoPanic.normal ?_
            go_wp2_with fail
            go_meet
            exact ⟨_, zsA, ysA, fA, gA, jA, kA, _, zsB, ysB, fB, gB, jB, kB, rfl, rfl, z0X39, zs39, q0X39, q1X39, hbX39⟩
    case o1_4 =>
      go_simp
      refine afterAlloc (fun X40 hc40 hl40 zn40 => ?_)
      have hbX40 : Below W.heap.size W X40 := hb0.trans (hc40.mono hs0)
      have hsX40 : W.heap.size ≤ X40.heap.size := hbX40.size
      refine hK.out _ _ (mkS _ ((Kept.refl _ _).below hbX40)) (fun hHeld2 => ?_)
      clear hK K hHeld
      have hHeld := hHeld2
      clear hHeld2
      try simp only [Act.put, List.setIfInBounds_toArray, List.set_cons_zero, List.set_cons_succ]
      refine wpAnyH_ready (rs := [1, 5]) (by kernel_rfl) (by simp) ?_
      refine AllReadyH.cons rfl (fun K hK => ?o41_1) (AllReadyH.cons rfl (fun K hK => ?o41_5) AllReadyH.nil)
      case o41_1 =>
        go_simp
        refine (ofR_any (Q0W.later hbX40) (by omega)).mono ?_
        rintro e X42 ⟨rA, rfl, qrA, hc42⟩
        obtain ⟨zsA, ysA, fA, gA, jA, kA, rfl, qA⟩ := RefQ.of qrA HA.out
        clear qrA
        go_simp
        have hbX42 : Below W.heap.size W X42 := hbX40.trans (hc42.mono hsX40)
        have hsX42 : W.heap.size ≤ X42.heap.size := hbX42.size
        have z0X42 := zn40.later hc42
        refine hK.out _ _ (mkS _ ((Kept.refl _ _).below hbX42)) (fun hHeld2 => ?_)
        clear hK K hHeld
        have hHeld := hHeld2
        clear hHeld2
        try simp only [Act.put, List.setIfInBounds_toArray, List.set_cons_zero, List.set_cons_succ]
        refine wpAnyH_ready (rs := [3, 5]) (by kernel_rfl) (by simp) ?_
        refine AllReadyH.cons rfl (fun K hK => ?o43_3) (AllReadyH.cons rfl (fun K hK => ?o43_5) AllReadyH.nil)
        case o43_3 =>
          go_simp
          refine (ofR_any (Q1W.later hbX42) (by omega)).mono ?_
          rintro e X44 ⟨rB, rfl, qrB, hc44⟩
          obtain ⟨zsB, ysB, fB, gB, jB, kB, rfl, qB⟩ := RefQ.of qrB HB.out
          clear qrB
          go_simp
          have hbX44 : Below W.heap.size W X44 := hbX42.trans (hc44.mono hsX42)
          have hsX44 : W.heap.size ≤ X44.heap.size := hbX44.size
          have z0X44 := z0X42.later hc44
          have q0X44 := qA.later hc44
          refine hK.out _ _ (mkS _ ((Kept.refl _ _).below hbX44)) (fun hHeld2 => ?_)
          clear hK K hHeld
          have hHeld := hHeld2
          clear hHeld2
          try simp only [Act.put, List.setIfInBounds_toArray, List.set_cons_zero, List.set_cons_succ]
          refine wpAnyH_ready (rs := [5]) (by kernel_rfl) (by simp) ?_
          refine AllReadyH.cons rfl (fun K hK => ?o45_5) AllReadyH.nil
          case o45_5 =>
            go_simp
            refine afterAlloc (fun X46 hc46 hl46 zn46 => ?_)
            have hbX46 : Below W.heap.size W X46 := hbX44.trans (hc46.mono hsX44)
            have hsX46 : W.heap.size ≤ X46.heap.size := hbX46.size
            have z0X46 := z0X44.later hc46
            have q0X46 := q0X44.later hc46
            have q1X46 := qB.later hc46
            have lt0X46 := z0X44.lt
            refine hK.out _ _ (mkS _ ((Kept.refl _ _).below hbX46)) (fun hHeld2 => ?_)
            clear hK K hHeld
            have hHeld := hHeld2
            clear hHeld2
            try simp only [Act.put, List.setIfInBounds_toArray, List.set_cons_zero, List.set_cons_succ]
            obtain ⟨d470, d471, d472, d473, d474, d475⟩ := z0X46.three
            refine wpAnyH_ready (rs := [6]) (by kernel_rfl) (by simp) ?_
            refine AllReadyH.cons rfl (fun K hK => ?s47) AllReadyH.nil
            go_simp
            refine afterSet3 z0X46 (fun X47 o47 zs47 => ?_)
            clear d470 d471 d472 d473 d474 d475
            have hbX47 : Below W.heap.size W X47 := hbX46.trans (o47.below hs0)
            have z1X47 := zn46.only o47 (by omega)
            have q0X47 := q0X46.only z0X46 o47
            have q1X47 := q1X46.only z0X46 o47
            refine hK.out _ _ (mkS _ ((Kept.refl _ _).below hbX47)) (fun hHeld => ?_)
            clear hK K
            try simp only [Act.put, List.setIfInBounds_toArray, List.set_cons_zero, List.set_cons_succ]
            obtain ⟨d480, d481, d482, d483, d484, d485⟩ := z1X47.three
            refine wpAnyH_ready (rs := [7]) (by kernel_rfl) (by simp) ?_
            refine AllReadyH.cons rfl (fun K hK => ?s48) AllReadyH.nil
            go_simp
            refine afterSet3 z1X47 (fun X48 o48 zs48 => ?_)
            clear d480 d481 d482 d483 d484 d485
            have hbX48 : Below W.heap.size W X48 := hbX47.trans (o48.below hsX44)
            have z0X48 := zs47.only o48 (by omega)
            have q0X48 := q0X47.only z1X47 o48
            have q1X48 := q1X47.only z1X47 o48
            refine hK.out _ _ (mkS _ ((Kept.refl _ _).below hbX48)) (fun hHeld => ?_)
            clear hK K
            try simp only [Act.put, List.setIfInBounds_toArray, List.set_cons_zero, List.set_cons_succ]
            refine wpAnyH_done (by kernel_rfl) ?_ _
            refine NoPanic.normal ?_
            go_wp2_with fail
            go_meet
            exact ⟨_, zsA, ysA, fA, gA, jA, kA, _, zsB, ysB, fB, gB, jB, kB, rfl, rfl, z0X48, zs48, q0X48, q1X48, hbX48⟩
        case o43_5 =>
          go_simp
          refine afterAlloc (fun X49 hc49 hl49 zn49 => ?_)
          have hbX49 : Below W.heap.size W X49 := hbX42.trans (hc49.mono hsX42)
          have hsX49 : W.heap.size ≤ X49.heap.size := hbX49.size
          have z0X49 := z0X42.later hc49
          have q0X49 := qA.later hc49
          have lt0X49 := z0X42.lt
          refine hK.out _ _ (mkS _ ((Kept.refl _ _).below hbX49)) (fun hHeld2 => ?_)
          clear hK K hHeld
          have hHeld := hHeld2
          clear hHeld2
          try simp only [Act.put, List.setIfInBounds_toArray, List.set_cons_zero, List.set_cons_succ]
          refine wpAnyH_ready (rs := [3]) (by kernel_rfl) (by simp) ?_
          refine AllReadyH.cons rfl (fun K hK => ?o50_3) AllReadyH.nil
          case o50_3 =>
            go_simp
            refine (ofR_any (Q1W.later hbX49) (by omega)).mono ?_
            rintro e X51 ⟨rB, rfl, qrB, hc51⟩
            obtain ⟨zsB, ysB, fB, gB, jB, kB, rfl, qB⟩ := RefQ.of qrB HB.out
            clear qrB
            go_simp
            have hbX51 : Below W.heap.size W X51 := hbX49.trans (hc51.mono hsX49)
            have hsX51 : W.heap.size ≤ X51.heap.size := hbX51.size
            have z0X51 := z0X49.later hc51
            have q0X51 := q0X49.later hc51
            have z1X51 := zn49.later hc51
            refine hK.out _ _ (mkS _ ((Kept.refl _ _).below hbX51)) (fun hHeld2 => ?_)
            clear hK K hHeld
            have hHeld := hHeld2
            clear hHeld2
            try simp only [Act.put, List.setIfInBounds_toArray, List.set_cons_zero, List.set_cons_succ]
            obtain ⟨d520, d521, d522, d523, d524, d525⟩ := z0X51.three
            refine wpAnyH_ready (rs := [6]) (by kernel_rfl) (by simp) ?_
            refine AllReadyH.cons rfl (fun K hK => ?s52) AllReadyH.nil
            go_simp
            refine afterSet3 z0X51 (fun X52 o52 zs52 => ?_)
            clear d520 d521 d522 d523 d524 d525
            have hbX52 : Below W.heap.size W X52 := hbX51.trans (o52.below hs0)
            have z1X52 := z1X51.only o52 (by omega)
            have q0X52 := q0X51.only z0X51 o52
            have q1X52 := qB.only z0X51 o52
            refine hK.out _ _ (mkS _ ((Kept.refl _ _).below hbX52)) (fun hHeld => ?_)
            clear hK K
            try simp only [Act.put, List.setIfInBounds_toArray, List.set_cons_zero, List.set_cons_succ]
            obtain ⟨d530, d531, d532, d533, d534, d535⟩ := z1X52.three
            refine wpAnyH_ready (rs := [7]) (by kernel_rfl) (by simp) ?_
            refine AllReadyH.cons rfl (fun K hK => ?s53) AllReadyH.nil
            go_simp
            refine afterSet3 z1X52 (fun X53 o53 zs53 => ?_)
            clear d530 d531 d532 d533 d534 d535
            have hbX53 : Below W.heap.size W X53 := hbX52.trans (o53.below hsX42)
            have z0X53 := zs52.only o53 (by omega)
            have q0X53 := q0X52.only z1X52 o53
            have q1X53 := q1X52.only z1X52 o53
            refine hK.out _ _ (mkS _ ((Kept.refl _ _).below hbX53)) (fun hHeld => ?_)
            clear hK K
            try simp only [Act.put, List.setIfInBounds_toArray, List.set_cons_zero, List.set_cons_succ]
            refine wpAnyH_done (by kernel_rfl) ?_ _
            refine NoPanic.normal ?_
            go_wp2_with fail
            go_meet
            exact ⟨_, zsA, ysA, fA, gA, jA, kA, _, zsB, ysB, fB, gB, jB, kB, rfl, rfl, z0X53, zs53, q0X53, q1X53, hbX53⟩
      case o41_5 =>
        go_simp
        refine afterAlloc (fun X54 hc54 hl54 zn54 => ?_)
        have hbX54 : Below W.heap.size W X54 := hbX40.trans (hc54.mono hsX40)
        have hsX54 : W.heap.size ≤ X54.heap.size := hbX54.size
        have z0X54 := zn40.later hc54
        have lt0X54 := zn40.lt
        refine hK.out _ _ (mkS _ ((Kept.refl _ _).below hbX54)) (fun hHeld2 => ?_)
        clear hK K hHeld
        have hHeld := hHeld2
        clear hHeld2
        try simp only [Act.put, List.setIfInBounds_toArray, List.set_cons_zero, List.set_cons_succ]
        refine wpAnyH_ready (rs := [1]) (by kernel_rfl) (by simp) ?_
        refine AllReadyH.cons rfl (fun K hK => ?o55_1) AllReadyH.nil
        case o55_1 =>
          go_simp
          refine (ofR_any (Q0W.later hbX54) (by omega)).mono ?_
          rintro e X56 ⟨rA, rfl, qrA, hc56⟩
          obtain ⟨zsA, ysA, fA, gA, jA, kA, rfl, qA⟩ := RefQ.of qrA HA.out
          clear qrA
          go_simp
          have hbX56 : Below W.heap.size W X56 := hbX54.trans (hc56.mono hsX54)
          have hsX56 : W.heap.size ≤ X56.heap.size := hbX56.size
          have z0X56 := z0X54.later hc56
          have z1X56 := zn54.later hc56
          refine hK.out _ _ (mkS _ ((Kept.refl _ _).below hbX56)) (fun hHeld2 => ?_)
          clear hK K hHeld
          have hHeld := hHeld2
          clear hHeld2
          try simp only [Act.put, List.setIfInBounds_toArray, List.set_cons_zero, List.set_cons_succ]
          refine wpAnyH_ready (rs := [3]) (by kernel_rfl) (by simp) ?_
          refine AllReadyH.cons rfl (fun K hK => ?o57_3) AllReadyH.nil
          case o57_3 =>
            go_simp
            refine (ofR_any (Q1W.later hbX56) (by omega)).mono ?_
            rintro e X58 ⟨rB, rfl, qrB, hc58⟩
            obtain ⟨zsB, ysB, fB, gB, jB, kB, rfl, qB⟩ := RefQ.of qrB HB.out
            clear qrB
            go_simp
            have hbX58 : Below W.heap.size W X58 := hbX56.trans (hc58.mono hsX56)
            have hsX58 : W.heap.size ≤ X58.heap.size := hbX58.size
            have z0X58 := z0X56.later hc58
            have q0X58 := qA.later hc58
            have z1X58 := z1X56.later hc58
            refine hK.out _ _ (mkS _ ((Kept.refl _ _).below hbX58)) (fun hHeld2 => ?_)
            clear hK K hHeld
            have hHeld := hHeld2
            clear hHeld2
            try simp only [Act.put, List.setIfInBounds_toArray, List.set_cons_zero, List.set_cons_succ]
            obtain ⟨d590, d591, d592, d593, d594, d595⟩ := z0X58.three
            refine wpAnyH_ready (rs := [6]) (by kernel_rfl) (by simp) ?_
            refine AllReadyH.cons rfl (fun K hK => ?s59) AllReadyH.nil
            go_simp
            refine afterSet3 z0X58 (fun X59 o59 zs59 => ?_)
            clear d590 d591 d592 d593 d594 d595
            have hbX59 : Below W.heap.size W X59 := hbX58.trans (o59.below hs0)
            have z1X59 := z1X58.only o59 (by omega)
            have q0X59 := q0X58.only z0X58 o59
            have q1X59 := qB.only z0X58 o59
            refine hK.out _ _ (mkS _ ((Kept.refl _ _).below hbX59)) (fun hHeld => ?_)
            clear hK K
            try simp only [Act.put, List.setIfInBounds_toArray, List.set_cons_zero, List.set_cons_succ]
            obtain ⟨d600, d601, d602, d603, d604, d605⟩ := z1X59.three
            refine wpAnyH_ready (rs := [7]) (by kernel_rfl) (by simp) ?_
            refine AllReadyH.cons rfl (fun K hK => ?s60) AllReadyH.nil
            go_simp
            refine afterSet3 z1X59 (fun X60 o60 zs60 => ?_)
            clear d600 d601 d602 d603 d604 d605
            have hbX60 : Below W.heap.size W X60 := hbX59.trans (o60.below hsX40)
            have z0X60 := zs59.only o60 (by omega)
            have q0X60 := q0X59.only z1X59 o60
            have q1X60 := q1X59.only z1X59 o60
            refine hK.out _ _ (mkS _ ((Kept.refl _ _).below hbX60)) (fun hHeld => ?_)
            clear hK K
            try simp only [Act.put, List.setIfInBounds_toArray, List.set_cons_zero, List.set_cons_succ]
            refine wpAnyH_done (by kernel_rfl) ?_ _
            refine NoPanic.normal ?_
            go_wp2_with fail
            go_meet
            exact ⟨_, zsA, ysA, fA, gA, jA, kA, _, zsB, ysB, fB, gB, jB, kB, rfl, rfl, z0X60, zs60, q0X60, q1X60, hbX60⟩
    case o1_5 =>
      go_simp
      refine afterAlloc (fun X61 hc61 hl61 zn61 => ?_)
      have hbX61 : Below W.heap.size W X61 := hb0.trans (hc61.mono hs0)
      have hsX61 : W.heap.size ≤ X61.heap.size := hbX61.size
      refine hK.out _ _ (mkS _ ((Kept.refl _ _).below hbX61)) (fun hHeld2 => ?_)
      clear hK K hHeld
      have hHeld := hHeld2
      clear hHeld2
      try simp only [Act.put, List.setIfInBounds_toArray, List.set_cons_zero, List.set_cons_succ]
      refine wpAnyH_ready (rs := [1, 4]) (by kernel_rfl) (by simp) ?_
      refine AllReadyH.cons rfl (fun K hK => ?o62_1) (AllReadyH.cons rfl (fun K hK => ?o62_4) AllReadyH.nil)
      case o62_1 =>
        go_simp
        refine (ofR_any (Q0W.later hbX61) (by omega)).mono ?_
        rintro e X63 ⟨rA, rfl, qrA, hc63⟩
        obtain ⟨zsA, ysA, fA, gA, jA, kA, rfl, qA⟩ := RefQ.of qrA HA.out
        clear qrA
        go_simp
        have hbX63 : Below W.heap.size W X63 := hbX61.trans (hc63.mono hsX61)
        have hsX63 : W.heap.size ≤ X63.heap.size := hbX63.size
        have z1X63 := zn61.later hc63
        refine hK.out _ _ (mkS _ ((Kept.refl _ _).below hbX63)) (fun hHeld2 => ?_)
        clear hK K hHeld
        have hHeld := hHeld2
        clear hHeld2
        try simp only [Act.put, List.setIfInBounds_toArray, List.set_cons_zero, List.set_cons_succ]
        refine wpAnyH_ready (rs := [3, 4]) (by kernel_rfl) (by simp) ?_
        refine AllReadyH.cons rfl (fun K hK => ?o64_3) (AllReadyH.cons rfl (fun K hK => ?o64_4) AllReadyH.nil)
        case o64_3 =>
          go_simp
          refine (ofR_any (Q1W.later hbX63) (by omega)).mono ?_
          rintro e X65 ⟨rB, rfl, qrB, hc65⟩
          obtain ⟨zsB, ysB, fB, gB, jB, kB, rfl, qB⟩ := RefQ.of qrB HB.out
          clear qrB
          go_simp
          have hbX65 : Below W.heap.size W X65 := hbX63.trans (hc65.mono hsX63)
          have hsX65 : W.heap.size ≤ X65.heap.size := hbX65.size
          have q0X65 := qA.later hc65
          have z1X65 := z1X63.later hc65
          refine hK.out _ _ (mkS _ ((Kept.refl _ _).below hbX65)) (fun hHeld2 => ?_)
          clear hK K hHeld
          have hHeld := hHeld2
          clear hHeld2
          try simp only [Act.put, List.setIfInBounds_toArray, List.set_cons_zero, List.set_cons_succ]
          refine wpAnyH_ready (rs := [4]) (by kernel_rfl) (by simp) ?_
          refine AllReadyH.cons rfl (fun K hK => ?o66_4) AllReadyH.nil
          case o66_4 =>
            go_simp
            refine afterAlloc (fun X67 hc67 hl67 zn67 => ?_)
            have hbX67 : Below W.heap.size W X67 := hbX65.trans (hc67.mono hsX65)
            have hsX67 : W.heap.size ≤ X67.heap.size := hbX67.size
            have q0X67 := q0X65.later hc67
            have z1X67 := z1X65.later hc67
            have q1X67 := qB.later hc67
            have lt1X67 := z1X65.lt
            refine hK.out _ _ (mkS _ ((Kept.refl _ _).below hbX67)) (fun hHeld2 => ?_)
            clear hK K hHeld
            have hHeld := hHeld2
            clear hHeld2
            try simp only [Act.put, List.setIfInBounds_toArray, List.set_cons_zero, List.set_cons_succ]
            obtain ⟨d680, d681, d682, d683, d684, d685⟩ := zn67.three
            refine wpAnyH_ready (rs := [6]) (by kernel_rfl) (by simp) ?_
            refine AllReadyH.cons rfl (fun K hK => ?s68) AllReadyH.nil
            go_simp
            refine afterSet3 zn67 (fun X68 o68 zs68 => ?_)
            clear d680 d681 d682 d683 d684 d685
            have hbX68 : Below W.heap.size W X68 := hbX67.trans (o68.below hsX65)
            have z1X68 := z1X67.only o68 (by omega)
            have q0X68 := q0X67.only zn67 o68
            have q1X68 := q1X67.only zn67 o68
            refine hK.out _ _ (mkS _ ((Kept.refl _ _).below hbX68)) (fun hHeld => ?_)
            clear hK K
            try simp only [Act.put, List.setIfInBounds_toArray, List.set_cons_zero, List.set_cons_succ]
            obtain ⟨d690, d691, d692, d693, d694, d695⟩ := z1X68.three
            refine wpAnyH_ready (rs := [7]) (by kernel_rfl) (by simp) ?_
            refine AllReadyH.cons rfl (fun K hK => ?s69) AllReadyH.nil
            go_simp
            refine afterSet3 z1X68 (fun X69 o69 zs69 => ?_)
            clear d690 d691 d692 d693 d694 d695
            have hbX69 : Below W.heap.size W X69 := hbX68.trans (o69.below hs0)
            have z0X69 := zs68.only o69 (by omega)
            have q0X69 := q0X68.only z1X68 o69
            have q1X69 := q1X68.only z1X68 o69
            refine hK.out _ _ (mkS _ ((Kept.refl _ _).below hbX69)) (fun hHeld => ?_)
            clear hK K
            try simp only [Act.put, List.setIfInBounds_toArray, List.set_cons_zero, List.set_cons_succ]
            refine wpAnyH_done (by kernel_rfl) ?_ _
            refine NoPanic.normal ?_
            go_wp2_with fail
            go_meet
            exact ⟨_, zsA, ysA, fA, gA, jA, kA, _, zsB, ysB, fB, gB, jB, kB, rfl, rfl, z0X69, zs69, q0X69, q1X69, hbX69⟩
        case o64_4 =>
          go_simp
          refine afterAlloc (fun X70 hc70 hl70 zn70 => ?_)
          have hbX70 : Below W.heap.size W X70 := hbX63.trans (hc70.mono hsX63)
          have hsX70 : W.heap.size ≤ X70.heap.size := hbX70.size
          have q0X70 := qA.later hc70
          have z1X70 := z1X63.later hc70
          have lt1X70 := z1X63.lt
          refine hK.out _ _ (mkS _ ((Kept.refl _ _).below hbX70)) (fun hHeld2 => ?_)
          clear hK K hHeld
          have hHeld := hHeld2
          clear hHeld2
          try simp only [Act.put, List.setIfInBounds_toArray, List.set_cons_zero, List.set_cons_succ]
          refine wpAnyH_ready (rs := [3]) (by kernel_rfl) (by simp) ?_
          refine AllReadyH.cons rfl (fun K hK => ?o71_3) AllReadyH.nil
          case o71_3 =>
            go_simp
            refine (ofR_any (Q1W.later hbX70) (by omega)).mono ?_
            rintro e X72 ⟨rB, rfl, qrB, hc72⟩
            obtain ⟨zsB, ysB, fB, gB, jB, kB, rfl, qB⟩ := RefQ.of qrB HB.out
            clear qrB
            go_simp
            have hbX72 : Below W.heap.size W X72 := hbX70.trans (hc72.mono hsX70)
            have hsX72 : W.heap.size ≤ X72.heap.size := hbX72.size
            have z0X72 := zn70.later hc72
            have q0X72 := q0X70.later hc72
            have z1X72 := z1X70.later hc72
            refine hK.out _ _ (mkS _ ((Kept.refl _ _).below hbX72)) (fun hHeld2 => ?_)
            clear hK K hHeld
            have hHeld := hHeld2
            clear hHeld2
            try simp only [Act.put, List.setIfInBounds_toArray, List.set_cons_zero, List.set_cons_succ]
            obtain ⟨d730, d731, d732, d733, d734, d735⟩ := z0X72.three
            refine wpAnyH_ready (rs := [6]) (by kernel_rfl) (by simp) ?_
            refine AllReadyH.cons rfl (fun K hK => ?s73) AllReadyH.nil
            go_simp
            refine afterSet3 z0X72 (fun X73 o73 zs73 => ?_)
            clear d730 d731 d732 d733 d734 d735
            have hbX73 : Below W.heap.size W X73 := hbX72.trans (o73.below hsX63)
            have z1X73 := z1X72.only o73 (by omega)
            have q0X73 := q0X72.only z0X72 o73
            have q1X73 := qB.only z0X72 o73
            refine hK.out _ _ (mkS _ ((Kept.refl _ _).below hbX73)) (fun hHeld => ?_)
            clear hK K
            try simp only [Act.put, List.setIfInBounds_toArray, List.set_cons_zero, List.set_cons_succ]
            obtain ⟨d740, d741, d742, d743, d744, d745⟩ := z1X73.three
            refine wpAnyH_ready (rs := [7]) (by kernel_rfl) (by simp) ?_
            refine AllReadyH.cons rfl (fun K hK => ?s74) AllReadyH.nil
            go_simp
            refine afterSet3 z1X73 (fun X74 o74 zs74 => ?_)
            clear d740 d741 d742 d743 d744 d745
            have hbX74 : Below W.heap.size W X74 := hbX73.trans (o74.below hs0)
            have z0X74 := zs73.only o74 (by omega)
            have q0X74 := q0X73.only z1X73 o74
            have q1X74 := q1X73.only z1X73 o74
            refine hK.out _ _ (mkS _ ((Kept.refl _ _).below hbX74)) (fun hHeld => ?_)
            clear hK K
            try simp only [Act.put, List.setIfInBounds_toArray, List.set_cons_zero, List.set_cons_succ]
            refine wpAnyH_done (by kernel_rfl) ?_ _
            refine NoPanic.normal ?_
            go_wp2_with fail
            go_meet
            exact ⟨_, zsA, ysA, fA, gA, jA, kA, _, zsB, ysB, fB, gB, jB, kB, rfl, rfl, z0X74, zs74, q0X74, q1X74, hbX74⟩
      case o62_4 =>
        go_simp
        refine afterAlloc (fun X75 hc75 hl75 zn75 => ?_)
        have hbX75 : Below W.heap.size W X75 := hbX61.trans (hc75.mono hsX61)
        have hsX75 : W.heap.size ≤ X75.heap.size := hbX75.size
        have z1X75 := zn61.later hc75
        have lt1X75 := zn61.lt
        refine hK.out _ _ (mkS _ ((Kept.refl _ _).below hbX75)) (fun hHeld2 => ?_)
        clear hK K hHeld
        have hHeld := hHeld2
        clear hHeld2
        try simp only [Act.put, List.setIfInBounds_toArray, List.set_cons_zero, List.set_cons_succ]
        refine wpAnyH_ready (rs := [1]) (by kernel_rfl) (by simp) ?_
        refine AllReadyH.cons rfl (fun K hK => ?o76_1) AllReadyH.nil
        case o76_1 =>
          go_simp
          refine (ofR_any (Q0W.later hbX75) (by omega)).mono ?_
          rintro e X77 ⟨rA, rfl, qrA, hc77⟩
          obtain ⟨zsA, ysA, fA, gA, jA, kA, rfl, qA⟩ := RefQ.of qrA HA.out
          clear qrA
          go_simp
          have hbX77 : Below W.heap.size W X77 := hbX75.trans (hc77.mono hsX75)
          have hsX77 : W.heap.size ≤ X77.heap.size := hbX77.size
          have z0X77 := zn75.later hc77
          have z1X77 := z1X75.later hc77
          refine hK.out _ _ (mkS _ ((Kept.refl _ _).below hbX77)) (fun hHeld2 => ?_)
          clear hK K hHeld
          have hHeld := hHeld2
          clear hHeld2
          try simp only [Act.put, List.setIfInBounds_toArray, List.set_cons_zero, List.set_cons_succ]
          refine wpAnyH_ready (rs := [3]) (by kernel_rfl) (by simp) ?_
          refine AllReadyH.cons rfl (fun K hK => ?o78_3) AllReadyH.nil
          case o78_3 =>
            go_simp
            refine (ofR_any (Q1W.later hbX77) (by omega)).mono ?_
            rintro e X79 ⟨rB, rfl, qrB, hc79⟩
            obtain ⟨zsB, ysB, fB, gB, jB, kB, rfl, qB⟩ := RefQ.of qrB HB.out
            clear qrB
            go_simp
            have hbX79 : Below W.heap.size W X79 := hbX77.trans (hc79.mono hsX77)
            have hsX79 : W.heap.size ≤ X79.heap.size := hbX79.size
            have z0X79 := z0X77.later hc79
            have q0X79 := qA.later hc79
            have z1X79 := z1X77.later hc79
            refine hK.out _ _ (mkS _ ((Kept.refl _ _).below hbX79)) (fun hHeld2 => ?_)
            clear hK K hHeld
            have hHeld := hHeld2
            clear hHeld2
            try simp only [Act.put, List.setIfInBounds_toArray, List.set_cons_zero, List.set_cons_succ]
            obtain ⟨d800, d801, d802, d803, d804, d805⟩ := z0X79.three
            refine wpAnyH_ready (rs := [6]) (by kernel_rfl) (by simp) ?_
            refine AllReadyH.cons rfl (fun K hK => ?s80) AllReadyH.nil
            go_simp
            refine afterSet3 z0X79 (fun X80 o80 zs80 => ?_)
            clear d800 d801 d802 d803 d804 d805
            have hbX80 : Below W.heap.size W X80 := hbX79.trans (o80.below hsX61)
            have z1X80 := z1X79.only o80 (by omega)
            have q0X80 := q0X79.only z0X79 o80
            have q1X80 := qB.only z0X79 o80
            refine hK.out _ _ (mkS _ ((Kept.refl _ _).below hbX80)) (fun hHeld => ?_)
            clear hK K
            try simp only [Act.put, List.setIfInBounds_toArray, List.set_cons_zero, List.set_cons_succ]
            obtain ⟨d810, d811, d812, d813, d814, d815⟩ := z1X80.three
            refine wpAnyH_ready (rs := [7]) (by kernel_rfl) (by simp) ?_
            refine AllReadyH.cons rfl (fun K hK => ?s81) AllReadyH.nil
            go_simp
            refine afterSet3 z1X80 (fun X81 o81 zs81 => ?_)
            clear d810 d811 d812 d813 d814 d815
            have hbX81 : Below W.heap.size W X81 := hbX80.trans (o81.below hs0)
            have z0X81 := zs80.only o81 (by omega)
            have q0X81 := q0X80.only z1X80 o81
            have q1X81 := q1X80.only z1X80 o81
            refine hK.out _ _ (mkS _ ((Kept.refl _ _).below hbX81)) (fun hHeld => ?_)
            clear hK K
            try simp only [Act.put, List.setIfInBounds_toArray, List.set_cons_zero, List.set_cons_succ]
            refine wpAnyH_done (by kernel_rfl) ?_ _
            refine NoPanic.normal ?_
            go_wp2_with fail
            go_meet
            exact ⟨_, zsA, ysA, fA, gA, jA, kA, _, zsB, ysB, fB, gB, jB, kB, rfl, rfl, z0X81, zs81, q0X81, q1X81, hbX81⟩
  case rest =>
    obtain ⟨bA, zsA, ysA, fA, gA, jA, kA, bB, zsB, ysB, fB, gB, jB, kB, rfl, rfl, RA, RB, ⟨A1, A2, va1, va2, la1, la2⟩, ⟨B1, B2, vb1, vb2, lb1, lb2⟩, hb1⟩ := hcut
    have hz1 := hb1.size
    have hBW1 : Below w.heap.size w wc := hBW.trans (hb1.mono (by omega))
    have hc1 := cmpD_any A1 B1 (by omega) (by omega)
    have hc2 := fun w' (hb : Below wc.heap.size wc w') => cmpD_any (A2.later hb) (B2.later hb) (by omega) (by omega)
    rw [va1, vb1] at hc1
    rw [va2, vb2] at hc2
    obtain ⟨k0, h0⟩ : ∃ b, (nA == nB) = b := ⟨_, rfl⟩
    obtain ⟨sg1, hs1⟩ : ∃ s, sign (X.num.natAbs : Int) (Y.num.natAbs : Int) = s := ⟨_, rfl⟩
    obtain ⟨sg2, hs2⟩ : ∃ s, sign (X.den : Int) (Y.den : Int) = s := ⟨_, rfl⟩
    obtain ⟨k1, h1⟩ : ∃ b, (sg1 == 0) = b := ⟨_, rfl⟩
    obtain ⟨k2, h2⟩ : ∃ b, (sg2 == 0) = b := ⟨_, rfl⟩
    have hres : res = (k0 && (k1 && k2)) := by rw [← HRS.out, ← h0, ← h1, ← h2, ← hs1, ← hs2, ← HA.out, ← HB.out]; exact rat_same X Y
    rw [hs1] at hc1
    rw [hs2] at hc2
    clear HRS
    subst hres
    clear va1 va2 vb1 vb2 A1 A2 B1 B2 hs1 hs2
    obtain ⟨p0, p1, p2, _, _, _⟩ := RA.three
    obtain ⟨o0, o1, o2, _, _, _⟩ := RB.three
    cases k0
    · clear hc1 hc2
      go_wp2
      go_ret
      exact ⟨rfl, hBW1⟩
    · go_wp2_with fail
      refine hc1.mono ?_
      rintro e V1 ⟨rfl, hv1⟩
      have hz2 := hv1.size
      have hB2 := hBW1.trans (hv1.mono (by omega))
      clear p0 p1 p2 o0 o1 o2 hc1
      cases k1
      · clear hc2
        go_wp2
        go_ret
        exact ⟨rfl, hB2⟩
      · obtain ⟨p0, p1, p2, _, _, _⟩ := (RA.later hv1).three
        obtain ⟨o0, o1, o2, _, _, _⟩ := (RB.later hv1).three
        go_wp2_with fail
        refine (hc2 _ hv1).mono ?_
        rintro e V2 ⟨rfl, hv2⟩
        have hB3 := hB2.trans (hv2.mono (by omega))
        clear hc2 p0 p1 p2 o0 o1 o2
        cases k2 <;> (go_wp2; go_ret; exact ⟨rfl, hB3⟩)
end
end Go.Proofs.YtooglnhlhgmhdaaGreat
