/-
  RatOwn, for arguments that hold together at most 1048576 values: the law answers true (nothing that is answered leads into what was handed in, nor is that changed), and each argument reads behind the call as it read before. No other condition.
-/
import Derived.Test.YtofiebilokhccaaRLaw0
import Derived.Test.YtofiebilokhccaaRPow
import Derived.Test.YtofiebilokhccaaB6
import Derived.StillTailTactics
import Derived.Test.YtofiebilokhccaaRVar
import Derived.Test.YtofiebilokhccaaRKnown
import Derived.Deep.DeepCutAuto
namespace Go.Proofs.Ytofiebilokhccaa
open Go.RowKit Go.ChangeShapes Go.WideShapes Go.ChangeAt
set_option linter.unusedVariables false
set_option linter.unusedSimpArgs false
set_option maxRecDepth 100000

/-- a struct of two slices of limbs that may be written to -/
def CellQ (lo g : Nat) (w : World) (v : Value) : Prop :=
  ∃ (p : Bool) (ad bd : Option Addr) (n cap m cbp : Nat), v = .agg #[.bool p, .slice ad n cap, .slice bd m cbp] ∧ Cellz lo g w (.slice ad n cap) ∧ Cellz lo g w (.slice bd m cbp)
theorem Cellz.low {lo lo' g : Nat} {w : World} {v : Value} (h : Cellz lo g w v) (hl : lo' ≤ lo) : Cellz lo' g w v := by
  obtain ⟨ad, n, cap, rfl, hm, h⟩ := h
  refine ⟨ad, n, cap, rfl, hm, ?_⟩
  rcases h with h | ⟨b, cur, rfl, h1, h2, h3, h4⟩
  · exact .inl h
  · exact .inr ⟨b, cur, rfl, by omega, h2, h3, h4⟩
theorem CellQ.next {lo : Nat} {w w' : World} {v : Value} (h : CellQ lo w.heap.size w v) (hb : Below w.heap.size w w') : CellQ lo w'.heap.size w' v := by
  obtain ⟨p, ad, bd, n, cap, m, cbp, rfl, h1, h2⟩ := h
  exact ⟨p, ad, bd, n, cap, m, cbp, rfl, h1.next hb, h2.next hb⟩
theorem CellQ.low {lo lo' g : Nat} {w : World} {v : Value} (h : CellQ lo g w v) (hl : lo' ≤ lo) : CellQ lo' g w v := by
  obtain ⟨p, ad, bd, n, cap, m, cbp, rfl, h1, h2⟩ := h
  exact ⟨p, ad, bd, n, cap, m, cbp, rfl, h1.low hl, h2.low hl⟩
theorem ResQ.cellq {base lo n : Nat} {w : World} {v : Value} {X : Rat} (h : ResQ base w v X n) (hl : lo ≤ base) : CellQ lo w.heap.size w v := by
  obtain ⟨zs, ys, ad, bd, ca, cb, rfl, A, B, _, _⟩ := h
  exact ⟨_, ad, bd, zs.length, ca, ys.length, cb, rfl, A.num.cellz hl, B.num.cellz hl⟩
theorem CellQ.zero (lo g : Nat) (w : World) : CellQ lo g w (.agg #[.bool false, .slice none 0 0, .slice none 0 0]) := ⟨false, none, none, 0, 0, 0, 0, rfl, Cellz.nil _ _ _, Cellz.nil _ _ _⟩
theorem div_makes {n : Nat} {w : World} {u v : Value} {X Y : Rat} (hu : ArgQ w u X n) (hv : ArgQ w v Y n) (hn : n ≤ 16777000) :
    Calls Try.prog 35 #[u, v] w fun e w' => ∃ (r : Value) (k : Int), e = .returned (.tuple #[r, .int .i64 k]) ∧ CellQ w.heap.size w'.heap.size w' r ∧ Below w.heap.size w w' := by
  by_cases h0 : Y = 0
  · refine (divQ_zero hu hv h0 hn).mono ?_
    rintro e w' ⟨rfl, hb⟩
    exact ⟨_, _, rfl, CellQ.zero _ _ _, hb⟩
  · refine (divQ_any hu hv h0 hn).mono ?_
    rintro e w' ⟨r, rfl, q, hb⟩
    exact ⟨_, _, rfl, q.cellq (Nat.le_refl _), hb⟩
theorem pow1_any {n : Nat} {w : World} {v : Value} {X : Rat} (h : ArgQ w v X n) (hn : n ≤ 16777000) :
    Calls Try.prog 45 #[v, .int .i64 1] w fun e w' => ∃ r, e = .returned r ∧ ResQ w.heap.size w' r (X ^ 1) ((n + 2) * 1 + 1 + 2) ∧ Below w.heap.size w w' :=
  powQ_any (N := 1) h (by omega) (by omega) (by omega)
theorem make_makes {n : Nat} {w : World} {m1 : Bool} {xs ds : List Int} {a1 a2 : Option Addr} {c1 c2 : Nat} (A : Arg w (.slice a1 xs.length c1) xs a1 c1) (B : Arg w (.slice a2 ds.length c2) ds a2 c2) (hx : xs.length ≤ n) (hd : ds.length ≤ n) (hn : n ≤ 16777000) :
    Calls Try.prog 19 #[.bool m1, .slice a1 xs.length c1, .slice a2 ds.length c2] w fun e w' => ∃ (r : Value) (k : Int), e = .returned (.tuple #[r, .int .i64 k]) ∧ CellQ w.heap.size w'.heap.size w' r ∧ Below w.heap.size w w' := by
  have h1 := val_nonneg B.wf
  by_cases h0 : val ds = 0
  · refine (make_zero (n := n) B (by omega) h0).mono ?_
    rintro e w' ⟨rfl, hb⟩
    exact ⟨_, _, rfl, CellQ.zero _ _ _, hb⟩
  · refine (make_any A B hx hd hn (by omega)).mono ?_
    rintro e w' ⟨r, rfl, q, hb⟩
    exact ⟨_, _, rfl, q.cellq (Nat.le_refl _), hb⟩
/-- a copy of an argument -/
def OwnQ (w : World) (v : Value) (neg : Bool) (xs ds : List Int) : Prop :=
  ∃ (a1 a2 : Option Addr) (c1 c2 : Nat), v = .agg #[.bool neg, .slice a1 xs.length c1, .slice a2 ds.length c2] ∧ Arg w (.slice a1 xs.length c1) xs a1 c1 ∧ Arg w (.slice a2 ds.length c2) ds a2 c2
theorem OwnQ.later {w w' : World} {v : Value} {neg : Bool} {xs ds : List Int} (h : OwnQ w v neg xs ds) (hb : Below w.heap.size w w') : OwnQ w' v neg xs ds := by
  obtain ⟨a1, a2, c1, c2, rfl, A, B⟩ := h
  exact ⟨a1, a2, c1, c2, rfl, A.later hb, B.later hb⟩
theorem OwnQ.only {w w' : World} {v : Value} {neg : Bool} {xs ds : List Int} (h : OwnQ w v neg xs ds) {g : Nat} {t : TypeId} {p : Bool} {ad bd : Option Addr} {l cap m cbp : Nat} (R : Row w g t #[.bool p, .slice ad l cap, .slice bd m cbp]) (k : Only g w w') : OwnQ w' v neg xs ds := by
  obtain ⟨a1, a2, c1, c2, rfl, A, B⟩ := h
  exact ⟨a1, a2, c1, c2, rfl, A.far R (noInts3 _ _ _ _ _ _ _) k.block, B.far R (noInts3 _ _ _ _ _ _ _) k.block⟩
theorem own_copy {w : World} {m1 : Bool} {xs ds : List Int} {a1 a2 : Option Addr} {c1 c2 : Nat} (A : Arg w (.slice a1 xs.length c1) xs a1 c1) (B : Arg w (.slice a2 ds.length c2) ds a2 c2)
    (hx : xs.length ≤ 134217728) (hd : ds.length ≤ 134217728) (n1 : a1 = none → c1 = 0) (n2 : a2 = none → c2 = 0) :
    Calls Try.prog 13 #[.agg #[.bool m1, .slice a1 xs.length c1, .slice a2 ds.length c2]] w fun e w' => ∃ r, e = .returned r ∧ OwnQ w' r m1 xs ds ∧ Below w.heap.size w w' := by
  refine (ownR_any A B hx hd n1 n2).mono ?_
  rintro e w' ⟨r, rfl, b1, b2, k1, k2, rfl, O1, O2, _, _, hb⟩
  exact ⟨_, rfl, ⟨b1, b2, k1, k2, rfl, O1, O2⟩, hb⟩
/-- the list of results: a row of structs, each with slices that may be written to -/
def Made (lo G gl : Nat) (cs : Array Value) (w : World) : Prop :=
  Row w gl 25 cs ∧ ∀ i, i < 8 → (∃ v, cs[i * 3 + 1]? = some v ∧ Cellz lo G w v) ∧ (∃ v, cs[i * 3 + 2]? = some v ∧ Cellz lo G w v)
theorem Made.set {lo G gl : Nat} {cs : Array Value} {w : World} (h : Made lo G gl cs w) {b k : Nat} (hb : b ≠ gl) (z : Int) : Made lo G gl cs (w.setCell ⟨b, k, none⟩ (.int .u32 z)) :=
  ⟨h.1.far (fun e => hb e.symm) _, fun i hi => by
    obtain ⟨⟨v, h1, h2⟩, ⟨u, h3, h4⟩⟩ := h.2 i hi
    exact ⟨⟨v, h1, h2.set b k z⟩, ⟨u, h3, h4.set b k z⟩⟩⟩
theorem CellQ.parts {lo g : Nat} {w : World} {p : Bool} {ad bd : Option Addr} {n cap m cbp : Nat} (h : CellQ lo g w (.agg #[.bool p, .slice ad n cap, .slice bd m cbp])) : Cellz lo g w (.slice ad n cap) ∧ Cellz lo g w (.slice bd m cbp) := by
  obtain ⟨_, _, _, _, _, _, _, e, h1, h2⟩ := h
  cases e
  exact ⟨h1, h2⟩
theorem made8 {lo : Nat} {w : World} {x0 y0 z0 x1 y1 z1 x2 y2 z2 x3 y3 z3 x4 y4 z4 x5 y5 z5 x6 y6 z6 x7 y7 z7 : Value} (h0 : Cellz lo w.heap.size w y0 ∧ Cellz lo w.heap.size w z0) (h1 : Cellz lo w.heap.size w y1 ∧ Cellz lo w.heap.size w z1) (h2 : Cellz lo w.heap.size w y2 ∧ Cellz lo w.heap.size w z2) (h3 : Cellz lo w.heap.size w y3 ∧ Cellz lo w.heap.size w z3) (h4 : Cellz lo w.heap.size w y4 ∧ Cellz lo w.heap.size w z4) (h5 : Cellz lo w.heap.size w y5 ∧ Cellz lo w.heap.size w z5) (h6 : Cellz lo w.heap.size w y6 ∧ Cellz lo w.heap.size w z6) (h7 : Cellz lo w.heap.size w y7 ∧ Cellz lo w.heap.size w z7) :
    Made lo w.heap.size w.heap.size #[x0, y0, z0, x1, y1, z1, x2, y2, z2, x3, y3, z3, x4, y4, z4, x5, y5, z5, x6, y6, z6, x7, y7, z7] (w.alloc (.cells #[x0, y0, z0, x1, y1, z1, x2, y2, z2, x3, y3, z3, x4, y4, z4, x5, y5, z5, x6, y6, z6, x7, y7, z7] 25)) := by
  have hb : Below w.heap.size w (w.alloc (.cells #[x0, y0, z0, x1, y1, z1, x2, y2, z2, x3, y3, z3, x4, y4, z4, x5, y5, z5, x6, y6, z6, x7, y7, z7] 25)) := (Below.refl _ _).alloc (Nat.le_refl _) _
  refine ⟨Row.new _ _ _, fun i hi => ?_⟩
  have hc : i = 0 ∨ i = 1 ∨ i = 2 ∨ i = 3 ∨ i = 4 ∨ i = 5 ∨ i = 6 ∨ i = 7 := by omega
  rcases hc with rfl | rfl | rfl | rfl | rfl | rfl | rfl | rfl
  · exact ⟨⟨_, rfl, h0.1.later hb⟩, ⟨_, rfl, h0.2.later hb⟩⟩
  · exact ⟨⟨_, rfl, h1.1.later hb⟩, ⟨_, rfl, h1.2.later hb⟩⟩
  · exact ⟨⟨_, rfl, h2.1.later hb⟩, ⟨_, rfl, h2.2.later hb⟩⟩
  · exact ⟨⟨_, rfl, h3.1.later hb⟩, ⟨_, rfl, h3.2.later hb⟩⟩
  · exact ⟨⟨_, rfl, h4.1.later hb⟩, ⟨_, rfl, h4.2.later hb⟩⟩
  · exact ⟨⟨_, rfl, h5.1.later hb⟩, ⟨_, rfl, h5.2.later hb⟩⟩
  · exact ⟨⟨_, rfl, h6.1.later hb⟩, ⟨_, rfl, h6.2.later hb⟩⟩
  · exact ⟨⟨_, rfl, h7.1.later hb⟩, ⟨_, rfl, h7.2.later hb⟩⟩
set_option maxRecDepth 100000 in
set_option maxHeartbeats 8000000 in
theorem ratOwn_walk (neg0 : Bool) (xs0 ds0 : List Int) (a0 b0 : Option Addr) (ca0 cb0 : Nat) (neg1 : Bool) (xs1 ds1 : List Int) (a1 b1 : Option Addr) (ca1 cb1 : Nat) (w : World) (A0 : Arg w (.slice a0 xs0.length ca0) xs0 a0 ca0) (B0 : Arg w (.slice b0 ds0.length cb0) ds0 b0 cb0) (lx0 : xs0.length ≤ 1048576) (ly0 : ds0.length ≤ 1048576) (nx0 : a0 = none → ca0 = 0) (ny0 : b0 = none → cb0 = 0) (A1 : Arg w (.slice a1 xs1.length ca1) xs1 a1 ca1) (B1 : Arg w (.slice b1 ds1.length cb1) ds1 b1 cb1) (lx1 : xs1.length ≤ 1048576) (ly1 : ds1.length ≤ 1048576) (nx1 : a1 = none → ca1 = 0) (ny1 : b1 = none → cb1 = 0) :
    Calls Try.prog 11 #[.agg #[.bool neg0, .slice a0 xs0.length ca0, .slice b0 ds0.length cb0], .agg #[.bool neg1, .slice a1 xs1.length ca1, .slice b1 ds1.length cb1]] w fun e w' => e = .returned (.bool true) ∧ Below w.heap.size w w' := by
  obtain ⟨X0, hX0⟩ : ∃ X, ratOf neg0 (val xs0) (val ds0) = X := ⟨_, rfl⟩
  have Q0 : ArgQ w (.agg #[.bool neg0, .slice a0 xs0.length ca0, .slice b0 ds0.length cb0]) X0 1048576 := ⟨neg0, xs0, ds0, a0, b0, ca0, cb0, rfl, A0, B0, hX0, lx0, ly0⟩
  obtain ⟨X1, hX1⟩ : ∃ X, ratOf neg1 (val xs1) (val ds1) = X := ⟨_, rfl⟩
  have Q1 : ArgQ w (.agg #[.bool neg1, .slice a1 xs1.length ca1, .slice b1 ds1.length cb1]) X1 1048576 := ⟨neg1, xs1, ds1, a1, b1, ca1, cb1, rfl, A1, B1, hX1, lx1, ly1⟩
  obtain ⟨W, hW⟩ : ∃ W, ((w.alloc (.cells #[.bool neg0, .slice a0 xs0.length ca0, .slice b0 ds0.length cb0] 25)).alloc (.cells #[.bool neg1, .slice a1 xs1.length ca1, .slice b1 ds1.length cb1] 25)) = W := ⟨_, rfl⟩
  have R0 : Row W (w.heap.size) 25 #[.bool neg0, .slice a0 xs0.length ca0, .slice b0 ds0.length cb0] := by rw [← hW]; exact ((Row.new _ _ _).alloc _)
  have R1 : Row W (w.heap.size + 1) 25 #[.bool neg1, .slice a1 xs1.length ca1, .slice b1 ds1.length cb1] := by rw [← hW]; have h := (Row.new (w.alloc (.cells #[.bool neg0, .slice a0 xs0.length ca0, .slice b0 ds0.length cb0] 25)) 25 #[.bool neg1, .slice a1 xs1.length ca1, .slice b1 ds1.length cb1]); simp only [World.size_alloc] at h; exact h
  have hBW : Below w.heap.size w W := by rw [← hW]; exact (((Below.refl _ _).alloc (by (try simp) <;> omega) _).alloc (by (try simp) <;> omega) _)
  have hsW : w.heap.size + 1 + 1 ≤ W.heap.size := by rw [← hW]; simp
  have Q0W := Q0.later hBW
  have A0W := A0.later hBW
  have B0W := B0.later hBW
  have NX0 := Lib.hid nx0
  have NY0 := Lib.hid ny0
  have HX0 := Lib.hid hX0
  clear nx0 ny0 hX0
  have Q1W := Q1.later hBW
  have A1W := A1.later hBW
  have B1W := B1.later hBW
  have NX1 := Lib.hid nx1
  have NY1 := Lib.hid ny1
  have HX1 := Lib.hid hX1
  clear nx1 ny1 hX1
  go_enter Try.func11, Try.ntmps11
  go_upto_region 1 with fail
  clear hW
  go_cut [5, 6] (fun s5 s6 wx => ∃ (bA : Nat) (fA gA : Option Addr) (jA kA : Nat) (bB : Nat) (fB gB : Option Addr) (jB kB : Nat), s5 = .pointer (some ⟨bA, 0, none⟩) ∧ s6 = .pointer (some ⟨bB, 0, none⟩) ∧ Row wx bA 25 #[.bool neg0, .slice fA xs0.length jA, .slice gA ds0.length kA] ∧ Row wx bB 25 #[.bool neg1, .slice fB xs1.length jB, .slice gB ds1.length kB] ∧ OwnQ wx (.agg #[.bool neg0, .slice fA xs0.length jA, .slice gA ds0.length kA]) neg0 xs0 ds0 ∧ OwnQ wx (.agg #[.bool neg1, .slice fB xs1.length jB, .slice gB ds1.length kB]) neg1 xs1 ds1 ∧ Below W.heap.size W wx)
  case first =>
    have lt_R0 := R0.lt
    have lt_R1 := R1.lt
    have mkS : ∀ X, Kept (W.heap.size) W X → X.cell? ⟨w.heap.size, 0, none⟩ = some (.bool neg0) ∧ X.cell? ⟨w.heap.size, 1, none⟩ = some (.slice a0 xs0.length ca0) ∧ X.cell? ⟨w.heap.size, 2, none⟩ = some (.slice b0 ds0.length cb0) ∧ X.cell? ⟨w.heap.size + 1, 0, none⟩ = some (.bool neg1) ∧ X.cell? ⟨w.heap.size + 1, 1, none⟩ = some (.slice a1 xs1.length ca1) ∧ X.cell? ⟨w.heap.size + 1, 2, none⟩ = some (.slice b1 ds1.length cb1) ∧ Kept (W.heap.size) W X := fun X h => ⟨(R0.kept h (by omega)).cell 0, (R0.kept h (by omega)).cell 1, (R0.kept h (by omega)).cell 2, (R1.kept h (by omega)).cell 0, (R1.kept h (by omega)).cell 1, (R1.kept h (by omega)).cell 2, h⟩
    refine wp_region_noPanic ?_
    refine wp_region_held_drew (S := (fun X => X.cell? ⟨w.heap.size, 0, none⟩ = some (.bool neg0) ∧ X.cell? ⟨w.heap.size, 1, none⟩ = some (.slice a0 xs0.length ca0) ∧ X.cell? ⟨w.heap.size, 2, none⟩ = some (.slice b0 ds0.length cb0) ∧ X.cell? ⟨w.heap.size + 1, 0, none⟩ = some (.bool neg1) ∧ X.cell? ⟨w.heap.size + 1, 1, none⟩ = some (.slice a1 xs1.length ca1) ∧ X.cell? ⟨w.heap.size + 1, 2, none⟩ = some (.slice b1 ds1.length cb1) ∧ Kept (W.heap.size) W X)) (by kernel_rfl) (mkS _ ((Kept.refl _ _).drew)) (fun hHeld => ?_)
    refine wpAnyH_take (i := 0) (v := ?vl0) rfl (by kernel_rfl) (by kernel_rfl) (by kernel_rfl) (fun _ _ _ h => h) (Or.inl ⟨by rfl, ?hl0⟩) (by assumption) ?rl0
    case hl0 =>
      intro w hSw
      try dsimp only at hSw
      go_simp
      try with_reducible rfl
    try simp only [Act.put, List.setIfInBounds_toArray, List.set_cons_zero, List.set_cons_succ]
    refine wpAnyH_take (i := 2) (v := ?vl1) rfl (by kernel_rfl) (by kernel_rfl) (by kernel_rfl) (fun _ _ _ h => h) (Or.inl ⟨by rfl, ?hl1⟩) (by assumption) ?rl1
    case hl1 =>
      intro w hSw
      try dsimp only at hSw
      go_simp
      try with_reducible rfl
    try simp only [Act.put, List.setIfInBounds_toArray, List.set_cons_zero, List.set_cons_succ]
    obtain ⟨V0, hV0⟩ : ∃ V, W.drew = V := ⟨_, rfl⟩
    rw [hV0] at hHeld
    rw [hV0]
    have hb0 : Below W.heap.size W V0 := by rw [← hV0]; exact (Below.refl _ _).drew
    have hs0 : W.heap.size ≤ V0.heap.size := hb0.size
    clear hV0
    refine wpAnyH_ready (rs := [1, 4, 5]) (by kernel_rfl) (by simp) ?_
    refine AllReadyH.cons rfl (fun K hK => ?o1_1) (AllReadyH.cons rfl (fun K hK => ?o1_4) (AllReadyH.cons rfl (fun K hK => ?o1_5) AllReadyH.nil))
    case o1_1 =>
      go_simp
      refine (own_copy (m1 := neg0) (A0W.later hb0) (B0W.later hb0) (by omega) (by omega) NX0.out NY0.out).mono ?_
      rintro e X2 ⟨rA, rfl, qA, hc2⟩
      have qqA := qA
      obtain ⟨fA, gA, jA, kA, rfl, _, _⟩ := qqA
      go_simp
      have hbX2 : Below W.heap.size W X2 := hb0.trans (hc2.mono hs0)
      have hsX2 : W.heap.size ≤ X2.heap.size := hbX2.size
      refine hK.out _ _ (mkS _ ((Kept.refl _ _).below hbX2)) (fun hHeld2 => ?_)
      clear hK K hHeld
      have hHeld := hHeld2
      clear hHeld2
      try simp only [Act.put, List.setIfInBounds_toArray, List.set_cons_zero, List.set_cons_succ]
      refine wpAnyH_ready (rs := [3, 4, 5]) (by kernel_rfl) (by simp) ?_
      refine AllReadyH.cons rfl (fun K hK => ?o3_3) (AllReadyH.cons rfl (fun K hK => ?o3_4) (AllReadyH.cons rfl (fun K hK => ?o3_5) AllReadyH.nil))
      case o3_3 =>
        go_simp
        refine (own_copy (m1 := neg1) (A1W.later hbX2) (B1W.later hbX2) (by omega) (by omega) NX1.out NY1.out).mono ?_
        rintro e X4 ⟨rB, rfl, qB, hc4⟩
        have qqB := qB
        obtain ⟨fB, gB, jB, kB, rfl, _, _⟩ := qqB
        go_simp
        have hbX4 : Below W.heap.size W X4 := hbX2.trans (hc4.mono hsX2)
        have hsX4 : W.heap.size ≤ X4.heap.size := hbX4.size
        have q0X4 := qA.later hc4
        refine hK.out _ _ (mkS _ ((Kept.refl _ _).below hbX4)) (fun hHeld2 => ?_)
        clear hK K hHeld
        have hHeld := hHeld2
        clear hHeld2
        try simp only [Act.put, List.setIfInBounds_toArray, List.set_cons_zero, List.set_cons_succ]
        refine wpAnyH_ready (rs := [4, 5]) (by kernel_rfl) (by simp) ?_
        refine AllReadyH.cons rfl (fun K hK => ?o5_4) (AllReadyH.cons rfl (fun K hK => ?o5_5) AllReadyH.nil)
        case o5_4 =>
          go_simp
          refine afterAlloc (fun X6 hc6 hl6 zn6 => ?_)
          have hbX6 : Below W.heap.size W X6 := hbX4.trans (hc6.mono hsX4)
          have hsX6 : W.heap.size ≤ X6.heap.size := hbX6.size
          have q0X6 := q0X4.later hc6
          have q1X6 := qB.later hc6
          refine hK.out _ _ (mkS _ ((Kept.refl _ _).below hbX6)) (fun hHeld2 => ?_)
          clear hK K hHeld
          have hHeld := hHeld2
          clear hHeld2
          try simp only [Act.put, List.setIfInBounds_toArray, List.set_cons_zero, List.set_cons_succ]
          refine wpAnyH_ready (rs := [5]) (by kernel_rfl) (by simp) ?_
          refine AllReadyH.cons rfl (fun K hK => ?o7_5) AllReadyH.nil
          case o7_5 =>
            go_simp
            refine afterAlloc (fun X8 hc8 hl8 zn8 => ?_)
            have hbX8 : Below W.heap.size W X8 := hbX6.trans (hc8.mono hsX6)
            have hsX8 : W.heap.size ≤ X8.heap.size := hbX8.size
            have z0X8 := zn6.later hc8
            have q0X8 := q0X6.later hc8
            have q1X8 := q1X6.later hc8
            have lt0X8 := zn6.lt
            refine hK.out _ _ (mkS _ ((Kept.refl _ _).below hbX8)) (fun hHeld2 => ?_)
            clear hK K hHeld
            have hHeld := hHeld2
            clear hHeld2
            try simp only [Act.put, List.setIfInBounds_toArray, List.set_cons_zero, List.set_cons_succ]
            obtain ⟨d90, d91, d92, d93, d94, d95⟩ := z0X8.three
            refine wpAnyH_ready (rs := [6]) (by kernel_rfl) (by simp) ?_
            refine AllReadyH.cons rfl (fun K hK => ?s9) AllReadyH.nil
            go_simp
            refine afterSet3 z0X8 (fun X9 o9 zs9 => ?_)
            clear d90 d91 d92 d93 d94 d95
            have hbX9 : Below W.heap.size W X9 := hbX8.trans (o9.below hsX4)
            have z1X9 := zn8.only o9 (by omega)
            have q0X9 := q0X8.only z0X8 o9
            have q1X9 := q1X8.only z0X8 o9
            refine hK.out _ _ (mkS _ ((Kept.refl _ _).below hbX9)) (fun hHeld => ?_)
            clear hK K
            try simp only [Act.put, List.setIfInBounds_toArray, List.set_cons_zero, List.set_cons_succ]
            obtain ⟨d100, d101, d102, d103, d104, d105⟩ := z1X9.three
            refine wpAnyH_ready (rs := [7]) (by kernel_rfl) (by simp) ?_
            refine AllReadyH.cons rfl (fun K hK => ?s10) AllReadyH.nil
            go_simp
            refine afterSet3 z1X9 (fun X10 o10 zs10 => ?_)
            clear d100 d101 d102 d103 d104 d105
            have hbX10 : Below W.heap.size W X10 := hbX9.trans (o10.below hsX6)
            have z0X10 := zs9.only o10 (by omega)
            have q0X10 := q0X9.only z1X9 o10
            have q1X10 := q1X9.only z1X9 o10
            refine hK.out _ _ (mkS _ ((Kept.refl _ _).below hbX10)) (fun hHeld => ?_)
            clear hK K
            try simp only [Act.put, List.setIfInBounds_toArray, List.set_cons_zero, List.set_cons_succ]
            refine wpAnyH_done (by kernel_rfl) ?_ _
            refine NoPanic.normal ?_
            go_wp2_with fail
            go_meet
            exact ⟨_, fA, gA, jA, kA, _, fB, gB, jB, kB, rfl, rfl, z0X10, zs10, q0X10, q1X10, hbX10⟩
        case o5_5 =>
          go_simp
          refine afterAlloc (fun X11 hc11 hl11 zn11 => ?_)
          have hbX11 : Below W.heap.size W X11 := hbX4.trans (hc11.mono hsX4)
          have hsX11 : W.heap.size ≤ X11.heap.size := hbX11.size
          have q0X11 := q0X4.later hc11
          have q1X11 := qB.later hc11
          refine hK.out _ _ (mkS _ ((Kept.refl _ _).below hbX11)) (fun hHeld2 => ?_)
          clear hK K hHeld
          have hHeld := hHeld2
          clear hHeld2
          try simp only [Act.put, List.setIfInBounds_toArray, List.set_cons_zero, List.set_cons_succ]
          refine wpAnyH_ready (rs := [4]) (by kernel_rfl) (by simp) ?_
          refine AllReadyH.cons rfl (fun K hK => ?o12_4) AllReadyH.nil
          case o12_4 =>
            go_simp
            refine afterAlloc (fun X13 hc13 hl13 zn13 => ?_)
            have hbX13 : Below W.heap.size W X13 := hbX11.trans (hc13.mono hsX11)
            have hsX13 : W.heap.size ≤ X13.heap.size := hbX13.size
            have q0X13 := q0X11.later hc13
            have z1X13 := zn11.later hc13
            have q1X13 := q1X11.later hc13
            have lt1X13 := zn11.lt
            refine hK.out _ _ (mkS _ ((Kept.refl _ _).below hbX13)) (fun hHeld2 => ?_)
            clear hK K hHeld
            have hHeld := hHeld2
            clear hHeld2
            try simp only [Act.put, List.setIfInBounds_toArray, List.set_cons_zero, List.set_cons_succ]
            obtain ⟨d140, d141, d142, d143, d144, d145⟩ := zn13.three
            refine wpAnyH_ready (rs := [6]) (by kernel_rfl) (by simp) ?_
            refine AllReadyH.cons rfl (fun K hK => ?s14) AllReadyH.nil
            go_simp
            refine afterSet3 zn13 (fun X14 o14 zs14 => ?_)
            clear d140 d141 d142 d143 d144 d145
            have hbX14 : Below W.heap.size W X14 := hbX13.trans (o14.below hsX11)
            have z1X14 := z1X13.only o14 (by omega)
            have q0X14 := q0X13.only zn13 o14
            have q1X14 := q1X13.only zn13 o14
            refine hK.out _ _ (mkS _ ((Kept.refl _ _).below hbX14)) (fun hHeld => ?_)
            clear hK K
            try simp only [Act.put, List.setIfInBounds_toArray, List.set_cons_zero, List.set_cons_succ]
            obtain ⟨d150, d151, d152, d153, d154, d155⟩ := z1X14.three
            refine wpAnyH_ready (rs := [7]) (by kernel_rfl) (by simp) ?_
            refine AllReadyH.cons rfl (fun K hK => ?s15) AllReadyH.nil
            go_simp
            refine afterSet3 z1X14 (fun X15 o15 zs15 => ?_)
            clear d150 d151 d152 d153 d154 d155
            have hbX15 : Below W.heap.size W X15 := hbX14.trans (o15.below hsX4)
            have z0X15 := zs14.only o15 (by omega)
            have q0X15 := q0X14.only z1X14 o15
            have q1X15 := q1X14.only z1X14 o15
            refine hK.out _ _ (mkS _ ((Kept.refl _ _).below hbX15)) (fun hHeld => ?_)
            clear hK K
            try simp only [Act.put, List.setIfInBounds_toArray, List.set_cons_zero, List.set_cons_succ]
            refine wpAnyH_done (by kernel_rfl) ?_ _
            refine NoPanic.normal ?_
            go_wp2_with fail
            go_meet
            exact ⟨_, fA, gA, jA, kA, _, fB, gB, jB, kB, rfl, rfl, z0X15, zs15, q0X15, q1X15, hbX15⟩
      case o3_4 =>
        go_simp
        refine afterAlloc (fun X16 hc16 hl16 zn16 => ?_)
        have hbX16 : Below W.heap.size W X16 := hbX2.trans (hc16.mono hsX2)
        have hsX16 : W.heap.size ≤ X16.heap.size := hbX16.size
        have q0X16 := qA.later hc16
        refine hK.out _ _ (mkS _ ((Kept.refl _ _).below hbX16)) (fun hHeld2 => ?_)
        clear hK K hHeld
        have hHeld := hHeld2
        clear hHeld2
        try simp only [Act.put, List.setIfInBounds_toArray, List.set_cons_zero, List.set_cons_succ]
        refine wpAnyH_ready (rs := [3, 5]) (by kernel_rfl) (by simp) ?_
        refine AllReadyH.cons rfl (fun K hK => ?o17_3) (AllReadyH.cons rfl (fun K hK => ?o17_5) AllReadyH.nil)
        case o17_3 =>
          go_simp
          refine (own_copy (m1 := neg1) (A1W.later hbX16) (B1W.later hbX16) (by omega) (by omega) NX1.out NY1.out).mono ?_
          rintro e X18 ⟨rB, rfl, qB, hc18⟩
          have qqB := qB
          obtain ⟨fB, gB, jB, kB, rfl, _, _⟩ := qqB
          go_simp
          have hbX18 : Below W.heap.size W X18 := hbX16.trans (hc18.mono hsX16)
          have hsX18 : W.heap.size ≤ X18.heap.size := hbX18.size
          have z0X18 := zn16.later hc18
          have q0X18 := q0X16.later hc18
          refine hK.out _ _ (mkS _ ((Kept.refl _ _).below hbX18)) (fun hHeld2 => ?_)
          clear hK K hHeld
          have hHeld := hHeld2
          clear hHeld2
          try simp only [Act.put, List.setIfInBounds_toArray, List.set_cons_zero, List.set_cons_succ]
          refine wpAnyH_ready (rs := [5]) (by kernel_rfl) (by simp) ?_
          refine AllReadyH.cons rfl (fun K hK => ?o19_5) AllReadyH.nil
          case o19_5 =>
            go_simp
            refine afterAlloc (fun X20 hc20 hl20 zn20 => ?_)
            have hbX20 : Below W.heap.size W X20 := hbX18.trans (hc20.mono hsX18)
            have hsX20 : W.heap.size ≤ X20.heap.size := hbX20.size
            have z0X20 := z0X18.later hc20
            have q0X20 := q0X18.later hc20
            have q1X20 := qB.later hc20
            have lt0X20 := z0X18.lt
            refine hK.out _ _ (mkS _ ((Kept.refl _ _).below hbX20)) (fun hHeld2 => ?_)
            clear hK K hHeld
            have hHeld := hHeld2
            clear hHeld2
            try simp only [Act.put, List.setIfInBounds_toArray, List.set_cons_zero, List.set_cons_succ]
            obtain ⟨d210, d211, d212, d213, d214, d215⟩ := z0X20.three
            refine wpAnyH_ready (rs := [6]) (by kernel_rfl) (by simp) ?_
            refine AllReadyH.cons rfl (fun K hK => ?s21) AllReadyH.nil
            go_simp
            refine afterSet3 z0X20 (fun X21 o21 zs21 => ?_)
            clear d210 d211 d212 d213 d214 d215
            have hbX21 : Below W.heap.size W X21 := hbX20.trans (o21.below hsX2)
            have z1X21 := zn20.only o21 (by omega)
            have q0X21 := q0X20.only z0X20 o21
            have q1X21 := q1X20.only z0X20 o21
            refine hK.out _ _ (mkS _ ((Kept.refl _ _).below hbX21)) (fun hHeld => ?_)
            clear hK K
            try simp only [Act.put, List.setIfInBounds_toArray, List.set_cons_zero, List.set_cons_succ]
            obtain ⟨d220, d221, d222, d223, d224, d225⟩ := z1X21.three
            refine wpAnyH_ready (rs := [7]) (by kernel_rfl) (by simp) ?_
            refine AllReadyH.cons rfl (fun K hK => ?s22) AllReadyH.nil
            go_simp
            refine afterSet3 z1X21 (fun X22 o22 zs22 => ?_)
            clear d220 d221 d222 d223 d224 d225
            have hbX22 : Below W.heap.size W X22 := hbX21.trans (o22.below hsX18)
            have z0X22 := zs21.only o22 (by omega)
            have q0X22 := q0X21.only z1X21 o22
            have q1X22 := q1X21.only z1X21 o22
            refine hK.out _ _ (mkS _ ((Kept.refl _ _).below hbX22)) (fun hHeld => ?_)
            clear hK K
            try simp only [Act.put, List.setIfInBounds_toArray, List.set_cons_zero, List.set_cons_succ]
            refine wpAnyH_done (by kernel_rfl) ?_ _
            refine NoPanic.normal ?_
            go_wp2_with fail
            go_meet
            exact ⟨_, fA, gA, jA, kA, _, fB, gB, jB, kB, rfl, rfl, z0X22, zs22, q0X22, q1X22, hbX22⟩
        case o17_5 =>
          go_simp
          refine afterAlloc (fun X23 hc23 hl23 zn23 => ?_)
          have hbX23 : Below W.heap.size W X23 := hbX16.trans (hc23.mono hsX16)
          have hsX23 : W.heap.size ≤ X23.heap.size := hbX23.size
          have z0X23 := zn16.later hc23
          have q0X23 := q0X16.later hc23
          have lt0X23 := zn16.lt
          refine hK.out _ _ (mkS _ ((Kept.refl _ _).below hbX23)) (fun hHeld2 => ?_)
          clear hK K hHeld
          have hHeld := hHeld2
          clear hHeld2
          try simp only [Act.put, List.setIfInBounds_toArray, List.set_cons_zero, List.set_cons_succ]
          refine wpAnyH_ready (rs := [3]) (by kernel_rfl) (by simp) ?_
          refine AllReadyH.cons rfl (fun K hK => ?o24_3) AllReadyH.nil
          case o24_3 =>
            go_simp
            refine (own_copy (m1 := neg1) (A1W.later hbX23) (B1W.later hbX23) (by omega) (by omega) NX1.out NY1.out).mono ?_
            rintro e X25 ⟨rB, rfl, qB, hc25⟩
            have qqB := qB
            obtain ⟨fB, gB, jB, kB, rfl, _, _⟩ := qqB
            go_simp
            have hbX25 : Below W.heap.size W X25 := hbX23.trans (hc25.mono hsX23)
            have hsX25 : W.heap.size ≤ X25.heap.size := hbX25.size
            have z0X25 := z0X23.later hc25
            have q0X25 := q0X23.later hc25
            have z1X25 := zn23.later hc25
            refine hK.out _ _ (mkS _ ((Kept.refl _ _).below hbX25)) (fun hHeld2 => ?_)
            clear hK K hHeld
            have hHeld := hHeld2
            clear hHeld2
            try simp only [Act.put, List.setIfInBounds_toArray, List.set_cons_zero, List.set_cons_succ]
            obtain ⟨d260, d261, d262, d263, d264, d265⟩ := z0X25.three
            refine wpAnyH_ready (rs := [6]) (by kernel_rfl) (by simp) ?_
            refine AllReadyH.cons rfl (fun K hK => ?s26) AllReadyH.nil
            go_simp
            refine afterSet3 z0X25 (fun X26 o26 zs26 => ?_)
            clear d260 d261 d262 d263 d264 d265
            have hbX26 : Below W.heap.size W X26 := hbX25.trans (o26.below hsX2)
            have z1X26 := z1X25.only o26 (by omega)
            have q0X26 := q0X25.only z0X25 o26
            have q1X26 := qB.only z0X25 o26
            refine hK.out _ _ (mkS _ ((Kept.refl _ _).below hbX26)) (fun hHeld => ?_)
            clear hK K
            try simp only [Act.put, List.setIfInBounds_toArray, List.set_cons_zero, List.set_cons_succ]
            obtain ⟨d270, d271, d272, d273, d274, d275⟩ := z1X26.three
            refine wpAnyH_ready (rs := [7]) (by kernel_rfl) (by simp) ?_
            refine AllReadyH.cons rfl (fun K hK => ?s27) AllReadyH.nil
            go_simp
            refine afterSet3 z1X26 (fun X27 o27 zs27 => ?_)
            clear d270 d271 d272 d273 d274 d275
            have hbX27 : Below W.heap.size W X27 := hbX26.trans (o27.below hsX16)
            have z0X27 := zs26.only o27 (by omega)
            have q0X27 := q0X26.only z1X26 o27
            have q1X27 := q1X26.only z1X26 o27
            refine hK.out _ _ (mkS _ ((Kept.refl _ _).below hbX27)) (fun hHeld => ?_)
            clear hK K
            try simp only [Act.put, List.setIfInBounds_toArray, List.set_cons_zero, List.set_cons_succ]
            refine wpAnyH_done (by kernel_rfl) ?_ _
            refine NoPanic.normal ?_
            go_wp2_with fail
            go_meet
            exact ⟨_, fA, gA, jA, kA, _, fB, gB, jB, kB, rfl, rfl, z0X27, zs27, q0X27, q1X27, hbX27⟩
      case o3_5 =>
        go_simp
        refine afterAlloc (fun X28 hc28 hl28 zn28 => ?_)
        have hbX28 : Below W.heap.size W X28 := hbX2.trans (hc28.mono hsX2)
        have hsX28 : W.heap.size ≤ X28.heap.size := hbX28.size
        have q0X28 := qA.later hc28
        refine hK.out _ _ (mkS _ ((Kept.refl _ _).below hbX28)) (fun hHeld2 => ?_)
        clear hK K hHeld
        have hHeld := hHeld2
        clear hHeld2
        try simp only [Act.put, List.setIfInBounds_toArray, List.set_cons_zero, List.set_cons_succ]
        refine wpAnyH_ready (rs := [3, 4]) (by kernel_rfl) (by simp) ?_
        refine AllReadyH.cons rfl (fun K hK => ?o29_3) (AllReadyH.cons rfl (fun K hK => ?o29_4) AllReadyH.nil)
        case o29_3 =>
          go_simp
          refine (own_copy (m1 := neg1) (A1W.later hbX28) (B1W.later hbX28) (by omega) (by omega) NX1.out NY1.out).mono ?_
          rintro e X30 ⟨rB, rfl, qB, hc30⟩
          have qqB := qB
          obtain ⟨fB, gB, jB, kB, rfl, _, _⟩ := qqB
          go_simp
          have hbX30 : Below W.heap.size W X30 := hbX28.trans (hc30.mono hsX28)
          have hsX30 : W.heap.size ≤ X30.heap.size := hbX30.size
          have q0X30 := q0X28.later hc30
          have z1X30 := zn28.later hc30
          refine hK.out _ _ (mkS _ ((Kept.refl _ _).below hbX30)) (fun hHeld2 => ?_)
          clear hK K hHeld
          have hHeld := hHeld2
          clear hHeld2
          try simp only [Act.put, List.setIfInBounds_toArray, List.set_cons_zero, List.set_cons_succ]
          refine wpAnyH_ready (rs := [4]) (by kernel_rfl) (by simp) ?_
          refine AllReadyH.cons rfl (fun K hK => ?o31_4) AllReadyH.nil
          case o31_4 =>
            go_simp
            refine afterAlloc (fun X32 hc32 hl32 zn32 => ?_)
            have hbX32 : Below W.heap.size W X32 := hbX30.trans (hc32.mono hsX30)
            have hsX32 : W.heap.size ≤ X32.heap.size := hbX32.size
            have q0X32 := q0X30.later hc32
            have z1X32 := z1X30.later hc32
            have q1X32 := qB.later hc32
            have lt1X32 := z1X30.lt
            refine hK.out _ _ (mkS _ ((Kept.refl _ _).below hbX32)) (fun hHeld2 => ?_)
            clear hK K hHeld
            have hHeld := hHeld2
            clear hHeld2
            try simp only [Act.put, List.setIfInBounds_toArray, List.set_cons_zero, List.set_cons_succ]
            obtain ⟨d330, d331, d332, d333, d334, d335⟩ := zn32.three
            refine wpAnyH_ready (rs := [6]) (by kernel_rfl) (by simp) ?_
            refine AllReadyH.cons rfl (fun K hK => ?s33) AllReadyH.nil
            go_simp
            refine afterSet3 zn32 (fun X33 o33 zs33 => ?_)
            clear d330 d331 d332 d333 d334 d335
            have hbX33 : Below W.heap.size W X33 := hbX32.trans (o33.below hsX30)
            have z1X33 := z1X32.only o33 (by omega)
            have q0X33 := q0X32.only zn32 o33
            have q1X33 := q1X32.only zn32 o33
            refine hK.out _ _ (mkS _ ((Kept.refl _ _).below hbX33)) (fun hHeld => ?_)
            clear hK K
            try simp only [Act.put, List.setIfInBounds_toArray, List.set_cons_zero, List.set_cons_succ]
            obtain ⟨d340, d341, d342, d343, d344, d345⟩ := z1X33.three
            refine wpAnyH_ready (rs := [7]) (by kernel_rfl) (by simp) ?_
            refine AllReadyH.cons rfl (fun K hK => ?s34) AllReadyH.nil
            go_simp
            refine afterSet3 z1X33 (fun X34 o34 zs34 => ?_)
            clear d340 d341 d342 d343 d344 d345
            have hbX34 : Below W.heap.size W X34 := hbX33.trans (o34.below hsX2)
            have z0X34 := zs33.only o34 (by omega)
            have q0X34 := q0X33.only z1X33 o34
            have q1X34 := q1X33.only z1X33 o34
            refine hK.out _ _ (mkS _ ((Kept.refl _ _).below hbX34)) (fun hHeld => ?_)
            clear hK K
            try simp only [Act.put, List.setIfInBounds_toArray, List.set_cons_zero, List.set_cons_succ]
            refine wpAnyH_done (by kernel_rfl) ?_ _
            refine NoPanic.normal ?_
            go_wp2_with fail
            go_meet
            exact ⟨_, fA, gA, jA, kA, _, fB, gB, jB, kB, rfl, rfl, z0X34, zs34, q0X34, q1X34, hbX34⟩
        case o29_4 =>
          go_simp
          refine afterAlloc (fun X35 hc35 hl35 zn35 => ?_)
          have hbX35 : Below W.heap.size W X35 := hbX28.trans (hc35.mono hsX28)
          have hsX35 : W.heap.size ≤ X35.heap.size := hbX35.size
          have q0X35 := q0X28.later hc35
          have z1X35 := zn28.later hc35
          have lt1X35 := zn28.lt
          refine hK.out _ _ (mkS _ ((Kept.refl _ _).below hbX35)) (fun hHeld2 => ?_)
          clear hK K hHeld
          have hHeld := hHeld2
          clear hHeld2
          try simp only [Act.put, List.setIfInBounds_toArray, List.set_cons_zero, List.set_cons_succ]
          refine wpAnyH_ready (rs := [3]) (by kernel_rfl) (by simp) ?_
          refine AllReadyH.cons rfl (fun K hK => ?o36_3) AllReadyH.nil
          case o36_3 =>
            go_simp
            refine (own_copy (m1 := neg1) (A1W.later hbX35) (B1W.later hbX35) (by omega) (by omega) NX1.out NY1.out).mono ?_
            rintro e X37 ⟨rB, rfl, qB, hc37⟩
            have qqB := qB
            obtain ⟨fB, gB, jB, kB, rfl, _, _⟩ := qqB
            go_simp
            have hbX37 : Below W.heap.size W X37 := hbX35.trans (hc37.mono hsX35)
            have hsX37 : W.heap.size ≤ X37.heap.size := hbX37.size
            have z0X37 := zn35.later hc37
            have q0X37 := q0X35.later hc37
            have z1X37 := z1X35.later hc37
            refine hK.out _ _ (mkS _ ((Kept.refl _ _).below hbX37)) (fun hHeld2 => ?_)
            clear hK K hHeld
            have hHeld := hHeld2
            clear hHeld2
            try simp only [Act.put, List.setIfInBounds_toArray, List.set_cons_zero, List.set_cons_succ]
            obtain ⟨d380, d381, d382, d383, d384, d385⟩ := z0X37.three
            refine wpAnyH_ready (rs := [6]) (by kernel_rfl) (by simp) ?_
            refine AllReadyH.cons rfl (fun K hK => ?s38) AllReadyH.nil
            go_simp
            refine afterSet3 z0X37 (fun X38 o38 zs38 => ?_)
            clear d380 d381 d382 d383 d384 d385
            have hbX38 : Below W.heap.size W X38 := hbX37.trans (o38.below hsX28)
            have z1X38 := z1X37.only o38 (by omega)
            have q0X38 := q0X37.only z0X37 o38
            have q1X38 := qB.only z0X37 o38
            refine hK.out _ _ (mkS _ ((Kept.refl _ _).below hbX38)) (fun hHeld => ?_)
            clear hK K
            try simp only [Act.put, List.setIfInBounds_toArray, List.set_cons_zero, List.set_cons_succ]
            obtain ⟨d390, d391, d392, d393, d394, d395⟩ := z1X38.three
            refine wpAnyH_ready (rs := [7]) (by kernel_rfl) (by simp) ?_
            refine AllReadyH.cons rfl (fun K hK => ?s39) AllReadyH.nil
            go_simp
            refine afterSet3 z1X38 (fun X39 o39 zs39 => ?_)
            clear d390 d391 d392 d393 d394 d395
            have hbX39 : Below W.heap.size W X39 := hbX38.trans (o39.below hsX2)
            have z0X39 := zs38.only o39 (by omega)
            have q0X39 := q0X38.only z1X38 o39
            have q1X39 := q1X38.only z1X38 o39
            refine hK.out _ _ (mkS _ ((Kept.refl _ _).below hbX39)) (fun hHeld => ?_)
            clear hK K
            try simp only [Act.put, List.setIfInBounds_toArray, List.set_cons_zero, List.set_cons_succ]
            refine wpAnyH_done (by kernel_rfl) ?_ _
            refine NoPanic.normal ?_
            go_wp2_with fail
            go_meet
            exact ⟨_, fA, gA, jA, kA, _, fB, gB, jB, kB, rfl, rfl, z0X39, zs39, q0X39, q1X39, hbX39⟩
    case o1_4 =>
      go_simp
      refine afterAlloc (fun X40 hc40 hl40 zn40 => ?_)
      have hbX40 : Below W.heap.size W X40 := hb0.trans (hc40.mono hs0)
      have hsX40 : W.heap.size ≤ X40.heap.size := hbX40.size
      refine hK.out _ _ (mkS _ ((Kept.refl _ _).below hbX40)) (fun hHeld2 => ?_)
      clear hK K hHeld
      have hHeld := hHeld2
      clear hHeld2
      try simp only [Act.put, List.setIfInBounds_toArray, List.set_cons_zero, List.set_cons_succ]
      refine wpAnyH_ready (rs := [1, 5]) (by kernel_rfl) (by simp) ?_
      refine AllReadyH.cons rfl (fun K hK => ?o41_1) (AllReadyH.cons rfl (fun K hK => ?o41_5) AllReadyH.nil)
      case o41_1 =>
        go_simp
        refine (own_copy (m1 := neg0) (A0W.later hbX40) (B0W.later hbX40) (by omega) (by omega) NX0.out NY0.out).mono ?_
        rintro e X42 ⟨rA, rfl, qA, hc42⟩
        have qqA := qA
        obtain ⟨fA, gA, jA, kA, rfl, _, _⟩ := qqA
        go_simp
        have hbX42 : Below W.heap.size W X42 := hbX40.trans (hc42.mono hsX40)
        have hsX42 : W.heap.size ≤ X42.heap.size := hbX42.size
        have z0X42 := zn40.later hc42
        refine hK.out _ _ (mkS _ ((Kept.refl _ _).below hbX42)) (fun hHeld2 => ?_)
        clear hK K hHeld
        have hHeld := hHeld2
        clear hHeld2
        try simp only [Act.put, List.setIfInBounds_toArray, List.set_cons_zero, List.set_cons_succ]
        refine wpAnyH_ready (rs := [3, 5]) (by kernel_rfl) (by simp) ?_
        refine AllReadyH.cons rfl (fun K hK => ?o43_3) (AllReadyH.cons rfl (fun K hK => ?o43_5) AllReadyH.nil)
        case o43_3 =>
          go_simp
          refine (own_copy (m1 := neg1) (A1W.later hbX42) (B1W.later hbX42) (by omega) (by omega) NX1.out NY1.out).mono ?_
          rintro e X44 ⟨rB, rfl, qB, hc44⟩
          have qqB := qB
          obtain ⟨fB, gB, jB, kB, rfl, _, _⟩ := qqB
          go_simp
          have hbX44 : Below W.heap.size W X44 := hbX42.trans (hc44.mono hsX42)
          have hsX44 : W.heap.size ≤ X44.heap.size := hbX44.size
          have z0X44 := z0X42.later hc44
          have q0X44 := qA.later hc44
          refine hK.out _ _ (mkS _ ((Kept.refl _ _).below hbX44)) (fun hHeld2 => ?_)
          clear hK K hHeld
          have hHeld := hHeld2
          clear hHeld2
          try simp only [Act.put, List.setIfInBounds_toArray, List.set_cons_zero, List.set_cons_succ]
          refine wpAnyH_ready (rs := [5]) (by kernel_rfl) (by simp) ?_
          refine AllReadyH.cons rfl (fun K hK => ?o45_5) AllReadyH.nil
          case o45_5 =>
            go_simp
            refine afterAlloc (fun X46 hc46 hl46 zn46 => ?_)
            have hbX46 : Below W.heap.size W X46 := hbX44.trans (hc46.mono hsX44)
            have hsX46 : W.heap.size ≤ X46.heap.size := hbX46.size
            have z0X46 := z0X44.later hc46
            have q0X46 := q0X44.later hc46
            have q1X46 := qB.later hc46
            have lt0X46 := z0X44.lt
            refine hK.out _ _ (mkS _ ((Kept.refl _ _).below hbX46)) (fun hHeld2 => ?_)
            clear hK K hHeld
            have hHeld := hHeld2
            clear hHeld2
            try simp only [Act.put, List.setIfInBounds_toArray, List.set_cons_zero, List.set_cons_succ]
            obtain ⟨d470, d471, d472, d473, d474, d475⟩ := z0X46.three
            refine wpAnyH_ready (rs := [6]) (by kernel_rfl) (by simp) ?_
            refine AllReadyH.cons rfl (fun K hK => ?s47) AllReadyH.nil
            go_simp
            refine afterSet3 z0X46 (fun X47 o47 zs47 => ?_)
            clear d470 d471 d472 d473 d474 d475
            have hbX47 : Below W.heap.size W X47 := hbX46.trans (o47.below hs0)
            have z1X47 := zn46.only o47 (by omega)
            have q0X47 := q0X46.only z0X46 o47
            have q1X47 := q1X46.only z0X46 o47
            refine hK.out _ _ (mkS _ ((Kept.refl _ _).below hbX47)) (fun hHeld => ?_)
            clear hK K
            try simp only [Act.put, List.setIfInBounds_toArray, List.set_cons_zero, List.set_cons_succ]
            obtain ⟨d480, d481, d482, d483, d484, d485⟩ := z1X47.three
            refine wpAnyH_ready (rs := [7]) (by kernel_rfl) (by simp) ?_
            refine AllReadyH.cons rfl (fun K hK => ?s48) AllReadyH.nil
            go_simp
            refine afterSet3 z1X47 (fun X48 o48 zs48 => ?_)
            clear d480 d481 d482 d483 d484 d485
            have hbX48 : Below W.heap.size W X48 := hbX47.trans (o48.below hsX44)
            have z0X48 := zs47.only o48 (by omega)
            have q0X48 := q0X47.only z1X47 o48
            have q1X48 := q1X47.only z1X47 o48
            refine hK.out _ _ (mkS _ ((Kept.refl _ _).below hbX48)) (fun hHeld => ?_)
            clear hK K
            try simp only [Act.put, List.setIfInBounds_toArray, List.set_cons_zero, List.set_cons_succ]
            refine wpAnyH_done (by kernel_rfl) ?_ _
            refine NoPanic.normal ?_
            go_wp2_with fail
            go_meet
            exact ⟨_, fA, gA, jA, kA, _, fB, gB, jB, kB, rfl, rfl, z0X48, zs48, q0X48, q1X48, hbX48⟩
        case o43_5 =>
          go_simp
          refine afterAlloc (fun X49 hc49 hl49 zn49 => ?_)
          have hbX49 : Below W.heap.size W X49 := hbX42.trans (hc49.mono hsX42)
          have hsX49 : W.heap.size ≤ X49.heap.size := hbX49.size
          have z0X49 := z0X42.later hc49
          have q0X49 := qA.later hc49
          have lt0X49 := z0X42.lt
          refine hK.out _ _ (mkS _ ((Kept.refl _ _).below hbX49)) (fun hHeld2 => ?_)
          clear hK K hHeld
          have hHeld := hHeld2
          clear hHeld2
          try simp only [Act.put, List.setIfInBounds_toArray, List.set_cons_zero, List.set_cons_succ]
          refine wpAnyH_ready (rs := [3]) (by kernel_rfl) (by simp) ?_
          refine AllReadyH.cons rfl (fun K hK => ?o50_3) AllReadyH.nil
          case o50_3 =>
            go_simp
            refine (own_copy (m1 := neg1) (A1W.later hbX49) (B1W.later hbX49) (by omega) (by omega) NX1.out NY1.out).mono ?_
            rintro e X51 ⟨rB, rfl, qB, hc51⟩
            have qqB := qB
            obtain ⟨fB, gB, jB, kB, rfl, _, _⟩ := qqB
            go_simp
            have hbX51 : Below W.heap.size W X51 := hbX49.trans (hc51.mono hsX49)
            have hsX51 : W.heap.size ≤ X51.heap.size := hbX51.size
            have z0X51 := z0X49.later hc51
            have q0X51 := q0X49.later hc51
            have z1X51 := zn49.later hc51
            refine hK.out _ _ (mkS _ ((Kept.refl _ _).below hbX51)) (fun hHeld2 => ?_)
            clear hK K hHeld
            have hHeld := hHeld2
            clear hHeld2
            try simp only [Act.put, List.setIfInBounds_toArray, List.set_cons_zero, List.set_cons_succ]
            obtain ⟨d520, d521, d522, d523, d524, d525⟩ := z0X51.three
            refine wpAnyH_ready (rs := [6]) (by kernel_rfl) (by simp) ?_
            refine AllReadyH.cons rfl (fun K hK => ?s52) AllReadyH.nil
            go_simp
            refine afterSet3 z0X51 (fun X52 o52 zs52 => ?_)
            clear d520 d521 d522 d523 d524 d525
            have hbX52 : Below W.heap.size W X52 := hbX51.trans (o52.below hs0)
            have z1X52 := z1X51.only o52 (by omega)
            have q0X52 := q0X51.only z0X51 o52
            have q1X52 := qB.only z0X51 o52
            refine hK.out _ _ (mkS _ ((Kept.refl _ _).below hbX52)) (fun hHeld => ?_)
            clear hK K
            try simp only [Act.put, List.setIfInBounds_toArray, List.set_cons_zero, List.set_cons_succ]
            obtain ⟨d530, d531, d532, d533, d534, d535⟩ := z1X52.three
            refine wpAnyH_ready (rs := [7]) (by kernel_rfl) (by simp) ?_
            refine AllReadyH.cons rfl (fun K hK => ?s53) AllReadyH.nil
            go_simp
            refine afterSet3 z1X52 (fun X53 o53 zs53 => ?_)
            clear d530 d531 d532 d533 d534 d535
            have hbX53 : Below W.heap.size W X53 := hbX52.trans (o53.below hsX42)
            have z0X53 := zs52.only o53 (by omega)
            have q0X53 := q0X52.only z1X52 o53
            have q1X53 := q1X52.only z1X52 o53
            refine hK.out _ _ (mkS _ ((Kept.refl _ _).below hbX53)) (fun hHeld => ?_)
            clear hK K
            try simp only [Act.put, List.setIfInBounds_toArray, List.set_cons_zero, List.set_cons_succ]
            refine wpAnyH_done (by kernel_rfl) ?_ _
            refine NoPanic.normal ?_
            go_wp2_with fail
            go_meet
            exact ⟨_, fA, gA, jA, kA, _, fB, gB, jB, kB, rfl, rfl, z0X53, zs53, q0X53, q1X53, hbX53⟩
      case o41_5 =>
        go_simp
        refine afterAlloc (fun X54 hc54 hl54 zn54 => ?_)
        have hbX54 : Below W.heap.size W X54 := hbX40.trans (hc54.mono hsX40)
        have hsX54 : W.heap.size ≤ X54.heap.size := hbX54.size
        have z0X54 := zn40.later hc54
        have lt0X54 := zn40.lt
        refine hK.out _ _ (mkS _ ((Kept.refl _ _).below hbX54)) (fun hHeld2 => ?_)
        clear hK K hHeld
        have hHeld := hHeld2
        clear hHeld2
        try simp only [Act.put, List.setIfInBounds_toArray, List.set_cons_zero, List.set_cons_succ]
        refine wpAnyH_ready (rs := [1]) (by kernel_rfl) (by simp) ?_
        refine AllReadyH.cons rfl (fun K hK => ?o55_1) AllReadyH.nil
        case o55_1 =>
          go_simp
          refine (own_copy (m1 := neg0) (A0W.later hbX54) (B0W.later hbX54) (by omega) (by omega) NX0.out NY0.out).mono ?_
          rintro e X56 ⟨rA, rfl, qA, hc56⟩
          have qqA := qA
          obtain ⟨fA, gA, jA, kA, rfl, _, _⟩ := qqA
          go_simp
          have hbX56 : Below W.heap.size W X56 := hbX54.trans (hc56.mono hsX54)
          have hsX56 : W.heap.size ≤ X56.heap.size := hbX56.size
          have z0X56 := z0X54.later hc56
          have z1X56 := zn54.later hc56
          refine hK.out _ _ (mkS _ ((Kept.refl _ _).below hbX56)) (fun hHeld2 => ?_)
          clear hK K hHeld
          have hHeld := hHeld2
          clear hHeld2
          try simp only [Act.put, List.setIfInBounds_toArray, List.set_cons_zero, List.set_cons_succ]
          refine wpAnyH_ready (rs := [3]) (by kernel_rfl) (by simp) ?_
          refine AllReadyH.cons rfl (fun K hK => ?o57_3) AllReadyH.nil
          case o57_3 =>
            go_simp
            refine (own_copy (m1 := neg1) (A1W.later hbX56) (B1W.later hbX56) (by omega) (by omega) NX1.out NY1.out).mono ?_
            rintro e X58 ⟨rB, rfl, qB, hc58⟩
            have qqB := qB
            obtain ⟨fB, gB, jB, kB, rfl, _, _⟩ := qqB
            go_simp
            have hbX58 : Below W.heap.size W X58 := hbX56.trans (hc58.mono hsX56)
            have hsX58 : W.heap.size ≤ X58.heap.size := hbX58.size
            have z0X58 := z0X56.later hc58
            have q0X58 := qA.later hc58
            have z1X58 := z1X56.later hc58
            refine hK.out _ _ (mkS _ ((Kept.refl _ _).below hbX58)) (fun hHeld2 => ?_)
            clear hK K hHeld
            have hHeld := hHeld2
            clear hHeld2
            try simp only [Act.put, List.setIfInBounds_toArray, List.set_cons_zero, List.set_cons_succ]
            obtain ⟨d590, d591, d592, d593, d594, d595⟩ := z0X58.three
            refine wpAnyH_ready (rs := [6]) (by kernel_rfl) (by simp) ?_
            refine AllReadyH.cons rfl (fun K hK => ?s59) AllReadyH.nil
            go_simp
            refine afterSet3 z0X58 (fun X59 o59 zs59 => ?_)
            clear d590 d591 d592 d593 d594 d595
            have hbX59 : Below W.heap.size W X59 := hbX58.trans (o59.below hs0)
            have z1X59 := z1X58.only o59 (by omega)
            have q0X59 := q0X58.only z0X58 o59
            have q1X59 := qB.only z0X58 o59
            refine hK.out _ _ (mkS _ ((Kept.refl _ _).below hbX59)) (fun hHeld => ?_)
            clear hK K
            try simp only [Act.put, List.setIfInBounds_toArray, List.set_cons_zero, List.set_cons_succ]
            obtain ⟨d600, d601, d602, d603, d604, d605⟩ := z1X59.three
            refine wpAnyH_ready (rs := [7]) (by kernel_rfl) (by simp) ?_
            refine AllReadyH.cons rfl (fun K hK => ?s60) AllReadyH.nil
            go_simp
            refine afterSet3 z1X59 (fun X60 o60 zs60 => ?_)
            clear d600 d601 d602 d603 d604 d605
            have hbX60 : Below W.heap.size W X60 := hbX59.trans (o60.below hsX40)
            have z0X60 := zs59.only o60 (by omega)
            have q0X60 := q0X59.only z1X59 o60
            have q1X60 := q1X59.only z1X59 o60
            refine hK.out _ _ (mkS _ ((Kept.refl _ _).below hbX60)) (fun hHeld => ?_)
            clear hK K
            try simp only [Act.put, List.setIfInBounds_toArray, List.set_cons_zero, List.set_cons_succ]
            refine wpAnyH_done (by kernel_rfl) ?_ _
            refine NoPanic.normal ?_
            go_wp2_with fail
            go_meet
            exact ⟨_, fA, gA, jA, kA, _, fB, gB, jB, kB, rfl, rfl, z0X60, zs60, q0X60, q1X60, hbX60⟩
    case o1_5 =>
      go_simp
      refine afterAlloc (fun X61 hc61 hl61 zn61 => ?_)
      have hbX61 : Below W.heap.size W X61 := hb0.trans (hc61.mono hs0)
      have hsX61 : W.heap.size ≤ X61.heap.size := hbX61.size
      refine hK.out _ _ (mkS _ ((Kept.refl _ _).below hbX61)) (fun hHeld2 => ?_)
      clear hK K hHeld
      have hHeld := hHeld2
      clear hHeld2
      try simp only [Act.put, List.setIfInBounds_toArray, List.set_cons_zero, List.set_cons_succ]
      refine wpAnyH_ready (rs := [1, 4]) (by kernel_rfl) (by simp) ?_
      refine AllReadyH.cons rfl (fun K hK => ?o62_1) (AllReadyH.cons rfl (fun K hK => ?o62_4) AllReadyH.nil)
      case o62_1 =>
        go_simp
        refine (own_copy (m1 := neg0) (A0W.later hbX61) (B0W.later hbX61) (by omega) (by omega) NX0.out NY0.out).mono ?_
        rintro e X63 ⟨rA, rfl, qA, hc63⟩
        have qqA := qA
        obtain ⟨fA, gA, jA, kA, rfl, _, _⟩ := qqA
        go_simp
        have hbX63 : Below W.heap.size W X63 := hbX61.trans (hc63.mono hsX61)
        have hsX63 : W.heap.size ≤ X63.heap.size := hbX63.size
        have z1X63 := zn61.later hc63
        refine hK.out _ _ (mkS _ ((Kept.refl _ _).below hbX63)) (fun hHeld2 => ?_)
        clear hK K hHeld
        have hHeld := hHeld2
        clear hHeld2
        try simp only [Act.put, List.setIfInBounds_toArray, List.set_cons_zero, List.set_cons_succ]
        refine wpAnyH_ready (rs := [3, 4]) (by kernel_rfl) (by simp) ?_
        refine AllReadyH.cons rfl (fun K hK => ?o64_3) (AllReadyH.cons rfl (fun K hK => ?o64_4) AllReadyH.nil)
        case o64_3 =>
          go_simp
          refine (own_copy (m1 := neg1) (A1W.later hbX63) (B1W.later hbX63) (by omega) (by omega) NX1.out NY1.out).mono ?_
          rintro e X65 ⟨rB, rfl, qB, hc65⟩
          have qqB := qB
          obtain ⟨fB, gB, jB, kB, rfl, _, _⟩ := qqB
          go_simp
          have hbX65 : Below W.heap.size W X65 := hbX63.trans (hc65.mono hsX63)
          have hsX65 : W.heap.size ≤ X65.heap.size := hbX65.size
          have q0X65 := qA.later hc65
          have z1X65 := z1X63.later hc65
          refine hK.out _ _ (mkS _ ((Kept.refl _ _).below hbX65)) (fun hHeld2 => ?_)
          clear hK K hHeld
          have hHeld := hHeld2
          clear hHeld2
          try simp only [Act.put, List.setIfInBounds_toArray, List.set_cons_zero, List.set_cons_succ]
          refine wpAnyH_ready (rs := [4]) (by kernel_rfl) (by simp) ?_
          refine AllReadyH.cons rfl (fun K hK => ?o66_4) AllReadyH.nil
          case o66_4 =>
            go_simp
            refine afterAlloc (fun X67 hc67 hl67 zn67 => ?_)
            have hbX67 : Below W.heap.size W X67 := hbX65.trans (hc67.mono hsX65)
            have hsX67 : W.heap.size ≤ X67.heap.size := hbX67.size
            have q0X67 := q0X65.later hc67
            have z1X67 := z1X65.later hc67
            have q1X67 := qB.later hc67
            have lt1X67 := z1X65.lt
            refine hK.out _ _ (mkS _ ((Kept.refl _ _).below hbX67)) (fun hHeld2 => ?_)
            clear hK K hHeld
            have hHeld := hHeld2
            clear hHeld2
            try simp only [Act.put, List.setIfInBounds_toArray, List.set_cons_zero, List.set_cons_succ]
            obtain ⟨d680, d681, d682, d683, d684, d685⟩ := zn67.three
            refine wpAnyH_ready (rs := [6]) (by kernel_rfl) (by simp) ?_
            refine AllReadyH.cons rfl (fun K hK => ?s68) AllReadyH.nil
            go_simp
            refine afterSet3 zn67 (fun X68 o68 zs68 => ?_)
            clear d680 d681 d682 d683 d684 d685
            have hbX68 : Below W.heap.size W X68 := hbX67.trans (o68.below hsX65)
            have z1X68 := z1X67.only o68 (by omega)
            have q0X68 := q0X67.only zn67 o68
            have q1X68 := q1X67.only zn67 o68
            refine hK.out _ _ (mkS _ ((Kept.refl _ _).below hbX68)) (fun hHeld => ?_)
            clear hK K
            try simp only [Act.put, List.setIfInBounds_toArray, List.set_cons_zero, List.set_cons_succ]
            obtain ⟨d690, d691, d692, d693, d694, d695⟩ := z1X68.three
            refine wpAnyH_ready (rs := [7]) (by kernel_rfl) (by simp) ?_
            refine AllReadyH.cons rfl (fun K hK => ?s69) AllReadyH.nil
            go_simp
            refine afterSet3 z1X68 (fun X69 o69 zs69 => ?_)
            clear d690 d691 d692 d693 d694 d695
            have hbX69 : Below W.heap.size W X69 := hbX68.trans (o69.below hs0)
            have z0X69 := zs68.only o69 (by omega)
            have q0X69 := q0X68.only z1X68 o69
            have q1X69 := q1X68.only z1X68 o69
            refine hK.out _ _ (mkS _ ((Kept.refl _ _).below hbX69)) (fun hHeld => ?_)
            clear hK K
            try simp only [Act.put, List.setIfInBounds_toArray, List.set_cons_zero, List.set_cons_succ]
            refine wpAnyH_done (by kernel_rfl) ?_ _
            refine NoPanic.normal ?_
            go_wp2_with fail
            go_meet
            exact ⟨_, fA, gA, jA, kA, _, fB, gB, jB, kB, rfl, rfl, z0X69, zs69, q0X69, q1X69, hbX69⟩
        case o64_4 =>
          go_simp
          refine afterAlloc (fun X70 hc70 hl70 zn70 => ?_)
          have hbX70 : Below W.heap.size W X70 := hbX63.trans (hc70.mono hsX63)
          have hsX70 : W.heap.size ≤ X70.heap.size := hbX70.size
          have q0X70 := qA.later hc70
          have z1X70 := z1X63.later hc70
          have lt1X70 := z1X63.lt
          refine hK.out _ _ (mkS _ ((Kept.refl _ _).below hbX70)) (fun hHeld2 => ?_)
          clear hK K hHeld
          have hHeld := hHeld2
          clear hHeld2
          try simp only [Act.put, List.setIfInBounds_toArray, List.set_cons_zero, List.set_cons_succ]
          refine wpAnyH_ready (rs := [3]) (by kernel_rfl) (by simp) ?_
          refine AllReadyH.cons rfl (fun K hK => ?o71_3) AllReadyH.nil
          case o71_3 =>
            go_simp
            refine (own_copy (m1 := neg1) (A1W.later hbX70) (B1W.later hbX70) (by omega) (by omega) NX1.out NY1.out).mono ?_
            rintro e X72 ⟨rB, rfl, qB, hc72⟩
            have qqB := qB
            obtain ⟨fB, gB, jB, kB, rfl, _, _⟩ := qqB
            go_simp
            have hbX72 : Below W.heap.size W X72 := hbX70.trans (hc72.mono hsX70)
            have hsX72 : W.heap.size ≤ X72.heap.size := hbX72.size
            have z0X72 := zn70.later hc72
            have q0X72 := q0X70.later hc72
            have z1X72 := z1X70.later hc72
            refine hK.out _ _ (mkS _ ((Kept.refl _ _).below hbX72)) (fun hHeld2 => ?_)
            clear hK K hHeld
            have hHeld := hHeld2
            clear hHeld2
            try simp only [Act.put, List.setIfInBounds_toArray, List.set_cons_zero, List.set_cons_succ]
            obtain ⟨d730, d731, d732, d733, d734, d735⟩ := z0X72.three
            refine wpAnyH_ready (rs := [6]) (by kernel_rfl) (by simp) ?_
            refine AllReadyH.cons rfl (fun K hK => ?s73) AllReadyH.nil
            go_simp
            refine afterSet3 z0X72 (fun X73 o73 zs73 => ?_)
            clear d730 d731 d732 d733 d734 d735
            have hbX73 : Below W.heap.size W X73 := hbX72.trans (o73.below hsX63)
            have z1X73 := z1X72.only o73 (by omega)
            have q0X73 := q0X72.only z0X72 o73
            have q1X73 := qB.only z0X72 o73
            refine hK.out _ _ (mkS _ ((Kept.refl _ _).below hbX73)) (fun hHeld => ?_)
            clear hK K
            try simp only [Act.put, List.setIfInBounds_toArray, List.set_cons_zero, List.set_cons_succ]
            obtain ⟨d740, d741, d742, d743, d744, d745⟩ := z1X73.three
            refine wpAnyH_ready (rs := [7]) (by kernel_rfl) (by simp) ?_
            refine AllReadyH.cons rfl (fun K hK => ?s74) AllReadyH.nil
            go_simp
            refine afterSet3 z1X73 (fun X74 o74 zs74 => ?_)
            clear d740 d741 d742 d743 d744 d745
            have hbX74 : Below W.heap.size W X74 := hbX73.trans (o74.below hs0)
            have z0X74 := zs73.only o74 (by omega)
            have q0X74 := q0X73.only z1X73 o74
            have q1X74 := q1X73.only z1X73 o74
            refine hK.out _ _ (mkS _ ((Kept.refl _ _).below hbX74)) (fun hHeld => ?_)
            clear hK K
            try simp only [Act.put, List.setIfInBounds_toArray, List.set_cons_zero, List.set_cons_succ]
            refine wpAnyH_done (by kernel_rfl) ?_ _
            refine NoPanic.normal ?_
            go_wp2_with fail
            go_meet
            exact ⟨_, fA, gA, jA, kA, _, fB, gB, jB, kB, rfl, rfl, z0X74, zs74, q0X74, q1X74, hbX74⟩
      case o62_4 =>
        go_simp
        refine afterAlloc (fun X75 hc75 hl75 zn75 => ?_)
        have hbX75 : Below W.heap.size W X75 := hbX61.trans (hc75.mono hsX61)
        have hsX75 : W.heap.size ≤ X75.heap.size := hbX75.size
        have z1X75 := zn61.later hc75
        have lt1X75 := zn61.lt
        refine hK.out _ _ (mkS _ ((Kept.refl _ _).below hbX75)) (fun hHeld2 => ?_)
        clear hK K hHeld
        have hHeld := hHeld2
        clear hHeld2
        try simp only [Act.put, List.setIfInBounds_toArray, List.set_cons_zero, List.set_cons_succ]
        refine wpAnyH_ready (rs := [1]) (by kernel_rfl) (by simp) ?_
        refine AllReadyH.cons rfl (fun K hK => ?o76_1) AllReadyH.nil
        case o76_1 =>
          go_simp
          refine (own_copy (m1 := neg0) (A0W.later hbX75) (B0W.later hbX75) (by omega) (by omega) NX0.out NY0.out).mono ?_
          rintro e X77 ⟨rA, rfl, qA, hc77⟩
          have qqA := qA
          obtain ⟨fA, gA, jA, kA, rfl, _, _⟩ := qqA
          go_simp
          have hbX77 : Below W.heap.size W X77 := hbX75.trans (hc77.mono hsX75)
          have hsX77 : W.heap.size ≤ X77.heap.size := hbX77.size
          have z0X77 := zn75.later hc77
          have z1X77 := z1X75.later hc77
          refine hK.out _ _ (mkS _ ((Kept.refl _ _).below hbX77)) (fun hHeld2 => ?_)
          clear hK K hHeld
          have hHeld := hHeld2
          clear hHeld2
          try simp only [Act.put, List.setIfInBounds_toArray, List.set_cons_zero, List.set_cons_succ]
          refine wpAnyH_ready (rs := [3]) (by kernel_rfl) (by simp) ?_
          refine AllReadyH.cons rfl (fun K hK => ?o78_3) AllReadyH.nil
          case o78_3 =>
            go_simp
            refine (own_copy (m1 := neg1) (A1W.later hbX77) (B1W.later hbX77) (by omega) (by omega) NX1.out NY1.out).mono ?_
            rintro e X79 ⟨rB, rfl, qB, hc79⟩
            have qqB := qB
            obtain ⟨fB, gB, jB, kB, rfl, _, _⟩ := qqB
            go_simp
            have hbX79 : Below W.heap.size W X79 := hbX77.trans (hc79.mono hsX77)
            have hsX79 : W.heap.size ≤ X79.heap.size := hbX79.size
            have z0X79 := z0X77.later hc79
            have q0X79 := qA.later hc79
            have z1X79 := z1X77.later hc79
            refine hK.out _ _ (mkS _ ((Kept.refl _ _).below hbX79)) (fun hHeld2 => ?_)
            clear hK K hHeld
            have hHeld := hHeld2
            clear hHeld2
            try simp only [Act.put, List.setIfInBounds_toArray, List.set_cons_zero, List.set_cons_succ]
            obtain ⟨d800, d801, d802, d803, d804, d805⟩ := z0X79.three
            refine wpAnyH_ready (rs := [6]) (by kernel_rfl) (by simp) ?_
            refine AllReadyH.cons rfl (fun K hK => ?s80) AllReadyH.nil
            go_simp
            refine afterSet3 z0X79 (fun X80 o80 zs80 => ?_)
            clear d800 d801 d802 d803 d804 d805
            have hbX80 : Below W.heap.size W X80 := hbX79.trans (o80.below hsX61)
            have z1X80 := z1X79.only o80 (by omega)
            have q0X80 := q0X79.only z0X79 o80
            have q1X80 := qB.only z0X79 o80
            refine hK.out _ _ (mkS _ ((Kept.refl _ _).below hbX80)) (fun hHeld => ?_)
            clear hK K
            try simp only [Act.put, List.setIfInBounds_toArray, List.set_cons_zero, List.set_cons_succ]
            obtain ⟨d810, d811, d812, d813, d814, d815⟩ := z1X80.three
            refine wpAnyH_ready (rs := [7]) (by kernel_rfl) (by simp) ?_
            refine AllReadyH.cons rfl (fun K hK => ?s81) AllReadyH.nil
            go_simp
            refine afterSet3 z1X80 (fun X81 o81 zs81 => ?_)
            clear d810 d811 d812 d813 d814 d815
            have hbX81 : Below W.heap.size W X81 := hbX80.trans (o81.below hs0)
            have z0X81 := zs80.only o81 (by omega)
            have q0X81 := q0X80.only z1X80 o81
            have q1X81 := q1X80.only z1X80 o81
            refine hK.out _ _ (mkS _ ((Kept.refl _ _).below hbX81)) (fun hHeld => ?_)
            clear hK K
            try simp only [Act.put, List.setIfInBounds_toArray, List.set_cons_zero, List.set_cons_succ]
            refine wpAnyH_done (by kernel_rfl) ?_ _
            refine NoPanic.normal ?_
            go_wp2_with fail
            go_meet
            exact ⟨_, fA, gA, jA, kA, _, fB, gB, jB, kB, rfl, rfl, z0X81, zs81, q0X81, q1X81, hbX81⟩
  case rest =>
    obtain ⟨bA, fA, gA, jA, kA, bB, fB, gB, jB, kB, rfl, rfl, RA, RB, OA, OB, hb1⟩ := hcut
    have hs1 := hb1.size
    have Q0U := Q0W.later hb1
    have R0U := R0.later hb1
    have A0U := A0W.later hb1
    have B0U := B0W.later hb1
    have Q1U := Q1W.later hb1
    have R1U := R1.later hb1
    have A1U := A1W.later hb1
    have B1U := B1W.later hb1
    have hBU : Below w.heap.size w wc := hBW.trans (hb1.mono (by omega))
    clear Q0 Q0W R0 A0W B0W Q1 Q1W R1 A1W B1W
    obtain ⟨lo, hlo⟩ : ∃ lo, wc.heap.size = lo := ⟨_, rfl⟩
    have HLO := Lib.hid hlo
    have lA : bA < lo := by rw [← hlo]; exact RA.lt
    have lB : bB < lo := by rw [← hlo]; exact RB.lt
    have hoA := OA
    have hoB := OB
    obtain ⟨_, _, _, _, eA, PA, PB⟩ := hoA
    obtain ⟨_, _, _, _, eB, PC, PD⟩ := hoB
    cases eA
    cases eB
    have QA : ArgQ wc (.agg #[.bool neg0, .slice fA xs0.length jA, .slice gA ds0.length kA]) X0 1048576 := ⟨neg0, xs0, ds0, fA, gA, jA, kA, rfl, PA, PB, HX0.out, lx0, ly0⟩
    have QB : ArgQ wc (.agg #[.bool neg1, .slice fB xs1.length jB, .slice gB ds1.length kB]) X1 1048576 := ⟨neg1, xs1, ds1, fB, gB, jB, kB, rfl, PC, PD, HX1.out, lx1, ly1⟩
    clear OA OB hlo
    have hlo : lo ≤ wc.heap.size := Nat.le_of_eq HLO.out.symm
    obtain ⟨x0, x1, x2, _, _, _⟩ := RA.three
    obtain ⟨y0, y1, y2, _, _, _⟩ := RB.three
    go_wp2_with fail
    refine (div_makes QA QB (by omega)).mono ?_
    rintro e V2 ⟨r2, k2, rfl, cd, hb2⟩
    have hs2 := hb2.size
    have cd' := cd
    obtain ⟨p6, ad6, bd6, n6, cap6, m6, cbp6, rfl, -, -⟩ := cd'
    obtain ⟨U2, hU2⟩ : ∃ V, V2.alloc (.cells #[.bool p6, .slice ad6 n6 cap6, .slice bd6 m6 cbp6] 25) = V := ⟨_, rfl⟩
    have hbU2 : Below V2.heap.size V2 U2 := by rw [← hU2]; exact (Below.refl _ _).alloc (Nat.le_refl _) _
    have R6 : Row U2 V2.heap.size 25 #[.bool p6, .slice ad6 n6 cap6, .slice bd6 m6 cbp6] := by rw [← hU2]; exact Row.new _ _ _
    have hsU2 := hbU2.size
    have hB2 : Below wc.heap.size wc U2 := hb2.trans (hbU2.mono (by omega))
    have c6 := (cd.next hbU2).low (lo' := lo) (by omega)
    have RA2 := RA.later hB2
    have RB2 := RB.later hB2
    have PA2 := PA.later hB2
    have PB2 := PB.later hB2
    clear x0 x1 x2 y0 y1 y2 cd hb2 hbU2
    obtain ⟨x0, x1, x2, _, _, _⟩ := RA2.three
    go_wp2_with fail
    (try rw [hU2])
    refine (make_makes (m1 := neg0) PA2 PB2 lx0 ly0 (by omega)).mono ?_
    rintro e V3 ⟨r3, k3, rfl, cm, hb3⟩
    have hs3 := hb3.size
    have cm' := cm
    obtain ⟨p7, ad7, bd7, n7, cap7, m7, cbp7, rfl, -, -⟩ := cm'
    obtain ⟨U3, hU3⟩ : ∃ V, V3.alloc (.cells #[.bool p7, .slice ad7 n7 cap7, .slice bd7 m7 cbp7] 25) = V := ⟨_, rfl⟩
    have hbU3 : Below V3.heap.size V3 U3 := by rw [← hU3]; exact (Below.refl _ _).alloc (Nat.le_refl _) _
    have R7 : Row U3 V3.heap.size 25 #[.bool p7, .slice ad7 n7 cap7, .slice bd7 m7 cbp7] := by rw [← hU3]; exact Row.new _ _ _
    have hsU3 := hbU3.size
    have hB3 : Below U2.heap.size U2 U3 := hb3.trans (hbU3.mono (by omega))
    have c7 := (cm.next hbU3).low (lo' := lo) (by omega)
    have c6' := c6.next hB3
    have RA3 := RA2.later hB3
    have RB3 := (RB.later hB2).later hB3
    have R63 := R6.later hB3
    have QA3 := (QA.later hB2).later hB3
    have QB3 := (QB.later hB2).later hB3
    have hBX : Below wc.heap.size wc U3 := hB2.trans (hB3.mono (by omega))
    clear x0 x1 x2 cm hb3 hbU3 c6 RA2 RB2 R6 PA2 PB2 hU2 hB2 hB3 QA QB
    go_wp2_with fail
    (try rw [hU3])
    clear hU3
    have lt_RA3 := RA3.lt
    have lt_RB3 := RB3.lt
    have lt_R63 := R63.lt
    have lt_R7 := R7.lt
    have mkS : ∀ X, Kept (U3.heap.size) U3 X → X.cell? ⟨bA, 0, none⟩ = some (.bool neg0) ∧ X.cell? ⟨bA, 1, none⟩ = some (.slice fA xs0.length jA) ∧ X.cell? ⟨bA, 2, none⟩ = some (.slice gA ds0.length kA) ∧ X.cell? ⟨bB, 0, none⟩ = some (.bool neg1) ∧ X.cell? ⟨bB, 1, none⟩ = some (.slice fB xs1.length jB) ∧ X.cell? ⟨bB, 2, none⟩ = some (.slice gB ds1.length kB) ∧ X.cell? ⟨V2.heap.size, 0, none⟩ = some (.bool p6) ∧ X.cell? ⟨V2.heap.size, 1, none⟩ = some (.slice ad6 n6 cap6) ∧ X.cell? ⟨V2.heap.size, 2, none⟩ = some (.slice bd6 m6 cbp6) ∧ X.cell? ⟨V3.heap.size, 0, none⟩ = some (.bool p7) ∧ X.cell? ⟨V3.heap.size, 1, none⟩ = some (.slice ad7 n7 cap7) ∧ X.cell? ⟨V3.heap.size, 2, none⟩ = some (.slice bd7 m7 cbp7) ∧ Kept (U3.heap.size) U3 X := fun X h => ⟨(RA3.kept h (by omega)).cell 0, (RA3.kept h (by omega)).cell 1, (RA3.kept h (by omega)).cell 2, (RB3.kept h (by omega)).cell 0, (RB3.kept h (by omega)).cell 1, (RB3.kept h (by omega)).cell 2, (R63.kept h (by omega)).cell 0, (R63.kept h (by omega)).cell 1, (R63.kept h (by omega)).cell 2, (R7.kept h (by omega)).cell 0, (R7.kept h (by omega)).cell 1, (R7.kept h (by omega)).cell 2, h⟩
    go_region_held3 (fun X => X.cell? ⟨bA, 0, none⟩ = some (.bool neg0) ∧ X.cell? ⟨bA, 1, none⟩ = some (.slice fA xs0.length jA) ∧ X.cell? ⟨bA, 2, none⟩ = some (.slice gA ds0.length kA) ∧ X.cell? ⟨bB, 0, none⟩ = some (.bool neg1) ∧ X.cell? ⟨bB, 1, none⟩ = some (.slice fB xs1.length jB) ∧ X.cell? ⟨bB, 2, none⟩ = some (.slice gB ds1.length kB) ∧ X.cell? ⟨V2.heap.size, 0, none⟩ = some (.bool p6) ∧ X.cell? ⟨V2.heap.size, 1, none⟩ = some (.slice ad6 n6 cap6) ∧ X.cell? ⟨V2.heap.size, 2, none⟩ = some (.slice bd6 m6 cbp6) ∧ X.cell? ⟨V3.heap.size, 0, none⟩ = some (.bool p7) ∧ X.cell? ⟨V3.heap.size, 1, none⟩ = some (.slice ad7 n7 cap7) ∧ X.cell? ⟨V3.heap.size, 2, none⟩ = some (.slice bd7 m7 cbp7) ∧ Kept (U3.heap.size) U3 X)
      (((refine mkS _ ?_; (repeat' (first | exact Kept.refl _ _ | refine Kept.drew ?_ | refine Kept.alloc ?_ _ | refine Kept.set ?_ _ _ | refine Kept.below ?_ (by assumption))))))
      ((first
        | (go_at_call 45; have hprev := hbv5; clear hprev; (with_reducible refine (pow1_any (QA3.later (show Below U3.heap.size U3 _ by (repeat' (first | exact Below.refl _ _ | refine Below.drew ?_ | refine Below.alloc ?_ (by (try simp) <;> omega) _ | refine below_set3 ?_ (by (try simp) <;> omega) _ _ _ | refine below_set2 ?_ (by (try simp) <;> omega) _ _ | refine Below.setCell ?_ (by (try simp) <;> omega) _ | refine Below.trans ?_ (Below.mono (by assumption) (by (try simp) <;> omega)))))) (by omega)).mono ?_); rintro e v6 ⟨r6, rfl, q6, hbv6⟩; have hsv6 := hbv6.size; (try simp at hsv6); have c6 := q6.cellq (lo := lo) (by (try simp) <;> omega); have cc6 := c6; obtain ⟨p5, ad5, bd5, n5, cap5, m5, cbp5, rfl, -, -⟩ := cc6; skip)
        | (go_at_call 34; have hprev := hbv4; clear hprev; (with_reducible refine (negQ_any (QA3.later (show Below U3.heap.size U3 _ by (repeat' (first | exact Below.refl _ _ | refine Below.drew ?_ | refine Below.alloc ?_ (by (try simp) <;> omega) _ | refine below_set3 ?_ (by (try simp) <;> omega) _ _ _ | refine below_set2 ?_ (by (try simp) <;> omega) _ _ | refine Below.setCell ?_ (by (try simp) <;> omega) _ | refine Below.trans ?_ (Below.mono (by assumption) (by (try simp) <;> omega)))))) (by omega)).mono ?_); rintro e v5 ⟨r5, rfl, q5, hbv5⟩; have hsv5 := hbv5.size; (try simp at hsv5); have c5 := q5.cellq (lo := lo) (by (try simp) <;> omega); have cc5 := c5; obtain ⟨p4, ad4, bd4, n4, cap4, m4, cbp4, rfl, -, -⟩ := cc5; skip)
        | (go_at_call 32; have hprev := hbv3; clear hprev; (with_reducible refine (mulQ_any (QA3.later (show Below U3.heap.size U3 _ by (repeat' (first | exact Below.refl _ _ | refine Below.drew ?_ | refine Below.alloc ?_ (by (try simp) <;> omega) _ | refine below_set3 ?_ (by (try simp) <;> omega) _ _ _ | refine below_set2 ?_ (by (try simp) <;> omega) _ _ | refine Below.setCell ?_ (by (try simp) <;> omega) _ | refine Below.trans ?_ (Below.mono (by assumption) (by (try simp) <;> omega)))))) (QB3.later (show Below U3.heap.size U3 _ by (repeat' (first | exact Below.refl _ _ | refine Below.drew ?_ | refine Below.alloc ?_ (by (try simp) <;> omega) _ | refine below_set3 ?_ (by (try simp) <;> omega) _ _ _ | refine below_set2 ?_ (by (try simp) <;> omega) _ _ | refine Below.setCell ?_ (by (try simp) <;> omega) _ | refine Below.trans ?_ (Below.mono (by assumption) (by (try simp) <;> omega)))))) (by omega)).mono ?_); rintro e v4 ⟨r4, rfl, q4, hbv4⟩; have hsv4 := hbv4.size; (try simp at hsv4); have c4 := q4.cellq (lo := lo) (by (try simp) <;> omega); have cc4 := c4; obtain ⟨p3, ad3, bd3, n3, cap3, m3, cbp3, rfl, -, -⟩ := cc4; skip)
        | (go_at_call 30; have hprev := hbv2; clear hprev; (with_reducible refine (subQ_any (QA3.later (show Below U3.heap.size U3 _ by (repeat' (first | exact Below.refl _ _ | refine Below.drew ?_ | refine Below.alloc ?_ (by (try simp) <;> omega) _ | refine below_set3 ?_ (by (try simp) <;> omega) _ _ _ | refine below_set2 ?_ (by (try simp) <;> omega) _ _ | refine Below.setCell ?_ (by (try simp) <;> omega) _ | refine Below.trans ?_ (Below.mono (by assumption) (by (try simp) <;> omega)))))) (QB3.later (show Below U3.heap.size U3 _ by (repeat' (first | exact Below.refl _ _ | refine Below.drew ?_ | refine Below.alloc ?_ (by (try simp) <;> omega) _ | refine below_set3 ?_ (by (try simp) <;> omega) _ _ _ | refine below_set2 ?_ (by (try simp) <;> omega) _ _ | refine Below.setCell ?_ (by (try simp) <;> omega) _ | refine Below.trans ?_ (Below.mono (by assumption) (by (try simp) <;> omega)))))) (by omega)).mono ?_); rintro e v3 ⟨r3, rfl, q3, hbv3⟩; have hsv3 := hbv3.size; (try simp at hsv3); have c3 := q3.cellq (lo := lo) (by (try simp) <;> omega); have cc3 := c3; obtain ⟨p2, ad2, bd2, n2, cap2, m2, cbp2, rfl, -, -⟩ := cc3; skip)
        | (go_at_call 28; have hprev := hbv1; clear hprev; (with_reducible refine (addQ_any (QA3.later (show Below U3.heap.size U3 _ by (repeat' (first | exact Below.refl _ _ | refine Below.drew ?_ | refine Below.alloc ?_ (by (try simp) <;> omega) _ | refine below_set3 ?_ (by (try simp) <;> omega) _ _ _ | refine below_set2 ?_ (by (try simp) <;> omega) _ _ | refine Below.setCell ?_ (by (try simp) <;> omega) _ | refine Below.trans ?_ (Below.mono (by assumption) (by (try simp) <;> omega)))))) (QB3.later (show Below U3.heap.size U3 _ by (repeat' (first | exact Below.refl _ _ | refine Below.drew ?_ | refine Below.alloc ?_ (by (try simp) <;> omega) _ | refine below_set3 ?_ (by (try simp) <;> omega) _ _ _ | refine below_set2 ?_ (by (try simp) <;> omega) _ _ | refine Below.setCell ?_ (by (try simp) <;> omega) _ | refine Below.trans ?_ (Below.mono (by assumption) (by (try simp) <;> omega)))))) (by omega)).mono ?_); rintro e v2 ⟨r2, rfl, q2, hbv2⟩; have hsv2 := hbv2.size; (try simp at hsv2); have c2 := q2.cellq (lo := lo) (by (try simp) <;> omega); have cc2 := c2; obtain ⟨p1, ad1, bd1, n1, cap1, m1, cbp1, rfl, -, -⟩ := cc2; skip)
        | (go_at_call 12; (with_reducible refine (norm_any (QA3.later (show Below U3.heap.size U3 _ by (repeat' (first | exact Below.refl _ _ | refine Below.drew ?_ | refine Below.alloc ?_ (by (try simp) <;> omega) _ | refine below_set3 ?_ (by (try simp) <;> omega) _ _ _ | refine below_set2 ?_ (by (try simp) <;> omega) _ _ | refine Below.setCell ?_ (by (try simp) <;> omega) _ | refine Below.trans ?_ (Below.mono (by assumption) (by (try simp) <;> omega)))))) (by omega)).mono ?_); rintro e v1 ⟨r1, rfl, q1, hbv1⟩; have hsv1 := hbv1.size; (try simp at hsv1); have c1 := q1.cellq (lo := lo) (by (try simp) <;> omega); have cc1 := c1; obtain ⟨p0, ad0, bd0, n0, cap0, m0, cbp0, rfl, -, -⟩ := cc1; skip)))
    rename_i hHe
    clear hHe
    have hM0 : Made lo v6.heap.size v6.heap.size #[.bool p0, .slice ad0 n0 cap0, .slice bd0 m0 cbp0, .bool p1, .slice ad1 n1 cap1, .slice bd1 m1 cbp1, .bool p2, .slice ad2 n2 cap2, .slice bd2 m2 cbp2, .bool p3, .slice ad3 n3 cap3, .slice bd3 m3 cbp3, .bool p4, .slice ad4 n4 cap4, .slice bd4 m4 cbp4, .bool p5, .slice ad5 n5 cap5, .slice bd5 m5 cbp5, .bool p6, .slice ad6 n6 cap6, .slice bd6 m6 cbp6, .bool p7, .slice ad7 n7 cap7, .slice bd7 m7 cbp7] (v6.alloc (Obj.cells #[.bool p0, .slice ad0 n0 cap0, .slice bd0 m0 cbp0, .bool p1, .slice ad1 n1 cap1, .slice bd1 m1 cbp1, .bool p2, .slice ad2 n2 cap2, .slice bd2 m2 cbp2, .bool p3, .slice ad3 n3 cap3, .slice bd3 m3 cbp3, .bool p4, .slice ad4 n4 cap4, .slice bd4 m4 cbp4, .bool p5, .slice ad5 n5 cap5, .slice bd5 m5 cbp5, .bool p6, .slice ad6 n6 cap6, .slice bd6 m6 cbp6, .bool p7, .slice ad7 n7 cap7, .slice bd7 m7 cbp7] 25)) :=
      made8 (c1.next (show Below v1.heap.size v1 v6 by (repeat' (first | exact Below.refl _ _ | refine Below.drew ?_ | refine Below.alloc ?_ (by (try simp) <;> omega) _ | refine below_set3 ?_ (by (try simp) <;> omega) _ _ _ | refine below_set2 ?_ (by (try simp) <;> omega) _ _ | refine Below.setCell ?_ (by (try simp) <;> omega) _ | refine Below.trans ?_ (Below.mono (by assumption) (by (try simp) <;> omega)))))).parts (c2.next (show Below v2.heap.size v2 v6 by (repeat' (first | exact Below.refl _ _ | refine Below.drew ?_ | refine Below.alloc ?_ (by (try simp) <;> omega) _ | refine below_set3 ?_ (by (try simp) <;> omega) _ _ _ | refine below_set2 ?_ (by (try simp) <;> omega) _ _ | refine Below.setCell ?_ (by (try simp) <;> omega) _ | refine Below.trans ?_ (Below.mono (by assumption) (by (try simp) <;> omega)))))).parts (c3.next (show Below v3.heap.size v3 v6 by (repeat' (first | exact Below.refl _ _ | refine Below.drew ?_ | refine Below.alloc ?_ (by (try simp) <;> omega) _ | refine below_set3 ?_ (by (try simp) <;> omega) _ _ _ | refine below_set2 ?_ (by (try simp) <;> omega) _ _ | refine Below.setCell ?_ (by (try simp) <;> omega) _ | refine Below.trans ?_ (Below.mono (by assumption) (by (try simp) <;> omega)))))).parts (c4.next (show Below v4.heap.size v4 v6 by (repeat' (first | exact Below.refl _ _ | refine Below.drew ?_ | refine Below.alloc ?_ (by (try simp) <;> omega) _ | refine below_set3 ?_ (by (try simp) <;> omega) _ _ _ | refine below_set2 ?_ (by (try simp) <;> omega) _ _ | refine Below.setCell ?_ (by (try simp) <;> omega) _ | refine Below.trans ?_ (Below.mono (by assumption) (by (try simp) <;> omega)))))).parts (c5.next (show Below v5.heap.size v5 v6 by (repeat' (first | exact Below.refl _ _ | refine Below.drew ?_ | refine Below.alloc ?_ (by (try simp) <;> omega) _ | refine below_set3 ?_ (by (try simp) <;> omega) _ _ _ | refine below_set2 ?_ (by (try simp) <;> omega) _ _ | refine Below.setCell ?_ (by (try simp) <;> omega) _ | refine Below.trans ?_ (Below.mono (by assumption) (by (try simp) <;> omega)))))).parts (c6.next (show Below v6.heap.size v6 v6 by (repeat' (first | exact Below.refl _ _ | refine Below.drew ?_ | refine Below.alloc ?_ (by (try simp) <;> omega) _ | refine below_set3 ?_ (by (try simp) <;> omega) _ _ _ | refine below_set2 ?_ (by (try simp) <;> omega) _ _ | refine Below.setCell ?_ (by (try simp) <;> omega) _ | refine Below.trans ?_ (Below.mono (by assumption) (by (try simp) <;> omega)))))).parts (c6'.next (show Below U3.heap.size U3 v6 by (repeat' (first | exact Below.refl _ _ | refine Below.drew ?_ | refine Below.alloc ?_ (by (try simp) <;> omega) _ | refine below_set3 ?_ (by (try simp) <;> omega) _ _ _ | refine below_set2 ?_ (by (try simp) <;> omega) _ _ | refine Below.setCell ?_ (by (try simp) <;> omega) _ | refine Below.trans ?_ (Below.mono (by assumption) (by (try simp) <;> omega)))))).parts (c7.next (show Below U3.heap.size U3 v6 by (repeat' (first | exact Below.refl _ _ | refine Below.drew ?_ | refine Below.alloc ?_ (by (try simp) <;> omega) _ | refine below_set3 ?_ (by (try simp) <;> omega) _ _ _ | refine below_set2 ?_ (by (try simp) <;> omega) _ _ | refine Below.setCell ?_ (by (try simp) <;> omega) _ | refine Below.trans ?_ (Below.mono (by assumption) (by (try simp) <;> omega)))))).parts
    have hBZ : Below wc.heap.size wc (v6.alloc (Obj.cells #[.bool p0, .slice ad0 n0 cap0, .slice bd0 m0 cbp0, .bool p1, .slice ad1 n1 cap1, .slice bd1 m1 cbp1, .bool p2, .slice ad2 n2 cap2, .slice bd2 m2 cbp2, .bool p3, .slice ad3 n3 cap3, .slice bd3 m3 cbp3, .bool p4, .slice ad4 n4 cap4, .slice bd4 m4 cbp4, .bool p5, .slice ad5 n5 cap5, .slice bd5 m5 cbp5, .bool p6, .slice ad6 n6 cap6, .slice bd6 m6 cbp6, .bool p7, .slice ad7 n7 cap7, .slice bd7 m7 cbp7] 25)) := hBX.trans ((show Below U3.heap.size U3 (v6.alloc (Obj.cells #[.bool p0, .slice ad0 n0 cap0, .slice bd0 m0 cbp0, .bool p1, .slice ad1 n1 cap1, .slice bd1 m1 cbp1, .bool p2, .slice ad2 n2 cap2, .slice bd2 m2 cbp2, .bool p3, .slice ad3 n3 cap3, .slice bd3 m3 cbp3, .bool p4, .slice ad4 n4 cap4, .slice bd4 m4 cbp4, .bool p5, .slice ad5 n5 cap5, .slice bd5 m5 cbp5, .bool p6, .slice ad6 n6 cap6, .slice bd6 m6 cbp6, .bool p7, .slice ad7 n7 cap7, .slice bd7 m7 cbp7] 25)) by (repeat' (first | exact Below.refl _ _ | refine Below.drew ?_ | refine Below.alloc ?_ (by (try simp) <;> omega) _ | refine below_set3 ?_ (by (try simp) <;> omega) _ _ _ | refine below_set2 ?_ (by (try simp) <;> omega) _ _ | refine Below.setCell ?_ (by (try simp) <;> omega) _ | refine Below.trans ?_ (Below.mono (by assumption) (by (try simp) <;> omega))))).mono (by omega))
    have hLB0 : Below lo wc (v6.alloc (Obj.cells #[.bool p0, .slice ad0 n0 cap0, .slice bd0 m0 cbp0, .bool p1, .slice ad1 n1 cap1, .slice bd1 m1 cbp1, .bool p2, .slice ad2 n2 cap2, .slice bd2 m2 cbp2, .bool p3, .slice ad3 n3 cap3, .slice bd3 m3 cbp3, .bool p4, .slice ad4 n4 cap4, .slice bd4 m4 cbp4, .bool p5, .slice ad5 n5 cap5, .slice bd5 m5 cbp5, .bool p6, .slice ad6 n6 cap6, .slice bd6 m6 cbp6, .bool p7, .slice ad7 n7 cap7, .slice bd7 m7 cbp7] 25)) := hBZ.mono hlo
    have hlg : lo ≤ v6.heap.size := by (try simp at hsv1); omega
    clear hBZ hBX mkS q1 q2 q3 q4 q5 q6 c1 c2 c3 c4 c5 c6 c6' c7 hbv1 hbv2 hbv3 hbv4 hbv5 hbv6 R63 R7 RA3 RB3 QA3 QB3
    go_wp2
    generalize (v6.alloc (Obj.cells #[.bool p0, .slice ad0 n0 cap0, .slice bd0 m0 cbp0, .bool p1, .slice ad1 n1 cap1, .slice bd1 m1 cbp1, .bool p2, .slice ad2 n2 cap2, .slice bd2 m2 cbp2, .bool p3, .slice ad3 n3 cap3, .slice bd3 m3 cbp3, .bool p4, .slice ad4 n4 cap4, .slice bd4 m4 cbp4, .bool p5, .slice ad5 n5 cap5, .slice bd5 m5 cbp5, .bool p6, .slice ad6 n6 cap6, .slice bd6 m6 cbp6, .bool p7, .slice ad7 n7 cap7, .slice bd7 m7 cbp7] 25)) = WX at *
    generalize (#[.bool p0, .slice ad0 n0 cap0, .slice bd0 m0 cbp0, .bool p1, .slice ad1 n1 cap1, .slice bd1 m1 cbp1, .bool p2, .slice ad2 n2 cap2, .slice bd2 m2 cbp2, .bool p3, .slice ad3 n3 cap3, .slice bd3 m3 cbp3, .bool p4, .slice ad4 n4 cap4, .slice bd4 m4 cbp4, .bool p5, .slice ad5 n5 cap5, .slice bd5 m5 cbp5, .bool p6, .slice ad6 n6 cap6, .slice bd6 m6 cbp6, .bool p7, .slice ad7 n7 cap7, .slice bd7 m7 cbp7] : Array Value) = L at *
    clear hsv1 hsv2 hsv3 hsv4 hsv5 hsv6
    generalize v6.heap.size = gl at *
    go_loopw [12, 13, 14] (fun i _ _ wr => ∃ k : Nat, k ≤ 8 ∧ i = .int .i64 k ∧ Made lo gl gl L wr ∧ Below lo wc wr) (fun i _ _ _ => 8 - (intOf i).toNat)
    case atStart => exact ⟨0, by omega, rfl, hM0, hLB0⟩
    case round =>
      clear hM0 hLB0
      obtain ⟨k, hk, rfl, hM, hb⟩ := hrel
      by_cases hlt6 : k < 8
      · have hk2 : (k : Int) < 8 := by omega
        obtain ⟨⟨v1, e1, C1⟩, v2, e2, C2⟩ := hM.2 k hlt6
        obtain ⟨ad1, n1, cp1, rfl, hn1, -⟩ := C1
        obtain ⟨ad2, n2, cp2, rfl, hn2, -⟩ := C2
        unfold maxLen at hn1 hn2
        have hca : wr.cell? ⟨gl, k * 3 + 1, none⟩ = some (.slice ad1 n1 cp1) := (hM.1.cell _).trans e1
        go_wp2
        go_loopw [13] (fun j wr' => ∃ i : Nat, i ≤ n1 ∧ j = .int .i64 i ∧ Made lo gl gl L wr' ∧ Below lo wc wr') (fun j _ => n1 - (intOf j).toNat)
        case atStart => exact ⟨0, Nat.zero_le _, rfl, hM, hb⟩
        case round =>
          clear hb hM
          obtain ⟨i, hi, rfl, hM, hb⟩ := hrel
          have hM' := hM.2 k hlt6
          obtain ⟨v', e', C⟩ := hM'.1
          rw [e1] at e'
          cases e'
          obtain ⟨ad', n', cp', hsl, _, hx⟩ := C
          cases hsl
          have hce : wr.cell? ⟨gl, k * 3 + 1, none⟩ = some (.slice ad1 n1 cp1) := (hM.1.cell _).trans e1
          clear hM'
          by_cases hin : i < n1
          · have hin2 : (i : Int) < (n1 : Int) := by omega
            rcases hx with h0 | ⟨b, cur, rfl, h1, h2, h3, h4⟩
            · exact absurd hin (by omega)
            obtain ⟨z, hz⟩ := h4 i hin
            have hcb : wr.cell? ⟨b, i, none⟩ = some (.int .u32 z) := (cell_of_row wr b i cur _ _ h3).trans hz
            have hfb : wr.frozen? ⟨b, i, none⟩ = false := frozen_of_row wr b i cur _ h3
            have hM2 : ∀ z', Made lo gl gl L (wr.drew.setCell ⟨b, i, none⟩ (.int .u32 z')) := fun z' => Made.set (w := wr.drew) hM (by omega) z'
            have hb2 : ∀ z', Below lo wc (wr.drew.setCell ⟨b, i, none⟩ (.int .u32 z')) := fun z' => hb.drew.setCell (p := ⟨b, i, none⟩) h1 _
            have HM2 := Lib.hid hM2
            have HB2 := Lib.hid hb2
            clear h4 hM2 hb2 hz hM
            go_wp2
            go_still_tail 16, (by kernel_rfl)
            repeat still_step
            have hcb2 : wr.drew.cell? ⟨b, i, none⟩ = some (.int .u32 z) := hcb
            have hfb2 : wr.drew.frozen? ⟨b, i, none⟩ = false := hfb
            go_wp2
            go_roundw
            case rel => exact ⟨i + 1, by omega, by go_num, HM2.out _, HB2.out _⟩
            case measure => simp [intOf]; omega
          · have hin2 : ¬ (i : Int) < (n1 : Int) := by omega
            clear hx
            go_wp2
            go_loopw [14] (fun j wr' => ∃ i : Nat, i ≤ n2 ∧ j = .int .i64 i ∧ Made lo gl gl L wr' ∧ Below lo wc wr') (fun j _ => n2 - (intOf j).toNat)
            case atStart => exact ⟨0, Nat.zero_le _, rfl, hM, hb⟩
            case round =>
              clear hb hM
              obtain ⟨i, hi, rfl, hM, hb⟩ := hrel
              have hM' := hM.2 k hlt6
              obtain ⟨v', e', C⟩ := hM'.2
              rw [e2] at e'
              cases e'
              obtain ⟨ad', n', cp', hsl, _, hx⟩ := C
              cases hsl
              have hce : wr.cell? ⟨gl, k * 3 + 2, none⟩ = some (.slice ad2 n2 cp2) := (hM.1.cell _).trans e2
              clear hM'
              by_cases hin : i < n2
              · have hin2 : (i : Int) < (n2 : Int) := by omega
                rcases hx with h0 | ⟨b, cur, rfl, h1, h2, h3, h4⟩
                · exact absurd hin (by omega)
                obtain ⟨z, hz⟩ := h4 i hin
                have hcb : wr.cell? ⟨b, i, none⟩ = some (.int .u32 z) := (cell_of_row wr b i cur _ _ h3).trans hz
                have hfb : wr.frozen? ⟨b, i, none⟩ = false := frozen_of_row wr b i cur _ h3
                have hM2 : ∀ z', Made lo gl gl L (wr.drew.setCell ⟨b, i, none⟩ (.int .u32 z')) := fun z' => Made.set (w := wr.drew) hM (by omega) z'
                have hb2 : ∀ z', Below lo wc (wr.drew.setCell ⟨b, i, none⟩ (.int .u32 z')) := fun z' => hb.drew.setCell (p := ⟨b, i, none⟩) h1 _
                have HM2 := Lib.hid hM2
                have HB2 := Lib.hid hb2
                clear h4 hM2 hb2 hz hM
                go_wp2
                go_still_tail 16, (by kernel_rfl)
                repeat still_step
                have hcb2 : wr.drew.cell? ⟨b, i, none⟩ = some (.int .u32 z) := hcb
                have hfb2 : wr.drew.frozen? ⟨b, i, none⟩ = false := hfb
                go_wp2
                go_roundw
                case rel => exact ⟨i + 1, by omega, by go_num, HM2.out _, HB2.out _⟩
                case measure => simp [intOf]; omega
              · have hin2 : ¬ (i : Int) < (n2 : Int) := by omega
                clear hx
                go_wp2
                go_roundw
                case rel => exact ⟨k + 1, by omega, by go_num, hM, hb⟩
                case measure => simp [intOf]; omega
      · obtain rfl : k = 8 := by omega
        have hbW : Below wc.heap.size wc wr := by rw [HLO.out]; exact hb
        have PAr := PA.later hbW
        have PBr := PB.later hbW
        have PCr := PC.later hbW
        have PDr := PD.later hbW
        have A0r := A0U.later hbW
        have B0r := B0U.later hbW
        have A1r := A1U.later hbW
        have B1r := B1U.later hbW
        have hBF : Below w.heap.size w wr := hBU.trans (hbW.mono (by omega))
        obtain ⟨i0, i1, i2, _, _, _⟩ := (RA.later hbW).three
        obtain ⟨o0, o1, o2, _, _, _⟩ := (RB.later hbW).three
        obtain ⟨s0, s1, s2, _, _, _⟩ := (R0U.later hbW).three
        obtain ⟨t0, t1, t2, _, _, _⟩ := (R1U.later hbW).three
        have hnn : (neg0 == neg0) = true := by simp
        clear hM hb hbW
        go_wp2_with fail
        refine (equal_true PAr A0r (by omega) (by omega) rfl).mono ?_
        rintro e w' ⟨rfl, rfl⟩
        go_wp2_with fail
        refine (equal_true PBr B0r (by omega) (by omega) rfl).mono ?_
        rintro e w' ⟨rfl, rfl⟩
        go_wp2_with fail
        refine (equal_true PCr A1r (by omega) (by omega) rfl).mono ?_
        rintro e w' ⟨rfl, rfl⟩
        go_wp2_with fail
        refine (equal_true PDr B1r (by omega) (by omega) rfl).mono ?_
        rintro e w' ⟨rfl, rfl⟩
        go_wp2_with fail
        refine (known3_any _).mono ?_
        rintro e V9 ⟨rfl, hb9⟩
        go_wp2_with fail
        go_ret
        exact ⟨rfl, hBF.trans (hb9.mono hBF.size)⟩

namespace ratOwn
theorem contract (H : Type) (enc : TypeId × Value → H) (W : World) (base : Nat) (args : Array Value) (ds gs : List (DataW H)) (before : List MemPlace)
    (hval : ∀ (j : Nat) t v, Try.f11.params[j]? = some t → args[j]? = some v → Value.okWide Try.prog W .any base t v)
    (hW : DataW.Whole enc Try.prog Try.f11.params.toList Rows.ratOwnSpec.vars false W args.toList ds gs before) (hk : Rows.uptoSmall H (ds ++ gs) = true) :
    Calls Try.prog 11 args W fun e W' => ∃ v, e = .returned v ∧ Rows.ratOwnSpec.post enc Try.prog Try.f11 false true false false W args v W' := by
  have hW' := hW
  have hlt := fun p hp => hW'.lt p hp
  obtain ⟨p, q, hA0, hV, rfl, hfz, hnd⟩ := hW
  have hA : DataW.TrodAll enc Try.prog W 0 (fun _ => true) true Try.f11.params.toList args.toList ds p := hA0
  rw [Try.params11] at hA hval
  obtain ⟨v0, vs0, d0, ds0, p0, q0, ha0, rfl, rfl, h0, r0⟩ := trodAll_cons hA
  obtain ⟨v1, vs1, d1, ds1, p1, q1, ha1, rfl, rfl, h1, r1⟩ := trodAll_cons r0
  obtain ⟨rfl, rfl, rfl⟩ := trodAll_nil r1
  subst ha1
  obtain rfl : args = #[v0, v1] := by cases args; simp_all
  obtain ⟨rfl, rfl⟩ := trodVars_none hV
  clear hA hA0 hV
  simp only [List.append_nil] at hW' hk hlt
  obtain ⟨k0, k1⟩ := small2 hk
  obtain ⟨neg0, xs0, ys0, a0, b0, ca0, cb0, rfl, A0, B0, lx0, ly0, nx0, ny0⟩ := open_rat (hval 0 25 v0 rfl rfl) h0 k0
  obtain ⟨neg1, xs1, ys1, a1, b1, ca1, cb1, rfl, A1, B1, lx1, ly1, nx1, ny1⟩ := open_rat (hval 1 25 v1 rfl rfl) h1 k1
  refine (ratOwn_walk neg0 xs0 ys0 a0 b0 ca0 cb0 neg1 xs1 ys1 a1 b1 ca1 cb1 W A0 B0 lx0 ly0 nx0 ny0 A1 B1 lx1 ly1 nx1 ny1).mono fun e W' ⟨he, hb⟩ => ?_
  subst he
  have t0 := Below.trod laid (by kernel_rfl) (of_decide_eq_true (by kernel_rfl)) h0 hb (fun x hx => hlt x (by simp [hx]))
  have t1 := Below.trod laid (by kernel_rfl) (of_decide_eq_true (by kernel_rfl)) h1 hb (fun x hx => hlt x (by simp [hx]))
  exact ⟨_, rfl, [d0, d1], [], (p0 ++ p1), [], (p0 ++ (p1 ++ [])), [], hW', trodAll_cons_mk (shut_bool Try.underlying4 _) trodAll_mk0,
    (trodAll_cons_mk t0 (trodAll_cons_mk t1 trodAll_mk0)), rfl, hb.frame _, fun h => by cases h⟩

set_option maxRecDepth 100000 in
theorem lifted (os : Os) (started : os.Started) (H : Type) (enc : TypeId × Value → H) (F : Stop.Interp) :
    ReturnsInHanded {} Try.checked os 11 .any ((Rows.OpenSpec.upto Rows.ratOwnSpec).pre6 enc Try.prog Try.f11 Rows.ratOwnUptoRow.domain false) (((Rows.OpenSpec.upto Rows.ratOwnSpec).at F).post enc Try.prog Try.f11 false true false false) := by
  refine returnsInHanded_of_cond (C := Try.checked) (s := Rows.OpenSpec.upto Rows.ratOwnSpec) (k := Rows.uptoSmall) rfl own started (by kernel_rfl) Try.func11
    (OpenSpec.witness (enc := enc) (C := Try.checked) (s := Rows.OpenSpec.upto Rows.ratOwnSpec) (k := Rows.uptoSmall) rfl false ⟨#[], #[.agg #[.bool false, .slice none 0 0, .slice none 0 0], .agg #[.bool false, .slice none 0 0, .slice none 0 0]], []⟩ 8 (by kernel_rfl) (by kernel_rfl) (by kernel_rfl)
      (x := ([.agg [.lit (.bool false), .nil, .nil], .agg [.lit (.bool false), .nil, .nil]], [], [])) (by kernel_rfl) rfl (by kernel_rfl)) ?_
  intro W base args ds gs before hval hW _ hk _
  exact contract H enc W base args ds gs before hval hW hk

theorem proved : Rows.RatOwnUptoSaid :=
  OpenClaim.holds_of_cond 11 Try.f11 rfl rfl rfl rfl rfl rfl rfl ⟨rfl, rfl, rfl, rfl, rfl⟩ rfl rfl rfl rfl rfl (by kernel_rfl) Try.func11 (by kernel_rfl)
    (of_decide_eq_true (by kernel_rfl)) (by unfold Func.isWrapper; first | (rw [if_pos (by decide +kernel)]; kernel_rfl) | (rw [if_neg (by decide +kernel)]; exact ⟨rfl, rfl⟩))
    (fun os started H enc _ F => lifted os started H enc F)
end ratOwn
end Go.Proofs.Ytofiebilokhccaa
