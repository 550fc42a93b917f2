/-
  Layer 7's law TensorFull: for any shape, number and tensor the law holds (arguments that hold together at most 1048576 values).
-/
import Derived.Test.YtnhfjacifajdlaaGreatTMadeIs
import Derived.Test.YtnhfjacifajdlaaGreatTRaw
namespace Go.Proofs.YtnhfjacifajdlaaGreat
open Go.RowKit
set_option linter.unusedVariables false
set_option linter.unusedSimpArgs false

theorem full_is {s : List Int} {x : Rat} {qs : List Q3} {n : Nat} (h : qs.map Q3.rat = List.replicate n x) (ok : ∀ q ∈ qs, okQ q = true) : allBC (fun (x : Rat) (q : Q3) => validB q.neg q.num q.den x) s s (List.replicate n x) qs = true := made_is h ok
theorem one_tensR {w : World} {g : Nat} {t : TypeId} {v0 v1 v2 : Value} {x : Rat} {n : Nat} (R : Row w g t #[v0, v1, v2]) (h : ArgR w (.agg #[v0, v1, v2]) x n) : TensR w (.agg #[.slice none 0 0, .slice (some ⟨g, 0, none⟩) 1 1]) [] [x] n none 0 (some ⟨g, 0, none⟩) 1 := by
  obtain ⟨c0, c1, c2, _⟩ := R.three
  refine ⟨rfl, ⟨rfl, .inl rfl, Nat.le_refl _, Wid.nil⟩, fun _ => rfl, ⟨rfl, Nat.le_refl _, .inr ⟨g, 0, [⟨v0, v1, v2⟩], rfl, fun i e he => ?_, rfl, fun i e y h1 h2 => ?_⟩⟩, fun h => by cases h⟩
  · cases i with
    | zero => simp only [List.getElem?_cons_zero, Option.some.injEq] at he; subst he; exact ⟨c0, c1, c2⟩
    | succ i => simp at he
  · cases i with
    | zero => simp only [List.getElem?_cons_zero, Option.some.injEq] at h1 h2; subst h1; subst h2; exact h
    | succ i => simp at h1
set_option maxRecDepth 100000 in
set_option maxHeartbeats 8000000 in
theorem tensorFull_walk {u v y : Value} {s0 s : List Int} {q0 : Q3} {qs : List Q3} {a0 a b : Option Addr} {c0' ca cb : Nat} (W : World) (A : ArgS W u s0 a0 c0') (na : a0 = none → c0' = 0) (X0 : RawQ W v q0) (T : TensQ W y s qs a ca b cb) (l0 : s0.length ≤ 1048576) (lx : sizeQ q0 ≤ 1048576) (ls : s.length ≤ 1048576) (lq : sizeQs qs ≤ 1048576) :
    Calls Tryz.prog 5 #[u, v, y] W fun e W' => e = .returned (.bool true) ∧ Below W.heap.size W W' := by
  have HA := Lib.hid A
  have NA := Lib.hid na
  have HX := Lib.hid X0
  have HT := Lib.hid T
  have hlen := sizeQs_len qs
  have HL := Lib.hid (lensQ.of lq)
  have hq1 : qs.length ≤ 1048576 := by omega
  have hx0 : q0.num.length ≤ 1048576 ∧ q0.den.length ≤ 1048576 := by unfold sizeQ at lx; omega
  have HXL := Lib.hid hx0
  obtain rfl := A.is
  obtain rfl := T.is
  obtain ⟨e1, e2, k1, k2, hv, _⟩ := id X0
  subst hv
  obtain ⟨V1, hV1⟩ : ∃ V1, W.alloc (.cells #[.bool q0.neg, .slice e1 q0.num.length k1, .slice e2 q0.den.length k2] 44) = V1 := ⟨_, rfl⟩
  obtain ⟨V, hV⟩ : ∃ V, V1.alloc (.cells #[.slice a s.length ca, .slice b qs.length cb] 26) = V := ⟨_, rfl⟩
  have sV1 : V1.heap.size = W.heap.size + 1 := by rw [← hV1]; simp
  have R0 : Row V W.heap.size 44 #[.bool q0.neg, .slice e1 q0.num.length k1, .slice e2 q0.den.length k2] := by rw [← hV, ← hV1]; exact (Row.new _ _ _).alloc _
  have R1 : Row V (W.heap.size + 1) 26 #[.slice a s.length ca, .slice b qs.length cb] := by rw [← hV, ← sV1]; exact Row.new _ _ _
  have hBV : Below W.heap.size W V := by rw [← hV, ← hV1]; exact ((Below.refl _ _).alloc (by simp) _).alloc (by simp) _
  have aX : ∀ X, Below V.heap.size V X → ArgS X (.slice a0 s0.length c0') s0 a0 c0' := fun X h => HA.out.later (hBV.trans (h.mono hBV.size))
  have xX : ∀ X, Below V.heap.size V X → RawQ X (.agg #[.bool q0.neg, .slice e1 q0.num.length k1, .slice e2 q0.den.length k2]) q0 := fun X h => HX.out.later (hBV.trans (h.mono hBV.size))
  have tX : ∀ X, Below V.heap.size V X → TensQ X (.agg #[.slice a s.length ca, .slice b qs.length cb]) s qs a ca b cb := fun X h => HT.out.later (hBV.trans (h.mono hBV.size))
  have ownx := fun X (h : Below V.heap.size V X) => ownRaw_any (xX X h) (Nat.le_trans HXL.out.1 (by omega)) (Nat.le_trans HXL.out.2 (by omega))
  have ofx := fun X (h : Below V.heap.size V X) => ofRR_any (n := 1048576) ((xX X h).arg HXL.out.1 HXL.out.2) (by omega)
  have ownt := fun X (h : Below V.heap.size V X) => ownT_any (tX X h) (by omega) (by omega) (fun q hq => ⟨Nat.le_trans (HL.out q hq).1 (by omega), Nat.le_trans (HL.out q hq).2 (by omega)⟩)
  have rmay := fun X (h : Below V.heap.size V X) => calls_below (mayR6_any (aX X h))
  obtain ⟨d, hd⟩ : ∃ d, mayC s0 = d := ⟨_, rfl⟩
  obtain ⟨L, hL⟩ : ∃ L, List.replicate (countS s0).toNat q0.rat = L := ⟨_, rfl⟩
  have hcode : ∀ X u v a c (A : ArgS X u s0 a c) (na : a = none → c = 0) (Q : RawQ X v q0), Calls Tryz.prog 21 #[u, v] X fun e w' => ∃ r, e = .returned (.tuple #[r, .int .i64 d]) ∧ TenC X.heap.size w' r s0 L 1048578 d ∧ Below X.heap.size X w' := fun X u v a c A na Q => by
    have h := fullT7_any (n := 1048576) A na Q l0 HXL.out (by omega)
    rw [hd, hL] at h
    refine h.mono ?_
    rintro e w' ⟨r, rfl, g, b, hb⟩
    exact ⟨r, rfl, ⟨g, b⟩, hb⟩
  have hscal : ∀ X v (Q : RawQ X v q0), Calls Tryz.prog 23 #[v] X fun e w' => ∃ r, e = .returned r ∧ ResT X.heap.size w' r [] [q0.rat] 1048578 ∧ Below X.heap.size X w' := fun X v Q => scalarT7_any (n := 1048576) Q HXL.out (by omega)
  have hcopy : ∀ X v x1 x2 k1 k2 (Q : TensQ X v s qs x1 k1 x2 k2), Calls Tryz.prog 24 #[v] X fun e w' => ∃ r, e = .returned r ∧ ResC X.heap.size w' r s qs ∧ Below X.heap.size X w' := fun X v x1 x2 k1 k2 Q => copyT7_any (n := 1048576) Q ls hq1 HL.out (by omega)
  have hcount : d = 0 → L.length ≤ 1048576 := fun h0 => by
    rw [← hL, List.length_replicate]
    have ok := mayC_zero.1 (hd.trans h0)
    have h1 := ok.few
    rw [ok.count]
    omega
  rw [hd] at rmay
  have HD := Lib.hid hd
  have HLL := Lib.hid hL
  have HC := Lib.hid hcount
  have mkS : ∀ X, Below V.heap.size V X → (X.cell? ⟨W.heap.size, 0, none⟩ = some (.bool q0.neg) ∧ X.cell? ⟨W.heap.size, 1, none⟩ = some (.slice e1 q0.num.length k1) ∧ X.cell? ⟨W.heap.size, 2, none⟩ = some (.slice e2 q0.den.length k2)) ∧ X.cell? ⟨W.heap.size + 1, 0, none⟩ = some (.slice a s.length ca) ∧ X.cell? ⟨W.heap.size + 1, 1, none⟩ = some (.slice b qs.length cb) := fun X h => by
    obtain ⟨x0, x1, x2, _⟩ := (R0.later h).three
    obtain ⟨x3, x4, _⟩ := (R1.later h).two
    exact ⟨⟨x0, x1, x2⟩, x3, x4⟩
  clear A na X0 T hd hL hcount hx0
  go_enter Tryz.func5, Tryz.ntmps5
  go_upto_region 1 with fail
  clear hV hV1
  go_cut [7, 8] (fun s7 s8 wx => ∃ (g : Nat) (f1 f2 : Option Addr) (l1 j1 l2 j2 : Nat), s7 = .pointer (some ⟨g, 0, none⟩) ∧ s8 = .int .i64 d ∧ V.heap.size ≤ g ∧ Row wx g 26 #[.slice f1 l1 j1, .slice f2 l2 j2] ∧ TenC V.heap.size wx (.agg #[.slice f1 l1 j1, .slice f2 l2 j2]) s0 L 1048578 d ∧ (d ≠ 0 → l1 = 0 ∧ l2 = 0) ∧ Below V.heap.size V wx)
  case first =>
    (try rw [hV1])
    refine wp_region_held_drew (S := fun X => (X.cell? ⟨W.heap.size, 0, none⟩ = some (.bool q0.neg) ∧ X.cell? ⟨W.heap.size, 1, none⟩ = some (.slice e1 q0.num.length k1) ∧ X.cell? ⟨W.heap.size, 2, none⟩ = some (.slice e2 q0.den.length k2)) ∧ X.cell? ⟨W.heap.size + 1, 0, none⟩ = some (.slice a s.length ca) ∧ X.cell? ⟨W.heap.size + 1, 1, none⟩ = some (.slice b qs.length cb)) (by kernel_rfl) (mkS _ ((Below.refl V.heap.size V).drew)) (fun hHeld => ?_)
    refine wpAnyH_take (i := 0) (v := ?vT1_0) rfl (by kernel_rfl) (by kernel_rfl) (by kernel_rfl) (fun _ _ _ h => h) (Or.inl ⟨by rfl, ?hT1_0⟩) (by assumption) ?rT1_0
    case hT1_0 =>
      intro w hSw
      try dsimp only at hSw
      go_simp
      try with_reducible rfl
    try simp only [Act.put, List.setIfInBounds_toArray, List.set_cons_zero, List.set_cons_succ]
    refine wpAnyH_take (i := 2) (v := ?vT2_2) rfl (by kernel_rfl) (by kernel_rfl) (by kernel_rfl) (fun _ _ _ h => h) (Or.inl ⟨by rfl, ?hT2_2⟩) (by assumption) ?rT2_2
    case hT2_2 =>
      intro w hSw
      try dsimp only at hSw
      go_simp
      try with_reducible rfl
    try simp only [Act.put, List.setIfInBounds_toArray, List.set_cons_zero, List.set_cons_succ]
    obtain ⟨X0, hV0⟩ : ∃ Y, V.drew = Y := ⟨_, rfl⟩
    rw [hV0] at hHeld
    rw [hV0]
    have hb0 : Below V.heap.size V X0 := by rw [← hV0]; exact (Below.refl _ _).drew
    have hs0 : V.heap.size ≤ X0.heap.size := hb0.size
    clear hV0
    refine wpAnyH_ready (rs := [1, 8]) (by kernel_rfl) (by simp) ?_
    refine AllReadyH.cons rfl (fun K hK => ?o3_1) (AllReadyH.cons rfl (fun K hK => ?o3_8) AllReadyH.nil)
    case o3_1 =>
      refine step_copyK rfl _ 23 Tryz.underlying23 rfl rfl (aX _ hb0) NA.out (by omega) ?_
      intro ro4 X4 RS4 hc4
      obtain ⟨ad4, cd4, rfl, RS4', AS4, ns4⟩ := RS4.slice
      have hbX4 : Below V.heap.size V X4 := hb0.trans (hc4.mono hs0)
      have hsX4 : V.heap.size ≤ X4.heap.size := hbX4.size
      refine hK.out _ _ (mkS _ hbX4) (fun hHeld2 => ?_)
      clear hK K hHeld
      have hHeld := hHeld2
      clear hHeld2
      try simp only [Act.put, List.setIfInBounds_toArray, List.set_cons_zero, List.set_cons_succ]
      refine wpAnyH_ready (rs := [3, 8]) (by kernel_rfl) (by simp) ?_
      refine AllReadyH.cons rfl (fun K hK => ?o5_3) (AllReadyH.cons rfl (fun K hK => ?o5_8) AllReadyH.nil)
      case o5_3 =>
        go_simp
        refine (ownx _ hbX4).mono ?_
        rintro e X6 ⟨r6, rfl, RO6, hc6⟩
        have RQ6 := RO6.raw
        go_simp
        have hbX6 : Below V.heap.size V X6 := hbX4.trans (hc6.mono hsX4)
        have hsX6 : V.heap.size ≤ X6.heap.size := hbX6.size
        have asX6 := AS4.later hc6
        refine hK.out _ _ (mkS _ hbX6) (fun hHeld2 => ?_)
        clear hK K hHeld
        have hHeld := hHeld2
        clear hHeld2
        try simp only [Act.put, List.setIfInBounds_toArray, List.set_cons_zero, List.set_cons_succ]
        refine wpAnyH_ready (rs := [4, 8]) (by kernel_rfl) (by simp) ?_
        refine AllReadyH.cons rfl (fun K hK => ?o7_4) (AllReadyH.cons rfl (fun K hK => ?o7_8) AllReadyH.nil)
        case o7_4 =>
          go_simp
          refine (hcode _ _ _ _ _ asX6 ns4 RQ6).mono ?_
          rintro e X8 ⟨r8, rfl, TQ8, hc8⟩
          obtain ⟨f8, l8, j8, g8, n8, i8, rfl, sh8⟩ := TQ8.shape
          go_simp
          have hbX8 : Below V.heap.size V X8 := hbX6.trans (hc8.mono hsX6)
          have hsX8 : V.heap.size ≤ X8.heap.size := hbX8.size
          have asX8 := asX6.later hc8
          have rqX8 := RQ6.later hc8
          refine hK.out _ _ (mkS _ hbX8) (fun hHeld2 => ?_)
          clear hK K hHeld
          have hHeld := hHeld2
          clear hHeld2
          try simp only [Act.put, List.setIfInBounds_toArray, List.set_cons_zero, List.set_cons_succ]
          refine wpAnyH_take (i := 5) (v := ?vT9_5) rfl (by kernel_rfl) (by kernel_rfl) (by kernel_rfl) (fun _ _ _ h => h) (Or.inl ⟨by rfl, ?hT9_5⟩) (by assumption) ?rT9_5
          case hT9_5 =>
            intro w hSw
            try dsimp only at hSw
            go_simp
            try with_reducible rfl
          try simp only [Act.put, List.setIfInBounds_toArray, List.set_cons_zero, List.set_cons_succ]
          refine wpAnyH_take (i := 6) (v := ?vT10_6) rfl (by kernel_rfl) (by kernel_rfl) (by kernel_rfl) (fun _ _ _ h => h) (Or.inl ⟨by rfl, ?hT10_6⟩) (by assumption) ?rT10_6
          case hT10_6 =>
            intro w hSw
            try dsimp only at hSw
            go_simp
            try with_reducible rfl
          try simp only [Act.put, List.setIfInBounds_toArray, List.set_cons_zero, List.set_cons_succ]
          refine wpAnyH_take (i := 7) (v := ?vT11_7) rfl (by kernel_rfl) (by kernel_rfl) (by kernel_rfl) (fun _ _ _ h => h) (Or.inl ⟨by rfl, ?hT11_7⟩) (by assumption) ?rT11_7
          case hT11_7 =>
            intro w hSw
            try dsimp only at hSw
            go_simp
            try with_reducible rfl
          try simp only [Act.put, List.setIfInBounds_toArray, List.set_cons_zero, List.set_cons_succ]
          refine wpAnyH_ready (rs := [8]) (by kernel_rfl) (by simp) ?_
          refine AllReadyH.cons rfl (fun K hK => ?o12_8) AllReadyH.nil
          go_simp
          refine afterAlloc (fun X13 hc13 hl13 zn13 => ?_)
          have hbX13 : Below V.heap.size V X13 := hbX8.trans (hc13.mono hsX8)
          have hsX13 : V.heap.size ≤ X13.heap.size := hbX13.size
          have asX13 := asX8.later hc13
          have rqX13 := rqX8.later hc13
          have tqX13 := TQ8.later hc13
          refine hK.out _ _ (mkS _ hbX13) (fun hHeld2 => ?_)
          clear hK K hHeld
          have hHeld := hHeld2
          clear hHeld2
          try simp only [Act.put, List.setIfInBounds_toArray, List.set_cons_zero, List.set_cons_succ]
          obtain ⟨d14_0, d14_1, d14_2, d14_3⟩ := zn13.two
          refine wpAnyH_ready (rs := [9]) (by kernel_rfl) (by simp) ?_
          refine AllReadyH.cons rfl (fun K hK => ?s14) AllReadyH.nil
          go_simp
          refine afterSet2 zn13 (fun X14 o14 zs14 => ?_)
          clear d14_0 d14_1 d14_2 d14_3
          have hbX14 : Below V.heap.size V X14 := hbX13.trans (o14.below hsX8)
          have hsX14 : V.heap.size ≤ X14.heap.size := hbX14.size
          have tqX14 := tqX13.only zn13 o14
          refine hK.out _ _ (mkS _ hbX14) (fun hHeld2 => ?_)
          clear hK K hHeld
          have hHeld := hHeld2
          clear hHeld2
          try simp only [Act.put, List.setIfInBounds_toArray, List.set_cons_zero, List.set_cons_succ]
          refine wpAnyH_ready (rs := [10]) (by kernel_rfl) (by simp) ?_
          refine AllReadyH.cons rfl (fun K hK => ?sD15_10) AllReadyH.nil
          go_simp
          refine hK.out _ _ ?kD15_10 (fun hHeld => ?mD15_10)
          case kD15_10 =>
            try dsimp only
            exact mkS _ hbX14
          clear hK K
          try simp only [Act.put, List.setIfInBounds_toArray, List.set_cons_zero, List.set_cons_succ]
          refine wpAnyH_done (by kernel_rfl) ?_ _
          go_wp2_with fail
          go_meet
          exact ⟨_, f8, g8, l8, j8, n8, i8, rfl, rfl, hsX8, zs14, ⟨fun h => (tqX14.1 h).mono (by omega), tqX14.2⟩, sh8, hbX14⟩
        case o7_8 =>
          go_simp
          refine afterAlloc (fun X16 hc16 hl16 zn16 => ?_)
          have hbX16 : Below V.heap.size V X16 := hbX6.trans (hc16.mono hsX6)
          have hsX16 : V.heap.size ≤ X16.heap.size := hbX16.size
          have asX16 := asX6.later hc16
          have rqX16 := RQ6.later hc16
          refine hK.out _ _ (mkS _ hbX16) (fun hHeld2 => ?_)
          clear hK K hHeld
          have hHeld := hHeld2
          clear hHeld2
          try simp only [Act.put, List.setIfInBounds_toArray, List.set_cons_zero, List.set_cons_succ]
          refine wpAnyH_ready (rs := [4]) (by kernel_rfl) (by simp) ?_
          refine AllReadyH.cons rfl (fun K hK => ?o17_4) AllReadyH.nil
          go_simp
          refine (hcode _ _ _ _ _ asX16 ns4 rqX16).mono ?_
          rintro e X18 ⟨r18, rfl, TQ18, hc18⟩
          obtain ⟨f18, l18, j18, g18, n18, i18, rfl, sh18⟩ := TQ18.shape
          go_simp
          have hbX18 : Below V.heap.size V X18 := hbX16.trans (hc18.mono hsX16)
          have hsX18 : V.heap.size ≤ X18.heap.size := hbX18.size
          have asX18 := asX16.later hc18
          have rqX18 := rqX16.later hc18
          have zAX18 := zn16.later hc18
          have ltAX18 := zAX18.lt
          refine hK.out _ _ (mkS _ hbX18) (fun hHeld2 => ?_)
          clear hK K hHeld
          have hHeld := hHeld2
          clear hHeld2
          try simp only [Act.put, List.setIfInBounds_toArray, List.set_cons_zero, List.set_cons_succ]
          refine wpAnyH_take (i := 5) (v := ?vT19_5) rfl (by kernel_rfl) (by kernel_rfl) (by kernel_rfl) (fun _ _ _ h => h) (Or.inl ⟨by rfl, ?hT19_5⟩) (by assumption) ?rT19_5
          case hT19_5 =>
            intro w hSw
            try dsimp only at hSw
            go_simp
            try with_reducible rfl
          try simp only [Act.put, List.setIfInBounds_toArray, List.set_cons_zero, List.set_cons_succ]
          refine wpAnyH_take (i := 6) (v := ?vT20_6) rfl (by kernel_rfl) (by kernel_rfl) (by kernel_rfl) (fun _ _ _ h => h) (Or.inl ⟨by rfl, ?hT20_6⟩) (by assumption) ?rT20_6
          case hT20_6 =>
            intro w hSw
            try dsimp only at hSw
            go_simp
            try with_reducible rfl
          try simp only [Act.put, List.setIfInBounds_toArray, List.set_cons_zero, List.set_cons_succ]
          refine wpAnyH_take (i := 7) (v := ?vT21_7) rfl (by kernel_rfl) (by kernel_rfl) (by kernel_rfl) (fun _ _ _ h => h) (Or.inl ⟨by rfl, ?hT21_7⟩) (by assumption) ?rT21_7
          case hT21_7 =>
            intro w hSw
            try dsimp only at hSw
            go_simp
            try with_reducible rfl
          try simp only [Act.put, List.setIfInBounds_toArray, List.set_cons_zero, List.set_cons_succ]
          obtain ⟨d22_0, d22_1, d22_2, d22_3⟩ := zAX18.two
          refine wpAnyH_ready (rs := [9]) (by kernel_rfl) (by simp) ?_
          refine AllReadyH.cons rfl (fun K hK => ?s22) AllReadyH.nil
          go_simp
          refine afterSet2 zAX18 (fun X22 o22 zs22 => ?_)
          clear d22_0 d22_1 d22_2 d22_3
          have hbX22 : Below V.heap.size V X22 := hbX18.trans (o22.below hsX6)
          have hsX22 : V.heap.size ≤ X22.heap.size := hbX22.size
          have tqX22 := TQ18.only zAX18 o22
          refine hK.out _ _ (mkS _ hbX22) (fun hHeld2 => ?_)
          clear hK K hHeld
          have hHeld := hHeld2
          clear hHeld2
          try simp only [Act.put, List.setIfInBounds_toArray, List.set_cons_zero, List.set_cons_succ]
          refine wpAnyH_ready (rs := [10]) (by kernel_rfl) (by simp) ?_
          refine AllReadyH.cons rfl (fun K hK => ?sD23_10) AllReadyH.nil
          go_simp
          refine hK.out _ _ ?kD23_10 (fun hHeld => ?mD23_10)
          case kD23_10 =>
            try dsimp only
            exact mkS _ hbX22
          clear hK K
          try simp only [Act.put, List.setIfInBounds_toArray, List.set_cons_zero, List.set_cons_succ]
          refine wpAnyH_done (by kernel_rfl) ?_ _
          go_wp2_with fail
          go_meet
          exact ⟨_, f18, g18, l18, j18, n18, i18, rfl, rfl, hsX6, zs22, ⟨fun h => (tqX22.1 h).mono (by omega), tqX22.2⟩, sh18, hbX22⟩
      case o5_8 =>
        go_simp
        refine afterAlloc (fun X24 hc24 hl24 zn24 => ?_)
        have hbX24 : Below V.heap.size V X24 := hbX4.trans (hc24.mono hsX4)
        have hsX24 : V.heap.size ≤ X24.heap.size := hbX24.size
        have asX24 := AS4.later hc24
        refine hK.out _ _ (mkS _ hbX24) (fun hHeld2 => ?_)
        clear hK K hHeld
        have hHeld := hHeld2
        clear hHeld2
        try simp only [Act.put, List.setIfInBounds_toArray, List.set_cons_zero, List.set_cons_succ]
        refine wpAnyH_ready (rs := [3]) (by kernel_rfl) (by simp) ?_
        refine AllReadyH.cons rfl (fun K hK => ?o25_3) AllReadyH.nil
        go_simp
        refine (ownx _ hbX24).mono ?_
        rintro e X26 ⟨r26, rfl, RO26, hc26⟩
        have RQ26 := RO26.raw
        go_simp
        have hbX26 : Below V.heap.size V X26 := hbX24.trans (hc26.mono hsX24)
        have hsX26 : V.heap.size ≤ X26.heap.size := hbX26.size
        have asX26 := asX24.later hc26
        have zAX26 := zn24.later hc26
        have ltAX26 := zAX26.lt
        refine hK.out _ _ (mkS _ hbX26) (fun hHeld2 => ?_)
        clear hK K hHeld
        have hHeld := hHeld2
        clear hHeld2
        try simp only [Act.put, List.setIfInBounds_toArray, List.set_cons_zero, List.set_cons_succ]
        refine wpAnyH_ready (rs := [4]) (by kernel_rfl) (by simp) ?_
        refine AllReadyH.cons rfl (fun K hK => ?o27_4) AllReadyH.nil
        go_simp
        refine (hcode _ _ _ _ _ asX26 ns4 RQ26).mono ?_
        rintro e X28 ⟨r28, rfl, TQ28, hc28⟩
        obtain ⟨f28, l28, j28, g28, n28, i28, rfl, sh28⟩ := TQ28.shape
        go_simp
        have hbX28 : Below V.heap.size V X28 := hbX26.trans (hc28.mono hsX26)
        have hsX28 : V.heap.size ≤ X28.heap.size := hbX28.size
        have asX28 := asX26.later hc28
        have rqX28 := RQ26.later hc28
        have zAX28 := zAX26.later hc28
        have ltAX28 := zAX28.lt
        refine hK.out _ _ (mkS _ hbX28) (fun hHeld2 => ?_)
        clear hK K hHeld
        have hHeld := hHeld2
        clear hHeld2
        try simp only [Act.put, List.setIfInBounds_toArray, List.set_cons_zero, List.set_cons_succ]
        refine wpAnyH_take (i := 5) (v := ?vT29_5) rfl (by kernel_rfl) (by kernel_rfl) (by kernel_rfl) (fun _ _ _ h => h) (Or.inl ⟨by rfl, ?hT29_5⟩) (by assumption) ?rT29_5
        case hT29_5 =>
          intro w hSw
          try dsimp only at hSw
          go_simp
          try with_reducible rfl
        try simp only [Act.put, List.setIfInBounds_toArray, List.set_cons_zero, List.set_cons_succ]
        refine wpAnyH_take (i := 6) (v := ?vT30_6) rfl (by kernel_rfl) (by kernel_rfl) (by kernel_rfl) (fun _ _ _ h => h) (Or.inl ⟨by rfl, ?hT30_6⟩) (by assumption) ?rT30_6
        case hT30_6 =>
          intro w hSw
          try dsimp only at hSw
          go_simp
          try with_reducible rfl
        try simp only [Act.put, List.setIfInBounds_toArray, List.set_cons_zero, List.set_cons_succ]
        refine wpAnyH_take (i := 7) (v := ?vT31_7) rfl (by kernel_rfl) (by kernel_rfl) (by kernel_rfl) (fun _ _ _ h => h) (Or.inl ⟨by rfl, ?hT31_7⟩) (by assumption) ?rT31_7
        case hT31_7 =>
          intro w hSw
          try dsimp only at hSw
          go_simp
          try with_reducible rfl
        try simp only [Act.put, List.setIfInBounds_toArray, List.set_cons_zero, List.set_cons_succ]
        obtain ⟨d32_0, d32_1, d32_2, d32_3⟩ := zAX28.two
        refine wpAnyH_ready (rs := [9]) (by kernel_rfl) (by simp) ?_
        refine AllReadyH.cons rfl (fun K hK => ?s32) AllReadyH.nil
        go_simp
        refine afterSet2 zAX28 (fun X32 o32 zs32 => ?_)
        clear d32_0 d32_1 d32_2 d32_3
        have hbX32 : Below V.heap.size V X32 := hbX28.trans (o32.below hsX4)
        have hsX32 : V.heap.size ≤ X32.heap.size := hbX32.size
        have tqX32 := TQ28.only zAX28 o32
        refine hK.out _ _ (mkS _ hbX32) (fun hHeld2 => ?_)
        clear hK K hHeld
        have hHeld := hHeld2
        clear hHeld2
        try simp only [Act.put, List.setIfInBounds_toArray, List.set_cons_zero, List.set_cons_succ]
        refine wpAnyH_ready (rs := [10]) (by kernel_rfl) (by simp) ?_
        refine AllReadyH.cons rfl (fun K hK => ?sD33_10) AllReadyH.nil
        go_simp
        refine hK.out _ _ ?kD33_10 (fun hHeld => ?mD33_10)
        case kD33_10 =>
          try dsimp only
          exact mkS _ hbX32
        clear hK K
        try simp only [Act.put, List.setIfInBounds_toArray, List.set_cons_zero, List.set_cons_succ]
        refine wpAnyH_done (by kernel_rfl) ?_ _
        go_wp2_with fail
        go_meet
        exact ⟨_, f28, g28, l28, j28, n28, i28, rfl, rfl, hsX4, zs32, ⟨fun h => (tqX32.1 h).mono (by omega), tqX32.2⟩, sh28, hbX32⟩
    case o3_8 =>
      go_simp
      refine afterAlloc (fun X34 hc34 hl34 zn34 => ?_)
      have hbX34 : Below V.heap.size V X34 := hb0.trans (hc34.mono hs0)
      have hsX34 : V.heap.size ≤ X34.heap.size := hbX34.size
      refine hK.out _ _ (mkS _ hbX34) (fun hHeld2 => ?_)
      clear hK K hHeld
      have hHeld := hHeld2
      clear hHeld2
      try simp only [Act.put, List.setIfInBounds_toArray, List.set_cons_zero, List.set_cons_succ]
      refine wpAnyH_ready (rs := [1]) (by kernel_rfl) (by simp) ?_
      refine AllReadyH.cons rfl (fun K hK => ?o35_1) AllReadyH.nil
      refine step_copyK rfl _ 23 Tryz.underlying23 rfl rfl (aX _ hbX34) NA.out (by omega) ?_
      intro ro36 X36 RS36 hc36
      obtain ⟨ad36, cd36, rfl, RS36', AS36, ns36⟩ := RS36.slice
      have hbX36 : Below V.heap.size V X36 := hbX34.trans (hc36.mono hsX34)
      have hsX36 : V.heap.size ≤ X36.heap.size := hbX36.size
      have zAX36 := zn34.later hc36
      have ltAX36 := zAX36.lt
      refine hK.out _ _ (mkS _ hbX36) (fun hHeld2 => ?_)
      clear hK K hHeld
      have hHeld := hHeld2
      clear hHeld2
      try simp only [Act.put, List.setIfInBounds_toArray, List.set_cons_zero, List.set_cons_succ]
      refine wpAnyH_ready (rs := [3]) (by kernel_rfl) (by simp) ?_
      refine AllReadyH.cons rfl (fun K hK => ?o37_3) AllReadyH.nil
      go_simp
      refine (ownx _ hbX36).mono ?_
      rintro e X38 ⟨r38, rfl, RO38, hc38⟩
      have RQ38 := RO38.raw
      go_simp
      have hbX38 : Below V.heap.size V X38 := hbX36.trans (hc38.mono hsX36)
      have hsX38 : V.heap.size ≤ X38.heap.size := hbX38.size
      have asX38 := AS36.later hc38
      have zAX38 := zAX36.later hc38
      have ltAX38 := zAX38.lt
      refine hK.out _ _ (mkS _ hbX38) (fun hHeld2 => ?_)
      clear hK K hHeld
      have hHeld := hHeld2
      clear hHeld2
      try simp only [Act.put, List.setIfInBounds_toArray, List.set_cons_zero, List.set_cons_succ]
      refine wpAnyH_ready (rs := [4]) (by kernel_rfl) (by simp) ?_
      refine AllReadyH.cons rfl (fun K hK => ?o39_4) AllReadyH.nil
      go_simp
      refine (hcode _ _ _ _ _ asX38 ns36 RQ38).mono ?_
      rintro e X40 ⟨r40, rfl, TQ40, hc40⟩
      obtain ⟨f40, l40, j40, g40, n40, i40, rfl, sh40⟩ := TQ40.shape
      go_simp
      have hbX40 : Below V.heap.size V X40 := hbX38.trans (hc40.mono hsX38)
      have hsX40 : V.heap.size ≤ X40.heap.size := hbX40.size
      have asX40 := asX38.later hc40
      have rqX40 := RQ38.later hc40
      have zAX40 := zAX38.later hc40
      have ltAX40 := zAX40.lt
      refine hK.out _ _ (mkS _ hbX40) (fun hHeld2 => ?_)
      clear hK K hHeld
      have hHeld := hHeld2
      clear hHeld2
      try simp only [Act.put, List.setIfInBounds_toArray, List.set_cons_zero, List.set_cons_succ]
      refine wpAnyH_take (i := 5) (v := ?vT41_5) rfl (by kernel_rfl) (by kernel_rfl) (by kernel_rfl) (fun _ _ _ h => h) (Or.inl ⟨by rfl, ?hT41_5⟩) (by assumption) ?rT41_5
      case hT41_5 =>
        intro w hSw
        try dsimp only at hSw
        go_simp
        try with_reducible rfl
      try simp only [Act.put, List.setIfInBounds_toArray, List.set_cons_zero, List.set_cons_succ]
      refine wpAnyH_take (i := 6) (v := ?vT42_6) rfl (by kernel_rfl) (by kernel_rfl) (by kernel_rfl) (fun _ _ _ h => h) (Or.inl ⟨by rfl, ?hT42_6⟩) (by assumption) ?rT42_6
      case hT42_6 =>
        intro w hSw
        try dsimp only at hSw
        go_simp
        try with_reducible rfl
      try simp only [Act.put, List.setIfInBounds_toArray, List.set_cons_zero, List.set_cons_succ]
      refine wpAnyH_take (i := 7) (v := ?vT43_7) rfl (by kernel_rfl) (by kernel_rfl) (by kernel_rfl) (fun _ _ _ h => h) (Or.inl ⟨by rfl, ?hT43_7⟩) (by assumption) ?rT43_7
      case hT43_7 =>
        intro w hSw
        try dsimp only at hSw
        go_simp
        try with_reducible rfl
      try simp only [Act.put, List.setIfInBounds_toArray, List.set_cons_zero, List.set_cons_succ]
      obtain ⟨d44_0, d44_1, d44_2, d44_3⟩ := zAX40.two
      refine wpAnyH_ready (rs := [9]) (by kernel_rfl) (by simp) ?_
      refine AllReadyH.cons rfl (fun K hK => ?s44) AllReadyH.nil
      go_simp
      refine afterSet2 zAX40 (fun X44 o44 zs44 => ?_)
      clear d44_0 d44_1 d44_2 d44_3
      have hbX44 : Below V.heap.size V X44 := hbX40.trans (o44.below hs0)
      have hsX44 : V.heap.size ≤ X44.heap.size := hbX44.size
      have tqX44 := TQ40.only zAX40 o44
      refine hK.out _ _ (mkS _ hbX44) (fun hHeld2 => ?_)
      clear hK K hHeld
      have hHeld := hHeld2
      clear hHeld2
      try simp only [Act.put, List.setIfInBounds_toArray, List.set_cons_zero, List.set_cons_succ]
      refine wpAnyH_ready (rs := [10]) (by kernel_rfl) (by simp) ?_
      refine AllReadyH.cons rfl (fun K hK => ?sD45_10) AllReadyH.nil
      go_simp
      refine hK.out _ _ ?kD45_10 (fun hHeld => ?mD45_10)
      case kD45_10 =>
        try dsimp only
        exact mkS _ hbX44
      clear hK K
      try simp only [Act.put, List.setIfInBounds_toArray, List.set_cons_zero, List.set_cons_succ]
      refine wpAnyH_done (by kernel_rfl) ?_ _
      go_wp2_with fail
      go_meet
      exact ⟨_, f40, g40, l40, j40, n40, i40, rfl, rfl, hs0, zs44, ⟨fun h => (tqX44.1 h).mono (by omega), tqX44.2⟩, sh40, hbX44⟩
  case rest =>
    obtain ⟨g, f1, f2, l1, j1, l2, j2, rfl, rfl, hg, RG, TC, hsh, B1⟩ := hcut
    have HSH := Lib.hid hsh
    have HTC := Lib.hid TC
    have HRG := Lib.hid RG
    obtain ⟨⟨c0, c1, c2⟩, c3, c4⟩ := mkS _ B1
    have ho := ownx _ B1
    clear hsh TC RG
    go_wp2_with fail
    refine ho.mono ?_
    rintro e y2 ⟨r2, rfl, RO2, b2⟩
    have RQ2 := RO2.raw
    have B2 : Below V.heap.size V y2 := B1.trans (b2.mono B1.size)
    obtain ⟨m2, p1, n1, k3, p2, n2, k4, rfl⟩ := RO2.shape
    clear c0 c1 c2 c3 c4 ho RO2
    go_wp2_with fail
    refine (hscal _ _ RQ2).mono ?_
    rintro e y3 ⟨r3, rfl, RZ3, b3⟩
    have B3 : Below V.heap.size V y3 := B2.trans (b3.mono B2.size)
    obtain ⟨za, zb, zca, zcb, hr3, _, _⟩ := id RZ3
    have hr3' : r3 = .agg #[.slice za 0 zca, .slice zb 1 zcb] := hr3
    subst hr3'
    clear hr3
    obtain ⟨y4, hy4e⟩ : ∃ y4, y3.alloc (.cells #[.slice za 0 zca, .slice zb 1 zcb] 26) = y4 := ⟨_, rfl⟩
    have b4 : Below y3.heap.size y3 y4 := by rw [← hy4e]; exact (Below.refl _ _).alloc (Nat.le_refl _) _
    have O4 : Row y4 y3.heap.size 26 #[.slice za 0 zca, .slice zb 1 zcb] := by rw [← hy4e]; exact Row.new _ _ _
    have B4 : Below V.heap.size V y4 := B3.trans (b4.mono B3.size)
    obtain ⟨qz, _, _, _, _, TZ3, hmapz, hlensz, hokz⟩ := RZ3.tens
    obtain ⟨⟨c0, c1, c2⟩, c3, c4⟩ := mkS _ B4
    clear RZ3 RQ2
    go_wp2_with fail
    (try rw [hy4e])
    refine (ownt _ B4).mono ?_
    rintro e y5 ⟨p5, r5, cx5, cy5, rfl, S5, E5, b5⟩
    have TO5 := ownT_tens S5 E5
    have B5 : Below V.heap.size V y5 := B4.trans (b5.mono B4.size)
    clear c0 c1 c2 c3 c4 S5 E5 hy4e
    go_wp2_with fail
    refine (hcopy _ _ _ _ _ _ TO5).mono ?_
    rintro e y6 ⟨r6, rfl, RC6, b6⟩
    have B6 : Below V.heap.size V y6 := B5.trans (b6.mono B5.size)
    obtain ⟨wa, wb, wca, wcb, rfl, hc1, hc2⟩ := RC6
    have TW6 := ownT_tens hc1 hc2
    obtain ⟨y7, hy7e⟩ : ∃ y7, y6.alloc (.cells #[.slice wa s.length wca, .slice wb qs.length wcb] 26) = y7 := ⟨_, rfl⟩
    have b7 : Below y6.heap.size y6 y7 := by rw [← hy7e]; exact (Below.refl _ _).alloc (Nat.le_refl _) _
    have O7 : Row y7 y6.heap.size 26 #[.slice wa s.length wca, .slice wb qs.length wcb] := by rw [← hy7e]; exact Row.new _ _ _
    have B7 : Below V.heap.size V y7 := B6.trans (b7.mono B6.size)
    have D47 : Below y4.heap.size y4 y7 := (b5.trans (b6.mono b5.size)).trans (b7.mono (Nat.le_trans b5.size b6.size))
    have D37 : Below y3.heap.size y3 y7 := b4.trans (D47.mono b4.size)
    have D17 : Below wc.heap.size wc y7 := ((b2.trans (b3.mono b2.size)).trans (D37.mono (Nat.le_trans b2.size b3.size)))
    have toV : ∀ X, Below y7.heap.size y7 X → Below V.heap.size V X := fun X h => B7.trans (h.mono B7.size)
    have mkS7 : ∀ X, Below y7.heap.size y7 X → (X.cell? ⟨W.heap.size, 0, none⟩ = some (.bool q0.neg) ∧ X.cell? ⟨W.heap.size, 1, none⟩ = some (.slice e1 q0.num.length k1) ∧ X.cell? ⟨W.heap.size, 2, none⟩ = some (.slice e2 q0.den.length k2)) ∧ (X.cell? ⟨W.heap.size + 1, 0, none⟩ = some (.slice a s.length ca) ∧ X.cell? ⟨W.heap.size + 1, 1, none⟩ = some (.slice b qs.length cb)) ∧ (X.cell? ⟨y3.heap.size, 0, none⟩ = some (.slice za 0 zca) ∧ X.cell? ⟨y3.heap.size, 1, none⟩ = some (.slice zb 1 zcb)) ∧ (X.cell? ⟨y6.heap.size, 0, none⟩ = some (.slice wa s.length wca) ∧ X.cell? ⟨y6.heap.size, 1, none⟩ = some (.slice wb qs.length wcb)) := fun X h => by
      obtain ⟨⟨c0, c1, c2⟩, c3, c4⟩ := mkS _ (toV X h)
      obtain ⟨c5, c6, _⟩ := (O4.later (D47.trans (h.mono D47.size))).two
      obtain ⟨c7, c8, _⟩ := (O7.later h).two
      exact ⟨⟨c0, c1, c2⟩, ⟨c3, c4⟩, ⟨c5, c6⟩, c7, c8⟩
    have hisz : ∀ X u aa bb cc dd, Below y7.heap.size y7 X → TensR X u [] [q0.rat] (5 * 1048576 + 1) aa bb cc dd → Calls Tryz.prog 19 #[u, .agg #[.slice za 0 zca, .slice zb 1 zcb]] X fun e w' => e = .returned (.bool true) ∧ Below X.heap.size X w' := fun X u aa bb cc dd h T => by
      have hlq : qz.length = 1 := by have := congrArg List.length hmapz; simpa using this
      have := isT_any T (TZ3.later (D37.trans (h.mono D37.size))) (by simp) (by simp) (by omega) (by omega) (fun q hq => ⟨Nat.le_trans (hlensz q hq).1 (by omega), Nat.le_trans (hlensz q hq).2 (by omega)⟩)
      rw [made_is hmapz hokz] at this
      exact this
    have E0 : Below y7.heap.size y7 y7.drew := (Below.refl _ y7).drew
    clear TO5 hc1 hc2 hokz hlensz b2 b3 b5 b6
    go_wp2_with fail
    (try rw [hy7e])
    refine wp_region_held (S := fun X => (X.cell? ⟨W.heap.size, 0, none⟩ = some (.bool q0.neg) ∧ X.cell? ⟨W.heap.size, 1, none⟩ = some (.slice e1 q0.num.length k1) ∧ X.cell? ⟨W.heap.size, 2, none⟩ = some (.slice e2 q0.den.length k2)) ∧ (X.cell? ⟨W.heap.size + 1, 0, none⟩ = some (.slice a s.length ca) ∧ X.cell? ⟨W.heap.size + 1, 1, none⟩ = some (.slice b qs.length cb)) ∧ (X.cell? ⟨y3.heap.size, 0, none⟩ = some (.slice za 0 zca) ∧ X.cell? ⟨y3.heap.size, 1, none⟩ = some (.slice zb 1 zcb)) ∧ (X.cell? ⟨y6.heap.size, 0, none⟩ = some (.slice wa s.length wca) ∧ X.cell? ⟨y6.heap.size, 1, none⟩ = some (.slice wb qs.length wcb))) (by kernel_rfl) ?_
    have hHeld := mkS7 _ E0
    refine wpAnyH_take (i := 0) (v := ?vq0a0) rfl (by kernel_rfl) (by kernel_rfl) (by kernel_rfl) (fun _ _ _ h => h) (Or.inl ⟨by rfl, ?hq0a0⟩) (by assumption) ?rq0a0
    case hq0a0 =>
      intro w hSw
      try dsimp only at hSw
      go_simp
      try with_reducible rfl
    try simp only [Act.put, List.setIfInBounds_toArray, List.set_cons_zero, List.set_cons_succ]
    refine wpAnyH_take (i := 4) (v := ?vq0a4) rfl (by kernel_rfl) (by kernel_rfl) (by kernel_rfl) (fun _ _ _ h => h) (Or.inl ⟨by rfl, ?hq0a4⟩) (by assumption) ?rq0a4
    case hq0a4 =>
      intro w hSw
      try dsimp only at hSw
      go_simp
      try with_reducible rfl
    try simp only [Act.put, List.setIfInBounds_toArray, List.set_cons_zero, List.set_cons_succ]
    refine wpAnyH_ready (rs := [1]) (by kernel_rfl) (by simp) ?_
    refine AllReadyH.cons rfl (fun K hK => ?sq1c1) AllReadyH.nil
    go_simp
    refine (ofx _ (toV _ E0)).mono ?_
    rintro e x1 ⟨p8, rfl, RR8, hy⟩
    have E1 : Below y7.heap.size y7 x1 := E0.trans (hy.mono E0.size)
    have H1 := hy
    clear hy
    obtain ⟨m8, g1, g2, g3, g4, g5, g6, rfl⟩ := RR8.shape
    go_simp
    refine hK.out _ _ ?kq1c1 (fun hHeld => ?mq1c1)
    case kq1c1 =>
      try dsimp only
      exact mkS7 _ E1
    clear hK K
    try simp only [Act.put, List.setIfInBounds_toArray, List.set_cons_zero, List.set_cons_succ]
    refine wpAnyH_ready (rs := [2]) (by kernel_rfl) (by simp) ?_
    refine AllReadyH.cons rfl (fun K hK => ?sq1b2) AllReadyH.nil
    go_simp
    refine afterAlloc (fun x2 hc2 hl2 zn2 => ?_)
    have E2 : Below y7.heap.size y7 x2 := E1.trans (hc2.mono E1.size)
    have TR2 := one_tensR zn2 (RR8.later hc2).arg
    refine hK.out _ _ ?kq1b2 (fun hHeld => ?mq1b2)
    case kq1b2 =>
      try dsimp only
      exact mkS7 _ E2
    clear hK K
    try simp only [Act.put, List.setIfInBounds_toArray, List.set_cons_zero, List.set_cons_succ]
    refine wpAnyH_take (i := 3) (v := ?vq2a3) rfl (by kernel_rfl) (by kernel_rfl) (by kernel_rfl) (fun _ _ _ h => h) (Or.inl ⟨by rfl, ?hq2a3⟩) (by assumption) ?rq2a3
    case hq2a3 =>
      intro w hSw
      try dsimp only at hSw
      go_simp
      try with_reducible rfl
    try simp only [Act.put, List.setIfInBounds_toArray, List.set_cons_zero, List.set_cons_succ]
    refine wpAnyH_ready (rs := [5]) (by kernel_rfl) (by simp) ?_
    refine AllReadyH.cons rfl (fun K hK => ?sq3c5) AllReadyH.nil
    go_simp
    refine (hisz _ _ _ _ _ _ E2 TR2).mono ?_
    rintro e x3 ⟨rfl, hy⟩
    have E3 : Below y7.heap.size y7 x3 := E2.trans (hy.mono E2.size)
    have H3 := hy
    clear hy
    go_simp
    refine hK.out _ _ ?kq3c5 (fun hHeld => ?mq3c5)
    case kq3c5 =>
      try dsimp only
      exact mkS7 _ E3
    clear hK K
    try simp only [Act.put, List.setIfInBounds_toArray, List.set_cons_zero, List.set_cons_succ]
    refine wpAnyH_take (i := 6) (v := ?vq3a6) rfl (by kernel_rfl) (by kernel_rfl) (by kernel_rfl) (fun _ _ _ h => h) (Or.inl ⟨by rfl, ?hq3a6⟩) (by assumption) ?rq3a6
    case hq3a6 =>
      intro w hSw
      try dsimp only at hSw
      go_simp
      try with_reducible rfl
    try simp only [Act.put, List.setIfInBounds_toArray, List.set_cons_zero, List.set_cons_succ]
    refine wpAnyH_take (i := 7) (v := ?vq3a7) rfl (by kernel_rfl) (by kernel_rfl) (by kernel_rfl) (fun _ _ _ h => h) (Or.inl ⟨by rfl, ?hq3a7⟩) (by assumption) ?rq3a7
    case hq3a7 =>
      intro w hSw
      try dsimp only at hSw
      go_simp
      try with_reducible rfl
    try simp only [Act.put, List.setIfInBounds_toArray, List.set_cons_zero, List.set_cons_succ]
    refine wpAnyH_take (i := 8) (v := ?vq3a8) rfl (by kernel_rfl) (by kernel_rfl) (by kernel_rfl) (fun _ _ _ h => h) (Or.inl ⟨by rfl, ?hq3a8⟩) (by assumption) ?rq3a8
    case hq3a8 =>
      intro w hSw
      try dsimp only at hSw
      go_simp
      try with_reducible rfl
    try simp only [Act.put, List.setIfInBounds_toArray, List.set_cons_zero, List.set_cons_succ]
    refine wpAnyH_take (i := 9) (v := ?vq3a9) rfl (by kernel_rfl) (by kernel_rfl) (by kernel_rfl) (fun _ _ _ h => h) (Or.inl ⟨by rfl, ?hq3a9⟩) (by assumption) ?rq3a9
    case hq3a9 =>
      intro w hSw
      try dsimp only at hSw
      go_simp
      try with_reducible rfl
    try simp only [Act.put, List.setIfInBounds_toArray, List.set_cons_zero, List.set_cons_succ]
    refine wpAnyH_ready (rs := [10]) (by kernel_rfl) (by simp) ?_
    refine AllReadyH.cons rfl (fun K hK => ?sq4c10) AllReadyH.nil
    go_simp
    refine (sameW_true (n := 1048576) (TW6.later (b7.trans (E3.mono b7.size))) (tX _ (toV _ E3)) (by omega) (by omega) (by omega) HL.out).mono ?_
    rintro e x4 ⟨rfl, hy⟩
    have E4 : Below y7.heap.size y7 x4 := E3.trans (hy.mono E3.size)
    have H4 := hy
    clear hy
    go_simp
    refine hK.out _ _ ?kq4c10 (fun hHeld => ?mq4c10)
    case kq4c10 =>
      try dsimp only
      exact mkS7 _ E4
    clear hK K
    try simp only [Act.put, List.setIfInBounds_toArray, List.set_cons_zero, List.set_cons_succ]
    refine wpAnyH_take (i := 11) (v := ?vq4a11) rfl (by kernel_rfl) (by kernel_rfl) (by kernel_rfl) (fun _ _ _ h => h) (Or.inl ⟨by rfl, ?hq4a11⟩) (by assumption) ?rq4a11
    case hq4a11 =>
      intro w hSw
      try dsimp only at hSw
      go_simp
      try with_reducible rfl
    try simp only [Act.put, List.setIfInBounds_toArray, List.set_cons_zero, List.set_cons_succ]
    refine wpAnyH_take (i := 12) (v := ?vq4a12) rfl (by kernel_rfl) (by kernel_rfl) (by kernel_rfl) (fun _ _ _ h => h) (Or.inl ⟨by rfl, ?hq4a12⟩) (by assumption) ?rq4a12
    case hq4a12 =>
      intro w hSw
      try dsimp only at hSw
      go_simp
      try with_reducible rfl
    try simp only [Act.put, List.setIfInBounds_toArray, List.set_cons_zero, List.set_cons_succ]
    refine wpAnyH_done (by kernel_rfl) ?_ _
    have B8 := toV _ E4
    have D18 : Below wc.heap.size wc x4 := D17.trans (E4.mono D17.size)
    have RG8 := HRG.out.later D18
    have hm8 := rmay _ B8
    clear E0 E1 E2 E3 mkS7 TR2 zn2 RR8 hc2 hl2 hHeld hisz TW6 TZ3 hmapz
    go_wp2_with fail
    refine hm8.mono ?_
    rintro e y9 ⟨rfl, b9⟩
    have B9 : Below V.heap.size V y9 := B8.trans (b9.mono B8.size)
    have RG9 := RG8.later b9
    have D19 : Below wc.heap.size wc y9 := D18.trans (b9.mono D18.size)
    clear hm8 RG8
    by_cases h0 : d = 0
    · subst h0
      have RT := (HTC.out.1 rfl).later D19
      obtain ⟨qf, _, _, _, _, TF9, hmapf, hlensf, hokf⟩ := RT.tens
      have hlc := HC.out rfl
      have toV9 : ∀ X, Below y9.heap.size y9 X → Below V.heap.size V X := fun X h => B9.trans (h.mono B9.size)
      have mkS9 : ∀ X, Below y9.heap.size y9 X → (X.cell? ⟨W.heap.size, 0, none⟩ = some (.bool q0.neg) ∧ X.cell? ⟨W.heap.size, 1, none⟩ = some (.slice e1 q0.num.length k1) ∧ X.cell? ⟨W.heap.size, 2, none⟩ = some (.slice e2 q0.den.length k2)) ∧ X.cell? ⟨g, 0, none⟩ = some (.slice f1 l1 j1) ∧ X.cell? ⟨g, 1, none⟩ = some (.slice f2 l2 j2) := fun X h => by
        obtain ⟨⟨c0, c1, c2⟩, _, _⟩ := mkS _ (toV9 X h)
        obtain ⟨c5, c6, _⟩ := (RG9.later h).two
        exact ⟨⟨c0, c1, c2⟩, c5, c6⟩
      have hlq : qf.length = L.length := by have := congrArg List.length hmapf; simpa using this
      have hisf : ∀ X u aa bb cc dd, Below y9.heap.size y9 X → TensR X u s0 L (5 * 1048576 + 1) aa bb cc dd → Calls Tryz.prog 19 #[u, .agg #[.slice f1 l1 j1, .slice f2 l2 j2]] X fun e w' => e = .returned (.bool true) ∧ Below X.heap.size X w' := fun X u aa bb cc dd h T => by
        have := isT_any T (TF9.later h) (by omega) (by omega) (by omega) (by omega) (fun q hq => ⟨Nat.le_trans (hlensf q hq).1 (by omega), Nat.le_trans (hlensf q hq).2 (by omega)⟩)
        rw [made_is hmapf hokf] at this
        exact this
      have hful : ∀ X v, Below y9.heap.size y9 X → ArgR X v q0.rat (5 * 1048576 + 1) → Calls Tryz.prog 27 #[.slice a0 s0.length c0', v] X fun e w' => ∃ (r : Value) (a' b' : Option Addr) (ca' cb' : Nat), e = .returned r ∧ TensR w' r s0 L (5 * 1048576 + 1) a' ca' b' cb' ∧ Below X.heap.size X w' := fun X v h hv => by
        have := fullT_any (aX X (toV9 X h)) NA.out hv (by omega)
        rw [HLL.out] at this
        exact this
      have F0 : Below y9.heap.size y9 y9.drew := (Below.refl _ y9).drew
      go_wp2_with fail
      refine wp_region_held (S := fun X => (X.cell? ⟨W.heap.size, 0, none⟩ = some (.bool q0.neg) ∧ X.cell? ⟨W.heap.size, 1, none⟩ = some (.slice e1 q0.num.length k1) ∧ X.cell? ⟨W.heap.size, 2, none⟩ = some (.slice e2 q0.den.length k2)) ∧ X.cell? ⟨g, 0, none⟩ = some (.slice f1 l1 j1) ∧ X.cell? ⟨g, 1, none⟩ = some (.slice f2 l2 j2)) (by kernel_rfl) ?_
      have hHeld := mkS9 _ F0
      refine wpAnyH_take (i := 0) (v := ?vr0a0) rfl (by kernel_rfl) (by kernel_rfl) (by kernel_rfl) (fun _ _ _ h => h) (Or.inl ⟨by rfl, ?hr0a0⟩) (by assumption) ?rr0a0
      case hr0a0 =>
        intro w hSw
        try dsimp only at hSw
        go_simp
        try with_reducible rfl
      try simp only [Act.put, List.setIfInBounds_toArray, List.set_cons_zero, List.set_cons_succ]
      refine wpAnyH_take (i := 1) (v := ?vr0a1) rfl (by kernel_rfl) (by kernel_rfl) (by kernel_rfl) (fun _ _ _ h => h) (Or.inl ⟨by rfl, ?hr0a1⟩) (by assumption) ?rr0a1
      case hr0a1 =>
        intro w hSw
        try dsimp only at hSw
        go_simp
        try with_reducible rfl
      try simp only [Act.put, List.setIfInBounds_toArray, List.set_cons_zero, List.set_cons_succ]
      refine wpAnyH_take (i := 2) (v := ?vr0a2) rfl (by kernel_rfl) (by kernel_rfl) (by kernel_rfl) (fun _ _ _ h => h) (Or.inl ⟨by rfl, ?hr0a2⟩) (by assumption) ?rr0a2
      case hr0a2 =>
        intro w hSw
        try dsimp only at hSw
        go_simp
        try with_reducible rfl
      try simp only [Act.put, List.setIfInBounds_toArray, List.set_cons_zero, List.set_cons_succ]
      refine wpAnyH_take (i := 3) (v := ?vr0a3) rfl (by kernel_rfl) (by kernel_rfl) (by kernel_rfl) (fun _ _ _ h => h) (Or.inl ⟨by rfl, ?hr0a3⟩) (by assumption) ?rr0a3
      case hr0a3 =>
        intro w hSw
        try dsimp only at hSw
        go_simp
        try with_reducible rfl
      try simp only [Act.put, List.setIfInBounds_toArray, List.set_cons_zero, List.set_cons_succ]
      refine wpAnyH_take (i := 4) (v := ?vr0a4) rfl (by kernel_rfl) (by kernel_rfl) (by kernel_rfl) (fun _ _ _ h => h) (Or.inl ⟨by rfl, ?hr0a4⟩) (by assumption) ?rr0a4
      case hr0a4 =>
        intro w hSw
        try dsimp only at hSw
        go_simp
        try with_reducible rfl
      try simp only [Act.put, List.setIfInBounds_toArray, List.set_cons_zero, List.set_cons_succ]
      refine wpAnyH_take (i := 7) (v := ?vr0a7) rfl (by kernel_rfl) (by kernel_rfl) (by kernel_rfl) (fun _ _ _ h => h) (Or.inl ⟨by rfl, ?hr0a7⟩) (by assumption) ?rr0a7
      case hr0a7 =>
        intro w hSw
        try dsimp only at hSw
        go_simp
        try with_reducible rfl
      try simp only [Act.put, List.setIfInBounds_toArray, List.set_cons_zero, List.set_cons_succ]
      refine wpAnyH_ready (rs := [5]) (by kernel_rfl) (by simp) ?_
      refine AllReadyH.cons rfl (fun K hK => ?sr1c5) AllReadyH.nil
      go_simp
      refine (ofx _ (toV9 _ F0)).mono ?_
      rintro e u1 ⟨p8, rfl, RR8, hy⟩
      have F1 : Below y9.heap.size y9 u1 := F0.trans (hy.mono F0.size)
      have G1 := hy
      clear hy
      obtain ⟨m8, g1, g2, g3, g4, g5, g6, rfl⟩ := RR8.shape
      go_simp
      refine hK.out _ _ ?kr1c5 (fun hHeld => ?mr1c5)
      case kr1c5 =>
        try dsimp only
        exact mkS9 _ F1
      clear hK K
      try simp only [Act.put, List.setIfInBounds_toArray, List.set_cons_zero, List.set_cons_succ]
      refine wpAnyH_ready (rs := [6]) (by kernel_rfl) (by simp) ?_
      refine AllReadyH.cons rfl (fun K hK => ?sr2c6) AllReadyH.nil
      go_simp
      refine (hful _ _ F1 RR8.arg).mono ?_
      rintro e u2 ⟨r8, _, _, _, _, rfl, TR8, hy⟩
      have F2 : Below y9.heap.size y9 u2 := F1.trans (hy.mono F1.size)
      have G2 := hy
      clear hy
      obtain rfl := TR8.is
      go_simp
      refine hK.out _ _ ?kr2c6 (fun hHeld => ?mr2c6)
      case kr2c6 =>
        try dsimp only
        exact mkS9 _ F2
      clear hK K
      try simp only [Act.put, List.setIfInBounds_toArray, List.set_cons_zero, List.set_cons_succ]
      refine wpAnyH_ready (rs := [8]) (by kernel_rfl) (by simp) ?_
      refine AllReadyH.cons rfl (fun K hK => ?sr3c8) AllReadyH.nil
      go_simp
      refine (hisf _ _ _ _ _ _ F2 TR8).mono ?_
      rintro e u3 ⟨rfl, hy⟩
      have F3 : Below y9.heap.size y9 u3 := F2.trans (hy.mono F2.size)
      have G3 := hy
      clear hy
      go_simp
      refine hK.out _ _ ?kr3c8 (fun hHeld => ?mr3c8)
      case kr3c8 =>
        try dsimp only
        exact mkS9 _ F3
      clear hK K
      try simp only [Act.put, List.setIfInBounds_toArray, List.set_cons_zero, List.set_cons_succ]
      refine wpAnyH_take (i := 9) (v := ?vr3a9) rfl (by kernel_rfl) (by kernel_rfl) (by kernel_rfl) (fun _ _ _ h => h) (Or.inl ⟨by rfl, ?hr3a9⟩) (by assumption) ?rr3a9
      case hr3a9 =>
        intro w hSw
        try dsimp only at hSw
        go_simp
        try with_reducible rfl
      try simp only [Act.put, List.setIfInBounds_toArray, List.set_cons_zero, List.set_cons_succ]
      refine wpAnyH_take (i := 10) (v := ?vr3a10) rfl (by kernel_rfl) (by kernel_rfl) (by kernel_rfl) (fun _ _ _ h => h) (Or.inl ⟨by rfl, ?hr3a10⟩) (by assumption) ?rr3a10
      case hr3a10 =>
        intro w hSw
        try dsimp only at hSw
        go_simp
        try with_reducible rfl
      try simp only [Act.put, List.setIfInBounds_toArray, List.set_cons_zero, List.set_cons_succ]
      refine wpAnyH_ready (rs := [11]) (by kernel_rfl) (by simp) ?_
      refine AllReadyH.cons rfl (fun K hK => ?sr4c11) AllReadyH.nil
      go_simp
      refine (known7_any _).mono ?_
      rintro e u4 ⟨rfl, hy⟩
      have F4 : Below y9.heap.size y9 u4 := F3.trans (hy.mono F3.size)
      have G4 := hy
      clear hy
      go_simp
      refine hK.out _ _ ?kr4c11 (fun hHeld => ?mr4c11)
      case kr4c11 =>
        try dsimp only
        exact mkS9 _ F4
      clear hK K
      try simp only [Act.put, List.setIfInBounds_toArray, List.set_cons_zero, List.set_cons_succ]
      refine wpAnyH_take (i := 12) (v := ?vr4a12) rfl (by kernel_rfl) (by kernel_rfl) (by kernel_rfl) (fun _ _ _ h => h) (Or.inl ⟨by rfl, ?hr4a12⟩) (by assumption) ?rr4a12
      case hr4a12 =>
        intro w hSw
        try dsimp only at hSw
        go_simp
        try with_reducible rfl
      try simp only [Act.put, List.setIfInBounds_toArray, List.set_cons_zero, List.set_cons_succ]
      refine wpAnyH_ready (rs := [13]) (by kernel_rfl) (by simp) ?_
      refine AllReadyH.cons rfl (fun K hK => ?sr4d13) AllReadyH.nil
      go_simp
      refine hK.out _ _ ?kr4d13 (fun hHeld => ?mr4d13)
      case kr4d13 =>
        try dsimp only
        exact mkS9 _ F4
      clear hK K
      try simp only [Act.put, List.setIfInBounds_toArray, List.set_cons_zero, List.set_cons_succ]
      refine wpAnyH_done (by kernel_rfl) ?_ _
      go_wp2
      go_ret
      exact ⟨rfl, hBV.trans ((toV9 _ F4).mono hBV.size)⟩
    · have hn : (d != 0) = true := by simp [h0]
      obtain ⟨rfl, rfl⟩ := HSH.out h0
      obtain ⟨j0, j3, _, _⟩ := RG9.two
      go_wp2_with (first
        | (go_at_call 18; refine (emptyT_any _ _ _ _ _ _ _ rfl).mono ?_; rintro e v1 ⟨rfl, hv1⟩)
        | (go_at_call 14; refine (known7_any _).mono ?_; rintro e v2 ⟨rfl, hv2⟩))
      go_ret
      exact ⟨rfl, hBV.trans ((B9.trans ((hv1.trans (hv2.mono hv1.size)).mono B9.size)).mono hBV.size)⟩
end Go.Proofs.YtnhfjacifajdlaaGreat
