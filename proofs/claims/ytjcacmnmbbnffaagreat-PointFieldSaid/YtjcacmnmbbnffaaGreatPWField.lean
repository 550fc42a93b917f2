/-
  Layer 8's law PointField: tensors of one shape do as rationals do.
-/
import Derived.Test.YtjcacmnmbbnffaaGreatPField0
namespace Go.Proofs.YtjcacmnmbbnffaaGreat
open Go.RowKit
set_option linter.unusedVariables false
set_option linter.unusedSimpArgs false

set_option maxRecDepth 100000 in
set_option maxHeartbeats 40000000 in
theorem pointField_walk {v : Value} {s : List Int} {qs : List Q3} {a b : Option Addr} {ca cb : Nat} {q1 q2 : List Q3} {a1 a2 : Option Addr} {ca1 ca2 : Nat} (w : World) (T : TensQ w v s qs a ca b cb) (ls : s.length ≤ 17592186044416) (E1 : RowA RawQ w (.slice a1 q1.length ca1) q1 a1 ca1) (E2 : RowA RawQ w (.slice a2 q2.length ca2) q2 a2 ca2) :
    Calls Tryz.prog 9 #[v, .slice a1 q1.length ca1, .slice a2 q2.length ca2] w fun e W' => e = .returned (.bool true) ∧ Below w.heap.size w W' := by
  have HT := Lib.hid T
  have HE1 := Lib.hid E1
  have HE2 := Lib.hid E2
  obtain rfl := T.is
  obtain ⟨n1, hn1⟩ : ∃ n, q1.length = n := ⟨_, rfl⟩
  obtain ⟨n2, hn2⟩ : ∃ n, q2.length = n := ⟨_, rfl⟩
  have HN1 := Lib.hid hn1
  have HN2 := Lib.hid hn2
  rw [hn1, hn2]
  clear hn1 hn2 E1 E2
  obtain ⟨W, hW⟩ : ∃ W, (w.alloc (.cells #[.slice a s.length ca, .slice b qs.length cb] 26)) = W := ⟨_, rfl⟩
  have R0 : Row W (w.heap.size) 26 #[.slice a s.length ca, .slice b qs.length cb] := by rw [← hW]; have h := Row.new w 26 #[.slice a s.length ca, .slice b qs.length cb]; (try simp only [World.size_alloc] at h); exact h
  have hBW : Below w.heap.size w W := by rw [← hW]; exact ((Below.refl _ _).alloc (by (try simp) <;> omega) _)
  have hsW : W.heap.size = w.heap.size + 1 := by rw [← hW]; simp
  have hfew := few_any (HT.out.later hBW)
  obtain ⟨t, ht⟩ : ∃ t, fewB qs = t := ⟨_, rfl⟩
  rw [ht] at hfew
  have HF := Lib.hid ht
  obtain ⟨x0, x1, _, _⟩ := R0.two
  clear T ht
  cases t with
  | false =>
    go_enter Tryz.func9, Tryz.ntmps9
    (try rw [hW])
    go_wp2_with fail
    refine (hfew).mono ?_
    rintro e y1 ⟨rfl, hb1⟩
    have hk1 := hBW.trans (hb1.mono (by omega))
    go_wp2_with fail
    refine (known8_any _).mono ?_
    rintro e y9 ⟨rfl, hb9⟩
    go_wp2_with fail
    go_ret
    exact ⟨rfl, hk1.trans (hb9.mono hk1.size)⟩
  | true =>
    obtain ⟨hq64, hl6⟩ := fewB_true HF.out
    have HL := Lib.hid hl6
    have tX := fun (X : World) (h : Below W.heap.size W X) => HT.out.later (hBW.trans (h.mono (by omega)))
    have HX := Lib.hid tX
    have hmay := fun (X : World) (hX : Below W.heap.size W X) => mayT_any (tX X hX) (by omega) (fun p hp => by have := HL.out p hp; omega)
    obtain ⟨m, hm⟩ : ∃ m, mayT s qs = m := ⟨_, rfl⟩
    rw [hm] at hmay
    have HM := Lib.hid hm
    clear tX hl6 hm
    by_cases h0 : m = 0
    case neg =>
      have hne : (m != 0) = true := by simp [h0]
      go_enter Tryz.func9, Tryz.ntmps9
      (try rw [hW])
      go_wp2_with fail
      refine (hfew).mono ?_
      rintro e y1 ⟨rfl, hb1⟩
      have hk1 := hBW.trans (hb1.mono (by omega))
      clear x0 x1
      obtain ⟨x0, x1, _, _⟩ := (R0.later hb1).two
      go_wp2_with fail
      refine (hmay _ hb1).mono ?_
      rintro e y2 ⟨rfl, hb2⟩
      have hk2 := hk1.trans (hb2.mono hk1.size)
      go_wp2_with fail
      refine (known8_any _).mono ?_
      rintro e y9 ⟨rfl, hb9⟩
      go_wp2_with fail
      go_ret
      exact ⟨rfl, hk2.trans (hb9.mono hk2.size)⟩
    case pos =>
      subst h0
      by_cases c1 : n1 = 0
      case pos =>
        have g1 : ((n1 : Int) == 0) = true := by simp [c1]
        clear c1
        go_enter Tryz.func9, Tryz.ntmps9
        (try rw [hW])
        go_wp2_with fail
        refine (hfew).mono ?_
        rintro e y1 ⟨rfl, hb1⟩
        have hk1 := hBW.trans (hb1.mono (by omega))
        clear x0 x1
        obtain ⟨x0, x1, _, _⟩ := (R0.later hb1).two
        go_wp2_with fail
        refine (hmay _ hb1).mono ?_
        rintro e y2 ⟨rfl, hb2⟩
        have hk2 := hk1.trans (hb2.mono hk1.size)
        go_wp2_with fail
        refine (known8_any _).mono ?_
        rintro e y9 ⟨rfl, hb9⟩
        go_wp2_with fail
        go_ret
        exact ⟨rfl, hk2.trans (hb9.mono hk2.size)⟩
      case neg =>
        have g1 : ((n1 : Int) == 0) = false := by rw [beq_eq_false_iff_ne]; omega
        by_cases c2 : n2 = 0
        case pos =>
          have g2 : ((n2 : Int) == 0) = true := by simp [c2]
          clear c2
          go_enter Tryz.func9, Tryz.ntmps9
          (try rw [hW])
          go_wp2_with fail
          refine (hfew).mono ?_
          rintro e y1 ⟨rfl, hb1⟩
          have hk1 := hBW.trans (hb1.mono (by omega))
          clear x0 x1
          obtain ⟨x0, x1, _, _⟩ := (R0.later hb1).two
          go_wp2_with fail
          refine (hmay _ hb1).mono ?_
          rintro e y2 ⟨rfl, hb2⟩
          have hk2 := hk1.trans (hb2.mono hk1.size)
          go_wp2_with fail
          refine (known8_any _).mono ?_
          rintro e y9 ⟨rfl, hb9⟩
          go_wp2_with fail
          go_ret
          exact ⟨rfl, hk2.trans (hb9.mono hk2.size)⟩
        case neg =>
          have g2 : ((n2 : Int) == 0) = false := by rw [beq_eq_false_iff_ne]; omega
          by_cases c3 : 64 < n1
          case pos =>
            have g3 : (n1 : Int) > 64 := by omega
            go_enter Tryz.func9, Tryz.ntmps9
            (try rw [hW])
            go_wp2_with fail
            refine (hfew).mono ?_
            rintro e y1 ⟨rfl, hb1⟩
            have hk1 := hBW.trans (hb1.mono (by omega))
            clear x0 x1
            obtain ⟨x0, x1, _, _⟩ := (R0.later hb1).two
            go_wp2_with fail
            refine (hmay _ hb1).mono ?_
            rintro e y2 ⟨rfl, hb2⟩
            have hk2 := hk1.trans (hb2.mono hk1.size)
            go_wp2_with fail
            refine (known8_any _).mono ?_
            rintro e y9 ⟨rfl, hb9⟩
            go_wp2_with fail
            go_ret
            exact ⟨rfl, hk2.trans (hb9.mono hk2.size)⟩
          case neg =>
            have g3 : ¬ (n1 : Int) > 64 := by omega
            by_cases c4 : 64 < n2
            case pos =>
              have g4 : (n2 : Int) > 64 := by omega
              go_enter Tryz.func9, Tryz.ntmps9
              (try rw [hW])
              go_wp2_with fail
              refine (hfew).mono ?_
              rintro e y1 ⟨rfl, hb1⟩
              have hk1 := hBW.trans (hb1.mono (by omega))
              clear x0 x1
              obtain ⟨x0, x1, _, _⟩ := (R0.later hb1).two
              go_wp2_with fail
              refine (hmay _ hb1).mono ?_
              rintro e y2 ⟨rfl, hb2⟩
              have hk2 := hk1.trans (hb2.mono hk1.size)
              go_wp2_with fail
              refine (known8_any _).mono ?_
              rintro e y9 ⟨rfl, hb9⟩
              go_wp2_with fail
              go_ret
              exact ⟨rfl, hk2.trans (hb9.mono hk2.size)⟩
            case neg =>
              have g4 : ¬ (n2 : Int) > 64 := by omega
              go_enter Tryz.func9, Tryz.ntmps9
              (try rw [hW])
              go_wp2_with fail
              refine (hfew).mono ?_
              rintro e y1 ⟨rfl, hb1⟩
              have hk1 := hBW.trans (hb1.mono (by omega))
              clear x0 x1
              obtain ⟨x0, x1, _, _⟩ := (R0.later hb1).two
              go_wp2_with fail
              refine (hmay _ hb1).mono ?_
              rintro e y2 ⟨rfl, hb2⟩
              have hk2 := hk1.trans (hb2.mono hk1.size)
              have C2 : Below W.heap.size W y2 := hb1.trans (hb2.mono hb1.size)
              have mk2 : ∀ X, Below W.heap.size W X → X.cell? ⟨w.heap.size, 0, none⟩ = some (.slice a s.length ca) ∧ X.cell? ⟨w.heap.size, 1, none⟩ = some (.slice b qs.length cb) := fun X h => by
                obtain ⟨u0, u1, _⟩ := (R0.later h).two
                exact ⟨u0, u1⟩
              have mkS : ∀ X, Below y2.heap.size y2 X → X.cell? ⟨w.heap.size, 0, none⟩ = some (.slice a s.length ca) ∧ X.cell? ⟨w.heap.size, 1, none⟩ = some (.slice b qs.length cb) := fun X h => mk2 X (C2.trans (h.mono C2.size))
              have MKS := Lib.hid mkS
              have MK2 := Lib.hid mk2
              clear x0 x1 hb1 hb2 hk1 hmay hfew mkS mk2
              obtain ⟨x0, x1⟩ := MK2.out _ C2
              go_upto_region 3 with fail
              go_cut [7, 8] (fun sa sb wx => ∃ (gy gz : Nat), sa = .pointer (some ⟨gy, 0, none⟩) ∧ sb = .pointer (some ⟨gz, 0, none⟩) ∧ gy ≠ gz ∧ y2.heap.size ≤ gy ∧ y2.heap.size ≤ gz ∧ Row wx gy 26 #[.slice a s.length ca, .slice none 0 0] ∧ Row wx gz 26 #[.slice a s.length ca, .slice none 0 0] ∧ Below y2.heap.size y2 wx)
              case first =>
                refine wp_region_held_drew (S := fun X => X.cell? ⟨w.heap.size, 0, none⟩ = some (.slice a s.length ca) ∧ X.cell? ⟨w.heap.size, 1, none⟩ = some (.slice b qs.length cb)) (by kernel_rfl) (MKS.out _ (((Below.refl y2.heap.size y2).drew))) (fun hHeld => ?_)
                refine todo [0, 1, 2, 3, 4, 5] ?_
                iterate 6
                 refine todoH (v := ?_) rfl (by kernel_rfl) (fun _ _ _ h => h) (by assumption) (Or.inl ⟨by rfl, ?_⟩) ?_
                 rotate_left
                 · intro w hSw; (try dsimp only at hSw); go_simp; (try with_reducible rfl)
                 try simp only [Act.put, List.getElem_toArray, List.getElem_cons_succ, List.getElem_cons_zero, List.setIfInBounds_toArray, List.set_cons_zero, List.set_cons_succ]
                refine todone ?_
                obtain ⟨X3_0, hV0⟩ : ∃ Y, y2.drew = Y := ⟨_, rfl⟩
                rw [hV0] at hHeld
                rw [hV0]
                have hb0 : Below y2.heap.size y2 X3_0 := by rw [← hV0]; exact (Below.refl _ _).drew
                have hs0 : y2.heap.size ≤ X3_0.heap.size := hb0.size
                clear hV0
                refine wpAnyH_ready (rs := [6, 7]) (by kernel_rfl) (by simp) ?_
                refine AllReadyH.cons rfl (fun K hK => ?o1007_6) (AllReadyH.cons rfl (fun K hK => ?o1007_7) AllReadyH.nil)
                case o1007_6 =>
                  go_simp
                  refine afterAlloc (fun X3_1008 hc1008 hl1008 zn1008 => ?_)
                  have hbX3_1008 : Below y2.heap.size y2 X3_1008 := hb0.trans (hc1008.mono hs0)
                  have hsX3_1008 : y2.heap.size ≤ X3_1008.heap.size := hbX3_1008.size
                  refine hK.out _ _ (MKS.out _ (hbX3_1008)) (fun hHeld2 => ?_)
                  clear hK K hHeld
                  have hHeld := hHeld2
                  clear hHeld2
                  try simp only [Act.put, List.setIfInBounds_toArray, List.set_cons_zero, List.set_cons_succ]
                  refine wpAnyH_ready (rs := [7]) (by kernel_rfl) (by simp) ?_
                  refine AllReadyH.cons rfl (fun K hK => ?o1009_7) AllReadyH.nil
                  go_simp
                  refine afterAlloc (fun X3_1010 hc1010 hl1010 zn1010 => ?_)
                  have hbX3_1010 : Below y2.heap.size y2 X3_1010 := hbX3_1008.trans (hc1010.mono hsX3_1008)
                  have hsX3_1010 : y2.heap.size ≤ X3_1010.heap.size := hbX3_1010.size
                  have zAX3_1010 := zn1008.later hc1010
                  have ltAX3_1010 := zAX3_1010.lt
                  refine hK.out _ _ (MKS.out _ (hbX3_1010)) (fun hHeld2 => ?_)
                  clear hK K hHeld
                  have hHeld := hHeld2
                  clear hHeld2
                  try simp only [Act.put, List.setIfInBounds_toArray, List.set_cons_zero, List.set_cons_succ]
                  obtain ⟨d1011_0, d1011_1, d1011_2, d1011_3⟩ := zAX3_1010.two
                  refine wpAnyH_ready (rs := [8]) (by kernel_rfl) (by simp) ?_
                  refine AllReadyH.cons rfl (fun K hK => ?s1011) AllReadyH.nil
                  go_simp
                  refine afterSet2 zAX3_1010 (fun X3_1011 o1011 zs1011 => ?_)
                  clear d1011_0 d1011_1 d1011_2 d1011_3
                  have hbX3_1011 : Below y2.heap.size y2 X3_1011 := hbX3_1010.trans (o1011.below hs0)
                  have hsX3_1011 : y2.heap.size ≤ X3_1011.heap.size := hbX3_1011.size
                  have zBX3_1011 := zn1010.only o1011 (by omega)
                  refine hK.out _ _ (MKS.out _ (hbX3_1011)) (fun hHeld2 => ?_)
                  clear hK K hHeld
                  have hHeld := hHeld2
                  clear hHeld2
                  try simp only [Act.put, List.setIfInBounds_toArray, List.set_cons_zero, List.set_cons_succ]
                  obtain ⟨d1012_0, d1012_1, d1012_2, d1012_3⟩ := zBX3_1011.two
                  refine wpAnyH_ready (rs := [9]) (by kernel_rfl) (by simp) ?_
                  refine AllReadyH.cons rfl (fun K hK => ?s1012) AllReadyH.nil
                  go_simp
                  refine afterSet2 zBX3_1011 (fun X3_1012 o1012 zs1012 => ?_)
                  clear d1012_0 d1012_1 d1012_2 d1012_3
                  have hbX3_1012 : Below y2.heap.size y2 X3_1012 := hbX3_1011.trans (o1012.below hsX3_1008)
                  have hsX3_1012 : y2.heap.size ≤ X3_1012.heap.size := hbX3_1012.size
                  have zAX3_1012 := zs1011.only o1012 (by omega)
                  refine hK.out _ _ (MKS.out _ (hbX3_1012)) (fun hHeld2 => ?_)
                  clear hK K hHeld
                  have hHeld := hHeld2
                  clear hHeld2
                  try simp only [Act.put, List.setIfInBounds_toArray, List.set_cons_zero, List.set_cons_succ]
                  refine wpAnyH_done (by kernel_rfl) ?_ _
                  (try dsimp only [Straight])
                  go_wp2_with fail
                  go_meet
                  exact ⟨_, _, rfl, rfl, by omega, hs0, hsX3_1008, zAX3_1012, zs1012, hbX3_1012⟩
                case o1007_7 =>
                  go_simp
                  refine afterAlloc (fun X3_1013 hc1013 hl1013 zn1013 => ?_)
                  have hbX3_1013 : Below y2.heap.size y2 X3_1013 := hb0.trans (hc1013.mono hs0)
                  have hsX3_1013 : y2.heap.size ≤ X3_1013.heap.size := hbX3_1013.size
                  refine hK.out _ _ (MKS.out _ (hbX3_1013)) (fun hHeld2 => ?_)
                  clear hK K hHeld
                  have hHeld := hHeld2
                  clear hHeld2
                  try simp only [Act.put, List.setIfInBounds_toArray, List.set_cons_zero, List.set_cons_succ]
                  refine wpAnyH_ready (rs := [6]) (by kernel_rfl) (by simp) ?_
                  refine AllReadyH.cons rfl (fun K hK => ?o1014_6) AllReadyH.nil
                  go_simp
                  refine afterAlloc (fun X3_1015 hc1015 hl1015 zn1015 => ?_)
                  have hbX3_1015 : Below y2.heap.size y2 X3_1015 := hbX3_1013.trans (hc1015.mono hsX3_1013)
                  have hsX3_1015 : y2.heap.size ≤ X3_1015.heap.size := hbX3_1015.size
                  have zBX3_1015 := zn1013.later hc1015
                  have ltBX3_1015 := zBX3_1015.lt
                  refine hK.out _ _ (MKS.out _ (hbX3_1015)) (fun hHeld2 => ?_)
                  clear hK K hHeld
                  have hHeld := hHeld2
                  clear hHeld2
                  try simp only [Act.put, List.setIfInBounds_toArray, List.set_cons_zero, List.set_cons_succ]
                  obtain ⟨d1016_0, d1016_1, d1016_2, d1016_3⟩ := zn1015.two
                  refine wpAnyH_ready (rs := [8]) (by kernel_rfl) (by simp) ?_
                  refine AllReadyH.cons rfl (fun K hK => ?s1016) AllReadyH.nil
                  go_simp
                  refine afterSet2 zn1015 (fun X3_1016 o1016 zs1016 => ?_)
                  clear d1016_0 d1016_1 d1016_2 d1016_3
                  have hbX3_1016 : Below y2.heap.size y2 X3_1016 := hbX3_1015.trans (o1016.below hsX3_1013)
                  have hsX3_1016 : y2.heap.size ≤ X3_1016.heap.size := hbX3_1016.size
                  have zBX3_1016 := zBX3_1015.only o1016 (by omega)
                  refine hK.out _ _ (MKS.out _ (hbX3_1016)) (fun hHeld2 => ?_)
                  clear hK K hHeld
                  have hHeld := hHeld2
                  clear hHeld2
                  try simp only [Act.put, List.setIfInBounds_toArray, List.set_cons_zero, List.set_cons_succ]
                  obtain ⟨d1017_0, d1017_1, d1017_2, d1017_3⟩ := zBX3_1016.two
                  refine wpAnyH_ready (rs := [9]) (by kernel_rfl) (by simp) ?_
                  refine AllReadyH.cons rfl (fun K hK => ?s1017) AllReadyH.nil
                  go_simp
                  refine afterSet2 zBX3_1016 (fun X3_1017 o1017 zs1017 => ?_)
                  clear d1017_0 d1017_1 d1017_2 d1017_3
                  have hbX3_1017 : Below y2.heap.size y2 X3_1017 := hbX3_1016.trans (o1017.below hs0)
                  have hsX3_1017 : y2.heap.size ≤ X3_1017.heap.size := hbX3_1017.size
                  have zAX3_1017 := zs1016.only o1017 (by omega)
                  refine hK.out _ _ (MKS.out _ (hbX3_1017)) (fun hHeld2 => ?_)
                  clear hK K hHeld
                  have hHeld := hHeld2
                  clear hHeld2
                  try simp only [Act.put, List.setIfInBounds_toArray, List.set_cons_zero, List.set_cons_succ]
                  refine wpAnyH_done (by kernel_rfl) ?_ _
                  (try dsimp only [Straight])
                  go_wp2_with fail
                  go_meet
                  exact ⟨_, _, rfl, rfl, by omega, hsX3_1013, hs0, zAX3_1017, zs1017, hbX3_1017⟩
              case rest =>
                obtain ⟨gy, gz, rfl, rfl, hyz, hy2, hz2, RY, RZ, B3⟩ := hcut
                obtain ⟨y3, hy3⟩ : ∃ y, wc = y := ⟨_, rfl⟩
                rw [hy3] at RY RZ B3 ⊢
                clear hy3 x0 x1
                obtain ⟨x0, x1⟩ := MKS.out _ B3
                have HRY := Lib.hid RY
                have HRZ := Lib.hid RZ
                have HB3 := Lib.hid B3
                obtain ⟨LY, hLY⟩ : ∃ L, turnQ q1 qs.length = L := ⟨_, rfl⟩
                obtain ⟨LZ, hLZ⟩ : ∃ L, turnQ q2 qs.length = L := ⟨_, rfl⟩
                have lY : LY.length = qs.length := by rw [← hLY]; exact turnQ_length _ _
                have lZ : LZ.length = qs.length := by rw [← hLZ]; exact turnQ_length _ _
                have HLY := Lib.hid hLY
                have HLZ := Lib.hid hLZ
                have HlY := Lib.hid lY
                have HlZ := Lib.hid lZ
                clear RY RZ B3 hLY hLZ lY lZ
                obtain ⟨i0, hi, hz0, hz1, hz2'⟩ := info_parts infoQ
                go_wp2_with fail
                clear x0 x1
                go_loopw [9, 10, 11] (fun i _ _ wr => ∃ (k : Nat) (vy vz : Value), i = .int .i64 (k : Int) ∧ k ≤ qs.length ∧ Row wr gy 26 #[.slice a s.length ca, vy] ∧ Row wr gz 26 #[.slice a s.length ca, vz] ∧ TwoW y2.heap.size 31 wr vy vz (LY.take k) (LZ.take k) ∧ Below y2.heap.size y2 wr) (fun i _ _ _ => qs.length - (intOf i).toNat)
                case atStart => exact ⟨0, _, _, rfl, Nat.zero_le _, HRY.out, HRZ.out, ⟨RowO.nil _ _ _ _, RowO.nil _ _ _ _, fun g h => by cases h⟩, HB3.out⟩
                case round =>
                  obtain ⟨k, vy, vz, rfl, hk, ry, rz, TW, hb⟩ := hrel
                  have HTW := Lib.hid TW
                  have HRy := Lib.hid ry
                  have HRz := Lib.hid rz
                  obtain ⟨x0, x1⟩ := MKS.out _ hb
                  have CW : Below W.heap.size W wr := C2.trans (hb.mono C2.size)
                  have hkw : Below w.heap.size w wr := hBW.trans (CW.mono (by omega))
                  have hszb := hb.size
                  by_cases hlt : k < qs.length
                  · have hltI : (k : Int) < (qs.length : Int) := by omega
                    obtain ⟨i1, hi1⟩ : ∃ j, k % n1 = j := ⟨_, rfl⟩
                    have hlt1 : i1 < n1 := by rw [← hi1]; exact Nat.mod_lt _ (by omega)
                    have hm1 : Int.tmod (k : Int) (n1 : Int) = (i1 : Int) := by rw [Int.tmod_eq_emod_of_nonneg (by omega), ← hi1]; omega
                    obtain ⟨bb1, o1, t10, t11, t12, p1, hbo1, hqk1, s10, s11, s12, hraw1⟩ := HE1.out.at (i := i1) (by rw [HN1.out]; exact hlt1)
                    subst hbo1
                    obtain ⟨e1, f1, d1, h1, eq1, _, _, _, _⟩ := id hraw1
                    simp only [Value.agg.injEq, Array.mk.injEq, List.cons.injEq, and_true] at eq1
                    obtain ⟨rfl, rfl, rfl⟩ := eq1
                    have HQK1 := Lib.hid (show q1[k % q1.length]? = some p1 by rw [HN1.out, hi1]; exact hqk1)
                    have HR1 := Lib.hid hraw1
                    have bl1 : bb1 < w.heap.size := World.block_lt_of_cell? _ _ s10
                    have m1X : ∀ X, Below w.heap.size w X → X.cell? ⟨bb1, o1 + i1 * 3, none⟩ = some (.bool p1.neg) ∧ X.cell? ⟨bb1, o1 + i1 * 3 + 1, none⟩ = some (.slice e1 p1.num.length d1) ∧ X.cell? ⟨bb1, o1 + i1 * 3 + 2, none⟩ = some (.slice f1 p1.den.length h1) := fun X h => ⟨(h.cell (World.block_lt_of_cell? _ _ s10)).trans s10, (h.cell (World.block_lt_of_cell? _ _ s11)).trans s11, (h.cell (World.block_lt_of_cell? _ _ s12)).trans s12⟩
                    have MX1 := Lib.hid m1X
                    clear m1X s10 s11 s12 hraw1 hqk1 hi1
                    obtain ⟨i2, hi2⟩ : ∃ j, k % n2 = j := ⟨_, rfl⟩
                    have hlt2 : i2 < n2 := by rw [← hi2]; exact Nat.mod_lt _ (by omega)
                    have hm2 : Int.tmod (k : Int) (n2 : Int) = (i2 : Int) := by rw [Int.tmod_eq_emod_of_nonneg (by omega), ← hi2]; omega
                    obtain ⟨bb2, o2, t20, t21, t22, p2, hbo2, hqk2, s20, s21, s22, hraw2⟩ := HE2.out.at (i := i2) (by rw [HN2.out]; exact hlt2)
                    subst hbo2
                    obtain ⟨e2, f2, d2, h2, eq2, _, _, _, _⟩ := id hraw2
                    simp only [Value.agg.injEq, Array.mk.injEq, List.cons.injEq, and_true] at eq2
                    obtain ⟨rfl, rfl, rfl⟩ := eq2
                    have HQK2 := Lib.hid (show q2[k % q2.length]? = some p2 by rw [HN2.out, hi2]; exact hqk2)
                    have HR2 := Lib.hid hraw2
                    have bl2 : bb2 < w.heap.size := World.block_lt_of_cell? _ _ s20
                    have m2X : ∀ X, Below w.heap.size w X → X.cell? ⟨bb2, o2 + i2 * 3, none⟩ = some (.bool p2.neg) ∧ X.cell? ⟨bb2, o2 + i2 * 3 + 1, none⟩ = some (.slice e2 p2.num.length d2) ∧ X.cell? ⟨bb2, o2 + i2 * 3 + 2, none⟩ = some (.slice f2 p2.den.length h2) := fun X h => ⟨(h.cell (World.block_lt_of_cell? _ _ s20)).trans s20, (h.cell (World.block_lt_of_cell? _ _ s21)).trans s21, (h.cell (World.block_lt_of_cell? _ _ s22)).trans s22⟩
                    have MX2 := Lib.hid m2X
                    clear m2X s20 s21 s22 hraw2 hqk2 hi2
                    have mk7 : ∀ X, Below wr.heap.size wr X → (X.cell? ⟨bb1, o1 + i1 * 3, none⟩ = some (.bool p1.neg) ∧ X.cell? ⟨bb1, o1 + i1 * 3 + 1, none⟩ = some (.slice e1 p1.num.length d1) ∧ X.cell? ⟨bb1, o1 + i1 * 3 + 2, none⟩ = some (.slice f1 p1.den.length h1)) ∧ X.cell? ⟨bb2, o2 + i2 * 3, none⟩ = some (.bool p2.neg) ∧ X.cell? ⟨bb2, o2 + i2 * 3 + 1, none⟩ = some (.slice e2 p2.num.length d2) ∧ X.cell? ⟨bb2, o2 + i2 * 3 + 2, none⟩ = some (.slice f2 p2.den.length h2) := fun X h => ⟨MX1.out X (hkw.trans (h.mono hkw.size)), MX2.out X (hkw.trans (h.mono hkw.size))⟩
                    have MK7 := Lib.hid mk7
                    clear mk7 TW ry rz
                    go_upto_region 7 with fail
                    go_cut [10, 11] (fun sa sb wx => ∃ (gr gs : Nat), sa = .pointer (some ⟨gr, 0, none⟩) ∧ sb = .pointer (some ⟨gs, 0, none⟩) ∧ gr ≠ gs ∧ wr.heap.size ≤ gr ∧ wr.heap.size ≤ gs ∧ Row wx gr 51 #[.bool p1.neg, .slice e1 p1.num.length d1, .slice f1 p1.den.length h1] ∧ Row wx gs 51 #[.bool p2.neg, .slice e2 p2.num.length d2, .slice f2 p2.den.length h2] ∧ Below wr.heap.size wr wx)
                    case first =>
                      refine wp_region_held_drew (S := fun X => (X.cell? ⟨bb1, o1 + i1 * 3, none⟩ = some (.bool p1.neg) ∧ X.cell? ⟨bb1, o1 + i1 * 3 + 1, none⟩ = some (.slice e1 p1.num.length d1) ∧ X.cell? ⟨bb1, o1 + i1 * 3 + 2, none⟩ = some (.slice f1 p1.den.length h1)) ∧ X.cell? ⟨bb2, o2 + i2 * 3, none⟩ = some (.bool p2.neg) ∧ X.cell? ⟨bb2, o2 + i2 * 3 + 1, none⟩ = some (.slice e2 p2.num.length d2) ∧ X.cell? ⟨bb2, o2 + i2 * 3 + 2, none⟩ = some (.slice f2 p2.den.length h2)) (by kernel_rfl) (MK7.out _ (((Below.refl wr.heap.size wr).drew))) (fun hHeld => ?_)
                      refine todo [0, 1, 2, 3, 4, 5, 6, 7, 8, 9, 10, 11, 12, 13] ?_
                      iterate 14
                       refine todoH (v := ?_) rfl (by kernel_rfl) (fun _ _ _ h => h) (by assumption) (Or.inl ⟨by rfl, ?_⟩) ?_
                       rotate_left
                       · intro w hSw; (try dsimp only at hSw); go_simp; (try with_reducible rfl)
                       try simp only [Act.put, List.getElem_toArray, List.getElem_cons_succ, List.getElem_cons_zero, List.setIfInBounds_toArray, List.set_cons_zero, List.set_cons_succ]
                      refine todone ?_
                      obtain ⟨X7_0, hV0⟩ : ∃ Y, wr.drew = Y := ⟨_, rfl⟩
                      rw [hV0] at hHeld
                      rw [hV0]
                      have hb0 : Below wr.heap.size wr X7_0 := by rw [← hV0]; exact (Below.refl _ _).drew
                      have hs0 : wr.heap.size ≤ X7_0.heap.size := hb0.size
                      clear hV0
                      refine wpAnyH_ready (rs := [14, 15]) (by kernel_rfl) (by simp) ?_
                      refine AllReadyH.cons rfl (fun K hK => ?o2015_14) (AllReadyH.cons rfl (fun K hK => ?o2015_15) AllReadyH.nil)
                      case o2015_14 =>
                        go_simp
                        refine afterAlloc (fun X7_2016 hc2016 hl2016 zn2016 => ?_)
                        have hbX7_2016 : Below wr.heap.size wr X7_2016 := hb0.trans (hc2016.mono hs0)
                        have hsX7_2016 : wr.heap.size ≤ X7_2016.heap.size := hbX7_2016.size
                        refine hK.out _ _ (MK7.out _ (hbX7_2016)) (fun hHeld2 => ?_)
                        clear hK K hHeld
                        have hHeld := hHeld2
                        clear hHeld2
                        try simp only [Act.put, List.setIfInBounds_toArray, List.set_cons_zero, List.set_cons_succ]
                        refine wpAnyH_ready (rs := [15]) (by kernel_rfl) (by simp) ?_
                        refine AllReadyH.cons rfl (fun K hK => ?o2017_15) AllReadyH.nil
                        go_simp
                        refine afterAlloc (fun X7_2018 hc2018 hl2018 zn2018 => ?_)
                        have hbX7_2018 : Below wr.heap.size wr X7_2018 := hbX7_2016.trans (hc2018.mono hsX7_2016)
                        have hsX7_2018 : wr.heap.size ≤ X7_2018.heap.size := hbX7_2018.size
                        have zAX7_2018 := zn2016.later hc2018
                        have ltAX7_2018 := zAX7_2018.lt
                        refine hK.out _ _ (MK7.out _ (hbX7_2018)) (fun hHeld2 => ?_)
                        clear hK K hHeld
                        have hHeld := hHeld2
                        clear hHeld2
                        try simp only [Act.put, List.setIfInBounds_toArray, List.set_cons_zero, List.set_cons_succ]
                        obtain ⟨d2019_0, d2019_1, d2019_2, d2019_3, d2019_4, d2019_5⟩ := zAX7_2018.three
                        refine wpAnyH_ready (rs := [16]) (by kernel_rfl) (by simp) ?_
                        refine AllReadyH.cons rfl (fun K hK => ?s2019) AllReadyH.nil
                        go_simp
                        refine afterSet3 zAX7_2018 (fun X7_2019 o2019 zs2019 => ?_)
                        clear d2019_0 d2019_1 d2019_2 d2019_3 d2019_4 d2019_5
                        have hbX7_2019 : Below wr.heap.size wr X7_2019 := hbX7_2018.trans (o2019.below hs0)
                        have hsX7_2019 : wr.heap.size ≤ X7_2019.heap.size := hbX7_2019.size
                        have zBX7_2019 := zn2018.only o2019 (by omega)
                        refine hK.out _ _ (MK7.out _ (hbX7_2019)) (fun hHeld2 => ?_)
                        clear hK K hHeld
                        have hHeld := hHeld2
                        clear hHeld2
                        try simp only [Act.put, List.setIfInBounds_toArray, List.set_cons_zero, List.set_cons_succ]
                        obtain ⟨d2020_0, d2020_1, d2020_2, d2020_3, d2020_4, d2020_5⟩ := zBX7_2019.three
                        refine wpAnyH_ready (rs := [17]) (by kernel_rfl) (by simp) ?_
                        refine AllReadyH.cons rfl (fun K hK => ?s2020) AllReadyH.nil
                        go_simp
                        refine afterSet3 zBX7_2019 (fun X7_2020 o2020 zs2020 => ?_)
                        clear d2020_0 d2020_1 d2020_2 d2020_3 d2020_4 d2020_5
                        have hbX7_2020 : Below wr.heap.size wr X7_2020 := hbX7_2019.trans (o2020.below hsX7_2016)
                        have hsX7_2020 : wr.heap.size ≤ X7_2020.heap.size := hbX7_2020.size
                        have zAX7_2020 := zs2019.only o2020 (by omega)
                        refine hK.out _ _ (MK7.out _ (hbX7_2020)) (fun hHeld2 => ?_)
                        clear hK K hHeld
                        have hHeld := hHeld2
                        clear hHeld2
                        try simp only [Act.put, List.setIfInBounds_toArray, List.set_cons_zero, List.set_cons_succ]
                        refine wpAnyH_done (by kernel_rfl) ?_ _
                        (try dsimp only [Straight])
                        go_wp2_with fail
                        go_meet
                        exact ⟨_, _, rfl, rfl, by omega, hs0, hsX7_2016, zAX7_2020, zs2020, hbX7_2020⟩
                      case o2015_15 =>
                        go_simp
                        refine afterAlloc (fun X7_2021 hc2021 hl2021 zn2021 => ?_)
                        have hbX7_2021 : Below wr.heap.size wr X7_2021 := hb0.trans (hc2021.mono hs0)
                        have hsX7_2021 : wr.heap.size ≤ X7_2021.heap.size := hbX7_2021.size
                        refine hK.out _ _ (MK7.out _ (hbX7_2021)) (fun hHeld2 => ?_)
                        clear hK K hHeld
                        have hHeld := hHeld2
                        clear hHeld2
                        try simp only [Act.put, List.setIfInBounds_toArray, List.set_cons_zero, List.set_cons_succ]
                        refine wpAnyH_ready (rs := [14]) (by kernel_rfl) (by simp) ?_
                        refine AllReadyH.cons rfl (fun K hK => ?o2022_14) AllReadyH.nil
                        go_simp
                        refine afterAlloc (fun X7_2023 hc2023 hl2023 zn2023 => ?_)
                        have hbX7_2023 : Below wr.heap.size wr X7_2023 := hbX7_2021.trans (hc2023.mono hsX7_2021)
                        have hsX7_2023 : wr.heap.size ≤ X7_2023.heap.size := hbX7_2023.size
                        have zBX7_2023 := zn2021.later hc2023
                        have ltBX7_2023 := zBX7_2023.lt
                        refine hK.out _ _ (MK7.out _ (hbX7_2023)) (fun hHeld2 => ?_)
                        clear hK K hHeld
                        have hHeld := hHeld2
                        clear hHeld2
                        try simp only [Act.put, List.setIfInBounds_toArray, List.set_cons_zero, List.set_cons_succ]
                        obtain ⟨d2024_0, d2024_1, d2024_2, d2024_3, d2024_4, d2024_5⟩ := zn2023.three
                        refine wpAnyH_ready (rs := [16]) (by kernel_rfl) (by simp) ?_
                        refine AllReadyH.cons rfl (fun K hK => ?s2024) AllReadyH.nil
                        go_simp
                        refine afterSet3 zn2023 (fun X7_2024 o2024 zs2024 => ?_)
                        clear d2024_0 d2024_1 d2024_2 d2024_3 d2024_4 d2024_5
                        have hbX7_2024 : Below wr.heap.size wr X7_2024 := hbX7_2023.trans (o2024.below hsX7_2021)
                        have hsX7_2024 : wr.heap.size ≤ X7_2024.heap.size := hbX7_2024.size
                        have zBX7_2024 := zBX7_2023.only o2024 (by omega)
                        refine hK.out _ _ (MK7.out _ (hbX7_2024)) (fun hHeld2 => ?_)
                        clear hK K hHeld
                        have hHeld := hHeld2
                        clear hHeld2
                        try simp only [Act.put, List.setIfInBounds_toArray, List.set_cons_zero, List.set_cons_succ]
                        obtain ⟨d2025_0, d2025_1, d2025_2, d2025_3, d2025_4, d2025_5⟩ := zBX7_2024.three
                        refine wpAnyH_ready (rs := [17]) (by kernel_rfl) (by simp) ?_
                        refine AllReadyH.cons rfl (fun K hK => ?s2025) AllReadyH.nil
                        go_simp
                        refine afterSet3 zBX7_2024 (fun X7_2025 o2025 zs2025 => ?_)
                        clear d2025_0 d2025_1 d2025_2 d2025_3 d2025_4 d2025_5
                        have hbX7_2025 : Below wr.heap.size wr X7_2025 := hbX7_2024.trans (o2025.below hs0)
                        have hsX7_2025 : wr.heap.size ≤ X7_2025.heap.size := hbX7_2025.size
                        have zAX7_2025 := zs2024.only o2025 (by omega)
                        refine hK.out _ _ (MK7.out _ (hbX7_2025)) (fun hHeld2 => ?_)
                        clear hK K hHeld
                        have hHeld := hHeld2
                        clear hHeld2
                        try simp only [Act.put, List.setIfInBounds_toArray, List.set_cons_zero, List.set_cons_succ]
                        refine wpAnyH_done (by kernel_rfl) ?_ _
                        (try dsimp only [Straight])
                        go_wp2_with fail
                        go_meet
                        exact ⟨_, _, rfl, rfl, by omega, hsX7_2021, hs0, zAX7_2025, zs2025, hbX7_2025⟩
                    case rest =>
                      obtain ⟨gr, gs, rfl, rfl, hrs, hgr, hgs, RR, RS, B7⟩ := hcut
                      obtain ⟨y7, hy7⟩ : ∃ y, wc = y := ⟨_, rfl⟩
                      rw [hy7] at RR RS B7 ⊢
                      clear hy7 x0 x1
                      have hb7 : Below y2.heap.size y2 y7 := hb.trans (B7.mono hszb)
                      have hk7 : Below w.heap.size w y7 := hkw.trans (B7.mono hkw.size)
                      have ry7 := HRy.out.later B7
                      have rz7 := HRz.out.later B7
                      have TW7 := HTW.out.later B7
                      have gylt := HRy.out.lt
                      have gzlt := HRz.out.lt
                      have nby : vy.ownBlock ≠ some gr := fun e => by obtain ⟨ey0, ho, _⟩ := HTW.out.1; have := (ho.lt gr e).2; omega
                      have nbz : vz.ownBlock ≠ some gs := fun e => by obtain ⟨ey0, ho, _⟩ := HTW.out.2.1; have := (ho.lt gs e).2; omega
                      have nbs : vy.ownBlock ≠ some gs := fun e => by obtain ⟨ey0, ho, _⟩ := HTW.out.1; have := (ho.lt gs e).2; omega
                      obtain ⟨w0, w1, w2, _, _, _⟩ := RR.three
                      obtain ⟨w3, w4, w5, _, _, _⟩ := RS.three
                      by_cases l1 : p1.num.length ≤ 6
                      case neg =>
                        have l1I : (p1.num.length : Int) > 6 := by omega
                        go_wp2_with fail
                        refine (known8_any _).mono ?_
                        rintro e y9 ⟨rfl, hb9⟩
                        go_wp2_with fail
                        go_ret
                        exact ⟨rfl, hk7.trans (hb9.mono hk7.size)⟩
                      case pos =>
                        have l1I : ¬ (p1.num.length : Int) > 6 := by omega
                        by_cases l2 : p1.den.length ≤ 6
                        case neg =>
                          have l2I : (p1.den.length : Int) > 6 := by omega
                          go_wp2_with fail
                          refine (known8_any _).mono ?_
                          rintro e y9 ⟨rfl, hb9⟩
                          go_wp2_with fail
                          go_ret
                          exact ⟨rfl, hk7.trans (hb9.mono hk7.size)⟩
                        case pos =>
                          have l2I : ¬ (p1.den.length : Int) > 6 := by omega
                          by_cases l3 : p2.num.length ≤ 6
                          case neg =>
                            have l3I : (p2.num.length : Int) > 6 := by omega
                            go_wp2_with fail
                            refine (known8_any _).mono ?_
                            rintro e y9 ⟨rfl, hb9⟩
                            go_wp2_with fail
                            go_ret
                            exact ⟨rfl, hk7.trans (hb9.mono hk7.size)⟩
                          case pos =>
                            have l3I : ¬ (p2.num.length : Int) > 6 := by omega
                            by_cases l4 : p2.den.length ≤ 6
                            case neg =>
                              have l4I : (p2.den.length : Int) > 6 := by omega
                              go_wp2_with fail
                              refine (known8_any _).mono ?_
                              rintro e y9 ⟨rfl, hb9⟩
                              go_wp2_with fail
                              go_ret
                              exact ⟨rfl, hk7.trans (hb9.mono hk7.size)⟩
                            case pos =>
                              have l4I : ¬ (p2.den.length : Int) > 6 := by omega
                              obtain ⟨⟨ey10, hown, hall⟩, _, _⟩ := id TW7
                              have hszY10 := hb7.size
                              obtain ⟨r10, hrv10, hrb10, hrne10, hrA10⟩ := hown.hits8 hszY10
                              have n10me := hrne10 _ _ _ ry7 (by decide)
                              have n10ot := hrne10 _ _ _ rz7 (by decide)
                              have n10nu := hrA10 gr RR.lt nby
                              have n10gs := hrA10 gs RS.lt nbs
                              have cme := ry7.cell 1
                              have mkA : ∀ X, Kept r10 y7 X → X.cell? ⟨gy, 1, none⟩ = some vy ∧ (X.cell? ⟨gr, 0, none⟩ = some (.bool p1.neg) ∧ X.cell? ⟨gr, 1, none⟩ = some (.slice e1 p1.num.length d1) ∧ X.cell? ⟨gr, 2, none⟩ = some (.slice f1 p1.den.length h1)) ∧ Kept r10 y7 X := fun X h => ⟨h.cell cme n10me, ⟨h.cell w0 n10nu, h.cell w1 n10nu, h.cell w2 n10nu⟩, h⟩
                              have hS0 := mkA y7.drew ((Kept.refl r10 y7).drew)
                              have HQR := Lib.hid ((HR1.out.later (hk7.trans ((Below.refl _ y7).drew.mono hk7.size))).arg (n := 6) l1 l2)
                              go_wp2_with fail
                              refine wp_region_L (S := fun X => X.cell? ⟨gy, 1, none⟩ = some vy ∧ (X.cell? ⟨gr, 0, none⟩ = some (.bool p1.neg) ∧ X.cell? ⟨gr, 1, none⟩ = some (.slice e1 p1.num.length d1) ∧ X.cell? ⟨gr, 2, none⟩ = some (.slice f1 p1.den.length h1)) ∧ Kept r10 y7 X) (z := 8) (by kernel_rfl) hS0 (fun hHeld => ?_)
                              refine todo [0, 1, 2] ?_
                              iterate 3
                               refine todoL (v := ?_) rfl (by kernel_rfl) (fun _ _ _ h => h) (by assumption) (Or.inl ⟨by rfl, ?_⟩) ?_
                               rotate_left
                               · intro w hSw; (try dsimp only at hSw); go_simp; (try with_reducible rfl)
                               try simp only [Act.put, List.getElem_toArray, List.getElem_cons_succ, List.getElem_cons_zero, List.setIfInBounds_toArray, List.set_cons_zero, List.set_cons_succ]
                              refine todone ?_
                              refine wpAnyL_one (i := 3) (by kernel_rfl) rfl (fun K hK => ?sb103)
                              go_simp
                              refine (ofRR_any (n := 6) HQR.out (by omega)).mono ?_
                              rintro e v5 ⟨rv, rfl, qv, hb5⟩
                              have Q5 := Lib.hid qv
                              clear qv
                              go_simp
                              have hk5 : Kept r10 y7 v5 := ((Kept.refl r10 y7).drew).below hb5
                              have B5 : Below y7.heap.size y7 v5 := (Below.refl _ y7).drew.trans hb5
                              refine hK.out _ _ (fun _ => mkA _ hk5) (fun hHeld2 => ?mb103)
                              clear hK K hHeld
                              have hHeld := hHeld2 (by decide)
                              clear hHeld2
                              try simp only [Act.put, List.setIfInBounds_toArray, List.set_cons_zero, List.set_cons_succ]
                              refine wpAnyL_one (i := 4) (by kernel_rfl) rfl (fun K hK => ?sb104)
                              go_simp
                              refine (backR_any Q5.out.arg (by omega)).mono ?_
                              rintro e v6 ⟨rb, rfl, qb, hb6⟩
                              have Q6 := Lib.hid qb
                              obtain ⟨m5, j1, j2, j3, j4, j5, j6, rfl⟩ := qb.shape
                              clear qb
                              go_simp
                              have hk6 : Kept r10 y7 v6 := hk5.below hb6
                              have B6 : Below y7.heap.size y7 v6 := B5.trans (hb6.mono B5.size)
                              refine hK.out _ _ (fun _ => mkA _ hk6) (fun hHeld2 => ?mb104)
                              clear hK K hHeld
                              have hHeld := hHeld2 (by decide)
                              clear hHeld2
                              try simp only [Act.put, List.setIfInBounds_toArray, List.set_cons_zero, List.set_cons_succ]
                              refine wpAnyL_one (i := 5) (by kernel_rfl) rfl (fun K hK => ?sb105)
                              go_simp
                              refine hK.out _ _ (fun _ => mkA _ (hk6.alloc _)) (fun hHeld2 => ?mb105)
                              clear hK K hHeld
                              have hHeld := hHeld2 (by decide)
                              clear hHeld2
                              try simp only [Act.put, List.setIfInBounds_toArray, List.set_cons_zero, List.set_cons_succ]
                              refine wpAnyL_one (i := 6) (by kernel_rfl) rfl (fun K hK => ?sb106)
                              have TW6 := TW7.later B6
                              have hown6 := hown.later B6
                              have hall6 : AllE (fun v x => ResQ y2.heap.size v6 v x 31) ey10 (LY.take k) := hall.imp fun u x _ h => h.later B6
                              have hs6 : y2.heap.size ≤ v6.heap.size := Nat.le_trans hszY10 B6.size
                              have hley : ey10.length ≤ 64 := by have := hall.1; rw [List.length_take] at this; omega
                              refine step_append_lies _ rfl _ _ 24 rfl y2.heap.size 51 i0 _ 3 56 Tryz.underlying24 hi hz0 hz1 hz2' rfl (by decide) _ ey10.length (flat3 ey10) rfl (hown6.later ((Below.refl _ _).alloc (Nat.le_refl _) _)) ⟨v6.heap.size, 0, none⟩ 1 1 [.bool m5, .slice j1 j2 j3, .slice j4 j5 j6] rfl rfl (cell_three_new _ _ _ _ _) (by simp [Value.oneCell']) (by omega) (by unfold maxLen; omega) (by omega) (by simp; omega) _ rfl ?_
                              intro g10 cp10 v7 hown' hgrow hg' hlt'
                              have hk7' : Kept r10 y7 v7 := (hk6.alloc _).grown hgrow hrv10
                              refine hK.out _ _ (fun _ => mkA _ hk7') (fun hHeld2 => ?mb106)
                              clear hK K hHeld
                              have hHeld := hHeld2 (by decide)
                              clear hHeld2
                              try simp only [Act.put, List.setIfInBounds_toArray, List.set_cons_zero, List.set_cons_succ]
                              refine wpAnyL_take (i := 7) (v := ?v10a7) rfl (by kernel_rfl) (by kernel_rfl) (by kernel_rfl) (by kernel_rfl) (fun _ _ _ h => h) (Or.inl ⟨by rfl, ?h10a7⟩) (by assumption) ?r10a7
                              case h10a7 =>
                                intro w hSw
                                try dsimp only at hSw
                                go_simp
                                try with_reducible rfl
                              try simp only [Act.put, List.getElem_toArray, List.getElem_cons_succ, List.getElem_cons_zero, List.setIfInBounds_toArray, List.set_cons_zero, List.set_cons_succ]
                              have RM := ry7.kept hk7' n10me
                              have fme := RM.free 1
                              have dme := RM.cell 1
                              refine wpAnyL_one (i := 8) (by kernel_rfl) rfl (fun K hK => ?sb108)
                              go_simp
                              refine hK.out _ _ (fun h => absurd rfl h) (fun _ => ?mb108)
                              clear hK K
                              try simp only [Act.put, List.setIfInBounds_toArray, List.set_cons_zero, List.set_cons_succ]
                              refine wpAnyL_done (by kernel_rfl) ?_ _
                              have Q6' : ResQ y2.heap.size v6 (E3.agg ⟨.bool m5, .slice j1 j2 j3, .slice j4 j5 j6⟩) p1.rat 31 := Q6.out.mono (Nat.le_trans hszY10 B5.size)
                              obtain ⟨TP, BP⟩ := TW6.push (e := ⟨.bool m5, .slice j1 j2 j3, .slice j4 j5 j6⟩) hown6 hall6 Q6' hown' hgrow hg' hs6
                              have T10 := TP.far RM (by decide) (by decide) (kept1 (i := 1) (.slice (some ⟨g10, 0, none⟩) (ey10.length + 1) cp10))
                              have me10 := RM.set21 (.slice (some ⟨g10, 0, none⟩) (ey10.length + 1) cp10)
                              have ot10 := (rz7.kept hk7' n10ot).far (p := ⟨gy, 1, none⟩) (by show gz ≠ gy; omega) (.slice (some ⟨g10, 0, none⟩) (ey10.length + 1) cp10)
                              have hb10 : Below y2.heap.size y2 (v7.setCell ⟨gy, 1, none⟩ (.slice (some ⟨g10, 0, none⟩) (ey10.length + 1) cp10)) := (((hb7).trans (B6.mono hszY10)).trans BP).setCell (p := ⟨gy, 1, none⟩) hy2 _
                              have gs10 := (RS.kept hk7' n10gs).far (p := ⟨gy, 1, none⟩) (by show gs ≠ gy; omega) (.slice (some ⟨g10, 0, none⟩) (ey10.length + 1) cp10)
                              rw [← (show LY.take (k + 1) = LY.take k ++ [p1.rat] by rw [← HLY.out]; exact turnQ_next hlt HQK1.out)] at T10
                              generalize v7.setCell ⟨gy, 1, none⟩ (.slice (some ⟨g10, 0, none⟩) (ey10.length + 1) cp10) = z10 at T10 me10 ot10 hb10 gs10 ⊢
                              clear hown hall hown6 hall6 TW6 hown' hgrow hg' hlt' hk5 hk6 hk7' mkA hS0 B5 B6 hb5 hb6 TP BP RM fme dme cme HQR hHeld Q5 Q6 Q6' hs6
                              have hk10 : Below w.heap.size w z10 := hBW.trans ((C2.trans (hb10.mono C2.size)).mono (by omega))
                              clear w0 w1 w2 w3 w4 w5 ry7 rz7 RR RS TW7
                              obtain ⟨w3, w4, w5, _, _, _⟩ := gs10.three
                              have T10' := T10.swap
                              obtain ⟨⟨ey11, hown, hall⟩, _, _⟩ := id T10'
                              have hszY11 := hb10.size
                              obtain ⟨r11, hrv11, hrb11, hrne11, hrA11⟩ := hown.hits8 hszY11
                              have n11me := hrne11 _ _ _ ot10 (by decide)
                              have n11ot := hrne11 _ _ _ me10 (by decide)
                              have n11nu := hrA11 gs gs10.lt nbz
                              have cme := ot10.cell 1
                              have mkA : ∀ X, Kept r11 z10 X → X.cell? ⟨gz, 1, none⟩ = some vz ∧ (X.cell? ⟨gs, 0, none⟩ = some (.bool p2.neg) ∧ X.cell? ⟨gs, 1, none⟩ = some (.slice e2 p2.num.length d2) ∧ X.cell? ⟨gs, 2, none⟩ = some (.slice f2 p2.den.length h2)) ∧ Kept r11 z10 X := fun X h => ⟨h.cell cme n11me, ⟨h.cell w3 n11nu, h.cell w4 n11nu, h.cell w5 n11nu⟩, h⟩
                              have hS0 := mkA z10.drew ((Kept.refl r11 z10).drew)
                              have HQR := Lib.hid ((HR2.out.later (hk10.trans ((Below.refl _ z10).drew.mono hk10.size))).arg (n := 6) l3 l4)
                              go_wp2_with fail
                              refine wp_region_L (S := fun X => X.cell? ⟨gz, 1, none⟩ = some vz ∧ (X.cell? ⟨gs, 0, none⟩ = some (.bool p2.neg) ∧ X.cell? ⟨gs, 1, none⟩ = some (.slice e2 p2.num.length d2) ∧ X.cell? ⟨gs, 2, none⟩ = some (.slice f2 p2.den.length h2)) ∧ Kept r11 z10 X) (z := 8) (by kernel_rfl) hS0 (fun hHeld => ?_)
                              refine todo [0, 1, 2] ?_
                              iterate 3
                               refine todoL (v := ?_) rfl (by kernel_rfl) (fun _ _ _ h => h) (by assumption) (Or.inl ⟨by rfl, ?_⟩) ?_
                               rotate_left
                               · intro w hSw; (try dsimp only at hSw); go_simp; (try with_reducible rfl)
                               try simp only [Act.put, List.getElem_toArray, List.getElem_cons_succ, List.getElem_cons_zero, List.setIfInBounds_toArray, List.set_cons_zero, List.set_cons_succ]
                              refine todone ?_
                              refine wpAnyL_one (i := 3) (by kernel_rfl) rfl (fun K hK => ?sb113)
                              go_simp
                              refine (ofRR_any (n := 6) HQR.out (by omega)).mono ?_
                              rintro e v5 ⟨rv, rfl, qv, hb5⟩
                              have Q5 := Lib.hid qv
                              clear qv
                              go_simp
                              have hk5 : Kept r11 z10 v5 := ((Kept.refl r11 z10).drew).below hb5
                              have B5 : Below z10.heap.size z10 v5 := (Below.refl _ z10).drew.trans hb5
                              refine hK.out _ _ (fun _ => mkA _ hk5) (fun hHeld2 => ?mb113)
                              clear hK K hHeld
                              have hHeld := hHeld2 (by decide)
                              clear hHeld2
                              try simp only [Act.put, List.setIfInBounds_toArray, List.set_cons_zero, List.set_cons_succ]
                              refine wpAnyL_one (i := 4) (by kernel_rfl) rfl (fun K hK => ?sb114)
                              go_simp
                              refine (backR_any Q5.out.arg (by omega)).mono ?_
                              rintro e v6 ⟨rb, rfl, qb, hb6⟩
                              have Q6 := Lib.hid qb
                              obtain ⟨m5, j1, j2, j3, j4, j5, j6, rfl⟩ := qb.shape
                              clear qb
                              go_simp
                              have hk6 : Kept r11 z10 v6 := hk5.below hb6
                              have B6 : Below z10.heap.size z10 v6 := B5.trans (hb6.mono B5.size)
                              refine hK.out _ _ (fun _ => mkA _ hk6) (fun hHeld2 => ?mb114)
                              clear hK K hHeld
                              have hHeld := hHeld2 (by decide)
                              clear hHeld2
                              try simp only [Act.put, List.setIfInBounds_toArray, List.set_cons_zero, List.set_cons_succ]
                              refine wpAnyL_one (i := 5) (by kernel_rfl) rfl (fun K hK => ?sb115)
                              go_simp
                              refine hK.out _ _ (fun _ => mkA _ (hk6.alloc _)) (fun hHeld2 => ?mb115)
                              clear hK K hHeld
                              have hHeld := hHeld2 (by decide)
                              clear hHeld2
                              try simp only [Act.put, List.setIfInBounds_toArray, List.set_cons_zero, List.set_cons_succ]
                              refine wpAnyL_one (i := 6) (by kernel_rfl) rfl (fun K hK => ?sb116)
                              have TW6 := T10'.later B6
                              have hown6 := hown.later B6
                              have hall6 : AllE (fun v x => ResQ y2.heap.size v6 v x 31) ey11 (LZ.take k) := hall.imp fun u x _ h => h.later B6
                              have hs6 : y2.heap.size ≤ v6.heap.size := Nat.le_trans hszY11 B6.size
                              have hley : ey11.length ≤ 64 := by have := hall.1; rw [List.length_take] at this; omega
                              refine step_append_lies _ rfl _ _ 24 rfl y2.heap.size 51 i0 _ 3 56 Tryz.underlying24 hi hz0 hz1 hz2' rfl (by decide) _ ey11.length (flat3 ey11) rfl (hown6.later ((Below.refl _ _).alloc (Nat.le_refl _) _)) ⟨v6.heap.size, 0, none⟩ 1 1 [.bool m5, .slice j1 j2 j3, .slice j4 j5 j6] rfl rfl (cell_three_new _ _ _ _ _) (by simp [Value.oneCell']) (by omega) (by unfold maxLen; omega) (by omega) (by simp; omega) _ rfl ?_
                              intro g11 cp11 v7 hown' hgrow hg' hlt'
                              have hk7' : Kept r11 z10 v7 := (hk6.alloc _).grown hgrow hrv11
                              refine hK.out _ _ (fun _ => mkA _ hk7') (fun hHeld2 => ?mb116)
                              clear hK K hHeld
                              have hHeld := hHeld2 (by decide)
                              clear hHeld2
                              try simp only [Act.put, List.setIfInBounds_toArray, List.set_cons_zero, List.set_cons_succ]
                              refine wpAnyL_take (i := 7) (v := ?v11a7) rfl (by kernel_rfl) (by kernel_rfl) (by kernel_rfl) (by kernel_rfl) (fun _ _ _ h => h) (Or.inl ⟨by rfl, ?h11a7⟩) (by assumption) ?r11a7
                              case h11a7 =>
                                intro w hSw
                                try dsimp only at hSw
                                go_simp
                                try with_reducible rfl
                              try simp only [Act.put, List.getElem_toArray, List.getElem_cons_succ, List.getElem_cons_zero, List.setIfInBounds_toArray, List.set_cons_zero, List.set_cons_succ]
                              have RM := ot10.kept hk7' n11me
                              have fme := RM.free 1
                              have dme := RM.cell 1
                              refine wpAnyL_one (i := 8) (by kernel_rfl) rfl (fun K hK => ?sb118)
                              go_simp
                              refine hK.out _ _ (fun h => absurd rfl h) (fun _ => ?mb118)
                              clear hK K
                              try simp only [Act.put, List.setIfInBounds_toArray, List.set_cons_zero, List.set_cons_succ]
                              refine wpAnyL_done (by kernel_rfl) ?_ _
                              have Q6' : ResQ y2.heap.size v6 (E3.agg ⟨.bool m5, .slice j1 j2 j3, .slice j4 j5 j6⟩) p2.rat 31 := Q6.out.mono (Nat.le_trans hszY11 B5.size)
                              obtain ⟨TP, BP⟩ := TW6.push (e := ⟨.bool m5, .slice j1 j2 j3, .slice j4 j5 j6⟩) hown6 hall6 Q6' hown' hgrow hg' hs6
                              have T11 := TP.far RM (by decide) (by decide) (kept1 (i := 1) (.slice (some ⟨g11, 0, none⟩) (ey11.length + 1) cp11))
                              have me11 := RM.set21 (.slice (some ⟨g11, 0, none⟩) (ey11.length + 1) cp11)
                              have ot11 := (me10.kept hk7' n11ot).far (p := ⟨gz, 1, none⟩) (by show gy ≠ gz; omega) (.slice (some ⟨g11, 0, none⟩) (ey11.length + 1) cp11)
                              have hb11 : Below y2.heap.size y2 (v7.setCell ⟨gz, 1, none⟩ (.slice (some ⟨g11, 0, none⟩) (ey11.length + 1) cp11)) := (((hb10).trans (B6.mono hszY11)).trans BP).setCell (p := ⟨gz, 1, none⟩) hz2 _
                              rw [← (show LZ.take (k + 1) = LZ.take k ++ [p2.rat] by rw [← HLZ.out]; exact turnQ_next hlt HQK2.out)] at T11
                              generalize v7.setCell ⟨gz, 1, none⟩ (.slice (some ⟨g11, 0, none⟩) (ey11.length + 1) cp11) = z11 at T11 me11 ot11 hb11  ⊢
                              clear hown hall hown6 hall6 TW6 hown' hgrow hg' hlt' hk5 hk6 hk7' mkA hS0 B5 B6 hb5 hb6 TP BP RM fme dme cme HQR hHeld Q5 Q6 Q6' hs6
                              go_wp2
                              go_roundw
                              case rel => exact ⟨k + 1, _, _, by go_num, by omega, ot11, me11, T11.swap, hb11⟩
                              case measure => simp [intOf]; omega
                  · obtain rfl : k = qs.length := by omega
                    have hltI : ¬ ((qs.length : Int) < (qs.length : Int)) := by omega
                    have TY0 := HTW.out.1
                    have TZ0 := HTW.out.2.1
                    rw [List.take_of_length_le (by have := HlY.out; omega)] at TY0
                    rw [List.take_of_length_le (by have := HlZ.out; omega)] at TZ0
                    obtain ⟨b3, m3, k3, rfl⟩ := TY0.sl
                    obtain ⟨b4, m4, k4, rfl⟩ := TZ0.sl
                    obtain ⟨qy, rfl, Ay, nily, hqy, ly, ky⟩ := TY0.raws
                    obtain ⟨qz, rfl, Az, nilz, hqz, lz, kz⟩ := TZ0.raws
                    have TXw := HX.out _ CW
                    have HTX := Lib.hid (fun (X : World) (h : Below wr.heap.size wr X) => HX.out X (CW.trans (h.mono CW.size)))
                    have TYw : TensQ wr (.agg #[.slice a s.length ca, .slice b3 qy.length k3]) s qy a ca b3 k3 := ⟨rfl, TXw.sh, TXw.nila, Ay, nily⟩
                    have TZw : TensQ wr (.agg #[.slice a s.length ca, .slice b4 qz.length k4]) s qz a ca b4 k4 := ⟨rfl, TXw.sh, TXw.nila, Az, nilz⟩
                    have hsh := okShape_of HM.out
                    have hs4 := hsh.2.2
                    have hly : qy.length = qs.length := by rw [← HlY.out, ← hqy, List.length_map]
                    have hlz : qz.length = qs.length := by rw [← HlZ.out, ← hqz, List.length_map]
                    have hy64 : qy.length ≤ 64 := by omega
                    have hz64 : qz.length ≤ 64 := by omega
                    have HMY := Lib.hid (hsh.may hly ky)
                    have HMZ := Lib.hid (hsh.may hlz kz)
                    have HTY := Lib.hid TYw
                    have HTZ := Lib.hid TZw
                    have HQY := Lib.hid hqy
                    have HQZ := Lib.hid hqz
                    have HLYl := Lib.hid ly
                    have HLZl := Lib.hid lz
                    have HS := Lib.hid hsh
                    have HLX31 := Lib.hid (HL.out.more8 (show 6 ≤ 31 by omega))
                    obtain ⟨LX, hLX⟩ : ∃ L, qs.map Q3.rat = L := ⟨_, rfl⟩
                    have lX : LX.length = qs.length := by rw [← hLX, List.length_map]
                    obtain ⟨LA, hLA⟩ : ∃ l, List.zipWith (fun x y => x + y) LX LY = l := ⟨_, rfl⟩
                    obtain ⟨LB, hLB⟩ : ∃ l, List.zipWith (fun x y => x * y) LA LZ = l := ⟨_, rfl⟩
                    obtain ⟨LC, hLC⟩ : ∃ l, List.zipWith (fun x y => x * y) LX LZ = l := ⟨_, rfl⟩
                    obtain ⟨LD, hLD⟩ : ∃ l, List.zipWith (fun x y => x * y) LY LZ = l := ⟨_, rfl⟩
                    obtain ⟨LF, hLF⟩ : ∃ l, List.zipWith (fun x y => x + y) LC LD = l := ⟨_, rfl⟩
                    obtain ⟨LG, hLG⟩ : ∃ l, List.zipWith (fun x y => x - y) LA LY = l := ⟨_, rfl⟩
                    obtain ⟨LQ, hLQ⟩ : ∃ l, List.zipWith (fun x y => x / y) LC LZ = l := ⟨_, rfl⟩
                    have lY := HlY.out
                    have lZ := HlZ.out
                    have eBF : LB = LF := by rw [← hLB, ← hLF, ← hLA, ← hLC, ← hLD]; exact zip_dist _ _ _ (by omega) (by omega)
                    have eGX : LG = LX := by rw [← hLG, ← hLA]; exact zip_back _ _ (by omega)
                    have eQX : (0 : Rat) ∉ LZ → LQ = LX := fun h => by rw [← hLQ, ← hLC]; exact zip_over _ _ (by omega) h
                    have lA : LA.length = qs.length := by rw [← hLA, List.length_zipWith]; omega
                    have lB : LB.length = qs.length := by rw [← hLB, List.length_zipWith]; omega
                    have lC : LC.length = qs.length := by rw [← hLC, List.length_zipWith]; omega
                    have lD : LD.length = qs.length := by rw [← hLD, List.length_zipWith]; omega
                    have lF : LF.length = qs.length := by rw [← eBF]; exact lB
                    have lG : LG.length = qs.length := by rw [eGX]; exact lX
                    have HQX := Lib.hid hLX
                    have HLA := Lib.hid hLA
                    have HLB := Lib.hid hLB
                    have HLC := Lib.hid hLC
                    have HLD := Lib.hid hLD
                    have HLF := Lib.hid hLF
                    have HLG := Lib.hid hLG
                    have HLQ := Lib.hid hLQ
                    have KA := Lib.hid lA
                    have KB := Lib.hid lB
                    have KC := Lib.hid lC
                    have KD := Lib.hid lD
                    have KF := Lib.hid lF
                    have KG := Lib.hid lG
                    have FBF := Lib.hid eBF
                    have FGX := Lib.hid eGX
                    have FQX := Lib.hid eQX
                    have hc0 := Below.refl wr.heap.size wr
                    have CC0 := Below.refl wr.heap.size wr
                    clear TY0 TZ0 TXw TYw TZw Ay Az nily nilz hsh hly hlz hqy hqz ly lz ky kz hLX lX lY lZ eBF eGX eQX lA lB lC lD lF lG TW ry rz hc0 hLA hLB hLC hLD hLF hLG hLQ
                    (try clear x0 x1)
                    (try clear y0 y1)
                    (try clear z0 z1)
                    (try clear p0 p1)
                    (try clear q0 q1)
                    obtain ⟨x0, x1⟩ := MKS.out _ (hb.trans (CC0.mono hszb))
                    obtain ⟨y0, y1, _, _⟩ := (HRy.out.later CC0).two
                    go_wp2_with fail
                    refine (addP_any (n := 31) (HTX.out _ CC0) (HTY.out.later CC0) ls ls (by omega) (by omega) HLX31.out HLYl.out (by omega)).mono ?_
                    rintro e d1 ⟨h, hd1⟩
                    have hg := h.good (two_zero HM.out HMY.out zipOk_true) ((zipQ_eq HQX.out HQY.out).trans HLA.out)
                    obtain ⟨raA, rbA, rcaA, rcbA, rfl, TTA⟩ := hg
                    obtain ⟨c1, hV⟩ : ∃ X, d1.alloc (.cells #[.slice raA s.length rcaA, .slice rbA LA.length rcbA] 26) = X := ⟨_, rfl⟩
                    have bz : Below d1.heap.size d1 c1 := by rw [← hV]; exact (Below.refl _ _).alloc (Nat.le_refl _) _
                    have NA : Row c1 d1.heap.size 26 #[.slice raA s.length rcaA, .slice rbA LA.length rcbA] := by rw [← hV]; exact Row.new _ _ _
                    have EA : Below wr.heap.size wr c1 := hd1.trans (bz.mono hd1.size)
                    have CC1 : Below wr.heap.size wr c1 := CC0.trans (EA.mono CC0.size)
                    have MA := Lib.hid (TTA.later bz)
                    clear TTA bz hd1 h
                    (try clear x0 x1)
                    (try clear y0 y1)
                    (try clear z0 z1)
                    (try clear p0 p1)
                    (try clear q0 q1)
                    obtain ⟨z0, z1, _, _⟩ := (HRz.out.later CC1).two
                    obtain ⟨p0, p1, _, _⟩ := NA.two
                    go_wp2_with fail
                    (try rw [hV])
                    (try clear hV)
                    obtain ⟨qA, aA, bA, caA, cbA, TA, eA, lA, kA⟩ := MA.out.tens
                    have gA := tensQ_len TA eA KA.out
                    have hA64 : qA.length ≤ 64 := by rw [gA]; exact hq64
                    have mA := HS.out.may gA kA
                    have GA := Lib.hid gA
                    clear gA
                    refine (mulP_any (n := 72) TA (HTZ.out.later CC1) ls ls (by omega) (by omega) lA (HLZl.out.more8 (by omega)) (by omega)).mono ?_
                    rintro e d2 ⟨h, hd2⟩
                    have hg := h.good (two_zero mA HMZ.out zipOk_true) ((zipQ_eq eA HQZ.out).trans HLB.out)
                    clear TA eA lA kA mA GA hA64
                    obtain ⟨raB, rbB, rcaB, rcbB, rfl, TTB⟩ := hg
                    obtain ⟨c2, hV⟩ : ∃ X, d2.alloc (.cells #[.slice raB s.length rcaB, .slice rbB LB.length rcbB] 26) = X := ⟨_, rfl⟩
                    have bz : Below d2.heap.size d2 c2 := by rw [← hV]; exact (Below.refl _ _).alloc (Nat.le_refl _) _
                    have NB : Row c2 d2.heap.size 26 #[.slice raB s.length rcaB, .slice rbB LB.length rcbB] := by rw [← hV]; exact Row.new _ _ _
                    have EB : Below c1.heap.size c1 c2 := hd2.trans (bz.mono hd2.size)
                    have CC2 : Below wr.heap.size wr c2 := CC1.trans (EB.mono CC1.size)
                    have MB := Lib.hid (TTB.later bz)
                    replace NA := NA.later EB
                    replace MA := Lib.hid (MA.out.later EB)
                    clear TTB bz hd2 h
                    (try clear x0 x1)
                    (try clear y0 y1)
                    (try clear z0 z1)
                    (try clear p0 p1)
                    (try clear q0 q1)
                    obtain ⟨x0, x1⟩ := MKS.out _ (hb.trans (CC2.mono hszb))
                    obtain ⟨z0, z1, _, _⟩ := (HRz.out.later CC2).two
                    go_wp2_with fail
                    (try rw [hV])
                    (try clear hV)
                    refine (mulP_any (n := 31) (HTX.out _ CC2) (HTZ.out.later CC2) ls ls (by omega) (by omega) HLX31.out HLZl.out (by omega)).mono ?_
                    rintro e d3 ⟨h, hd3⟩
                    have hg := h.good (two_zero HM.out HMZ.out zipOk_true) ((zipQ_eq HQX.out HQZ.out).trans HLC.out)
                    obtain ⟨raC, rbC, rcaC, rcbC, rfl, TTC⟩ := hg
                    obtain ⟨c3, hV⟩ : ∃ X, d3.alloc (.cells #[.slice raC s.length rcaC, .slice rbC LC.length rcbC] 26) = X := ⟨_, rfl⟩
                    have bz : Below d3.heap.size d3 c3 := by rw [← hV]; exact (Below.refl _ _).alloc (Nat.le_refl _) _
                    have NC : Row c3 d3.heap.size 26 #[.slice raC s.length rcaC, .slice rbC LC.length rcbC] := by rw [← hV]; exact Row.new _ _ _
                    have EC : Below c2.heap.size c2 c3 := hd3.trans (bz.mono hd3.size)
                    have CC3 : Below wr.heap.size wr c3 := CC2.trans (EC.mono CC2.size)
                    have MC := Lib.hid (TTC.later bz)
                    replace NA := NA.later EC
                    replace MA := Lib.hid (MA.out.later EC)
                    replace NB := NB.later EC
                    replace MB := Lib.hid (MB.out.later EC)
                    clear TTC bz hd3 h
                    (try clear x0 x1)
                    (try clear y0 y1)
                    (try clear z0 z1)
                    (try clear p0 p1)
                    (try clear q0 q1)
                    obtain ⟨y0, y1, _, _⟩ := (HRy.out.later CC3).two
                    obtain ⟨z0, z1, _, _⟩ := (HRz.out.later CC3).two
                    go_wp2_with fail
                    (try rw [hV])
                    (try clear hV)
                    refine (mulP_any (n := 31) (HTY.out.later CC3) (HTZ.out.later CC3) ls ls (by omega) (by omega) HLYl.out HLZl.out (by omega)).mono ?_
                    rintro e d4 ⟨h, hd4⟩
                    have hg := h.good (two_zero HMY.out HMZ.out zipOk_true) ((zipQ_eq HQY.out HQZ.out).trans HLD.out)
                    obtain ⟨raD, rbD, rcaD, rcbD, rfl, TTD⟩ := hg
                    obtain ⟨c4, hV⟩ : ∃ X, d4.alloc (.cells #[.slice raD s.length rcaD, .slice rbD LD.length rcbD] 26) = X := ⟨_, rfl⟩
                    have bz : Below d4.heap.size d4 c4 := by rw [← hV]; exact (Below.refl _ _).alloc (Nat.le_refl _) _
                    have ND : Row c4 d4.heap.size 26 #[.slice raD s.length rcaD, .slice rbD LD.length rcbD] := by rw [← hV]; exact Row.new _ _ _
                    have ED : Below c3.heap.size c3 c4 := hd4.trans (bz.mono hd4.size)
                    have CC4 : Below wr.heap.size wr c4 := CC3.trans (ED.mono CC3.size)
                    have MD := Lib.hid (TTD.later bz)
                    replace NA := NA.later ED
                    replace MA := Lib.hid (MA.out.later ED)
                    replace NB := NB.later ED
                    replace MB := Lib.hid (MB.out.later ED)
                    replace NC := NC.later ED
                    replace MC := Lib.hid (MC.out.later ED)
                    clear TTD bz hd4 h
                    (try clear x0 x1)
                    (try clear y0 y1)
                    (try clear z0 z1)
                    (try clear p0 p1)
                    (try clear q0 q1)
                    obtain ⟨p0, p1, _, _⟩ := NC.two
                    obtain ⟨q0, q1, _, _⟩ := ND.two
                    go_wp2_with fail
                    (try rw [hV])
                    (try clear hV)
                    refine (addK (n := 66) MC.out MD.out (by rw [KC.out]; exact HS.out) (by rw [KD.out, KC.out]) (by rw [KC.out]; omega) (by omega)).mono ?_
                    rintro e d5 ⟨h, hd5⟩
                    rw [HLF.out] at h
                    have hg := h
                    obtain ⟨raF, rbF, rcaF, rcbF, rfl, TTF⟩ := hg
                    obtain ⟨c5, hV⟩ : ∃ X, d5.alloc (.cells #[.slice raF s.length rcaF, .slice rbF LF.length rcbF] 26) = X := ⟨_, rfl⟩
                    have bz : Below d5.heap.size d5 c5 := by rw [← hV]; exact (Below.refl _ _).alloc (Nat.le_refl _) _
                    have NF : Row c5 d5.heap.size 26 #[.slice raF s.length rcaF, .slice rbF LF.length rcbF] := by rw [← hV]; exact Row.new _ _ _
                    have EF : Below c4.heap.size c4 c5 := hd5.trans (bz.mono hd5.size)
                    have CC5 : Below wr.heap.size wr c5 := CC4.trans (EF.mono CC4.size)
                    have MF := Lib.hid (TTF.later bz)
                    replace NA := NA.later EF
                    replace MA := Lib.hid (MA.out.later EF)
                    replace NB := NB.later EF
                    replace MB := Lib.hid (MB.out.later EF)
                    replace NC := NC.later EF
                    replace MC := Lib.hid (MC.out.later EF)
                    replace ND := ND.later EF
                    replace MD := Lib.hid (MD.out.later EF)
                    clear TTF bz hd5 h
                    (try clear x0 x1)
                    (try clear y0 y1)
                    (try clear z0 z1)
                    (try clear p0 p1)
                    (try clear q0 q1)
                    obtain ⟨y0, y1, _, _⟩ := (HRy.out.later CC5).two
                    obtain ⟨p0, p1, _, _⟩ := NA.two
                    go_wp2_with fail
                    (try rw [hV])
                    (try clear hV)
                    obtain ⟨qA, aA, bA, caA, cbA, TA, eA, lA, kA⟩ := MA.out.tens
                    have gA := tensQ_len TA eA KA.out
                    have hA64 : qA.length ≤ 64 := by rw [gA]; exact hq64
                    have mA := HS.out.may gA kA
                    have GA := Lib.hid gA
                    clear gA
                    refine (subP_any (n := 72) TA (HTY.out.later CC5) ls ls (by omega) (by omega) lA (HLYl.out.more8 (by omega)) (by omega)).mono ?_
                    rintro e d6 ⟨h, hd6⟩
                    have hg := h.good (two_zero mA HMY.out zipOk_true) ((zipQ_eq eA HQY.out).trans HLG.out)
                    clear TA eA lA kA mA GA hA64
                    obtain ⟨raG, rbG, rcaG, rcbG, rfl, TTG⟩ := hg
                    obtain ⟨c6, hV⟩ : ∃ X, d6.alloc (.cells #[.slice raG s.length rcaG, .slice rbG LG.length rcbG] 26) = X := ⟨_, rfl⟩
                    have bz : Below d6.heap.size d6 c6 := by rw [← hV]; exact (Below.refl _ _).alloc (Nat.le_refl _) _
                    have NG : Row c6 d6.heap.size 26 #[.slice raG s.length rcaG, .slice rbG LG.length rcbG] := by rw [← hV]; exact Row.new _ _ _
                    have EG : Below c5.heap.size c5 c6 := hd6.trans (bz.mono hd6.size)
                    have CC6 : Below wr.heap.size wr c6 := CC5.trans (EG.mono CC5.size)
                    have MG := Lib.hid (TTG.later bz)
                    replace NA := NA.later EG
                    replace MA := Lib.hid (MA.out.later EG)
                    replace NB := NB.later EG
                    replace MB := Lib.hid (MB.out.later EG)
                    replace NC := NC.later EG
                    replace MC := Lib.hid (MC.out.later EG)
                    replace ND := ND.later EG
                    replace MD := Lib.hid (MD.out.later EG)
                    replace NF := NF.later EG
                    replace MF := Lib.hid (MF.out.later EG)
                    clear TTG bz hd6 h
                    (try clear x0 x1)
                    (try clear y0 y1)
                    (try clear z0 z1)
                    (try clear p0 p1)
                    (try clear q0 q1)
                    obtain ⟨p0, p1, _, _⟩ := NB.two
                    obtain ⟨q0, q1, _, _⟩ := NF.two
                    go_wp2_with fail
                    (try rw [hV])
                    (try clear hV)
                    obtain ⟨qB, aB, bB, caB, cbB, TB, eB, lB, kB⟩ := MB.out.tens
                    have gB := tensQ_len TB eB KB.out
                    have hB64 : qB.length ≤ 64 := by rw [gB]; exact hq64
                    have mB := HS.out.may gB kB
                    have GB := Lib.hid gB
                    clear gB
                    obtain ⟨qF, aF, bF, caF, cbF, TF, eF, lF, kF⟩ := MF.out.tens
                    have gF := tensQ_len TF eF KF.out
                    have hF64 : qF.length ≤ 64 := by rw [gF]; exact hq64
                    have mF := HS.out.may gF kF
                    have GF := Lib.hid gF
                    clear gF
                    refine (sameQ_true8 (n := 148) TB TF (by omega) (by omega) (lB.more8 (by omega)) (lF.more8 (by omega)) (by omega) (by rw [eB, eF]; exact FBF.out)).mono ?_
                    rintro e c7 ⟨he, hd⟩
                    clear TB eB lB kB mB GB hB64
                    clear TF eF lF kF mF GF hF64
                    subst he
                    have CC7 : Below wr.heap.size wr c7 := CC6.trans (hd.mono CC6.size)
                    replace NA := NA.later hd
                    replace MA := Lib.hid (MA.out.later hd)
                    replace NB := NB.later hd
                    replace MB := Lib.hid (MB.out.later hd)
                    replace NC := NC.later hd
                    replace MC := Lib.hid (MC.out.later hd)
                    replace ND := ND.later hd
                    replace MD := Lib.hid (MD.out.later hd)
                    replace NF := NF.later hd
                    replace MF := Lib.hid (MF.out.later hd)
                    replace NG := NG.later hd
                    replace MG := Lib.hid (MG.out.later hd)
                    clear hd
                    (try clear x0 x1)
                    (try clear y0 y1)
                    (try clear z0 z1)
                    (try clear p0 p1)
                    (try clear q0 q1)
                    obtain ⟨x0, x1⟩ := MKS.out _ (hb.trans (CC7.mono hszb))
                    obtain ⟨p0, p1, _, _⟩ := NG.two
                    go_wp2_with fail
                    obtain ⟨qG, aG, bG, caG, cbG, TG, eG, lG, kG⟩ := MG.out.tens
                    have gG := tensQ_len TG eG KG.out
                    have hG64 : qG.length ≤ 64 := by rw [gG]; exact hq64
                    have mG := HS.out.may gG kG
                    have GG := Lib.hid gG
                    clear gG
                    refine (sameQ_true8 (n := 154) TG (HTX.out _ CC7) (by omega) (by omega) (lG.more8 (by omega)) (HL.out.more8 (by omega)) (by omega) (by rw [eG, FGX.out, HQX.out])).mono ?_
                    rintro e c8 ⟨he, hd⟩
                    clear TG eG lG kG mG GG hG64
                    subst he
                    have CC8 : Below wr.heap.size wr c8 := CC7.trans (hd.mono CC7.size)
                    replace NA := NA.later hd
                    replace MA := Lib.hid (MA.out.later hd)
                    replace NB := NB.later hd
                    replace MB := Lib.hid (MB.out.later hd)
                    replace NC := NC.later hd
                    replace MC := Lib.hid (MC.out.later hd)
                    replace ND := ND.later hd
                    replace MD := Lib.hid (MD.out.later hd)
                    replace NF := NF.later hd
                    replace MF := Lib.hid (MF.out.later hd)
                    replace NG := NG.later hd
                    replace MG := Lib.hid (MG.out.later hd)
                    clear hd
                    (try clear x0 x1)
                    (try clear y0 y1)
                    (try clear z0 z1)
                    (try clear p0 p1)
                    (try clear q0 q1)
                    obtain ⟨p0, p1, _, _⟩ := NB.two
                    go_wp2_with fail
                    obtain ⟨qB, aB, bB, caB, cbB, TB, eB, lB, kB⟩ := MB.out.tens
                    have gB := tensQ_len TB eB KB.out
                    have hB64 : qB.length ≤ 64 := by rw [gB]; exact hq64
                    have mB := HS.out.may gB kB
                    have GB := Lib.hid gB
                    clear gB
                    refine (mayT7_big (n := 148) TB (by omega) (lB.more8 (by omega)) (by omega)).mono ?_
                    rintro e c9 ⟨he, hd⟩
                    rw [mB] at he
                    clear TB eB lB kB mB GB hB64
                    subst he
                    have CC9 : Below wr.heap.size wr c9 := CC8.trans (hd.mono CC8.size)
                    replace NA := NA.later hd
                    replace MA := Lib.hid (MA.out.later hd)
                    replace NB := NB.later hd
                    replace MB := Lib.hid (MB.out.later hd)
                    replace NC := NC.later hd
                    replace MC := Lib.hid (MC.out.later hd)
                    replace ND := ND.later hd
                    replace MD := Lib.hid (MD.out.later hd)
                    replace NF := NF.later hd
                    replace MF := Lib.hid (MF.out.later hd)
                    replace NG := NG.later hd
                    replace MG := Lib.hid (MG.out.later hd)
                    clear hd
                    (try clear x0 x1)
                    (try clear y0 y1)
                    (try clear z0 z1)
                    (try clear p0 p1)
                    (try clear q0 q1)
                    obtain ⟨p0, p1, _, _⟩ := NG.two
                    go_wp2_with fail
                    obtain ⟨qG, aG, bG, caG, cbG, TG, eG, lG, kG⟩ := MG.out.tens
                    have gG := tensQ_len TG eG KG.out
                    have hG64 : qG.length ≤ 64 := by rw [gG]; exact hq64
                    have mG := HS.out.may gG kG
                    have GG := Lib.hid gG
                    clear gG
                    refine (mayT7_big (n := 154) TG (by omega) (lG.more8 (by omega)) (by omega)).mono ?_
                    rintro e c10 ⟨he, hd⟩
                    rw [mG] at he
                    clear TG eG lG kG mG GG hG64
                    subst he
                    have CC10 : Below wr.heap.size wr c10 := CC9.trans (hd.mono CC9.size)
                    replace NA := NA.later hd
                    replace MA := Lib.hid (MA.out.later hd)
                    replace NB := NB.later hd
                    replace MB := Lib.hid (MB.out.later hd)
                    replace NC := NC.later hd
                    replace MC := Lib.hid (MC.out.later hd)
                    replace ND := ND.later hd
                    replace MD := Lib.hid (MD.out.later hd)
                    replace NF := NF.later hd
                    replace MF := Lib.hid (MF.out.later hd)
                    replace NG := NG.later hd
                    replace MG := Lib.hid (MG.out.later hd)
                    clear hd
                    (try clear x0 x1)
                    (try clear y0 y1)
                    (try clear z0 z1)
                    (try clear p0 p1)
                    (try clear q0 q1)
                    obtain ⟨z0, z1, _, _⟩ := (HRz.out.later CC10).two
                    obtain ⟨p0, p1, _, _⟩ := NC.two
                    go_wp2_with fail
                    obtain ⟨qC, aC, bC, caC, cbC, TC, eC, lC, kC⟩ := MC.out.tens
                    have gC := tensQ_len TC eC KC.out
                    have hC64 : qC.length ≤ 64 := by rw [gC]; exact hq64
                    have mC := HS.out.may gC kC
                    have GC := Lib.hid gC
                    clear gC
                    refine (divP_any (n := 66) TC (HTZ.out.later CC10) ls ls (by omega) (by omega) lC (HLZl.out.more8 (by omega)) (by omega)).mono ?_
                    rintro e d11 ⟨h, hd11⟩
                    rw [dotC_none mC HMZ.out, div_ok8 (by rw [GC.out, ← HlZ.out, ← HQZ.out, List.length_map]), HQZ.out, zipQ_eq eC HQZ.out, HLQ.out] at h
                    clear TC eC lC kC mC GC hC64
                    obtain ⟨e7, he7⟩ : ∃ c, twoC 0 (!decide ((0 : Rat) ∈ LZ)) = c := ⟨_, rfl⟩
                    rw [he7] at h
                    have HE7 := Lib.hid he7
                    clear he7
                    obtain ⟨g1, g2, j1, j2, j3, j4, rfl, hA⟩ := h.ans
                    obtain ⟨c11, hV⟩ : ∃ X, d11.alloc (.cells #[.slice g1 j1 j3, .slice g2 j2 j4] 26) = X := ⟨_, rfl⟩
                    have bz : Below d11.heap.size d11 c11 := by rw [← hV]; exact (Below.refl _ _).alloc (Nat.le_refl _) _
                    have NQ : Row c11 d11.heap.size 26 #[.slice g1 j1 j3, .slice g2 j2 j4] := by rw [← hV]; exact Row.new _ _ _
                    have CC11 : Below wr.heap.size wr c11 := (CC10.trans (hd11.mono CC10.size)).trans (bz.mono (CC10.trans (hd11.mono CC10.size)).size)
                    have HAQ := Lib.hid (hA.later bz)
                    have hk11 : Below w.heap.size w c11 := hkw.trans (CC11.mono hkw.size)
                    clear bz hd11 h hA p0 p1 z0 z1
                    by_cases hzz : (0 : Rat) ∈ LZ
                    case pos =>
                      obtain rfl : e7 = 17 := by rw [← HE7.out, decide_eq_true hzz]; rfl
                      have HZZ := Lib.hid hzz
                      have NZ11 := HRz.out.later CC11
                      have HT11 := Lib.hid (HTZ.out.later CC11)
                      obtain ⟨z0, z1, _, _⟩ := NZ11.two
                      clear hzz
                      go_wp2_with fail
                      (try rw [hV])
                      (try clear hV)
                      clear z0 z1
                      go_loopw [26, 27] (fun zb i w2 => ∃ k : Nat, i = .int .i64 (k : Int) ∧ k ≤ qz.length ∧ zb = .bool (decide ((0 : Rat) ∈ LZ.take k)) ∧ Below c11.heap.size c11 w2) (fun _ i _ => qz.length - (intOf i).toNat)
                      case atStart => exact ⟨0, rfl, Nat.zero_le _, by simp, Below.refl _ _⟩
                      case round =>
                        obtain ⟨k, rfl, hk, rfl, hb2⟩ := hrel
                        obtain ⟨z0, z1, _, _⟩ := (NZ11.later hb2).two
                        have hk2' : Below w.heap.size w wr := hk11.trans (hb2.mono hk11.size)
                        by_cases hlt : k < qz.length
                        · have hltI : (k : Int) < (qz.length : Int) := by omega
                          obtain ⟨bb, oo, t0, t1, t2, q, hbo, hqk, s0, s1, s2, hraw⟩ := (HT11.out.later hb2).el.at hlt
                          subst hbo
                          have hnx : LZ.take (k + 1) = LZ.take k ++ [q.rat] := take_nextL (by rw [← HQZ.out, List.getElem?_map, hqk]; rfl)
                          have HNX := Lib.hid hnx
                          have HRW := Lib.hid (hraw.arg (HLZl.out q (List.mem_of_getElem? hqk)).1 (HLZl.out q (List.mem_of_getElem? hqk)).2)
                          clear hnx hqk hraw
                          by_cases hin : (0 : Rat) ∈ LZ.take k
                          · have hd : decide ((0 : Rat) ∈ LZ.take k) = true := decide_eq_true hin
                            rw [hd]
                            go_wp2
                            go_roundw
                            case rel => exact ⟨k + 1, by go_num, by omega, by rw [HNX.out, decide_eq_true (List.mem_append_left _ hin)], hb2⟩
                            case measure => simp [intOf]; omega
                          · have hd : decide ((0 : Rat) ∈ LZ.take k) = false := decide_eq_false hin
                            rw [hd]
                            go_wp2_with fail
                            refine (ofRR_any (n := 31) HRW.out (by omega)).mono ?_
                            rintro e w3 ⟨rv, rfl, qv, hb3⟩
                            have hb23 : Below c11.heap.size c11 w3 := hb2.trans (hb3.mono hb2.size)
                            have Q3' := Lib.hid qv.arg
                            clear qv
                            go_wp2_with fail
                            refine (zeroR_any Q3'.out).mono ?_
                            rintro e w4 ⟨rfl, hb4⟩
                            have hb24 : Below c11.heap.size c11 w4 := hb23.trans (hb4.mono hb23.size)
                            go_wp2
                            go_roundw
                            case rel =>
                              refine ⟨k + 1, by go_num, by omega, ?_, hb24⟩
                              rw [HNX.out]
                              congr 1
                              simp [hin, eq_comm]
                            case measure => simp [intOf]; omega
                        · obtain rfl : k = qz.length := by omega
                          have hltI : ¬ ((qz.length : Int) < (qz.length : Int)) := by omega
                          have hd : decide ((0 : Rat) ∈ LZ.take qz.length) = true := by
                            rw [List.take_of_length_le (by rw [← HQZ.out, List.length_map]; exact Nat.le_refl _)]
                            exact decide_eq_true HZZ.out
                          rw [hd]
                          go_wp2_with fail
                          refine (known8_any _).mono ?_
                          rintro e y9 ⟨rfl, hb9⟩
                          go_wp2_with fail
                          go_ret
                          exact ⟨rfl, hk2'.trans (hb9.mono hk2'.size)⟩
                    case neg =>
                      obtain rfl : e7 = 0 := by rw [← HE7.out, decide_eq_false hzz]; rfl
                      have TQ := HAQ.out.resolve_right (fun h => h.1 rfl)
                      have HLQX := Lib.hid (FQX.out hzz)
                      clear hzz
                      obtain ⟨qq, aq, bq, caq, cbq, TQQ, eqq, lqq, kqq⟩ := TQ.2.tens
                      have hqq64 : qq.length ≤ 64 := by have h1 := congrArg List.length eqq; rw [List.length_map, HLQX.out, ← HQX.out, List.length_map] at h1; omega
                      obtain ⟨x0, x1⟩ := MKS.out _ (hb.trans (CC11.mono hszb))
                      obtain ⟨p0, p1, _, _⟩ := NQ.two
                      have HSQ := Lib.hid (sameQ_true8 (n := 136) TQQ (HTX.out _ CC11) (by omega) (by omega) lqq (HL.out.more8 (by omega)) (by omega) (by rw [eqq, HLQX.out, HQX.out]))
                      clear TQ TQQ eqq lqq kqq
                      go_wp2_with fail
                      (try rw [hV])
                      (try clear hV)
                      refine HSQ.out.mono ?_
                      rintro e c12 ⟨rfl, hb12⟩
                      have hk12 := hk11.trans (hb12.mono hk11.size)
                      go_wp2_with fail
                      refine (known8_any _).mono ?_
                      rintro e y9 ⟨rfl, hb9⟩
                      go_wp2_with fail
                      go_ret
                      exact ⟨rfl, hk12.trans (hb9.mono hk12.size)⟩
end Go.Proofs.YtjcacmnmbbnffaaGreat
