/-
  The reference of layer 9: Slice. (Made by wip/gen/gen_mrefs.py.)
-/
import Derived.Test.YtooglnhlhgmhdaaGreatMRef0
namespace Go.Proofs.YtooglnhlhgmhdaaGreat
open Go.RowKit
set_option linter.unusedVariables false
set_option linter.unusedSimpArgs false

theorem todoH9 {P : Program} {ops : Array Oper} {Q : Exit → Act → World → Prop} {md : Region.Mode} {S : World → Prop} {i : Nat} {is : List Nat} {oi : Oper} {v : Value} {fuel : Nat} {listed : Array Bool} {a : Act} {w : World} (hi : ops[i]? = some oi)
    (hk : (Region.noSelect ops && Region.free md ops listed i && (Region.ready md ops listed).contains i) = true)
    (hQ : ∀ c a w, Q (.panic c) (a.put oi.dst v) w → Q (.panic c) a w) (hS : S w) (hy : YieldsIf P ops S oi v a)
    (h : Todo is (wpAnyH P md ops Q S fuel (listed.setIfInBounds i true) (a.put oi.dst v) w)) : Todo (i :: is) (wpAnyH P md ops Q S (fuel + 1) listed a w) := by
  simp only [Bool.and_eq_true] at hk
  exact wpAnyH_take hi hk.1.1 hk.1.2 hk.2 hQ hy hS h
set_option maxRecDepth 100000 in
set_option maxHeartbeats 40000000 in
theorem sliceR_any {m : Nat} {w : World} {v : Value} {s t : List Int} {L : List Rat} {ad : Option Addr} {cd : Nat} (T : TenR w v s L m) (ok : Ok9 s L.length) (D : ArgS w (.slice ad t.length cd) t ad cd) (nd : ad = none → cd = 0) (ht : t.length ≤ 8000000) (hm : 6 ≤ m) :
    Calls Tryz.prog 25 #[v, .slice ad t.length cd] w fun e w' => RefA w' e (slC s t) (slS s t) (slV s t L) m ∧ Below w.heap.size w w' := by
  obtain ⟨i0, hiS, hz0, hz1, hz2⟩ := info_parts infoS
  obtain ⟨j0, hjR, hyA, hyB, hyC⟩ := info_parts infoR
  obtain ⟨a, ca, b, cb, T⟩ := T
  obtain rfl := T.is
  have HOK := Lib.hid ok
  have HND := Lib.hid nd
  have hle := ok.le
  obtain ⟨N, hN⟩ : ∃ N, s.length = N := ⟨_, rfl⟩
  obtain ⟨K, hK⟩ : ∃ K, L.length = K := ⟨_, rfl⟩
  obtain ⟨Q, hQ⟩ : ∃ Q, t.length = Q := ⟨_, rfl⟩
  have HN := Lib.hid hN
  have HK := Lib.hid hK
  have HQ := Lib.hid hQ
  rw [hN, hK] at T
  rw [hN, hK] at hle
  rw [hQ] at D ht
  rw [hN, hK, hQ]
  have HT : Hid (TensR w (.agg #[.slice a N ca, .slice b K cb]) s L m a ca b cb) := Lib.hid T
  have HD : Hid (ArgS w (.slice ad Q cd) t ad cd) := Lib.hid D
  obtain ⟨c, hc⟩ : ∃ c, slC s t = c := ⟨_, rfl⟩
  obtain ⟨S, hS⟩ : ∃ S, slS s t = S := ⟨_, rfl⟩
  obtain ⟨LR, hLR⟩ : ∃ LR, slV s t L = LR := ⟨_, rfl⟩
  have HC := Lib.hid hc
  have HS := Lib.hid hS
  have HLR := Lib.hid hLR
  rw [hc, hS, hLR]
  obtain ⟨W, hW⟩ : ∃ W, ((w.alloc (.cells #[.slice a N ca, .slice b K cb] 34)).alloc (.cells #[.slice none 0 0, .slice none 0 0] 34)) = W := ⟨_, rfl⟩
  have R0 : Row W w.heap.size 34 #[.slice a N ca, .slice b K cb] := by rw [← hW]; exact (Row.new _ _ _).alloc _
  have R1 : Row W (w.heap.size + 1) 34 #[.slice none 0 0, .slice none 0 0] := by rw [← hW]; have h := Row.new (w.alloc (.cells #[.slice a N ca, .slice b K cb] 34)) 34 #[.slice none 0 0, .slice none 0 0]; simp only [World.size_alloc] at h; exact h
  have hBW : Below w.heap.size w W := by rw [← hW]; exact ((Below.refl _ _).alloc (Nat.le_refl _) _).alloc (by simp) _
  have hsW : W.heap.size = w.heap.size + 1 + 1 := by rw [← hW]; simp
  have H0 := Lib.hid R0
  have H1 := Lib.hid R1
  have HB := Lib.hid hBW
  have tsh : ∀ X, Below w.heap.size w X → ArgS X (.slice a N ca) s a ca := fun X h => by
    have h1 := HT.out.sh.later h
    rw [HN.out] at h1
    exact h1
  have TSH := Lib.hid tsh
  have dX : ∀ X, Below w.heap.size w X → ArgS X (.slice ad Q cd) t ad cd := fun X h => HD.out.later h
  have DX := Lib.hid dX
  have zW : w.heap.size < W.heap.size := by omega
  obtain ⟨p0, p1, _, _⟩ := R0.two
  have v1 : IntKind.i64.wrap (2 * (N : Int)) = 2 * (N : Int) := wrap_i64 (by omega) (by omega)
  clear T ok D nd hN hK hQ hc hS hLR R0 R1 hBW tsh dX
  by_cases hlen : Q = 2 * N
  · have hlI : ((Q : Int) != 2 * (N : Int)) = false := by simp; omega
    have HLEN : Hid (t.length = 2 * s.length) := Lib.hid (by rw [HQ.out, HN.out]; exact hlen)
    have hqN : Q ≤ 2 * N ∧ 2 * N ≤ Q := by omega
    clear hlen
    go_enter Tryz.func25, Tryz.ntmps25
    go_wp2_with fail
    (try rw [hW])
    clear hW p0 p1 v1 hlI
    go_loopw [6] (fun i W1 => ∃ (k : Nat), i = .int .i64 (k : Int) ∧ k ≤ N ∧ (∀ j, j < k → ¬ badCut t j) ∧ Below W.heap.size W W1) (fun i _ => N - (intOf i).toNat)
    case atStart => exact ⟨0, rfl, Nat.zero_le _, (fun j hj => by omega), Below.refl _ _⟩
    case round =>
      rename World => W1
      obtain ⟨k, rfl, hk, hgd, hb⟩ := hrel
      have hbw : Below w.heap.size w W1 := HB.out.trans (hb.mono (by omega))
      have hsz := hb.size
      have HGD := Lib.hid hgd
      obtain ⟨k0, k1, _, _⟩ := (H0.out.later hb).two
      clear hgd
      by_cases hlt : k < N
      · have hltI : (k : Int) < (N : Int) := by omega
        have hks : k < s.length := by rw [HN.out]; exact hlt
        have hkt : 2 * k < t.length := by rw [HQ.out]; omega
        have hkt2 : 2 * k + 1 < t.length := by rw [HQ.out]; omega
        obtain ⟨bt, ot, rfl, cs1⟩ := (DX.out _ hbw).at (i := 2 * k) hkt
        obtain ⟨bt2, ot2, hbt, cs2⟩ := (DX.out _ hbw).at (i := 2 * k + 1) hkt2
        cases hbt
        obtain ⟨x0, hx0⟩ : ∃ x, t.getD (2 * k) 0 = x := ⟨_, rfl⟩
        obtain ⟨x1, hx1⟩ : ∃ x, t.getD (2 * k + 1) 0 = x := ⟨_, rfl⟩
        rw [hx0] at cs1
        rw [hx1] at cs2
        have HX0 : Hid (fstP t k = x0) := Lib.hid hx0
        have HX1 : Hid (sndP t k = x1) := Lib.hid hx1
        have v1 : IntKind.i64.wrap (2 * (k : Int)) = 2 * (k : Int) := wrap_i64 (by omega) (by omega)
        have v2 : IntKind.i64.wrap (2 * (k : Int) + 1) = 2 * (k : Int) + 1 := wrap_i64 (by omega) (by omega)
        have n1 : (2 * (k : Int)).toNat = 2 * k := by omega
        have n2 : (2 * (k : Int) + 1).toNat = 2 * k + 1 := by omega
        have j0' : (0 : Int) ≤ 2 * (k : Int) := by omega
        have j1 : 2 * (k : Int) < (Q : Int) := by omega
        have j2 : (0 : Int) ≤ 2 * (k : Int) + 1 := by omega
        have j3 : 2 * (k : Int) + 1 < (Q : Int) := by omega
        have hcells : W1.drew.cell? ⟨bt, ot + 2 * k, none⟩ = some (.int .i64 x0) ∧ W1.drew.cell? ⟨bt, ot + (2 * k + 1), none⟩ = some (.int .i64 x1) := ⟨cs1, cs2⟩
        clear hx0 hx1 hkt hkt2 hks
        by_cases hn : x0 < 0
        · have hd : decide (x0 < 0) = true := decide_eq_true hn
          obtain rfl : c = 11 := by rw [← HC.out]; exact slC_bad (i := k) (by rw [HN.out]; exact hlt) (.inl (by rw [HX0.out]; exact hn))
          go_wp2_with fail
          refine wp_region_held (S := fun Y => Y.cell? ⟨bt, ot + 2 * k, none⟩ = some (.int .i64 x0) ∧ Y.cell? ⟨bt, ot + (2 * k + 1), none⟩ = some (.int .i64 x1)) (by kernel_rfl) ?_
          have hHeld := hcells
          refine todo [0, 1, 2, 3, 4, 5, 6] ?_
          iterate 7
           refine todoH9 (v := ?_) rfl (by kernel_rfl) (fun _ _ _ h => h) (by assumption) (Or.inl ⟨by rfl, ?_⟩) ?_
           rotate_left
           · intro w hSw; (try dsimp only at hSw); go_simp; (try with_reducible rfl)
           try simp only [Act.put, List.getElem_toArray, List.getElem_cons_succ, List.getElem_cons_zero, List.setIfInBounds_toArray, List.set_cons_zero, List.set_cons_succ]
          refine todone ?_
          refine wpAnyH_take (i := 7) (v := undef) rfl (by kernel_rfl) (by kernel_rfl) (by kernel_rfl) (fun _ _ _ h => h) (Or.inr ⟨by rfl, rfl⟩) (by assumption) ?rqa0s7
          try simp only [Act.put, List.getElem_toArray, List.getElem_cons_succ, List.getElem_cons_zero, List.setIfInBounds_toArray, List.set_cons_zero, List.set_cons_succ]
          refine wpAnyH_take (i := 8) (v := undef) rfl (by kernel_rfl) (by kernel_rfl) (by kernel_rfl) (fun _ _ _ h => h) (Or.inr ⟨by rfl, rfl⟩) (by assumption) ?rqa0s8
          try simp only [Act.put, List.getElem_toArray, List.getElem_cons_succ, List.getElem_cons_zero, List.setIfInBounds_toArray, List.set_cons_zero, List.set_cons_succ]
          refine wpAnyH_take (i := 9) (v := undef) rfl (by kernel_rfl) (by kernel_rfl) (by kernel_rfl) (fun _ _ _ h => h) (Or.inr ⟨by rfl, rfl⟩) (by assumption) ?rqa0s9
          try simp only [Act.put, List.getElem_toArray, List.getElem_cons_succ, List.getElem_cons_zero, List.setIfInBounds_toArray, List.set_cons_zero, List.set_cons_succ]
          refine wpAnyH_take (i := 10) (v := undef) rfl (by kernel_rfl) (by kernel_rfl) (by kernel_rfl) (fun _ _ _ h => h) (Or.inr ⟨by rfl, rfl⟩) (by assumption) ?rqa0s10
          try simp only [Act.put, List.getElem_toArray, List.getElem_cons_succ, List.getElem_cons_zero, List.setIfInBounds_toArray, List.set_cons_zero, List.set_cons_succ]
          refine wpAnyH_take (i := 11) (v := undef) rfl (by kernel_rfl) (by kernel_rfl) (by kernel_rfl) (fun _ _ _ h => h) (Or.inr ⟨by rfl, rfl⟩) (by assumption) ?rqa0s11
          try simp only [Act.put, List.getElem_toArray, List.getElem_cons_succ, List.getElem_cons_zero, List.setIfInBounds_toArray, List.set_cons_zero, List.set_cons_succ]
          refine wpAnyH_take (i := 12) (v := undef) rfl (by kernel_rfl) (by kernel_rfl) (by kernel_rfl) (fun _ _ _ h => h) (Or.inr ⟨by rfl, rfl⟩) (by assumption) ?rqa0s12
          try simp only [Act.put, List.getElem_toArray, List.getElem_cons_succ, List.getElem_cons_zero, List.setIfInBounds_toArray, List.set_cons_zero, List.set_cons_succ]
          refine wpAnyH_take (i := 13) (v := undef) rfl (by kernel_rfl) (by kernel_rfl) (by kernel_rfl) (fun _ _ _ h => h) (Or.inr ⟨by rfl, rfl⟩) (by assumption) ?rqa0s13
          try simp only [Act.put, List.getElem_toArray, List.getElem_cons_succ, List.getElem_cons_zero, List.setIfInBounds_toArray, List.set_cons_zero, List.set_cons_succ]
          refine wpAnyH_take (i := 14) (v := undef) rfl (by kernel_rfl) (by kernel_rfl) (by kernel_rfl) (fun _ _ _ h => h) (Or.inr ⟨by rfl, rfl⟩) (by assumption) ?rqa0s14
          try simp only [Act.put, List.getElem_toArray, List.getElem_cons_succ, List.getElem_cons_zero, List.setIfInBounds_toArray, List.set_cons_zero, List.set_cons_succ]
          refine wpAnyH_take (i := 15) (v := undef) rfl (by kernel_rfl) (by kernel_rfl) (by kernel_rfl) (fun _ _ _ h => h) (Or.inr ⟨by rfl, rfl⟩) (by assumption) ?rqa0s15
          try simp only [Act.put, List.getElem_toArray, List.getElem_cons_succ, List.getElem_cons_zero, List.setIfInBounds_toArray, List.set_cons_zero, List.set_cons_succ]
          refine wpAnyH_take (i := 16) (v := undef) rfl (by kernel_rfl) (by kernel_rfl) (by kernel_rfl) (fun _ _ _ h => h) (Or.inr ⟨by rfl, rfl⟩) (by assumption) ?rqa0s16
          try simp only [Act.put, List.getElem_toArray, List.getElem_cons_succ, List.getElem_cons_zero, List.setIfInBounds_toArray, List.set_cons_zero, List.set_cons_succ]
          refine wpAnyH_take (i := 17) (v := undef) rfl (by kernel_rfl) (by kernel_rfl) (by kernel_rfl) (fun _ _ _ h => h) (Or.inr ⟨by rfl, rfl⟩) (by assumption) ?rqa0s17
          try simp only [Act.put, List.getElem_toArray, List.getElem_cons_succ, List.getElem_cons_zero, List.setIfInBounds_toArray, List.set_cons_zero, List.set_cons_succ]
          refine wpAnyH_take (i := 18) (v := undef) rfl (by kernel_rfl) (by kernel_rfl) (by kernel_rfl) (fun _ _ _ h => h) (Or.inr ⟨by rfl, rfl⟩) (by assumption) ?rqa0s18
          try simp only [Act.put, List.getElem_toArray, List.getElem_cons_succ, List.getElem_cons_zero, List.setIfInBounds_toArray, List.set_cons_zero, List.set_cons_succ]
          refine wpAnyH_take (i := 19) (v := ?vqa0a19) rfl (by kernel_rfl) (by kernel_rfl) (by kernel_rfl) (fun _ _ _ h => h) (Or.inl ⟨by rfl, ?hqa0a19⟩) (by assumption) ?rqa0a19
          case hqa0a19 =>
            intro w hSw
            try dsimp only at hSw
            go_simp
            try with_reducible rfl
          try simp only [Act.put, List.getElem_toArray, List.getElem_cons_succ, List.getElem_cons_zero, List.setIfInBounds_toArray, List.set_cons_zero, List.set_cons_succ]
          refine wpAnyH_done (by kernel_rfl) ?_ _
          clear cs1 cs2 k0 k1 hcells
          have P1 := H1.out.later hb
          obtain ⟨u0, u1, g0', g1'⟩ := P1.two
          have P3 := P1.set2 (.slice none 0 0) (.slice none 0 0)
          obtain ⟨z0, z1, _, _⟩ := P3.two
          have hBE := below_set2 (HB.out.trans ((hb : Below W.heap.size W _).mono (by omega))) (show w.heap.size ≤ w.heap.size + 1 by omega) (.slice none 0 0) (.slice none 0 0)
          go_wp2_with fail
          refine bodyPost_ret (v := .tuple #[noTensor, .int .i64 11]) (by simp [results, Tryz.results25, go_sem, z0, z1, noTensor]) rfl ⟨⟨_, rfl, ⟨none, 0, 0, none, 0, 0, rfl⟩, fun h => by cases h⟩, hBE.drew⟩
        · have hd : decide (x0 < 0) = false := decide_eq_false hn
          by_cases hn2 : x1 ≤ x0
          · have hd2 : decide (x1 ≤ x0) = true := decide_eq_true hn2
            obtain rfl : c = 11 := by rw [← HC.out]; exact slC_bad (i := k) (by rw [HN.out]; exact hlt) (.inr (by rw [HX0.out, HX1.out]; exact hn2))
            go_wp2_with fail
            refine wp_region_held (S := fun Y => Y.cell? ⟨bt, ot + 2 * k, none⟩ = some (.int .i64 x0) ∧ Y.cell? ⟨bt, ot + (2 * k + 1), none⟩ = some (.int .i64 x1)) (by kernel_rfl) ?_
            have hHeld := hcells
            refine todo [0, 1, 2, 3, 4, 5, 6, 7, 8, 9, 10, 11, 12, 13, 14, 15, 16, 17, 18, 19] ?_
            iterate 20
             refine todoH9 (v := ?_) rfl (by kernel_rfl) (fun _ _ _ h => h) (by assumption) (Or.inl ⟨by rfl, ?_⟩) ?_
             rotate_left
             · intro w hSw; (try dsimp only at hSw); go_simp; (try with_reducible rfl)
             try simp only [Act.put, List.getElem_toArray, List.getElem_cons_succ, List.getElem_cons_zero, List.setIfInBounds_toArray, List.set_cons_zero, List.set_cons_succ]
            refine todone ?_
            refine wpAnyH_done (by kernel_rfl) ?_ _
            clear cs1 cs2 k0 k1 hcells
            have P1 := H1.out.later hb
            obtain ⟨u0, u1, g0', g1'⟩ := P1.two
            have P3 := P1.set2 (.slice none 0 0) (.slice none 0 0)
            obtain ⟨z0, z1, _, _⟩ := P3.two
            have hBE := below_set2 (HB.out.trans ((hb : Below W.heap.size W _).mono (by omega))) (show w.heap.size ≤ w.heap.size + 1 by omega) (.slice none 0 0) (.slice none 0 0)
            go_wp2_with fail
            refine bodyPost_ret (v := .tuple #[noTensor, .int .i64 11]) (by simp [results, Tryz.results25, go_sem, z0, z1, noTensor]) rfl ⟨⟨_, rfl, ⟨none, 0, 0, none, 0, 0, rfl⟩, fun h => by cases h⟩, hBE.drew⟩
          · have hd2 : decide (x1 ≤ x0) = false := decide_eq_false hn2
            go_wp2_with fail
            refine wp_region_held (S := fun Y => Y.cell? ⟨bt, ot + 2 * k, none⟩ = some (.int .i64 x0) ∧ Y.cell? ⟨bt, ot + (2 * k + 1), none⟩ = some (.int .i64 x1)) (by kernel_rfl) ?_
            have hHeld := hcells
            refine todo [0, 1, 2, 3, 4, 5, 6, 7, 8, 9, 10, 11, 12, 13, 14, 15, 16, 17, 18, 19] ?_
            iterate 20
             refine todoH9 (v := ?_) rfl (by kernel_rfl) (fun _ _ _ h => h) (by assumption) (Or.inl ⟨by rfl, ?_⟩) ?_
             rotate_left
             · intro w hSw; (try dsimp only at hSw); go_simp; (try with_reducible rfl)
             try simp only [Act.put, List.getElem_toArray, List.getElem_cons_succ, List.getElem_cons_zero, List.setIfInBounds_toArray, List.set_cons_zero, List.set_cons_succ]
            refine todone ?_
            refine wpAnyH_done (by kernel_rfl) ?_ _
            go_wp2_with fail
            go_roundw
            case rel =>
              refine ⟨k + 1, by go_num, by omega, fun j hj => ?_, hb.drew⟩
              by_cases e : j = k
              · subst e
                unfold badCut
                rw [HX0.out, HX1.out]
                omega
              · exact HGD.out j (by omega)
            case measure => simp [intOf]; omega
      · obtain rfl : N = k := by omega
        have hltI : ¬ (N : Int) < (N : Int) := by omega
        have HNB : Hid (∀ i, i < s.length → ¬ badCut t i) := Lib.hid (by rw [HN.out]; exact HGD.out)
        have HBW1 := Lib.hid hb
        have HB1 := Lib.hid hbw
        obtain ⟨g, hg⟩ : ∃ g, W1.heap.size = g := ⟨_, rfl⟩
        have hgw : w.heap.size + 1 + 1 ≤ g := by omega
        have hWg : W.heap.size ≤ g := by omega
        have HBW1 := Lib.hid hb
        have HG1 := Lib.hid hg
        clear hb hbw hg
        go_wp2_with fail
        obtain ⟨W2, hW2⟩ : ∃ Y, W1.alloc (.cells #[.slice none 0 0, .slice none 0 0] 34) = Y := ⟨_, rfl⟩
        have RG : Row W2 g 34 #[.slice none 0 0, .slice none 0 0] := by rw [← hW2, ← HG1.out]; exact Row.new _ _ _
        have b2 : Below g W1 W2 := by rw [← hW2, ← HG1.out]; exact (Below.refl _ _).alloc (Nat.le_refl _) _
        have HRG := Lib.hid RG
        have HB2 := Lib.hid b2
        (try rw [hW2])
        (try rw [HG1.out])
        clear RG b2 hW2 k0 k1
        go_loopw [8] (fun i wr => ∃ (j : Nat) (v : Value), i = .int .i64 (j : Int) ∧ j ≤ N ∧ (∀ i, i < j → ¬ s.getD i 0 < sndP t i) ∧ Row wr g 34 #[v, .slice none 0 0] ∧ ResS g wr v (S.take j) ∧ Below g W1 wr) (fun i _ => N - (intOf i).toNat)
        case atStart => exact ⟨0, _, rfl, Nat.zero_le _, (fun j hj => by omega), HRG.out, ResS.nil _ _, HB2.out⟩
        case round =>
          obtain ⟨j, v, rfl, hj, hgd2, rg, rs, hb⟩ := hrel
          have hbW : Below W.heap.size W wr := HBW1.out.trans (hb.mono hWg)
          have hbw : Below w.heap.size w wr := HB.out.trans (hbW.mono (by omega))
          have hgs : g ≤ wr.heap.size := by have h := hb.size; rw [HG1.out] at h; exact h
          have hg0 : g < wr.heap.size := rg.lt
          have HGD2 := Lib.hid hgd2
          obtain ⟨k0, k1, _, _⟩ := (H0.out.later hbW).two
          have cg0 := rg.cell 0
          clear hgd2
          by_cases hlt : j < N
          · have hltI : (j : Int) < (N : Int) := by omega
            have hks : j < s.length := by rw [HN.out]; exact hlt
            obtain ⟨zs, hzs⟩ : ∃ z, S.take j = z := ⟨_, rfl⟩
            have hSj : j < S.length := by rw [← HS.out]; rw [slS_len]; exact hks
            have hnx : S.take (j + 1) = S.take j ++ [S.getD j 0] := take_next hSj
            have hz16 : zs.length ≤ 16 := by rw [← hzs, List.length_take]; omega
            rw [hzs] at rs hnx
            have HNX := Lib.hid hnx
            clear hzs hnx hSj
            have hkt : 2 * j < t.length := by rw [HQ.out]; omega
            obtain ⟨bt, ot, rfl, cs1⟩ := (DX.out _ hbw).at (i := 2 * j) hkt
            obtain ⟨x0, hx0⟩ : ∃ x, t.getD (2 * j) 0 = x := ⟨_, rfl⟩
            rw [hx0] at cs1
            have HX0 : Hid (fstP t j = x0) := Lib.hid hx0
            have v1 : IntKind.i64.wrap (2 * (j : Int)) = 2 * (j : Int) := wrap_i64 (by omega) (by omega)
            have n1 : (2 * (j : Int)).toNat = 2 * j := by omega
            have j0' : (0 : Int) ≤ 2 * (j : Int) := by omega
            have j1 : 2 * (j : Int) < (Q : Int) := by omega
            clear hx0 hkt
            have hkt2 : 2 * j + 1 < t.length := by rw [HQ.out]; omega
            obtain ⟨bt2, ot2, hbt, cs2⟩ := (DX.out _ hbw).at (i := 2 * j + 1) hkt2
            cases hbt
            obtain ⟨x1, hx1⟩ : ∃ x, t.getD (2 * j + 1) 0 = x := ⟨_, rfl⟩
            rw [hx1] at cs2
            have HX1 : Hid (sndP t j = x1) := Lib.hid hx1
            have v2 : IntKind.i64.wrap (2 * (j : Int) + 1) = 2 * (j : Int) + 1 := wrap_i64 (by omega) (by omega)
            have n2 : (2 * (j : Int) + 1).toNat = 2 * j + 1 := by omega
            have j2 : (0 : Int) ≤ 2 * (j : Int) + 1 := by omega
            have j3 : 2 * (j : Int) + 1 < (Q : Int) := by omega
            clear hx1 hkt2
            obtain ⟨bs, os, rfl, cs3⟩ := (TSH.out _ hbw).at (i := j) hks
            have hgd3 := HNB.out j hks
            unfold badCut at hgd3
            rw [HX0.out, HX1.out] at hgd3
            have hd4 := getD_le_prod HOK.out.ok.pos hks
            have hd5 := HOK.out.ok.few
            obtain ⟨d, hd⟩ : ∃ d, s.getD j 0 = d := ⟨_, rfl⟩
            rw [hd] at cs3 hd4
            have HDD := Lib.hid hd
            have hsv : S.getD j 0 = x1 - x0 := by rw [← HS.out, slS_at _ _ hks, HX0.out, HX1.out]
            have HSV := Lib.hid hsv
            have hcells : wr.drew.cell? ⟨bt, ot + (2 * j + 1), none⟩ = some (.int .i64 x1) ∧ wr.drew.cell? ⟨w.heap.size, 0, none⟩ = some (.slice (some ⟨bs, os, none⟩) N ca) ∧ wr.drew.cell? ⟨bs, os + j, none⟩ = some (.int .i64 d) := ⟨cs2, k0, cs3⟩
            clear hd hsv
            by_cases ho : x1 > d
            · have hdd : decide (x1 > d) = true := decide_eq_true ho
              obtain rfl : c = 13 := by rw [← HC.out]; exact slC_out HLEN.out HNB.out hks (by rw [HDD.out, HX1.out]; exact ho)
              go_wp2_with fail
              refine wp_region_held (S := fun Y => Y.cell? ⟨bt, ot + (2 * j + 1), none⟩ = some (.int .i64 x1) ∧ Y.cell? ⟨w.heap.size, 0, none⟩ = some (.slice (some ⟨bs, os, none⟩) N ca) ∧ Y.cell? ⟨bs, os + j, none⟩ = some (.int .i64 d)) (by kernel_rfl) ?_
              have hHeld := hcells
              refine todo [0, 1, 2, 3, 4, 5, 6, 7, 8, 9, 10, 11] ?_
              iterate 12
               refine todoH9 (v := ?_) rfl (by kernel_rfl) (fun _ _ _ h => h) (by assumption) (Or.inl ⟨by rfl, ?_⟩) ?_
               rotate_left
               · intro w hSw; (try dsimp only at hSw); go_simp; (try with_reducible rfl)
               try simp only [Act.put, List.getElem_toArray, List.getElem_cons_succ, List.getElem_cons_zero, List.setIfInBounds_toArray, List.set_cons_zero, List.set_cons_succ]
              refine todone ?_
              refine wpAnyH_done (by kernel_rfl) ?_ _
              clear cs1 cs2 cs3 k0 k1 hcells cg0
              have P1 := H1.out.later hbW
              obtain ⟨u0, u1, g0', g1'⟩ := P1.two
              have P3 := P1.set2 (.slice none 0 0) (.slice none 0 0)
              obtain ⟨z0, z1, _, _⟩ := P3.two
              have hBE := below_set2 (HB.out.trans ((hbW : Below W.heap.size W _).mono (by omega))) (show w.heap.size ≤ w.heap.size + 1 by omega) (.slice none 0 0) (.slice none 0 0)
              go_wp2_with fail
              refine bodyPost_ret (v := .tuple #[noTensor, .int .i64 13]) (by simp [results, Tryz.results25, go_sem, z0, z1, noTensor]) rfl ⟨⟨_, rfl, ⟨none, 0, 0, none, 0, 0, rfl⟩, fun h => by cases h⟩, hBE.drew⟩
            · have hdd : decide (x1 > d) = false := decide_eq_false ho
              have wy : IntKind.i64.wrap (x1 - x0) = x1 - x0 := wrap_i64 (by omega) (by omega)
              go_wp2_with fail
              refine wp_region_held_drew (S := fun Y => Y.cell? ⟨bt, ot + (2 * j + 1), none⟩ = some (.int .i64 x1) ∧ Y.cell? ⟨w.heap.size, 0, none⟩ = some (.slice (some ⟨bs, os, none⟩) N ca) ∧ Y.cell? ⟨bs, os + j, none⟩ = some (.int .i64 d)) (by kernel_rfl) hcells (fun hHeld => ?_)
              obtain ⟨V1, hV1⟩ : ∃ Y, wr.drew = Y := ⟨_, rfl⟩
              rw [hV1] at hHeld ⊢
              have hbd1 : Below wr.heap.size wr V1 := by rw [← hV1]; exact (Below.refl _ _).drew
              clear hV1
              refine todo [0, 1, 2, 3, 4, 5, 6, 7, 8, 9, 10, 11] ?_
              iterate 12
               refine todoH9 (v := ?_) rfl (by kernel_rfl) (fun _ _ _ h => h) (by assumption) (Or.inl ⟨by rfl, ?_⟩) ?_
               rotate_left
               · intro w hSw; (try dsimp only at hSw); go_simp; (try with_reducible rfl)
               try simp only [Act.put, List.getElem_toArray, List.getElem_cons_succ, List.getElem_cons_zero, List.setIfInBounds_toArray, List.set_cons_zero, List.set_cons_succ]
              refine todone ?_
              refine wpAnyH_done (by kernel_rfl) ?_ _
              have hbW1 : Below W.heap.size W V1 := hbW.trans (hbd1.mono hbW.size)
              replace rg := rg.later hbd1
              replace rs := rs.later hbd1
              replace hb := hb.trans (hbd1.mono hgs)
              have hgs1 : g ≤ V1.heap.size := Nat.le_trans hgs hbd1.size
              replace cg0 := rg.cell 0
              replace cs1 := (hbd1.cell (World.block_lt_of_cell? _ _ cs1)).trans cs1
              replace cs2 := (hbd1.cell (World.block_lt_of_cell? _ _ cs2)).trans cs2
              clear hgs hcells k0 k1 cs3 hHeld
              have hgs := hgs1
              have hbt : bt < w.heap.size := by
                obtain ⟨b', o', e1, e2⟩ := HD.out.at (i := 2 * j) (by rw [HQ.out]; omega)
                cases e1
                exact World.block_lt_of_cell? _ _ e2
              go_wp2_with fail
              obtain ⟨r, hrv, hrb, hrne, _, _⟩ := ownV_hits rs.num hgs
              have ng := hrne _ _ _ rg (by decide)
              have mkSsa : ∀ X, Kept r V1 X → X.cell? ⟨g, 0, none⟩ = some v ∧ X.cell? ⟨bt, ot + (2 * j + 1), none⟩ = some (.int .i64 x1) ∧ X.cell? ⟨bt, ot + 2 * j, none⟩ = some (.int .i64 x0) ∧ Kept r V1 X := fun X h => ⟨h.cell cg0 ng, h.cell cs2 (by show bt ≠ r; omega), h.cell cs1 (by show bt ≠ r; omega), h⟩
              have hS0sa := mkSsa V1.drew ((Kept.refl r V1).drew)
              refine wp_region_L (S := fun X => X.cell? ⟨g, 0, none⟩ = some v ∧ X.cell? ⟨bt, ot + (2 * j + 1), none⟩ = some (.int .i64 x1) ∧ X.cell? ⟨bt, ot + 2 * j, none⟩ = some (.int .i64 x0) ∧ Kept r V1 X) (z := 17) (by kernel_rfl) hS0sa (fun hHeld => ?_)
              refine todo [0, 1, 2, 3, 4, 5, 6, 7, 8, 9, 10, 11, 12, 13] ?_
              iterate 14
               refine todoL (v := ?_) rfl (by kernel_rfl) (fun _ _ _ h => h) (by assumption) (Or.inl ⟨by rfl, ?_⟩) ?_
               rotate_left
               · intro w hSw; (try dsimp only at hSw); go_simp; (try with_reducible rfl)
               try simp only [Act.put, List.getElem_toArray, List.getElem_cons_succ, List.getElem_cons_zero, List.setIfInBounds_toArray, List.set_cons_zero, List.set_cons_succ]
              refine todone ?_
              obtain ⟨w5, hw5⟩ : ∃ Y, V1.drew = Y := ⟨_, rfl⟩
              have hb5 : Below V1.heap.size V1 w5 := by rw [← hw5]; exact (Below.refl _ V1).drew
              have hk5 : Kept r V1 w5 := (Kept.refl r V1).below hb5
              rw [hw5] at hHeld ⊢
              clear hw5
              refine wpAnyL_one (i := 14) (by kernel_rfl) rfl (fun K hK => ?ssab14)
              go_simp
              refine hK.out _ _ (fun _ => mkSsa _ (hk5.alloc _)) (fun hHeld2 => ?msab14)
              clear hK K hHeld
              have hHeld := hHeld2 (by decide)
              clear hHeld2
              try simp only [Act.put, List.getElem_toArray, List.getElem_cons_succ, List.getElem_cons_zero, List.setIfInBounds_toArray, List.set_cons_zero, List.set_cons_succ]
              refine wpAnyL_one (i := 15) (by kernel_rfl) rfl (fun K hK => ?ssab15)
              have hn5 : NumS g w5 v zs := rs.num.later hb5
              have hsz5 := hb5.size
              refine step_append_ownT rfl _ _ 22 rfl g 3 i0 (.int .i64 0) 1 8 Tryz.underlying22 hiS hz0 hz1 hz2 rfl (by decide) _ zs.length (zs.map (Value.int .i64)) rfl (hn5.later ((Below.refl _ _).alloc (Nat.le_refl _) _)) ⟨w5.heap.size, 0, none⟩ 1 1 [.int .i64 (x1 - x0)] rfl rfl (fun j u hj => ?celsa) (by simp [Value.oneCell']) (by unfold maxLen; omega) (by omega) (by simp; omega) ?_
              case celsa =>
                have R := Row.new w5 3 #[.int .i64 (x1 - x0)]
                match j, hj with
                | 0, hj => simp at hj; subst hj; exact R.cell 0
                | j + 1, hj => simp at hj
              intro v' w6 hown' hgrow _
              obtain ⟨av, cv, rfl⟩ := ownT_slice hown'
              have hk6 : Kept r V1 w6 := (hk5.alloc _).grown hgrow hrv
              refine hK.out _ _ (fun _ => mkSsa _ hk6) (fun hHeld2 => ?msab15)
              clear hK K hHeld
              have hHeld := hHeld2 (by decide)
              clear hHeld2
              try simp only [Act.put, List.getElem_toArray, List.getElem_cons_succ, List.getElem_cons_zero, List.setIfInBounds_toArray, List.set_cons_zero, List.set_cons_succ]
              refine wpAnyL_take (i := 16) (v := ?vsaa16) rfl (by kernel_rfl) (by kernel_rfl) (by kernel_rfl) (by kernel_rfl) (fun _ _ _ h => h) (Or.inl ⟨by rfl, ?hsaa16⟩) (by assumption) ?rsaa16
              case hsaa16 =>
                intro w hSw
                try dsimp only at hSw
                go_simp
                try with_reducible rfl
              try simp only [Act.put, List.getElem_toArray, List.getElem_cons_succ, List.getElem_cons_zero, List.setIfInBounds_toArray, List.set_cons_zero, List.set_cons_succ]
              have RG6 := rg.kept hk6 ng
              have f21 := RG6.free 0
              have d21 := RG6.cell 0
              refine wpAnyL_one (i := 17) (by kernel_rfl) rfl (fun K hK => ?ssab17)
              go_simp
              refine hK.out _ _ (fun h => absurd rfl h) (fun _ => ?msab17)
              clear hK K
              try simp only [Act.put, List.getElem_toArray, List.getElem_cons_succ, List.getElem_cons_zero, List.setIfInBounds_toArray, List.set_cons_zero, List.set_cons_succ]
              refine wpAnyL_done (by kernel_rfl) ?_ _
              have hN6 : NumS g w6 (.slice av (zs.length + 1) cv) (zs ++ [(x1 - x0)]) := by
                unfold NumS
                rw [List.length_append, List.map_append]
                exact hown'
              have hwz : Wid (zs ++ [(x1 - x0)]) := fun x hx => by
                rcases List.mem_append.1 hx with h | h
                · exact rs.wf x h
                · simp only [List.mem_singleton] at h
                  subst h
                  omega
              have rs6 : ResS g w6 _ (zs ++ [(x1 - x0)]) := ⟨hN6, hwz⟩
              have hb6 : Below g W1 w6 := (hk6.under (B := g) hb (by omega) hrb)
              go_wp2_with fail
              go_roundw
              case rel =>
                refine ⟨j + 1, _, by go_num, by omega, ?gd, RG6.set20 _, ?rs, hb6.setCell (by show g ≤ g; omega) _⟩
                case gd =>
                  intro i hi
                  by_cases e : i = j
                  · subst e
                    rw [HDD.out, HX1.out]
                    omega
                  · have h := HGD2.out i (by omega)
                    omega
                case rs =>
                  rw [HNX.out, HSV.out]
                  exact rs6.far RG6 (by decide) (kept1 _)
              case measure => simp [intOf]; omega
          · obtain rfl : N = j := by omega
            have hltI : ¬ (N : Int) < (N : Int) := by omega
            have hSN : S.length = N := by rw [← HS.out]; rw [slS_len, HN.out]
            rw [List.take_of_length_le (by omega)] at rs
            obtain ⟨a3, c3, rfl⟩ := ownT_slice rs.num
            have hrs := rs.mono (show w.heap.size ≤ g by omega)
            rw [hSN] at hrs rg cg0
            have HML := Lib.hid hSN
            have H05 := Lib.hid (H0.out.later hbW)
            have H15 := Lib.hid (H1.out.later hbW)
            have HG := Lib.hid rg
            have HSS := Lib.hid hrs
            have HB5 := Lib.hid hbw
            have hg2 : w.heap.size + 1 + 1 ≤ g := hgw
            have hc0 : slC s t = 0 := slC_ok HLEN.out HNB.out (by rw [HN.out]; exact HGD2.out)
            obtain rfl : c = 0 := by rw [← HC.out]; exact hc0
            have okS : OkS S := by rw [← HS.out]; exact slS_ok hc0 HOK.out.ok
            have HOKS := Lib.hid okS
            obtain ⟨CN, hCN⟩ : ∃ n, (prodS S).toNat = n := ⟨_, rfl⟩
            have hps := prodS_pos okS.pos
            have hpf := okS.few
            have HPC : Hid (prodS S = (CN : Int)) := Lib.hid (by omega)
            have HRES : Hid (LR.length = CN) := Lib.hid (by rw [← HLR.out]; unfold slV; rw [fillV_len, HS.out]; exact hCN)
            have hCN1 : CN ≤ 1024 := by omega
            clear hc0 okS hCN hps hpf hrs rs hSN hb
            go_wp2_with fail
            clear k0 k1 cg0 rg hbw hbW
            go_loopw [9, 10, 11] (fun i _ _ wr => ∃ (k : Nat) (v : Value), i = .int .i64 (k : Int) ∧ k ≤ CN ∧ Row wr w.heap.size 34 #[.slice a N ca, .slice b K cb] ∧ Row wr (w.heap.size + 1) 34 #[.slice none 0 0, .slice none 0 0] ∧
              Row wr g 34 #[.slice a3 N c3, v] ∧ ResS w.heap.size wr (.slice a3 N c3) S ∧ RowO w.heap.size 75 (fun W v x => ResA w.heap.size w W v x m) wr v (LR.take k) ∧ Below w.heap.size w wr) (fun i _ _ _ => CN - (intOf i).toNat)
            case atStart => exact ⟨0, _, rfl, Nat.zero_le _, H05.out, H15.out, HG.out, HSS.out, RowO.nil _ _ _ _, HB5.out⟩
            case round =>
              obtain ⟨k, v, rfl, hk, r0, r1, rg, rs, ⟨es, hown, hall⟩, hb⟩ := hrel
              have hsz := hb.size
              have hle9 : es.length = k := by have h := HRES.out; rw [hall.1, List.length_take, h]; omega
              have HLE := Lib.hid hle9
              have Q0 := Lib.hid r0
              have Q1 := Lib.hid r1
              have QG := Lib.hid rg
              have QS := Lib.hid rs
              have QO := Lib.hid hown
              have QA := Lib.hid hall
              have QB := Lib.hid hb
              clear r1 hall hown hle9
              have A3 := (rs.at_).2.1
              have cg0 := rg.cell 0
              have cg1 := rg.cell 1
              have c01 := r0.cell 1
              by_cases hlt : k < CN
              · have hkC : (k : Int) < (CN : Int) := by omega
                have hkP : (k : Int) < prodS S := by rw [HPC.out]; omega
                obtain ⟨l0, hl0⟩ : ∃ l, idxS S (k : Int) = l := ⟨_, rfl⟩
                have hin0 := (place_idx HOKS.out.pos (show 0 ≤ (k : Int) by omega) hkP).1
                have hidx := fun X (h : Below wr.heap.size wr X) => index9_any (A3.later h) HOKS.out (show 0 ≤ (k : Int) by omega) hkP
                rw [hl0] at hidx hin0
                have HIN := Lib.hid hin0
                have hl0n : l0.length = N := by rw [inS_length hin0, HML.out]
                have HLN := Lib.hid hl0n
                have HL0 := Lib.hid hl0
                clear hin0 hl0 hl0n hkP rs
                have hcnt := fun X (h : Below wr.heap.size wr X) => count9_any (A3.later h) HOKS.out.pos (by have := HOKS.out.rank; omega)
                rw [cntR_ok HOKS.out, HPC.out] at hcnt
                go_wp2_with fail
                refine (hcnt _ (Below.refl _ _)).mono ?_
                rintro e wq ⟨rfl, rfl⟩
                clear hcnt
                go_wp2_with fail
                refine (hidx _ (Below.refl _ _)).mono ?_
                rintro e y1 ⟨rl, rfl, RL, hy1⟩
                obtain ⟨al, cl, rfl, IL, hcl, nl, wl⟩ := RL.idx
                rw [HLN.out] at hcl ⊢
                have HIL := Lib.hid IL
                have HWL := Lib.hid wl
                have HNL := Lib.hid nl
                have B1 : Below w.heap.size w y1 := hb.trans (hy1.mono hsz)
                clear RL IL wl nl hidx cg0 cg1 c01 rg r0
                go_wp2_with fail
                go_loopw [11] (fun i wi => ∃ (j : Nat) (zs : List Int), i = .int .i64 (j : Int) ∧ j ≤ N ∧ zs = stpOf (fun i z => IntKind.i64.wrap (z + fstP t i)) l0 (List.range j) ∧ IdxP wr.heap.size wi al cl zs ∧ Below wr.heap.size wr wi) (fun i _ => N - (intOf i).toNat)
                case atStart => exact ⟨0, _, rfl, Nat.zero_le _, rfl, HIL.out, hy1⟩
                case round =>
                  rename World => wi
                  obtain ⟨j, zs, rfl, hj, hzs, hI, hbi⟩ := hrel
                  have hln : zs.length = N := by rw [hzs, stpOf_len, HLN.out]
                  have HZS := Lib.hid hzs
                  have HZL := Lib.hid hln
                  clear hzs
                  by_cases hlt2 : j < N
                  · have hltJ : (j : Int) < (N : Int) := by omega
                    have hbwi : Below w.heap.size w wi := QB.out.trans (hbi.mono hsz)
                    obtain ⟨gl, rfl, hgB, hmx, hP⟩ := hI.at (i := j) (by omega)
                    have cz := hP.cell j (by omega)
                    obtain ⟨z, hz⟩ : ∃ z, zs.getD j 0 = z := ⟨_, rfl⟩
                    rw [hz] at cz
                    have hkt : 2 * j < t.length := by rw [HQ.out]; omega
                    obtain ⟨bt, ot, rfl, cs1⟩ := (DX.out _ hbwi).at (i := 2 * j) hkt
                    obtain ⟨x0, hx0⟩ : ∃ x, t.getD (2 * j) 0 = x := ⟨_, rfl⟩
                    rw [hx0] at cs1
                    have HX0 : Hid (fstP t j = x0) := Lib.hid hx0
                    have v1 : IntKind.i64.wrap (2 * (j : Int)) = 2 * (j : Int) := wrap_i64 (by omega) (by omega)
                    have n1 : (2 * (j : Int)).toNat = 2 * j := by omega
                    have j0' : (0 : Int) ≤ 2 * (j : Int) := by omega
                    have j1 : 2 * (j : Int) < (Q : Int) := by omega
                    clear hx0 hkt
                    obtain ⟨y, hy⟩ : ∃ y, IntKind.i64.wrap (z + x0) = y := ⟨_, rfl⟩
                    have hnx : zs.set j y = stpOf (fun i z => IntKind.i64.wrap (z + fstP t i)) l0 (List.range (j + 1)) := by
                      rw [List.range_succ, stpOf_snoc, ← HZS.out]
                      show zs.set j y = zs.set j (IntKind.i64.wrap (zs.getD j 0 + fstP t j))
                      rw [hz, HX0.out, hy]
                    have HNX := Lib.hid hnx
                    have HP := Lib.hid hP
                    have hS0i : wi.drew.cell? ⟨gl, j, none⟩ = some (.int .i64 z) ∧ wi.drew.cell? ⟨bt, ot + 2 * j, none⟩ = some (.int .i64 x0) := ⟨cz, cs1⟩
                    have hfd : wi.drew.frozen? ⟨gl, j, none⟩ = false := hP.free j
                    clear hz hnx hln hI hP cz cs1
                    go_wp2_with fail
                    refine wp_region_L (S := fun Y => Y.cell? ⟨gl, j, none⟩ = some (.int .i64 z) ∧ Y.cell? ⟨bt, ot + 2 * j, none⟩ = some (.int .i64 x0)) (z := 13) (by kernel_rfl) hS0i (fun hHeld => ?_)
                    refine todo [0, 1, 2, 3, 4, 5, 6, 7, 8, 9, 10, 11, 12] ?_
                    iterate 13
                     refine todoL (v := ?_) rfl (by kernel_rfl) (fun _ _ _ h => h) (by assumption) (Or.inl ⟨by rfl, ?_⟩) ?_
                     rotate_left
                     · intro w hSw; (try dsimp only at hSw); go_simp; (try with_reducible rfl)
                     try simp only [Act.put, List.getElem_toArray, List.getElem_cons_succ, List.getElem_cons_zero, List.setIfInBounds_toArray, List.set_cons_zero, List.set_cons_succ]
                    refine todone ?_
                    refine wpAnyL_one (i := 13) (by kernel_rfl) rfl (fun K hK => ?sib13)
                    go_simp
                    refine hK.out _ _ (fun h => absurd rfl h) (fun _ => ?mib13)
                    clear hK K
                    try simp only [Act.put, List.getElem_toArray, List.getElem_cons_succ, List.getElem_cons_zero, List.setIfInBounds_toArray, List.set_cons_zero, List.set_cons_succ]
                    refine wpAnyL_done (by kernel_rfl) ?_ _
                    go_wp2_with fail
                    go_roundw
                    case rel => exact ⟨j + 1, _, by go_num, by omega, HNX.out, .inr ⟨gl, rfl, hgB, hmx, PartS.set (show PartS wi.drew gl cl zs from HP.out) j (by rw [HZL.out]; omega) y⟩, setBelow hbi.drew hgB _ _⟩
                    case measure => simp [intOf]; omega
                  · obtain rfl : N = j := by omega
                    have hltJ : ¬ (N : Int) < (N : Int) := by omega
                    have hall9 := HZS.out
                    rw [stpOf_all _ HLN.out] at hall9
                    have hwz : Wid zs := by rw [hall9]; exact Wid.map_range fun i _ => wrap_range _
                    have XA := hI.arg (by rw [HZL.out]; exact hcl) hwz
                    rw [hln] at XA
                    have HLX : Hid (zs.length = s.length) := Lib.hid (by rw [HZL.out, HN.out])
                    have HVN : Hid (LR[k]? = some (elV s L zs)) := Lib.hid (by
                      rw [← HLR.out]
                      unfold slV
                      unfold fillV
                      rw [List.getElem?_map, List.getElem?_range (by have h := HPC.out; rw [HS.out]; omega)]
                      simp only [Option.map_some, Option.some.injEq]
                      rw [HS.out]
                      rw [HL0.out, hall9, HN.out])
                    clear hall9 hln hI HZS
                    have r0 := Q0.out.later hbi
                    have r1 := Q1.out.later hbi
                    have rg := QG.out.later hbi
                    have rs := QS.out.later hbi
                    have hown : OwnE w.heap.size 75 wi v es := QO.out.later hbi
                    have hall : AllE (fun v x => ResA w.heap.size w wi v x m) es (LR.take k) := QA.out.imp fun u x _ h => h.later hbi
                    have hbw : Below w.heap.size w wi := QB.out.trans (hbi.mono hsz)
                    have hszw := hbw.size
                    obtain ⟨r, hrv, hrb, hrne⟩ := hown.hits hszw
                    have n0 := hrne _ _ _ r0 (by decide)
                    have n1 := hrne _ _ _ r1 (by decide)
                    have ng := hrne _ _ _ rg (by decide)
                    have cg1 := rg.cell 1
                    have c00 := r0.cell 0
                    have c01 := r0.cell 1
                    have mkE : ∀ X, Kept r wi X → X.cell? ⟨g, 1, none⟩ = some v ∧ X.cell? ⟨w.heap.size, 0, none⟩ = some (.slice a N ca) ∧ X.cell? ⟨w.heap.size, 1, none⟩ = some (.slice b K cb) ∧ Kept r wi X := fun X h => ⟨h.cell cg1 ng, h.cell c00 n0, h.cell c01 n0, h⟩
                    have hS0e := mkE wi.drew ((Kept.refl r wi).drew)
                    obtain ⟨val, hval⟩ : ∃ x, elV s L (zs) = x := ⟨_, rfl⟩
                    have hat := fun X (h : Below wi.heap.size wi X) => at9_any (w := X) HT.out (hbw.trans (h.mono hszw)) HOK.out.ok HOK.out.len (XA.later h) HLX.out hm
                    rw [hval] at hat
                    have hnv : LR.take (k + 1) = LR.take k ++ [val] := take_nextL (by rw [← hval]; exact HVN.out)
                    have HNV := Lib.hid hnv
                    clear hval hnv
                    go_wp2_with fail
                    refine wp_region_L (S := fun X => X.cell? ⟨g, 1, none⟩ = some v ∧ X.cell? ⟨w.heap.size, 0, none⟩ = some (.slice a N ca) ∧ X.cell? ⟨w.heap.size, 1, none⟩ = some (.slice b K cb) ∧ Kept r wi X) (z := 8) (by kernel_rfl) hS0e (fun hHeld => ?_)
                    refine todo [0, 1, 2, 3] ?_
                    iterate 4
                     refine todoL (v := ?_) rfl (by kernel_rfl) (fun _ _ _ h => h) (by assumption) (Or.inl ⟨by rfl, ?_⟩) ?_
                     rotate_left
                     · intro w hSw; (try dsimp only at hSw); go_simp; (try with_reducible rfl)
                     try simp only [Act.put, List.getElem_toArray, List.getElem_cons_succ, List.getElem_cons_zero, List.setIfInBounds_toArray, List.set_cons_zero, List.set_cons_succ]
                    refine todone ?_
                    refine wpAnyL_one (i := 4) (by kernel_rfl) rfl (fun K hK => ?seb4)
                    go_simp
                    have hbd4 : Below wi.heap.size wi wi.drew := (Below.refl _ _).drew
                    refine (hat _ hbd4).mono ?_
                    rintro e w5 ⟨rv, rfl, qv, hb5⟩
                    have hb5w : Below wi.heap.size wi w5 := hbd4.trans hb5
                    have hB5 : Below w.heap.size w w5 := hbw.trans (hb5w.mono hszw)
                    have Q5 : Hid (ResA w.heap.size w w5 rv val m) := Lib.hid (qv.imp (fun h => h.mono (show w.heap.size ≤ wi.heap.size from hszw)) id)
                    obtain ⟨m5, f1, l1, j1, f2, l2, j2, rfl⟩ := (qv.imp (fun h => h) id : ResA _ _ _ _ _ _).elim (fun h => h.shape) (fun h => h.shape)
                    clear qv
                    go_simp
                    have hk5 : Kept r wi w5 := ((Kept.refl r wi).drew).below hb5
                    refine hK.out _ _ (fun _ => mkE _ hk5) (fun hHeld2 => ?meb4)
                    clear hK K hHeld
                    have hHeld := hHeld2 (by decide)
                    clear hHeld2
                    try simp only [Act.put, List.getElem_toArray, List.getElem_cons_succ, List.getElem_cons_zero, List.setIfInBounds_toArray, List.set_cons_zero, List.set_cons_succ]
                    refine wpAnyL_one (i := 5) (by kernel_rfl) rfl (fun K hK => ?seb5)
                    go_simp
                    refine hK.out _ _ (fun _ => mkE _ (hk5.alloc _)) (fun hHeld2 => ?meb5)
                    clear hK K hHeld
                    have hHeld := hHeld2 (by decide)
                    clear hHeld2
                    try simp only [Act.put, List.getElem_toArray, List.getElem_cons_succ, List.getElem_cons_zero, List.setIfInBounds_toArray, List.set_cons_zero, List.set_cons_succ]
                    refine wpAnyL_one (i := 6) (by kernel_rfl) rfl (fun K hK => ?seb6)
                    have hown5 : OwnE w.heap.size 75 w5 v es := hown.later hb5w
                    have hall5 : AllE (fun v x => ResA w.heap.size w w5 v x m) es (LR.take k) := hall.imp fun u x _ h => h.later hb5w
                    have hsz5 := hB5.size
                    have hle9 := HLE.out
                    refine step_append_ownT rfl _ _ 32 rfl w.heap.size 75 j0 _ 3 56 Tryz.underlying32 hjR hyA hyB hyC rfl (by decide) _ es.length (flat3 es) rfl (hown5.later ((Below.refl _ _).alloc (Nat.le_refl _) _)) ⟨w5.heap.size, 0, none⟩ 1 1 [.bool m5, .slice f1 l1 j1, .slice f2 l2 j2] rfl rfl (cell_three_new _ _ _ _ _) (by simp [Value.oneCell']) (by unfold maxLen; omega) (by omega) (by simp; omega) ?_
                    intro v' w6 hown' hgrow _
                    obtain ⟨av, cv, rfl⟩ := ownT_slice hown'
                    have hk6 : Kept r wi w6 := (hk5.alloc _).grown hgrow hrv
                    refine hK.out _ _ (fun _ => mkE _ hk6) (fun hHeld2 => ?meb6)
                    clear hK K hHeld
                    have hHeld := hHeld2 (by decide)
                    clear hHeld2
                    try simp only [Act.put, List.getElem_toArray, List.getElem_cons_succ, List.getElem_cons_zero, List.setIfInBounds_toArray, List.set_cons_zero, List.set_cons_succ]
                    refine wpAnyL_take (i := 7) (v := ?vea7) rfl (by kernel_rfl) (by kernel_rfl) (by kernel_rfl) (by kernel_rfl) (fun _ _ _ h => h) (Or.inl ⟨by rfl, ?hea7⟩) (by assumption) ?rea7
                    case hea7 =>
                      intro w hSw
                      try dsimp only at hSw
                      go_simp
                      try with_reducible rfl
                    try simp only [Act.put, List.getElem_toArray, List.getElem_cons_succ, List.getElem_cons_zero, List.setIfInBounds_toArray, List.set_cons_zero, List.set_cons_succ]
                    have RG6 := rg.kept hk6 ng
                    have f21 := RG6.free 1
                    have d21 := RG6.cell 1
                    refine wpAnyL_one (i := 8) (by kernel_rfl) rfl (fun K hK => ?seb8)
                    go_simp
                    refine hK.out _ _ (fun h => absurd rfl h) (fun _ => ?meb8)
                    clear hK K
                    try simp only [Act.put, List.getElem_toArray, List.getElem_cons_succ, List.getElem_cons_zero, List.setIfInBounds_toArray, List.set_cons_zero, List.set_cons_succ]
                    refine wpAnyL_done (by kernel_rfl) ?_ _
                    clear hle9
                    go_wp2_with fail
                    go_roundw
                    case rel =>
                      have hx5 : ResA w.heap.size w w5 (E3.agg ⟨.bool m5, .slice f1 l1 j1, .slice f2 l2 j2⟩) val m := Q5.out
                      obtain ⟨hrow6, hb6⟩ := pushE2 (P := (fun W v x => ResA w.heap.size w W v x m)) (e := ⟨.bool m5, .slice f1 l1 j1, .slice f2 l2 j2⟩) hB5 (Nat.le_refl _) hsz5 hown5 hall5 hx5 (fun u y h => ResA.apart hown5 hgrow (by decide) h) hown' hgrow
                      rw [HLE.out] at hrow6
                      have rs6 : ResS w.heap.size w6 (.slice a3 N c3) S := ResS.apart hown5 hgrow (by decide) (rs.later hb5w)
                      refine ⟨k + 1, _, by go_num, by omega, (r0.kept hk6 n0).far (by show w.heap.size ≠ g; omega) _, (r1.kept hk6 n1).far (by show w.heap.size + 1 ≠ g; omega) _, RG6.set21 _, rs6.far RG6 (by decide) (kept1 _), ?_, hb6.setCell (by show w.heap.size ≤ g; omega) _⟩
                      rw [HNV.out]
                      exact hrow6.far RG6 (by decide) (kept1 _) (fun u y h => h.far RG6 (by decide) (kept1 _))
                    case measure => simp [intOf]; omega
              · obtain rfl : k = CN := by omega
                have hkC : ¬ (k : Int) < (k : Int) := by omega
                have hcnt := fun X (h : Below wr.heap.size wr X) => count9_any (A3.later h) HOKS.out.pos (by have := HOKS.out.rank; omega)
                rw [cntR_ok HOKS.out, HPC.out] at hcnt
                go_wp2_with fail
                refine (hcnt _ (Below.refl _ _)).mono ?_
                rintro e wq ⟨rfl, rfl⟩
                clear hcnt
                have hall := QA.out
                have hown := QO.out
                rw [List.take_of_length_le (by have h := HRES.out; omega)] at hall
                obtain ⟨av, cv, rfl⟩ := ownT_slice hown
                have hel : es.length = k := HLE.out
                have HRG := QG.out
                rw [hel] at HRG hown
                have c20 := HRG.cell 0
                have d21 := HRG.cell 1
                obtain ⟨g10, g11, f10, f11⟩ := Q1.out.two
                have RRs := Q1.out.set2 (.slice a3 N c3) (.slice av k cv)
                obtain ⟨z0, z1, _, _⟩ := RRs.two
                have HOWN := Lib.hid hown
                have HALL := Lib.hid hall
                clear hown hall RRs hel cg0 cg1 c01 rg r0
                go_wp2_with fail
                have hbE := below_set2 QB.out (show w.heap.size ≤ w.heap.size + 1 by omega) (.slice a3 N c3) (.slice av k cv)
                have hsE : ResS w.heap.size _ (.slice a3 N c3) S := QS.out.far Q1.out (by decide) (kept2 (.slice a3 N c3) (.slice av k cv))
                have hrE := RowO.far (P := (fun W v x => ResA w.heap.size w W v x m)) ⟨es, HOWN.out, HALL.out⟩ Q1.out (by decide) (kept2 (.slice a3 N c3) (.slice av k cv)) (fun u y h => h.far Q1.out (by decide) (kept2 _ _))
                have hfin := tenR_of (n := m) (s := S) (L := LR) (a := a3) (ca := c3) (b := av) (cb := cv) (m := k) HRES.out.symm hbE (by rw [HML.out]; exact hsE) (hrE.mono (by omega) (fun v x h => h))
                rw [HML.out] at hfin
                exact bodyPost_ret (v := .tuple #[.agg #[.slice a3 N c3, .slice av k cv], .int .i64 0]) (by simp [results, Tryz.results25, go_sem, z0, z1]) rfl ⟨⟨_, rfl, ⟨_, _, _, _, _, _, rfl⟩, fun _ => hfin⟩, hbE⟩
  · have hlI : ((Q : Int) != 2 * (N : Int)) = true := by simp; omega
    obtain rfl : c = 11 := by rw [← HC.out]; exact slC_len (by rw [HQ.out, HN.out]; exact hlen)
    clear hlen
    go_enter Tryz.func25, Tryz.ntmps25
    have hb : Below W.heap.size W W := Below.refl _ _
    have P1 := H1.out.later hb
    obtain ⟨u0, u1, g0', g1'⟩ := P1.two
    have P3 := P1.set2 (.slice none 0 0) (.slice none 0 0)
    obtain ⟨z0, z1, _, _⟩ := P3.two
    have hBE := below_set2 (HB.out.trans ((hb : Below W.heap.size W _).mono (by omega))) (show w.heap.size ≤ w.heap.size + 1 by omega) (.slice none 0 0) (.slice none 0 0)
    go_wp2_with fail
    (try rw [hW])
    refine bodyPost_ret (v := .tuple #[noTensor, .int .i64 11]) (by simp [results, Tryz.results25, go_sem, z0, z1, noTensor]) rfl ⟨⟨_, rfl, ⟨none, 0, 0, none, 0, 0, rfl⟩, fun h => by cases h⟩, hBE⟩
end Go.Proofs.YtooglnhlhgmhdaaGreat
