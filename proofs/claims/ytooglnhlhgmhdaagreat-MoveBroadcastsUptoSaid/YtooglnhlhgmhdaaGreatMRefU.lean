/-
  The reference of layer 9: Broadcast. (Made by wip/gen/gen_mrefu.py.)
-/
import Derived.Test.YtooglnhlhgmhdaaGreatMRef0
import Derived.Test.YtooglnhlhgmhdaaGreatK32
namespace Go.Proofs.YtooglnhlhgmhdaaGreat
open Go.RowKit
set_option linter.unusedVariables false
set_option linter.unusedSimpArgs false

theorem fit_at9 {f t : List Int} (h : fitC f t = 0) {i : Nat} (hi : i < f.length) : f.getD i 0 = 1 ∨ f.getD i 0 = t.getD (t.length - f.length + i) 0 := by
  have hl := fit_len h
  have h3 := ((fitC_is h).2.2 (f.length - i) (by omega) (by omega)).2
  unfold backS at h3
  rw [if_neg (by omega), if_neg (by omega), show f.length - (f.length - i) = i by omega, show t.length - (f.length - i) = t.length - f.length + i by omega] at h3
  exact h3
theorem fit_of9 {f t : List Int} (h1 : OkS f) (h2 : OkS t) (hl : f.length ≤ t.length) (h : ∀ i, i < f.length → f.getD i 0 = 1 ∨ f.getD i 0 = t.getD (t.length - f.length + i) 0) : fitC f t = 0 := fitC_of h1 h2 fun j a b => by
  have h3 := h2.pos.getD (i := t.length - j) (by omega)
  have h4 := h (f.length - j) (by omega)
  unfold backS
  rw [if_neg (by omega), if_neg (by omega)]
  rw [show t.length - f.length + (f.length - j) = t.length - j by omega] at h4
  exact ⟨by omega, h4⟩
theorem fit_short9 {f t : List Int} (h1 : OkS f) (h2 : OkS t) (hl : t.length < f.length) : fitC f t = 13 := fitC_bad (mayC_ok h1) (mayC_ok h2) fun hu => by
  have := fit_len (fitC_of h1 h2 hu)
  omega
theorem fit_not9 {f t : List Int} (h1 : OkS f) (h2 : OkS t) {i : Nat} (hi : i < f.length) (h : f.getD i 0 ≠ 1) (h' : f.getD i 0 ≠ t.getD (t.length - f.length + i) 0) : fitC f t = 13 := fitC_bad (mayC_ok h1) (mayC_ok h2) fun hu => by
  rcases fit_at9 (fitC_of h1 h2 hu) hi with g | g
  · exact h g
  · exact h' g
theorem FillB.skip {s xs zs : List Int} {k r : Nat} (h : FillB s xs zs k r) (e : xs.getD (k + r) 0 % s.getD r 0 = xs.getD (k + r) 0) : FillB s xs zs k (r + 1) := by
  obtain ⟨h1, h2, h3⟩ := h
  refine ⟨h1, fun i hi => ?_, fun i hi => h3 i (by omega)⟩
  by_cases g : i = r
  · subst g
    rw [e]
    exact h3 _ (Nat.le_refl _)
  · exact h2 i (by omega)
def bcT (t : List Int) : List Int := t
theorem wid_ok9 {s : List Int} (ok : OkS s) : Wid s := fun x hx => by
  obtain ⟨i, hi, rfl⟩ := List.mem_iff_getElem.1 hx
  have e1 := ok.pos.getD hi
  have e2 := getD_le_prod ok.pos hi
  have e3 := ok.few
  rw [getD_elem hi] at e1 e2
  omega
set_option maxRecDepth 100000 in
set_option maxHeartbeats 40000000 in
theorem broadR_any {m : Nat} {w : World} {v : Value} {s t : List Int} {L : List Rat} {ad : Option Addr} {cd : Nat} (T : TenR w v s L m) (ok : Ok9 s L.length) (D : ArgS w (.slice ad t.length cd) t ad cd) (nd : ad = none → cd = 0) (ht : t.length ≤ 8000000) (hm : 6 ≤ m) :
    Calls Tryz.prog 23 #[v, .slice ad t.length cd] w fun e w' => RefA w' e (fitC s t) (bcT t) (bcV s t L) m ∧ Below w.heap.size w w' := by
  obtain ⟨i0, hiS, hz0, hz1, hz2⟩ := info_parts infoS
  obtain ⟨j0, hjR, hyA, hyB, hyC⟩ := info_parts infoR
  obtain ⟨a, ca, b, cb, T⟩ := T
  obtain rfl := T.is
  have HOK := Lib.hid ok
  have HND := Lib.hid nd
  have hle := ok.le
  obtain ⟨N, hN⟩ : ∃ N, s.length = N := ⟨_, rfl⟩
  obtain ⟨K, hK⟩ : ∃ K, L.length = K := ⟨_, rfl⟩
  obtain ⟨Q, hQ⟩ : ∃ Q, t.length = Q := ⟨_, rfl⟩
  have HN := Lib.hid hN
  have HK := Lib.hid hK
  have HQ := Lib.hid hQ
  rw [hN, hK] at T
  rw [hN, hK] at hle
  rw [hQ] at D ht
  rw [hN, hK, hQ]
  have HT : Hid (TensR w (.agg #[.slice a N ca, .slice b K cb]) s L m a ca b cb) := Lib.hid T
  have HD : Hid (ArgS w (.slice ad Q cd) t ad cd) := Lib.hid D
  obtain ⟨c, hc⟩ : ∃ c, fitC s t = c := ⟨_, rfl⟩
  obtain ⟨S, hS⟩ : ∃ S, bcT t = S := ⟨_, rfl⟩
  obtain ⟨LR, hLR⟩ : ∃ LR, bcV s t L = LR := ⟨_, rfl⟩
  have HC := Lib.hid hc
  have HS := Lib.hid hS
  have HLR := Lib.hid hLR
  rw [hc, hS, hLR]
  obtain ⟨W, hW⟩ : ∃ W, ((w.alloc (.cells #[.slice a N ca, .slice b K cb] 34)).alloc (.cells #[.slice none 0 0, .slice none 0 0] 34)) = W := ⟨_, rfl⟩
  have R0 : Row W w.heap.size 34 #[.slice a N ca, .slice b K cb] := by rw [← hW]; exact (Row.new _ _ _).alloc _
  have R1 : Row W (w.heap.size + 1) 34 #[.slice none 0 0, .slice none 0 0] := by rw [← hW]; have h := Row.new (w.alloc (.cells #[.slice a N ca, .slice b K cb] 34)) 34 #[.slice none 0 0, .slice none 0 0]; simp only [World.size_alloc] at h; exact h
  have hBW : Below w.heap.size w W := by rw [← hW]; exact ((Below.refl _ _).alloc (Nat.le_refl _) _).alloc (by simp) _
  have hsW : W.heap.size = w.heap.size + 1 + 1 := by rw [← hW]; simp
  have H0 := Lib.hid R0
  have H1 := Lib.hid R1
  have HB := Lib.hid hBW
  have tsh : ∀ X, Below w.heap.size w X → ArgS X (.slice a N ca) s a ca := fun X h => by
    have h1 := HT.out.sh.later h
    rw [HN.out] at h1
    exact h1
  have TSH := Lib.hid tsh
  have dX : ∀ X, Below w.heap.size w X → ArgS X (.slice ad Q cd) t ad cd := fun X h => HD.out.later h
  have DX := Lib.hid dX
  have zW : w.heap.size < W.heap.size := by omega
  obtain ⟨p0, p1, _, _⟩ := R0.two
  have hmy := mayR6_any (dX W hBW)
  obtain ⟨p, hp⟩ : ∃ p, mayC t = p := ⟨_, rfl⟩
  rw [hp] at hmy
  have HP := Lib.hid hp
  have HTS : Hid (t = S) := Lib.hid hS
  clear hp
  clear T ok D nd hN hK hQ hc hS hLR R0 R1 hBW tsh dX
  by_cases h0 : p = 0
  · obtain rfl := h0
    have okT := mayC_zero.1 HP.out
    have HOT := Lib.hid okT
    have hQ4 := okT.rank
    rw [HQ.out] at hQ4
    clear okT
    by_cases hlk : Q < N
    · have v7 : IntKind.i64.wrap ((Q : Int) - (N : Int)) = (Q : Int) - (N : Int) := wrap_i64 (by omega) (by omega)
      have hd : decide ((Q : Int) - (N : Int) < 0) = true := decide_eq_true (by omega)
      obtain rfl : c = 13 := by rw [← HC.out]; exact fit_short9 HOK.out.ok HOT.out (by rw [HQ.out, HN.out]; exact hlk)
      go_enter Tryz.func23, Tryz.ntmps23
      go_wp2_with fail
      (try rw [hW])
      refine hmy.mono ?_
      rintro e W1 ⟨rfl, hEq⟩
      have hb : Below W.heap.size W W1 := by rw [← hEq]; exact Below.refl _ _
      have hbw : Below w.heap.size w W1 := HB.out.trans (hb.mono (by omega))
      obtain ⟨k0, k1, _, _⟩ := (H0.out.later hb).two
      clear hEq hW p0 p1 hmy
      have P1 := H1.out.later hb
      obtain ⟨u0, u1, g0', g1'⟩ := P1.two
      have P3 := P1.set2 (.slice none 0 0) (.slice none 0 0)
      obtain ⟨z0, z1, _, _⟩ := P3.two
      have hBE := below_set2 (HB.out.trans ((hb : Below W.heap.size W _).mono (by omega))) (show w.heap.size ≤ w.heap.size + 1 by omega) (.slice none 0 0) (.slice none 0 0)
      go_wp2_with fail
      refine bodyPost_ret (v := .tuple #[noTensor, .int .i64 13]) (by simp [results, Tryz.results23, go_sem, z0, z1, noTensor]) rfl ⟨⟨_, rfl, ⟨none, 0, 0, none, 0, 0, rfl⟩, fun h => by cases h⟩, hBE⟩
    · obtain ⟨lk, hlk1⟩ : ∃ lk, Q - N = lk := ⟨_, rfl⟩
      have v7 : IntKind.i64.wrap ((Q : Int) - (N : Int)) = (lk : Int) := by rw [wrap_i64 (by omega) (by omega)]; omega
      have hq1 : Q ≤ lk + N ∧ lk + N ≤ Q := by omega
      have HLK : Hid (t.length - s.length = lk) := Lib.hid (by rw [HQ.out, HN.out]; exact hlk1)
      have hd : decide ((lk : Int) < 0) = false := decide_eq_false (by omega)
      clear hlk1 hlk
      go_enter Tryz.func23, Tryz.ntmps23
      go_wp2_with fail
      (try rw [hW])
      refine hmy.mono ?_
      rintro e W1 ⟨rfl, hEq⟩
      have hb : Below W.heap.size W W1 := by rw [← hEq]; exact Below.refl _ _
      have hbw : Below w.heap.size w W1 := HB.out.trans (hb.mono (by omega))
      obtain ⟨k0, k1, _, _⟩ := (H0.out.later hb).two
      have HB0 := Lib.hid hb
      clear hEq hW p0 p1 hmy hb hbw
      go_wp2_with fail
      clear k0 k1 v7 hd
      go_loopw [8] (fun i W2 => ∃ (k : Nat), i = .int .i64 (k : Int) ∧ k ≤ N ∧ (∀ j, j < k → s.getD j 0 = 1 ∨ s.getD j 0 = t.getD (lk + j) 0) ∧ Below W.heap.size W W2) (fun i _ => N - (intOf i).toNat)
      case atStart => exact ⟨0, rfl, Nat.zero_le _, (fun j hj => by omega), HB0.out⟩
      case round =>
        rename World => W2
        obtain ⟨k, rfl, hk, hgd, hb⟩ := hrel
        have hbw : Below w.heap.size w W2 := HB.out.trans (hb.mono (by omega))
        have hsz := hb.size
        have HGD := Lib.hid hgd
        obtain ⟨k0, k1, _, _⟩ := (H0.out.later hb).two
        clear hgd
        by_cases hlt : k < N
        · have hltI : (k : Int) < (N : Int) := by omega
          have hks : k < s.length := by rw [HN.out]; exact hlt
          have hkt : lk + k < t.length := by rw [HQ.out]; omega
          obtain ⟨bt, ot, rfl, cs1⟩ := (DX.out _ hbw).at (i := lk + k) hkt
          obtain ⟨bs, os, rfl, cs3⟩ := (TSH.out _ hbw).at (i := k) hks
          obtain ⟨y, hy⟩ : ∃ x, t.getD (lk + k) 0 = x := ⟨_, rfl⟩
          obtain ⟨d, hd⟩ : ∃ x, s.getD k 0 = x := ⟨_, rfl⟩
          rw [hy] at cs1
          rw [hd] at cs3
          have HY := Lib.hid hy
          have HDD := Lib.hid hd
          have w1 : IntKind.i64.wrap ((lk : Int) + (k : Int)) = (lk : Int) + (k : Int) := wrap_i64 (by omega) (by omega)
          have n1 : ((lk : Int) + (k : Int)).toNat = lk + k := by omega
          have j0' : (0 : Int) ≤ (lk : Int) + (k : Int) := by omega
          have j1 : (lk : Int) + (k : Int) < (Q : Int) := by omega
          have hcells : W2.drew.cell? ⟨w.heap.size, 0, none⟩ = some (.slice (some ⟨bs, os, none⟩) N ca) ∧ W2.drew.cell? ⟨bs, os + k, none⟩ = some (.int .i64 d) ∧ W2.drew.cell? ⟨bt, ot + (lk + k), none⟩ = some (.int .i64 y) := ⟨k0, cs3, cs1⟩
          clear hy hd hkt hks
          by_cases h1 : d = 1
          · have he : (d != 1) = false := by simp [h1]
            clear h1
            go_wp2_with fail
            refine wp_region_held (S := fun Y => Y.cell? ⟨w.heap.size, 0, none⟩ = some (.slice (some ⟨bs, os, none⟩) N ca) ∧ Y.cell? ⟨bs, os + k, none⟩ = some (.int .i64 d) ∧ Y.cell? ⟨bt, ot + (lk + k), none⟩ = some (.int .i64 y)) (by kernel_rfl) ?_
            have hHeld := hcells
            refine wpAnyH_take (i := 0) (v := ?vqa0a0) rfl (by kernel_rfl) (by kernel_rfl) (by kernel_rfl) (fun _ _ _ h => h) (Or.inl ⟨by rfl, ?hqa0a0⟩) (by assumption) ?rqa0a0
            case hqa0a0 =>
              intro w hSw
              try dsimp only at hSw
              go_simp
              try with_reducible rfl
            try simp only [Act.put, List.getElem_toArray, List.getElem_cons_succ, List.getElem_cons_zero, List.setIfInBounds_toArray, List.set_cons_zero, List.set_cons_succ]
            refine wpAnyH_take (i := 1) (v := ?vqa0a1) rfl (by kernel_rfl) (by kernel_rfl) (by kernel_rfl) (fun _ _ _ h => h) (Or.inl ⟨by rfl, ?hqa0a1⟩) (by assumption) ?rqa0a1
            case hqa0a1 =>
              intro w hSw
              try dsimp only at hSw
              go_simp
              try with_reducible rfl
            try simp only [Act.put, List.getElem_toArray, List.getElem_cons_succ, List.getElem_cons_zero, List.setIfInBounds_toArray, List.set_cons_zero, List.set_cons_succ]
            refine wpAnyH_take (i := 2) (v := ?vqa0a2) rfl (by kernel_rfl) (by kernel_rfl) (by kernel_rfl) (fun _ _ _ h => h) (Or.inl ⟨by rfl, ?hqa0a2⟩) (by assumption) ?rqa0a2
            case hqa0a2 =>
              intro w hSw
              try dsimp only at hSw
              go_simp
              try with_reducible rfl
            try simp only [Act.put, List.getElem_toArray, List.getElem_cons_succ, List.getElem_cons_zero, List.setIfInBounds_toArray, List.set_cons_zero, List.set_cons_succ]
            refine wpAnyH_take (i := 3) (v := ?vqa0a3) rfl (by kernel_rfl) (by kernel_rfl) (by kernel_rfl) (fun _ _ _ h => h) (Or.inl ⟨by rfl, ?hqa0a3⟩) (by assumption) ?rqa0a3
            case hqa0a3 =>
              intro w hSw
              try dsimp only at hSw
              go_simp
              try with_reducible rfl
            try simp only [Act.put, List.getElem_toArray, List.getElem_cons_succ, List.getElem_cons_zero, List.setIfInBounds_toArray, List.set_cons_zero, List.set_cons_succ]
            refine wpAnyH_take (i := 4) (v := ?vqa0a4) rfl (by kernel_rfl) (by kernel_rfl) (by kernel_rfl) (fun _ _ _ h => h) (Or.inl ⟨by rfl, ?hqa0a4⟩) (by assumption) ?rqa0a4
            case hqa0a4 =>
              intro w hSw
              try dsimp only at hSw
              go_simp
              try with_reducible rfl
            try simp only [Act.put, List.getElem_toArray, List.getElem_cons_succ, List.getElem_cons_zero, List.setIfInBounds_toArray, List.set_cons_zero, List.set_cons_succ]
            refine wpAnyH_take (i := 5) (v := ?vqa0a5) rfl (by kernel_rfl) (by kernel_rfl) (by kernel_rfl) (fun _ _ _ h => h) (Or.inl ⟨by rfl, ?hqa0a5⟩) (by assumption) ?rqa0a5
            case hqa0a5 =>
              intro w hSw
              try dsimp only at hSw
              go_simp
              try with_reducible rfl
            try simp only [Act.put, List.getElem_toArray, List.getElem_cons_succ, List.getElem_cons_zero, List.setIfInBounds_toArray, List.set_cons_zero, List.set_cons_succ]
            refine wpAnyH_take (i := 6) (v := ?vqa0a6) rfl (by kernel_rfl) (by kernel_rfl) (by kernel_rfl) (fun _ _ _ h => h) (Or.inl ⟨by rfl, ?hqa0a6⟩) (by assumption) ?rqa0a6
            case hqa0a6 =>
              intro w hSw
              try dsimp only at hSw
              go_simp
              try with_reducible rfl
            try simp only [Act.put, List.getElem_toArray, List.getElem_cons_succ, List.getElem_cons_zero, List.setIfInBounds_toArray, List.set_cons_zero, List.set_cons_succ]
            refine wpAnyH_take (i := 7) (v := undef) rfl (by kernel_rfl) (by kernel_rfl) (by kernel_rfl) (fun _ _ _ h => h) (Or.inr ⟨by rfl, rfl⟩) (by assumption) ?rqa0s7
            try simp only [Act.put, List.getElem_toArray, List.getElem_cons_succ, List.getElem_cons_zero, List.setIfInBounds_toArray, List.set_cons_zero, List.set_cons_succ]
            refine wpAnyH_take (i := 8) (v := undef) rfl (by kernel_rfl) (by kernel_rfl) (by kernel_rfl) (fun _ _ _ h => h) (Or.inr ⟨by rfl, rfl⟩) (by assumption) ?rqa0s8
            try simp only [Act.put, List.getElem_toArray, List.getElem_cons_succ, List.getElem_cons_zero, List.setIfInBounds_toArray, List.set_cons_zero, List.set_cons_succ]
            refine wpAnyH_take (i := 9) (v := undef) rfl (by kernel_rfl) (by kernel_rfl) (by kernel_rfl) (fun _ _ _ h => h) (Or.inr ⟨by rfl, rfl⟩) (by assumption) ?rqa0s9
            try simp only [Act.put, List.getElem_toArray, List.getElem_cons_succ, List.getElem_cons_zero, List.setIfInBounds_toArray, List.set_cons_zero, List.set_cons_succ]
            refine wpAnyH_take (i := 10) (v := undef) rfl (by kernel_rfl) (by kernel_rfl) (by kernel_rfl) (fun _ _ _ h => h) (Or.inr ⟨by rfl, rfl⟩) (by assumption) ?rqa0s10
            try simp only [Act.put, List.getElem_toArray, List.getElem_cons_succ, List.getElem_cons_zero, List.setIfInBounds_toArray, List.set_cons_zero, List.set_cons_succ]
            refine wpAnyH_take (i := 11) (v := undef) rfl (by kernel_rfl) (by kernel_rfl) (by kernel_rfl) (fun _ _ _ h => h) (Or.inr ⟨by rfl, rfl⟩) (by assumption) ?rqa0s11
            try simp only [Act.put, List.getElem_toArray, List.getElem_cons_succ, List.getElem_cons_zero, List.setIfInBounds_toArray, List.set_cons_zero, List.set_cons_succ]
            refine wpAnyH_take (i := 12) (v := undef) rfl (by kernel_rfl) (by kernel_rfl) (by kernel_rfl) (fun _ _ _ h => h) (Or.inr ⟨by rfl, rfl⟩) (by assumption) ?rqa0s12
            try simp only [Act.put, List.getElem_toArray, List.getElem_cons_succ, List.getElem_cons_zero, List.setIfInBounds_toArray, List.set_cons_zero, List.set_cons_succ]
            refine wpAnyH_take (i := 13) (v := undef) rfl (by kernel_rfl) (by kernel_rfl) (by kernel_rfl) (fun _ _ _ h => h) (Or.inr ⟨by rfl, rfl⟩) (by assumption) ?rqa0s13
            try simp only [Act.put, List.getElem_toArray, List.getElem_cons_succ, List.getElem_cons_zero, List.setIfInBounds_toArray, List.set_cons_zero, List.set_cons_succ]
            refine wpAnyH_take (i := 14) (v := undef) rfl (by kernel_rfl) (by kernel_rfl) (by kernel_rfl) (fun _ _ _ h => h) (Or.inr ⟨by rfl, rfl⟩) (by assumption) ?rqa0s14
            try simp only [Act.put, List.getElem_toArray, List.getElem_cons_succ, List.getElem_cons_zero, List.setIfInBounds_toArray, List.set_cons_zero, List.set_cons_succ]
            refine wpAnyH_take (i := 15) (v := undef) rfl (by kernel_rfl) (by kernel_rfl) (by kernel_rfl) (fun _ _ _ h => h) (Or.inr ⟨by rfl, rfl⟩) (by assumption) ?rqa0s15
            try simp only [Act.put, List.getElem_toArray, List.getElem_cons_succ, List.getElem_cons_zero, List.setIfInBounds_toArray, List.set_cons_zero, List.set_cons_succ]
            refine wpAnyH_take (i := 16) (v := undef) rfl (by kernel_rfl) (by kernel_rfl) (by kernel_rfl) (fun _ _ _ h => h) (Or.inr ⟨by rfl, rfl⟩) (by assumption) ?rqa0s16
            try simp only [Act.put, List.getElem_toArray, List.getElem_cons_succ, List.getElem_cons_zero, List.setIfInBounds_toArray, List.set_cons_zero, List.set_cons_succ]
            refine wpAnyH_take (i := 17) (v := undef) rfl (by kernel_rfl) (by kernel_rfl) (by kernel_rfl) (fun _ _ _ h => h) (Or.inr ⟨by rfl, rfl⟩) (by assumption) ?rqa0s17
            try simp only [Act.put, List.getElem_toArray, List.getElem_cons_succ, List.getElem_cons_zero, List.setIfInBounds_toArray, List.set_cons_zero, List.set_cons_succ]
            refine wpAnyH_take (i := 18) (v := undef) rfl (by kernel_rfl) (by kernel_rfl) (by kernel_rfl) (fun _ _ _ h => h) (Or.inr ⟨by rfl, rfl⟩) (by assumption) ?rqa0s18
            try simp only [Act.put, List.getElem_toArray, List.getElem_cons_succ, List.getElem_cons_zero, List.setIfInBounds_toArray, List.set_cons_zero, List.set_cons_succ]
            refine wpAnyH_take (i := 19) (v := ?vqa0a19) rfl (by kernel_rfl) (by kernel_rfl) (by kernel_rfl) (fun _ _ _ h => h) (Or.inl ⟨by rfl, ?hqa0a19⟩) (by assumption) ?rqa0a19
            case hqa0a19 =>
              intro w hSw
              try dsimp only at hSw
              go_simp
              try with_reducible rfl
            try simp only [Act.put, List.getElem_toArray, List.getElem_cons_succ, List.getElem_cons_zero, List.setIfInBounds_toArray, List.set_cons_zero, List.set_cons_succ]
            refine wpAnyH_done (by kernel_rfl) ?_ _
            go_wp2_with fail
            go_roundw
            case rel =>
              refine ⟨k + 1, by go_num, by omega, fun j hj => ?_, hb.drew⟩
              by_cases e : j = k
              · subst e
                rw [HDD.out, HY.out]
                exact .inl (by simpa using he)
              · exact HGD.out j (by omega)
            case measure => simp [intOf]; omega
          · have he : (d != 1) = true := by simp [h1]
            by_cases h2 : d = y
            · have he2 : (d != y) = false := by simp [h2]
              have H2 := Lib.hid h2
              clear h1 h2
              go_wp2_with fail
              refine wp_region_held (S := fun Y => Y.cell? ⟨w.heap.size, 0, none⟩ = some (.slice (some ⟨bs, os, none⟩) N ca) ∧ Y.cell? ⟨bs, os + k, none⟩ = some (.int .i64 d) ∧ Y.cell? ⟨bt, ot + (lk + k), none⟩ = some (.int .i64 y)) (by kernel_rfl) ?_
              have hHeld := hcells
              refine wpAnyH_take (i := 0) (v := ?vqb0a0) rfl (by kernel_rfl) (by kernel_rfl) (by kernel_rfl) (fun _ _ _ h => h) (Or.inl ⟨by rfl, ?hqb0a0⟩) (by assumption) ?rqb0a0
              case hqb0a0 =>
                intro w hSw
                try dsimp only at hSw
                go_simp
                try with_reducible rfl
              try simp only [Act.put, List.getElem_toArray, List.getElem_cons_succ, List.getElem_cons_zero, List.setIfInBounds_toArray, List.set_cons_zero, List.set_cons_succ]
              refine wpAnyH_take (i := 1) (v := ?vqb0a1) rfl (by kernel_rfl) (by kernel_rfl) (by kernel_rfl) (fun _ _ _ h => h) (Or.inl ⟨by rfl, ?hqb0a1⟩) (by assumption) ?rqb0a1
              case hqb0a1 =>
                intro w hSw
                try dsimp only at hSw
                go_simp
                try with_reducible rfl
              try simp only [Act.put, List.getElem_toArray, List.getElem_cons_succ, List.getElem_cons_zero, List.setIfInBounds_toArray, List.set_cons_zero, List.set_cons_succ]
              refine wpAnyH_take (i := 2) (v := ?vqb0a2) rfl (by kernel_rfl) (by kernel_rfl) (by kernel_rfl) (fun _ _ _ h => h) (Or.inl ⟨by rfl, ?hqb0a2⟩) (by assumption) ?rqb0a2
              case hqb0a2 =>
                intro w hSw
                try dsimp only at hSw
                go_simp
                try with_reducible rfl
              try simp only [Act.put, List.getElem_toArray, List.getElem_cons_succ, List.getElem_cons_zero, List.setIfInBounds_toArray, List.set_cons_zero, List.set_cons_succ]
              refine wpAnyH_take (i := 3) (v := ?vqb0a3) rfl (by kernel_rfl) (by kernel_rfl) (by kernel_rfl) (fun _ _ _ h => h) (Or.inl ⟨by rfl, ?hqb0a3⟩) (by assumption) ?rqb0a3
              case hqb0a3 =>
                intro w hSw
                try dsimp only at hSw
                go_simp
                try with_reducible rfl
              try simp only [Act.put, List.getElem_toArray, List.getElem_cons_succ, List.getElem_cons_zero, List.setIfInBounds_toArray, List.set_cons_zero, List.set_cons_succ]
              refine wpAnyH_take (i := 4) (v := ?vqb0a4) rfl (by kernel_rfl) (by kernel_rfl) (by kernel_rfl) (fun _ _ _ h => h) (Or.inl ⟨by rfl, ?hqb0a4⟩) (by assumption) ?rqb0a4
              case hqb0a4 =>
                intro w hSw
                try dsimp only at hSw
                go_simp
                try with_reducible rfl
              try simp only [Act.put, List.getElem_toArray, List.getElem_cons_succ, List.getElem_cons_zero, List.setIfInBounds_toArray, List.set_cons_zero, List.set_cons_succ]
              refine wpAnyH_take (i := 5) (v := ?vqb0a5) rfl (by kernel_rfl) (by kernel_rfl) (by kernel_rfl) (fun _ _ _ h => h) (Or.inl ⟨by rfl, ?hqb0a5⟩) (by assumption) ?rqb0a5
              case hqb0a5 =>
                intro w hSw
                try dsimp only at hSw
                go_simp
                try with_reducible rfl
              try simp only [Act.put, List.getElem_toArray, List.getElem_cons_succ, List.getElem_cons_zero, List.setIfInBounds_toArray, List.set_cons_zero, List.set_cons_succ]
              refine wpAnyH_take (i := 6) (v := ?vqb0a6) rfl (by kernel_rfl) (by kernel_rfl) (by kernel_rfl) (fun _ _ _ h => h) (Or.inl ⟨by rfl, ?hqb0a6⟩) (by assumption) ?rqb0a6
              case hqb0a6 =>
                intro w hSw
                try dsimp only at hSw
                go_simp
                try with_reducible rfl
              try simp only [Act.put, List.getElem_toArray, List.getElem_cons_succ, List.getElem_cons_zero, List.setIfInBounds_toArray, List.set_cons_zero, List.set_cons_succ]
              refine wpAnyH_take (i := 7) (v := ?vqb0a7) rfl (by kernel_rfl) (by kernel_rfl) (by kernel_rfl) (fun _ _ _ h => h) (Or.inl ⟨by rfl, ?hqb0a7⟩) (by assumption) ?rqb0a7
              case hqb0a7 =>
                intro w hSw
                try dsimp only at hSw
                go_simp
                try with_reducible rfl
              try simp only [Act.put, List.getElem_toArray, List.getElem_cons_succ, List.getElem_cons_zero, List.setIfInBounds_toArray, List.set_cons_zero, List.set_cons_succ]
              refine wpAnyH_take (i := 8) (v := ?vqb0a8) rfl (by kernel_rfl) (by kernel_rfl) (by kernel_rfl) (fun _ _ _ h => h) (Or.inl ⟨by rfl, ?hqb0a8⟩) (by assumption) ?rqb0a8
              case hqb0a8 =>
                intro w hSw
                try dsimp only at hSw
                go_simp
                try with_reducible rfl
              try simp only [Act.put, List.getElem_toArray, List.getElem_cons_succ, List.getElem_cons_zero, List.setIfInBounds_toArray, List.set_cons_zero, List.set_cons_succ]
              refine wpAnyH_take (i := 9) (v := ?vqb0a9) rfl (by kernel_rfl) (by kernel_rfl) (by kernel_rfl) (fun _ _ _ h => h) (Or.inl ⟨by rfl, ?hqb0a9⟩) (by assumption) ?rqb0a9
              case hqb0a9 =>
                intro w hSw
                try dsimp only at hSw
                go_simp
                try with_reducible rfl
              try simp only [Act.put, List.getElem_toArray, List.getElem_cons_succ, List.getElem_cons_zero, List.setIfInBounds_toArray, List.set_cons_zero, List.set_cons_succ]
              refine wpAnyH_take (i := 10) (v := ?vqb0a10) rfl (by kernel_rfl) (by kernel_rfl) (by kernel_rfl) (fun _ _ _ h => h) (Or.inl ⟨by rfl, ?hqb0a10⟩) (by assumption) ?rqb0a10
              case hqb0a10 =>
                intro w hSw
                try dsimp only at hSw
                go_simp
                try with_reducible rfl
              try simp only [Act.put, List.getElem_toArray, List.getElem_cons_succ, List.getElem_cons_zero, List.setIfInBounds_toArray, List.set_cons_zero, List.set_cons_succ]
              refine wpAnyH_take (i := 11) (v := ?vqb0a11) rfl (by kernel_rfl) (by kernel_rfl) (by kernel_rfl) (fun _ _ _ h => h) (Or.inl ⟨by rfl, ?hqb0a11⟩) (by assumption) ?rqb0a11
              case hqb0a11 =>
                intro w hSw
                try dsimp only at hSw
                go_simp
                try with_reducible rfl
              try simp only [Act.put, List.getElem_toArray, List.getElem_cons_succ, List.getElem_cons_zero, List.setIfInBounds_toArray, List.set_cons_zero, List.set_cons_succ]
              refine wpAnyH_take (i := 12) (v := ?vqb0a12) rfl (by kernel_rfl) (by kernel_rfl) (by kernel_rfl) (fun _ _ _ h => h) (Or.inl ⟨by rfl, ?hqb0a12⟩) (by assumption) ?rqb0a12
              case hqb0a12 =>
                intro w hSw
                try dsimp only at hSw
                go_simp
                try with_reducible rfl
              try simp only [Act.put, List.getElem_toArray, List.getElem_cons_succ, List.getElem_cons_zero, List.setIfInBounds_toArray, List.set_cons_zero, List.set_cons_succ]
              refine wpAnyH_take (i := 13) (v := ?vqb0a13) rfl (by kernel_rfl) (by kernel_rfl) (by kernel_rfl) (fun _ _ _ h => h) (Or.inl ⟨by rfl, ?hqb0a13⟩) (by assumption) ?rqb0a13
              case hqb0a13 =>
                intro w hSw
                try dsimp only at hSw
                go_simp
                try with_reducible rfl
              try simp only [Act.put, List.getElem_toArray, List.getElem_cons_succ, List.getElem_cons_zero, List.setIfInBounds_toArray, List.set_cons_zero, List.set_cons_succ]
              refine wpAnyH_take (i := 14) (v := ?vqb0a14) rfl (by kernel_rfl) (by kernel_rfl) (by kernel_rfl) (fun _ _ _ h => h) (Or.inl ⟨by rfl, ?hqb0a14⟩) (by assumption) ?rqb0a14
              case hqb0a14 =>
                intro w hSw
                try dsimp only at hSw
                go_simp
                try with_reducible rfl
              try simp only [Act.put, List.getElem_toArray, List.getElem_cons_succ, List.getElem_cons_zero, List.setIfInBounds_toArray, List.set_cons_zero, List.set_cons_succ]
              refine wpAnyH_take (i := 15) (v := ?vqb0a15) rfl (by kernel_rfl) (by kernel_rfl) (by kernel_rfl) (fun _ _ _ h => h) (Or.inl ⟨by rfl, ?hqb0a15⟩) (by assumption) ?rqb0a15
              case hqb0a15 =>
                intro w hSw
                try dsimp only at hSw
                go_simp
                try with_reducible rfl
              try simp only [Act.put, List.getElem_toArray, List.getElem_cons_succ, List.getElem_cons_zero, List.setIfInBounds_toArray, List.set_cons_zero, List.set_cons_succ]
              refine wpAnyH_take (i := 16) (v := ?vqb0a16) rfl (by kernel_rfl) (by kernel_rfl) (by kernel_rfl) (fun _ _ _ h => h) (Or.inl ⟨by rfl, ?hqb0a16⟩) (by assumption) ?rqb0a16
              case hqb0a16 =>
                intro w hSw
                try dsimp only at hSw
                go_simp
                try with_reducible rfl
              try simp only [Act.put, List.getElem_toArray, List.getElem_cons_succ, List.getElem_cons_zero, List.setIfInBounds_toArray, List.set_cons_zero, List.set_cons_succ]
              refine wpAnyH_take (i := 17) (v := ?vqb0a17) rfl (by kernel_rfl) (by kernel_rfl) (by kernel_rfl) (fun _ _ _ h => h) (Or.inl ⟨by rfl, ?hqb0a17⟩) (by assumption) ?rqb0a17
              case hqb0a17 =>
                intro w hSw
                try dsimp only at hSw
                go_simp
                try with_reducible rfl
              try simp only [Act.put, List.getElem_toArray, List.getElem_cons_succ, List.getElem_cons_zero, List.setIfInBounds_toArray, List.set_cons_zero, List.set_cons_succ]
              refine wpAnyH_take (i := 18) (v := ?vqb0a18) rfl (by kernel_rfl) (by kernel_rfl) (by kernel_rfl) (fun _ _ _ h => h) (Or.inl ⟨by rfl, ?hqb0a18⟩) (by assumption) ?rqb0a18
              case hqb0a18 =>
                intro w hSw
                try dsimp only at hSw
                go_simp
                try with_reducible rfl
              try simp only [Act.put, List.getElem_toArray, List.getElem_cons_succ, List.getElem_cons_zero, List.setIfInBounds_toArray, List.set_cons_zero, List.set_cons_succ]
              refine wpAnyH_take (i := 19) (v := ?vqb0a19) rfl (by kernel_rfl) (by kernel_rfl) (by kernel_rfl) (fun _ _ _ h => h) (Or.inl ⟨by rfl, ?hqb0a19⟩) (by assumption) ?rqb0a19
              case hqb0a19 =>
                intro w hSw
                try dsimp only at hSw
                go_simp
                try with_reducible rfl
              try simp only [Act.put, List.getElem_toArray, List.getElem_cons_succ, List.getElem_cons_zero, List.setIfInBounds_toArray, List.set_cons_zero, List.set_cons_succ]
              refine wpAnyH_done (by kernel_rfl) ?_ _
              go_wp2_with fail
              go_roundw
              case rel =>
                refine ⟨k + 1, by go_num, by omega, fun j hj => ?_, hb.drew⟩
                by_cases e : j = k
                · subst e
                  rw [HDD.out, HY.out]
                  exact .inr H2.out
                · exact HGD.out j (by omega)
              case measure => simp [intOf]; omega
            · have he2 : (d != y) = true := by simp [h2]
              obtain rfl : c = 13 := by rw [← HC.out]; exact fit_not9 HOK.out.ok HOT.out (i := k) (by rw [HN.out]; exact hlt) (by rw [HDD.out]; exact h1) (by rw [HLK.out, HDD.out, HY.out]; exact h2)
              clear h1 h2
              go_wp2_with fail
              refine wp_region_held (S := fun Y => Y.cell? ⟨w.heap.size, 0, none⟩ = some (.slice (some ⟨bs, os, none⟩) N ca) ∧ Y.cell? ⟨bs, os + k, none⟩ = some (.int .i64 d) ∧ Y.cell? ⟨bt, ot + (lk + k), none⟩ = some (.int .i64 y)) (by kernel_rfl) ?_
              have hHeld := hcells
              refine wpAnyH_take (i := 0) (v := ?vqc0a0) rfl (by kernel_rfl) (by kernel_rfl) (by kernel_rfl) (fun _ _ _ h => h) (Or.inl ⟨by rfl, ?hqc0a0⟩) (by assumption) ?rqc0a0
              case hqc0a0 =>
                intro w hSw
                try dsimp only at hSw
                go_simp
                try with_reducible rfl
              try simp only [Act.put, List.getElem_toArray, List.getElem_cons_succ, List.getElem_cons_zero, List.setIfInBounds_toArray, List.set_cons_zero, List.set_cons_succ]
              refine wpAnyH_take (i := 1) (v := ?vqc0a1) rfl (by kernel_rfl) (by kernel_rfl) (by kernel_rfl) (fun _ _ _ h => h) (Or.inl ⟨by rfl, ?hqc0a1⟩) (by assumption) ?rqc0a1
              case hqc0a1 =>
                intro w hSw
                try dsimp only at hSw
                go_simp
                try with_reducible rfl
              try simp only [Act.put, List.getElem_toArray, List.getElem_cons_succ, List.getElem_cons_zero, List.setIfInBounds_toArray, List.set_cons_zero, List.set_cons_succ]
              refine wpAnyH_take (i := 2) (v := ?vqc0a2) rfl (by kernel_rfl) (by kernel_rfl) (by kernel_rfl) (fun _ _ _ h => h) (Or.inl ⟨by rfl, ?hqc0a2⟩) (by assumption) ?rqc0a2
              case hqc0a2 =>
                intro w hSw
                try dsimp only at hSw
                go_simp
                try with_reducible rfl
              try simp only [Act.put, List.getElem_toArray, List.getElem_cons_succ, List.getElem_cons_zero, List.setIfInBounds_toArray, List.set_cons_zero, List.set_cons_succ]
              refine wpAnyH_take (i := 3) (v := ?vqc0a3) rfl (by kernel_rfl) (by kernel_rfl) (by kernel_rfl) (fun _ _ _ h => h) (Or.inl ⟨by rfl, ?hqc0a3⟩) (by assumption) ?rqc0a3
              case hqc0a3 =>
                intro w hSw
                try dsimp only at hSw
                go_simp
                try with_reducible rfl
              try simp only [Act.put, List.getElem_toArray, List.getElem_cons_succ, List.getElem_cons_zero, List.setIfInBounds_toArray, List.set_cons_zero, List.set_cons_succ]
              refine wpAnyH_take (i := 4) (v := ?vqc0a4) rfl (by kernel_rfl) (by kernel_rfl) (by kernel_rfl) (fun _ _ _ h => h) (Or.inl ⟨by rfl, ?hqc0a4⟩) (by assumption) ?rqc0a4
              case hqc0a4 =>
                intro w hSw
                try dsimp only at hSw
                go_simp
                try with_reducible rfl
              try simp only [Act.put, List.getElem_toArray, List.getElem_cons_succ, List.getElem_cons_zero, List.setIfInBounds_toArray, List.set_cons_zero, List.set_cons_succ]
              refine wpAnyH_take (i := 5) (v := ?vqc0a5) rfl (by kernel_rfl) (by kernel_rfl) (by kernel_rfl) (fun _ _ _ h => h) (Or.inl ⟨by rfl, ?hqc0a5⟩) (by assumption) ?rqc0a5
              case hqc0a5 =>
                intro w hSw
                try dsimp only at hSw
                go_simp
                try with_reducible rfl
              try simp only [Act.put, List.getElem_toArray, List.getElem_cons_succ, List.getElem_cons_zero, List.setIfInBounds_toArray, List.set_cons_zero, List.set_cons_succ]
              refine wpAnyH_take (i := 6) (v := ?vqc0a6) rfl (by kernel_rfl) (by kernel_rfl) (by kernel_rfl) (fun _ _ _ h => h) (Or.inl ⟨by rfl, ?hqc0a6⟩) (by assumption) ?rqc0a6
              case hqc0a6 =>
                intro w hSw
                try dsimp only at hSw
                go_simp
                try with_reducible rfl
              try simp only [Act.put, List.getElem_toArray, List.getElem_cons_succ, List.getElem_cons_zero, List.setIfInBounds_toArray, List.set_cons_zero, List.set_cons_succ]
              refine wpAnyH_take (i := 7) (v := ?vqc0a7) rfl (by kernel_rfl) (by kernel_rfl) (by kernel_rfl) (fun _ _ _ h => h) (Or.inl ⟨by rfl, ?hqc0a7⟩) (by assumption) ?rqc0a7
              case hqc0a7 =>
                intro w hSw
                try dsimp only at hSw
                go_simp
                try with_reducible rfl
              try simp only [Act.put, List.getElem_toArray, List.getElem_cons_succ, List.getElem_cons_zero, List.setIfInBounds_toArray, List.set_cons_zero, List.set_cons_succ]
              refine wpAnyH_take (i := 8) (v := ?vqc0a8) rfl (by kernel_rfl) (by kernel_rfl) (by kernel_rfl) (fun _ _ _ h => h) (Or.inl ⟨by rfl, ?hqc0a8⟩) (by assumption) ?rqc0a8
              case hqc0a8 =>
                intro w hSw
                try dsimp only at hSw
                go_simp
                try with_reducible rfl
              try simp only [Act.put, List.getElem_toArray, List.getElem_cons_succ, List.getElem_cons_zero, List.setIfInBounds_toArray, List.set_cons_zero, List.set_cons_succ]
              refine wpAnyH_take (i := 9) (v := ?vqc0a9) rfl (by kernel_rfl) (by kernel_rfl) (by kernel_rfl) (fun _ _ _ h => h) (Or.inl ⟨by rfl, ?hqc0a9⟩) (by assumption) ?rqc0a9
              case hqc0a9 =>
                intro w hSw
                try dsimp only at hSw
                go_simp
                try with_reducible rfl
              try simp only [Act.put, List.getElem_toArray, List.getElem_cons_succ, List.getElem_cons_zero, List.setIfInBounds_toArray, List.set_cons_zero, List.set_cons_succ]
              refine wpAnyH_take (i := 10) (v := ?vqc0a10) rfl (by kernel_rfl) (by kernel_rfl) (by kernel_rfl) (fun _ _ _ h => h) (Or.inl ⟨by rfl, ?hqc0a10⟩) (by assumption) ?rqc0a10
              case hqc0a10 =>
                intro w hSw
                try dsimp only at hSw
                go_simp
                try with_reducible rfl
              try simp only [Act.put, List.getElem_toArray, List.getElem_cons_succ, List.getElem_cons_zero, List.setIfInBounds_toArray, List.set_cons_zero, List.set_cons_succ]
              refine wpAnyH_take (i := 11) (v := ?vqc0a11) rfl (by kernel_rfl) (by kernel_rfl) (by kernel_rfl) (fun _ _ _ h => h) (Or.inl ⟨by rfl, ?hqc0a11⟩) (by assumption) ?rqc0a11
              case hqc0a11 =>
                intro w hSw
                try dsimp only at hSw
                go_simp
                try with_reducible rfl
              try simp only [Act.put, List.getElem_toArray, List.getElem_cons_succ, List.getElem_cons_zero, List.setIfInBounds_toArray, List.set_cons_zero, List.set_cons_succ]
              refine wpAnyH_take (i := 12) (v := ?vqc0a12) rfl (by kernel_rfl) (by kernel_rfl) (by kernel_rfl) (fun _ _ _ h => h) (Or.inl ⟨by rfl, ?hqc0a12⟩) (by assumption) ?rqc0a12
              case hqc0a12 =>
                intro w hSw
                try dsimp only at hSw
                go_simp
                try with_reducible rfl
              try simp only [Act.put, List.getElem_toArray, List.getElem_cons_succ, List.getElem_cons_zero, List.setIfInBounds_toArray, List.set_cons_zero, List.set_cons_succ]
              refine wpAnyH_take (i := 13) (v := ?vqc0a13) rfl (by kernel_rfl) (by kernel_rfl) (by kernel_rfl) (fun _ _ _ h => h) (Or.inl ⟨by rfl, ?hqc0a13⟩) (by assumption) ?rqc0a13
              case hqc0a13 =>
                intro w hSw
                try dsimp only at hSw
                go_simp
                try with_reducible rfl
              try simp only [Act.put, List.getElem_toArray, List.getElem_cons_succ, List.getElem_cons_zero, List.setIfInBounds_toArray, List.set_cons_zero, List.set_cons_succ]
              refine wpAnyH_take (i := 14) (v := ?vqc0a14) rfl (by kernel_rfl) (by kernel_rfl) (by kernel_rfl) (fun _ _ _ h => h) (Or.inl ⟨by rfl, ?hqc0a14⟩) (by assumption) ?rqc0a14
              case hqc0a14 =>
                intro w hSw
                try dsimp only at hSw
                go_simp
                try with_reducible rfl
              try simp only [Act.put, List.getElem_toArray, List.getElem_cons_succ, List.getElem_cons_zero, List.setIfInBounds_toArray, List.set_cons_zero, List.set_cons_succ]
              refine wpAnyH_take (i := 15) (v := ?vqc0a15) rfl (by kernel_rfl) (by kernel_rfl) (by kernel_rfl) (fun _ _ _ h => h) (Or.inl ⟨by rfl, ?hqc0a15⟩) (by assumption) ?rqc0a15
              case hqc0a15 =>
                intro w hSw
                try dsimp only at hSw
                go_simp
                try with_reducible rfl
              try simp only [Act.put, List.getElem_toArray, List.getElem_cons_succ, List.getElem_cons_zero, List.setIfInBounds_toArray, List.set_cons_zero, List.set_cons_succ]
              refine wpAnyH_take (i := 16) (v := ?vqc0a16) rfl (by kernel_rfl) (by kernel_rfl) (by kernel_rfl) (fun _ _ _ h => h) (Or.inl ⟨by rfl, ?hqc0a16⟩) (by assumption) ?rqc0a16
              case hqc0a16 =>
                intro w hSw
                try dsimp only at hSw
                go_simp
                try with_reducible rfl
              try simp only [Act.put, List.getElem_toArray, List.getElem_cons_succ, List.getElem_cons_zero, List.setIfInBounds_toArray, List.set_cons_zero, List.set_cons_succ]
              refine wpAnyH_take (i := 17) (v := ?vqc0a17) rfl (by kernel_rfl) (by kernel_rfl) (by kernel_rfl) (fun _ _ _ h => h) (Or.inl ⟨by rfl, ?hqc0a17⟩) (by assumption) ?rqc0a17
              case hqc0a17 =>
                intro w hSw
                try dsimp only at hSw
                go_simp
                try with_reducible rfl
              try simp only [Act.put, List.getElem_toArray, List.getElem_cons_succ, List.getElem_cons_zero, List.setIfInBounds_toArray, List.set_cons_zero, List.set_cons_succ]
              refine wpAnyH_take (i := 18) (v := ?vqc0a18) rfl (by kernel_rfl) (by kernel_rfl) (by kernel_rfl) (fun _ _ _ h => h) (Or.inl ⟨by rfl, ?hqc0a18⟩) (by assumption) ?rqc0a18
              case hqc0a18 =>
                intro w hSw
                try dsimp only at hSw
                go_simp
                try with_reducible rfl
              try simp only [Act.put, List.getElem_toArray, List.getElem_cons_succ, List.getElem_cons_zero, List.setIfInBounds_toArray, List.set_cons_zero, List.set_cons_succ]
              refine wpAnyH_take (i := 19) (v := ?vqc0a19) rfl (by kernel_rfl) (by kernel_rfl) (by kernel_rfl) (fun _ _ _ h => h) (Or.inl ⟨by rfl, ?hqc0a19⟩) (by assumption) ?rqc0a19
              case hqc0a19 =>
                intro w hSw
                try dsimp only at hSw
                go_simp
                try with_reducible rfl
              try simp only [Act.put, List.getElem_toArray, List.getElem_cons_succ, List.getElem_cons_zero, List.setIfInBounds_toArray, List.set_cons_zero, List.set_cons_succ]
              refine wpAnyH_done (by kernel_rfl) ?_ _
              clear cs1 cs3 k0 k1 hcells
              have P1 := H1.out.later hb
              obtain ⟨u0, u1, g0', g1'⟩ := P1.two
              have P3 := P1.set2 (.slice none 0 0) (.slice none 0 0)
              obtain ⟨z0, z1, _, _⟩ := P3.two
              have hBE := below_set2 (HB.out.trans ((hb : Below W.heap.size W _).mono (by omega))) (show w.heap.size ≤ w.heap.size + 1 by omega) (.slice none 0 0) (.slice none 0 0)
              go_wp2_with fail
              refine bodyPost_ret (v := .tuple #[noTensor, .int .i64 13]) (by simp [results, Tryz.results23, go_sem, z0, z1, noTensor]) rfl ⟨⟨_, rfl, ⟨none, 0, 0, none, 0, 0, rfl⟩, fun h => by cases h⟩, hBE.drew⟩
        · obtain rfl : N = k := by omega
          have hltI : ¬ (N : Int) < (N : Int) := by omega
          have hfc : fitC s t = 0 := fit_of9 HOK.out.ok HOT.out (by rw [HQ.out, HN.out]; omega) (by rw [HLK.out, HN.out]; exact HGD.out)
          have HFC := Lib.hid hfc
          obtain rfl : c = 0 := by rw [← HC.out]; exact hfc
          have okS : OkS S := by rw [← HTS.out]; exact HOT.out
          have HOKS := Lib.hid okS
          have HML : Hid (S.length = Q) := Lib.hid (by rw [← HTS.out]; exact HQ.out)
          obtain ⟨CN, hCN⟩ : ∃ n, (prodS S).toNat = n := ⟨_, rfl⟩
          have hps := prodS_pos okS.pos
          have hpf := okS.few
          have HPC : Hid (prodS S = (CN : Int)) := Lib.hid (by omega)
          have HRES : Hid (LR.length = CN) := Lib.hid (by rw [← HLR.out]; unfold bcV; rw [fillV_len, HTS.out]; exact hCN)
          have hCN1 : CN ≤ 1024 := by omega
          clear hfc okS hCN hps hpf k0 k1
          have dW := DX.out W2 hbw
          have hwW : w.heap.size ≤ W2.heap.size := by omega
          have HBW2 := Lib.hid hb
          have HBw2 := Lib.hid hbw
          have hq8 : t.length ≤ 17592186044416 := by rw [HQ.out]; omega
          obtain ⟨k0, k1, _, _⟩ := (H0.out.later hb).two
          clear hb hbw
          go_wp2_with (at_builtin; refine step_copyT rfl _ 22 22 Tryz.underlying22 Tryz.underlying22 rfl rfl dW HND.out hq8 ?_; intro ro w3 R3 hb3; obtain ⟨a3, c3, rfl, R3', A3, n3⟩ := R3.slice)
          rw [HQ.out] at R3' ⊢
          rw [HTS.out] at R3'
          have hs3 := hb3.size
          obtain ⟨g, hg⟩ : ∃ g, w3.heap.size = g := ⟨_, rfl⟩
          obtain ⟨W4, hW4⟩ : ∃ Y, w3.alloc (.cells #[.slice a3 Q c3, .slice none 0 0] 34) = Y := ⟨_, rfl⟩
          have b4 : Below w3.heap.size w3 W4 := by rw [← hW4]; exact (Below.refl _ _).alloc (Nat.le_refl _) _
          have b24 : Below W2.heap.size W2 W4 := hb3.trans (b4.mono hs3)
          have HG : Hid (Row W4 g 34 #[.slice a3 Q c3, .slice none 0 0]) := Lib.hid (by rw [← hW4, ← hg]; exact Row.new _ _ _)
          have HSS : Hid (ResS w.heap.size W4 (.slice a3 Q c3) S) := Lib.hid ((R3'.mono hwW).later b4)
          have hbW4 : Below W.heap.size W W4 := HBW2.out.trans (b24.mono (by omega))
          have H05 := Lib.hid (H0.out.later hbW4)
          have H15 := Lib.hid (H1.out.later hbW4)
          have HB5 := Lib.hid (HB.out.trans (hbW4.mono (by omega)))
          have hg2 : w.heap.size + 1 + 1 ≤ g := by omega
          (try rw [hg])
          (try rw [hW4])
          clear R3 R3' A3 n3 hb3 b4 b24 hbW4 hW4 k0 k1 dW
          go_loopw [10, 11, 12] (fun i _ _ wr => ∃ (k : Nat) (v : Value), i = .int .i64 (k : Int) ∧ k ≤ CN ∧ Row wr w.heap.size 34 #[.slice a N ca, .slice b K cb] ∧ Row wr (w.heap.size + 1) 34 #[.slice none 0 0, .slice none 0 0] ∧
            Row wr g 34 #[.slice a3 Q c3, v] ∧ ResS w.heap.size wr (.slice a3 Q c3) S ∧ RowO w.heap.size 75 (fun W v x => ResA w.heap.size w W v x m) wr v (LR.take k) ∧ Below w.heap.size w wr) (fun i _ _ _ => CN - (intOf i).toNat)
          case atStart => exact ⟨0, _, rfl, Nat.zero_le _, H05.out, H15.out, HG.out, HSS.out, RowO.nil _ _ _ _, HB5.out⟩
          case round =>
            obtain ⟨k, v, rfl, hk, r0, r1, rg, rs, ⟨es, hown, hall⟩, hb⟩ := hrel
            have hsz := hb.size
            have hle9 : es.length = k := by have h := HRES.out; rw [hall.1, List.length_take, h]; omega
            have HLE := Lib.hid hle9
            have Q0 := Lib.hid r0
            have Q1 := Lib.hid r1
            have QG := Lib.hid rg
            have QS := Lib.hid rs
            have QO := Lib.hid hown
            have QA := Lib.hid hall
            have QB := Lib.hid hb
            clear r1 hall hown hle9
            have A3 : ArgS wr (.slice ad Q cd) S ad cd := by rw [← HTS.out]; exact DX.out wr hb
            have cg0 := rg.cell 0
            have cg1 := rg.cell 1
            have c01 := r0.cell 1
            by_cases hlt : k < CN
            · have hkC : (k : Int) < (CN : Int) := by omega
              have hkP : (k : Int) < prodS S := by rw [HPC.out]; omega
              obtain ⟨l0, hl0⟩ : ∃ l, idxS S (k : Int) = l := ⟨_, rfl⟩
              have hin0 := (place_idx HOKS.out.pos (show 0 ≤ (k : Int) by omega) hkP).1
              have hidx := fun X (h : Below wr.heap.size wr X) => index9_any (A3.later h) HOKS.out (show 0 ≤ (k : Int) by omega) hkP
              rw [hl0] at hidx hin0
              have HIN := Lib.hid hin0
              have hl0n : l0.length = Q := by rw [inS_length hin0, HML.out]
              have HLN := Lib.hid hl0n
              have HL0 := Lib.hid hl0
              clear hin0 hl0 hl0n hkP rs
              have hcnt := fun X (h : Below wr.heap.size wr X) => count9_any (A3.later h) HOKS.out.pos (by have := HOKS.out.rank; omega)
              rw [cntR_ok HOKS.out, HPC.out] at hcnt
              go_wp2_with fail
              refine (hcnt _ (Below.refl _ _)).mono ?_
              rintro e wq ⟨rfl, rfl⟩
              clear hcnt
              go_upto_region 16 with fail
              go_cut [11] (fun s11 wx => ∃ (al adf : Option Addr) (cl capf : Nat), s11 = .slice adf N capf ∧ IdxP wr.heap.size wx al cl l0 ∧ Q ≤ cl ∧ (N ≤ 0 ∨ ∃ gg, al = some ⟨gg, 0, none⟩ ∧ adf = some ⟨gg, lk, none⟩) ∧ N ≤ capf ∧ Below wr.heap.size wr wx)
              case first =>
                go_wp2_with fail
                refine (hidx _ (Below.refl _ _)).mono ?_
                rintro e y1 ⟨rl, rfl, RL, hy1⟩
                obtain ⟨al, cl, rfl, IL, hcl, nl, wl⟩ := RL.idx
                rw [HLN.out] at hcl ⊢
                have h3 : (al = none ∧ cl = 0 ∧ lk = 0 ∧ N = 0 ∧ Q = 0) ∨ (∃ gg, al = some ⟨gg, 0, none⟩ ∧ cl = lk ∧ N = 0 ∧ Q = lk) ∨ (∃ gg, al = some ⟨gg, 0, none⟩ ∧ lk < cl) := by
                  rcases IL with ⟨h1, h2, h3⟩ | ⟨gg, h1, h2, h3, h4⟩
                  · exact .inl ⟨h1, h2, by omega, by omega, by omega⟩
                  · by_cases e : cl = lk
                    · exact .inr (.inl ⟨gg, h1, e, by omega, by omega⟩)
                    · exact .inr (.inr ⟨gg, h1, by omega⟩)
                have HIL := Lib.hid IL
                have hkI : (lk : Int) ≤ (Q : Int) := by omega
                have hcI : (Q : Int) ≤ (cl : Int) := by omega
                have hsub : Q - lk = N := by omega
                clear RL IL wl nl hidx
                rcases h3 with ⟨rfl, rfl, rfl, rfl, rfl⟩ | ⟨gg, rfl, rfl, rfl, rfl⟩ | ⟨gg, rfl, hkc⟩
                · go_wp2_with fail
                  go_meet
                  exact ⟨none, none, 0, 0, rfl, HIL.out, Nat.le_refl _, .inl (Nat.le_refl _), Nat.le_refl _, hy1⟩
                · go_wp2_with fail
                  all_goals (go_meet; refine ⟨_, _, _, _, rfl, HIL.out, Nat.le_refl _, .inl (Nat.le_refl _), Nat.zero_le _, hy1⟩)
                · have hkc3 : (lk : Int) < (cl : Int) := by omega
                  go_wp2_with fail
                  all_goals (go_meet; refine ⟨_, some ⟨gg, lk, none⟩, cl, cl - lk, ?_, HIL.out, hcl, .inr ⟨gg, rfl, rfl⟩, by omega, hy1⟩; first | rfl | rw [hsub])
              case rest =>
                rename World => y1
                obtain ⟨al, adf, cl, capf, rfl, IL, hcl, hadf, hNc, hy1⟩ := hcut
                have HIL := Lib.hid IL
                have HADF := Lib.hid hadf
                clear IL hadf hidx cg0 cg1 c01 rg r0
                go_wp2_with fail
                go_loopw [12] (fun i wi => ∃ (r : Nat) (zs : List Int), i = .int .i64 (r : Int) ∧ r ≤ N ∧ IdxP wr.heap.size wi al cl zs ∧ FillB s l0 zs lk r ∧ Below wr.heap.size wr wi) (fun i _ => N - (intOf i).toNat)
                case atStart => exact ⟨0, _, rfl, Nat.zero_le _, HIL.out, FillB.nil _ _ _, hy1⟩
                case round =>
                  rename World => wi
                  obtain ⟨r, zs, rfl, hr, hI, hF, hbi⟩ := hrel
                  have HI1 := Lib.hid hI
                  have HF := Lib.hid hF
                  have hbwi : Below w.heap.size w wi := QB.out.trans (hbi.mono hsz)
                  by_cases hlt2 : r < N
                  · have hltJ : (r : Int) < (N : Int) := by omega
                    obtain ⟨gg, rfl, rfl⟩ := HADF.out.resolve_left (by omega)
                    obtain ⟨g', e', hgB, hm6, hP⟩ := hI.at (i := lk + r) (by rw [hF.1, HLN.out]; omega)
                    obtain rfl : gg = g' := by simpa using e'
                    have hrs : r < s.length := by rw [HN.out]; exact hlt2
                    obtain ⟨bs, os, rfl, cs3⟩ := (TSH.out _ hbwi).at (i := r) hrs
                    have k5 := (Q0.out.later hbi).cell 0
                    have hc := hP.cell (lk + r) (by rw [hF.1, HLN.out]; omega)
                    have hfr := hP.free (lk + r)
                    have HP := Lib.hid hP
                    have hd3 := HOK.out.ok.pos.getD hrs
                    have HFA := Lib.hid (fit_at9 HFC.out hrs)
                    have HIN2 := Lib.hid (inS_at HIN.out (i := lk + r) (by have h1 := HQ.out; rw [HTS.out] at h1; omega))
                    obtain ⟨d, hd⟩ : ∃ d, s.getD r 0 = d := ⟨_, rfl⟩
                    rw [hd] at cs3 hd3
                    have HDD := Lib.hid hd
                    clear hI hF hP hd hrs
                    by_cases h1 : d = 1
                    · have he : (d == 1) = true := by simp [h1]
                      clear h1
                      go_wp2_with fail
                      go_roundw
                      case rel =>
                        have hn := HF.out.next (r := r) (by rw [HLN.out]; omega)
                        rw [HDD.out, show d = 1 by simpa using he, Int.emod_one] at hn
                        exact ⟨r + 1, _, by go_num, by omega, .inr ⟨gg, rfl, hgB, hm6, HP.out.set (lk + r) (by rw [HF.out.1, HLN.out]; omega) 0⟩, hn, setBelow hbi hgB _ _⟩
                      case measure => simp [intOf]; omega
                    · have he : (d == 1) = false := by simp [h1]
                      go_wp2_with fail
                      go_roundw
                      case rel =>
                        refine ⟨r + 1, _, by go_num, by omega, HI1.out, HF.out.skip ?_, hbi⟩
                        rw [HDD.out]
                        have h2 := HFA.out.resolve_left (by rw [HDD.out]; exact h1)
                        rw [HDD.out, HLK.out, HTS.out] at h2
                        have h3 := HIN2.out
                        rw [← h2] at h3
                        exact Int.emod_eq_of_lt h3.1 h3.2
                      case measure => simp [intOf]; omega
                  · obtain rfl : N = r := by omega
                    have hltJ : ¬ (N : Int) < (N : Int) := by omega
                    have hdr : zs.drop lk = bcI s lk l0 := by
                      have h : FillB s l0 zs lk s.length := by rw [HN.out]; exact HF.out
                      exact h.full (by rw [HLN.out, HN.out]; omega)
                    have hlb : (bcI s lk l0).length = N := by rw [bcI_len, HN.out]
                    have XA : ArgS wi (.slice adf (bcI s lk l0).length capf) (bcI s lk l0) adf capf := by
                      refine ⟨rfl, ?_, by rw [hlb]; exact hNc, bcI_wid HOK.out.ok.pos (wid_ok9 HOK.out.ok)⟩
                      by_cases hS0 : N ≤ 0
                      · exact .inl (List.eq_nil_of_length_eq_zero (by omega))
                      · obtain ⟨gg, rfl, rfl⟩ := HADF.out.resolve_left (by omega)
                        obtain ⟨g', e', hgB, hm6, hP⟩ := HI1.out.at (i := lk) (by rw [HF.out.1, HLN.out]; omega)
                        obtain rfl : gg = g' := by simpa using e'
                        refine .inr ⟨gg, lk, rfl, fun i hi => ?_⟩
                        rw [hlb] at hi
                        rw [hP.cell (lk + i) (by rw [HF.out.1, HLN.out]; omega), ← hdr]
                        simp [List.getD_eq_getElem?_getD]
                    rw [hlb] at XA
                    have HLX : Hid ((bcI s lk l0).length = s.length) := Lib.hid (bcI_len _ _ _)
                    have HVN : Hid (LR[k]? = some (elV s L (bcI s lk l0))) := Lib.hid (by
                      rw [← HLR.out]
                      unfold bcV
                      unfold fillV
                      rw [List.getElem?_map, List.getElem?_range (by have h := HPC.out; rw [HTS.out]; omega)]
                      simp only [Option.map_some, Option.some.injEq]
                      rw [HLK.out, HTS.out, HL0.out])
                    clear hI hF hdr hlb
                    have r0 := Q0.out.later hbi
                    have r1 := Q1.out.later hbi
                    have rg := QG.out.later hbi
                    have rs := QS.out.later hbi
                    have hown : OwnE w.heap.size 75 wi v es := QO.out.later hbi
                    have hall : AllE (fun v x => ResA w.heap.size w wi v x m) es (LR.take k) := QA.out.imp fun u x _ h => h.later hbi
                    have hbw : Below w.heap.size w wi := QB.out.trans (hbi.mono hsz)
                    have hszw := hbw.size
                    obtain ⟨r, hrv, hrb, hrne⟩ := hown.hits hszw
                    have n0 := hrne _ _ _ r0 (by decide)
                    have n1 := hrne _ _ _ r1 (by decide)
                    have ng := hrne _ _ _ rg (by decide)
                    have cg1 := rg.cell 1
                    have c00 := r0.cell 0
                    have c01 := r0.cell 1
                    have mkE : ∀ X, Kept r wi X → X.cell? ⟨g, 1, none⟩ = some v ∧ X.cell? ⟨w.heap.size, 0, none⟩ = some (.slice a N ca) ∧ X.cell? ⟨w.heap.size, 1, none⟩ = some (.slice b K cb) ∧ Kept r wi X := fun X h => ⟨h.cell cg1 ng, h.cell c00 n0, h.cell c01 n0, h⟩
                    have hS0e := mkE wi.drew ((Kept.refl r wi).drew)
                    obtain ⟨val, hval⟩ : ∃ x, elV s L (bcI s lk l0) = x := ⟨_, rfl⟩
                    have hat := fun X (h : Below wi.heap.size wi X) => at9_any (w := X) HT.out (hbw.trans (h.mono hszw)) HOK.out.ok HOK.out.len (XA.later h) HLX.out hm
                    rw [hval] at hat
                    have hnv : LR.take (k + 1) = LR.take k ++ [val] := take_nextL (by rw [← hval]; exact HVN.out)
                    have HNV := Lib.hid hnv
                    clear hval hnv
                    go_wp2_with fail
                    refine wp_region_L (S := fun X => X.cell? ⟨g, 1, none⟩ = some v ∧ X.cell? ⟨w.heap.size, 0, none⟩ = some (.slice a N ca) ∧ X.cell? ⟨w.heap.size, 1, none⟩ = some (.slice b K cb) ∧ Kept r wi X) (z := 8) (by kernel_rfl) hS0e (fun hHeld => ?_)
                    refine wpAnyL_take (i := 0) (v := ?vea0) rfl (by kernel_rfl) (by kernel_rfl) (by kernel_rfl) (by kernel_rfl) (fun _ _ _ h => h) (Or.inl ⟨by rfl, ?hea0⟩) (by assumption) ?rea0
                    case hea0 =>
                      intro w hSw
                      try dsimp only at hSw
                      go_simp
                      try with_reducible rfl
                    try simp only [Act.put, List.getElem_toArray, List.getElem_cons_succ, List.getElem_cons_zero, List.setIfInBounds_toArray, List.set_cons_zero, List.set_cons_succ]
                    refine wpAnyL_take (i := 1) (v := ?vea1) rfl (by kernel_rfl) (by kernel_rfl) (by kernel_rfl) (by kernel_rfl) (fun _ _ _ h => h) (Or.inl ⟨by rfl, ?hea1⟩) (by assumption) ?rea1
                    case hea1 =>
                      intro w hSw
                      try dsimp only at hSw
                      go_simp
                      try with_reducible rfl
                    try simp only [Act.put, List.getElem_toArray, List.getElem_cons_succ, List.getElem_cons_zero, List.setIfInBounds_toArray, List.set_cons_zero, List.set_cons_succ]
                    refine wpAnyL_take (i := 2) (v := ?vea2) rfl (by kernel_rfl) (by kernel_rfl) (by kernel_rfl) (by kernel_rfl) (fun _ _ _ h => h) (Or.inl ⟨by rfl, ?hea2⟩) (by assumption) ?rea2
                    case hea2 =>
                      intro w hSw
                      try dsimp only at hSw
                      go_simp
                      try with_reducible rfl
                    try simp only [Act.put, List.getElem_toArray, List.getElem_cons_succ, List.getElem_cons_zero, List.setIfInBounds_toArray, List.set_cons_zero, List.set_cons_succ]
                    refine wpAnyL_take (i := 3) (v := ?vea3) rfl (by kernel_rfl) (by kernel_rfl) (by kernel_rfl) (by kernel_rfl) (fun _ _ _ h => h) (Or.inl ⟨by rfl, ?hea3⟩) (by assumption) ?rea3
                    case hea3 =>
                      intro w hSw
                      try dsimp only at hSw
                      go_simp
                      try with_reducible rfl
                    try simp only [Act.put, List.getElem_toArray, List.getElem_cons_succ, List.getElem_cons_zero, List.setIfInBounds_toArray, List.set_cons_zero, List.set_cons_succ]
                    refine wpAnyL_one (i := 4) (by kernel_rfl) rfl (fun K hK => ?seb4)
                    go_simp
                    have hbd4 : Below wi.heap.size wi wi.drew := (Below.refl _ _).drew
                    refine (hat _ hbd4).mono ?_
                    rintro e w5 ⟨rv, rfl, qv, hb5⟩
                    have hb5w : Below wi.heap.size wi w5 := hbd4.trans hb5
                    have hB5 : Below w.heap.size w w5 := hbw.trans (hb5w.mono hszw)
                    have Q5 : Hid (ResA w.heap.size w w5 rv val m) := Lib.hid (qv.imp (fun h => h.mono (show w.heap.size ≤ wi.heap.size from hszw)) id)
                    obtain ⟨m5, f1, l1, j1, f2, l2, j2, rfl⟩ := (qv.imp (fun h => h) id : ResA _ _ _ _ _ _).elim (fun h => h.shape) (fun h => h.shape)
                    clear qv
                    go_simp
                    have hk5 : Kept r wi w5 := ((Kept.refl r wi).drew).below hb5
                    refine hK.out _ _ (fun _ => mkE _ hk5) (fun hHeld2 => ?meb4)
                    clear hK K hHeld
                    have hHeld := hHeld2 (by decide)
                    clear hHeld2
                    try simp only [Act.put, List.getElem_toArray, List.getElem_cons_succ, List.getElem_cons_zero, List.setIfInBounds_toArray, List.set_cons_zero, List.set_cons_succ]
                    refine wpAnyL_one (i := 5) (by kernel_rfl) rfl (fun K hK => ?seb5)
                    go_simp
                    refine hK.out _ _ (fun _ => mkE _ (hk5.alloc _)) (fun hHeld2 => ?meb5)
                    clear hK K hHeld
                    have hHeld := hHeld2 (by decide)
                    clear hHeld2
                    try simp only [Act.put, List.getElem_toArray, List.getElem_cons_succ, List.getElem_cons_zero, List.setIfInBounds_toArray, List.set_cons_zero, List.set_cons_succ]
                    refine wpAnyL_one (i := 6) (by kernel_rfl) rfl (fun K hK => ?seb6)
                    have hown5 : OwnE w.heap.size 75 w5 v es := hown.later hb5w
                    have hall5 : AllE (fun v x => ResA w.heap.size w w5 v x m) es (LR.take k) := hall.imp fun u x _ h => h.later hb5w
                    have hsz5 := hB5.size
                    have hle9 := HLE.out
                    refine step_append_ownT rfl _ _ 32 rfl w.heap.size 75 j0 _ 3 56 Tryz.underlying32 hjR hyA hyB hyC rfl (by decide) _ es.length (flat3 es) rfl (hown5.later ((Below.refl _ _).alloc (Nat.le_refl _) _)) ⟨w5.heap.size, 0, none⟩ 1 1 [.bool m5, .slice f1 l1 j1, .slice f2 l2 j2] rfl rfl (cell_three_new _ _ _ _ _) (by simp [Value.oneCell']) (by unfold maxLen; omega) (by omega) (by simp; omega) ?_
                    intro v' w6 hown' hgrow _
                    obtain ⟨av, cv, rfl⟩ := ownT_slice hown'
                    have hk6 : Kept r wi w6 := (hk5.alloc _).grown hgrow hrv
                    refine hK.out _ _ (fun _ => mkE _ hk6) (fun hHeld2 => ?meb6)
                    clear hK K hHeld
                    have hHeld := hHeld2 (by decide)
                    clear hHeld2
                    try simp only [Act.put, List.getElem_toArray, List.getElem_cons_succ, List.getElem_cons_zero, List.setIfInBounds_toArray, List.set_cons_zero, List.set_cons_succ]
                    refine wpAnyL_take (i := 7) (v := ?vea7) rfl (by kernel_rfl) (by kernel_rfl) (by kernel_rfl) (by kernel_rfl) (fun _ _ _ h => h) (Or.inl ⟨by rfl, ?hea7⟩) (by assumption) ?rea7
                    case hea7 =>
                      intro w hSw
                      try dsimp only at hSw
                      go_simp
                      try with_reducible rfl
                    try simp only [Act.put, List.getElem_toArray, List.getElem_cons_succ, List.getElem_cons_zero, List.setIfInBounds_toArray, List.set_cons_zero, List.set_cons_succ]
                    have RG6 := rg.kept hk6 ng
                    have f21 := RG6.free 1
                    have d21 := RG6.cell 1
                    refine wpAnyL_one (i := 8) (by kernel_rfl) rfl (fun K hK => ?seb8)
                    go_simp
                    refine hK.out _ _ (fun h => absurd rfl h) (fun _ => ?meb8)
                    clear hK K
                    try simp only [Act.put, List.getElem_toArray, List.getElem_cons_succ, List.getElem_cons_zero, List.setIfInBounds_toArray, List.set_cons_zero, List.set_cons_succ]
                    refine wpAnyL_done (by kernel_rfl) ?_ _
                    clear hle9
                    go_wp2_with fail
                    go_roundw
                    case rel =>
                      have hx5 : ResA w.heap.size w w5 (E3.agg ⟨.bool m5, .slice f1 l1 j1, .slice f2 l2 j2⟩) val m := Q5.out
                      obtain ⟨hrow6, hb6⟩ := pushE2 (P := (fun W v x => ResA w.heap.size w W v x m)) (e := ⟨.bool m5, .slice f1 l1 j1, .slice f2 l2 j2⟩) hB5 (Nat.le_refl _) hsz5 hown5 hall5 hx5 (fun u y h => ResA.apart hown5 hgrow (by decide) h) hown' hgrow
                      rw [HLE.out] at hrow6
                      have rs6 : ResS w.heap.size w6 (.slice a3 Q c3) S := ResS.apart hown5 hgrow (by decide) (rs.later hb5w)
                      refine ⟨k + 1, _, by go_num, by omega, (r0.kept hk6 n0).far (by show w.heap.size ≠ g; omega) _, (r1.kept hk6 n1).far (by show w.heap.size + 1 ≠ g; omega) _, RG6.set21 _, rs6.far RG6 (by decide) (kept1 _), ?_, hb6.setCell (by show w.heap.size ≤ g; omega) _⟩
                      rw [HNV.out]
                      exact hrow6.far RG6 (by decide) (kept1 _) (fun u y h => h.far RG6 (by decide) (kept1 _))
                    case measure => simp [intOf]; omega
            · obtain rfl : k = CN := by omega
              have hkC : ¬ (k : Int) < (k : Int) := by omega
              have hcnt := fun X (h : Below wr.heap.size wr X) => count9_any (A3.later h) HOKS.out.pos (by have := HOKS.out.rank; omega)
              rw [cntR_ok HOKS.out, HPC.out] at hcnt
              go_wp2_with fail
              refine (hcnt _ (Below.refl _ _)).mono ?_
              rintro e wq ⟨rfl, rfl⟩
              clear hcnt
              have hall := QA.out
              have hown := QO.out
              rw [List.take_of_length_le (by have h := HRES.out; omega)] at hall
              obtain ⟨av, cv, rfl⟩ := ownT_slice hown
              have hel : es.length = k := HLE.out
              have HRG := QG.out
              rw [hel] at HRG hown
              have c20 := HRG.cell 0
              have d21 := HRG.cell 1
              obtain ⟨g10, g11, f10, f11⟩ := Q1.out.two
              have RRs := Q1.out.set2 (.slice a3 Q c3) (.slice av k cv)
              obtain ⟨z0, z1, _, _⟩ := RRs.two
              have HOWN := Lib.hid hown
              have HALL := Lib.hid hall
              clear hown hall RRs hel cg0 cg1 c01 rg r0
              go_wp2_with fail
              have hbE := below_set2 QB.out (show w.heap.size ≤ w.heap.size + 1 by omega) (.slice a3 Q c3) (.slice av k cv)
              have hsE : ResS w.heap.size _ (.slice a3 Q c3) S := QS.out.far Q1.out (by decide) (kept2 (.slice a3 Q c3) (.slice av k cv))
              have hrE := RowO.far (P := (fun W v x => ResA w.heap.size w W v x m)) ⟨es, HOWN.out, HALL.out⟩ Q1.out (by decide) (kept2 (.slice a3 Q c3) (.slice av k cv)) (fun u y h => h.far Q1.out (by decide) (kept2 _ _))
              have hfin := tenR_of (n := m) (s := S) (L := LR) (a := a3) (ca := c3) (b := av) (cb := cv) (m := k) HRES.out.symm hbE (by rw [HML.out]; exact hsE) (hrE.mono (by omega) (fun v x h => h))
              rw [HML.out] at hfin
              exact bodyPost_ret (v := .tuple #[.agg #[.slice a3 Q c3, .slice av k cv], .int .i64 0]) (by simp [results, Tryz.results23, go_sem, z0, z1]) rfl ⟨⟨_, rfl, ⟨_, _, _, _, _, _, rfl⟩, fun _ => hfin⟩, hbE⟩
  · have hne : (p != 0) = true := by simp [h0]
    obtain rfl : c = p := by rw [← HC.out, fitC_to (mayC_ok HOK.out.ok) (by rw [HP.out]; exact h0)]; exact HP.out
    have HNE := Lib.hid h0
    clear h0
    go_enter Tryz.func23, Tryz.ntmps23
    go_wp2_with fail
    (try rw [hW])
    refine hmy.mono ?_
    rintro e W1 ⟨rfl, hEq⟩
    have hb : Below W.heap.size W W1 := by rw [← hEq]; exact Below.refl _ _
    clear hEq hW p0 p1 hmy
    have P1 := H1.out.later hb
    obtain ⟨u0, u1, g0', g1'⟩ := P1.two
    have P3 := P1.set2 (.slice none 0 0) (.slice none 0 0)
    obtain ⟨z0, z1, _, _⟩ := P3.two
    have hBE := below_set2 (HB.out.trans ((hb : Below W.heap.size W _).mono (by omega))) (show w.heap.size ≤ w.heap.size + 1 by omega) (.slice none 0 0) (.slice none 0 0)
    go_wp2_with fail
    refine bodyPost_ret (v := .tuple #[noTensor, .int .i64 c]) (by simp [results, Tryz.results23, go_sem, z0, z1, noTensor]) rfl ⟨⟨_, rfl, ⟨none, 0, 0, none, 0, 0, rfl⟩, fun h => absurd h HNE.out⟩, hBE⟩
end Go.Proofs.YtooglnhlhgmhdaaGreat
