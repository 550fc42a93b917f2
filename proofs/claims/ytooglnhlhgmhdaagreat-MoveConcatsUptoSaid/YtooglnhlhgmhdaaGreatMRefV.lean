/-
  The reference of layer 9: Concat. (Made by wip/gen/gen_mrefv.py.)
-/
import Derived.Test.YtooglnhlhgmhdaaGreatMRowR
namespace Go.Proofs.YtooglnhlhgmhdaaGreat
open Go.RowKit
set_option linter.unusedVariables false
set_option linter.unusedSimpArgs false

theorem todoH9 {P : Program} {ops : Array Oper} {Q : Exit → Act → World → Prop} {md : Region.Mode} {S : World → Prop} {i : Nat} {is : List Nat} {oi : Oper} {v : Value} {fuel : Nat} {listed : Array Bool} {a : Act} {w : World} (hi : ops[i]? = some oi)
    (hk : (Region.noSelect ops && Region.free md ops listed i && (Region.ready md ops listed).contains i) = true)
    (hQ : ∀ c a w, Q (.panic c) (a.put oi.dst v) w → Q (.panic c) a w) (hS : S w) (hy : YieldsIf P ops S oi v a)
    (h : Todo is (wpAnyH P md ops Q S fuel (listed.setIfInBounds i true) (a.put oi.dst v) w)) : Todo (i :: is) (wpAnyH P md ops Q S (fuel + 1) listed a w) := by
  simp only [Bool.and_eq_true] at hk
  exact wpAnyH_take hi hk.1.1 hk.1.2 hk.2 hQ hy hS h
set_option maxRecDepth 100000 in
set_option maxHeartbeats 40000000 in
theorem concatR_any {m : Nat} {w : World} {v : Value} {ys : List Y2} {ad : Option Addr} {cap : Nat} (axis : Int) (R : RowTR m w v ys ad cap) (ne : 0 < ys.length) (hn : ys.length ≤ 1048576) (hok : ∀ y ∈ ys, Ok9 y.s y.l.length) (h0 : -9223372036854775808 ≤ axis) (h1 : axis ≤ 9223372036854775807) (hm : 6 ≤ m) :
    Calls Tryz.prog 31 #[.int .i64 axis, v] w fun e w' => RefA w' e (rcC axis ys) (joE axis.toNat ys) (rcV axis.toNat ys) m ∧ Below w.heap.size w w' := by
  obtain ⟨i0, hiS, hz0, hz1, hz2⟩ := info_parts infoS
  obtain ⟨j0, hjR, hyA, hyB, hyC⟩ := info_parts infoR
  obtain rfl := R.is
  have HR := Lib.hid R
  have HOKY := Lib.hid hok
  obtain ⟨y0, hy0⟩ : ∃ y, ys[0]? = some y := ⟨_, List.getElem?_eq_getElem ne⟩
  have hf : firstE ys = y0.s := by unfold firstE; rw [List.head?_eq_getElem?, hy0]; rfl
  have HF := Lib.hid hf
  have hok0 := hok y0 (List.mem_of_getElem? hy0)
  have hrk := hok0.ok.rank
  obtain ⟨b, o, rfl, hbl, a0, e0, ca0, ce0, k0, k1, T0⟩ := R.at hy0
  rw [Nat.zero_mul, Nat.add_zero] at k0 k1
  obtain ⟨N, hN⟩ : ∃ N, ys.length = N := ⟨_, rfl⟩
  obtain ⟨S0, hS0⟩ : ∃ N, y0.s.length = N := ⟨_, rfl⟩
  have HN := Lib.hid hN
  have HS0 := Lib.hid hS0
  have hcap := R.2.1
  rw [hN] at ne hn hcap ⊢
  rw [hS0] at hrk k0
  obtain ⟨c, hc⟩ : ∃ c, rcC axis ys = c := ⟨_, rfl⟩
  obtain ⟨S, hS⟩ : ∃ S, joE axis.toNat ys = S := ⟨_, rfl⟩
  obtain ⟨LR, hLR⟩ : ∃ LR, rcV axis.toNat ys = LR := ⟨_, rfl⟩
  have HC := Lib.hid hc
  have HS := Lib.hid hS
  have HLR := Lib.hid hLR
  rw [hc, hS, hLR]
  obtain ⟨W, hW⟩ : ∃ W, w.alloc (.cells #[.slice none 0 0, .slice none 0 0] 34) = W := ⟨_, rfl⟩
  have R1 : Row W w.heap.size 34 #[.slice none 0 0, .slice none 0 0] := by rw [← hW]; exact Row.new _ _ _
  have hBW : Below w.heap.size w W := by rw [← hW]; exact (Below.refl _ _).alloc (Nat.le_refl _) _
  have hsW : W.heap.size = w.heap.size + 1 := by rw [← hW]; simp
  have H1 := Lib.hid R1
  have HB := Lib.hid hBW
  have aX : ∀ X, Below w.heap.size w X → ArgS X (.slice a0 S0 ca0) y0.s a0 ca0 := fun X h => by
    have h9 := T0.sh.later h
    rw [hS0] at h9
    exact h9
  have AX0 := Lib.hid aX
  have NA0 := Lib.hid T0.nila
  have c00 := (hBW.cell (World.block_lt_of_cell? _ _ k0)).trans k0
  have hneI : (0 : Int) < (N : Int) := by omega
  clear R hok hf hN hS0 hc hS hLR R1 aX k0 k1 hy0
  by_cases hx1 : axis < 0
  · have hd : decide (axis < 0) = true := decide_eq_true hx1
    obtain rfl : c = 11 := by rw [← HC.out]; exact rcC_ax (.inl hx1)
    have hb : Below W.heap.size W W := Below.refl _ _
    go_enter Tryz.func31, Tryz.ntmps31
    have P1 := H1.out.later hb
    obtain ⟨u0, u1, g0', g1'⟩ := P1.two
    have P3 := P1.set2 (.slice none 0 0) (.slice none 0 0)
    obtain ⟨z0, z1, _, _⟩ := P3.two
    have hBE := below_set2 (HB.out.trans ((hb : Below W.heap.size W _).mono (by omega))) (show w.heap.size ≤ w.heap.size by omega) (.slice none 0 0) (.slice none 0 0)
    go_wp2_with fail
    (try rw [hW])
    refine bodyPost_ret (v := .tuple #[noTensor, .int .i64 11]) (by simp [results, Tryz.results31, go_sem, z0, z1, noTensor]) rfl ⟨⟨_, rfl, ⟨none, 0, 0, none, 0, 0, rfl⟩, fun h => by cases h⟩, hBE⟩
  · have hd : decide (axis < 0) = false := decide_eq_false hx1
    by_cases hx2 : (S0 : Int) ≤ axis
    · have hd2 : decide (axis ≥ (S0 : Int)) = true := decide_eq_true hx2
      obtain rfl : c = 11 := by rw [← HC.out]; exact rcC_ax (.inr (by rw [HF.out, HS0.out]; exact hx2))
      have hb : Below W.heap.size W W := Below.refl _ _
      go_enter Tryz.func31, Tryz.ntmps31
      have P1 := H1.out.later hb
      obtain ⟨u0, u1, g0', g1'⟩ := P1.two
      have P3 := P1.set2 (.slice none 0 0) (.slice none 0 0)
      obtain ⟨z0, z1, _, _⟩ := P3.two
      have hBE := below_set2 (HB.out.trans ((hb : Below W.heap.size W _).mono (by omega))) (show w.heap.size ≤ w.heap.size by omega) (.slice none 0 0) (.slice none 0 0)
      go_wp2_with fail
      (try rw [hW])
      refine bodyPost_ret (v := .tuple #[noTensor, .int .i64 11]) (by simp [results, Tryz.results31, go_sem, z0, z1, noTensor]) rfl ⟨⟨_, rfl, ⟨none, 0, 0, none, 0, 0, rfl⟩, fun h => by cases h⟩, hBE⟩
    · have hd2 : decide (axis ≥ (S0 : Int)) = false := decide_eq_false hx2
      obtain ⟨a, rfl⟩ : ∃ a : Nat, axis = (a : Int) := ⟨axis.toNat, by omega⟩
      have HSa : Hid (joE a ys = S) := Lib.hid (by have h := HS.out; rw [Int.toNat_natCast] at h; exact h)
      have HLa : Hid (rcV a ys = LR) := Lib.hid (by have h := HLR.out; rw [Int.toNat_natCast] at h; exact h)
      have haS : a < S0 := by omega
      have haf : Hid (a < (firstE ys).length) := Lib.hid (by rw [HF.out, HS0.out]; exact haS)
      go_enter Tryz.func31, Tryz.ntmps31
      go_wp2_with fail
      (try rw [hW])
      clear hW c00 hd hd2
      go_loopw [7, 8, 9] (fun f i _ W1 => ∃ (k : Nat), i = .int .i64 (k : Int) ∧ f = .int .i64 (sumE a (ys.take k)) ∧ k ≤ N ∧ (∀ y ∈ ys.take k, ¬ badY a y0.s y) ∧ Below W.heap.size W W1) (fun _ i _ _ => N - (intOf i).toNat)
      case atStart => exact ⟨0, rfl, rfl, Nat.zero_le _, (fun y hy => by simp at hy), Below.refl _ _⟩
      case round =>
        rename World => W1
        obtain ⟨k, rfl, rfl, hk, hgd, hb⟩ := hrel
        have hbw : Below w.heap.size w W1 := HB.out.trans (hb.mono (by omega))
        have hsz := hb.size
        have HGD := Lib.hid hgd
        have hlong : ∀ y ∈ ys.take k, OkS y.s ∧ a < y.s.length := fun y hy => ⟨(HOKY.out y (List.mem_of_mem_take hy)).ok, by
          have h := hgd y hy
          unfold badY at h
          have : y.s.length = y0.s.length := Classical.byContradiction fun h2 => h (.inl h2)
          rw [this, HS0.out]
          exact haS⟩
        have hbd := sumE_bound hlong
        rw [List.length_take, HN.out, show min k N = k by omega] at hbd
        obtain ⟨f0, hf0⟩ : ∃ f, sumE a (ys.take k) = f := ⟨_, rfl⟩
        rw [hf0] at hbd ⊢
        have HF0 := Lib.hid hf0
        clear hgd hf0
        by_cases hlt : k < N
        · have hltI : (k : Int) < (N : Int) := by omega
          obtain ⟨y, hy⟩ : ∃ y, ys[k]? = some y := ⟨_, List.getElem?_eq_getElem (by rw [HN.out]; omega)⟩
          have hym := List.mem_of_getElem? hy
          have hoky := HOKY.out y hym
          obtain ⟨b', o', e', _, ay, ey, cy, dy, g0, g1, TY⟩ := HR.out.at hy
          cases e'
          obtain ⟨SY, hSY⟩ : ∃ n, y.s.length = n := ⟨_, rfl⟩
          have HSY := Lib.hid hSY
          rw [hSY] at g0
          have c0 := (hbw.cell (World.block_lt_of_cell? _ _ g0)).trans g0
          have HY := Lib.hid hy
          have HTY := Lib.hid TY
          have HG0 := Lib.hid g0
          clear hSY g0 g1 TY hy
          by_cases hle : SY = S0
          · have hne : ((SY : Int) != (S0 : Int)) = false := by simp; omega
            have hle2 : SY ≤ S0 ∧ S0 ≤ SY := by omega
            clear hle
            go_wp2_with fail
            clear c0 hne
            go_loopw [9] (fun i wi => ∃ (j : Nat), i = .int .i64 (j : Int) ∧ j ≤ S0 ∧ (∀ i, i < j → i ≠ a → y.s.getD i 0 = y0.s.getD i 0) ∧ Below W1.heap.size W1 wi) (fun i _ => S0 - (intOf i).toNat)
            case atStart => exact ⟨0, rfl, Nat.zero_le _, (fun i hi => by omega), Below.refl _ _⟩
            case round =>
              rename World => wi
              obtain ⟨j, rfl, hj, hgj, hbi⟩ := hrel
              have hbwi : Below w.heap.size w wi := hbw.trans (hbi.mono hbw.size)
              have hbWi : Below W.heap.size W wi := hb.trans (hbi.mono hsz)
              have HGJ := Lib.hid hgj
              clear hgj
              by_cases hltj : j < S0
              · have hltjI : (j : Int) < (S0 : Int) := by omega
                have hltjY : (j : Int) < (SY : Int) := by omega
                obtain ⟨by1, oy, rfl, c2⟩ := (HTY.out.sh.later hbwi).at (i := j) (by rw [HSY.out]; omega)
                obtain ⟨bf, of1, rfl, c3⟩ := (AX0.out _ hbwi).at (i := j) (by rw [HS0.out]; exact hltj)
                obtain ⟨d, hd⟩ : ∃ d, y.s.getD j 0 = d := ⟨_, rfl⟩
                obtain ⟨d0, hd0⟩ : ∃ d, y0.s.getD j 0 = d := ⟨_, rfl⟩
                rw [hd] at c2
                rw [hd0] at c3
                have HDD := Lib.hid hd
                have HD0 := Lib.hid hd0
                have c0 := (hbwi.cell (World.block_lt_of_cell? _ _ HG0.out)).trans HG0.out
                have hcells : wi.drew.cell? ⟨b, o + k * 2, none⟩ = some (.slice (some ⟨by1, oy, none⟩) SY cy) ∧ wi.drew.cell? ⟨by1, oy + j, none⟩ = some (.int .i64 d) ∧ wi.drew.cell? ⟨bf, of1 + j, none⟩ = some (.int .i64 d0) := ⟨c0, c2, c3⟩
                clear hd hd0
                by_cases hja : j = a
                · have hee : ((j : Int) != (a : Int)) = false := by simp; omega
                  have HJA := Lib.hid hja
                  clear hja
                  go_wp2_with fail
                  refine wp_region_held (S := fun Y => Y.cell? ⟨b, o + k * 2, none⟩ = some (.slice (some ⟨by1, oy, none⟩) SY cy) ∧ Y.cell? ⟨by1, oy + j, none⟩ = some (.int .i64 d) ∧ Y.cell? ⟨bf, of1 + j, none⟩ = some (.int .i64 d0)) (by kernel_rfl) ?_
                  have hHeld := hcells
                  refine todo [0, 1, 2, 3] ?_
                  iterate 4
                   refine todoH9 (v := ?_) rfl (by kernel_rfl) (fun _ _ _ h => h) (by assumption) (Or.inl ⟨by rfl, ?_⟩) ?_
                   rotate_left
                   · intro w hSw; (try dsimp only at hSw); go_simp; (try with_reducible rfl)
                   try simp only [Act.put, List.getElem_toArray, List.getElem_cons_succ, List.getElem_cons_zero, List.setIfInBounds_toArray, List.set_cons_zero, List.set_cons_succ]
                  refine todone ?_
                  refine wpAnyH_take (i := 4) (v := undef) rfl (by kernel_rfl) (by kernel_rfl) (by kernel_rfl) (fun _ _ _ h => h) (Or.inr ⟨by rfl, rfl⟩) (by assumption) ?rva0s4
                  try simp only [Act.put, List.getElem_toArray, List.getElem_cons_succ, List.getElem_cons_zero, List.setIfInBounds_toArray, List.set_cons_zero, List.set_cons_succ]
                  refine wpAnyH_take (i := 5) (v := undef) rfl (by kernel_rfl) (by kernel_rfl) (by kernel_rfl) (fun _ _ _ h => h) (Or.inr ⟨by rfl, rfl⟩) (by assumption) ?rva0s5
                  try simp only [Act.put, List.getElem_toArray, List.getElem_cons_succ, List.getElem_cons_zero, List.setIfInBounds_toArray, List.set_cons_zero, List.set_cons_succ]
                  refine wpAnyH_take (i := 6) (v := undef) rfl (by kernel_rfl) (by kernel_rfl) (by kernel_rfl) (fun _ _ _ h => h) (Or.inr ⟨by rfl, rfl⟩) (by assumption) ?rva0s6
                  try simp only [Act.put, List.getElem_toArray, List.getElem_cons_succ, List.getElem_cons_zero, List.setIfInBounds_toArray, List.set_cons_zero, List.set_cons_succ]
                  refine wpAnyH_take (i := 7) (v := undef) rfl (by kernel_rfl) (by kernel_rfl) (by kernel_rfl) (fun _ _ _ h => h) (Or.inr ⟨by rfl, rfl⟩) (by assumption) ?rva0s7
                  try simp only [Act.put, List.getElem_toArray, List.getElem_cons_succ, List.getElem_cons_zero, List.setIfInBounds_toArray, List.set_cons_zero, List.set_cons_succ]
                  refine wpAnyH_take (i := 8) (v := undef) rfl (by kernel_rfl) (by kernel_rfl) (by kernel_rfl) (fun _ _ _ h => h) (Or.inr ⟨by rfl, rfl⟩) (by assumption) ?rva0s8
                  try simp only [Act.put, List.getElem_toArray, List.getElem_cons_succ, List.getElem_cons_zero, List.setIfInBounds_toArray, List.set_cons_zero, List.set_cons_succ]
                  refine wpAnyH_take (i := 9) (v := undef) rfl (by kernel_rfl) (by kernel_rfl) (by kernel_rfl) (fun _ _ _ h => h) (Or.inr ⟨by rfl, rfl⟩) (by assumption) ?rva0s9
                  try simp only [Act.put, List.getElem_toArray, List.getElem_cons_succ, List.getElem_cons_zero, List.setIfInBounds_toArray, List.set_cons_zero, List.set_cons_succ]
                  refine wpAnyH_take (i := 10) (v := undef) rfl (by kernel_rfl) (by kernel_rfl) (by kernel_rfl) (fun _ _ _ h => h) (Or.inr ⟨by rfl, rfl⟩) (by assumption) ?rva0s10
                  try simp only [Act.put, List.getElem_toArray, List.getElem_cons_succ, List.getElem_cons_zero, List.setIfInBounds_toArray, List.set_cons_zero, List.set_cons_succ]
                  refine wpAnyH_take (i := 11) (v := undef) rfl (by kernel_rfl) (by kernel_rfl) (by kernel_rfl) (fun _ _ _ h => h) (Or.inr ⟨by rfl, rfl⟩) (by assumption) ?rva0s11
                  try simp only [Act.put, List.getElem_toArray, List.getElem_cons_succ, List.getElem_cons_zero, List.setIfInBounds_toArray, List.set_cons_zero, List.set_cons_succ]
                  refine wpAnyH_take (i := 12) (v := undef) rfl (by kernel_rfl) (by kernel_rfl) (by kernel_rfl) (fun _ _ _ h => h) (Or.inr ⟨by rfl, rfl⟩) (by assumption) ?rva0s12
                  try simp only [Act.put, List.getElem_toArray, List.getElem_cons_succ, List.getElem_cons_zero, List.setIfInBounds_toArray, List.set_cons_zero, List.set_cons_succ]
                  refine wpAnyH_take (i := 13) (v := undef) rfl (by kernel_rfl) (by kernel_rfl) (by kernel_rfl) (fun _ _ _ h => h) (Or.inr ⟨by rfl, rfl⟩) (by assumption) ?rva0s13
                  try simp only [Act.put, List.getElem_toArray, List.getElem_cons_succ, List.getElem_cons_zero, List.setIfInBounds_toArray, List.set_cons_zero, List.set_cons_succ]
                  refine wpAnyH_take (i := 14) (v := undef) rfl (by kernel_rfl) (by kernel_rfl) (by kernel_rfl) (fun _ _ _ h => h) (Or.inr ⟨by rfl, rfl⟩) (by assumption) ?rva0s14
                  try simp only [Act.put, List.getElem_toArray, List.getElem_cons_succ, List.getElem_cons_zero, List.setIfInBounds_toArray, List.set_cons_zero, List.set_cons_succ]
                  refine wpAnyH_take (i := 15) (v := undef) rfl (by kernel_rfl) (by kernel_rfl) (by kernel_rfl) (fun _ _ _ h => h) (Or.inr ⟨by rfl, rfl⟩) (by assumption) ?rva0s15
                  try simp only [Act.put, List.getElem_toArray, List.getElem_cons_succ, List.getElem_cons_zero, List.setIfInBounds_toArray, List.set_cons_zero, List.set_cons_succ]
                  refine wpAnyH_take (i := 16) (v := undef) rfl (by kernel_rfl) (by kernel_rfl) (by kernel_rfl) (fun _ _ _ h => h) (Or.inr ⟨by rfl, rfl⟩) (by assumption) ?rva0s16
                  try simp only [Act.put, List.getElem_toArray, List.getElem_cons_succ, List.getElem_cons_zero, List.setIfInBounds_toArray, List.set_cons_zero, List.set_cons_succ]
                  refine wpAnyH_take (i := 17) (v := ?vva0a17) rfl (by kernel_rfl) (by kernel_rfl) (by kernel_rfl) (fun _ _ _ h => h) (Or.inl ⟨by rfl, ?hva0a17⟩) (by assumption) ?rva0a17
                  case hva0a17 =>
                    intro w hSw
                    try dsimp only at hSw
                    go_simp
                    try with_reducible rfl
                  try simp only [Act.put, List.getElem_toArray, List.getElem_cons_succ, List.getElem_cons_zero, List.setIfInBounds_toArray, List.set_cons_zero, List.set_cons_succ]
                  refine wpAnyH_done (by kernel_rfl) ?_ _
                  go_wp2_with fail
                  go_roundw
                  case rel =>
                    refine ⟨j + 1, by go_num, by omega, fun i hi hia => ?_, hbi.drew⟩
                    by_cases e : i = j
                    · subst e
                      exact absurd HJA.out hia
                    · exact HGJ.out i (by omega) hia
                  case measure => simp [intOf]; omega
                · have hee : ((j : Int) != (a : Int)) = true := by rw [bne_iff_ne]; omega
                  by_cases hdd : d = d0
                  · have hed : (d != d0) = false := by simp [hdd]
                    have HDE := Lib.hid hdd
                    clear hdd
                    go_wp2_with fail
                    refine wp_region_held (S := fun Y => Y.cell? ⟨b, o + k * 2, none⟩ = some (.slice (some ⟨by1, oy, none⟩) SY cy) ∧ Y.cell? ⟨by1, oy + j, none⟩ = some (.int .i64 d) ∧ Y.cell? ⟨bf, of1 + j, none⟩ = some (.int .i64 d0)) (by kernel_rfl) ?_
                    have hHeld := hcells
                    refine todo [0, 1, 2, 3, 4, 5, 6, 7, 8, 9, 10, 11, 12, 13, 14, 15, 16, 17] ?_
                    iterate 18
                     refine todoH9 (v := ?_) rfl (by kernel_rfl) (fun _ _ _ h => h) (by assumption) (Or.inl ⟨by rfl, ?_⟩) ?_
                     rotate_left
                     · intro w hSw; (try dsimp only at hSw); go_simp; (try with_reducible rfl)
                     try simp only [Act.put, List.getElem_toArray, List.getElem_cons_succ, List.getElem_cons_zero, List.setIfInBounds_toArray, List.set_cons_zero, List.set_cons_succ]
                    refine todone ?_
                    refine wpAnyH_done (by kernel_rfl) ?_ _
                    go_wp2_with fail
                    go_roundw
                    case rel =>
                      refine ⟨j + 1, by go_num, by omega, fun i hi hia => ?_, hbi.drew⟩
                      by_cases e : i = j
                      · subst e
                        rw [HDD.out, HD0.out]
                        exact HDE.out
                      · exact HGJ.out i (by omega) hia
                    case measure => simp [intOf]; omega
                  · have hed : (d != d0) = true := by simp [hdd]
                    obtain rfl : c = 13 := by
                      rw [← HC.out]
                      exact rcC_bad haf.out hym (.inr ⟨j, by rw [HF.out, HS0.out]; exact hltj, hja, by rw [HF.out, HDD.out, HD0.out]; exact hdd⟩)
                    clear hdd
                    go_wp2_with fail
                    refine wp_region_held (S := fun Y => Y.cell? ⟨b, o + k * 2, none⟩ = some (.slice (some ⟨by1, oy, none⟩) SY cy) ∧ Y.cell? ⟨by1, oy + j, none⟩ = some (.int .i64 d) ∧ Y.cell? ⟨bf, of1 + j, none⟩ = some (.int .i64 d0)) (by kernel_rfl) ?_
                    have hHeld := hcells
                    refine todo [0, 1, 2, 3, 4, 5, 6, 7, 8, 9, 10, 11, 12, 13, 14, 15, 16, 17] ?_
                    iterate 18
                     refine todoH9 (v := ?_) rfl (by kernel_rfl) (fun _ _ _ h => h) (by assumption) (Or.inl ⟨by rfl, ?_⟩) ?_
                     rotate_left
                     · intro w hSw; (try dsimp only at hSw); go_simp; (try with_reducible rfl)
                     try simp only [Act.put, List.getElem_toArray, List.getElem_cons_succ, List.getElem_cons_zero, List.setIfInBounds_toArray, List.set_cons_zero, List.set_cons_succ]
                    refine todone ?_
                    refine wpAnyH_done (by kernel_rfl) ?_ _
                    clear c0 c2 c3 hcells
                    have P1 := H1.out.later hbWi
                    obtain ⟨u0, u1, g0', g1'⟩ := P1.two
                    have P3 := P1.set2 (.slice none 0 0) (.slice none 0 0)
                    obtain ⟨z0, z1, _, _⟩ := P3.two
                    have hBE := below_set2 (HB.out.trans ((hbWi : Below W.heap.size W _).mono (by omega))) (show w.heap.size ≤ w.heap.size by omega) (.slice none 0 0) (.slice none 0 0)
                    go_wp2_with fail
                    refine bodyPost_ret (v := .tuple #[noTensor, .int .i64 13]) (by simp [results, Tryz.results31, go_sem, z0, z1, noTensor]) rfl ⟨⟨_, rfl, ⟨none, 0, 0, none, 0, 0, rfl⟩, fun h => by cases h⟩, hBE.drew⟩
              · obtain rfl : j = S0 := by omega
                have hltjI : ¬ (j : Int) < (j : Int) := by omega
                obtain ⟨by1, oy, rfl, c2⟩ := (HTY.out.sh.later hbwi).at (i := a) (by rw [HSY.out]; omega)
                obtain ⟨d, hd⟩ : ∃ d, y.s.getD a 0 = d := ⟨_, rfl⟩
                have hd3 := hoky.ok.pos.getD (i := a) (by rw [HSY.out]; omega)
                have hd4 := getD_le_prod hoky.ok.pos (k := a) (by rw [HSY.out]; omega)
                have hd5 := hoky.ok.few
                rw [hd] at c2 hd3 hd4
                have c0 := (hbwi.cell (World.block_lt_of_cell? _ _ HG0.out)).trans HG0.out
                have wy : IntKind.i64.wrap (f0 + d) = f0 + d := wrap_i64 (by omega) (by omega)
                have hnx : sumE a (ys.take (k + 1)) = f0 + d := by rw [take_nextL HY.out, sumE_snoc, HF0.out, hd]
                have HNX := Lib.hid hnx
                have haY : (a : Int) < (SY : Int) := by omega
                have hnb : ¬ badY a y0.s y := fun h => by
                  rcases h with h | ⟨i, h1, h2, h3⟩
                  · rw [HSY.out, HS0.out] at h
                    omega
                  · rw [HS0.out] at h1
                    exact h3 (HGJ.out i h1 h2)
                have HNB := Lib.hid hnb
                clear hd hnx hnb
                go_wp2_with fail
                go_roundw
                case rel =>
                  refine ⟨k + 1, by go_num, by rw [HNX.out], by omega, fun z hz => ?_, hbWi⟩
                  rw [take_nextL HY.out] at hz
                  rcases List.mem_append.1 hz with hz | hz
                  · exact HGD.out z hz
                  · rw [List.mem_singleton] at hz
                    subst hz
                    exact HNB.out
                case measure => simp [intOf]; omega
          · have hne : ((SY : Int) != (S0 : Int)) = true := by rw [bne_iff_ne]; omega
            obtain rfl : c = 13 := by
              rw [← HC.out]
              exact rcC_bad haf.out hym (.inl (by rw [HF.out, HSY.out, HS0.out]; exact hle))
            clear hle
            have P1 := H1.out.later hb
            obtain ⟨u0, u1, g0', g1'⟩ := P1.two
            have P3 := P1.set2 (.slice none 0 0) (.slice none 0 0)
            obtain ⟨z0, z1, _, _⟩ := P3.two
            have hBE := below_set2 (HB.out.trans ((hb : Below W.heap.size W _).mono (by omega))) (show w.heap.size ≤ w.heap.size by omega) (.slice none 0 0) (.slice none 0 0)
            go_wp2_with fail
            refine bodyPost_ret (v := .tuple #[noTensor, .int .i64 13]) (by simp [results, Tryz.results31, go_sem, z0, z1, noTensor]) rfl ⟨⟨_, rfl, ⟨none, 0, 0, none, 0, 0, rfl⟩, fun h => by cases h⟩, hBE⟩
        · obtain rfl : N = k := by omega
          have hltI : ¬ (N : Int) < (N : Int) := by omega
          have hall : ∀ y ∈ ys, ¬ badY a y0.s y := by
            have h := HGD.out
            rw [List.take_of_length_le (by rw [HN.out]; exact Nat.le_refl _)] at h
            exact h
          have hokl : ∀ y ∈ ys, OkS y.s ∧ a < y.s.length := by
            rw [List.take_of_length_le (by rw [HN.out]; exact Nat.le_refl _)] at hlong
            exact hlong
          have hlens : ∀ y ∈ ys, y.s.length = S0 := fun y hy => by
            rw [← HS0.out]
            exact Classical.byContradiction fun h2 => hall y hy (.inl h2)
          have hsum : sumE a ys = f0 := by
            rw [← HF0.out, List.take_of_length_le (by rw [HN.out]; exact Nat.le_refl _)]
          have HALL := Lib.hid hall
          have HOKL := Lib.hid hokl
          have HLENS := Lib.hid hlens
          have HSUM := Lib.hid hsum
          have hjp := joE_pos (by rw [HN.out]; exact ne) hokl
          rw [HSa.out] at hjp
          have HJP := Lib.hid hjp
          have hSe : S = y0.s.set a f0 := by
            rw [← HSa.out]
            unfold joE
            rw [show (ys.head?.map Y2.s).getD [] = y0.s from HF.out, hsum]
          have HSE := Lib.hid hSe
          have hSl : S.length = S0 := by rw [hSe, List.length_set, HS0.out]
          have HML := Lib.hid hSl
          have dW := AX0.out W1 hbw
          have hq8 : y0.s.length ≤ 17592186044416 := by rw [HS0.out]; omega
          have HBW1 := Lib.hid hb
          have HBw1 := Lib.hid hbw
          have hwW : w.heap.size ≤ W1.heap.size := by omega
          clear hall hokl hlens hsum hjp hSe hSl hlong hb hbw
          go_wp2_with (at_builtin; refine step_copyT rfl _ 22 22 Tryz.underlying22 Tryz.underlying22 rfl rfl dW NA0.out hq8 ?_; intro ro w3 R3 hb3; obtain ⟨a3, c3, rfl, I3, hl3, n3, wf3⟩ := R3.idx)
          rw [HS0.out]
          have hs3 := hb3.size
          obtain ⟨g, hg⟩ : ∃ g, w3.heap.size = g := ⟨_, rfl⟩
          obtain ⟨W4, hW4⟩ : ∃ Y, w3.alloc (.cells #[.slice a3 S0 c3, .slice none 0 0] 34) = Y := ⟨_, rfl⟩
          have b4 : Below w3.heap.size w3 W4 := by rw [← hW4]; exact (Below.refl _ _).alloc (Nat.le_refl _) _
          have b14 : Below W1.heap.size W1 W4 := hb3.trans (b4.mono hs3)
          have RG4 : Row W4 g 34 #[.slice a3 S0 c3, .slice none 0 0] := by rw [← hW4, ← hg]; exact Row.new _ _ _
          have I4 := I3.later b4
          obtain ⟨gs, rfl, hgs, hmx3, P4⟩ := I4.at (i := a) (by rw [HS0.out]; exact haS)
          have hgsl := P4.lt
          have hgsg : gs < g := by
            have h9 := I3.lt
            omega
          have cz := P4.cell a (by rw [HS0.out]; exact haS)
          have fz := P4.free a
          have cg0 := RG4.cell 0
          obtain ⟨W5, hW5⟩ : ∃ Y, W4.setCell ⟨gs, a, none⟩ (.int .i64 f0) = Y := ⟨_, rfl⟩
          have b5 : Below W1.heap.size W1 W5 := by rw [← hW5]; exact b14.setCell (p := ⟨gs, a, none⟩) hgs _
          have P5 : PartS W5 gs c3 S := by rw [← hW5, HSE.out]; exact P4.set a (by rw [HS0.out]; exact haS) f0
          have RG5 : Row W5 g 34 #[.slice (some ⟨gs, 0, none⟩) S0 c3, .slice none 0 0] := by rw [← hW5]; exact RG4.far (by show g ≠ gs; omega) _
          have hRS : ResS W1.heap.size W5 (.slice (some ⟨gs, 0, none⟩) S.length c3) S := IdxP.res (.inr ⟨gs, rfl, hgs, hmx3, P5⟩) (fun z hz => by
            rw [HSE.out] at hz
            rcases List.mem_or_eq_of_mem_set hz with h | rfl
            · exact wf3 z h
            · omega)
          rw [HML.out] at hRS
          have hbW5 : Below W.heap.size W W5 := HBW1.out.trans (b5.mono hsz)
          have HG := Lib.hid RG5
          have HSS : Hid (ResS w.heap.size W5 (.slice (some ⟨gs, 0, none⟩) S0 c3) S) := Lib.hid (hRS.mono hwW)
          have H15 := Lib.hid (H1.out.later hbW5)
          have HB5 := Lib.hid (HB.out.trans (hbW5.mono (by omega)))
          have hg2 : w.heap.size + 1 ≤ g := by omega
          have cg5 := RG5.cell 0
          have haI0 : (a : Int) < (S0 : Int) := by omega
          have hcnt := count9_any ((HSS.out.at_).2.1) HJP.out.1 (by have := HJP.out.2; omega)
          obtain ⟨q, hq⟩ : ∃ q, cntR S = q := ⟨_, rfl⟩
          rw [hq] at hcnt
          have HQQ := Lib.hid hq
          (try rw [hg])
          (try rw [hW4])
          clear R3 I3 I4 b4 P4 RG4 P5 RG5 hRS hq dW hb3 hW4 n3 wf3 b14
          go_wp2_with fail
          (try go_simp)
          (try go_wp2_with fail)
          (try rw [hW5])
          clear hW5 cz fz cg0
          refine hcnt.mono ?_
          rintro e wq ⟨rfl, rfl⟩
          clear hcnt cg5
          have hnall : ∀ y ∈ ys, ¬ badY a (firstE ys) y := by rw [HF.out]; exact HALL.out
          by_cases ho : q > 1024
          · have hdd : decide (q > 1024) = true := decide_eq_true ho
            obtain rfl : c = 14 := by
              rw [← HC.out]
              refine rcC_many haf.out hnall ?_
              rw [HSa.out]
              have h9 := HQQ.out
              unfold cntR at h9
              split at h9 <;> omega
            clear hnall
            have P1 := H1.out.later hbW5
            obtain ⟨u0, u1, g0', g1'⟩ := P1.two
            have P3 := P1.set2 (.slice none 0 0) (.slice none 0 0)
            obtain ⟨z0, z1, _, _⟩ := P3.two
            have hBE := below_set2 (HB.out.trans ((hbW5 : Below W.heap.size W _).mono (by omega))) (show w.heap.size ≤ w.heap.size by omega) (.slice none 0 0) (.slice none 0 0)
            go_wp2_with fail
            refine bodyPost_ret (v := .tuple #[noTensor, .int .i64 14]) (by simp [results, Tryz.results31, go_sem, z0, z1, noTensor]) rfl ⟨⟨_, rfl, ⟨none, 0, 0, none, 0, 0, rfl⟩, fun h => by cases h⟩, hBE⟩
          · have hdd : decide (q > 1024) = false := decide_eq_false ho
            have hfew : prodS S ≤ 1024 := by
              have h9 := HQQ.out
              unfold cntR at h9
              split at h9 <;> omega
            obtain rfl : c = 0 := by
              rw [← HC.out]
              refine rcC_few haf.out hnall ?_
              rw [HSa.out]
              omega
            have okS : OkS S := ⟨HJP.out.2, HJP.out.1, hfew⟩
            have HOKS := Lib.hid okS
            obtain ⟨CN, hCN⟩ : ∃ n, (prodS S).toNat = n := ⟨_, rfl⟩
            have hps := prodS_pos okS.pos
            have HPC : Hid (prodS S = (CN : Int)) := Lib.hid (by omega)
            have HRES : Hid (LR.length = CN) := Lib.hid (by rw [← HLa.out]; unfold rcV; rw [fillV_len, HSa.out]; exact hCN)
            have hCN1 : CN ≤ 1024 := by omega
            have hSa : S.getD a 0 = f0 := by rw [HSE.out]; exact getD_set_self _ _ _ (by rw [HS0.out]; exact haS)
            have HSA := Lib.hid hSa
            clear hfew okS hCN hps hnall hSa ho
            go_wp2_with fail
            clear hdd
            go_loopw [11, 12, 13] (fun i _ _ wr => ∃ (k : Nat) (v : Value), i = .int .i64 (k : Int) ∧ k ≤ CN ∧ Row wr (w.heap.size) 34 #[.slice none 0 0, .slice none 0 0] ∧
              Row wr g 34 #[.slice (some ⟨gs, 0, none⟩) S0 c3, v] ∧ ResS w.heap.size wr (.slice (some ⟨gs, 0, none⟩) S0 c3) S ∧ RowO w.heap.size 75 (fun W v x => ResA w.heap.size w W v x m) wr v (LR.take k) ∧ Below w.heap.size w wr) (fun i _ _ _ => CN - (intOf i).toNat)
            case atStart => exact ⟨0, _, rfl, Nat.zero_le _, H15.out, HG.out, HSS.out, RowO.nil _ _ _ _, HB5.out⟩
            case round =>
              obtain ⟨k, v, rfl, hk, r1, rg, rs, ⟨es, hown, hall⟩, hb⟩ := hrel
              have hsz := hb.size
              have hle9 : es.length = k := by have h := HRES.out; rw [hall.1, List.length_take, h]; omega
              have HLE := Lib.hid hle9
              have Q1 := Lib.hid r1
              have QG := Lib.hid rg
              have QS := Lib.hid rs
              have QO := Lib.hid hown
              have QA := Lib.hid hall
              have QB := Lib.hid hb
              clear r1 hall hown hle9
              have A3 := (rs.at_).2.1
              have cg0 := rg.cell 0
              have cg1 := rg.cell 1
              by_cases hlt : k < CN
              · have hkC : (k : Int) < (CN : Int) := by omega
                have hkP : (k : Int) < prodS S := by rw [HPC.out]; omega
                obtain ⟨l0, hl0⟩ : ∃ l, idxS S (k : Int) = l := ⟨_, rfl⟩
                have hin0 := (place_idx HOKS.out.pos (show 0 ≤ (k : Int) by omega) hkP).1
                have hidx := fun X (h : Below wr.heap.size wr X) => index9_any (A3.later h) HOKS.out (show 0 ≤ (k : Int) by omega) hkP
                rw [hl0] at hidx hin0
                have HIN := Lib.hid hin0
                have hl0n : l0.length = S0 := by rw [inS_length hin0, HML.out]
                have HLN := Lib.hid hl0n
                have HL0 := Lib.hid hl0
                clear hin0 hl0 hl0n hkP rs
                have hcnt := fun X (h : Below wr.heap.size wr X) => count9_any (A3.later h) HOKS.out.pos (by have := HOKS.out.rank; omega)
                rw [cntR_ok HOKS.out, HPC.out] at hcnt
                go_wp2_with fail
                refine (hcnt _ (Below.refl _ _)).mono ?_
                rintro e wq ⟨rfl, rfl⟩
                clear hcnt
                go_wp2_with fail
                refine (hidx _ (Below.refl _ _)).mono ?_
                rintro e y1 ⟨rl, rfl, RL, hy1⟩
                obtain ⟨al, cl, rfl, IL, hcl, nl, wl⟩ := RL.idx
                rw [HLN.out] at hcl ⊢
                have HIL := Lib.hid IL
                have HWL := Lib.hid wl
                have HNL := Lib.hid nl
                have B1 : Below w.heap.size w y1 := hb.trans (hy1.mono hsz)
                clear RL IL wl nl hidx cg0 cg1 rg
                have hza := inS_at HIN.out (i := a) (by rw [HML.out]; exact haS)
                rw [HSA.out] at hza
                obtain ⟨t0, ht0⟩ : ∃ t, l0.getD a 0 = t := ⟨_, rfl⟩
                rw [ht0] at hza
                have HT0 := Lib.hid ht0
                clear ht0
                go_wp2_with fail
                go_loopw [13] (fun i wi => ∃ (kk : Nat) (t : Int), i = .int .i64 (kk : Int) ∧ kk < N ∧ t + sumE a (ys.take kk) = t0 ∧ 0 ≤ t ∧ IdxP wr.heap.size wi al cl (l0.set a t) ∧ Below wr.heap.size wr wi) (fun i _ => N - (intOf i).toNat)
                case atStart => exact ⟨0, t0, rfl, ne, by simp [sumE], hza.1, by rw [← HT0.out, set_self9]; exact HIL.out, hy1⟩
                case round =>
                  rename World => wi
                  obtain ⟨kk, t, rfl, hkk, hst, ht, hI, hbi⟩ := hrel
                  have HST := Lib.hid hst
                  have HI := Lib.hid hI
                  have hbwi : Below w.heap.size w wi := QB.out.trans (hbi.mono hsz)
                  have hll : (l0.set a t).length = S0 := by rw [List.length_set, HLN.out]
                  obtain ⟨y, hy⟩ : ∃ y, ys[kk]? = some y := ⟨_, List.getElem?_eq_getElem (by rw [HN.out]; omega)⟩
                  have hym := List.mem_of_getElem? hy
                  have hol := HOKL.out y hym
                  have hlen := HLENS.out y hym
                  obtain ⟨b', o', e', _, ay, ey, cy, dy, g0, g1, TY⟩ := HR.out.at hy
                  cases e'
                  have HTK := Lib.hid TY
                  obtain ⟨by1, oy, rfl, c2⟩ := (TY.sh.later hbwi).at (i := a) hol.2
                  obtain ⟨d, hd⟩ : ∃ d, y.s.getD a 0 = d := ⟨_, rfl⟩
                  have hd3 := hol.1.pos.getD hol.2
                  have hd4 := getD_le_prod hol.1.pos hol.2
                  have hd5 := hol.1.few
                  rw [hd] at c2 hd3 hd4
                  obtain ⟨KY, hKY⟩ : ∃ n, y.l.length = n := ⟨_, rfl⟩
                  have HKY := Lib.hid hKY
                  rw [hlen] at g0
                  rw [hKY] at g1
                  have hbll : b < w.heap.size := World.block_lt_of_cell? _ _ g0
                  have c0 := (hbwi.cell (World.block_lt_of_cell? _ _ g0)).trans g0
                  have c1 := (hbwi.cell (World.block_lt_of_cell? _ _ g1)).trans g1
                  obtain ⟨gl, rfl, hgB, hmx, hP⟩ := hI.at (i := a) (by rw [hll]; exact haS)
                  have cz := hP.cell a (by rw [hll]; exact haS)
                  rw [getD_set_self _ _ _ (by rw [HLN.out]; exact haS)] at cz
                  have hfd : wi.drew.frozen? ⟨gl, a, none⟩ = false := hP.free a
                  have HP := Lib.hid hP
                  have HYK := Lib.hid hy
                  have HDK := Lib.hid hd
                  have haI : (a : Int) < (S0 : Int) := by omega
                  have hkkI : (kk : Int) < (N : Int) := by omega
                  have hcells : (wi.drew.cell? ⟨gl, a, none⟩ = some (.int .i64 t) ∧ wi.drew.cell? ⟨b, o + kk * 2, none⟩ = some (.slice (some ⟨by1, oy, none⟩) S0 cy)) ∧ wi.drew.cell? ⟨by1, oy + a, none⟩ = some (.int .i64 d) := ⟨⟨cz, c0⟩, c2⟩
                  have hcells2 : (wi.drew.drew.cell? ⟨gl, a, none⟩ = some (.int .i64 t) ∧ wi.drew.drew.cell? ⟨b, o + kk * 2, none⟩ = some (.slice (some ⟨by1, oy, none⟩) S0 cy)) ∧ wi.drew.drew.cell? ⟨by1, oy + a, none⟩ = some (.int .i64 d) := ⟨⟨cz, c0⟩, c2⟩
                  have hfd2 : wi.drew.drew.frozen? ⟨gl, a, none⟩ = false := hfd
                  have htle : t ≤ 2000000000 := by have := hza.2; have hq := sumE_bound (a := a) (l := ys.take kk) (fun z hz => HOKL.out z (List.mem_of_mem_take hz)); omega
                  clear hst hI TY g0 g1 hd hKY hy hP
                  by_cases htd : t ≥ d
                  · have hdt : decide (t ≥ d) = true := decide_eq_true htd
                    have wy : IntKind.i64.wrap (t - d) = t - d := wrap_i64 (by omega) (by omega)
                    have hnx : sumE a (ys.take (kk + 1)) = sumE a (ys.take kk) + d := by rw [take_nextL HYK.out, sumE_snoc, HDK.out]
                    have hkn : kk + 1 < N := by
                      rcases Nat.lt_or_ge (kk + 1) N with h | h
                      · exact h
                      · have e : ys.take (kk + 1) = ys := List.take_of_length_le (by rw [HN.out]; omega)
                        rw [e, HSUM.out] at hnx
                        have := HST.out
                        omega
                    have HNX := Lib.hid hnx
                    clear hnx
                    go_wp2_with fail
                    refine wp_region_held (S := fun Y => (Y.cell? ⟨gl, a, none⟩ = some (.int .i64 t) ∧ Y.cell? ⟨b, o + kk * 2, none⟩ = some (.slice (some ⟨by1, oy, none⟩) S0 cy)) ∧ Y.cell? ⟨by1, oy + a, none⟩ = some (.int .i64 d)) (by kernel_rfl) ?_
                    have hHeld := hcells
                    refine todo [0, 1, 2, 3, 4, 5, 6, 7, 8, 9, 10, 11, 12] ?_
                    iterate 13
                     refine todoH9 (v := ?_) rfl (by kernel_rfl) (fun _ _ _ h => h) (by assumption) (Or.inl ⟨by rfl, ?_⟩) ?_
                     rotate_left
                     · intro w hSw; (try dsimp only at hSw); go_simp; (try with_reducible rfl)
                     try simp only [Act.put, List.getElem_toArray, List.getElem_cons_succ, List.getElem_cons_zero, List.setIfInBounds_toArray, List.set_cons_zero, List.set_cons_succ]
                    refine todone ?_
                    refine wpAnyH_done (by kernel_rfl) ?_ _
                    go_wp2_with fail
                    refine wp_region_L (S := fun Y => (Y.cell? ⟨gl, a, none⟩ = some (.int .i64 t) ∧ Y.cell? ⟨b, o + kk * 2, none⟩ = some (.slice (some ⟨by1, oy, none⟩) S0 cy)) ∧ Y.cell? ⟨by1, oy + a, none⟩ = some (.int .i64 d)) (z := 16) (by kernel_rfl) hcells2 (fun hHeld => ?_)
                    refine todo [0, 1, 2, 3, 4, 5, 6, 7, 8, 9, 10, 11, 12, 13, 14, 15] ?_
                    iterate 16
                     refine todoL (v := ?_) rfl (by kernel_rfl) (fun _ _ _ h => h) (by assumption) (Or.inl ⟨by rfl, ?_⟩) ?_
                     rotate_left
                     · intro w hSw; (try dsimp only at hSw); go_simp; (try with_reducible rfl)
                     try simp only [Act.put, List.getElem_toArray, List.getElem_cons_succ, List.getElem_cons_zero, List.setIfInBounds_toArray, List.set_cons_zero, List.set_cons_succ]
                    refine todone ?_
                    refine wpAnyL_one (i := 16) (by kernel_rfl) rfl (fun K hK => ?swc16)
                    go_simp
                    refine hK.out _ _ (fun h => absurd rfl h) (fun _ => ?mwc16)
                    clear hK K
                    try simp only [Act.put, List.getElem_toArray, List.getElem_cons_succ, List.getElem_cons_zero, List.setIfInBounds_toArray, List.set_cons_zero, List.set_cons_succ]
                    refine wpAnyL_done (by kernel_rfl) ?_ _
                    go_wp2_with fail
                    go_roundw
                    case rel =>
                      refine ⟨kk + 1, t - d, by go_num, hkn, by rw [HNX.out]; have h9 := HST.out; omega, by omega, ?_, setBelow hbi.drew.drew hgB _ _⟩
                      have hs := PartS.set (show PartS wi.drew.drew gl cl (l0.set a t) from HP.out) a (by rw [hll]; exact haS) (t - d)
                      rw [set_set9] at hs
                      exact .inr ⟨gl, rfl, hgB, hmx, hs⟩
                    case measure => simp [intOf]; omega
                  · have hdt : decide (t ≥ d) = false := decide_eq_false htd
                    go_wp2_with fail
                    refine wp_region_held_drew (S := fun Y => (Y.cell? ⟨gl, a, none⟩ = some (.int .i64 t) ∧ Y.cell? ⟨b, o + kk * 2, none⟩ = some (.slice (some ⟨by1, oy, none⟩) S0 cy)) ∧ Y.cell? ⟨by1, oy + a, none⟩ = some (.int .i64 d)) (by kernel_rfl) hcells (fun hHeld => ?_)
                    obtain ⟨wj, hwj⟩ : ∃ Y, wi.drew = Y := ⟨_, rfl⟩
                    rw [hwj] at hHeld ⊢
                    have hij : Below wi.heap.size wi wj := by rw [← hwj]; exact (Below.refl _ _).drew
                    clear hwj
                    refine todo [0, 1, 2, 3, 4, 5, 6, 7, 8, 9, 10, 11, 12] ?_
                    iterate 13
                     refine todoH9 (v := ?_) rfl (by kernel_rfl) (fun _ _ _ h => h) (by assumption) (Or.inl ⟨by rfl, ?_⟩) ?_
                     rotate_left
                     · intro w hSw; (try dsimp only at hSw); go_simp; (try with_reducible rfl)
                     try simp only [Act.put, List.getElem_toArray, List.getElem_cons_succ, List.getElem_cons_zero, List.setIfInBounds_toArray, List.set_cons_zero, List.set_cons_succ]
                    refine todone ?_
                    refine wpAnyH_done (by kernel_rfl) ?_ _
                    have hbj : Below wr.heap.size wr wj := hbi.trans (hij.mono hbi.size)
                    have HIJ := HI.out.later hij
                    have XA := HIJ.arg (by rw [hll]; exact hcl) (fun z hz => by
                      rcases List.mem_or_eq_of_mem_set hz with h | rfl
                      · exact HWL.out z h
                      · omega)
                    rw [hll] at XA
                    have hbwj : Below w.heap.size w wj := QB.out.trans (hbj.mono hsz)
                    have c0j := (hij.cell (World.block_lt_of_cell? _ _ c0)).trans c0
                    have c1j := (hij.cell (World.block_lt_of_cell? _ _ c1)).trans c1
                    obtain ⟨tn, rfl⟩ : ∃ n : Nat, t = (n : Int) := ⟨t.toNat, by omega⟩
                    have hlay := layE_at (j := tn) HOKL.out HYK.out (by rw [HDK.out]; omega)
                    have HLX : Hid ((l0.set a (tn : Int)).length = y.s.length) := Lib.hid (by rw [hll, hlen])
                    have HVN : Hid (LR[k]? = some (elV y.s y.l (l0.set a (tn : Int)))) := Lib.hid (by
                      rw [← HLa.out]
                      unfold rcV
                      unfold fillV
                      rw [List.getElem?_map, List.getElem?_range (by have h := HPC.out; rw [HSa.out]; omega)]
                      simp only [Option.map_some, Option.some.injEq]
                      rw [HSa.out, HL0.out]
                      exact rcF_at (by rw [HT0.out]; have h9 := HST.out; rw [show t0 = sumE a (ys.take kk) + (tn : Int) by omega]; exact hlay))
                    have hokk := HOKY.out y hym
                    clear hcells hcells2 hfd hfd2 cz c0 c1 c2 hlay hdt HIJ
                    have r1 := Q1.out.later hbj
                    have rg := QG.out.later hbj
                    have rs := QS.out.later hbj
                    have hown : OwnE w.heap.size 75 wj v es := QO.out.later hbj
                    have hall : AllE (fun v x => ResA w.heap.size w wj v x m) es (LR.take k) := QA.out.imp fun u x _ h => h.later hbj
                    have hszw := hbwj.size
                    obtain ⟨r, hrv, hrb, hrne⟩ := hown.hits hszw
                    have n1 := hrne _ _ _ r1 (by decide)
                    have ng := hrne _ _ _ rg (by decide)
                    have cg1 := rg.cell 1
                    have mkE : ∀ X, Kept r wj X → X.cell? ⟨g, 1, none⟩ = some v ∧ X.cell? ⟨b, o + kk * 2, none⟩ = some (.slice (some ⟨by1, oy, none⟩) S0 cy) ∧ X.cell? ⟨b, o + kk * 2 + 1, none⟩ = some (.slice ey KY dy) ∧ Kept r wj X := fun X h => ⟨h.cell cg1 ng, h.cell c0j (by show b ≠ r; omega), h.cell c1j (by show b ≠ r; omega), h⟩
                    have hS0e := mkE wj.drew ((Kept.refl r wj).drew)
                    obtain ⟨val, hval⟩ : ∃ x, elV y.s y.l (l0.set a (tn : Int)) = x := ⟨_, rfl⟩
                    have HTK2 : Hid (TensR w (.agg #[.slice (some ⟨by1, oy, none⟩) S0 cy, .slice ey KY dy]) y.s y.l m (some ⟨by1, oy, none⟩) cy ey dy) := Lib.hid (by have h9 := HTK.out; rw [hlen, HKY.out] at h9; exact h9)
                    have hat := fun X (h : Below wj.heap.size wj X) => at9_any (w := X) HTK2.out (hbwj.trans (h.mono hszw)) hokk.ok hokk.len (XA.later h) HLX.out hm
                    rw [hval] at hat
                    have hnv : LR.take (k + 1) = LR.take k ++ [val] := take_nextL (by rw [← hval]; exact HVN.out)
                    have HNV := Lib.hid hnv
                    clear hval hnv
                    go_wp2_with fail
                    refine wp_region_L (S := fun X => X.cell? ⟨g, 1, none⟩ = some v ∧ X.cell? ⟨b, o + kk * 2, none⟩ = some (.slice (some ⟨by1, oy, none⟩) S0 cy) ∧ X.cell? ⟨b, o + kk * 2 + 1, none⟩ = some (.slice ey KY dy) ∧ Kept r wj X) (z := 11) (by kernel_rfl) hS0e (fun hHeld => ?_)
                    refine todo [0, 1, 2, 3, 4, 5, 6] ?_
                    iterate 7
                     refine todoL (v := ?_) rfl (by kernel_rfl) (fun _ _ _ h => h) (by assumption) (Or.inl ⟨by rfl, ?_⟩) ?_
                     rotate_left
                     · intro w hSw; (try dsimp only at hSw); go_simp; (try with_reducible rfl)
                     try simp only [Act.put, List.getElem_toArray, List.getElem_cons_succ, List.getElem_cons_zero, List.setIfInBounds_toArray, List.set_cons_zero, List.set_cons_succ]
                    refine todone ?_
                    refine wpAnyL_one (i := 7) (by kernel_rfl) rfl (fun K hK => ?seb7)
                    go_simp
                    have hbd4 : Below wj.heap.size wj wj.drew := (Below.refl _ _).drew
                    refine (hat _ hbd4).mono ?_
                    rintro e w5 ⟨rv, rfl, qv, hb5⟩
                    have hb5w : Below wj.heap.size wj w5 := hbd4.trans hb5
                    have hB5 : Below w.heap.size w w5 := hbwj.trans (hb5w.mono hszw)
                    have Q5 : Hid (ResA w.heap.size w w5 rv val m) := Lib.hid (qv.imp (fun h => h.mono (show w.heap.size ≤ wj.heap.size from hszw)) id)
                    obtain ⟨m5, f1, l1, j1, f2, l2, j2, rfl⟩ := (qv.imp (fun h => h) id : ResA _ _ _ _ _ _).elim (fun h => h.shape) (fun h => h.shape)
                    clear qv
                    go_simp
                    have hk5 : Kept r wj w5 := ((Kept.refl r wj).drew).below hb5
                    refine hK.out _ _ (fun _ => mkE _ hk5) (fun hHeld2 => ?meb7)
                    clear hK K hHeld
                    have hHeld := hHeld2 (by decide)
                    clear hHeld2
                    try simp only [Act.put, List.getElem_toArray, List.getElem_cons_succ, List.getElem_cons_zero, List.setIfInBounds_toArray, List.set_cons_zero, List.set_cons_succ]
                    refine wpAnyL_one (i := 8) (by kernel_rfl) rfl (fun K hK => ?seb8)
                    go_simp
                    refine hK.out _ _ (fun _ => mkE _ (hk5.alloc _)) (fun hHeld2 => ?meb8)
                    clear hK K hHeld
                    have hHeld := hHeld2 (by decide)
                    clear hHeld2
                    try simp only [Act.put, List.getElem_toArray, List.getElem_cons_succ, List.getElem_cons_zero, List.setIfInBounds_toArray, List.set_cons_zero, List.set_cons_succ]
                    refine wpAnyL_one (i := 9) (by kernel_rfl) rfl (fun K hK => ?seb9)
                    have hown5 : OwnE w.heap.size 75 w5 v es := hown.later hb5w
                    have hall5 : AllE (fun v x => ResA w.heap.size w w5 v x m) es (LR.take k) := hall.imp fun u x _ h => h.later hb5w
                    have hsz5 := hB5.size
                    have hle9 := HLE.out
                    refine step_append_ownT rfl _ _ 32 rfl w.heap.size 75 j0 _ 3 56 Tryz.underlying32 hjR hyA hyB hyC rfl (by decide) _ es.length (flat3 es) rfl (hown5.later ((Below.refl _ _).alloc (Nat.le_refl _) _)) ⟨w5.heap.size, 0, none⟩ 1 1 [.bool m5, .slice f1 l1 j1, .slice f2 l2 j2] rfl rfl (cell_three_new _ _ _ _ _) (by simp [Value.oneCell']) (by unfold maxLen; omega) (by omega) (by simp; omega) ?_
                    intro v' w6 hown' hgrow _
                    obtain ⟨av, cv, rfl⟩ := ownT_slice hown'
                    have hk6 : Kept r wj w6 := (hk5.alloc _).grown hgrow hrv
                    refine hK.out _ _ (fun _ => mkE _ hk6) (fun hHeld2 => ?meb9)
                    clear hK K hHeld
                    have hHeld := hHeld2 (by decide)
                    clear hHeld2
                    try simp only [Act.put, List.getElem_toArray, List.getElem_cons_succ, List.getElem_cons_zero, List.setIfInBounds_toArray, List.set_cons_zero, List.set_cons_succ]
                    refine wpAnyL_take (i := 10) (v := ?vea10) rfl (by kernel_rfl) (by kernel_rfl) (by kernel_rfl) (by kernel_rfl) (fun _ _ _ h => h) (Or.inl ⟨by rfl, ?hea10⟩) (by assumption) ?rea10
                    case hea10 =>
                      intro w hSw
                      try dsimp only at hSw
                      go_simp
                      try with_reducible rfl
                    try simp only [Act.put, List.getElem_toArray, List.getElem_cons_succ, List.getElem_cons_zero, List.setIfInBounds_toArray, List.set_cons_zero, List.set_cons_succ]
                    have RG6 := rg.kept hk6 ng
                    have f21 := RG6.free 1
                    have d21 := RG6.cell 1
                    refine wpAnyL_one (i := 11) (by kernel_rfl) rfl (fun K hK => ?seb11)
                    go_simp
                    refine hK.out _ _ (fun h => absurd rfl h) (fun _ => ?meb11)
                    clear hK K
                    try simp only [Act.put, List.getElem_toArray, List.getElem_cons_succ, List.getElem_cons_zero, List.setIfInBounds_toArray, List.set_cons_zero, List.set_cons_succ]
                    refine wpAnyL_done (by kernel_rfl) ?_ _
                    clear hle9
                    go_wp2_with fail
                    go_roundw
                    case rel =>
                      have hx5 : ResA w.heap.size w w5 (E3.agg ⟨.bool m5, .slice f1 l1 j1, .slice f2 l2 j2⟩) val m := Q5.out
                      obtain ⟨hrow6, hb6⟩ := pushE2 (P := (fun W v x => ResA w.heap.size w W v x m)) (e := ⟨.bool m5, .slice f1 l1 j1, .slice f2 l2 j2⟩) hB5 (Nat.le_refl _) hsz5 hown5 hall5 hx5 (fun u y h => ResA.apart hown5 hgrow (by decide) h) hown' hgrow
                      rw [HLE.out] at hrow6
                      have rs6 : ResS w.heap.size w6 (.slice (some ⟨gs, 0, none⟩) S0 c3) S := ResS.apart hown5 hgrow (by decide) (rs.later hb5w)
                      refine ⟨k + 1, _, by go_num, by omega, (r1.kept hk6 n1).far (by show w.heap.size ≠ g; omega) _, RG6.set21 _, rs6.far RG6 (by decide) (kept1 _), ?_, hb6.setCell (by show w.heap.size ≤ g; omega) _⟩
                      rw [HNV.out]
                      exact hrow6.far RG6 (by decide) (kept1 _) (fun u y h => h.far RG6 (by decide) (kept1 _))
                    case measure => simp [intOf]; omega
              · obtain rfl : k = CN := by omega
                have hkC : ¬ (k : Int) < (k : Int) := by omega
                have hcnt := fun X (h : Below wr.heap.size wr X) => count9_any (A3.later h) HOKS.out.pos (by have := HOKS.out.rank; omega)
                rw [cntR_ok HOKS.out, HPC.out] at hcnt
                go_wp2_with fail
                refine (hcnt _ (Below.refl _ _)).mono ?_
                rintro e wq ⟨rfl, rfl⟩
                clear hcnt
                have hall := QA.out
                have hown := QO.out
                rw [List.take_of_length_le (by have h := HRES.out; omega)] at hall
                obtain ⟨av, cv, rfl⟩ := ownT_slice hown
                have hel : es.length = k := HLE.out
                have HRG := QG.out
                rw [hel] at HRG hown
                have c20 := HRG.cell 0
                have d21 := HRG.cell 1
                obtain ⟨g10, g11, f10, f11⟩ := Q1.out.two
                have RRs := Q1.out.set2 (.slice (some ⟨gs, 0, none⟩) S0 c3) (.slice av k cv)
                obtain ⟨z0, z1, _, _⟩ := RRs.two
                have HOWN := Lib.hid hown
                have HALL := Lib.hid hall
                clear hown hall RRs hel cg0 cg1 rg
                go_wp2_with fail
                have hbE := below_set2 QB.out (show w.heap.size ≤ w.heap.size by omega) (.slice (some ⟨gs, 0, none⟩) S0 c3) (.slice av k cv)
                have hsE : ResS w.heap.size _ (.slice (some ⟨gs, 0, none⟩) S0 c3) S := QS.out.far Q1.out (by decide) (kept2 (.slice (some ⟨gs, 0, none⟩) S0 c3) (.slice av k cv))
                have hrE := RowO.far (P := (fun W v x => ResA w.heap.size w W v x m)) ⟨es, HOWN.out, HALL.out⟩ Q1.out (by decide) (kept2 (.slice (some ⟨gs, 0, none⟩) S0 c3) (.slice av k cv)) (fun u y h => h.far Q1.out (by decide) (kept2 _ _))
                have hfin := tenR_of9 (n := m) (s := S) (L := LR) (a := some ⟨gs, 0, none⟩) (ca := c3) (b := av) (cb := cv) (m := k) HRES.out.symm hbE (by rw [HML.out]; exact hsE) (hrE.mono (by omega) (fun v x h => h))
                rw [HML.out] at hfin
                exact bodyPost_ret (v := .tuple #[.agg #[.slice (some ⟨gs, 0, none⟩) S0 c3, .slice av k cv], .int .i64 0]) (by simp [results, Tryz.results31, go_sem, z0, z1]) rfl ⟨⟨_, rfl, ⟨_, _, _, _, _, _, rfl⟩, fun _ => hfin⟩, hbE⟩
end Go.Proofs.YtooglnhlhgmhdaaGreat
