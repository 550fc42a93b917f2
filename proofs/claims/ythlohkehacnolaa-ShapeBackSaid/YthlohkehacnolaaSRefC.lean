/-
  The reference of layer 6: Axes, Fits, Grown, Drop, Ones. (Made by wip/gen/gen_srefc.py.)
-/
import Derived.Test.YthlohkehacnolaaSRefB
namespace Go.Proofs.Ythlohkehacnolaa
open Go.RowKit
set_option linter.unusedVariables false
set_option linter.unusedSimpArgs false

/-- are these axes? -/
def axesB (l : List Int) (rank : Int) : Bool := decide (∀ i, i < l.length → (0 ≤ l.getD i 0 ∧ l.getD i 0 < rank) ∧ (0 < i → l.getD (i - 1) 0 < l.getD i 0))
set_option maxRecDepth 100000 in
set_option maxHeartbeats 4000000 in
theorem axesR_any {u : Value} {xs : List Int} {a : Option Addr} {ca : Nat} {w : World} (rank : Int) (A : ArgS w u xs a ca) (hx : xs.length ≤ 140737488355328) :
    Calls Try.prog 30 #[u, .int .i64 rank] w fun e w' => e = .returned (.bool (axesB xs rank)) ∧ Below w.heap.size w w' := by
  have HA := Lib.hid A
  obtain rfl := A.is
  obtain ⟨L, hL⟩ : ∃ L, xs.length = L := ⟨_, rfl⟩
  obtain ⟨d, hd⟩ : ∃ d, axesB xs rank = d := ⟨_, rfl⟩
  have HL := Lib.hid hL
  have hd2 : decide (∀ i, i < L → (0 ≤ xs.getD i 0 ∧ xs.getD i 0 < rank) ∧ (0 < i → xs.getD (i - 1) 0 < xs.getD i 0)) = d := by rw [← hd]; unfold axesB; rw [hL]
  have HD := Lib.hid hd2
  rw [hL] at hx
  rw [hL, hd]
  clear A hL hd hd2
  go_enter Try.func30, Try.ntmps30
  go_wp2
  go_loopw [5] (fun i wr => ∃ k : Nat, i = .int .i64 (k : Int) ∧ k ≤ L ∧ (∀ i, i < k → (0 ≤ xs.getD i 0 ∧ xs.getD i 0 < rank) ∧ (0 < i → xs.getD (i - 1) 0 < xs.getD i 0)) ∧ Below w.heap.size w wr) (fun i _ => L - (intOf i).toNat)
  case atStart => exact ⟨0, rfl, Nat.zero_le _, (fun i h => by omega), Below.refl _ _⟩
  case round =>
    obtain ⟨k, rfl, hkL, hp, hb⟩ := hrel
    have HP := Lib.hid hp
    clear hp
    by_cases hlt : k < L
    · obtain ⟨b1, o1, rfl, hc1⟩ := (HA.out.later hb).at (i := k) (by rw [HL.out]; exact hlt)
      obtain ⟨x, hxe⟩ : ∃ x, xs.getD k 0 = x := ⟨_, rfl⟩
      rw [hxe] at hc1
      have HX := Lib.hid hxe
      have hltI : (k : Int) < (L : Int) := by omega
      have hin : 0 ≤ (k : Int) ∧ (k : Int) < (L : Int) := by omega
      have hbad : ∀ v : Bool, (¬ ((0 ≤ x ∧ x < rank) ∧ (0 < k → xs.getD (k - 1) 0 < x))) → d = false := by
        intro _ h
        rw [← HD.out, decide_eq_false_iff_not]
        intro hall
        have := hall k hlt
        rw [HX.out] at this
        exact h this
      clear hxe
      by_cases h1 : x < 0
      · obtain rfl : d = false := hbad true (fun h => by omega)
        have d1 : decide (x < 0) = true := decide_eq_true h1
        clear hbad
        go_wp2
        go_quiet (fail)
        go_wp2
        go_ret
        exact ⟨rfl, hb.trans (belowS_drew _ _ _)⟩
      · have d1 : decide (x < 0) = false := decide_eq_false h1
        by_cases h2 : rank ≤ x
        · obtain rfl : d = false := hbad true (fun h => by omega)
          have d2 : decide (rank ≤ x) = true := decide_eq_true h2
          clear hbad
          go_wp2
          go_quiet (fail)
          go_wp2
          go_ret
          exact ⟨rfl, hb.trans (belowS_drew _ _ _)⟩
        · have d2 : decide (rank ≤ x) = false := decide_eq_false h2
          by_cases h3 : k = 0
          · subst h3
            rw [Nat.add_zero] at hc1
            clear hbad
            go_wp2
            go_quiet (fail)
            go_wp2
            go_roundw
            case rel =>
              refine ⟨1, by go_num, by omega, fun i hi => ?_, hb.trans (belowS_drew _ _ _)⟩
              obtain rfl : i = 0 := by omega
              rw [HX.out]
              exact ⟨by omega, fun h => by omega⟩
            case measure => simp [intOf]; omega
          · obtain ⟨m, rfl⟩ : ∃ m, k = m + 1 := ⟨k - 1, by omega⟩
            obtain ⟨b2, o2, e2, hc2⟩ := (HA.out.later hb).at (i := m) (by rw [HL.out]; omega)
            cases e2
            obtain ⟨y, hye⟩ : ∃ y, xs.getD m 0 = y := ⟨_, rfl⟩
            rw [hye] at hc2
            have HY := Lib.hid hye
            have hkI : ((m + 1 : Nat) : Int) - 1 = (m : Int) := by omega
            have hmin : 0 ≤ (m : Int) ∧ (m : Int) < (L : Int) := by omega
            have hpos : (0 : Int) < ((m + 1 : Nat) : Int) := by omega
            have d3 : decide ((0 : Int) < ((m + 1 : Nat) : Int)) = true := decide_eq_true hpos
            clear hye
            by_cases h4 : x ≤ y
            · obtain rfl : d = false := hbad true (fun h => by
                have := h.2 (by omega)
                rw [Nat.add_sub_cancel, HY.out] at this
                omega)
              have d4 : decide (x ≤ y) = true := decide_eq_true h4
              clear hbad
              go_wp2
              go_quiet (fail)
              go_wp2
              go_ret
              exact ⟨rfl, hb.trans (belowS_drew _ _ _)⟩
            · have d4 : decide (x ≤ y) = false := decide_eq_false h4
              clear hbad
              go_wp2
              go_quiet (fail)
              go_wp2
              go_roundw
              case rel =>
                refine ⟨m + 1 + 1, by go_num, by omega, fun i hi => ?_, hb.trans (belowS_drew _ _ _)⟩
                by_cases hik : i = m + 1
                · subst hik
                  rw [HX.out, Nat.add_sub_cancel, HY.out]
                  exact ⟨by omega, fun _ => by omega⟩
                · exact HP.out i (by omega)
              case measure => simp [intOf]; omega
    · obtain rfl : k = L := by omega
      obtain rfl : d = true := by rw [← HD.out, decide_eq_true_iff]; exact HP.out
      have hltI : ¬ (k : Int) < (k : Int) := by omega
      go_wp2
      go_ret
      exact ⟨rfl, hb⟩

/-- from the end on, up to k dimensions, does a shape fit? -/
def fitU (f t : List Int) (k : Nat) : Prop := ∀ j, 1 ≤ j → j ≤ k → backS t j ≠ 0 ∧ (backS f j = 1 ∨ backS f j = backS t j)
instance (f t : List Int) (k : Nat) : Decidable (fitU f t k) := decidable_of_iff (∀ j, j < k + 1 → 1 ≤ j → backS t j ≠ 0 ∧ (backS f j = 1 ∨ backS f j = backS t j))
  ⟨fun h j h1 h2 => h j (by omega) h1, fun h j h1 h2 => h j h2 (by omega)⟩
/-- why a shape does not fit: 0, or an error -/
def fitC (f t : List Int) : Int := if mayC f ≠ 0 then mayC f else if mayC t ≠ 0 then mayC t else if fitU f t f.length then 0 else 13
theorem fitC_from {f t : List Int} (h : mayC f ≠ 0) : fitC f t = mayC f := by unfold fitC; rw [if_pos h]
theorem fitC_to {f t : List Int} (h : mayC f = 0) (h2 : mayC t ≠ 0) : fitC f t = mayC t := by unfold fitC; rw [if_neg (by rw [h]; simp), if_pos h2]
theorem fitC_ok {f t : List Int} (h : mayC f = 0) (h2 : mayC t = 0) (h3 : fitU f t f.length) : fitC f t = 0 := by unfold fitC; rw [if_neg (by rw [h]; simp), if_neg (by rw [h2]; simp), if_pos h3]
theorem fitC_bad {f t : List Int} (h : mayC f = 0) (h2 : mayC t = 0) (h3 : ¬ fitU f t f.length) : fitC f t = 13 := by unfold fitC; rw [if_neg (by rw [h]; simp), if_neg (by rw [h2]; simp), if_neg h3]

set_option maxRecDepth 100000 in
set_option maxHeartbeats 4000000 in
theorem fitsR_any {u v : Value} {xs ys : List Int} {a b : Option Addr} {ca cb : Nat} {w : World} (A : ArgS w u xs a ca) (B : ArgS w v ys b cb) :
    Calls Try.prog 32 #[u, v] w fun e w' => e = .returned (.int .i64 (fitC xs ys)) ∧ w = w' := by
  have m1 := mayR6_any A
  have m2 := mayR6_any B
  have hbk := fun k (h1 : 1 ≤ k) h2 h3 => backR_any (k := k) A h1 h2 h3
  have hbt := fun k (h1 : 1 ≤ k) h2 h3 => backR_any (k := k) B h1 h2 h3
  obtain ⟨c, hc⟩ : ∃ c, fitC xs ys = c := ⟨_, rfl⟩
  rw [hc]
  by_cases h1 : mayC xs = 0
  · rw [h1] at m1
    by_cases h2 : mayC ys = 0
    · rw [h2] at m2
      have o1 := mayC_zero.1 h1
      have o2 := mayC_zero.1 h2
      have l1 := o1.rank
      have l2 := o2.rank
      have hcc : fitU xs ys xs.length → c = 0 := fun h => by rw [← hc, fitC_ok h1 h2 h]
      have hcb : ¬ fitU xs ys xs.length → c = 13 := fun h => by rw [← hc, fitC_bad h1 h2 h]
      obtain rfl := A.is
      obtain rfl := B.is
      obtain ⟨L, hL⟩ : ∃ L, xs.length = L := ⟨_, rfl⟩
      obtain ⟨M, hM⟩ : ∃ M, ys.length = M := ⟨_, rfl⟩
      rw [hL] at m1 hbk l1 hcc hcb ⊢
      rw [hM] at m2 hbt l2 ⊢
      have HCC := Lib.hid hcc
      have HCB := Lib.hid hcb
      clear A B hc h1 h2 o1 o2 hL hM hcc hcb
      go_enter Try.func32, Try.ntmps32
      go_wp2_with fail
      refine m1.mono ?_
      rintro e w1 ⟨rfl, rfl⟩
      go_wp2_with fail
      refine m2.mono ?_
      rintro e w2 ⟨rfl, rfl⟩
      clear m1 m2
      go_wp2_with fail
      go_loop [7] (fun i => ∃ q : Nat, i = .int .i64 (q : Int) ∧ 1 ≤ q ∧ q ≤ L + 1 ∧ fitU xs ys (q - 1)) (fun i => L + 1 - (intOf i).toNat)
      case atStart => exact ⟨1, rfl, Nat.le_refl _, by omega, fun j h1 h2 => by omega⟩
      case round =>
        obtain ⟨q, rfl, hq1, hqL, hp⟩ := hrel
        have HP := Lib.hid hp
        clear hp
        by_cases hlt : q ≤ L
        · have kf := hbk q hq1 l1 (by omega)
          have kt := hbt q hq1 l2 (by omega)
          obtain ⟨x, hx⟩ : ∃ x, backS xs q = x := ⟨_, rfl⟩
          obtain ⟨y, hy⟩ : ∃ y, backS ys q = y := ⟨_, rfl⟩
          rw [hx] at kf
          rw [hy] at kt
          have HX := Lib.hid hx
          have HY := Lib.hid hy
          have hI : (q : Int) ≤ (L : Int) := by omega
          have hbad : ¬ (y ≠ 0 ∧ (x = 1 ∨ x = y)) → c = 13 := fun h => HCB.out fun hf => by
            have := hf q hq1 hlt
            rw [HX.out, HY.out] at this
            exact h this
          have hgood : (y ≠ 0 ∧ (x = 1 ∨ x = y)) → fitU xs ys q := fun h j h1 h2 => by
            by_cases hj : j = q
            · subst hj; rw [HX.out, HY.out]; exact h
            · exact HP.out j h1 (by omega)
          have HG := Lib.hid hgood
          clear hx hy hgood
          by_cases hy0 : y = 0
          · obtain rfl : c = 13 := hbad (fun h => h.1 hy0)
            have hn : (y == 0) = true := by simpa using hy0
            clear hbad
            go_wp2_with (go_at_call 46; refine kt.mono ?_; rintro e w3 ⟨rfl, rfl⟩)
            go_ret
            exact ⟨rfl, rfl⟩
          · have hn : (y == 0) = false := by simpa using hy0
            by_cases hx1 : x = 1
            · subst hx1
              clear hbad
              go_wp2_with (go_at_call 46; first | ((with_reducible refine kt.mono ?_); rintro e w3 ⟨rfl, rfl⟩) | ((with_reducible refine kf.mono ?_); rintro e w3 ⟨rfl, rfl⟩))
              go_round
              case rel => exact ⟨q + 1, by go_num, by omega, by omega, HG.out ⟨hy0, .inl (by trivial)⟩⟩
              case measure => simp [intOf]; omega
            · have hn1 : (x != 1) = true := by simpa using hx1
              by_cases hxy : x = y
              · subst hxy
                have hn2 : (x != x) = false := by simp
                clear hbad
                go_wp2_with (go_at_call 46; first | ((with_reducible refine kt.mono ?_); rintro e w3 ⟨rfl, rfl⟩) | ((with_reducible refine kf.mono ?_); rintro e w3 ⟨rfl, rfl⟩))
                go_round
                case rel => exact ⟨q + 1, by go_num, by omega, by omega, HG.out ⟨hy0, .inr (by trivial)⟩⟩
                case measure => simp [intOf]; omega
              · have hn2 : (x != y) = true := by simpa using hxy
                obtain rfl : c = 13 := hbad (fun h => h.2.elim hx1 hxy)
                clear hbad
                go_wp2_with (go_at_call 46; first | ((with_reducible refine kt.mono ?_); rintro e w3 ⟨rfl, rfl⟩) | ((with_reducible refine kf.mono ?_); rintro e w3 ⟨rfl, rfl⟩))
                go_ret
                exact ⟨rfl, rfl⟩
        · obtain rfl : q = L + 1 := by omega
          obtain rfl : c = 0 := HCC.out HP.out
          have hI : ¬ ((L + 1 : Nat) : Int) ≤ (L : Int) := by omega
          go_wp2
          go_ret
          exact ⟨rfl, rfl⟩
    · rw [fitC_to h1 h2] at hc
      subst hc
      obtain ⟨c, hc⟩ : ∃ c, mayC ys = c := ⟨_, rfl⟩
      rw [hc] at m2 h2 ⊢
      have hne : (c != 0) = true := by simpa using h2
      clear h1 h2 hc hbk hbt
      go_enter Try.func32, Try.ntmps32
      go_wp2_with fail
      refine m1.mono ?_
      rintro e w1 ⟨rfl, rfl⟩
      go_wp2_with fail
      refine m2.mono ?_
      rintro e w2 ⟨rfl, rfl⟩
      clear m1 m2
      go_wp2
      go_ret
      exact ⟨rfl, rfl⟩
  · rw [fitC_from h1] at hc
    subst hc
    obtain ⟨c, hc⟩ : ∃ c, mayC xs = c := ⟨_, rfl⟩
    rw [hc] at m1 h1 ⊢
    have hne : (c != 0) = true := by simpa using h1
    clear h1 hc hbk hbt m2
    go_enter Try.func32, Try.ntmps32
    go_wp2_with fail
    refine m1.mono ?_
    rintro e w1 ⟨rfl, rfl⟩
    clear m1
    go_wp2
    go_ret
    exact ⟨rfl, rfl⟩
end Go.Proofs.Ythlohkehacnolaa
