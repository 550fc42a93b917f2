/-
  The reference of layer 6: SameList, Stride, has, Perm, Back, Axes.
-/
import Derived.Test.YthlohkehacnolaaSRef
import Derived.Deep.DeepCutAuto
namespace Go.Proofs.Ythlohkehacnolaa
open Go.RowKit
set_option linter.unusedVariables false
set_option linter.unusedSimpArgs false

theorem belowS_drew (B : Nat) (w : World) (n : Nat) : Below B w (w.drewN n) := ⟨rfl, rfl, rfl, Nat.le_refl _, fun _ _ => rfl⟩
theorem take_all {xs : List Int} {n : Nat} (h : xs.length = n) : xs.take n = xs := List.take_of_length_le (by omega)
theorem getD_some {xs : List Int} {k : Nat} (h : k < xs.length) : xs[k]? = some (xs.getD k 0) := by rw [List.getD_eq_getElem?_getD, List.getElem?_eq_getElem h]; rfl
theorem take_next {xs : List Int} {k : Nat} (h : k < xs.length) : xs.take (k + 1) = xs.take k ++ [xs.getD k 0] := by rw [List.take_add_one, getD_some h]; rfl

set_option maxRecDepth 100000 in
set_option maxHeartbeats 2000000 in
theorem sameL_any {u v : Value} {xs ys : List Int} {a b : Option Addr} {ca cb : Nat} {w : World} (A : ArgS w u xs a ca) (B : ArgS w v ys b cb) (hx : xs.length ≤ 140737488355328) :
    Calls Try.prog 24 #[u, v] w fun e w' => e = .returned (.bool (decide (xs = ys))) ∧ Below w.heap.size w w' := by
  have HA := Lib.hid A
  have HB := Lib.hid B
  obtain rfl := A.is
  obtain rfl := B.is
  obtain ⟨L, hL⟩ : ∃ L, xs.length = L := ⟨_, rfl⟩
  obtain ⟨M, hM⟩ : ∃ M, ys.length = M := ⟨_, rfl⟩
  obtain ⟨d, hd⟩ : ∃ d, decide (xs = ys) = d := ⟨_, rfl⟩
  have HL := Lib.hid hL
  have HM := Lib.hid hM
  have HD := Lib.hid hd
  rw [hL] at hx
  rw [hL, hM, hd]
  clear A B hL hM hd
  by_cases hlm : L = M
  · subst hlm
    have hne : ((L : Int) != (L : Int)) = false := by simp
    go_enter Try.func24, Try.ntmps24
    go_wp2
    go_loopw [5] (fun i wr => ∃ k : Nat, i = .int .i64 (k : Int) ∧ k ≤ L ∧ xs.take k = ys.take k ∧ Below w.heap.size w wr) (fun i _ => L - (intOf i).toNat)
    case atStart => exact ⟨0, rfl, Nat.zero_le _, rfl, Below.refl _ _⟩
    case round =>
      obtain ⟨k, rfl, hkL, hp, hb⟩ := hrel
      have HP := Lib.hid hp
      clear hp
      by_cases hlt : k < L
      · obtain ⟨b1, o1, rfl, hc1⟩ := (HA.out.later hb).at (i := k) (by rw [HL.out]; exact hlt)
        obtain ⟨b2, o2, rfl, hc2⟩ := (HB.out.later hb).at (i := k) (by rw [HM.out]; exact hlt)
        have e1 := take_next (xs := xs) (k := k) (by rw [HL.out]; exact hlt)
        have e2 := take_next (xs := ys) (k := k) (by rw [HM.out]; exact hlt)
        obtain ⟨x, hx⟩ : ∃ x, xs.getD k 0 = x := ⟨_, rfl⟩
        obtain ⟨y, hy⟩ : ∃ y, ys.getD k 0 = y := ⟨_, rfl⟩
        rw [hx] at hc1 e1
        rw [hy] at hc2 e2
        have E1 := Lib.hid e1
        have E2 := Lib.hid e2
        have HX := Lib.hid hx
        have HY := Lib.hid hy
        have hin : 0 ≤ (k : Int) ∧ (k : Int) < (L : Int) := by omega
        have hltI : (k : Int) < (L : Int) := by omega
        clear hx hy e1 e2
        by_cases hxy : x = y
        · subst hxy
          have hn : (x != x) = false := by simp
          go_wp2
          go_quiet (fail)
          go_wp2
          go_roundw
          case rel => exact ⟨k + 1, by go_num, by omega, by rw [E1.out, E2.out, HP.out], hb.trans (belowS_drew _ _ _)⟩
          case measure => simp [intOf]; omega
        · obtain rfl : d = false := by
            rw [← HD.out, decide_eq_false_iff_not]
            intro h
            apply hxy
            rw [← HX.out, ← HY.out, h]
          have hn : (x != y) = true := by simpa using hxy
          go_wp2
          go_quiet (fail)
          go_wp2
          go_ret
          exact ⟨rfl, hb.trans (belowS_drew _ _ _)⟩
      · obtain rfl : k = L := by omega
        obtain rfl : d = true := by
          rw [← HD.out, decide_eq_true_iff]
          have := HP.out
          rwa [take_all HL.out, take_all HM.out] at this
        have hltI : ¬ (k : Int) < (k : Int) := by omega
        go_wp2
        go_ret
        exact ⟨rfl, hb⟩
  · obtain rfl : d = false := by
      rw [← HD.out, decide_eq_false_iff_not]
      intro h
      apply hlm
      rw [← HL.out, ← HM.out, h]
    have hne : ((L : Int) != (M : Int)) = true := by simp; omega
    go_enter Try.func24, Try.ntmps24
    go_wp2
    go_ret
    exact ⟨rfl, Below.refl _ _⟩

set_option maxRecDepth 100000 in
set_option maxHeartbeats 2000000 in
theorem strideR_any {u : Value} {xs : List Int} {a : Option Addr} {ca : Nat} {w : World} {i : Nat} (A : ArgS w u xs a ca) (ok : OkS xs) (hi : i < xs.length) :
    Calls Try.prog 20 #[u, .int .i64 (i : Int)] w fun e w' => e = .returned (.int .i64 (prodS (xs.drop (i + 1)))) ∧ w = w' := by
  have HA := Lib.hid A
  have HO := Lib.hid ok
  obtain rfl := A.is
  obtain ⟨L, hL⟩ : ∃ L, xs.length = L := ⟨_, rfl⟩
  obtain ⟨P, hP⟩ : ∃ P, prodS (xs.drop (i + 1)) = P := ⟨_, rfl⟩
  have HL := Lib.hid hL
  have HP := Lib.hid hP
  have h4 := ok.rank
  rw [hL] at hi h4 ⊢
  rw [hP]
  clear A ok hL hP
  go_enter Try.func20, Try.ntmps20
  go_wp2
  go_loop [5, 6] (fun n j => ∃ k : Nat, j = .int .i64 ((i + 1 + k : Nat) : Int) ∧ i + 1 + k ≤ L ∧ n = .int .i64 (prodS ((xs.drop (i + 1)).take k))) (fun _ j => L - (intOf j).toNat)
  case atStart => exact ⟨0, by go_num, by omega, rfl⟩
  case round =>
    obtain ⟨k, rfl, hkL, rfl⟩ := hrel
    have hpo := HO.out.pos.drop (i + 1)
    have hn1 := prodS_pos (hpo.take k)
    have hn2 := prodS_take_le hpo k
    have hn3 := prodS_drop_le HO.out.pos (i + 1)
    have hf := HO.out.few
    have hdl : (xs.drop (i + 1)).length = L - (i + 1) := by rw [List.length_drop, HL.out]
    obtain ⟨n, hne⟩ : ∃ n, prodS ((xs.drop (i + 1)).take k) = n := ⟨_, rfl⟩
    rw [hne] at hn1 hn2 ⊢
    obtain ⟨q, hq⟩ : ∃ q, i + 1 + k = q := ⟨_, rfl⟩
    rw [hq] at hkL ⊢
    by_cases hlt : q < L
    · obtain ⟨b, off, rfl, hc⟩ := HA.out.at (i := q) (by rw [HL.out]; exact hlt)
      have hx1 := HO.out.pos.getD (i := q) (by rw [HL.out]; exact hlt)
      have hle := getD_le_prod HO.out.pos (k := q) (by rw [HL.out]; exact hlt)
      have hst := prodS_take (s := xs.drop (i + 1)) (k := k) (by omega)
      have hgd : (xs.drop (i + 1)).getD k 0 = xs.getD q 0 := by rw [List.getD_eq_getElem?_getD, List.getElem?_drop, hq, List.getD_eq_getElem?_getD]
      rw [hgd, hne] at hst
      obtain ⟨x, hxe⟩ : ∃ x, xs.getD q 0 = x := ⟨_, rfl⟩
      rw [hxe] at hc hx1 hst hle
      have hm0 : 0 ≤ n * x := Int.mul_nonneg (by omega) (by omega)
      have hm1 : n * x ≤ 1024 * 1024 := Int.mul_le_mul (by omega) (by omega) (by omega) (by omega)
      have hw : wrap64 (n * x) = n * x := by unfold wrap64; omega
      have HST := Lib.hid hst
      have HQ := Lib.hid hq
      have hjI : (q : Int) < (L : Int) := by omega
      clear hxe hne hst hle hf hn2 hn3 hpo hgd hdl hq
      go_wp2
      go_round
      case rel => exact ⟨k + 1, by have := HQ.out; go_num, by have := HQ.out; omega, by rw [HST.out]⟩
      case measure => simp [intOf]; omega
    · obtain rfl : n = P := by rw [← hne, List.take_of_length_le (by omega)]; exact HP.out
      have hjI : ¬ (q : Int) < (L : Int) := by omega
      clear hne hpo hdl hq
      go_wp2
      go_ret
      exact ⟨rfl, rfl⟩

set_option maxRecDepth 100000 in
set_option maxHeartbeats 2000000 in
theorem hasR_any {u : Value} {xs : List Int} {a : Option Addr} {ca : Nat} {w : World} (n : Int) (A : ArgS w u xs a ca) (hx : xs.length ≤ 140737488355328) :
    Calls Try.prog 44 #[u, .int .i64 n] w fun e w' => e = .returned (.bool (decide (n ∈ xs))) ∧ w = w' := by
  have HA := Lib.hid A
  obtain rfl := A.is
  obtain ⟨L, hL⟩ : ∃ L, xs.length = L := ⟨_, rfl⟩
  obtain ⟨d, hd⟩ : ∃ d, decide (n ∈ xs) = d := ⟨_, rfl⟩
  have HL := Lib.hid hL
  have HD := Lib.hid hd
  rw [hL] at hx
  rw [hL, hd]
  clear A hL hd
  go_enter Try.func44, Try.ntmps44
  go_wp2
  go_loop [5] (fun i => ∃ k : Nat, i = .int .i64 (k : Int) ∧ k ≤ L ∧ n ∉ xs.take k) (fun i => L - (intOf i).toNat)
  case atStart => exact ⟨0, rfl, Nat.zero_le _, by simp⟩
  case round =>
    obtain ⟨k, rfl, hkL, hp⟩ := hrel
    have HP := Lib.hid hp
    clear hp
    by_cases hlt : k < L
    · obtain ⟨b1, o1, rfl, hc1⟩ := HA.out.at (i := k) (by rw [HL.out]; exact hlt)
      have e1 := take_next (xs := xs) (k := k) (by rw [HL.out]; exact hlt)
      have m1 := List.mem_of_getElem? (getD_some (xs := xs) (k := k) (by rw [HL.out]; exact hlt))
      obtain ⟨x, hx⟩ : ∃ x, xs.getD k 0 = x := ⟨_, rfl⟩
      rw [hx] at hc1 e1 m1
      have E1 := Lib.hid e1
      have M1 := Lib.hid m1
      have hltI : (k : Int) < (L : Int) := by omega
      clear hx e1 m1
      by_cases hxy : x = n
      · subst hxy
        obtain rfl : d = true := by rw [← HD.out, decide_eq_true_iff]; exact M1.out
        have hn : (x == x) = true := by simp
        go_wp2
        go_ret
        exact ⟨rfl, rfl⟩
      · have hn : (x == n) = false := by simpa using hxy
        go_wp2
        go_round
        case rel =>
          refine ⟨k + 1, by go_num, by omega, ?_⟩
          rw [E1.out]
          intro h
          rcases List.mem_append.1 h with h | h
          · exact HP.out h
          · exact hxy (List.mem_singleton.1 h).symm
        case measure => simp [intOf]; omega
    · obtain rfl : k = L := by omega
      obtain rfl : d = false := by
        rw [← HD.out, decide_eq_false_iff_not]
        have := HP.out
        rwa [take_all HL.out] at this
      have hltI : ¬ (k : Int) < (k : Int) := by omega
      go_wp2
      go_ret
      exact ⟨rfl, rfl⟩

/-- is it a permutation? -/
def permB (p : List Int) (rank : Int) : Bool := decide (∀ n, n < p.length → (n : Int) ∈ p) && decide ((p.length : Int) = max rank 0)
set_option maxRecDepth 100000 in
set_option maxHeartbeats 2000000 in
theorem permR_any {u : Value} {xs : List Int} {a : Option Addr} {ca : Nat} {w : World} (rank : Int) (A : ArgS w u xs a ca) (hx : xs.length ≤ 140737488355328) (h0 : -9223372036854775808 ≤ rank) (h1 : rank ≤ 9223372036854775807) :
    Calls Try.prog 28 #[u, .int .i64 rank] w fun e w' => e = .returned (.bool (permB xs rank)) ∧ w = w' := by
  have hh := fun n => hasR_any n A hx
  obtain rfl := A.is
  obtain ⟨L, hL⟩ : ∃ L, xs.length = L := ⟨_, rfl⟩
  obtain ⟨d, hd⟩ : ∃ d, permB xs rank = d := ⟨_, rfl⟩
  obtain ⟨r, hr⟩ : ∃ r, max rank 0 = r := ⟨_, rfl⟩
  have hd2 : (decide (∀ n, n < L → (n : Int) ∈ xs) && decide ((L : Int) = r)) = d := by rw [← hd, ← hr]; unfold permB; rw [hL]
  have HD := Lib.hid hd2
  rw [hL] at hh hx ⊢
  rw [hd]
  clear A hL hd hd2
  have key : (L : Int) = r → ((L : Int) == r) = true := fun h => by simpa using h
  by_cases hneg : rank < 0
  · obtain rfl : r = 0 := by omega
    go_enter Try.func28, Try.ntmps28
    go_wp2
    go_loop [5] (fun i => ∃ k : Nat, i = .int .i64 (k : Int) ∧ k ≤ L ∧ ∀ n, n < k → (n : Int) ∈ xs) (fun i => L - (intOf i).toNat)
    case atStart => exact ⟨0, rfl, Nat.zero_le _, fun n h => by omega⟩
    case round =>
      obtain ⟨k, rfl, hkL, hp⟩ := hrel
      have HP := Lib.hid hp
      clear hp
      by_cases hlt : k < L
      · have hk := hh (k : Int)
        have hltI : (k : Int) < (L : Int) := by omega
        by_cases hm : (k : Int) ∈ xs
        · rw [decide_eq_true hm] at hk
          have HM := Lib.hid hm
          clear hm
          go_wp2_with (go_at_call 44; refine hk.mono ?_; rintro e w1 ⟨rfl, rfl⟩)
          go_round
          case rel =>
            refine ⟨k + 1, by go_num, by omega, fun n hn => ?_⟩
            by_cases hnk : n = k
            · subst hnk; exact HM.out
            · exact HP.out n (by omega)
          case measure => simp [intOf]; omega
        · rw [decide_eq_false hm] at hk
          obtain rfl : d = false := by
            rw [← HD.out, decide_eq_false fun h => hm (h k hlt)]; rfl
          clear hm
          go_wp2_with (go_at_call 44; refine hk.mono ?_; rintro e w1 ⟨rfl, rfl⟩)
          go_ret
          exact ⟨rfl, rfl⟩
      · obtain rfl : k = L := by omega
        have hltI : ¬ (k : Int) < (k : Int) := by omega
        have hall : decide (∀ n, n < k → (n : Int) ∈ xs) = true := decide_eq_true HP.out
        by_cases hlr : (k : Int) = 0
        · obtain rfl : d = true := by rw [← HD.out, hall, decide_eq_true hlr]; rfl
          have hx := key hlr
          clear hall hlr key
          go_wp2
          go_ret
          exact ⟨rfl, rfl⟩
        · obtain rfl : d = false := by rw [← HD.out, hall, decide_eq_false hlr]; rfl
          have hx : ((k : Int) == 0) = false := by simpa using hlr
          clear hall hlr key
          go_wp2
          go_ret
          exact ⟨rfl, rfl⟩
  · obtain rfl : r = rank := by omega
    go_enter Try.func28, Try.ntmps28
    go_wp2
    go_loop [5] (fun i => ∃ k : Nat, i = .int .i64 (k : Int) ∧ k ≤ L ∧ ∀ n, n < k → (n : Int) ∈ xs) (fun i => L - (intOf i).toNat)
    case atStart => exact ⟨0, rfl, Nat.zero_le _, fun n h => by omega⟩
    case round =>
      obtain ⟨k, rfl, hkL, hp⟩ := hrel
      have HP := Lib.hid hp
      clear hp
      by_cases hlt : k < L
      · have hk := hh (k : Int)
        have hltI : (k : Int) < (L : Int) := by omega
        by_cases hm : (k : Int) ∈ xs
        · rw [decide_eq_true hm] at hk
          have HM := Lib.hid hm
          clear hm
          go_wp2_with (go_at_call 44; refine hk.mono ?_; rintro e w1 ⟨rfl, rfl⟩)
          go_round
          case rel =>
            refine ⟨k + 1, by go_num, by omega, fun n hn => ?_⟩
            by_cases hnk : n = k
            · subst hnk; exact HM.out
            · exact HP.out n (by omega)
          case measure => simp [intOf]; omega
        · rw [decide_eq_false hm] at hk
          obtain rfl : d = false := by
            rw [← HD.out, decide_eq_false fun h => hm (h k hlt)]; rfl
          clear hm
          go_wp2_with (go_at_call 44; refine hk.mono ?_; rintro e w1 ⟨rfl, rfl⟩)
          go_ret
          exact ⟨rfl, rfl⟩
      · obtain rfl : k = L := by omega
        have hltI : ¬ (k : Int) < (k : Int) := by omega
        have hall : decide (∀ n, n < k → (n : Int) ∈ xs) = true := decide_eq_true HP.out
        by_cases hlr : (k : Int) = r
        · obtain rfl : d = true := by rw [← HD.out, hall, decide_eq_true hlr]; rfl
          have hx := key hlr
          clear hall hlr key
          go_wp2
          go_ret
          exact ⟨rfl, rfl⟩
        · obtain rfl : d = false := by rw [← HD.out, hall, decide_eq_false hlr]; rfl
          have hx : ((k : Int) == r) = false := by simpa using hlr
          clear hall hlr key
          go_wp2
          go_ret
          exact ⟨rfl, rfl⟩

/-- a dimension from the end -/
def backS (s : List Int) (k : Nat) : Int := if s.length < k then 0 else s.getD (s.length - k) 0
set_option maxRecDepth 100000 in
theorem backR_any {u : Value} {xs : List Int} {a : Option Addr} {ca : Nat} {w : World} {k : Nat} (A : ArgS w u xs a ca) (hk : 1 ≤ k) (hl : xs.length ≤ 4) (hk2 : k ≤ 1000) :
    Calls Try.prog 46 #[u, .int .i64 (k : Int)] w fun e w' => e = .returned (.int .i64 (backS xs k)) ∧ w = w' := by
  have HA := Lib.hid A
  obtain rfl := A.is
  obtain ⟨L, hL⟩ : ∃ L, xs.length = L := ⟨_, rfl⟩
  have HL := Lib.hid hL
  unfold backS
  rw [hL] at hl ⊢
  clear A hL
  by_cases hlt : L < k
  · rw [if_pos hlt]
    have hI : (L : Int) < (k : Int) := by omega
    go_enter Try.func46, Try.ntmps46
    go_wp2
    go_ret
    exact ⟨rfl, rfl⟩
  · rw [if_neg hlt]
    obtain ⟨j, hj⟩ : ∃ j, L - k = j := ⟨_, rfl⟩
    rw [hj]
    obtain ⟨b, off, rfl, hc⟩ := HA.out.at (i := j) (by rw [HL.out]; omega)
    obtain ⟨x, hx⟩ : ∃ x, xs.getD j 0 = x := ⟨_, rfl⟩
    rw [hx] at hc ⊢
    have hI : ¬ (L : Int) < (k : Int) := by omega
    have hjI : (L : Int) - (k : Int) = (j : Int) := by omega
    have hjL : (j : Int) < (L : Int) := by omega
    clear hx
    go_enter Try.func46, Try.ntmps46
    go_wp2
    go_ret
    exact ⟨rfl, rfl⟩
end Go.Proofs.Ythlohkehacnolaa
