/-
  Part 10 of 21: contracts and what they rest on (ORef1, IOpen).
-/
import Derived.Test.YtdcggcfgkhlblaaL1
import Derived.Test.YtdcggcfgkhlblaaL3
import Derived.Test.YtdcggcfgkhlblaaL5
import Derived.Test.YtdcggcfgkhlblaaL6
import Derived.Test.YtdcggcfgkhlblaaL7
import Derived.WalkKit
import Derived.Test.YtdcggcfgkhlblaaRows
import Derived.OrdersHeld
import Derived.Deep.RegionHeld
import Derived.BigQuiet
import Derived.Deep.QuietTactic
import Derived.Lib.Hide
import Derived.Lib.Small
import Derived.Lib.Walk
import Derived.Lib.BitFns
import Derived.Maps.AppendAt
import Derived.RangeFuncNested
import Derived.RangeFuncBound
import Derived.RangeFuncCalls
import Derived.RangeFuncLeaves
import Derived.Shelf.Abstract
import Derived.OwnWalkIn
import Derived.TacticsInMore
import Derived.LoopNIn
import Derived.LoopIn
import Derived.RangeFuncBox
import Derived.Deep.RegionHeld3
import Derived.OrdersIn
import Derived.StillTailTactics
import Derived.RangeFuncFrom
import Derived.Laws.EntriesVeiled
import Derived.ProofKit
import Derived.OpenShut
import Derived.JoinedCond
import Derived.Carry
import Derived.Laws.AppendOwnNone
import Derived.Lib.ItoaNum
import Derived.Deep.RegionLaw
import Derived.WalkMore
import Derived.Lib.SmallJoins
import Derived.IntWalk
import Derived.Deep.DeepCutAuto
import Derived.Laws.OwnMore
import Derived.ArgAppend
import Derived.Deep.Slices
import Derived.Laws.CopyOwn
import Derived.Lib.SliceRun
import Derived.SizedLaws
import Derived.Great.BuildSlice
namespace Go.Proofs.Ytdcggcfgkhlblaa
set_option maxRecDepth 100000
section
open Go.RowKit
set_option linter.unusedVariables false
set_option linter.unusedSimpArgs false
theorem ver_tab {k : Nat} (hk : k < 20) {v : Nat} (hv : v < 4) (h1 : 1 ≤ v) : verO ((k : Int) + 1) (v : Int) = if k + 1 = 18 then decide ((v : Int) = 1) else if k + 1 = 19 ∨ k + 1 = 20 then decide ((v : Int) < 3) else if k + 1 = 8 ∨ k + 1 = 9 then decide ((v : Int) = 3) else true := by
  revert h1
  exact (by decide +kernel : ∀ k : Nat, k < 20 → ∀ v : Nat, v < 4 → 1 ≤ v → verO ((k : Int) + 1) (v : Int) = if k + 1 = 18 then decide ((v : Int) = 1) else if k + 1 = 19 ∨ k + 1 = 20 then decide ((v : Int) < 3) else if k + 1 = 8 ∨ k + 1 = 9 then decide ((v : Int) = 3) else true) k hk v hv
theorem ver_is {o v : Int} (h : inO o = true) (h1 : 1 ≤ v) (h3 : v ≤ 3) : verO o v = if o = 18 then decide (v = 1) else if o = 19 ∨ o = 20 then decide (v < 3) else if o = 8 ∨ o = 9 then decide (v = 3) else true := by
  obtain ⟨k, hk, rfl⟩ := inO_nat h
  obtain ⟨m, rfl⟩ : ∃ m : Nat, v = (m : Int) := ⟨v.toNat, by omega⟩
  have e := ver_tab hk (v := m) (by omega) (by omega)
  rw [e]
  have c1 : ((k : Int) + 1 = 18) ↔ (k + 1 = 18) := by omega
  have c2 : ((k : Int) + 1 = 19 ∨ (k : Int) + 1 = 20) ↔ (k + 1 = 19 ∨ k + 1 = 20) := by omega
  have c3 : ((k : Int) + 1 = 8 ∨ (k : Int) + 1 = 9) ↔ (k + 1 = 8 ∨ k + 1 = 9) := by omega
  simp only [c1, c2, c3]
theorem ver_no {o v : Int} (h : inO o = true) (h1 : ¬ (1 ≤ v ∧ v ≤ 3)) : verO o v = false := by
  obtain ⟨k, hk, rfl⟩ := inO_nat h
  have hb : 1 ≤ (rowO ((k : Int) + 1)).vl ∧ (rowO ((k : Int) + 1)).vh ≤ 3 := (by decide +kernel : ∀ k : Nat, k < 20 → 1 ≤ (rowO ((k : Int) + 1)).vl ∧ (rowO ((k : Int) + 1)).vh ≤ 3) k hk
  unfold verO
  rw [h, Bool.true_and]
  exact decide_eq_false (by omega)
set_option maxRecDepth 100000 in
set_option maxHeartbeats 4000000 in
theorem inR_any (o v : Int) (w : World) : Calls Try.prog 15 #[.int .i64 o, .int .i64 v] w fun e w' => e = .returned (.bool (verO o v)) ∧ Below w.heap.size w w' := by
  obtain ⟨c, hc⟩ : ∃ c, verO o v = c := ⟨_, rfl⟩
  rw [hc]
  have HC := Lib.hid hc
  clear hc
  by_cases hin : 1 ≤ o ∧ o ≤ 20
  case neg =>
    obtain rfl : c = false := by rw [← HC.out]; unfold verO; rw [show inO o = false from decide_eq_false hin]; rfl
    by_cases h1 : o < 1
    · go_enter Try.func15, Try.ntmps15
      go_wp2_with fail
      go_ret
      exact ⟨rfl, Below.refl _ _⟩
    · have h2 : o > 20 := by omega
      go_enter Try.func15, Try.ntmps15
      go_wp2_with fail
      go_ret
      exact ⟨rfl, Below.refl _ _⟩
  case pos =>
    have hi : inO o = true := decide_eq_true hin
    have h1 : ¬ o < 1 := by omega
    have h2 : ¬ o > 20 := by omega
    by_cases hv1 : v < 1
    · obtain rfl : c = false := by rw [← HC.out]; exact ver_no hi (by omega)
      clear hi hin
      go_enter Try.func15, Try.ntmps15
      go_wp2_with fail
      go_ret
      exact ⟨rfl, Below.refl _ _⟩
    · by_cases hv3 : v > 3
      · obtain rfl : c = false := by rw [← HC.out]; exact ver_no hi (by omega)
        clear hi hin
        go_enter Try.func15, Try.ntmps15
        go_wp2_with fail
        go_ret
        exact ⟨rfl, Below.refl _ _⟩
      · have hver := ver_is (v := v) hi (by omega) (by omega)
        rw [HC.out] at hver
        clear hi hin
        by_cases hx18 : o = 18
        · subst hx18
          obtain rfl : c = decide (v = 1) := by rw [hver]; simp
          clear hver
          go_enter Try.func15, Try.ntmps15
          go_wp2_with fail
          go_ret
          exact ⟨rfl, Below.refl _ _⟩
        · skip
          by_cases hx19 : o = 19
          · subst hx19
            obtain rfl : c = decide (v < 3) := by rw [hver]; simp
            clear hver
            go_enter Try.func15, Try.ntmps15
            go_wp2_with fail
            go_ret
            exact ⟨rfl, Below.refl _ _⟩
          · skip
            by_cases hx20 : o = 20
            · subst hx20
              obtain rfl : c = decide (v < 3) := by rw [hver]; simp
              clear hver
              go_enter Try.func15, Try.ntmps15
              go_wp2_with fail
              go_ret
              exact ⟨rfl, Below.refl _ _⟩
            · skip
              by_cases hx8 : o = 8
              · subst hx8
                obtain rfl : c = decide (v = 3) := by rw [hver]; simp
                clear hver
                go_enter Try.func15, Try.ntmps15
                go_wp2_with fail
                go_ret
                exact ⟨rfl, Below.refl _ _⟩
              · skip
                by_cases hx9 : o = 9
                · subst hx9
                  obtain rfl : c = decide (v = 3) := by rw [hver]; simp
                  clear hver
                  go_enter Try.func15, Try.ntmps15
                  go_wp2_with fail
                  go_ret
                  exact ⟨rfl, Below.refl _ _⟩
                · skip
                  obtain rfl : c = true := by rw [hver, if_neg hx18, if_neg (show ¬ (o = 19 ∨ o = 20) by omega), if_neg (show ¬ (o = 8 ∨ o = 9) by omega)]
                  clear hver
                  go_enter Try.func15, Try.ntmps15
                  go_wp2_with fail
                  go_ret
                  exact ⟨rfl, Below.refl _ _⟩
theorem ar_tab {k : Nat} (hk : k < 20) : (rowO ((k : Int) + 1)).al = (if k + 1 = 1 ∨ k + 1 = 2 ∨ k + 1 = 3 ∨ k + 1 = 4 ∨ k + 1 = 10 then 2 else if k + 1 = 19 then 3 else 1) ∧ (rowO ((k : Int) + 1)).ah = (if k + 1 = 1 ∨ k + 1 = 2 ∨ k + 1 = 3 ∨ k + 1 = 4 ∨ k + 1 = 10 then 2 else if k + 1 = 19 then 3 else if k + 1 = 17 then 8 else 1) :=
  (by decide +kernel : ∀ k : Nat, k < 20 → (rowO ((k : Int) + 1)).al = (if k + 1 = 1 ∨ k + 1 = 2 ∨ k + 1 = 3 ∨ k + 1 = 4 ∨ k + 1 = 10 then 2 else if k + 1 = 19 then 3 else 1) ∧ (rowO ((k : Int) + 1)).ah = (if k + 1 = 1 ∨ k + 1 = 2 ∨ k + 1 = 3 ∨ k + 1 = 4 ∨ k + 1 = 10 then 2 else if k + 1 = 19 then 3 else if k + 1 = 17 then 8 else 1)) k hk
set_option maxRecDepth 100000 in
set_option maxHeartbeats 4000000 in
theorem arityR_any (o : Int) (w : World) : Calls Try.prog 32 #[.int .i64 o] w fun e w' => e = .returned (.tuple #[.int .i64 (rowO o).al, .int .i64 (rowO o).ah]) ∧ Below w.heap.size w w' := by
  obtain ⟨x, hx⟩ : ∃ b, (rowO o).al = b := ⟨_, rfl⟩
  obtain ⟨y, hy⟩ : ∃ b, (rowO o).ah = b := ⟨_, rfl⟩
  rw [hx, hy]
  by_cases hin : 1 ≤ o ∧ o ≤ 20
  case neg =>
    have hno := rowO_out (o := o) (decide_eq_false hin)
    rw [hno] at hx hy
    obtain rfl : x = 0 := hx.symm
    obtain rfl : y = 0 := hy.symm
    have e1 : ¬ o = 1 := by omega
    have e2 : ¬ o = 2 := by omega
    have e3 : ¬ o = 3 := by omega
    have e4 : ¬ o = 4 := by omega
    have e10 : ¬ o = 10 := by omega
    have e19 : ¬ o = 19 := by omega
    have e17 : ¬ o = 17 := by omega
    clear hx hy hno
    by_cases h1 : o < 1
    · clear hin
      go_enter Try.func32, Try.ntmps32
      go_wp2_with fail
      go_ret2
      exact ⟨rfl, Below.refl _ _⟩
    · have h2 : o > 20 := by omega
      clear hin
      go_enter Try.func32, Try.ntmps32
      go_wp2_with fail
      go_ret2
      exact ⟨rfl, Below.refl _ _⟩
  case pos =>
    obtain ⟨k, hk, hok⟩ := inO_nat (decide_eq_true hin)
    obtain ⟨t1, t2⟩ := ar_tab hk
    rw [← hok, hx] at t1
    rw [← hok, hy] at t2
    have h1 : ¬ o < 1 := by omega
    have h2 : ¬ o > 20 := by omega
    clear hx hy
    by_cases hx1 : o = 1
    · obtain rfl : x = 2 := by rw [t1]; simp only [show k + 1 = 1 by omega]; rfl
      obtain rfl : y = 2 := by rw [t2]; simp only [show k + 1 = 1 by omega]; rfl
      clear t1 t2 hok hin
      subst hx1
      go_enter Try.func32, Try.ntmps32
      go_wp2_with fail
      go_ret2
      exact ⟨rfl, Below.refl _ _⟩
    · skip
      by_cases hx2 : o = 2
      · obtain rfl : x = 2 := by rw [t1]; simp only [show k + 1 = 2 by omega]; rfl
        obtain rfl : y = 2 := by rw [t2]; simp only [show k + 1 = 2 by omega]; rfl
        clear t1 t2 hok hin
        subst hx2
        go_enter Try.func32, Try.ntmps32
        go_wp2_with fail
        go_ret2
        exact ⟨rfl, Below.refl _ _⟩
      · skip
        by_cases hx3 : o = 3
        · obtain rfl : x = 2 := by rw [t1]; simp only [show k + 1 = 3 by omega]; rfl
          obtain rfl : y = 2 := by rw [t2]; simp only [show k + 1 = 3 by omega]; rfl
          clear t1 t2 hok hin
          subst hx3
          go_enter Try.func32, Try.ntmps32
          go_wp2_with fail
          go_ret2
          exact ⟨rfl, Below.refl _ _⟩
        · skip
          by_cases hx4 : o = 4
          · obtain rfl : x = 2 := by rw [t1]; simp only [show k + 1 = 4 by omega]; rfl
            obtain rfl : y = 2 := by rw [t2]; simp only [show k + 1 = 4 by omega]; rfl
            clear t1 t2 hok hin
            subst hx4
            go_enter Try.func32, Try.ntmps32
            go_wp2_with fail
            go_ret2
            exact ⟨rfl, Below.refl _ _⟩
          · skip
            by_cases hx10 : o = 10
            · obtain rfl : x = 2 := by rw [t1]; simp only [show k + 1 = 10 by omega]; rfl
              obtain rfl : y = 2 := by rw [t2]; simp only [show k + 1 = 10 by omega]; rfl
              clear t1 t2 hok hin
              subst hx10
              go_enter Try.func32, Try.ntmps32
              go_wp2_with fail
              go_ret2
              exact ⟨rfl, Below.refl _ _⟩
            · skip
              by_cases hx19 : o = 19
              · obtain rfl : x = 3 := by rw [t1]; simp only [show k + 1 = 19 by omega]; rfl
                obtain rfl : y = 3 := by rw [t2]; simp only [show k + 1 = 19 by omega]; rfl
                clear t1 t2 hok hin
                subst hx19
                go_enter Try.func32, Try.ntmps32
                go_wp2_with fail
                go_ret2
                exact ⟨rfl, Below.refl _ _⟩
              · skip
                by_cases hx17 : o = 17
                · obtain rfl : x = 1 := by rw [t1]; simp only [show k + 1 = 17 by omega]; rfl
                  obtain rfl : y = 8 := by rw [t2]; simp only [show k + 1 = 17 by omega]; rfl
                  clear t1 t2 hok hin
                  subst hx17
                  go_enter Try.func32, Try.ntmps32
                  go_wp2_with fail
                  go_ret2
                  exact ⟨rfl, Below.refl _ _⟩
                · skip
                  obtain rfl : x = 1 := by rw [t1, if_neg (by omega), if_neg (by omega)]
                  obtain rfl : y = 1 := by rw [t2, if_neg (by omega), if_neg (by omega), if_neg (by omega)]
                  clear t1 t2 hok hin
                  go_enter Try.func32, Try.ntmps32
                  go_wp2_with fail
                  go_ret2
                  exact ⟨rfl, Below.refl _ _⟩
/-- may there be no attributes, in a version? -/
def noneB (v o : Int) : Bool := if o = 6 ∨ o = 11 ∨ o = 17 then decide (v = 1) else if o = 14 ∨ o = 20 then decide (v < 3) else false
theorem none_is {o v : Int} (h : inO o = true) (h1 : 1 ≤ v) (h3 : v ≤ 3) (xs : List Int) : leaveB o v xs = (decide (xs.length = 0) && noneB v o) := by
  obtain ⟨k, hk, rfl⟩ := inO_nat h
  obtain ⟨m, rfl⟩ : ∃ m : Nat, v = (m : Int) := ⟨v.toNat, by omega⟩
  have e : decide ((m : Int) ≤ (rowO ((k : Int) + 1)).lo) = noneB (m : Int) ((k : Int) + 1) :=
    (by decide +kernel : ∀ k : Nat, k < 20 → ∀ m : Nat, m < 4 → 1 ≤ m → decide ((m : Int) ≤ (rowO ((k : Int) + 1)).lo) = noneB (m : Int) ((k : Int) + 1)) k hk m (by omega) (by omega)
  unfold leaveB
  rw [← e, Bool.decide_and]
set_option maxRecDepth 100000 in
set_option maxHeartbeats 4000000 in
theorem noneR_any (v o : Int) (w : World) : Calls Try.prog 17 #[.int .i64 v, .int .i64 o] w fun e w' => e = .returned (.bool (noneB v o)) ∧ Below w.heap.size w w' := by
  obtain ⟨c, hc⟩ : ∃ c, noneB v o = c := ⟨_, rfl⟩
  rw [hc]
  by_cases hx6 : o = 6
  · subst hx6
    obtain rfl : c = decide (v = 1) := by rw [← hc]; rfl
    clear hc
    go_enter Try.func17, Try.ntmps17
    go_wp2_with fail
    go_ret
    exact ⟨rfl, Below.refl _ _⟩
  · skip
    by_cases hx11 : o = 11
    · subst hx11
      obtain rfl : c = decide (v = 1) := by rw [← hc]; rfl
      clear hc
      go_enter Try.func17, Try.ntmps17
      go_wp2_with fail
      go_ret
      exact ⟨rfl, Below.refl _ _⟩
    · skip
      by_cases hx17 : o = 17
      · subst hx17
        obtain rfl : c = decide (v = 1) := by rw [← hc]; rfl
        clear hc
        go_enter Try.func17, Try.ntmps17
        go_wp2_with fail
        go_ret
        exact ⟨rfl, Below.refl _ _⟩
      · skip
        by_cases hx14 : o = 14
        · subst hx14
          obtain rfl : c = decide (v < 3) := by rw [← hc]; rfl
          clear hc
          go_enter Try.func17, Try.ntmps17
          go_wp2_with fail
          go_ret
          exact ⟨rfl, Below.refl _ _⟩
        · skip
          by_cases hx20 : o = 20
          · subst hx20
            obtain rfl : c = decide (v < 3) := by rw [← hc]; rfl
            clear hc
            go_enter Try.func17, Try.ntmps17
            go_wp2_with fail
            go_ret
            exact ⟨rfl, Below.refl _ _⟩
          · skip
            obtain rfl : c = false := by rw [← hc]; unfold noneB; rw [if_neg (by omega), if_neg (by omega)]
            clear hc
            go_enter Try.func17, Try.ntmps17
            go_wp2_with fail
            go_ret
            exact ⟨rfl, Below.refl _ _⟩
set_option maxRecDepth 100000 in
set_option maxHeartbeats 4000000 in
theorem divisor_any {p q : Int} (hp0 : -2147483647 ≤ p) (hp1 : p ≤ 2147483647) (hq0 : 1 ≤ q) (hq1 : q ≤ 2147483647) (w : World) : Calls Try.prog 58 #[.int .i64 p, .int .i64 q] w fun e w' => e = .returned (.bool (!(copB p q))) ∧ Below w.heap.size w w' := by
  obtain ⟨c, hc⟩ : ∃ c, (!(copB p q)) = c := ⟨_, rfl⟩
  rw [hc]
  have HC := Lib.hid hc
  obtain ⟨P0, hP0⟩ : ∃ n : Nat, p.natAbs = n := ⟨_, rfl⟩
  have hg0 : Int.gcd (P0 : Int) q = Int.gcd p q := by rw [← hP0]; unfold Int.gcd; rw [Int.natAbs_natCast]
  have HG0 := Lib.hid hg0
  have hP4 : P0 ≤ 2147483647 := by omega
  have hneg : p < 0 → -p = (P0 : Int) := by omega
  have hpos : ¬ p < 0 → p = (P0 : Int) := by omega
  have HNEG := Lib.hid hneg
  have HPOS := Lib.hid hpos
  clear hc hg0 hneg hpos hP0
  by_cases hpn : p < 0
  · have hnp := HNEG.out hpn
    have hnw : IntKind.i64.wrap (-p) = -p := IntWalk.i64_in _ (by omega)
    go_enter Try.func58, Try.ntmps58
    go_wp2_with fail
    go_loopw [0, 1] (fun a b wr => ∃ P Q : Nat, a = .int .i64 (P : Int) ∧ b = .int .i64 (Q : Int) ∧ P ≤ 2147483647 ∧ Q ≤ 2147483647 ∧ Int.gcd (P : Int) (Q : Int) = Int.gcd p q ∧ Below w.heap.size w wr) (fun _ b _ => (intOf b).toNat)
    case atStart => exact ⟨P0, q.toNat, by first | rfl | (rw [hnp]), by first | (congr 1; omega) | (rw [show ((q.toNat : Nat) : Int) = q by omega]), hP4, by omega, by first | (rw [show ((q.toNat : Nat) : Int) = q by omega]; done) | (rw [show ((q.toNat : Nat) : Int) = q by omega]; exact HG0.out), Below.refl _ _⟩
    case round =>
      obtain ⟨P, Q, rfl, rfl, a1, b1, hg, hb⟩ := hrel
      have HG := Lib.hid hg
      clear hg
      by_cases hQ : Q = 0
      · subst hQ
        have hgP : Int.gcd p q = P := by rw [← HG.out]; simp
        have hcc : c = decide (P ≠ 1) := by
          rw [← HC.out]
          unfold copB
          rw [hgP, decide_not]
        by_cases h1 : P = 1
        · subst h1
          obtain rfl : c = false := hcc
          clear hgP
          go_wp2_with fail
          go_ret
          exact ⟨rfl, hb⟩
        · have h1I : ((P : Int) != 1) = true := by simp; omega
          obtain rfl : c = true := by rw [hcc]; exact decide_eq_true h1
          clear hgP hcc
          go_wp2_with fail
          go_ret
          exact ⟨rfl, hb⟩
      · have hQI : (Q : Int) > 0 := by omega
        have hQ0 : ¬ (Q : Int) = 0 := by omega
        obtain ⟨m, hm⟩ : ∃ m, P % Q = m := ⟨_, rfl⟩
        have hmlt : m < Q := by rw [← hm]; exact Nat.mod_lt _ (by omega)
        have hmod : (P : Int).tmod (Q : Int) = (m : Int) := by rw [← hm]; exact Int.ofNat_tmod P Q
        have hgc : Int.gcd (Q : Int) (m : Int) = Int.gcd p q := by
          rw [← HG.out, ← hm]
          unfold Int.gcd
          simp only [Int.natAbs_natCast]
          rw [Nat.gcd_comm Q, ← Nat.gcd_rec, Nat.gcd_comm]
        have HGC := Lib.hid hgc
        have hQw : Q ≤ 2147483647 := b1
        clear hgc hm
        go_wp2_with fail
        go_quiet (fail)
        go_wp2
        go_roundw
        case rel => exact ⟨Q, m, rfl, by first | rfl | (rw [hmod]), b1, by omega, HGC.out, below_drewN11 hb nq⟩
        case measure => simp [intOf, hmod]; omega
  · obtain rfl := HPOS.out hpn
    go_enter Try.func58, Try.ntmps58
    go_wp2_with fail
    go_loopw [0, 1] (fun a b wr => ∃ P Q : Nat, a = .int .i64 (P : Int) ∧ b = .int .i64 (Q : Int) ∧ P ≤ 2147483647 ∧ Q ≤ 2147483647 ∧ Int.gcd (P : Int) (Q : Int) = Int.gcd (P0 : Int) q ∧ Below w.heap.size w wr) (fun _ b _ => (intOf b).toNat)
    case atStart => exact ⟨P0, q.toNat, rfl, by first | (congr 1; omega) | (rw [show ((q.toNat : Nat) : Int) = q by omega]), hP4, by omega, by first | (rw [show ((q.toNat : Nat) : Int) = q by omega]; done) | (rw [show ((q.toNat : Nat) : Int) = q by omega]; exact HG0.out), Below.refl _ _⟩
    case round =>
      obtain ⟨P, Q, rfl, rfl, a1, b1, hg, hb⟩ := hrel
      have HG := Lib.hid hg
      clear hg
      by_cases hQ : Q = 0
      · subst hQ
        have hgP : Int.gcd (P0 : Int) q = P := by rw [← HG.out]; simp
        have hcc : c = decide (P ≠ 1) := by
          rw [← HC.out]
          unfold copB
          rw [hgP, decide_not]
        by_cases h1 : P = 1
        · subst h1
          obtain rfl : c = false := hcc
          clear hgP
          go_wp2_with fail
          go_ret
          exact ⟨rfl, hb⟩
        · have h1I : ((P : Int) != 1) = true := by simp; omega
          obtain rfl : c = true := by rw [hcc]; exact decide_eq_true h1
          clear hgP hcc
          go_wp2_with fail
          go_ret
          exact ⟨rfl, hb⟩
      · have hQI : (Q : Int) > 0 := by omega
        have hQ0 : ¬ (Q : Int) = 0 := by omega
        obtain ⟨m, hm⟩ : ∃ m, P % Q = m := ⟨_, rfl⟩
        have hmlt : m < Q := by rw [← hm]; exact Nat.mod_lt _ (by omega)
        have hmod : (P : Int).tmod (Q : Int) = (m : Int) := by rw [← hm]; exact Int.ofNat_tmod P Q
        have hgc : Int.gcd (Q : Int) (m : Int) = Int.gcd (P0 : Int) q := by
          rw [← HG.out, ← hm]
          unfold Int.gcd
          simp only [Int.natAbs_natCast]
          rw [Nat.gcd_comm Q, ← Nat.gcd_rec, Nat.gcd_comm]
        have HGC := Lib.hid hgc
        have hQw : Q ≤ 2147483647 := b1
        clear hgc hm
        go_wp2_with fail
        go_quiet (fail)
        go_wp2
        go_roundw
        case rel => exact ⟨Q, m, rfl, by first | rfl | (rw [hmod]), b1, by omega, HGC.out, below_drewN11 hb nq⟩
        case measure => simp [intOf, hmod]; omega
end
section
open Go.RowKit Go.ChangeShapes Go.WideShapes Go.ChangeAt Go.Joins Go.Deep
set_option linter.unusedVariables false
set_option linter.unusedSimpArgs false
set_option maxRecDepth 100000
theorem weightsAll_in {H : Type} {P : Program} {e : TypeId} {d : DataW H} : ∀ {l : List (DataW H)}, d ∈ l → ∀ n ∈ d.weights P e, n ∈ DataW.weightsAll P e l := fun {l} h n hn => by
  induction l with
  | nil => cases h
  | cons x r ih =>
    simp only [DataW.weightsAll, List.mem_append]
    rcases List.mem_cons.1 h with rfl | h
    · exact .inl hn
    · exact .inr (ih h)
theorem cellsShape12 : Try.prog.cellsOf 28 = 1 := by kernel_rfl
theorem bytesShape12 : Try.prog.bytesOf 28 = 24 := by kernel_rfl
/-- a row of shapes, as it came in -/
theorem open_shapesR {H : Type} {enc : TypeId × Value → H} {W : World} {v : Value} {y : DataW H × List MemPlace} {fuel : Nat}
    (hf : DataW.trod enc Try.prog W 0 (fun _ => true) true fuel 26 [v] = some y) (hk : ∀ n ∈ DataW.weights Try.prog 26 y.1, n ≤ 140737488351232) :
    ∃ (ad : Option Addr) (ls : List (List Int)) (cap : Nat), RowL W v ls ad cap ∧ (∀ x ∈ ls, x.length ≤ 17592186043904) ∧ ls.length ≤ 17592186043904 := by
  rcases open_slice Try.underlying26 hf with ⟨hcs, hx⟩ | ⟨a, len, cap, m, n, D, Pl, hcs, hb, hl, hm, hmm, hx, hi⟩
  · simp only [List.cons.injEq, and_true] at hcs
    subst hcs
    exact ⟨none, [], 0, ⟨rfl, Nat.le_refl _, .inl rfl⟩, (fun x h => by cases h), by simp⟩
  · simp only [List.cons.injEq, and_true] at hcs
    subst hcs
    subst hx
    simp only [if_true] at hmm
    rw [cellsShape12] at hi
    simp only [DataW.weights, Try.underlying26] at hk
    have hlen : len ≤ 17592186043904 := by
      have h1 := hk _ (List.mem_cons_self ..)
      rw [bytesShape12] at h1
      simp only [List.length_map, List.length_range] at h1
      omega
    have hel : ∀ i, i < len → ∃ (x : List Int) (u : Value), W.cell? (a.add i) = some u ∧ (∃ (a' : Option Addr) (c' : Nat), u = .slice a' x.length c' ∧ ArgS W (.slice a' x.length c') x a' c' ∧ (a' = none → c' = 0)) ∧ x.length ≤ 17592186043904 := fun i hlt => by
      obtain ⟨cs', hc, ht⟩ := hi i (by omega)
      obtain ⟨_, hcl, hat⟩ := World.cells?_some hc
      have hc1 : cs'.length = 1 := hcl
      match cs', hc1 with
      | [c0], _ =>
        obtain ⟨ad, s, ca, rfl, A, l1, n1⟩ := open_intsW Try.underlying28 ht
        have p0 := hat 0 (by omega)
        rw [show ∀ p : Addr, p.add 0 = p from fun p => by cases p; rename_i b o path; cases path <;> simp [Addr.add]] at p0
        rw [Nat.mul_one] at p0
        refine ⟨s, _, p0, ⟨ad, ca, rfl, A, n1⟩, ?_⟩
        refine reach_in (k := 0) (fun m hm => ?_) l1
        refine hk m (List.mem_cons_of_mem _ (List.mem_append_left _ (weightsAll_in (d := D i) ?_ m hm)))
        exact List.mem_map.2 ⟨i, List.mem_range.2 hlt, rfl⟩
    have hel2 : ∀ i, ∃ (x : List Int), i < len → ∃ (u : Value), W.cell? (a.add i) = some u ∧ (∃ (a' : Option Addr) (c' : Nat), u = .slice a' x.length c' ∧ ArgS W (.slice a' x.length c') x a' c' ∧ (a' = none → c' = 0)) ∧ x.length ≤ 17592186043904 := fun i => by
      by_cases h : i < len
      · obtain ⟨x, h'⟩ := hel i h
        exact ⟨x, fun _ => h'⟩
      · exact ⟨[], fun h' => absurd h' h⟩
    obtain ⟨F, hF⟩ := Classical.axiomOfChoice hel2
    have hlq : ((List.range len).map F).length = len := by simp
    refine ⟨some a, (List.range len).map F, cap, ⟨by rw [hlq], by rw [hlq]; exact hl, ?_⟩, fun x hx => ?_, by rw [hlq]; exact hlen⟩
    · by_cases h0 : len = 0
      · exact .inl (by rw [h0]; rfl)
      · have hp : ∃ b o, a = ⟨b, o, none⟩ := by
          obtain ⟨_, h1, _⟩ := hF 0 (by omega)
          obtain ⟨b, off, spot⟩ := a
          have hspot : spot = none := by simpa [Addr.add] using World.cell?_spot h1
          subst hspot
          exact ⟨b, off, rfl⟩
        obtain ⟨b, o, rfl⟩ := hp
        refine .inr ⟨b, o, rfl, fun i x he => ?_⟩
        have hlt : i < len := by
          rcases Nat.lt_or_ge i len with g | g
          · exact g
          · rw [List.getElem?_eq_none (by simpa using g)] at he; cases he
        rw [List.getElem?_map, List.getElem?_range hlt] at he
        simp only [Option.map_some, Option.some.injEq] at he
        subst he
        obtain ⟨u, h1, ⟨a', c', rfl, A, n1⟩, _⟩ := hF i hlt
        rw [add_plain] at h1
        exact ⟨a', c', h1, A, n1⟩
    · obtain ⟨i, hi2, rfl⟩ := List.mem_map.1 hx
      obtain ⟨_, _, _, h⟩ := hF i (List.mem_range.1 hi2)
      exact h
theorem open_shapesL {H : Type} {enc : TypeId × Value → H} {W : World} {v : Value} {d : DataW H} {p : List MemPlace} {base : Nat}
    (hval : Value.okWide Try.prog W .any base 26 v) (h : DataW.Trod enc Try.prog W 0 (fun _ => true) true 26 v d p) (hk : ∀ n ∈ DataW.weights Try.prog 26 d, n ≤ reachBytes) :
    ∃ (ad : Option Addr) (ls : List (List Int)) (cap : Nat), v = .slice ad ls.length cap ∧ RowL W (.slice ad ls.length cap) ls ad cap ∧ (∀ x ∈ ls, x.length ≤ 17592186044416) ∧ ls.length ≤ 17592186044416 := by
  obtain ⟨aa, nn, cc, rfl⟩ := okWide_slice Try.underlying26 hval
  obtain ⟨fuel, hf⟩ := h
  simp only [Value.cells] at hf
  obtain ⟨a, ls, c, A, hl, hn⟩ := open_shapesR (y := (d, p)) hf (fun n hn => by
    have := hk n hn
    rw [show reachBytes = 140737488351232 by decide] at this
    exact this)
  have e := A.is
  rw [e] at A
  exact ⟨a, ls, c, e, A, fun x hx => by have := hl x hx; omega, by omega⟩
end
end Go.Proofs.Ytdcggcfgkhlblaa
