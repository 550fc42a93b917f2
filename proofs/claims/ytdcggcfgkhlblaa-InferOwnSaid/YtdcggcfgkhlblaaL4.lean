/-
  Part 4 of 21: contracts and what they rest on (SRefF, SCode2, PCode1, ICode3).
-/
import Derived.Test.YtdcggcfgkhlblaaL1
import Derived.Test.YtdcggcfgkhlblaaL2
import Derived.WalkKit
import Derived.Test.YtdcggcfgkhlblaaRows
import Derived.OrdersHeld
import Derived.Deep.RegionHeld
import Derived.BigQuiet
import Derived.Deep.QuietTactic
import Derived.Lib.Hide
import Derived.Lib.Small
import Derived.Lib.Walk
import Derived.Lib.BitFns
import Derived.Maps.AppendAt
import Derived.RangeFuncNested
import Derived.RangeFuncBound
import Derived.RangeFuncCalls
import Derived.RangeFuncLeaves
import Derived.Shelf.Abstract
import Derived.OwnWalkIn
import Derived.TacticsInMore
import Derived.LoopNIn
import Derived.LoopIn
import Derived.RangeFuncBox
import Derived.Deep.RegionHeld3
import Derived.OrdersIn
import Derived.StillTailTactics
import Derived.RangeFuncFrom
import Derived.Laws.EntriesVeiled
import Derived.ProofKit
import Derived.OpenShut
import Derived.JoinedCond
import Derived.Carry
import Derived.Laws.AppendOwnNone
import Derived.Lib.ItoaNum
import Derived.Deep.RegionLaw
import Derived.WalkMore
import Derived.Lib.SmallJoins
import Derived.IntWalk
import Derived.Deep.DeepCutAuto
import Derived.Laws.OwnMore
import Derived.ArgAppend
import Derived.Deep.Slices
import Derived.Laws.CopyOwn
import Derived.Lib.SliceRun
import Derived.SizedLaws
import Derived.Great.BuildSlice
namespace Go.Proofs.Ytdcggcfgkhlblaa
set_option maxRecDepth 100000
section
open Go.RowKit
set_option linter.unusedVariables false
set_option linter.unusedSimpArgs false
theorem make_runS (n : Nat) (hc : n ≤ 17592186044416) (w : World) :
    (Instr.makeSlice 23 (.int .i64 (n : Int)) (.int .i64 (n : Int))).run Try.prog w = .ok (.slice (some ⟨w.heap.size, 0, none⟩) n n) (w.alloc (.cells (madeCells #[.int .i64 0] n) 3)) := by
  obtain ⟨i0, hi, hz0, hz1, hz2⟩ := info_parts infoS
  have h := run_make (P := Try.prog) w 23 3 i0 (.int .i64 0) Try.underlying23 hi hz0 .i64 .i64 n n (by omega) (by omega) (by rw [hz2]; omega) (by omega)
  simpa [hz1, Value.cells] using h
end
section
open Go.RowKit
set_option linter.unusedVariables false
set_option linter.unusedSimpArgs false
/-- the first k numbers are axes; the last one of them -/
def axU (l : List Int) (rank : Int) (k : Nat) : Prop := ∀ i, i < k → (0 ≤ l.getD i 0 ∧ l.getD i 0 < rank) ∧ (0 < i → l.getD (i - 1) 0 < l.getD i 0)
def lastS (l : List Int) : Nat → Int
  | 0 => -1
  | k + 1 => l.getD k 0
theorem axU.next {l : List Int} {rank : Int} {k : Nat} (h : axU l rank k) (h0 : lastS l k < l.getD k 0) (h1 : 0 ≤ l.getD k 0) (h2 : l.getD k 0 < rank) : axU l rank (k + 1) := by
  intro i hi
  by_cases e : i = k
  · subst e
    refine ⟨⟨h1, h2⟩, fun hp => ?_⟩
    obtain ⟨j, rfl⟩ : ∃ j, i = j + 1 := ⟨i - 1, by omega⟩
    exact h0
  · exact h i (by omega)
theorem axU.not {l : List Int} {rank : Int} {k : Nat} (hk : k < l.length) (h : axU l rank l.length) : (0 ≤ l.getD k 0 ∧ l.getD k 0 < rank) ∧ lastS l k < l.getD k 0 := by
  obtain ⟨h1, h2⟩ := h k hk
  refine ⟨h1, ?_⟩
  cases k with
  | zero => show (-1 : Int) < _; omega
  | succ j => exact h2 (by omega)
set_option maxRecDepth 100000 in
set_option maxHeartbeats 2000000 in
theorem axesS_any {u : Value} {l : List Int} {a : Option Addr} {ca : Nat} {w : World} (rank : Int) (A : ArgS w u l a ca) (ha : a = none → ca = 0) (hx : l.length ≤ 1000) (h0 : -9223372036854775808 ≤ rank) (h1 : rank ≤ 9223372036854775807) :
    Calls Try.prog 42 #[u, .int .i64 rank] w fun e w' => e = .returned (.int .i64 (axesC l rank)) ∧ Below w.heap.size w w' := by
  refine Calls.mono (R := fun e w' => e = .returned (.int .i64 (axesC l rank)) ∧ w = w') ?_ (fun _ _ ⟨h1, h2⟩ => ⟨h1, h2 ▸ Below.refl _ _⟩)
  have HA := Lib.hid A
  obtain rfl := A.is
  obtain ⟨c, hc⟩ : ∃ c, axesC l rank = c := ⟨_, rfl⟩
  obtain ⟨L, hL⟩ : ∃ L, l.length = L := ⟨_, rfl⟩
  rw [hL] at hx
  rw [hc, hL]
  have HC := Lib.hid hc
  have HL := Lib.hid hL
  clear A ha hc hL
  go_enter Try.func42, Try.ntmps42
  go_wp2
  go_loop [5, 7, 10] (fun p _ i => ∃ (k : Nat), i = .int .i64 (k : Int) ∧ p = .int .i64 (lastS l k) ∧ k ≤ L ∧ axU l rank k) (fun _ _ i => L - (intOf i).toNat)
  case atStart => exact ⟨0, rfl, rfl, Nat.zero_le _, fun i hi => by omega⟩
  case round =>
    obtain ⟨k, rfl, rfl, hk, hax⟩ := hrel
    have HX := Lib.hid hax
    obtain ⟨p, hp⟩ : ∃ p, lastS l k = p := ⟨_, rfl⟩
    have HP := Lib.hid hp
    rw [hp]
    clear hax hp
    by_cases hlt : k < L
    · obtain ⟨b1, o1, rfl, c1⟩ := HA.out.at (i := k) (by rw [HL.out]; exact hlt)
      obtain ⟨x, hxe⟩ : ∃ x, l.getD k 0 = x := ⟨_, rfl⟩
      rw [hxe] at c1
      have HXE := Lib.hid hxe
      have hbw := below_any x rank w
      have hltI : (k : Int) < (L : Int) := by omega
      clear hxe
      by_cases hg : 0 ≤ x ∧ x < rank ∧ p < x
      · obtain ⟨g0, g1, g2⟩ := hg
        rw [belowB_yes g0 g1] at hbw
        have g3 : ¬ x ≤ p := by omega
        have hn : axU l rank (k + 1) := HX.out.next (by rw [HXE.out, HP.out]; exact g2) (by rw [HXE.out]; exact g0) (by rw [HXE.out]; exact g1)
        have HN := Lib.hid hn
        clear hn
        go_wp2_with (go_at_call 66; refine hbw.mono ?_; rintro e w1 ⟨rfl, rfl⟩)
        go_round
        case rel => exact ⟨k + 1, by go_num, congrArg (Value.int .i64) HXE.out.symm, by omega, HN.out⟩
        case measure => simp [intOf]; omega
      · have hno : axesC l rank = 11 := by
          unfold axesC
          rw [if_neg]
          intro h
          unfold axesB at h
          have h2 := of_decide_eq_true h
          have := axU.not (k := k) (by rw [HL.out]; exact hlt) h2
          rw [HXE.out, HP.out] at this
          exact hg ⟨this.1.1, this.1.2, this.2⟩
        obtain rfl : c = 11 := by rw [← HC.out]; exact hno
        clear hno
        by_cases g3 : x ≤ p
        · clear hg
          go_wp2_with (go_at_call 66; refine hbw.mono ?_; rintro e w1 ⟨rfl, rfl⟩)
          go_ret
          exact ⟨rfl, rfl⟩
        · rw [belowB_no (by omega)] at hbw
          clear hg
          go_wp2_with (go_at_call 66; refine hbw.mono ?_; rintro e w1 ⟨rfl, rfl⟩)
          go_ret
          exact ⟨rfl, rfl⟩
    · obtain rfl : k = L := by omega
      have hyes : axesC l rank = 0 := by
        unfold axesC
        rw [if_pos]
        unfold axesB
        refine decide_eq_true ?_
        rw [HL.out]
        exact HX.out
      obtain rfl : c = 0 := by rw [← HC.out]; exact hyes
      have hltI : ¬ (k : Int) < (k : Int) := by omega
      clear hyes
      go_wp2
      go_ret
      exact ⟨rfl, rfl⟩
end
section
open Go.RowKit
set_option linter.unusedVariables false
set_option linter.unusedSimpArgs false
set_option maxRecDepth 100000 in
set_option maxHeartbeats 2000000 in
theorem cloneS_any {u : Value} {xs : List Int} {ad : Option Addr} {cap : Nat} {w : World} (A : ArgS w u xs ad cap) (hn : ad = none → cap = 0) (hx : xs.length ≤ 17592186044416) :
    Calls Try.prog 50 #[u] w fun e w' => ∃ r, e = .returned r ∧ ResS w.heap.size w' r xs ∧ Below w.heap.size w w' := by
  obtain ⟨i0, hi, hz0, hz1, hz2⟩ := info_parts infoS
  have q22 : ∀ (w : World) (a : Option Addr) (n c n' c' : Nat), (binOp .eql 28 (.slice a n c) (.slice none n' c')).run Try.prog w = .ok (.bool a.isNone) w := fun w a n c n' c' => Lib.run_eql_slice_nil w _ _ a n c n' c' Try.underlying28
  have HW := Lib.hid A.wf
  obtain ⟨rfl, lx, hle, wx⟩ := A
  clear wx
  cases ad with
  | none =>
    have hc := hn rfl
    subst hc
    obtain rfl : xs = [] := List.eq_nil_of_length_eq_zero (by omega)
    clear lx hle hn hx
    go_enter Try.func50, Try.ntmps50
    go_wp2
    go_ret
    exact ⟨_, rfl, ResS.nil _ _, Below.refl _ _⟩
  | some a =>
    have HC := Lib.hid (cells_argS (cap := cap) (lx.later ((Below.refl w.heap.size w).alloc (Nat.le_refl _) (.cells #[] 3))))
    clear lx hn
    go_enter Try.func50, Try.ntmps50
    go_wp2_with (at_builtin; refine wpList_append_own _ rfl _ _ 28 rfl w.heap.size 3 i0 (.int .i64 0) 1 8 Try.underlying28 hi hz0 hz1 hz2 rfl (by decide) _ _ _ rfl (World.ownsRow_made w #[] 0 (Nat.le_refl _) (Nat.zero_le _) rfl) a xs.length cap (xs.map (Value.int .i64)) rfl ?qc1 HC.out (ints_oneCell _ _) ?qc4 ?qc5 ?qc6 ?_)
    case qc1 => simp
    case qc4 => unfold maxLen; omega
    case qc5 => omega
    case qc6 => simp
    intro v' w1 hown hgrow hnil
    go_wp2
    go_ret
    refine ⟨v', rfl, ⟨?_, HW.out⟩, ?_⟩
    · unfold NumS; simpa using hown
    · exact ((Below.refl _ w).alloc (Nat.le_refl _) _).grown hgrow (by simp) (by intro k hk; simp [Value.ownBlock] at hk; omega)
/-- the first number that is not 0 -/
def orL : List Int → Int
  | [] => 0
  | x :: r => if x = 0 then orL r else x
theorem orL_nil {xs : List Int} (h : ∀ x ∈ xs, x = 0) : orL xs = 0 := by
  induction xs with
  | nil => rfl
  | cons x r ih =>
    unfold orL
    rw [if_pos (h x (by simp))]
    exact ih fun y hy => h y (by simp [hy])
theorem orL_at {xs : List Int} {k : Nat} {x : Int} (h : ∀ j, j < k → xs.getD j 0 = 0) (hk : xs[k]? = some x) (hx : x ≠ 0) : orL xs = x := by
  induction xs generalizing k with
  | nil => simp at hk
  | cons y r ih =>
    cases k with
    | zero =>
      simp at hk
      subst hk
      unfold orL
      rw [if_neg hx]
    | succ k =>
      have h0 := h 0 (by omega)
      simp at h0
      unfold orL
      rw [if_pos h0]
      exact ih (k := k) (fun j hj => by simpa using h (j + 1) (by omega)) (by simpa using hk)
set_option maxRecDepth 100000 in
set_option maxHeartbeats 2000000 in
theorem or_any {w : World} {xs : List Int} {b : Nat} {cap : Nat} (hc : ∀ k, k < xs.length → w.cell? ⟨b, k, none⟩ = some (.int .i64 (xs.getD k 0))) (hm : xs.length ≤ 1000000) :
    Calls Try.prog 22 #[.slice (some ⟨b, 0, none⟩) xs.length cap] w fun e w' => e = .returned (.int .i64 (orL xs)) ∧ w = w' := by
  obtain ⟨d, hd⟩ : ∃ d, orL xs = d := ⟨_, rfl⟩
  have HD := Lib.hid hd
  have HC := Lib.hid hc
  obtain ⟨m, hm2⟩ : ∃ m, xs.length = m := ⟨_, rfl⟩
  have HM := Lib.hid hm2
  rw [hd]
  rw [hm2] at hm ⊢
  clear hd hc hm2
  go_enter Try.func22, Try.ntmps22
  go_wp2_with fail
  go_loopw [5, 8] (fun _ i wr => ∃ k : Nat, i = .int .i64 k ∧ k ≤ m ∧ (∀ j, j < k → xs.getD j 0 = 0) ∧ w = wr) (fun _ i _ => m - (intOf i).toNat)
  case atStart => exact ⟨0, rfl, Nat.zero_le _, (fun j hj => by omega), by trivial⟩
  case round =>
    obtain ⟨k, rfl, hk, hall, rfl⟩ := hrel
    have HA := Lib.hid hall
    clear hall
    by_cases hlt : k < m
    · have c1 := HC.out k (by rw [HM.out]; exact hlt)
      obtain ⟨x, hx⟩ : ∃ x, xs.getD k 0 = x := ⟨_, rfl⟩
      rw [hx] at c1
      have HX := Lib.hid hx
      have hk0 : (0 : Int) ≤ (k : Int) := Int.natCast_nonneg _
      have hk1 : (k : Int) < (m : Int) := by omega
      clear hx
      by_cases e : x = 0
      · have hne : (x != 0) = false := by simp [e]
        go_wp2
        go_roundw
        case rel =>
          refine ⟨k + 1, by go_num, by omega, fun j hj => ?_, by trivial⟩
          by_cases h : j = k
          · rw [h, HX.out, e]
          · exact HA.out j (by omega)
        case measure => simp [intOf]; omega
      · have hne : (x != 0) = true := by simp [e]
        have hd : d = x := by
          rw [← HD.out]
          refine orL_at HA.out ?_ e
          have : k < xs.length := by rw [HM.out]; exact hlt
          rw [List.getElem?_eq_getElem this, ← HX.out]
          simp [this]
        subst hd
        go_wp2
        go_ret
        exact ⟨rfl, rfl⟩
    · obtain rfl : k = m := by omega
      have hk1 : ¬ (k : Int) < (k : Int) := by omega
      have hd : d = 0 := by
        rw [← HD.out]
        refine orL_nil fun x hx => ?_
        obtain ⟨j, hj, rfl⟩ := List.mem_iff_getElem.1 hx
        have h := HA.out j (by rw [← HM.out]; exact hj)
        simpa [hj] using h
      subst hd
      go_wp2
      go_ret
      exact ⟨rfl, rfl⟩
end
section
open Go.RowKit Go.Shelf
attribute [local go_sem] Oper.semAt_some
set_option linter.unusedVariables false
set_option linter.unusedSimpArgs false
/-- what a round over pairs is handed -/
def pairI (sx xs : List Int) {n : Nat} (x : Fin n) : Array Value := #[.int .i64 (sx.getD x.val 0), .agg #[.int .i64 (fstP xs x.val), .int .i64 (sndP xs x.val)]]
theorem pairsI_any (o : Int) (a2 al : Option Addr) (n c2 k cl : Nat) (w : World) :
    Calls Try.prog 67 #[.agg #[.int .i64 o, .slice a2 n c2, .slice al k cl]] w fun e w' => e = .returned (.func (.func 75) #[] #[.pointer (some ⟨w.heap.size, 0, none⟩)]) ∧ w' = w.alloc (.cells #[.int .i64 o, .slice a2 n c2, .slice al k cl] 52) := by
  go_enter Try.func67, Try.ntmps67
  go_wp2
  go_ret
  exact ⟨rfl, rfl⟩
set_option maxRecDepth 100000 in
set_option maxHeartbeats 8000000 in
theorem pairsI_in (n l Bs n₀ m k : Nat) {a2 ax : Option Addr} {xs sx : List Int} {c2 cl cx b o0 : Nat} (hx : xs.length ≤ 1000) (hs : sx.length ≤ 1000) (hk : 0 < k) (hm1 : m ≤ sx.length) (hm2 : 2 * m ≤ xs.length) (hm3 : m < sx.length → xs.length ≤ 2 * m + 1)
    (hba : xs ≠ [] → ∀ a, a2 = some a → a.block < n₀) (hbx : sx ≠ [] → ∀ a, ax = some a → a.block < n₀) (J Jx : List (Fin m) → World → Prop)
    (hJ : ∀ pre A, J pre A → J pre A.drew)
    (hY : ∀ pre x W, J pre W → pre.length < m → YieldAt Fence.wide (n - 1) Try.prog l (pairI sx xs x) W fun e W' =>
      (e = .returned (.bool true) ∧ J (pre ++ [x]) W' ∧ KpS n₀ Bs W W') ∨ (e = .returned (.bool false) ∧ Jx (pre ++ [x]) W'))
    (W : World) (hB1 : W.cell? ⟨Bs, 1, none⟩ = some (.slice a2 xs.length c2)) (hB2 : W.cell? ⟨Bs, 2, none⟩ = some (.slice (some ⟨b, o0, none⟩) k cl)) (hcx : W.cell? ⟨b, o0, none⟩ = some (.slice ax sx.length cx))
    (hla : LimS W a2 xs) (hlx : LimS W ax sx) (h0 : J [] W) :
    CallsIn Fence.wide n Try.prog 75 #[.func (.yield l) #[] #[], .pointer (some ⟨Bs, 0, none⟩)] W fun e W' => (∃ v, e = .returned v) ∧
      ((∃ ys, Upto ys m ∧ J ys W') ∨ (∃ pre, (∃ k, k ≤ m ∧ Upto pre k) ∧ Jx pre W')) := by
  obtain ⟨S, hS⟩ : ∃ S, sx.length = S := ⟨_, rfl⟩
  have HS := Lib.hid hS
  have HX := Lib.hid (show ∀ i, sx.getD i 0 = sx[i]?.getD 0 from fun i => rfl)
  rw [hS] at hs hm1 hm3 hcx
  have hkI : (0 : Int) < (k : Int) := by omega
  clear hS
  refine callsIn_of_wp Try.func75 rfl trivial ?_ rfl
  simp only [Try.ntmps75, List.size_toArray, List.length_cons, List.length_nil, Nat.reduceAdd, Nat.reduceSub, Array.replicate_succ, Array.replicate_zero, List.push_toArray, List.append_toArray, List.nil_append, List.cons_append]
  gi_wp2_with fail
  gi_loopw [3, 4, 10] (fun _ _ i wr => ∃ (j : Nat) (pre : List (Fin m)), j ≤ m ∧ i = .int .i64 j ∧ Upto pre j ∧ J pre wr ∧ KpS n₀ Bs W wr)
    (fun _ _ i _ => S - (intOf i).toNat)
  case atStart => exact ⟨0, [], Nat.zero_le _, rfl, rfl, h0, KpS.refl _ _ _⟩
  case round =>
    obtain ⟨j, pre, hj, rfl, hup, hJs, hnx⟩ := hrel
    have hBr := (World.cell?_of_block (a := ⟨Bs, 1, none⟩) hnx.box).trans hB1
    by_cases hlt : j < S
    · rcases hlx with rfl | ⟨bx, ox, rfl, hcs⟩
      · have := HS.out; simp at this; omega
      · have hbn := hbx (by rintro rfl; have := HS.out; simp at this; omega) ⟨bx, ox, none⟩ rfl
        obtain ⟨d, hd⟩ : ∃ d, sx.getD j 0 = d := ⟨_, rfl⟩
        have cd := (hnx.below.cell (p := ⟨bx, ox + j, none⟩) hbn).trans (hcs j (by rw [HS.out]; exact hlt))
        rw [hd] at cd
        have hltI : (j : Int) < (S : Int) := by omega
        have hj0 : (0 : Int) ≤ (j : Int) := by omega
        have v1 : IntKind.i64.wrap (2 * (j : Int)) = 2 * (j : Int) := IntWalk.i64_in _ (by omega)
        have v2 : IntKind.i64.wrap (2 * (j : Int) + 1) = 2 * (j : Int) + 1 := IntWalk.i64_in _ (by omega)
        by_cases hjm : j < m
        · rcases hla with rfl | ⟨ba, oa, rfl, hca⟩
          · simp at hm2; omega
          · have hbn2 := hba (by rintro rfl; simp at hm2; omega) ⟨ba, oa, none⟩ rfl
            have hY2 := hY pre ⟨j, hjm⟩ wr.drew (hJ _ _ hJs) (by rw [hup.length]; exact hjm)
            obtain ⟨fn, tmps, assign, body, hy, hR⟩ := hY2
            simp only [pairI] at hy
            have c0 := (hnx.below.cell (p := ⟨ba, oa + 2 * j, none⟩) hbn2).trans (hca (2 * j) (by omega))
            have c1 := (hnx.below.cell (p := ⟨ba, oa + (2 * j + 1), none⟩) hbn2).trans (hca (2 * j + 1) (by omega))
            obtain ⟨x0, hx0⟩ : ∃ x, fstP xs j = x := ⟨_, rfl⟩
            obtain ⟨x1, hx1⟩ : ∃ x, sndP xs j = x := ⟨_, rfl⟩
            rw [show xs.getD (2 * j) 0 = x0 from hx0] at c0
            rw [show xs.getD (2 * j + 1) 0 = x1 from hx1] at c1
            rw [hx0, hx1, hd] at hy
            have hnx2 : KpS n₀ Bs W wr.drew := ⟨hnx.below.drew, hnx.box⟩
            have HJ := Lib.hid hJ
            have HY := Lib.hid hY
            have i0 : (0 : Int) ≤ 2 * (j : Int) := by omega
            have i1 : 2 * (j : Int) < (xs.length : Int) := by omega
            have i2 : (0 : Int) ≤ 2 * (j : Int) + 1 := by omega
            have i3 : 2 * (j : Int) + 1 < (xs.length : Int) := by omega
            have i4 : ¬ (xs.length : Int) ≤ 2 * (j : Int) + 1 := by omega
            have n1 : (2 * (j : Int)).toNat = 2 * j := by omega
            have n2 : (2 * (j : Int) + 1).toNat = 2 * j + 1 := by omega
            clear hJ hY hca hcs hx0 hx1 hba hbx hd
            gi_wp2_with fail
            refine wpIn_region_L (fun X => X.cell? ⟨Bs, 1, none⟩ = some (.slice (some ⟨ba, oa, none⟩) xs.length c2) ∧ X.cell? ⟨ba, oa + 2 * j, none⟩ = some (.int .i64 x0) ∧ X.cell? ⟨ba, oa + (2 * j + 1), none⟩ = some (.int .i64 x1)) [24, 25, 26] (by kernel_rfl)
              ⟨hBr, c0, c1⟩ (fun hHeld => ?_)
            refine wpAnyInL_take (i := 0) (v := ?va0) [1, 2, 6, 7, 8, 9, 10, 11, 12, 13, 14, 15, 16, 17, 18, 19, 20, 21, 22, 23, 24, 25, 26] rfl rfl (by kernel_rfl) (by kernel_rfl) (by kernel_rfl) (by kernel_rfl) (by kernel_rfl) (by kernel_rfl) (fun _ _ _ h => h) (Or.inl ⟨by rfl, ?ha0⟩) (fun _ => rfl) (by assumption) ?ra0
            case ha0 =>
              intro w hSw
              try dsimp only at hSw
              go_simp
              try with_reducible rfl
            try simp only [Act.put, List.getElem_toArray, List.getElem_cons_succ, List.getElem_cons_zero, List.setIfInBounds_toArray, List.set_cons_zero, List.set_cons_succ]
            refine wpAnyInL_take (i := 1) (v := ?va1) [2, 6, 7, 8, 9, 10, 11, 12, 13, 14, 15, 16, 17, 18, 19, 20, 21, 22, 23, 24, 25, 26] rfl rfl (by kernel_rfl) (by kernel_rfl) (by kernel_rfl) (by kernel_rfl) (by kernel_rfl) (by kernel_rfl) (fun _ _ _ h => h) (Or.inl ⟨by rfl, ?ha1⟩) (fun _ => rfl) (by assumption) ?ra1
            case ha1 =>
              intro w hSw
              try dsimp only at hSw
              go_simp
              try with_reducible rfl
            try simp only [Act.put, List.getElem_toArray, List.getElem_cons_succ, List.getElem_cons_zero, List.setIfInBounds_toArray, List.set_cons_zero, List.set_cons_succ]
            refine wpAnyInL_take (i := 2) (v := ?va2) [6, 7, 8, 9, 10, 11, 12, 13, 14, 15, 16, 17, 18, 19, 20, 21, 22, 23, 24, 25, 26] rfl rfl (by kernel_rfl) (by kernel_rfl) (by kernel_rfl) (by kernel_rfl) (by kernel_rfl) (by kernel_rfl) (fun _ _ _ h => h) (Or.inl ⟨by rfl, ?ha2⟩) (fun _ => rfl) (by assumption) ?ra2
            case ha2 =>
              intro w hSw
              try dsimp only at hSw
              go_simp
              try with_reducible rfl
            try simp only [Act.put, List.getElem_toArray, List.getElem_cons_succ, List.getElem_cons_zero, List.setIfInBounds_toArray, List.set_cons_zero, List.set_cons_succ]
            refine wpAnyInL_take (i := 3) (v := ?va3) [4, 5, 6, 7, 8, 9, 10, 11, 12, 13, 14, 15, 16, 17, 18, 19, 20, 21, 22, 23, 24, 25, 26] rfl rfl (by kernel_rfl) (by kernel_rfl) (by kernel_rfl) (by kernel_rfl) (by kernel_rfl) (by kernel_rfl) (fun _ _ _ h => h) (Or.inl ⟨by rfl, ?ha3⟩) (fun _ => rfl) (by assumption) ?ra3
            case ha3 =>
              intro w hSw
              try dsimp only at hSw
              go_simp
              try with_reducible rfl
            try simp only [Act.put, List.getElem_toArray, List.getElem_cons_succ, List.getElem_cons_zero, List.setIfInBounds_toArray, List.set_cons_zero, List.set_cons_succ]
            refine wpAnyInL_take (i := 4) (v := ?va4) [5, 6, 7, 8, 9, 10, 11, 12, 13, 14, 15, 16, 17, 18, 19, 20, 21, 22, 23, 24, 25, 26] rfl rfl (by kernel_rfl) (by kernel_rfl) (by kernel_rfl) (by kernel_rfl) (by kernel_rfl) (by kernel_rfl) (fun _ _ _ h => h) (Or.inl ⟨by rfl, ?ha4⟩) (fun _ => rfl) (by assumption) ?ra4
            case ha4 =>
              intro w hSw
              try dsimp only at hSw
              go_simp
              try with_reducible rfl
            try simp only [Act.put, List.getElem_toArray, List.getElem_cons_succ, List.getElem_cons_zero, List.setIfInBounds_toArray, List.set_cons_zero, List.set_cons_succ]
            refine wpAnyInL_take (i := 5) (v := ?va5) [6, 7, 8, 9, 10, 11, 12, 13, 14, 15, 16, 17, 18, 19, 20, 21, 22, 23, 24, 25, 26] rfl rfl (by kernel_rfl) (by kernel_rfl) (by kernel_rfl) (by kernel_rfl) (by kernel_rfl) (by kernel_rfl) (fun _ _ _ h => h) (Or.inl ⟨by rfl, ?ha5⟩) (fun _ => rfl) (by assumption) ?ra5
            case ha5 =>
              intro w hSw
              try dsimp only at hSw
              go_simp
              try with_reducible rfl
            try simp only [Act.put, List.getElem_toArray, List.getElem_cons_succ, List.getElem_cons_zero, List.setIfInBounds_toArray, List.set_cons_zero, List.set_cons_succ]
            refine wpAnyInL_take (i := 6) (v := ?va6) [7, 8, 9, 10, 11, 12, 13, 14, 15, 16, 17, 18, 19, 20, 21, 22, 23, 24, 25, 26] rfl rfl (by kernel_rfl) (by kernel_rfl) (by kernel_rfl) (by kernel_rfl) (by kernel_rfl) (by kernel_rfl) (fun _ _ _ h => h) (Or.inl ⟨by rfl, ?ha6⟩) (fun _ => rfl) (by assumption) ?ra6
            case ha6 =>
              intro w hSw
              try dsimp only at hSw
              go_simp
              try with_reducible rfl
            try simp only [Act.put, List.getElem_toArray, List.getElem_cons_succ, List.getElem_cons_zero, List.setIfInBounds_toArray, List.set_cons_zero, List.set_cons_succ]
            rw [decide_eq_false (show ¬ (xs.length : Int) ≤ 2 * (j : Int) + 1 by omega)]
            refine wpAnyInL_take (i := 7) (v := ?va7) [8, 9, 10, 11, 12, 13, 14, 15, 16, 17, 18, 19, 20, 21, 22, 23, 24, 25, 26] rfl rfl (by kernel_rfl) (by kernel_rfl) (by kernel_rfl) (by kernel_rfl) (by kernel_rfl) (by kernel_rfl) (fun _ _ _ h => h) (Or.inl ⟨by rfl, ?ha7⟩) (fun _ => rfl) (by assumption) ?ra7
            case ha7 =>
              intro w hSw
              try dsimp only at hSw
              go_simp
              try with_reducible rfl
            try simp only [Act.put, List.getElem_toArray, List.getElem_cons_succ, List.getElem_cons_zero, List.setIfInBounds_toArray, List.set_cons_zero, List.set_cons_succ]
            refine wpAnyInL_take (i := 8) (v := ?va8) [24, 25, 26] rfl rfl (by kernel_rfl) (by kernel_rfl) (by kernel_rfl) (by kernel_rfl) (by kernel_rfl) (by kernel_rfl) (fun _ _ _ h => h) (Or.inl ⟨by rfl, ?ha8⟩) (fun _ => rfl) (by assumption) ?ra8
            case ha8 =>
              intro w hSw
              try dsimp only at hSw
              go_simp
              try with_reducible rfl
            try simp only [Act.put, List.getElem_toArray, List.getElem_cons_succ, List.getElem_cons_zero, List.setIfInBounds_toArray, List.set_cons_zero, List.set_cons_succ]
            refine wpAnyInL_take (i := 9) (v := ?va9) [24, 25, 26] rfl rfl (by kernel_rfl) (by kernel_rfl) (by kernel_rfl) (by kernel_rfl) (by kernel_rfl) (by kernel_rfl) (fun _ _ _ h => h) (Or.inl ⟨by rfl, ?ha9⟩) (fun _ => rfl) (by assumption) ?ra9
            case ha9 =>
              intro w hSw
              try dsimp only at hSw
              go_simp
              try with_reducible rfl
            try simp only [Act.put, List.getElem_toArray, List.getElem_cons_succ, List.getElem_cons_zero, List.setIfInBounds_toArray, List.set_cons_zero, List.set_cons_succ]
            refine wpAnyInL_take (i := 10) (v := ?va10) [11, 14, 15, 23, 24, 25, 26] rfl rfl (by kernel_rfl) (by kernel_rfl) (by kernel_rfl) (by kernel_rfl) (by kernel_rfl) (by kernel_rfl) (fun _ _ _ h => h) (Or.inl ⟨by rfl, ?ha10⟩) (fun _ => rfl) (by assumption) ?ra10
            case ha10 =>
              intro w hSw
              try dsimp only at hSw
              go_simp
              try with_reducible rfl
            try simp only [Act.put, List.getElem_toArray, List.getElem_cons_succ, List.getElem_cons_zero, List.setIfInBounds_toArray, List.set_cons_zero, List.set_cons_succ]
            refine wpAnyInL_take (i := 11) (v := ?va11) [14, 15, 23, 24, 25, 26] rfl rfl (by kernel_rfl) (by kernel_rfl) (by kernel_rfl) (by kernel_rfl) (by kernel_rfl) (by kernel_rfl) (fun _ _ _ h => h) (Or.inl ⟨by rfl, ?ha11⟩) (fun _ => rfl) (by assumption) ?ra11
            case ha11 =>
              intro w hSw
              try dsimp only at hSw
              go_simp
              try with_reducible rfl
            try simp only [Act.put, List.getElem_toArray, List.getElem_cons_succ, List.getElem_cons_zero, List.setIfInBounds_toArray, List.set_cons_zero, List.set_cons_succ]
            refine wpAnyInL_take (i := 12) (v := ?va12) [13, 14, 15, 23, 24, 25, 26] rfl rfl (by kernel_rfl) (by kernel_rfl) (by kernel_rfl) (by kernel_rfl) (by kernel_rfl) (by kernel_rfl) (fun _ _ _ h => h) (Or.inl ⟨by rfl, ?ha12⟩) (fun _ => rfl) (by assumption) ?ra12
            case ha12 =>
              intro w hSw
              try dsimp only at hSw
              go_simp
              try with_reducible rfl
            try simp only [Act.put, List.getElem_toArray, List.getElem_cons_succ, List.getElem_cons_zero, List.setIfInBounds_toArray, List.set_cons_zero, List.set_cons_succ]
            refine wpAnyInL_take (i := 13) (v := ?va13) [14, 15, 23, 24, 25, 26] rfl rfl (by kernel_rfl) (by kernel_rfl) (by kernel_rfl) (by kernel_rfl) (by kernel_rfl) (by kernel_rfl) (fun _ _ _ h => h) (Or.inl ⟨by rfl, ?ha13⟩) (fun _ => rfl) (by assumption) ?ra13
            case ha13 =>
              intro w hSw
              try dsimp only at hSw
              go_simp
              try with_reducible rfl
            try simp only [Act.put, List.getElem_toArray, List.getElem_cons_succ, List.getElem_cons_zero, List.setIfInBounds_toArray, List.set_cons_zero, List.set_cons_succ]
            refine wpAnyInL_take (i := 14) (v := ?va14) [15, 23, 24, 25, 26] rfl rfl (by kernel_rfl) (by kernel_rfl) (by kernel_rfl) (by kernel_rfl) (by kernel_rfl) (by kernel_rfl) (fun _ _ _ h => h) (Or.inl ⟨by rfl, ?ha14⟩) (fun _ => rfl) (by assumption) ?ra14
            case ha14 =>
              intro w hSw
              try dsimp only at hSw
              go_simp
              try with_reducible rfl
            try simp only [Act.put, List.getElem_toArray, List.getElem_cons_succ, List.getElem_cons_zero, List.setIfInBounds_toArray, List.set_cons_zero, List.set_cons_succ]
            refine wpAnyInL_take (i := 15) (v := ?va15) [23, 24, 25, 26] rfl rfl (by kernel_rfl) (by kernel_rfl) (by kernel_rfl) (by kernel_rfl) (by kernel_rfl) (by kernel_rfl) (fun _ _ _ h => h) (Or.inl ⟨by rfl, ?ha15⟩) (fun _ => rfl) (by assumption) ?ra15
            case ha15 =>
              intro w hSw
              try dsimp only at hSw
              go_simp
              try with_reducible rfl
            try simp only [Act.put, List.getElem_toArray, List.getElem_cons_succ, List.getElem_cons_zero, List.setIfInBounds_toArray, List.set_cons_zero, List.set_cons_succ]
            refine wpAnyInL_take (i := 16) (v := ?va16) [17, 21, 22, 23, 24, 25, 26] rfl rfl (by kernel_rfl) (by kernel_rfl) (by kernel_rfl) (by kernel_rfl) (by kernel_rfl) (by kernel_rfl) (fun _ _ _ h => h) (Or.inl ⟨by rfl, ?ha16⟩) (fun _ => rfl) (by assumption) ?ra16
            case ha16 =>
              intro w hSw
              try dsimp only at hSw
              go_simp
              try with_reducible rfl
            try simp only [Act.put, List.getElem_toArray, List.getElem_cons_succ, List.getElem_cons_zero, List.setIfInBounds_toArray, List.set_cons_zero, List.set_cons_succ]
            refine wpAnyInL_take (i := 17) (v := ?va17) [21, 22, 23, 24, 25, 26] rfl rfl (by kernel_rfl) (by kernel_rfl) (by kernel_rfl) (by kernel_rfl) (by kernel_rfl) (by kernel_rfl) (fun _ _ _ h => h) (Or.inl ⟨by rfl, ?ha17⟩) (fun _ => rfl) (by assumption) ?ra17
            case ha17 =>
              intro w hSw
              try dsimp only at hSw
              go_simp
              try with_reducible rfl
            try simp only [Act.put, List.getElem_toArray, List.getElem_cons_succ, List.getElem_cons_zero, List.setIfInBounds_toArray, List.set_cons_zero, List.set_cons_succ]
            refine wpAnyInL_take (i := 18) (v := ?va18) [19, 20, 21, 22, 23, 24, 25, 26] rfl rfl (by kernel_rfl) (by kernel_rfl) (by kernel_rfl) (by kernel_rfl) (by kernel_rfl) (by kernel_rfl) (fun _ _ _ h => h) (Or.inl ⟨by rfl, ?ha18⟩) (fun _ => rfl) (by assumption) ?ra18
            case ha18 =>
              intro w hSw
              try dsimp only at hSw
              go_simp
              try with_reducible rfl
            try simp only [Act.put, List.getElem_toArray, List.getElem_cons_succ, List.getElem_cons_zero, List.setIfInBounds_toArray, List.set_cons_zero, List.set_cons_succ]
            refine wpAnyInL_take (i := 19) (v := ?va19) [20, 21, 22, 23, 24, 25, 26] rfl rfl (by kernel_rfl) (by kernel_rfl) (by kernel_rfl) (by kernel_rfl) (by kernel_rfl) (by kernel_rfl) (fun _ _ _ h => h) (Or.inl ⟨by rfl, ?ha19⟩) (fun _ => rfl) (by assumption) ?ra19
            case ha19 =>
              intro w hSw
              try dsimp only at hSw
              go_simp
              try with_reducible rfl
            try simp only [Act.put, List.getElem_toArray, List.getElem_cons_succ, List.getElem_cons_zero, List.setIfInBounds_toArray, List.set_cons_zero, List.set_cons_succ]
            refine wpAnyInL_take (i := 20) (v := ?va20) [21, 22, 23, 24, 25, 26] rfl rfl (by kernel_rfl) (by kernel_rfl) (by kernel_rfl) (by kernel_rfl) (by kernel_rfl) (by kernel_rfl) (fun _ _ _ h => h) (Or.inl ⟨by rfl, ?ha20⟩) (fun _ => rfl) (by assumption) ?ra20
            case ha20 =>
              intro w hSw
              try dsimp only at hSw
              go_simp
              try with_reducible rfl
            try simp only [Act.put, List.getElem_toArray, List.getElem_cons_succ, List.getElem_cons_zero, List.setIfInBounds_toArray, List.set_cons_zero, List.set_cons_succ]
            refine wpAnyInL_take (i := 21) (v := ?va21) [22, 23, 24, 25, 26] rfl rfl (by kernel_rfl) (by kernel_rfl) (by kernel_rfl) (by kernel_rfl) (by kernel_rfl) (by kernel_rfl) (fun _ _ _ h => h) (Or.inl ⟨by rfl, ?ha21⟩) (fun _ => rfl) (by assumption) ?ra21
            case ha21 =>
              intro w hSw
              try dsimp only at hSw
              go_simp
              try with_reducible rfl
            try simp only [Act.put, List.getElem_toArray, List.getElem_cons_succ, List.getElem_cons_zero, List.setIfInBounds_toArray, List.set_cons_zero, List.set_cons_succ]
            refine wpAnyInL_take (i := 22) (v := ?va22) [23, 24, 25, 26] rfl rfl (by kernel_rfl) (by kernel_rfl) (by kernel_rfl) (by kernel_rfl) (by kernel_rfl) (by kernel_rfl) (fun _ _ _ h => h) (Or.inl ⟨by rfl, ?ha22⟩) (fun _ => rfl) (by assumption) ?ra22
            case ha22 =>
              intro w hSw
              try dsimp only at hSw
              go_simp
              try with_reducible rfl
            try simp only [Act.put, List.getElem_toArray, List.getElem_cons_succ, List.getElem_cons_zero, List.setIfInBounds_toArray, List.set_cons_zero, List.set_cons_succ]
            refine wpAnyInL_take (i := 23) (v := ?va23) [24, 25, 26] rfl rfl (by kernel_rfl) (by kernel_rfl) (by kernel_rfl) (by kernel_rfl) (by kernel_rfl) (by kernel_rfl) (fun _ _ _ h => h) (Or.inl ⟨by rfl, ?ha23⟩) (fun _ => rfl) (by assumption) ?ra23
            case ha23 =>
              intro w hSw
              try dsimp only at hSw
              go_simp
              try with_reducible rfl
            try simp only [Act.put, List.getElem_toArray, List.getElem_cons_succ, List.getElem_cons_zero, List.setIfInBounds_toArray, List.set_cons_zero, List.set_cons_succ]
            refine wpAnyInL_one (i := 24) (by kernel_rfl) rfl (fun K hK => ?sb6)
            go_simp
            refine ⟨(fun h => by cases h), hR.mono ?_⟩
            rintro e W3 (⟨rfl, hJ3, hk3⟩ | ⟨rfl, hJx3⟩)
            · refine hK.out _ _ (fun h => absurd (by decide) h) (fun _ => ?mx6)
              clear hK K
              try simp only [Act.put, List.getElem_toArray, List.getElem_cons_succ, List.getElem_cons_zero, List.setIfInBounds_toArray, List.set_cons_zero, List.set_cons_succ]
              refine wpAnyInL_one (i := 25) (by kernel_rfl) rfl (fun K hK => ?sx7)
              go_simp
              refine hK.out _ _ (fun h => absurd (by decide) h) (fun _ => ?mx7)
              clear hK K
              try simp only [Act.put, List.getElem_toArray, List.getElem_cons_succ, List.getElem_cons_zero, List.setIfInBounds_toArray, List.set_cons_zero, List.set_cons_succ]
              refine wpAnyInL_one (i := 26) (by kernel_rfl) rfl (fun K hK => ?sx8)
              go_simp
              refine hK.out _ _ (fun h => absurd (by decide) h) (fun _ => ?mx8)
              clear hK K
              try simp only [Act.put, List.getElem_toArray, List.getElem_cons_succ, List.getElem_cons_zero, List.setIfInBounds_toArray, List.set_cons_zero, List.set_cons_succ]
              refine wpAnyInL_done (by kernel_rfl) ?_ _
              gi_wp2
              go_roundw
              case rel => exact ⟨j + 1, _, by omega, by go_num, hup.snoc hjm, hJ3, hnx2.trans hk3⟩
              case measure => simp [intOf]; omega
            · refine hK.out _ _ (fun h => absurd (by decide) h) (fun _ => ?my6)
              clear hK K
              try simp only [Act.put, List.getElem_toArray, List.getElem_cons_succ, List.getElem_cons_zero, List.setIfInBounds_toArray, List.set_cons_zero, List.set_cons_succ]
              refine wpAnyInL_one (i := 25) (by kernel_rfl) rfl (fun K hK => ?sy7)
              go_simp
              refine hK.out _ _ (fun h => absurd (by decide) h) (fun _ => ?my7)
              clear hK K
              try simp only [Act.put, List.getElem_toArray, List.getElem_cons_succ, List.getElem_cons_zero, List.setIfInBounds_toArray, List.set_cons_zero, List.set_cons_succ]
              refine wpAnyInL_one (i := 26) (by kernel_rfl) rfl (fun K hK => ?sy8)
              go_simp
              refine hK.out _ _ (fun h => absurd (by decide) h) (fun _ => ?my8)
              clear hK K
              try simp only [Act.put, List.getElem_toArray, List.getElem_cons_succ, List.getElem_cons_zero, List.setIfInBounds_toArray, List.set_cons_zero, List.set_cons_succ]
              refine wpAnyInL_done (by kernel_rfl) ?_ _
              gi_wp2
              refine bodyPost_ret (results_none rfl _ _ _) rfl ?_
              exact ⟨⟨_, rfl⟩, .inr ⟨_, ⟨j + 1, by omega, hup.snoc hjm⟩, hJx3⟩⟩
        · obtain rfl : j = m := by omega
          have hxm := hm3 hlt
          have i4 : (xs.length : Int) ≤ 2 * (j : Int) + 1 := by omega
          have HJ := Lib.hid (hJ _ _ hJs)
          clear hJ hY hcs hba hbx hd
          gi_wp2_with fail
          refine wpIn_region_L (fun X => X.cell? ⟨Bs, 1, none⟩ = some (.slice a2 xs.length c2)) [] (by kernel_rfl) hBr (fun hHeld => ?_)
          refine wpAnyInL_take (i := 0) (v := ?vb0) [1, 2, 6, 7, 8, 9, 10, 11, 12, 13, 14, 15, 16, 17, 18, 19, 20, 21, 22, 23, 24, 25, 26] rfl rfl (by kernel_rfl) (by kernel_rfl) (by kernel_rfl) (by kernel_rfl) (by kernel_rfl) (by kernel_rfl) (fun _ _ _ h => h) (Or.inl ⟨by rfl, ?hb0⟩) (fun _ => rfl) (by assumption) ?rb0
          case hb0 =>
            intro w hSw
            try dsimp only at hSw
            go_simp
            try with_reducible rfl
          try simp only [Act.put, List.getElem_toArray, List.getElem_cons_succ, List.getElem_cons_zero, List.setIfInBounds_toArray, List.set_cons_zero, List.set_cons_succ]
          refine wpAnyInL_take (i := 1) (v := ?vb1) [2, 6, 7, 8, 9, 10, 11, 12, 13, 14, 15, 16, 17, 18, 19, 20, 21, 22, 23, 24, 25, 26] rfl rfl (by kernel_rfl) (by kernel_rfl) (by kernel_rfl) (by kernel_rfl) (by kernel_rfl) (by kernel_rfl) (fun _ _ _ h => h) (Or.inl ⟨by rfl, ?hb1⟩) (fun _ => rfl) (by assumption) ?rb1
          case hb1 =>
            intro w hSw
            try dsimp only at hSw
            go_simp
            try with_reducible rfl
          try simp only [Act.put, List.getElem_toArray, List.getElem_cons_succ, List.getElem_cons_zero, List.setIfInBounds_toArray, List.set_cons_zero, List.set_cons_succ]
          refine wpAnyInL_take (i := 2) (v := ?vb2) [6, 7, 8, 9, 10, 11, 12, 13, 14, 15, 16, 17, 18, 19, 20, 21, 22, 23, 24, 25, 26] rfl rfl (by kernel_rfl) (by kernel_rfl) (by kernel_rfl) (by kernel_rfl) (by kernel_rfl) (by kernel_rfl) (fun _ _ _ h => h) (Or.inl ⟨by rfl, ?hb2⟩) (fun _ => rfl) (by assumption) ?rb2
          case hb2 =>
            intro w hSw
            try dsimp only at hSw
            go_simp
            try with_reducible rfl
          try simp only [Act.put, List.getElem_toArray, List.getElem_cons_succ, List.getElem_cons_zero, List.setIfInBounds_toArray, List.set_cons_zero, List.set_cons_succ]
          refine wpAnyInL_take (i := 3) (v := ?vb3) [4, 5, 6, 7, 8, 9, 10, 11, 12, 13, 14, 15, 16, 17, 18, 19, 20, 21, 22, 23, 24, 25, 26] rfl rfl (by kernel_rfl) (by kernel_rfl) (by kernel_rfl) (by kernel_rfl) (by kernel_rfl) (by kernel_rfl) (fun _ _ _ h => h) (Or.inl ⟨by rfl, ?hb3⟩) (fun _ => rfl) (by assumption) ?rb3
          case hb3 =>
            intro w hSw
            try dsimp only at hSw
            go_simp
            try with_reducible rfl
          try simp only [Act.put, List.getElem_toArray, List.getElem_cons_succ, List.getElem_cons_zero, List.setIfInBounds_toArray, List.set_cons_zero, List.set_cons_succ]
          refine wpAnyInL_take (i := 4) (v := ?vb4) [5, 6, 7, 8, 9, 10, 11, 12, 13, 14, 15, 16, 17, 18, 19, 20, 21, 22, 23, 24, 25, 26] rfl rfl (by kernel_rfl) (by kernel_rfl) (by kernel_rfl) (by kernel_rfl) (by kernel_rfl) (by kernel_rfl) (fun _ _ _ h => h) (Or.inl ⟨by rfl, ?hb4⟩) (fun _ => rfl) (by assumption) ?rb4
          case hb4 =>
            intro w hSw
            try dsimp only at hSw
            go_simp
            try with_reducible rfl
          try simp only [Act.put, List.getElem_toArray, List.getElem_cons_succ, List.getElem_cons_zero, List.setIfInBounds_toArray, List.set_cons_zero, List.set_cons_succ]
          refine wpAnyInL_take (i := 5) (v := ?vb5) [6, 7, 8, 9, 10, 11, 12, 13, 14, 15, 16, 17, 18, 19, 20, 21, 22, 23, 24, 25, 26] rfl rfl (by kernel_rfl) (by kernel_rfl) (by kernel_rfl) (by kernel_rfl) (by kernel_rfl) (by kernel_rfl) (fun _ _ _ h => h) (Or.inl ⟨by rfl, ?hb5⟩) (fun _ => rfl) (by assumption) ?rb5
          case hb5 =>
            intro w hSw
            try dsimp only at hSw
            go_simp
            try with_reducible rfl
          try simp only [Act.put, List.getElem_toArray, List.getElem_cons_succ, List.getElem_cons_zero, List.setIfInBounds_toArray, List.set_cons_zero, List.set_cons_succ]
          refine wpAnyInL_take (i := 6) (v := ?vb6) [7, 8, 9, 10, 11, 12, 13, 14, 15, 16, 17, 18, 19, 20, 21, 22, 23, 24, 25, 26] rfl rfl (by kernel_rfl) (by kernel_rfl) (by kernel_rfl) (by kernel_rfl) (by kernel_rfl) (by kernel_rfl) (fun _ _ _ h => h) (Or.inl ⟨by rfl, ?hb6⟩) (fun _ => rfl) (by assumption) ?rb6
          case hb6 =>
            intro w hSw
            try dsimp only at hSw
            go_simp
            try with_reducible rfl
          try simp only [Act.put, List.getElem_toArray, List.getElem_cons_succ, List.getElem_cons_zero, List.setIfInBounds_toArray, List.set_cons_zero, List.set_cons_succ]
          (try rw [decide_eq_true i4])
          refine wpAnyInL_take (i := 7) (v := ?vb7) [8, 9, 10, 11, 12, 13, 14, 15, 16, 17, 18, 19, 20, 21, 22, 23, 24, 25, 26] rfl rfl (by kernel_rfl) (by kernel_rfl) (by kernel_rfl) (by kernel_rfl) (by kernel_rfl) (by kernel_rfl) (fun _ _ _ h => h) (Or.inl ⟨by rfl, ?hb7⟩) (fun _ => rfl) (by assumption) ?rb7
          case hb7 =>
            intro w hSw
            try dsimp only at hSw
            go_simp
            try with_reducible rfl
          try simp only [Act.put, List.getElem_toArray, List.getElem_cons_succ, List.getElem_cons_zero, List.setIfInBounds_toArray, List.set_cons_zero, List.set_cons_succ]
          refine wpAnyInL_take (i := 8) (v := undef) [24, 25, 26] rfl rfl (by kernel_rfl) (by kernel_rfl) (by kernel_rfl) (by kernel_rfl) (by kernel_rfl) (by kernel_rfl) (fun _ _ _ h => h) (Or.inr ⟨by rfl, rfl⟩) (fun _ => rfl) (by assumption) ?rb8
          try simp only [Act.put, List.getElem_toArray, List.getElem_cons_succ, List.getElem_cons_zero, List.setIfInBounds_toArray, List.set_cons_zero, List.set_cons_succ]
          refine wpAnyInL_take (i := 9) (v := undef) [24, 25, 26] rfl rfl (by kernel_rfl) (by kernel_rfl) (by kernel_rfl) (by kernel_rfl) (by kernel_rfl) (by kernel_rfl) (fun _ _ _ h => h) (Or.inr ⟨by rfl, rfl⟩) (fun _ => rfl) (by assumption) ?rb9
          try simp only [Act.put, List.getElem_toArray, List.getElem_cons_succ, List.getElem_cons_zero, List.setIfInBounds_toArray, List.set_cons_zero, List.set_cons_succ]
          refine wpAnyInL_take (i := 10) (v := undef) [11, 14, 15, 23, 24, 25, 26] rfl rfl (by kernel_rfl) (by kernel_rfl) (by kernel_rfl) (by kernel_rfl) (by kernel_rfl) (by kernel_rfl) (fun _ _ _ h => h) (Or.inr ⟨by rfl, rfl⟩) (fun _ => rfl) (by assumption) ?rb10
          try simp only [Act.put, List.getElem_toArray, List.getElem_cons_succ, List.getElem_cons_zero, List.setIfInBounds_toArray, List.set_cons_zero, List.set_cons_succ]
          refine wpAnyInL_take (i := 11) (v := undef) [14, 15, 23, 24, 25, 26] rfl rfl (by kernel_rfl) (by kernel_rfl) (by kernel_rfl) (by kernel_rfl) (by kernel_rfl) (by kernel_rfl) (fun _ _ _ h => h) (Or.inr ⟨by rfl, rfl⟩) (fun _ => rfl) (by assumption) ?rb11
          try simp only [Act.put, List.getElem_toArray, List.getElem_cons_succ, List.getElem_cons_zero, List.setIfInBounds_toArray, List.set_cons_zero, List.set_cons_succ]
          refine wpAnyInL_take (i := 12) (v := undef) [13, 14, 15, 23, 24, 25, 26] rfl rfl (by kernel_rfl) (by kernel_rfl) (by kernel_rfl) (by kernel_rfl) (by kernel_rfl) (by kernel_rfl) (fun _ _ _ h => h) (Or.inr ⟨by rfl, rfl⟩) (fun _ => rfl) (by assumption) ?rb12
          try simp only [Act.put, List.getElem_toArray, List.getElem_cons_succ, List.getElem_cons_zero, List.setIfInBounds_toArray, List.set_cons_zero, List.set_cons_succ]
          refine wpAnyInL_take (i := 13) (v := undef) [14, 15, 23, 24, 25, 26] rfl rfl (by kernel_rfl) (by kernel_rfl) (by kernel_rfl) (by kernel_rfl) (by kernel_rfl) (by kernel_rfl) (fun _ _ _ h => h) (Or.inr ⟨by rfl, rfl⟩) (fun _ => rfl) (by assumption) ?rb13
          try simp only [Act.put, List.getElem_toArray, List.getElem_cons_succ, List.getElem_cons_zero, List.setIfInBounds_toArray, List.set_cons_zero, List.set_cons_succ]
          refine wpAnyInL_take (i := 14) (v := undef) [15, 23, 24, 25, 26] rfl rfl (by kernel_rfl) (by kernel_rfl) (by kernel_rfl) (by kernel_rfl) (by kernel_rfl) (by kernel_rfl) (fun _ _ _ h => h) (Or.inr ⟨by rfl, rfl⟩) (fun _ => rfl) (by assumption) ?rb14
          try simp only [Act.put, List.getElem_toArray, List.getElem_cons_succ, List.getElem_cons_zero, List.setIfInBounds_toArray, List.set_cons_zero, List.set_cons_succ]
          refine wpAnyInL_take (i := 15) (v := undef) [23, 24, 25, 26] rfl rfl (by kernel_rfl) (by kernel_rfl) (by kernel_rfl) (by kernel_rfl) (by kernel_rfl) (by kernel_rfl) (fun _ _ _ h => h) (Or.inr ⟨by rfl, rfl⟩) (fun _ => rfl) (by assumption) ?rb15
          try simp only [Act.put, List.getElem_toArray, List.getElem_cons_succ, List.getElem_cons_zero, List.setIfInBounds_toArray, List.set_cons_zero, List.set_cons_succ]
          refine wpAnyInL_take (i := 16) (v := undef) [17, 21, 22, 23, 24, 25, 26] rfl rfl (by kernel_rfl) (by kernel_rfl) (by kernel_rfl) (by kernel_rfl) (by kernel_rfl) (by kernel_rfl) (fun _ _ _ h => h) (Or.inr ⟨by rfl, rfl⟩) (fun _ => rfl) (by assumption) ?rb16
          try simp only [Act.put, List.getElem_toArray, List.getElem_cons_succ, List.getElem_cons_zero, List.setIfInBounds_toArray, List.set_cons_zero, List.set_cons_succ]
          refine wpAnyInL_take (i := 17) (v := undef) [21, 22, 23, 24, 25, 26] rfl rfl (by kernel_rfl) (by kernel_rfl) (by kernel_rfl) (by kernel_rfl) (by kernel_rfl) (by kernel_rfl) (fun _ _ _ h => h) (Or.inr ⟨by rfl, rfl⟩) (fun _ => rfl) (by assumption) ?rb17
          try simp only [Act.put, List.getElem_toArray, List.getElem_cons_succ, List.getElem_cons_zero, List.setIfInBounds_toArray, List.set_cons_zero, List.set_cons_succ]
          refine wpAnyInL_take (i := 18) (v := undef) [19, 20, 21, 22, 23, 24, 25, 26] rfl rfl (by kernel_rfl) (by kernel_rfl) (by kernel_rfl) (by kernel_rfl) (by kernel_rfl) (by kernel_rfl) (fun _ _ _ h => h) (Or.inr ⟨by rfl, rfl⟩) (fun _ => rfl) (by assumption) ?rb18
          try simp only [Act.put, List.getElem_toArray, List.getElem_cons_succ, List.getElem_cons_zero, List.setIfInBounds_toArray, List.set_cons_zero, List.set_cons_succ]
          refine wpAnyInL_take (i := 19) (v := undef) [20, 21, 22, 23, 24, 25, 26] rfl rfl (by kernel_rfl) (by kernel_rfl) (by kernel_rfl) (by kernel_rfl) (by kernel_rfl) (by kernel_rfl) (fun _ _ _ h => h) (Or.inr ⟨by rfl, rfl⟩) (fun _ => rfl) (by assumption) ?rb19
          try simp only [Act.put, List.getElem_toArray, List.getElem_cons_succ, List.getElem_cons_zero, List.setIfInBounds_toArray, List.set_cons_zero, List.set_cons_succ]
          refine wpAnyInL_take (i := 20) (v := undef) [21, 22, 23, 24, 25, 26] rfl rfl (by kernel_rfl) (by kernel_rfl) (by kernel_rfl) (by kernel_rfl) (by kernel_rfl) (by kernel_rfl) (fun _ _ _ h => h) (Or.inr ⟨by rfl, rfl⟩) (fun _ => rfl) (by assumption) ?rb20
          try simp only [Act.put, List.getElem_toArray, List.getElem_cons_succ, List.getElem_cons_zero, List.setIfInBounds_toArray, List.set_cons_zero, List.set_cons_succ]
          refine wpAnyInL_take (i := 21) (v := undef) [22, 23, 24, 25, 26] rfl rfl (by kernel_rfl) (by kernel_rfl) (by kernel_rfl) (by kernel_rfl) (by kernel_rfl) (by kernel_rfl) (fun _ _ _ h => h) (Or.inr ⟨by rfl, rfl⟩) (fun _ => rfl) (by assumption) ?rb21
          try simp only [Act.put, List.getElem_toArray, List.getElem_cons_succ, List.getElem_cons_zero, List.setIfInBounds_toArray, List.set_cons_zero, List.set_cons_succ]
          refine wpAnyInL_take (i := 22) (v := undef) [23, 24, 25, 26] rfl rfl (by kernel_rfl) (by kernel_rfl) (by kernel_rfl) (by kernel_rfl) (by kernel_rfl) (by kernel_rfl) (fun _ _ _ h => h) (Or.inr ⟨by rfl, rfl⟩) (fun _ => rfl) (by assumption) ?rb22
          try simp only [Act.put, List.getElem_toArray, List.getElem_cons_succ, List.getElem_cons_zero, List.setIfInBounds_toArray, List.set_cons_zero, List.set_cons_succ]
          refine wpAnyInL_take (i := 23) (v := undef) [24, 25, 26] rfl rfl (by kernel_rfl) (by kernel_rfl) (by kernel_rfl) (by kernel_rfl) (by kernel_rfl) (by kernel_rfl) (fun _ _ _ h => h) (Or.inr ⟨by rfl, rfl⟩) (fun _ => rfl) (by assumption) ?rb23
          try simp only [Act.put, List.getElem_toArray, List.getElem_cons_succ, List.getElem_cons_zero, List.setIfInBounds_toArray, List.set_cons_zero, List.set_cons_succ]
          refine wpAnyInL_take (i := 24) (v := undef) [25, 26] rfl rfl (by kernel_rfl) (by kernel_rfl) (by kernel_rfl) (by kernel_rfl) (by kernel_rfl) (by kernel_rfl) (fun _ _ _ h => h) (Or.inr ⟨by rfl, rfl⟩) (fun _ => rfl) (by assumption) ?rb24
          try simp only [Act.put, List.getElem_toArray, List.getElem_cons_succ, List.getElem_cons_zero, List.setIfInBounds_toArray, List.set_cons_zero, List.set_cons_succ]
          refine wpAnyInL_take (i := 25) (v := undef) [26] rfl rfl (by kernel_rfl) (by kernel_rfl) (by kernel_rfl) (by kernel_rfl) (by kernel_rfl) (by kernel_rfl) (fun _ _ _ h => h) (Or.inr ⟨by rfl, rfl⟩) (fun _ => rfl) (by assumption) ?rb25
          try simp only [Act.put, List.getElem_toArray, List.getElem_cons_succ, List.getElem_cons_zero, List.setIfInBounds_toArray, List.set_cons_zero, List.set_cons_succ]
          refine wpAnyInL_take (i := 26) (v := ?vb26) [] rfl rfl (by kernel_rfl) (by kernel_rfl) (by kernel_rfl) (by kernel_rfl) (by kernel_rfl) (by kernel_rfl) (fun _ _ _ h => h) (Or.inl ⟨by rfl, ?hb26⟩) (fun _ => rfl) (by assumption) ?rb26
          case hb26 =>
            intro w hSw
            try dsimp only at hSw
            go_simp
            try with_reducible rfl
          try simp only [Act.put, List.getElem_toArray, List.getElem_cons_succ, List.getElem_cons_zero, List.setIfInBounds_toArray, List.set_cons_zero, List.set_cons_succ]
          refine wpAnyInL_done (by kernel_rfl) ?_ _
          gi_wp2
          refine bodyPost_ret (results_none rfl _ _ _) rfl ?_
          exact ⟨⟨_, rfl⟩, .inl ⟨_, hup, HJ.out⟩⟩
    · obtain rfl : j = m := by omega
      obtain rfl : j = S := by omega
      gi_wp2
      go_end0
      exact ⟨⟨_, rfl⟩, .inl ⟨_, hup, hJs⟩⟩
theorem pairsI_stops (n Bs n₀ m k : Nat) {a2 ax : Option Addr} {xs sx : List Int} {c2 cl cx b o0 : Nat} (hx : xs.length ≤ 1000) (hs : sx.length ≤ 1000) (hk : 0 < k) (hm1 : m ≤ sx.length) (hm2 : 2 * m ≤ xs.length) (hm3 : m < sx.length → xs.length ≤ 2 * m + 1)
    (hba : xs ≠ [] → ∀ a, a2 = some a → a.block < n₀) (hbx : sx ≠ [] → ∀ a, ax = some a → a.block < n₀) (w : World) (hBs : Bs < w.heap.size)
    (hB1 : w.cell? ⟨Bs, 1, none⟩ = some (.slice a2 xs.length c2)) (hB2 : w.cell? ⟨Bs, 2, none⟩ = some (.slice (some ⟨b, o0, none⟩) k cl)) (hcx : w.cell? ⟨b, o0, none⟩ = some (.slice ax sx.length cx)) (hla : LimS w a2 xs) (hlx : LimS w ax sx) :
    SeqStopsK Fence.wide n Try.prog 75 #[.pointer (some ⟨Bs, 0, none⟩)] (pairI sx xs (n := m)) (KpS n₀ Bs) (fun ys => Upto ys m) (fun pre => ∃ k, k ≤ m ∧ Upto pre k) m w := fun l J Jx W hW hJ _ hY h0 =>
  pairsI_in n l Bs n₀ m k hx hs hk hm1 hm2 hm3 hba hbx J Jx (fun pre A hj => hJ pre A A.drew none hj ⟨rfl, rfl, rfl, Nat.le_refl _, fun _ _ _ => rfl⟩ (fun _ h => by cases h)) hY W
    ((hW.cell (p := ⟨Bs, 1, none⟩) hBs).trans hB1) ((hW.cell (p := ⟨Bs, 2, none⟩) hBs).trans hB2) ((hW.cell (p := ⟨b, o0, none⟩) (World.block_lt_of_cell? _ _ hcx)).trans hcx) (hla.later hW) (hlx.later hW) h0
end
end Go.Proofs.Ytdcggcfgkhlblaa
