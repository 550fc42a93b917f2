/-
  Part 5 of 29: contracts and what they rest on (Seen, SRefF, SCode2, SCode3, TOrd, TOrdIn, PCode1).
-/
import Derived.Test.YtjgiacghlkkjfaaGreatDoorF1
import Derived.Test.YtjgiacghlkkjfaaGreatDoorF2
import Derived.WalkKit
import Derived.Test.YtjgiacghlkkjfaaGreatDoorRows
import Derived.OrdersHeld
import Derived.Deep.RegionHeld
import Derived.BigQuiet
import Derived.Deep.QuietTactic
import Derived.Lib.Hide
import Derived.Lib.Small
import Derived.Lib.Walk
import Derived.Lib.BitFns
import Derived.Maps.AppendAt
import Derived.RangeFuncNested
import Derived.RangeFuncBound
import Derived.RangeFuncCalls
import Derived.RangeFuncLeaves
import Derived.Shelf.Abstract
import Derived.OwnWalkIn
import Derived.TacticsInMore
import Derived.LoopNIn
import Derived.LoopIn
import Derived.RangeFuncBox
import Derived.Deep.RegionHeld3
import Derived.OrdersIn
import Derived.StillTailTactics
import Derived.RangeFuncFrom
import Derived.Laws.EntriesVeiled
import Derived.ProofKit
import Derived.OpenShut
import Derived.JoinedCond
import Derived.Carry
import Derived.Laws.AppendOwnNone
import Derived.Lib.ItoaNum
import Derived.Deep.RegionLaw
import Derived.WalkMore
import Derived.Lib.SmallJoins
import Derived.IntWalk
import Derived.Deep.DeepCutAuto
import Derived.Laws.OwnMore
import Derived.ArgAppend
import Derived.Deep.Slices
import Derived.Laws.CopyOwn
import Derived.Lib.SliceRun
namespace Go.Proofs.YtjgiacghlkkjfaaGreatDoor
set_option maxRecDepth 100000
section
open Go.RowKit Go.Shelf
set_option linter.unusedVariables false
set_option linter.unusedSimpArgs false
set_option maxHeartbeats 1000000 in
theorem range_seen {α : Type} {n : Nat} {P : Program} {g : Operand} {ps : Array Tmp} {assign body : Code} {Q : Exit → Act → World → Prop} {a : Act} {w : World}
    {gf : Nat} {lb : Array Value} (hg : a.eval g = .func (.func gf) #[] lb) (eg : ∀ args w, (callFunc gf args).run P w = .ok (.enter gf args) w)
    {encs : α → Array Value} (hps : ∀ x, (encs x).size = ps.size) (I : List α → World → Prop) (Nx : List α → α → Prop) (S : List α → Prop) (hI : OwnFrom w.heap.size I) (h0 : I [] w) (a₁ : α → Act)
    (hseq : ∀ (l : Nat) (J : List α → World → Prop), (∀ pre W, J pre W → I pre W) →
      (∀ pre x W, J pre W → Nx pre x → YieldAt Fence.wide (n - 1 - 1) P l (encs x) W fun e W' => e = .returned (.bool true) ∧ J (pre ++ [x]) W') → ∀ W, J [] W →
      CallsIn Fence.wide (n - 1) P gf (#[.func (.yield l) #[] #[]] ++ lb) W fun e W' => (∃ v, e = .returned v) ∧ ∃ xs, S xs ∧ J xs W')
    (hassign : ∀ (l : Nat) (x : α) (W : World) (K : Act → World → Prop), K (a₁ x) W →
      assign.wpIn (Fence.wide.inRound l) (n - 1 - 1) P (Exit.then K (fun _ _ _ => False)) { tmps := (ps.zip (encs x)).foldl (fun t (p, v) => t.setIfInBounds p v) a.tmps, defers := [] } W)
    (hbody : ∀ (l : Nat) (pre : List α) (x : α) (W : World), I pre W → Nx pre x →
      body.wpIn (Fence.wide.inRound l) (n - 1 - 1) P (fun e _ W' => e = .normal ∧ KeepsFrom w.heap.size W W' ∧ I (pre ++ [x]) W') (a₁ x) W)
    (hdone : ∀ (D : Nat) (xs : List α) (W : World), w.heap.size ≤ D → S xs → I xs W → W.heap[D]? = some (.deferred (some [])) → Q .normal { a with defers := { target := .collected D, args := #[] } :: a.defers } W) :
    (Code.rangeFunc g ps assign body).wpIn Fence.wide n P Q a w := by
  refine wpIn_rangeFunc fun fn hfn => ?_
  obtain ⟨lp, hlp⟩ : ∃ lp : LoopState → Option Code → Loop, lp = fun s p => { state := s, pending := p, fn, tmps := a.tmps, params := ps, assign, body, defers := w.heap.size } := ⟨_, rfl⟩
  obtain ⟨V, hV⟩ : ∃ V, (w.alloc (.deferred (some []))).alloc (.loop (lp .ready none)) = V := ⟨_, rfl⟩
  -- the two blocks of the loop's own
  have vl : V.heap[w.heap.size + 1]? = some (.loop (lp .ready none)) := by
    have h := World.alloc_heap_new (w.alloc (.deferred (some []))) (.loop (lp .ready none))
    rw [World.size_alloc, hV] at h
    exact h
  have vd : V.heap[w.heap.size]? = some (.deferred (some [])) := by
    rw [← hV]
    exact (Below.heap_alloc _ _ _ (by simp)).trans (World.alloc_heap_new w _)
  have vi : I [] V := by rw [← hV]; exact hI.alloc _ (hI.alloc _ h0)
  have enter := run_enterLoop_outer (P := P) (w := w) fn a.tmps ps assign body
  rw [show ({ state := LoopState.ready, pending := none, fn := fn, tmps := a.tmps, params := ps, assign := assign, body := body, defers := w.heap.size } : Loop) = lp .ready none by rw [hlp], hV] at enter
  refine ⟨_, _, V, { target := .fn (.func gf) lb, args := #[.func (.yield (w.heap.size + 1)) #[] #[]] }, V, gf, #[.func (.yield (w.heap.size + 1)) #[] #[]] ++ lb, V, enter, ?_, fun _ _ => trivial, ?_, (fun h => by cases h), ?_⟩
  · simp only [resolve, hg]
    simp [go_sem]
  · simp [invoke, go_sem, eg]
  refine (hseq (w.heap.size + 1) (fun pre W => I pre W ∧ W.heap[w.heap.size + 1]? = some (.loop (lp .ready none)) ∧ W.heap[w.heap.size]? = some (.deferred (some [])))
    (fun _ _ h => h.1) ?_ V ⟨vi, vl, vd⟩).mono ?_
  · -- a round
    rintro pre x W ⟨wi, wl, wd⟩ hx
    have hlt : w.heap.size + 1 < W.heap.size := (Array.getElem?_eq_some_iff.1 wl).1
    have hy := run_yield (P := P) (args := encs x) wl (by rw [hlp]; exact hps x)
    rw [hlp] at hy
    refine ⟨fn, _, assign, body, hy, roundIn_of_wpIn hfn (hassign _ x W _ ⟨_, run_beginRound wl (by rw [hlp]), ?_⟩)⟩
    have el : ({ state := LoopState.busy, pending := (lp .ready none).pending, fn := (lp .ready none).fn, tmps := (lp .ready none).tmps, params := (lp .ready none).params, assign := (lp .ready none).assign, body := (lp .ready none).body, defers := (lp .ready none).defers } : Loop) = lp .busy none := by rw [hlp]
    rw [el]
    have bl : (W.putObj (w.heap.size + 1) (.loop (lp .busy none))).heap[w.heap.size + 1]? = some (.loop (lp .busy none)) := World.putObj_heap_same hlt
    have bd : (W.putObj (w.heap.size + 1) (.loop (lp .busy none))).heap[w.heap.size]? = some (.deferred (some [])) := (World.putObj_heap_other (by omega)).trans wd
    refine wpIn_mono (hbody _ pre x _ (hI.putObj _ wi (by omega) wl rfl) hx) ?_
    rintro e a3 W3 ⟨rfl, hk, i3⟩
    have l3 := hk.same _ _ (by omega) bl rfl
    have d3 := hk.same _ _ (Nat.le_refl _) bd rfl
    have fin := run_endRound (P := P) none l3
    have er : ({ state := if (none : Option Code).isNone = true then LoopState.ready else LoopState.done, pending := none, fn := (lp .busy none).fn, tmps := (lp .busy none).tmps, params := (lp .busy none).params, assign := (lp .busy none).assign, body := (lp .busy none).body, defers := (lp .busy none).defers } : Loop) = lp .ready none := by rw [hlp]; rfl
    rw [er] at fin
    exact ⟨_, _, fin, rfl, hI.putObj _ i3 (by omega) l3 rfl, World.putObj_heap_same (Array.getElem?_eq_some_iff.1 l3).1, (World.putObj_heap_other (by omega)).trans d3⟩
  · -- behind the function
    rintro e W2 ⟨⟨v, rfl⟩, xs, hS, i2, l2, d2⟩
    have h := run_endLoop (P := P) l2 (by rw [hlp]; simp)
    rw [show (lp .ready none).pending = none by rw [hlp]] at h
    exact ⟨none, _, h, hdone _ xs _ (Nat.le_refl _) hS (hI.putObj _ i2 (by omega) l2 rfl) ((World.putObj_heap_other (by omega)).trans d2)⟩
set_option maxRecDepth 100000 in
set_option maxHeartbeats 2000000 in
/-- slices.Backward over limbs that a round may write to, once they were handed on -/
theorem back_seen (n : Nat) (Bs g N cap : Nat) (ad : Option Addr) (hg : 0 < N → ad = some ⟨g, 0, none⟩) (hm : N ≤ 35184372088832) (xs : List Int) (hxs : xs.length = N) (I : List (Fin N) → World → Prop)
    (hR : ∀ pre W, I pre W → W.cell? ⟨Bs, 0, none⟩ = some (.slice ad N cap) ∧ ∀ i, i + pre.length < N → W.cell? ⟨g, i, none⟩ = some (.int .u32 (xs.getD i 0)))
    (l : Nat) (J : List (Fin N) → World → Prop) (hJ : ∀ pre W, J pre W → I pre W)
    (hY : ∀ pre x W, J pre W → (Downto pre pre.length ∧ x.val + pre.length + 1 = N) → YieldAt Fence.wide (n - 1) Tryz.prog l (limbAt xs x) W fun e W' => e = .returned (.bool true) ∧ J (pre ++ [x]) W')
    (W : World) (h0 : J [] W) :
    CallsIn Fence.wide n Tryz.prog 293 (#[.func (.yield l) #[] #[]] ++ #[.pointer (some ⟨Bs, 0, none⟩)]) W fun e W' => (∃ v, e = .returned v) ∧ ∃ ys, Downto ys N ∧ J ys W' := by
  have hBs := (hR [] W (hJ _ _ h0)).1
  refine callsIn_of_wp Tryz.func293 rfl trivial ?_ rfl
  simp only [Tryz.ntmps293, List.size_toArray, List.length_cons, List.length_nil, Nat.reduceAdd, Nat.reduceSub, Array.replicate_succ, Array.replicate_zero, List.push_toArray, List.append_toArray, List.nil_append, List.cons_append]
  gi_wp2_with fail
  gi_loopw [3] (fun i wr => ∃ (k : Nat) (pre : List (Fin N)), k ≤ N ∧ i = .int .i64 ((N : Int) - 1 - k) ∧ Downto pre k ∧ J pre wr)
    (fun i _ => (intOf i + 1).toNat)
  case atStart => exact ⟨0, [], Nat.zero_le _, by simp, Downto.nil, h0⟩
  case round =>
    obtain ⟨k, pre, hk, rfl, hdn, hJs⟩ := hrel
    obtain ⟨hBr, hc⟩ := hR pre wr (hJ _ _ hJs)
    have hpl := hdn.1
    by_cases hlt : k < N
    · obtain ⟨j, hj⟩ : ∃ j, j + k + 1 = N := ⟨N - k - 1, by omega⟩
      have hji : ((N : Int) - 1 - k) = (j : Int) := by omega
      rw [hji]
      have hjl : j < N := by omega
      obtain rfl := hg (by omega)
      obtain ⟨fn, tmps, assign, body, hy, hR'⟩ := hY pre ⟨j, hjl⟩ wr hJs ⟨by rw [hpl]; exact hdn, by rw [hpl]; exact hj⟩
      simp only [limbAt] at hy
      have hcx := hc j (by omega)
      have hjn : (j : Int) < (N : Int) := by omega
      have HJ := Lib.hid hj
      have HP := Lib.hid hpl
      clear hc hj hji hBs hxs hpl
      gi_wp2
      refine ⟨(fun h => by cases h), hR'.mono ?_⟩
      rintro e W3 ⟨rfl, hJ3⟩
      gi_wp2
      go_roundw
      case rel => exact ⟨k + 1, _, by omega, by have := HJ.out; congr 1; omega, hdn.snoc ⟨j, hjl⟩ HJ.out, hJ3⟩
      case measure => simp [intOf]
    · obtain rfl : k = N := by omega
      have hji : ((k : Int) - 1 - k) = -1 := by omega
      rw [hji]
      clear hji
      gi_wp2
      go_end0
      exact ⟨⟨_, rfl⟩, _, hdn, hJs⟩
end
section
open Go.RowKit
set_option linter.unusedVariables false
set_option linter.unusedSimpArgs false
theorem make_runS (n : Nat) (hc : n ≤ 17592186044416) (w : World) :
    (Instr.makeSlice 25 (.int .i64 (n : Int)) (.int .i64 (n : Int))).run Tryz.prog w = .ok (.slice (some ⟨w.heap.size, 0, none⟩) n n) (w.alloc (.cells (madeCells #[.int .i64 0] n) 3)) := by
  obtain ⟨i0, hi, hz0, hz1, hz2⟩ := info_parts infoS
  have h := run_make (P := Tryz.prog) w 25 3 i0 (.int .i64 0) Tryz.underlying25 hi hz0 .i64 .i64 n n (by omega) (by omega) (by rw [hz2]; omega) (by omega)
  simpa [hz1, Value.cells] using h
end
section
open Go.RowKit
set_option linter.unusedVariables false
set_option linter.unusedSimpArgs false
/-- the first k numbers are axes; the last one of them -/
def axU (l : List Int) (rank : Int) (k : Nat) : Prop := ∀ i, i < k → (0 ≤ l.getD i 0 ∧ l.getD i 0 < rank) ∧ (0 < i → l.getD (i - 1) 0 < l.getD i 0)
def lastS (l : List Int) : Nat → Int
  | 0 => -1
  | k + 1 => l.getD k 0
theorem axU.next {l : List Int} {rank : Int} {k : Nat} (h : axU l rank k) (h0 : lastS l k < l.getD k 0) (h1 : 0 ≤ l.getD k 0) (h2 : l.getD k 0 < rank) : axU l rank (k + 1) := by
  intro i hi
  by_cases e : i = k
  · subst e
    refine ⟨⟨h1, h2⟩, fun hp => ?_⟩
    obtain ⟨j, rfl⟩ : ∃ j, i = j + 1 := ⟨i - 1, by omega⟩
    exact h0
  · exact h i (by omega)
theorem axU.not {l : List Int} {rank : Int} {k : Nat} (hk : k < l.length) (h : axU l rank l.length) : (0 ≤ l.getD k 0 ∧ l.getD k 0 < rank) ∧ lastS l k < l.getD k 0 := by
  obtain ⟨h1, h2⟩ := h k hk
  refine ⟨h1, ?_⟩
  cases k with
  | zero => show (-1 : Int) < _; omega
  | succ j => exact h2 (by omega)
set_option maxRecDepth 100000 in
set_option maxHeartbeats 2000000 in
theorem axesS_any {u : Value} {l : List Int} {a : Option Addr} {ca : Nat} {w : World} (rank : Int) (A : ArgS w u l a ca) (ha : a = none → ca = 0) (hx : l.length ≤ 1000) (h0 : -9223372036854775808 ≤ rank) (h1 : rank ≤ 9223372036854775807) :
    Calls Tryz.prog 185 #[u, .int .i64 rank] w fun e w' => e = .returned (.int .i64 (axesC l rank)) ∧ Below w.heap.size w w' := by
  refine Calls.mono (R := fun e w' => e = .returned (.int .i64 (axesC l rank)) ∧ w = w') ?_ (fun _ _ ⟨h1, h2⟩ => ⟨h1, h2 ▸ Below.refl _ _⟩)
  have HA := Lib.hid A
  obtain rfl := A.is
  obtain ⟨c, hc⟩ : ∃ c, axesC l rank = c := ⟨_, rfl⟩
  obtain ⟨L, hL⟩ : ∃ L, l.length = L := ⟨_, rfl⟩
  rw [hL] at hx
  rw [hc, hL]
  have HC := Lib.hid hc
  have HL := Lib.hid hL
  clear A ha hc hL
  go_enter Tryz.func185, Tryz.ntmps185
  go_wp2
  go_loop [5, 7, 10] (fun p _ i => ∃ (k : Nat), i = .int .i64 (k : Int) ∧ p = .int .i64 (lastS l k) ∧ k ≤ L ∧ axU l rank k) (fun _ _ i => L - (intOf i).toNat)
  case atStart => exact ⟨0, rfl, rfl, Nat.zero_le _, fun i hi => by omega⟩
  case round =>
    obtain ⟨k, rfl, rfl, hk, hax⟩ := hrel
    have HX := Lib.hid hax
    obtain ⟨p, hp⟩ : ∃ p, lastS l k = p := ⟨_, rfl⟩
    have HP := Lib.hid hp
    rw [hp]
    clear hax hp
    by_cases hlt : k < L
    · obtain ⟨b1, o1, rfl, c1⟩ := HA.out.at (i := k) (by rw [HL.out]; exact hlt)
      obtain ⟨x, hxe⟩ : ∃ x, l.getD k 0 = x := ⟨_, rfl⟩
      rw [hxe] at c1
      have HXE := Lib.hid hxe
      have hbw := below_any x rank w
      have hltI : (k : Int) < (L : Int) := by omega
      clear hxe
      by_cases hg : 0 ≤ x ∧ x < rank ∧ p < x
      · obtain ⟨g0, g1, g2⟩ := hg
        rw [belowB_yes g0 g1] at hbw
        have g3 : ¬ x ≤ p := by omega
        have hn : axU l rank (k + 1) := HX.out.next (by rw [HXE.out, HP.out]; exact g2) (by rw [HXE.out]; exact g0) (by rw [HXE.out]; exact g1)
        have HN := Lib.hid hn
        clear hn
        go_wp2_with (go_at_call 227; refine hbw.mono ?_; rintro e w1 ⟨rfl, rfl⟩)
        go_round
        case rel => exact ⟨k + 1, by go_num, congrArg (Value.int .i64) HXE.out.symm, by omega, HN.out⟩
        case measure => simp [intOf]; omega
      · have hno : axesC l rank = 11 := by
          unfold axesC
          rw [if_neg]
          intro h
          unfold axesB at h
          have h2 := of_decide_eq_true h
          have := axU.not (k := k) (by rw [HL.out]; exact hlt) h2
          rw [HXE.out, HP.out] at this
          exact hg ⟨this.1.1, this.1.2, this.2⟩
        obtain rfl : c = 11 := by rw [← HC.out]; exact hno
        clear hno
        by_cases g3 : x ≤ p
        · clear hg
          go_wp2_with (go_at_call 227; refine hbw.mono ?_; rintro e w1 ⟨rfl, rfl⟩)
          go_ret
          exact ⟨rfl, rfl⟩
        · rw [belowB_no (by omega)] at hbw
          clear hg
          go_wp2_with (go_at_call 227; refine hbw.mono ?_; rintro e w1 ⟨rfl, rfl⟩)
          go_ret
          exact ⟨rfl, rfl⟩
    · obtain rfl : k = L := by omega
      have hyes : axesC l rank = 0 := by
        unfold axesC
        rw [if_pos]
        unfold axesB
        refine decide_eq_true ?_
        rw [HL.out]
        exact HX.out
      obtain rfl : c = 0 := by rw [← HC.out]; exact hyes
      have hltI : ¬ (k : Int) < (k : Int) := by omega
      clear hyes
      go_wp2
      go_ret
      exact ⟨rfl, rfl⟩
end
section
open Go.RowKit
set_option linter.unusedVariables false
set_option linter.unusedSimpArgs false
theorem back_to {t : List Int} {k : Nat} (h : k < t.length) : backS t (t.length - k) = t.getD k 0 := by
  unfold backS
  rw [if_neg (by omega), show t.length - (t.length - k) = k by omega]
theorem back_ahead {f t : List Int} {k : Nat} (h : k < t.length - f.length) : backS f (t.length - k) = 0 := by
  unfold backS
  rw [if_pos (by omega)]
theorem back_in {f t : List Int} {k : Nat} (hl : f.length ≤ t.length) (hk : k < t.length) (h : t.length - f.length ≤ k) : backS f (t.length - k) = f.getD (k - (t.length - f.length)) 0 := by
  unfold backS
  rw [if_neg (by omega), show f.length - (t.length - k) = k - (t.length - f.length) by omega]
/-- the first k dimensions of the other one fit -/
def fitP (f t : List Int) (k : Nat) : Prop := ∀ i, i < k → t.length - f.length ≤ i → f.getD (i - (t.length - f.length)) 0 = t.getD i 0 ∨ f.getD (i - (t.length - f.length)) 0 = 1
theorem fitP.next {f t : List Int} {k : Nat} (h : fitP f t k) (h2 : t.length - f.length ≤ k → f.getD (k - (t.length - f.length)) 0 = t.getD k 0 ∨ f.getD (k - (t.length - f.length)) 0 = 1) : fitP f t (k + 1) := by
  intro i hi h3
  by_cases e : i = k
  · subst e; exact h2 h3
  · exact h i (by omega) h3
theorem fitP.all {f t : List Int} (ok : OkS t) (hl : f.length ≤ t.length) (h : fitP f t t.length) : fitU f t f.length := by
  intro j j1 j2
  refine ⟨by have := back_pos ok j1 (by omega); omega, ?_⟩
  have h3 := h (t.length - j) (by omega) (by omega)
  have e1 : backS f j = f.getD (t.length - j - (t.length - f.length)) 0 := by
    rw [← back_in hl (by omega) (by omega)]; congr 1; omega
  have e2 : backS t j = t.getD (t.length - j) 0 := by
    rw [← back_to (by omega)]; congr 1; omega
  rw [e1, e2]
  omega
theorem fitU.at {f t : List Int} (hl : f.length ≤ t.length) (h : fitU f t f.length) {k : Nat} (hk : k < t.length) (h2 : t.length - f.length ≤ k) : f.getD (k - (t.length - f.length)) 0 = t.getD k 0 ∨ f.getD (k - (t.length - f.length)) 0 = 1 := by
  have h3 := (h (t.length - k) (by omega) (by omega)).2
  rw [back_in hl hk h2, back_to hk] at h3
  omega
theorem fit_far {f t : List Int} (o1 : OkS f) (o2 : OkS t) (h : t.length < f.length) : fitC f t = 13 := by
  refine fitC_bad (mayC_ok o1) (mayC_ok o2) fun hu => ?_
  have := (hu f.length (by omega) (Nat.le_refl _)).1
  rw [back_zero h] at this
  exact this rfl
theorem grownS_bad {f t : List Int} (h : fitC f t ≠ 0) : grownS f t = [] := by unfold grownS; rw [if_neg h]
theorem grownS_ok {f t : List Int} (h : fitC f t = 0) : grownS f t = grownL f t t.length := by unfold grownS; rw [if_pos h]
set_option maxRecDepth 100000 in
set_option maxHeartbeats 4000000 in
theorem grown_any {u v : Value} {xs ys : List Int} {a b : Option Addr} {ca cb : Nat} {w : World} (A : ArgS w u xs a ca) (B : ArgS w v ys b cb) :
    Calls Tryz.prog 225 #[u, v] w fun e w' => ∃ r, e = .returned (.tuple #[r, .int .i64 (fitC xs ys)]) ∧ ResS w.heap.size w' r (grownS xs ys) ∧ Below w.heap.size w w' := by
  obtain ⟨i0, hi, hz0, hz1, hz2⟩ := info_parts infoS
  have HA := Lib.hid A
  have HB := Lib.hid B
  obtain rfl := A.is
  obtain rfl := B.is
  obtain ⟨c, hc⟩ : ∃ c, fitC xs ys = c := ⟨_, rfl⟩
  obtain ⟨r, hr⟩ : ∃ r, grownS xs ys = r := ⟨_, rfl⟩
  obtain ⟨F, hF⟩ : ∃ F, xs.length = F := ⟨_, rfl⟩
  obtain ⟨T, hT⟩ : ∃ T, ys.length = T := ⟨_, rfl⟩
  have HC := Lib.hid hc
  have HR := Lib.hid hr
  have HF := Lib.hid hF
  have HT := Lib.hid hT
  rw [hc, hr, hF, hT]
  clear A B hc hr hF hT
  go_enter Tryz.func225, Tryz.ntmps225
  go_wp2
  go_step3
  go_wp2
  have hbW : Below w.heap.size w (w.alloc (.cells #[.slice a F ca, .slice b T cb] 43)) := (Below.refl _ _).alloc (Nat.le_refl _) _
  have hc0 : (w.alloc (.cells #[.slice a F ca, .slice b T cb] 43)).cell? ⟨w.heap.size, 0, none⟩ = some (.slice a F ca) := cell_of_row _ _ 0 _ 43 (0, 0) (heap_alloc_new w _)
  have hc1 : (w.alloc (.cells #[.slice a F ca, .slice b T cb] 43)).cell? ⟨w.heap.size, 1, none⟩ = some (.slice b T cb) := cell_of_row _ _ 1 _ 43 (0, 0) (heap_alloc_new w _)
  obtain ⟨W, hW⟩ : ∃ W, w.alloc (.cells #[.slice a F ca, .slice b T cb] 43) = W := ⟨_, rfl⟩
  rw [hW] at hbW hc0 hc1 ⊢
  clear hW
  have hm1 := mayS_eq (HA.out.later hbW)
  have hm2 := mayS_eq (HB.out.later hbW)
  rw [HF.out] at hm1
  rw [HT.out] at hm2
  go_loop [7, 8, 17] (fun _ _ i => ∃ (k : Nat), i = .int .i64 (k : Int) ∧ k ≤ 2 ∧ (1 ≤ k → mayC xs = 0) ∧ (2 ≤ k → mayC ys = 0)) (fun _ _ i => 2 - (intOf i).toNat)
  case atStart => exact ⟨0, rfl, by omega, fun h => by omega, fun h => by omega⟩
  case round =>
    obtain ⟨k, rfl, hk, h1, h2⟩ := hrel
    rcases (show k = 0 ∨ k = 1 ∨ k = 2 by omega) with rfl | rfl | rfl
    · obtain ⟨m, hm⟩ : ∃ m, mayC xs = m := ⟨_, rfl⟩
      rw [hm] at hm1
      have HM := Lib.hid hm
      clear hm h1 h2
      by_cases h0 : m = 0
      · subst h0
        go_wp2_with (go_at_call 107; refine hm1.mono ?_; rintro e w1 ⟨rfl, rfl⟩)
        go_round
        case rel => exact ⟨1, by go_num, by omega, fun _ => HM.out, fun h => by omega⟩
        case measure => simp [intOf]
      · have hcc := fitC_from (f := xs) (t := ys) (by rw [HM.out]; exact h0)
        obtain rfl : c = m := by rw [← HC.out, hcc]; exact HM.out
        obtain rfl : r = [] := by rw [← HR.out]; exact grownS_bad (by rw [HC.out]; exact h0)
        have hne : (c != 0) = true := by simpa using h0
        clear hcc
        go_wp2_with (go_at_call 107; refine hm1.mono ?_; rintro e w1 ⟨rfl, rfl⟩)
        (try rw [Exit.noGoto_ret])
        go_ret2
        exact ⟨_, rfl, ResS.nil _ _, hbW⟩
    · obtain ⟨m, hm⟩ : ∃ m, mayC ys = m := ⟨_, rfl⟩
      have H1 := Lib.hid (h1 (by omega))
      rw [hm] at hm2
      have HM := Lib.hid hm
      clear hm h1 h2
      by_cases h0 : m = 0
      · subst h0
        go_wp2_with (go_at_call 107; refine hm2.mono ?_; rintro e w1 ⟨rfl, rfl⟩)
        go_round
        case rel => exact ⟨2, by go_num, by omega, fun _ => H1.out, fun _ => HM.out⟩
        case measure => simp [intOf]
      · have hcc := fitC_to (f := xs) (t := ys) H1.out (by rw [HM.out]; exact h0)
        obtain rfl : c = m := by rw [← HC.out, hcc]; exact HM.out
        obtain rfl : r = [] := by rw [← HR.out]; exact grownS_bad (by rw [HC.out]; exact h0)
        have hne : (c != 0) = true := by simpa using h0
        clear hcc
        go_wp2_with (go_at_call 107; refine hm2.mono ?_; rintro e w1 ⟨rfl, rfl⟩)
        (try rw [Exit.noGoto_ret])
        go_ret2
        exact ⟨_, rfl, ResS.nil _ _, hbW⟩
    · have o1 := mayC_zero.1 (h1 (by omega))
      have o2 := mayC_zero.1 (h2 (by omega))
      have l1 := o1.rank
      have l2 := o2.rank
      rw [HF.out] at l1
      rw [HT.out] at l2
      have O1 := Lib.hid o1
      have O2 := Lib.hid o2
      clear h1 h2 hm1 hm2 o1 o2
      have hnn : ¬ ((2 : Nat) : Int) < 2 := by omega
      by_cases hft : F ≤ T
      · obtain ⟨D, hD⟩ : ∃ D, T - F = D := ⟨_, rfl⟩
        have hDI : (T : Int) - (F : Int) = (D : Int) := by omega
        have hD0 : ¬ (D : Int) < 0 := by omega
        have HD := Lib.hid hD
        clear hD
        go_wp2
        go_step3
        go_wp2
        go_loopw [10, 11, 12, 36] (fun s _ _ i wr => ∃ (k : Nat) (zs : List Int), i = .int .i64 (k : Int) ∧ k ≤ T ∧ ResS w.heap.size wr s zs ∧ zs.length ≤ k ∧ grownL xs ys k = zs ∧ fitP xs ys k ∧ Below w.heap.size w wr) (fun _ _ _ i _ => T - (intOf i).toNat)
        case atStart => exact ⟨0, [], rfl, Nat.zero_le _, ResS.nil _ _, Nat.le_refl _, rfl, fun i hi => by omega, hbW⟩
        case round =>
          obtain ⟨k, zs, rfl, hk, R, hzl, hz, hfp, hb⟩ := hrel
          have hsz := hb.size
          have HZ := Lib.hid hz
          have HFP := Lib.hid hfp
          have HRES := Lib.hid R
          have hrow : wr.ownsRow w.heap.size 3 1 _ zs.length (zs.map (Value.int .i64)) := R.num
          clear hz hfp R
          by_cases hlt : k < T
          · obtain ⟨b2, o2, rfl, c2⟩ := (HB.out.later hb).at (i := k) (by rw [HT.out]; exact hlt)
            have hst : grownL xs ys (k + 1) = zs ++ (if backS xs (ys.length - k) = backS ys (ys.length - k) then [] else [(k : Int)]) := by simp only [grownL]; rw [HZ.out]
            rw [back_to (t := ys) (by rw [HT.out]; exact hlt)] at hst
            have hdp := O2.out.pos.getD (i := k) (by rw [HT.out]; exact hlt)
            obtain ⟨d, hde⟩ : ∃ d, ys.getD k 0 = d := ⟨_, rfl⟩
            rw [hde] at c2 hst hdp
            have HDE := Lib.hid hde
            have hltI : (k : Int) < (T : Int) := by omega
            clear hde
            by_cases hin : k < D
            · have hinI : (k : Int) < (D : Int) := by omega
              rw [back_ahead (f := xs) (t := ys) (by rw [HT.out, HF.out, HD.out]; exact hin), if_neg (by omega)] at hst
              have HST := Lib.hid hst
              have HN := Lib.hid (HFP.out.next fun h => by rw [HT.out, HF.out, HD.out] at h; omega)
              clear hst
              go_wp2_with (at_builtin; refine wpList_append_own _ rfl _ _ 25 rfl w.heap.size 3 i0 (.int .i64 0) 1 8 Tryz.underlying25 hi hz0 hz1 hz2 rfl (by decide) _ _ _ rfl (hrow.alloc _) ⟨wr.heap.size, 0, none⟩ 1 1 [.int .i64 (k : Int)] rfl rfl (cell_one_new _ _ _) (by simp [Value.oneCell']) (by unfold maxLen; omega) (by omega) (by simp; omega) ?_; intro v' w1 hown' hgrow _)
              go_roundw
              case rel =>
                obtain ⟨hn, hbw⟩ := pushS hb hsz HRES.out.num hown' hgrow
                exact ⟨k + 1, zs ++ [(k : Int)], by go_num, by omega, ⟨hn, HRES.out.wf.append (Wid.one (by omega))⟩, by rw [List.length_append]; simp only [List.length_cons, List.length_nil]; omega, HST.out, HN.out, hbw⟩
              case measure => simp [intOf]; omega
            · have hinI : ¬ (k : Int) < (D : Int) := by omega
              obtain ⟨j, hj⟩ : ∃ j, k - D = j := ⟨_, rfl⟩
              have hjI : (k : Int) - (D : Int) = (j : Int) := by omega
              have hjF : j < F := by have := HD.out; omega
              have hjFI : (j : Int) < (F : Int) := by omega
              obtain ⟨b1, o1, rfl, c1⟩ := (HA.out.later hb).at (i := j) (by rw [HF.out]; exact hjF)
              have hle : xs.length ≤ ys.length := by rw [HF.out, HT.out]; exact hft
              have hkk : ys.length - xs.length ≤ k := by rw [HT.out, HF.out, HD.out]; omega
              have hkt : k < ys.length := by rw [HT.out]; exact hlt
              have ej : k - (ys.length - xs.length) = j := by rw [HT.out, HF.out, HD.out]; exact hj
              rw [back_in hle hkt hkk, ej] at hst
              have hno : xs.getD j 0 ≠ d → xs.getD j 0 ≠ 1 → fitC xs ys = 13 := fun g1 g2 => fitC_bad (mayC_ok O1.out) (mayC_ok O2.out) fun hu => by
                have := hu.at hle hkt hkk
                rw [ej, HDE.out] at this
                omega
              have hyes : xs.getD j 0 = d ∨ xs.getD j 0 = 1 → fitP xs ys (k + 1) := fun g => HFP.out.next fun _ => by rw [ej, HDE.out]; exact g
              obtain ⟨x, hxe⟩ : ∃ x, xs.getD j 0 = x := ⟨_, rfl⟩
              rw [hxe] at c1 hst hno hyes
              have HNO := Lib.hid hno
              have HYES := Lib.hid hyes
              clear hno hyes hle hkk hkt ej hxe hj
              by_cases hxd : x = d
              · subst hxd
                rw [if_pos rfl, List.append_nil] at hst
                have HST := Lib.hid hst
                have heq : (x == x) = true := by simp
                clear hst
                go_wp2
                go_roundw
                case rel => exact ⟨k + 1, zs, by go_num, by omega, HRES.out, by omega, HST.out, HYES.out (.inl rfl), hb⟩
                case measure => simp [intOf]; omega
              · rw [if_neg hxd] at hst
                have HST := Lib.hid hst
                have heq : (x == d) = false := by simpa using hxd
                clear hst
                by_cases hx1 : x = 1
                · subst hx1
                  go_wp2_with (at_builtin; refine wpList_append_own _ rfl _ _ 25 rfl w.heap.size 3 i0 (.int .i64 0) 1 8 Tryz.underlying25 hi hz0 hz1 hz2 rfl (by decide) _ _ _ rfl (hrow.alloc _) ⟨wr.heap.size, 0, none⟩ 1 1 [.int .i64 (k : Int)] rfl rfl (cell_one_new _ _ _) (by simp [Value.oneCell']) (by unfold maxLen; omega) (by omega) (by simp; omega) ?_; intro v' w1 hown' hgrow _)
                  go_roundw
                  case rel =>
                    obtain ⟨hn, hbw⟩ := pushS hb hsz HRES.out.num hown' hgrow
                    exact ⟨k + 1, zs ++ [(k : Int)], by go_num, by omega, ⟨hn, HRES.out.wf.append (Wid.one (by omega))⟩, by rw [List.length_append]; simp only [List.length_cons, List.length_nil]; omega, HST.out, HYES.out (.inr rfl), hbw⟩
                  case measure => simp [intOf]; omega
                · have hcc := HNO.out hxd hx1
                  obtain rfl : c = 13 := by rw [← HC.out]; exact hcc
                  obtain rfl : r = [] := by rw [← HR.out]; exact grownS_bad (by rw [hcc]; decide)
                  have hne : (x != 1) = true := by simpa using hx1
                  clear hcc
                  go_wp2
                  (try rw [Exit.noGoto_ret])
                  go_ret2
                  exact ⟨_, rfl, ResS.nil _ _, hb⟩
          · obtain rfl : k = T := by omega
            have hu := fitP.all (f := xs) (t := ys) O2.out (by rw [HF.out, HT.out]; exact hft) (by rw [HT.out]; exact HFP.out)
            have hcc := fitC_of O1.out O2.out hu
            obtain rfl : c = 0 := by rw [← HC.out]; exact hcc
            have hrr : zs = r := by rw [← HR.out, grownS_ok hcc, HT.out]; exact HZ.out.symm
            subst hrr
            have hltI : ¬ (k : Int) < (k : Int) := by omega
            clear hu hcc
            go_wp2
            (try rw [Exit.noGoto_ret])
            go_ret2
            exact ⟨_, rfl, HRES.out, hb⟩
      · obtain rfl : c = 13 := by rw [← HC.out]; exact fit_far O1.out O2.out (by rw [HF.out, HT.out]; omega)
        obtain rfl : r = [] := by rw [← HR.out]; exact grownS_bad (by rw [HC.out]; decide)
        have hd : (T : Int) - (F : Int) < 0 := by omega
        go_wp2
        go_ret2
        exact ⟨_, rfl, ResS.nil _ _, hbW⟩
set_option maxRecDepth 100000 in
set_option maxHeartbeats 2000000 in
theorem fitsS_any {u v : Value} {xs ys : List Int} {a b : Option Addr} {ca cb : Nat} {w : World} (A : ArgS w u xs a ca) (B : ArgS w v ys b cb) (ha : a = none → ca = 0) (hb : b = none → cb = 0) (hx : xs.length ≤ 17592186044416) (hy : ys.length ≤ 17592186044416) :
    Calls Tryz.prog 183 #[u, v] w fun e w' => e = .returned (.int .i64 (fitC xs ys)) ∧ Below w.heap.size w w' := by
  have h := grown_any A B
  obtain rfl := A.is
  obtain rfl := B.is
  obtain ⟨c, hc⟩ : ∃ c, fitC xs ys = c := ⟨_, rfl⟩
  obtain ⟨z, hz⟩ : ∃ z, grownS xs ys = z := ⟨_, rfl⟩
  obtain ⟨n, hn⟩ : ∃ n, xs.length = n := ⟨_, rfl⟩
  obtain ⟨m, hm⟩ : ∃ n, ys.length = n := ⟨_, rfl⟩
  rw [hc, hz, hn, hm] at h
  rw [hc, hn, hm]
  clear A B ha hb hx hy hc hz hn hm
  go_enter Tryz.func183, Tryz.ntmps183
  go_wp2_with (go_at_call 225; refine h.mono ?_; rintro e w1 ⟨r, rfl, R, hb⟩)
  go_ret
  exact ⟨rfl, hb⟩
end
section
open Go.RowKit
variable {P : Program} {ops : Array Oper} {Q : Exit → Act → World → Prop} {md : Region.Mode} {S : World → Prop} {z : Nat}
set_option linter.unusedVariables false
set_option linter.unusedSimpArgs false
def wpAnyL (P : Program) (md : Region.Mode) (ops : Array Oper) (Q : Exit → Act → World → Prop) (S : World → Prop) (z : Nat) : Nat → Array Bool → Act → World → Prop
  | 0, listed, a, w => Region.ready md ops listed = [] ∧ Q .normal a w
  | fuel + 1, listed, a, w =>
    (Region.ready md ops listed = [] → Q .normal a w) ∧
    ∀ i ∈ Region.ready md ops listed, wpOp P ops Q i (fun a' w' => (i ≠ z → S w') ∧ wpAnyL P md ops Q S z fuel (listed.setIfInBounds i true) a' w') a w
theorem wpAny_of_L : ∀ (fuel : Nat) (listed : Array Bool) (a : Act) (w : World), wpAnyL P md ops Q S z fuel listed a w → wpAny P md ops Q fuel listed a w
  | 0, _, _, _, h => h
  | fuel + 1, _, _, _, h => ⟨h.1, fun i hi => wpOp_mono (fun a' w' h' => wpAny_of_L fuel _ a' w' h'.2) (h.2 i hi)⟩
/-- z waits for i -/
def waitsB (md : Region.Mode) (ops : Array Oper) (z i : Nat) : Bool := match ops[z]? with
  | some o => o.after.toList.any fun e => Region.binds md e && decide (e.on = i)
  | none => false
theorem waits_spec {z i : Nat} (h : waitsB md ops z i = true) : ∀ o, ops[z]? = some o → ∃ e ∈ o.after, Region.binds md e = true ∧ e.on = i := by
  intro o ho
  unfold waitsB at h
  rw [ho] at h
  obtain ⟨e, he, h2⟩ := List.any_eq_true.1 h
  rw [Bool.and_eq_true, decide_eq_true_iff] at h2
  exact ⟨e, Array.mem_toList_iff.1 he, h2⟩
theorem wpAnyL_first {i : Nat} {oi : Oper} {v : Value} (hi : ops[i]? = some oi) (hsel : ∀ (j : Nat) (o : Oper) cs b, ops[j]? = some o → o.op ≠ .select cs b)
    (hQ : ∀ c a w, Q (.panic c) (a.put oi.dst v) w → Q (.panic c) a w) (hz : ∀ o, ops[z]? = some o → ∃ e ∈ o.after, Region.binds md e = true ∧ e.on = i) :
    ∀ (fuel : Nat) (listed : Array Bool) (a : Act) (w : World),
      (∀ j oj, ops[j]? = some oj → j ≠ i → listed.getD j true = false → (∀ e ∈ oj.after, Region.binds md e = true → e.on ≠ i) → oi.apart ops oj = true) →
      i ∈ Region.ready md ops listed → YieldsIf P ops S oi v a → S w →
      wpAnyL P md ops Q S z fuel (listed.setIfInBounds i true) (a.put oi.dst v) w → wpAnyL P md ops Q S z (fuel + 1) listed a w := by
  intro fuel
  induction fuel with
  | zero =>
    intro listed a w _ hr hy hS H
    refine ⟨fun h => (by rw [h] at hr; cases hr), fun j hj => ?_⟩
    by_cases hji : j = i
    · subst hji; exact hy.wpOp hi hS ⟨fun _ => hS, H⟩
    · have := ready_mono hj hji
      rw [H.1] at this
      cases this
  | succ fuel ih =>
    intro listed a w hfree hr hy hS H
    refine ⟨fun h => (by rw [h] at hr; cases hr), fun j hj => ?_⟩
    by_cases hji : j = i
    · subst hji; exact hy.wpOp hi hS ⟨fun _ => hS, H⟩
    · have h1 := H.2 j (ready_mono hj hji)
      obtain ⟨hjun, oj, hoj, hall⟩ := mem_ready.1 hj
      have hnot : ∀ e ∈ oj.after, Region.binds md e = true → e.on ≠ i := fun e he hb heq => by
        have h1 := hall e he hb
        have h0 := (mem_ready.1 hr).1
        rw [heq] at h1
        rcases Nat.lt_or_ge i listed.size with h' | h'
        · simp [h'] at h0 h1; rw [h0] at h1; cases h1
        · simp [Array.getElem?_eq_none h'] at h1
      have hjz : j ≠ z := fun e => by
        subst e
        obtain ⟨e, he, hb, hon⟩ := hz oj hoj
        exact hnot e he hb hon
      have h2 := wpOp_putIf hoj (hfree j oj hoj hji hjun hnot) (fun cs b => hsel i oi cs b hi) (fun cs b => hsel j oj cs b hoj) hQ hy h1
      have hfree' : ∀ k ok, ops[k]? = some ok → k ≠ i → (listed.setIfInBounds j true).getD k true = false →
          (∀ e ∈ ok.after, Region.binds md e = true → e.on ≠ i) → oi.apart ops ok = true := fun k ok hk hki hun hno => by
        refine hfree k ok hk hki ?_ hno
        by_cases hjk : j = k
        · subst hjk; exact hjun
        · rw [Go.getD_set_ne true hjk] at hun; exact hun
      refine wpOp_mono (fun a' w' h3 => ⟨fun _ => h3.2.1 hjz, ih (listed.setIfInBounds j true) a' w' hfree' (ready_mono hr (Ne.symm hji)) h3.1 (h3.2.1 hjz) ?_⟩) h2
      rw [Array.setIfInBounds_comm _ _ hji]
      exact h3.2.2
theorem wpAnyL_take {i : Nat} {oi : Oper} {v : Value} {fuel : Nat} {listed : Array Bool} {a : Act} {w : World} (hi : ops[i]? = some oi)
    (hs : Region.noSelect ops = true) (hf : Region.free md ops listed i = true) (hr : (Region.ready md ops listed).contains i = true) (hz : waitsB md ops z i = true)
    (hQ : ∀ c a w, Q (.panic c) (a.put oi.dst v) w → Q (.panic c) a w) (hy : YieldsIf P ops S oi v a) (hS : S w)
    (h : wpAnyL P md ops Q S z fuel (listed.setIfInBounds i true) (a.put oi.dst v) w) : wpAnyL P md ops Q S z (fuel + 1) listed a w :=
  wpAnyL_first hi (Region.noSelect_spec hs) hQ (waits_spec hz) fuel listed a w (Region.free_spec hi hf) (by simpa using hr) hy hS h
/-- one operation alone is ready -/
theorem wpAnyL_one {i : Nat} {o : Oper} {fuel : Nat} {listed : Array Bool} {a : Act} {w : World} (hr : Region.ready md ops listed = [i]) (ho : ops[i]? = some o)
    (h : ∀ K' : Act → World → Prop, Shut (∀ a w, (i ≠ z → S w) → ((i ≠ z → S w) → wpAnyL P md ops Q S z fuel (listed.setIfInBounds i true) a w) → K' a w) → if Region.wanted o (yielded ops a.tmps) = true then Oper.wp P o a w K' Q else K' (a.put o.dst undef) w) :
    wpAnyL P md ops Q S z (fuel + 1) listed a w := by
  refine ⟨fun h0 => (by rw [hr] at h0; cases h0), fun j hj => ?_⟩
  rw [hr, List.mem_singleton] at hj
  subst hj
  exact wpOp_step ho (fun K' hK => h K' (fun a w hS hW => hK a w ⟨hS, hW hS⟩))
theorem wpAnyL_done {listed : Array Bool} {a : Act} {w : World} (hr : Region.ready md ops listed = []) (h : Q .normal a w) :
    ∀ fuel, wpAnyL P md ops Q S z fuel listed a w
  | 0 => ⟨hr, h⟩
  | _ + 1 => ⟨fun _ => h, by rw [hr]; simp⟩
theorem wp_region_L {id : Nat} {a : Act} {w : World} (S : World → Prop) (z : Nat) (hm : P.follows .mixedOrders = true) (hS : S w.drew)
    (h : S w.drew → wpAnyL P .any ops Q S z ops.size (Array.replicate ops.size false) a w.drew) : (Code.region id ops true).wp P Q a w :=
  wp_region_any hm (wpAny_of_L _ _ _ _ (h hS))
theorem todoL {i : Nat} {is : List Nat} {oi : Oper} {v : Value} {fuel : Nat} {listed : Array Bool} {a : Act} {w : World} (hi : ops[i]? = some oi)
    (hk : (Region.noSelect ops && Region.free md ops listed i && (Region.ready md ops listed).contains i && waitsB md ops z i) = true)
    (hQ : ∀ c a w, Q (.panic c) (a.put oi.dst v) w → Q (.panic c) a w) (hS : S w) (hy : YieldsIf P ops S oi v a)
    (h : Todo is (wpAnyL P md ops Q S z fuel (listed.setIfInBounds i true) (a.put oi.dst v) w)) : Todo (i :: is) (wpAnyL P md ops Q S z (fuel + 1) listed a w) := by
  simp only [Bool.and_eq_true] at hk
  exact wpAnyL_take hi hk.1.1.1 hk.1.1.2 hk.1.2 hk.2 hQ hy hS h
end
section
open Go.RowKit
variable {F : Fence} {n : Nat} {P : Program} {ops : Array Oper} {Q : Exit → Act → World → Prop} {md : Region.Mode} {S : World → Prop} {zs : List Nat}
set_option linter.unusedVariables false
set_option linter.unusedSimpArgs false
/-- 'YieldsIf', and it is about to make no call -/
def YieldsIfF (P : Program) (ops : Array Oper) (S : World → Prop) (o : Oper) (v : Value) (a : Act) : Prop := YieldsIf P ops S o v a ∧ ∀ w, o.about P w a.eval = none
theorem YieldsIfF.wpOpIn {i : Nat} {o : Oper} {v : Value} {a : Act} (hro : F.round = none) (hi : ops[i]? = some o) (hy : YieldsIfF P ops S o v a)
    {K : Act → World → Prop} {w : World} (hS : S w) (h : K (a.put o.dst v) w) : wpOpIn F n P ops Q i K a w := by
  unfold Go.wpOpIn
  simp only [hi]
  have hab : ∀ f, o.about P w a.eval = some f → F.fn f := fun f hf => by rw [hy.2 w] at hf; cases hf
  rcases hy.1 with ⟨hw, hv⟩ | ⟨hw, rfl⟩
  · simp only [hw, if_true, Oper.wpIn, hro, Oper.semAt_none, hv w hS, Oper.uponIn]; exact ⟨hab, h⟩
  · simp only [hw, Bool.false_eq_true, if_false]; exact ⟨hab, h⟩
theorem YieldsIfF.of_same {o : Oper} {v : Value} {a a' : Act} (hy : YieldsIfF P ops S o v a) (he : execOp a'.eval o = execOp a.eval o)
    (hw : Region.wanted o (yielded ops a'.tmps) = Region.wanted o (yielded ops a.tmps)) (hb : ∀ w, o.about P w a'.eval = o.about P w a.eval) : YieldsIfF P ops S o v a' :=
  ⟨hy.1.of_same he hw, fun w => by rw [hb w]; exact hy.2 w⟩
theorem wpOpIn_putIf {j : Nat} {oi oj : Oper} {v : Value} (hro : F.round = none) (hj : ops[j]? = some oj) (hap : oi.apart ops oj = true)
    (hsi : ∀ cs b, oi.op ≠ .select cs b) (hsj : ∀ cs b, oj.op ≠ .select cs b)
    (hQ : ∀ c a w, Q (.panic c) (a.put oi.dst v) w → Q (.panic c) a w) {K : Act → World → Prop} {a : Act} {w : World}
    (hy : YieldsIfF P ops S oi v a) (h : wpOpIn F n P ops Q j K (a.put oi.dst v) w) :
    wpOpIn F n P ops Q j (fun a' w' => YieldsIfF P ops S oi v a' ∧ K (a'.put oi.dst v) w') a w := by
  obtain ⟨h1, h2, h3⟩ := Oper.apart_spec hap
  have keep : ∀ (a : Act), YieldsIfF P ops S oi v a → ∀ u, YieldsIfF P ops S oi v (a.put oj.dst u) := fun a hy u =>
    hy.of_same (execOp_put oi hsi a oj.dst u h3) (wanted_put oi a oj.dst u h3) (fun w => about_put oi w a oj.dst u h3)
  have keepD : ∀ d, YieldsIfF P ops S oi v { a with defers := d :: a.defers } := fun d => hy.of_same rfl rfl (fun _ => rfl)
  unfold wpOpIn at *
  simp only [hj] at *
  rw [wanted_put oj a oi.dst v h1, about_put oj w a oi.dst v h1] at h
  split
  · rename_i hw
    simp only [hw, if_true] at h
    unfold Oper.wpIn at *
    rw [about_put oj w a oi.dst v h1] at h
    refine ⟨h.1, ?_⟩
    have h := h.2
    rw [hro, Oper.semAt_none, execOp_put oj hsj a oi.dst v h1] at h
    rw [hro, Oper.semAt_none]
    generalize (execOp a.eval oj).run P w = r at *
    cases r with
    | ok x w' =>
      cases x <;> simp only [Oper.uponIn] at h ⊢
      case value u => exact ⟨keep a hy u, by rw [← Act.put_comm a v u h2]; exact h⟩
      case skip => exact ⟨keep a hy _, by rw [← Act.put_comm a v undef h2]; exact h⟩
      case defer d =>
        refine ⟨keep _ (keepD d) _, ?_⟩
        rw [← Act.put_comm _ v undef h2, ← Act.put_defers]
        exact h
      case enter f args =>
        refine ⟨h.1, CallsIn.mono h.2 fun e w'' he => ?_⟩
        cases e with
        | returned u => exact ⟨keep a hy u, by rw [← Act.put_comm a v u h2]; exact he⟩
        | panicked c => exact hQ _ _ _ he
        | outgrown => exact he
      case row row args => exact ⟨h.1, RowsIn.mono h.2 fun u w'' he => ⟨keep a hy u, by rw [← Act.put_comm a v u h2]; exact he⟩⟩
      case round l f tmps assign body =>
        refine ⟨h.1, RoundIn.mono h.2 fun e w'' he => ?_⟩
        cases e with
        | returned u => exact ⟨keep a hy u, by rw [← Act.put_comm a v u h2]; exact he⟩
        | panicked c => exact hQ _ _ _ he
        | outgrown => exact he
    | halt x w' =>
      cases x <;> simp only [Oper.uponIn] at h ⊢
      case panic u => exact hQ _ _ _ h
  · rename_i hw
    simp only [hw] at h
    exact ⟨h.1, keep a hy _, by rw [← Act.put_comm a v undef h2]; exact h.2⟩
def wpAnyInL (F : Fence) (n : Nat) (P : Program) (md : Region.Mode) (ops : Array Oper) (Q : Exit → Act → World → Prop) (S : World → Prop) (zs : List Nat) : Nat → Array Bool → Act → World → Prop
  | 0, listed, a, w => Region.ready md ops listed = [] ∧ Q .normal a w
  | fuel + 1, listed, a, w =>
    (Region.ready md ops listed = [] → Q .normal a w) ∧
    ∀ i ∈ Region.ready md ops listed, wpOpIn F n P ops Q i (fun a' w' => (i ∉ zs → S w') ∧ wpAnyInL F n P md ops Q S zs fuel (listed.setIfInBounds i true) a' w') a w
theorem wpAnyIn_of_L : ∀ (fuel : Nat) (listed : Array Bool) (a : Act) (w : World), wpAnyInL F n P md ops Q S zs fuel listed a w → wpAnyIn F n P md ops Q fuel listed a w
  | 0, _, _, _, h => h
  | fuel + 1, _, _, _, h => ⟨h.1, fun i hi => wpOpIn_mono (fun a' w' h' => wpAnyIn_of_L fuel _ a' w' h'.2) (h.2 i hi)⟩
/-- each of ch waits for i, or for one of ch -/
def chainB (md : Region.Mode) (ops : Array Oper) (i : Nat) (ch : List Nat) : Bool := ch.all fun c => (i :: ch).any fun p => waitsB md ops c p
theorem chain_spec {i : Nat} {ch : List Nat} (h : chainB md ops i ch = true) : ∀ c ∈ ch, ∃ p, (p = i ∨ p ∈ ch) ∧ ∀ o, ops[c]? = some o → ∃ e ∈ o.after, Region.binds md e = true ∧ e.on = p := fun c hc => by
  have h1 := List.all_eq_true.1 h c hc
  obtain ⟨p, hp, h2⟩ := List.any_eq_true.1 h1
  exact ⟨p, List.mem_cons.1 hp, waits_spec h2⟩
theorem wpAnyInL_first {i : Nat} {oi : Oper} {v : Value} {ch : List Nat} (hro : F.round = none) (hi : ops[i]? = some oi) (hsel : ∀ (j : Nat) (o : Oper) cs b, ops[j]? = some o → o.op ≠ .select cs b)
    (hQ : ∀ c a w, Q (.panic c) (a.put oi.dst v) w → Q (.panic c) a w) (hch : ∀ c ∈ ch, ∃ p, (p = i ∨ p ∈ ch) ∧ ∀ o, ops[c]? = some o → ∃ e ∈ o.after, Region.binds md e = true ∧ e.on = p) (hzs : ∀ z ∈ zs, z ∈ ch) :
    ∀ (fuel : Nat) (listed : Array Bool) (a : Act) (w : World),
      (∀ j oj, ops[j]? = some oj → j ≠ i → listed.getD j true = false → (∀ e ∈ oj.after, Region.binds md e = true → e.on ≠ i) → oi.apart ops oj = true) →
      (∀ c ∈ ch, listed.getD c true = false) →
      i ∈ Region.ready md ops listed → YieldsIfF P ops S oi v a → S w →
      wpAnyInL F n P md ops Q S zs fuel (listed.setIfInBounds i true) (a.put oi.dst v) w → wpAnyInL F n P md ops Q S zs (fuel + 1) listed a w := by
  intro fuel
  induction fuel with
  | zero =>
    intro listed a w _ _ hr hy hS H
    refine ⟨fun h => (by rw [h] at hr; cases hr), fun j hj => ?_⟩
    by_cases hji : j = i
    · subst hji; exact hy.wpOpIn hro hi hS ⟨fun _ => hS, H⟩
    · have := ready_mono hj hji
      rw [H.1] at this
      cases this
  | succ fuel ih =>
    intro listed a w hfree hun0 hr hy hS H
    refine ⟨fun h => (by rw [h] at hr; cases hr), fun j hj => ?_⟩
    by_cases hji : j = i
    · subst hji; exact hy.wpOpIn hro hi hS ⟨fun _ => hS, H⟩
    · have h1 := H.2 j (ready_mono hj hji)
      obtain ⟨hjun, oj, hoj, hall⟩ := mem_ready.1 hj
      have hwait : ∀ p, listed.getD p true = false → ∀ e ∈ oj.after, Region.binds md e = true → e.on ≠ p := fun p h0 e he hb heq => by
        have h1 := hall e he hb
        rw [heq] at h1
        rcases Nat.lt_or_ge p listed.size with h' | h'
        · simp [h'] at h0 h1; rw [h0] at h1; cases h1
        · simp [Array.getElem?_eq_none h'] at h1
      have hnot : ∀ e ∈ oj.after, Region.binds md e = true → e.on ≠ i := hwait i (mem_ready.1 hr).1
      have hjc : j ∉ ch := fun hc => by
        obtain ⟨p, hp, hw⟩ := hch j hc
        obtain ⟨e, he, hb, hon⟩ := hw oj hoj
        rcases hp with rfl | hp
        · exact hnot e he hb hon
        · exact hwait p (hun0 p hp) e he hb hon
      have hjz : j ∉ zs := fun h => hjc (hzs j h)
      have h2 := wpOpIn_putIf hro hoj (hfree j oj hoj hji hjun hnot) (fun cs b => hsel i oi cs b hi) (fun cs b => hsel j oj cs b hoj) hQ hy h1
      have hfree' : ∀ k ok, ops[k]? = some ok → k ≠ i → (listed.setIfInBounds j true).getD k true = false →
          (∀ e ∈ ok.after, Region.binds md e = true → e.on ≠ i) → oi.apart ops ok = true := fun k ok hk hki hun hno => by
        refine hfree k ok hk hki ?_ hno
        by_cases hjk : j = k
        · subst hjk; exact hjun
        · rw [Go.getD_set_ne true hjk] at hun; exact hun
      have hun' : ∀ c ∈ ch, (listed.setIfInBounds j true).getD c true = false := fun c hc => by
        rw [Go.getD_set_ne true (fun e => hjc (by subst e; exact hc))]
        exact hun0 c hc
      refine wpOpIn_mono (fun a' w' h3 => ⟨fun _ => h3.2.1 hjz, ih (listed.setIfInBounds j true) a' w' hfree' hun' (ready_mono hr (Ne.symm hji)) h3.1 (h3.2.1 hjz) ?_⟩) h2
      rw [Array.setIfInBounds_comm _ _ hji]
      exact h3.2.2
theorem wpAnyInL_take {i : Nat} {oi : Oper} {v : Value} {fuel : Nat} {listed : Array Bool} {a : Act} {w : World} (ch : List Nat) (hro : F.round = none) (hi : ops[i]? = some oi)
    (hs : Region.noSelect ops = true) (hf : Region.free md ops listed i = true) (hr : (Region.ready md ops listed).contains i = true) (hc : chainB md ops i ch = true) (hu : (ch.all fun c => !(listed.getD c true)) = true) (hzs : (zs.all fun z => ch.contains z) = true)
    (hQ : ∀ c a w, Q (.panic c) (a.put oi.dst v) w → Q (.panic c) a w) (hy : YieldsIf P ops S oi v a) (hab : ∀ w, oi.about P w a.eval = none) (hS : S w)
    (h : wpAnyInL F n P md ops Q S zs fuel (listed.setIfInBounds i true) (a.put oi.dst v) w) : wpAnyInL F n P md ops Q S zs (fuel + 1) listed a w :=
  wpAnyInL_first hro hi (Region.noSelect_spec hs) hQ (chain_spec hc) (fun z hz => by simpa using List.all_eq_true.1 hzs z hz) fuel listed a w (Region.free_spec hi hf) (fun c hcc => by simpa using List.all_eq_true.1 hu c hcc) (by simpa using hr) ⟨hy, hab⟩ hS h
/-- one operation alone is ready -/
theorem wpAnyInL_one {i : Nat} {o : Oper} {fuel : Nat} {listed : Array Bool} {a : Act} {w : World} (hr : Region.ready md ops listed = [i]) (ho : ops[i]? = some o)
    (h : ∀ K' : Act → World → Prop, Shut (∀ a w, (i ∉ zs → S w) → ((i ∉ zs → S w) → wpAnyInL F n P md ops Q S zs fuel (listed.setIfInBounds i true) a w) → K' a w) → if Region.wanted o (yielded ops a.tmps) = true then Oper.wpIn F n P o a w K' Q else (∀ f, o.about P w a.eval = some f → F.fn f) ∧ K' (a.put o.dst undef) w) :
    wpAnyInL F n P md ops Q S zs (fuel + 1) listed a w := by
  refine ⟨fun h0 => (by rw [hr] at h0; cases h0), fun j hj => ?_⟩
  rw [hr, List.mem_singleton] at hj
  subst hj
  exact wpOpIn_step ho (fun K' hK => h K' (fun a w hS hW => hK a w ⟨hS, hW hS⟩))
theorem wpAnyInL_done {listed : Array Bool} {a : Act} {w : World} (hr : Region.ready md ops listed = []) (h : Q .normal a w) :
    ∀ fuel, wpAnyInL F n P md ops Q S zs fuel listed a w
  | 0 => ⟨hr, h⟩
  | _ + 1 => ⟨fun _ => h, by rw [hr]; simp⟩
theorem wpIn_region_L {id : Nat} {a : Act} {w : World} (S : World → Prop) (zs : List Nat) (hm : P.follows .mixedOrders = true) (hS : S w.drew)
    (h : S w.drew → wpAnyInL F n P .any ops Q S zs ops.size (Array.replicate ops.size false) a w.drew) : (Code.region id ops true).wpIn F n P Q a w :=
  wpIn_region_any hm (wpAnyIn_of_L _ _ _ _ (h hS))
end
section
open Go.RowKit
set_option linter.unusedVariables false
set_option linter.unusedSimpArgs false
theorem madeP_len (z : Array Value) (m : Nat) : (madeCells z m).size = m := by
  simp [madeCells]
set_option maxRecDepth 100000 in
set_option maxHeartbeats 2000000 in
theorem cloneS_any {u : Value} {xs : List Int} {ad : Option Addr} {cap : Nat} {w : World} (A : ArgS w u xs ad cap) (hn : ad = none → cap = 0) (hx : xs.length ≤ 17592186044416) :
    Calls Tryz.prog 96 #[u] w fun e w' => ∃ r, e = .returned r ∧ ResS w.heap.size w' r xs ∧ Below w.heap.size w w' := by
  obtain ⟨i0, hi, hz0, hz1, hz2⟩ := info_parts infoS
  have q22 : ∀ (w : World) (a : Option Addr) (n c n' c' : Nat), (binOp .eql 43 (.slice a n c) (.slice none n' c')).run Tryz.prog w = .ok (.bool a.isNone) w := fun w a n c n' c' => Lib.run_eql_slice_nil w _ _ a n c n' c' Tryz.underlying43
  have HW := Lib.hid A.wf
  obtain ⟨rfl, lx, hle, wx⟩ := A
  clear wx
  cases ad with
  | none =>
    have hc := hn rfl
    subst hc
    obtain rfl : xs = [] := List.eq_nil_of_length_eq_zero (by omega)
    clear lx hle hn hx
    go_enter Tryz.func96, Tryz.ntmps96
    go_wp2
    go_ret
    exact ⟨_, rfl, ResS.nil _ _, Below.refl _ _⟩
  | some a =>
    have HC := Lib.hid (cells_argS (cap := cap) (lx.later ((Below.refl w.heap.size w).alloc (Nat.le_refl _) (.cells #[] 3))))
    clear lx hn
    go_enter Tryz.func96, Tryz.ntmps96
    go_wp2_with (at_builtin; refine wpList_append_own _ rfl _ _ 43 rfl w.heap.size 3 i0 (.int .i64 0) 1 8 Tryz.underlying43 hi hz0 hz1 hz2 rfl (by decide) _ _ _ rfl (World.ownsRow_made w #[] 0 (Nat.le_refl _) (Nat.zero_le _) rfl) a xs.length cap (xs.map (Value.int .i64)) rfl ?qc1 HC.out (ints_oneCell _ _) ?qc4 ?qc5 ?qc6 ?_)
    case qc1 => simp
    case qc4 => unfold maxLen; omega
    case qc5 => omega
    case qc6 => simp
    intro v' w1 hown hgrow hnil
    go_wp2
    go_ret
    refine ⟨v', rfl, ⟨?_, HW.out⟩, ?_⟩
    · unfold NumS; simpa using hown
    · exact ((Below.refl _ w).alloc (Nat.le_refl _) _).grown hgrow (by simp) (by intro k hk; simp [Value.ownBlock] at hk; omega)
/-- the first number that is not 0 -/
def orL : List Int → Int
  | [] => 0
  | x :: r => if x = 0 then orL r else x
theorem orL_nil {xs : List Int} (h : ∀ x ∈ xs, x = 0) : orL xs = 0 := by
  induction xs with
  | nil => rfl
  | cons x r ih =>
    unfold orL
    rw [if_pos (h x (by simp))]
    exact ih fun y hy => h y (by simp [hy])
theorem orL_at {xs : List Int} {k : Nat} {x : Int} (h : ∀ j, j < k → xs.getD j 0 = 0) (hk : xs[k]? = some x) (hx : x ≠ 0) : orL xs = x := by
  induction xs generalizing k with
  | nil => simp at hk
  | cons y r ih =>
    cases k with
    | zero =>
      simp at hk
      subst hk
      unfold orL
      rw [if_neg hx]
    | succ k =>
      have h0 := h 0 (by omega)
      simp at h0
      unfold orL
      rw [if_pos h0]
      exact ih (k := k) (fun j hj => by simpa using h (j + 1) (by omega)) (by simpa using hk)
set_option maxRecDepth 100000 in
set_option maxHeartbeats 2000000 in
theorem or_any {w : World} {xs : List Int} {b : Nat} {cap : Nat} (hc : ∀ k, k < xs.length → w.cell? ⟨b, k, none⟩ = some (.int .i64 (xs.getD k 0))) (hm : xs.length ≤ 1000000) :
    Calls Tryz.prog 148 #[.slice (some ⟨b, 0, none⟩) xs.length cap] w fun e w' => e = .returned (.int .i64 (orL xs)) ∧ w = w' := by
  obtain ⟨d, hd⟩ : ∃ d, orL xs = d := ⟨_, rfl⟩
  have HD := Lib.hid hd
  have HC := Lib.hid hc
  obtain ⟨m, hm2⟩ : ∃ m, xs.length = m := ⟨_, rfl⟩
  have HM := Lib.hid hm2
  rw [hd]
  rw [hm2] at hm ⊢
  clear hd hc hm2
  go_enter Tryz.func148, Tryz.ntmps148
  go_wp2_with fail
  go_loopw [5, 8] (fun _ i wr => ∃ k : Nat, i = .int .i64 k ∧ k ≤ m ∧ (∀ j, j < k → xs.getD j 0 = 0) ∧ w = wr) (fun _ i _ => m - (intOf i).toNat)
  case atStart => exact ⟨0, rfl, Nat.zero_le _, (fun j hj => by omega), by trivial⟩
  case round =>
    obtain ⟨k, rfl, hk, hall, rfl⟩ := hrel
    have HA := Lib.hid hall
    clear hall
    by_cases hlt : k < m
    · have c1 := HC.out k (by rw [HM.out]; exact hlt)
      obtain ⟨x, hx⟩ : ∃ x, xs.getD k 0 = x := ⟨_, rfl⟩
      rw [hx] at c1
      have HX := Lib.hid hx
      have hk0 : (0 : Int) ≤ (k : Int) := Int.natCast_nonneg _
      have hk1 : (k : Int) < (m : Int) := by omega
      clear hx
      by_cases e : x = 0
      · have hne : (x != 0) = false := by simp [e]
        go_wp2
        go_roundw
        case rel =>
          refine ⟨k + 1, by go_num, by omega, fun j hj => ?_, by trivial⟩
          by_cases h : j = k
          · rw [h, HX.out, e]
          · exact HA.out j (by omega)
        case measure => simp [intOf]; omega
      · have hne : (x != 0) = true := by simp [e]
        have hd : d = x := by
          rw [← HD.out]
          refine orL_at HA.out ?_ e
          have : k < xs.length := by rw [HM.out]; exact hlt
          rw [List.getElem?_eq_getElem this, ← HX.out]
          simp [this]
        subst hd
        go_wp2
        go_ret
        exact ⟨rfl, rfl⟩
    · obtain rfl : k = m := by omega
      have hk1 : ¬ (k : Int) < (k : Int) := by omega
      have hd : d = 0 := by
        rw [← HD.out]
        refine orL_nil fun x hx => ?_
        obtain ⟨j, hj, rfl⟩ := List.mem_iff_getElem.1 hx
        have h := HA.out j (by rw [← HM.out]; exact hj)
        simpa [hj] using h
      subst hd
      go_wp2
      go_ret
      exact ⟨rfl, rfl⟩
end
end Go.Proofs.YtjgiacghlkkjfaaGreatDoor
