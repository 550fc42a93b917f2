/-
  Package move as it landed: the iterator pairs. (Made by wip/gen/gen_mpair.py.)
-/
import Derived.Test.YtooglnhlhgmhdaaGreatZ1
import Derived.Test.YtooglnhlhgmhdaaGreatZ2
import Derived.Test.YtooglnhlhgmhdaaGreatZ3
import Derived.Test.YtooglnhlhgmhdaaGreatZ4
import Derived.Test.YtooglnhlhgmhdaaGreatZ5
import Derived.Test.YtooglnhlhgmhdaaGreatZ7
import Derived.Test.YtooglnhlhgmhdaaGreatZ10
import Derived.Test.YtooglnhlhgmhdaaGreatZ11
import Derived.Test.YtooglnhlhgmhdaaGreatZ12
import Derived.Test.YtooglnhlhgmhdaaGreatZ13
import Derived.Test.YtooglnhlhgmhdaaGreatZ14
import Derived.Test.YtooglnhlhgmhdaaGreatZ15
import Derived.Test.YtooglnhlhgmhdaaGreatZ16
import Derived.Test.YtooglnhlhgmhdaaGreatZ17
import Derived.WalkKit
import Derived.Test.YtooglnhlhgmhdaaGreatRows
import Derived.BigQuiet
import Derived.Deep.QuietTactic
import Derived.Lib.Hide
import Derived.Lib.Small
import Derived.Lib.Walk
import Derived.Lib.BitFns
import Derived.Maps.AppendAt
import Derived.RangeFuncNested
import Derived.RangeFuncBound
import Derived.RangeFuncCalls
import Derived.RangeFuncLeaves
import Derived.Shelf.Abstract
import Derived.OwnWalkIn
import Derived.TacticsInMore
import Derived.LoopNIn
import Derived.LoopIn
import Derived.RangeFuncBox
import Derived.Deep.RegionHeld3
import Derived.OrdersIn
import Derived.StillTailTactics
import Derived.RangeFuncFrom
import Derived.Laws.EntriesVeiled
import Derived.ProofKit
import Derived.OpenShut
import Derived.JoinedCond
import Derived.Carry
import Derived.Laws.AppendOwnNone
import Derived.Lib.ItoaNum
import Derived.Deep.RegionLaw
import Derived.WalkMore
import Derived.Lib.SmallJoins
import Derived.IntWalk
import Derived.Deep.DeepCutAuto
import Derived.Laws.OwnMore
import Derived.OrdersHeld
import Derived.Deep.RegionHeld
import Derived.ArgAppend
import Derived.Deep.Slices
import Derived.Laws.CopyOwn
import Derived.Lib.SliceRun
namespace Go.Proofs.YtooglnhlhgmhdaaGreat
set_option maxRecDepth 100000
section
open Go.RowKit
set_option linter.unusedVariables false
set_option linter.unusedSimpArgs false
/-- all parts are at most n limbs long -/
def lensQ (qs : List Q3) (n : Nat) : Prop := ∀ q ∈ qs, q.num.length ≤ n ∧ q.den.length ≤ n
theorem lensQ.of {qs : List Q3} {n : Nat} (h : sizeQs qs ≤ n) : lensQ qs n := fun q hq => by
  have := sizeQs_mem hq
  unfold sizeQ at this
  omega
/-- why there is no tensor of a shape and so many numbers -/
def makeC (s : List Int) (n : Nat) : Int := if mayC s ≠ 0 then mayC s else if (n : Int) ≠ countS s then 13 else 0
def noTensor : Value := .agg #[.slice none 0 0, .slice none 0 0]
def noRat : Value := .agg #[.bool false, .slice none 0 0, .slice none 0 0]
/-- the rational as it is answered -/
theorem ResQ.raw {base n : Nat} {w : World} {v : Value} {x : Rat} (h : ResQ base w v x n) : ∃ q : Q3, RawQ w v q ∧ q.rat = x ∧ q.num.length ≤ n ∧ q.den.length ≤ n ∧ okQ q = true := by
  obtain ⟨zs, ys, ad, bd, ca, cb, rfl, A, B, l1, l2⟩ := h
  have e : (Q3.mk (decide (x.num < 0)) zs ys).rat = x := by unfold Q3.rat; rw [A.eq, B.eq, ratOf_self]
  refine ⟨⟨decide (x.num < 0), zs, ys⟩, ⟨ad, bd, ca, cb, rfl, A.at_.2, B.at_.2, (Num.at_ A.num A.wf).2.2, (Num.at_ B.num B.wf).2.2⟩, e, l1, l2, ?_⟩
  unfold okQ validB isB
  rw [e]
  simp only [Bool.and_eq_true, decide_eq_true_eq, beq_iff_eq]
  exact ⟨by simp, ⟨A.full, A.eq⟩, B.full, B.eq⟩
/-- an answered tensor, as it is handed in again -/
theorem ResT.tens {base m : Nat} {w : World} {v : Value} {s : List Int} {L : List Rat} (h : ResT base w v s L m) : ∃ (qs : List Q3) (a b : Option Addr) (ca cb : Nat), TensQ w v s qs a ca b cb ∧ qs.map Q3.rat = L ∧ lensQ qs m ∧ ∀ q ∈ qs, okQ q = true := by
  obtain ⟨a, b, ca, cb, rfl, h1, h2⟩ := h
  obtain ⟨_, A, na⟩ := h1.at_
  obtain ⟨_, B, nb⟩ := h2.at_
  rcases B.els with e | ⟨bb, o, es, e, hc, hall⟩
  · subst e
    exact ⟨[], a, b, ca, cb, ⟨rfl, A, na, ⟨rfl, B.le, .inl rfl⟩, nb⟩, rfl, (fun q hq => by cases hq), fun q hq => by cases hq⟩
  · have hch : ∀ i, ∃ q : Q3, i < L.length → ∀ d x, es[i]? = some d → L[i]? = some x → RawQ w d.agg q ∧ q.rat = x ∧ q.num.length ≤ m ∧ q.den.length ≤ m ∧ okQ q = true := fun i => by
      by_cases hi : i < L.length
      · obtain ⟨d, x, g1, g2, g3⟩ := hall.at hi
        obtain ⟨q, k1, k2, k3, k4, k5⟩ := ResQ.raw g3
        refine ⟨q, fun _ d' x' e1 e2 => ?_⟩
        rw [g1] at e1
        rw [g2] at e2
        cases e1
        cases e2
        exact ⟨k1, k2, k3, k4, k5⟩
      · exact ⟨⟨false, [], []⟩, fun h => absurd h hi⟩
    obtain ⟨F, hF⟩ := Classical.axiomOfChoice hch
    have hl : ((List.range L.length).map F).length = L.length := by simp
    have hat : ∀ i q, ((List.range L.length).map F)[i]? = some q → i < L.length ∧ q = F i := fun i q hq => by
      have hlt : i < L.length := by
        rcases Nat.lt_or_ge i L.length with g | g
        · exact g
        · rw [List.getElem?_eq_none (by simpa using g)] at hq; cases hq
      rw [List.getElem?_map, List.getElem?_range hlt] at hq
      simp only [Option.map_some, Option.some.injEq] at hq
      exact ⟨hlt, hq.symm⟩
    refine ⟨(List.range L.length).map F, a, b, ca, cb, ⟨by rw [hl], A, na, ⟨rfl, by rw [hl]; exact B.le, .inr ⟨bb, o, es, e, hc, by rw [hl]; exact hall.1, fun i d q h1 hq => ?_⟩⟩, nb⟩, ?_, fun q hq => ?_, fun q hq => ?_⟩
    · obtain ⟨hlt, rfl⟩ := hat i q hq
      obtain ⟨d', x, g1, g2, _⟩ := hall.at hlt
      rw [h1] at g1
      cases g1
      exact (hF i hlt d x h1 g2).1
    · apply List.ext_getElem?
      intro i
      by_cases hlt : i < L.length
      · obtain ⟨d, x, g1, g2, _⟩ := hall.at hlt
        rw [List.getElem?_map, List.getElem?_map, List.getElem?_range hlt, g2]
        simp only [Option.map_some]
        rw [(hF i hlt d x g1 g2).2.1]
      · rw [List.getElem?_eq_none (by simpa using hlt), List.getElem?_eq_none (by omega)]
    · obtain ⟨i, hi, rfl⟩ := List.mem_iff_getElem.1 hq
      obtain ⟨hlt, he⟩ := hat i _ (List.getElem?_eq_getElem hi)
      obtain ⟨d, x, g1, g2, _⟩ := hall.at hlt
      rw [he]
      exact ⟨(hF i hlt d x g1 g2).2.2.1, (hF i hlt d x g1 g2).2.2.2.1⟩
    · obtain ⟨i, hi, rfl⟩ := List.mem_iff_getElem.1 hq
      obtain ⟨hlt, he⟩ := hat i _ (List.getElem?_eq_getElem hi)
      obtain ⟨d, x, g1, g2, _⟩ := hall.at hlt
      rw [he]
      exact (hF i hlt d x g1 g2).2.2.2.2
end
section
open Go.RowKit
set_option linter.unusedVariables false
set_option linter.unusedSimpArgs false
theorem make_rowP (m : Nat) (hc : m ≤ 1000000000000) (w : World) :
    (Instr.makeSlice 24 (.int .i64 0) (.int .i64 (m : Int))).run Tryz.prog w = .ok (.slice (some ⟨w.heap.size, 0, none⟩) 0 m) (w.alloc (.cells (madeCells #[.bool false, .slice none 0 0, .slice none 0 0] (m * 3)) 58)) := by
  obtain ⟨i0, hi, hz0, hz1, hz2⟩ := info_parts infoQ
  have h := run_make (P := Tryz.prog) w 24 58 i0 (.agg #[.bool false, .slice none 0 0, .slice none 0 0]) Tryz.underlying24 hi hz0 .i64 .i64 0 m (by omega) (by omega) (by rw [hz2]; omega) (by omega)
  simpa [hz1, Value.cells] using h
theorem madeP_len (z : Array Value) (m : Nat) : (madeCells z m).size = m := by
  simp [madeCells]
theorem cells_argU {w : World} {ys : List Int} {ad : Addr} {cap : Nat} (lx : Lim w (some ad) ys) : ∀ j u, (ys.map (Value.int .u32))[j]? = some u → w.cell? (ad.add j) = some u := by
  intro j u hj
  rcases lx with rfl | ⟨b, off, e, hc⟩
  · simp at hj
  · cases e
    rw [List.getElem?_map] at hj
    have hjl : j < ys.length := by
      rcases Nat.lt_or_ge j ys.length with h | h
      · exact h
      · rw [List.getElem?_eq_none h] at hj; cases hj
    rw [show (⟨b, off, none⟩ : Addr).add j = ⟨b, off + j, none⟩ from (by unfold Addr.add; split <;> simp_all), hc j hjl, ← hj]
    simp [hjl]
set_option maxRecDepth 100000 in
set_option maxHeartbeats 2000000 in
theorem cloneN_any {u : Value} {xs : List Int} {ad : Option Addr} {cap : Nat} {w : World} (A : Arg w u xs ad cap) (hn : ad = none → cap = 0) (hx : xs.length ≤ 134217728) :
    Calls Tryz.prog 88 #[u] w fun e w' => ∃ r, e = .returned r ∧ Num w.heap.size w' r xs ∧ Below w.heap.size w w' := by
  obtain ⟨i0, hi, hz0, hz1, hz2⟩ := info_parts infoLimb
  have q22 : ∀ (w : World) (a : Option Addr) (n c n' c' : Nat), (binOp .eql 56 (.slice a n c) (.slice none n' c')).run Tryz.prog w = .ok (.bool a.isNone) w := fun w a n c n' c' => Lib.run_eql_slice_nil w _ _ a n c n' c' Tryz.underlying56
  obtain ⟨rfl, lx, hle, wx⟩ := A
  clear wx
  cases ad with
  | none =>
    have hc := hn rfl
    subst hc
    obtain rfl : xs = [] := List.eq_nil_of_length_eq_zero (by omega)
    clear lx hle hn hx
    go_enter Tryz.func88, Tryz.ntmps88
    go_wp2
    go_ret
    exact ⟨_, rfl, World.ownsRow_nil _ _ _ _, Below.refl _ _⟩
  | some a =>
    have HC := Lib.hid (cells_argU (cap := cap) (lx.later ((Below.refl w.heap.size w).alloc (Nat.le_refl _) (.cells #[] 63))))
    clear lx hn
    go_enter Tryz.func88, Tryz.ntmps88
    go_wp2_with (at_builtin; refine wpList_append_own _ rfl _ _ 56 rfl w.heap.size 63 i0 (.int .u32 0) 1 4 Tryz.underlying56 hi hz0 hz1 hz2 rfl (by decide) _ _ _ rfl (World.ownsRow_made w #[] 0 (Nat.le_refl _) (Nat.zero_le _) rfl) a xs.length cap (xs.map (Value.int .u32)) rfl ?qc1 HC.out (ints_oneCell _ _) ?qc4 ?qc5 ?qc6 ?_)
    case qc1 => simp
    case qc4 => unfold maxLen; omega
    case qc5 => omega
    case qc6 => simp
    intro v' w1 hown hgrow hnil
    go_wp2
    go_ret
    refine ⟨v', rfl, ?_, ?_⟩
    · unfold Num; simpa using hown
    · exact ((Below.refl _ w).alloc (Nat.le_refl _) _).grown hgrow (by simp) (by intro k hk; simp [Value.ownBlock] at hk; omega)
set_option maxRecDepth 100000 in
set_option maxHeartbeats 2000000 in
theorem cloneS_any {u : Value} {xs : List Int} {ad : Option Addr} {cap : Nat} {w : World} (A : ArgS w u xs ad cap) (hn : ad = none → cap = 0) (hx : xs.length ≤ 17592186044416) :
    Calls Tryz.prog 60 #[u] w fun e w' => ∃ r, e = .returned r ∧ ResS w.heap.size w' r xs ∧ Below w.heap.size w w' := by
  obtain ⟨i0, hi, hz0, hz1, hz2⟩ := info_parts infoS
  have q22 : ∀ (w : World) (a : Option Addr) (n c n' c' : Nat), (binOp .eql 23 (.slice a n c) (.slice none n' c')).run Tryz.prog w = .ok (.bool a.isNone) w := fun w a n c n' c' => Lib.run_eql_slice_nil w _ _ a n c n' c' Tryz.underlying23
  have HW := Lib.hid A.wf
  obtain ⟨rfl, lx, hle, wx⟩ := A
  clear wx
  cases ad with
  | none =>
    have hc := hn rfl
    subst hc
    obtain rfl : xs = [] := List.eq_nil_of_length_eq_zero (by omega)
    clear lx hle hn hx
    go_enter Tryz.func60, Tryz.ntmps60
    go_wp2
    go_ret
    exact ⟨_, rfl, ResS.nil _ _, Below.refl _ _⟩
  | some a =>
    have HC := Lib.hid (cells_argS (cap := cap) (lx.later ((Below.refl w.heap.size w).alloc (Nat.le_refl _) (.cells #[] 3))))
    clear lx hn
    go_enter Tryz.func60, Tryz.ntmps60
    go_wp2_with (at_builtin; refine wpList_append_own _ rfl _ _ 23 rfl w.heap.size 3 i0 (.int .i64 0) 1 8 Tryz.underlying23 hi hz0 hz1 hz2 rfl (by decide) _ _ _ rfl (World.ownsRow_made w #[] 0 (Nat.le_refl _) (Nat.zero_le _) rfl) a xs.length cap (xs.map (Value.int .i64)) rfl ?qc1 HC.out (ints_oneCell _ _) ?qc4 ?qc5 ?qc6 ?_)
    case qc1 => simp
    case qc4 => unfold maxLen; omega
    case qc5 => omega
    case qc6 => simp
    intro v' w1 hown hgrow hnil
    go_wp2
    go_ret
    refine ⟨v', rfl, ⟨?_, HW.out⟩, ?_⟩
    · unfold NumS; simpa using hown
    · exact ((Below.refl _ w).alloc (Nat.le_refl _) _).grown hgrow (by simp) (by intro k hk; simp [Value.ownBlock] at hk; omega)
/-- the first number that is not 0 -/
def orL : List Int → Int
  | [] => 0
  | x :: r => if x = 0 then orL r else x
theorem orL_nil {xs : List Int} (h : ∀ x ∈ xs, x = 0) : orL xs = 0 := by
  induction xs with
  | nil => rfl
  | cons x r ih =>
    unfold orL
    rw [if_pos (h x (by simp))]
    exact ih fun y hy => h y (by simp [hy])
theorem orL_at {xs : List Int} {k : Nat} {x : Int} (h : ∀ j, j < k → xs.getD j 0 = 0) (hk : xs[k]? = some x) (hx : x ≠ 0) : orL xs = x := by
  induction xs generalizing k with
  | nil => simp at hk
  | cons y r ih =>
    cases k with
    | zero =>
      simp at hk
      subst hk
      unfold orL
      rw [if_neg hx]
    | succ k =>
      have h0 := h 0 (by omega)
      simp at h0
      unfold orL
      rw [if_pos h0]
      exact ih (k := k) (fun j hj => by simpa using h (j + 1) (by omega)) (by simpa using hk)
set_option maxRecDepth 100000 in
set_option maxHeartbeats 2000000 in
theorem or_any {w : World} {xs : List Int} {b : Nat} {cap : Nat} (hc : ∀ k, k < xs.length → w.cell? ⟨b, k, none⟩ = some (.int .i64 (xs.getD k 0))) (hm : xs.length ≤ 1000000) :
    Calls Tryz.prog 39 #[.slice (some ⟨b, 0, none⟩) xs.length cap] w fun e w' => e = .returned (.int .i64 (orL xs)) ∧ w = w' := by
  obtain ⟨d, hd⟩ : ∃ d, orL xs = d := ⟨_, rfl⟩
  have HD := Lib.hid hd
  have HC := Lib.hid hc
  obtain ⟨m, hm2⟩ : ∃ m, xs.length = m := ⟨_, rfl⟩
  have HM := Lib.hid hm2
  rw [hd]
  rw [hm2] at hm ⊢
  clear hd hc hm2
  go_enter Tryz.func39, Tryz.ntmps39
  go_wp2_with fail
  go_loopw [5, 8] (fun _ i wr => ∃ k : Nat, i = .int .i64 k ∧ k ≤ m ∧ (∀ j, j < k → xs.getD j 0 = 0) ∧ w = wr) (fun _ i _ => m - (intOf i).toNat)
  case atStart => exact ⟨0, rfl, Nat.zero_le _, (fun j hj => by omega), by trivial⟩
  case round =>
    obtain ⟨k, rfl, hk, hall, rfl⟩ := hrel
    have HA := Lib.hid hall
    clear hall
    by_cases hlt : k < m
    · have c1 := HC.out k (by rw [HM.out]; exact hlt)
      obtain ⟨x, hx⟩ : ∃ x, xs.getD k 0 = x := ⟨_, rfl⟩
      rw [hx] at c1
      have HX := Lib.hid hx
      have hk0 : (0 : Int) ≤ (k : Int) := Int.natCast_nonneg _
      have hk1 : (k : Int) < (m : Int) := by omega
      clear hx
      by_cases e : x = 0
      · have hne : (x != 0) = false := by simp [e]
        go_wp2
        go_roundw
        case rel =>
          refine ⟨k + 1, by go_num, by omega, fun j hj => ?_, by trivial⟩
          by_cases h : j = k
          · rw [h, HX.out, e]
          · exact HA.out j (by omega)
        case measure => simp [intOf]; omega
      · have hne : (x != 0) = true := by simp [e]
        have hd : d = x := by
          rw [← HD.out]
          refine orL_at HA.out ?_ e
          have : k < xs.length := by rw [HM.out]; exact hlt
          rw [List.getElem?_eq_getElem this, ← HX.out]
          simp [this]
        subst hd
        go_wp2
        go_ret
        exact ⟨rfl, rfl⟩
    · obtain rfl : k = m := by omega
      have hk1 : ¬ (k : Int) < (k : Int) := by omega
      have hd : d = 0 := by
        rw [← HD.out]
        refine orL_nil fun x hx => ?_
        obtain ⟨j, hj, rfl⟩ := List.mem_iff_getElem.1 hx
        have h := HA.out j (by rw [← HM.out]; exact hj)
        simpa [hj] using h
      subst hd
      go_wp2
      go_ret
      exact ⟨rfl, rfl⟩
end
section
open Go.RowKit
set_option linter.unusedVariables false
set_option linter.unusedSimpArgs false
/-- limbs of a number that may be, copied -/
theorem copied_res {base n : Nat} {w : World} {q : Q3} {ad bd : Option Addr} {ca cb : Nat} (hok : okQ q = true) (A : Num base w (.slice ad q.num.length ca) q.num) (B : Num base w (.slice bd q.den.length cb) q.den) (wa : Wf q.num) (wb : Wf q.den) (h1 : q.num.length ≤ n) (h2 : q.den.length ≤ n) :
    ResQ base w (.agg #[.bool q.neg, .slice ad q.num.length ca, .slice bd q.den.length cb]) q.rat n := by
  unfold okQ validB isB at hok
  simp only [Bool.and_eq_true, decide_eq_true_eq, beq_iff_eq] at hok
  obtain ⟨e1, ⟨f1, v1⟩, f2, v2⟩ := hok
  exact ⟨q.num, q.den, ad, bd, ca, cb, by rw [e1], ⟨A, wa, f1, v1⟩, ⟨B, wb, f2, v2⟩, h1, h2⟩
end
section
open Go.RowKit
set_option linter.unusedVariables false
set_option linter.unusedSimpArgs false
/-- a number of the reference: in new memory, or in what was handed in -/
def ResA (base : Nat) (w0 W : World) (v : Value) (x : Rat) (n : Nat) : Prop := ResR base W v x n ∨ ArgR w0 v x n
theorem ResA.later {base n : Nat} {w0 W W' : World} {v : Value} {x : Rat} (h : ResA base w0 W v x n) (hb : Below W.heap.size W W') : ResA base w0 W' v x n := h.imp (fun h => h.later hb) id
theorem ResA.far {base n g : Nat} {w0 W W' : World} {v : Value} {x : Rat} {t : TypeId} {cs : Array Value} (h : ResA base w0 W v x n) (R : Row W g t cs) (ht : t ≠ 3) (hk : ∀ k, k ≠ g → W'.heap[k]? = W.heap[k]?) : ResA base w0 W' v x n := h.imp (fun h => h.far R ht hk) id
theorem ResA.apart {base base' n : Nat} {T : TypeId} {w0 w w' : World} {v u : Value} {es : List E3} {x : Rat} {o : Obj} (h : OwnE base T w v es) (hg : (w.alloc o).grownBy w' v.ownBlock) (hT : T ≠ 3) (k : ResA base' w0 w u x n) : ResA base' w0 w' u x n := k.imp (fun k => ResR.apart h hg hT k) id
theorem ResA.arg {base n : Nat} {w0 W : World} {v : Value} {x : Rat} (h : ResA base w0 W v x n) (hb : Below w0.heap.size w0 W) : ArgR W v x n := h.elim (fun h => h.arg) (fun h => h.later hb)
theorem ArgR.shape {w : World} {v : Value} {x : Rat} {n : Nat} (h : ArgR w v x n) : ∃ m a1 n1 c1 a2 n2 c2, v = .agg #[.bool m, .slice a1 n1 c1, .slice a2 n2 c2] := by
  obtain ⟨_, _, _, _, _, _, rfl, _⟩ := h
  exact ⟨_, _, _, _, _, _, _, rfl⟩
/-- a tensor of the reference, wherever it lies -/
def TenR (w : World) (v : Value) (s : List Int) (L : List Rat) (n : Nat) : Prop := ∃ a ca b cb, TensR w v s L n a ca b cb
theorem TenR.later {w w' : World} {v : Value} {s : List Int} {L : List Rat} {n : Nat} (h : TenR w v s L n) (hb : Below w.heap.size w w') : TenR w' v s L n := by
  obtain ⟨a, ca, b, cb, h⟩ := h
  exact ⟨a, ca, b, cb, h.later hb⟩
theorem pushE2 {α : Type} {B base : Nat} {T : TypeId} {P : World → Value → α → Prop} {w wr w1 : World} {v v' : Value} {es : List E3} {L : List α} {e : E3} {x : α} {o : Obj} (hb : Below B w wr) (hB : B ≤ base) (hbase : base ≤ wr.heap.size)
    (hown : OwnE base T wr v es) (hall : AllE (P wr) es L) (hx : P wr e.agg x) (hst : ∀ u y, P wr u y → P w1 u y)
    (hown' : w1.ownsRow base T 3 v' (es.length + 1) (flat3 es ++ [e.a, e.b, e.c])) (hgrow : (wr.alloc o).grownBy w1 v.ownBlock) : RowO base T P w1 v' (L ++ [x]) ∧ Below B w w1 := by
  refine ⟨⟨es ++ [e], ?_, (hall.snoc hx).imp fun u y _ => hst u y⟩, (hb.alloc (Nat.le_trans hB hbase) o).grown hgrow (by simp; omega) (fun k hk => Nat.le_trans hB (hown.lt k hk).1)⟩
  unfold OwnE
  rw [List.length_append, flat3_append]
  exact hown'
end
section
open Go.RowKit
set_option linter.unusedVariables false
set_option linter.unusedSimpArgs false
/-- what an operation on tensors answers: a tensor, or why there is none -/
def One (base : Nat) (w' : World) (e : Ending) (c : Int) (s : List Int) (L : List Rat) (N : Nat) : Prop :=
  (c = 0 ∧ ∃ r, e = .returned (.tuple #[r, .int .i64 0]) ∧ ResT base w' r s L N) ∨ (c ≠ 0 ∧ e = .returned (.tuple #[noTensor, .int .i64 c]))
theorem mayT_valid {s : List Int} {qs : List Q3} (h : mayT s qs = 0) : (qs.length : Int) = countS s ∧ ∀ q ∈ qs, okQ q = true := by
  unfold mayT at h
  split at h
  · rename_i h1; exact absurd h h1
  · split at h
    · cases h
    · rename_i h2
      split at h
      · rename_i h3
        exact ⟨by omega, List.all_eq_true.1 h3⟩
      · cases h
theorem mayT_rank {s : List Int} {qs : List Q3} (h : mayT s qs = 0) : mayC s = 0 := by
  unfold mayT at h
  split at h
  · rename_i h1; exact absurd h h1
  · rename_i h1; simpa using h1
end
section
open Go.RowKit
set_option linter.unusedVariables false
set_option linter.unusedSimpArgs false
set_option maxRecDepth 100000 in
set_option maxHeartbeats 4000000 in
theorem filled_any {N F : Nat} {cap : Array Value} {f : List Int → Rat} {w : World} {v : Value} {s : List Int} {a : Option Addr} {ca : Nat} (A : ArgS w v s a ca) (na : a = none → ca = 0) (ok : OkS s)
    (heF : ∀ args w, (callFunc F args).run Tryz.prog w = .ok (.enter F args) w)
    (hdo : ∀ (B : Nat) (W : World) (x : Value) (xs : List Int), inS s xs → w.heap.size ≤ B → B ≤ W.heap.size → Below w.heap.size w W → ResS B W x xs → Calls Tryz.prog F (#[x] ++ cap) W fun e w' => ∃ r, e = .returned r ∧ ResQ B w' r (f xs) N ∧ Below B W w') :
    Calls Tryz.prog 85 #[v, .func (.func F) #[] cap] w fun e w' => ∃ r, e = .returned r ∧ RowO w.heap.size 58 (fun W v x => ResQ w.heap.size W v x N) w' r (fillV s f) ∧ Below w.heap.size w w' := by
  obtain ⟨i0, hi, hz0, hz1, hz2⟩ := info_parts infoQ
  have HA := Lib.hid A
  have HDO := Lib.hid hdo
  have hcnt := countS_eq A
  have hpr := prodS_pos ok.pos
  have hfew := ok.few
  obtain ⟨M, hM⟩ : ∃ M : Nat, prodS s = (M : Int) := ⟨(prodS s).toNat, by omega⟩
  rw [ok.count, hM] at hcnt
  have hM1 : M ≤ 1024 := by omega
  have HM := Lib.hid hM
  have HF : Hid (fillV s f = (List.range M).map fun k : Nat => f (idxS s (k : Int))) := Lib.hid (by unfold fillV; rw [hM]; simp)
  have hmk := make_rowP M (by omega)
  have hrk : s.length ≤ 4 := ok.rank
  have HNA := Lib.hid na
  have HOK := Lib.hid ok
  obtain rfl := A.is
  clear A hdo na ok hM hpr hfew
  go_enter Tryz.func85, Tryz.ntmps85
  go_wp2_with (go_at_call 93; refine hcnt.mono ?_; rintro e w1 ⟨rfl, rfl⟩)
  obtain ⟨V, hV⟩ : ∃ V, w.alloc (.cells (madeCells #[.bool false, .slice none 0 0, .slice none 0 0] (M * 3)) 58) = V := ⟨_, rfl⟩
  have r2 : OwnE w.heap.size 58 V (.slice (some ⟨w.heap.size, 0, none⟩) 0 M) [] := by
    rw [← hV]
    exact (show OwnE w.heap.size 58 _ (.slice (some ⟨w.heap.size, 0, none⟩) 0 M) [] from World.ownsRow_made w _ M (Nat.le_refl _) (by unfold maxLen; omega) (madeP_len _ _))
  have hBV : Below w.heap.size w V := by rw [← hV]; exact (Below.refl _ _).alloc (Nat.le_refl _) _
  (try rw [hV])
  have H2 := Lib.hid r2
  have HB := Lib.hid hBV
  clear r2 hBV hmk hV hcnt
  go_loopw [6, 7, 8, 9, 15] (fun v _ _ _ i wr => ∃ (k : Nat), i = .int .i64 (k : Int) ∧ k ≤ M ∧
    RowO w.heap.size 58 (fun W v x => ResQ w.heap.size W v x N) wr v ((List.range k).map fun j : Nat => f (idxS s (j : Int))) ∧ Below w.heap.size w wr) (fun _ _ _ _ i _ => M - (intOf i).toNat)
  case atStart => exact ⟨0, rfl, Nat.zero_le _, ⟨[], H2.out, AllE.nil _⟩, HB.out⟩
  case round =>
    obtain ⟨k, rfl, hk, ⟨es, hown, hall⟩, hb⟩ := hrel
    have hsz := hb.size
    obtain ⟨av, cv, rfl⟩ := ownT_slice hown
    have hle : es.length = k := by rw [hall.1]; simp
    subst hle
    by_cases hlt : es.length < M
    · have hpl := place_idx HOK.out.pos (n := (es.length : Int)) (by omega) (by rw [HM.out]; omega)
      have hix := indexS_any (n := (es.length : Int)) (HA.out.later hb) HNA.out (by omega) (by omega) (by omega)
      rw [idxC_in (mayC_ok HOK.out) (by omega) (by rw [HM.out]; omega), idxV_in (idxC_in (mayC_ok HOK.out) (by omega) (by rw [HM.out]; omega))] at hix
      have HIN := Lib.hid hpl.1
      have hltI : (es.length : Int) < (M : Int) := by omega
      clear hpl
      go_wp2_with fail
      refine hix.mono ?_
      rintro e w3 ⟨r3, rfl, R3, hb3⟩
      have hsz3 := hb3.size
      have hcall := HDO.out wr.heap.size w3 r3 _ HIN.out hsz hb3.size (hb.trans (hb3.mono hsz)) R3
      clear R3
      go_wp2_with fail
      refine hcall.mono ?_
      rintro e w5 ⟨rv, rfl, qv, hb5⟩
      have Q5 := Lib.hid qv
      obtain ⟨m5, f1, l1, i1, f2, l2, i2, rfl⟩ := qv.shape
      clear qv
      have hb5w : Below wr.heap.size wr w5 := hb3.trans hb5
      have hown5 : OwnE w.heap.size 58 w5 (.slice av es.length cv) es := hown.later hb5w
      have hall5 : AllE (fun v x => ResQ w.heap.size w5 v x N) es ((List.range es.length).map fun j : Nat => f (idxS s (j : Int))) := hall.imp fun u x _ h => h.later hb5w
      have hB5 : Below w.heap.size w w5 := hb.trans (hb5w.mono hsz)
      have hsz5 := hB5.size
      have hx5 : ResQ w.heap.size w5 (E3.agg ⟨.bool m5, .slice f1 l1 i1, .slice f2 l2 i2⟩) (f (idxS s (es.length : Int))) N := Q5.out.mono hsz
      have HALL := Lib.hid hall5
      clear hall hall5 hown
      go_wp2_with (at_builtin; refine wpList_append_own _ rfl _ _ 24 rfl w.heap.size 58 i0 _ 3 56 Tryz.underlying24 hi hz0 hz1 hz2 rfl (by decide) _ es.length (flat3 es) rfl (hown5.later ((Below.refl _ _).alloc (Nat.le_refl _) _)) ⟨w5.heap.size, 0, none⟩ 1 1 [.bool m5, .slice f1 l1 i1, .slice f2 l2 i2] rfl rfl (cell_three_new _ _ _ _ _) (by simp [Value.oneCell']) (by unfold maxLen; omega) (by omega) (by simp; omega) ?_)
      intro v' w6 hown' hgrow _
      obtain ⟨av', cv', rfl⟩ := ownT_slice hown'
      go_wp2
      go_roundw
      case rel =>
        obtain ⟨hrow6, hb6⟩ := pushE (P := fun W v x => ResQ w.heap.size W v x N) (e := ⟨.bool m5, .slice f1 l1 i1, .slice f2 l2 i2⟩) hB5 hsz5 hown5 HALL.out hx5 (fun u y h => ResQ.apart hown5 hgrow (by decide) h) hown' hgrow
        refine ⟨es.length + 1, by go_num, by omega, ?_, hb6⟩
        rw [List.range_succ, List.map_append]
        exact hrow6
      case measure => simp [intOf]; omega
    · have hkl : es.length = M := by omega
      have hltI : ¬ (es.length : Int) < (M : Int) := by omega
      have hrow : RowO w.heap.size 58 (fun W v x => ResQ w.heap.size W v x N) wr (.slice av es.length cv) (fillV s f) := ⟨es, hown, by rw [HF.out, ← hkl]; exact hall⟩
      have HROW := Lib.hid hrow
      clear hown hall hkl hrow hlt
      go_wp2_with fail
      go_ret
      exact ⟨_, rfl, HROW.out, hb⟩
set_option maxRecDepth 100000 in
set_option maxHeartbeats 4000000 in
theorem built_any {N F : Nat} {cap : Array Value} {f : List Int → Rat} {w : World} {v : Value} {s : List Int} {a : Option Addr} {ca : Nat} (A : ArgS w v s a ca) (na : a = none → ca = 0) (ok : OkS s)
    (heF : ∀ args w, (callFunc F args).run Tryz.prog w = .ok (.enter F args) w)
    (hdo : ∀ (B : Nat) (W : World) (x : Value) (xs : List Int), inS s xs → w.heap.size ≤ B → B ≤ W.heap.size → Below w.heap.size w W → ResS B W x xs → Calls Tryz.prog F (#[x] ++ cap) W fun e w' => ∃ r, e = .returned r ∧ ResQ B w' r (f xs) N ∧ Below B W w') :
    Calls Tryz.prog 42 #[v, .func (.func F) #[] cap] w fun e w' => ∃ r, e = .returned r ∧ ResT w.heap.size w' r s (fillV s f) N ∧ Below w.heap.size w w' := by
  have hrk : s.length ≤ 4 := ok.rank
  have HA := Lib.hid A
  obtain rfl := A.is
  obtain ⟨W, hW⟩ : ∃ W, w.alloc (.cells #[.slice none 0 0, .slice none 0 0] 26) = W := ⟨_, rfl⟩
  have R0 : Row W w.heap.size 26 #[.slice none 0 0, .slice none 0 0] := by rw [← hW]; exact Row.new _ _ _
  have hBW : Below w.heap.size w W := by rw [← hW]; exact (Below.refl _ _).alloc (Nat.le_refl _) _
  have hs : W.heap.size = w.heap.size + 1 := by rw [← hW]; simp
  have hc := cloneS_any (A.later hBW) na (by omega)
  have hf := fun (X : World) (hX : Below W.heap.size W X) => filled_any (N := N) (F := F) (cap := cap) (f := f) (HA.out.later (hBW.trans (hX.mono hBW.size))) na ok heF
    (fun B Y x xs h1 h2 h3 h4 h5 => hdo B Y x xs h1 (by have := hX.size; omega) h3 (hBW.trans ((hX.trans (h4.mono hX.size)).mono hBW.size)) h5)
  have HFL := Lib.hid hf
  have HL := Lib.hid (fillV_len s f)
  obtain ⟨L, hL⟩ : ∃ L, fillV s f = L := ⟨_, rfl⟩
  rw [hL] at HFL ⊢
  clear A hdo na ok hf hL
  go_enter Tryz.func42, Tryz.ntmps42
  (try rw [hW])
  go_wp2_with (go_at_call 60; refine hc.mono ?_; rintro e w1 ⟨r, rfl, hr, hb⟩; obtain ⟨a', ca', rfl, hr, -, -⟩ := hr.slice)
  refine (HFL.out w1 hb).mono ?_
  rintro e w2 ⟨r2, rfl, RO, hb2⟩
  have P2 := (R0.later hb).later hb2
  have s1 := hb.size
  have s2 := hb2.size
  obtain ⟨es, hown, hall⟩ := RO
  obtain ⟨b', cb', rfl⟩ := ownT_slice hown
  have HRS := Lib.hid (hr.later hb2)
  have hlen : es.length = L.length := hall.1
  have HO : Hid (RowO w1.heap.size 58 (fun W v x => ResQ w1.heap.size W v x N) w2 (.slice b' es.length cb') L) := Lib.hid ⟨es, hown, hall⟩
  have HLEN := Lib.hid hlen
  clear hown hall hr hlen
  obtain ⟨u0, u1, g0, g1⟩ := P2.two
  go_wp2_with fail
  have P3 := P2.set2 (.slice a' s.length ca') (.slice b' es.length cb')
  obtain ⟨z0, z1, _, _⟩ := P3.two
  refine bodyPost_ret (v := .agg #[.slice a' s.length ca', .slice b' es.length cb']) (by simp [results, Tryz.results42, go_sem, z0, z1]) rfl ⟨_, rfl, ?_, below_set2 ((hBW.trans (hb.mono (by omega))).trans (hb2.mono (by omega))) (by omega) _ _⟩
  have hR : ResT w.heap.size w2 (.agg #[.slice a' s.length ca', .slice b' es.length cb']) s L N := ⟨a', b', ca', cb', by rw [HLEN.out], (HRS.out.mono (by omega)), by rw [← HLEN.out]; exact HO.out.mono (by omega) (fun v x h => h.mono (by omega))⟩
  exact hR.far P2 (by decide) (by decide) (by decide) (kept2 _ _)
set_option maxRecDepth 100000 in
set_option maxHeartbeats 4000000 in
theorem element_any {n : Nat} {w : World} {v u : Value} {s xs : List Int} {qs : List Q3} {a b ad : Option Addr} {ca cb cd : Nat} (T : TensQ w v s qs a ca b cb) (h0 : mayT s qs = 0) (B : ArgS w u xs ad cd) (nd : ad = none → cd = 0) (hx : xs.length ≤ 1000000) (hl : lensQ qs n) (hn : n ≤ 100000000) :
    Calls Tryz.prog 44 #[v, u] w fun e w' => ∃ r, e = .returned r ∧ ResQ w.heap.size w' r (elV s (qs.map Q3.rat) xs) (n + 2) ∧ Below w.heap.size w w' := by
  have HT := Lib.hid T
  obtain rfl := B.is
  obtain rfl := T.is
  have hm0 := mayT_rank h0
  have okS := mayC_zero.1 hm0
  have hrk : s.length ≤ 4 := okS.rank
  obtain ⟨W, hW⟩ : ∃ W, ((w.alloc (.cells #[.slice a s.length ca, .slice b qs.length cb] 26)).alloc (.cells #[.bool false, .slice none 0 0, .slice none 0 0] 58)) = W := ⟨_, rfl⟩
  have R0 : Row W (w.heap.size) 26 #[.slice a s.length ca, .slice b qs.length cb] := by rw [← hW]; have h := Row.new w 26 #[.slice a s.length ca, .slice b qs.length cb]; (try simp only [World.size_alloc] at h); exact (h.alloc _)
  have R1 : Row W (w.heap.size + 1) 58 #[.bool false, .slice none 0 0, .slice none 0 0] := by rw [← hW]; have h := Row.new (w.alloc (.cells #[.slice a s.length ca, .slice b qs.length cb] 26)) 58 #[.bool false, .slice none 0 0, .slice none 0 0]; (try simp only [World.size_alloc] at h); exact h
  have hBW : Below w.heap.size w W := by rw [← hW]; exact (((Below.refl _ _).alloc (by (try simp) <;> omega) _).alloc (by (try simp) <;> omega) _)
  have hsW : W.heap.size = w.heap.size + 1 + 1 := by rw [← hW]; simp
  have hof := offsetS_any (T.later hBW).sh (B.later hBW) T.nila nd (by omega) (by omega)
  obtain ⟨c0, c1, _, _⟩ := R0.two
  by_cases hin : inS s xs
  · have hoc : offC s xs = 0 := by unfold offC; rw [if_neg (by simp [hm0]), if_neg (by simp [inS_length hin]), if_pos hin]
    have hov : offV s xs = placeS s xs := by unfold offV; rw [if_pos hoc]
    obtain ⟨p0, p1⟩ := place_range hin
    obtain ⟨p, hp⟩ : ∃ p : Nat, placeS s xs = (p : Int) := ⟨(placeS s xs).toNat, by omega⟩
    have hcnt := (mayT_valid h0).1
    rw [okS.count] at hcnt
    have hpl : p < qs.length := by omega
    rw [hoc, hov, hp] at hof
    have hel : elV s (qs.map Q3.rat) xs = (qs[p]).rat := by
      rw [elV_in hin, hp, List.getD_eq_getElem?_getD]
      simp [hpl]
    rw [hel]
    have hokq := (mayT_valid h0).2 qs[p] (List.getElem_mem _)
    obtain ⟨hl1, hl2⟩ := hl qs[p] (List.getElem_mem _)
    obtain ⟨q, hq⟩ : ∃ q, qs[p] = q := ⟨_, rfl⟩
    rw [hq] at hokq hl1 hl2 ⊢
    have hq? : qs[p]? = some q := by rw [List.getElem?_eq_getElem hpl, hq]
    have hpI0 : (0 : Int) ≤ (p : Int) := by omega
    have hpI : (p : Int) < (qs.length : Int) := by omega
    have HX1 := Lib.hid hq?
    clear T B hel hq hcnt p0 p1 hin hoc hov hp h0 hm0 hl hq?
    go_enter Tryz.func44, Tryz.ntmps44
    (try rw [hW])
    go_wp2_with fail
    refine hof.mono ?_
    rintro e w1 ⟨rfl, hb1⟩
    have s1 := hb1.size
    have hBw1 : Below w.heap.size w w1 := hBW.trans (hb1.mono (by omega))
    obtain ⟨bb, o, x0, x1, x2, q', hbo, hqk, f0, f1, f2, hraw⟩ := HT.out.el.at hpl
    have e0 := (hBw1.cell (World.block_lt_of_cell? _ _ f0)).trans f0
    have e1 := (hBw1.cell (World.block_lt_of_cell? _ _ f1)).trans f1
    have e2 := (hBw1.cell (World.block_lt_of_cell? _ _ f2)).trans f2
    subst hbo
    obtain rfl : q' = q := by rw [HX1.out] at hqk; exact (Option.some.inj hqk).symm
    obtain ⟨ad2, bd, ca2, cb2, hraw', A, D, na, nb⟩ := hraw
    simp only [Value.agg.injEq, Array.mk.injEq, List.cons.injEq, and_true] at hraw'
    obtain ⟨rfl, rfl, rfl⟩ := hraw'
    have RX0 := R0.later hb1
    have RX1 := R1.later hb1
    obtain ⟨k0, k1, _, _⟩ := RX0.two
    obtain ⟨V, hV⟩ : ∃ V, w1.alloc (.cells #[.bool q'.neg, .slice ad2 q'.num.length ca2, .slice bd q'.den.length cb2] 58) = V := ⟨_, rfl⟩
    have R2 : Row V w1.heap.size 58 #[.bool q'.neg, .slice ad2 q'.num.length ca2, .slice bd q'.den.length cb2] := by rw [← hV]; exact Row.new _ _ _
    have RV1 : Row V (w.heap.size + 1) 58 #[.bool false, .slice none 0 0, .slice none 0 0] := by rw [← hV]; exact RX1.alloc _
    have hBV1 : Below w1.heap.size w1 V := by rw [← hV]; exact (Below.refl _ _).alloc (Nat.le_refl _) _
    have hBV : Below w.heap.size w V := hBw1.trans (hBV1.mono (by omega))
    have hsV : V.heap.size = w1.heap.size + 1 := by rw [← hV]; simp
    have mkS : ∀ X, Kept (w.heap.size + 1) V X → X.cell? ⟨w1.heap.size, 0, none⟩ = some (.bool q'.neg) ∧ X.cell? ⟨w1.heap.size, 1, none⟩ = some (.slice ad2 q'.num.length ca2) ∧ X.cell? ⟨w1.heap.size, 2, none⟩ = some (.slice bd q'.den.length cb2) ∧ Kept (w.heap.size + 1) V X := fun X h => ⟨(R2.kept h (by omega)).cell 0, (R2.kept h (by omega)).cell 1, (R2.kept h (by omega)).cell 2, h⟩
    have HA := Lib.hid A
    have HB := Lib.hid D
    have HD := Lib.hid na
    have HE := Lib.hid nb
    have HOKQ := Lib.hid hokq
    clear A D na nb hof hqk hokq R0 R1 c0 c1 RX0 RX1 hW
    go_wp2_with fail
    (try rw [hV])
    clear hV e0 e1 e2 k0 k1 f0 f1 f2
    go_region_held3 (fun X => X.cell? ⟨w1.heap.size, 0, none⟩ = some (.bool q'.neg) ∧ X.cell? ⟨w1.heap.size, 1, none⟩ = some (.slice ad2 q'.num.length ca2) ∧ X.cell? ⟨w1.heap.size, 2, none⟩ = some (.slice bd q'.den.length cb2) ∧ Kept (w.heap.size + 1) V X)
      (((refine mkS _ ?_; (repeat' (first | exact Kept.refl _ _ | refine Kept.drew ?_ | refine Kept.alloc ?_ _ | refine Kept.set ?_ _ _ | refine Kept.below ?_ (by assumption))))))
      ((first
        | (go_at_call 88; (with_reducible refine (cloneN_any (HB.out.later (Kept.under (show Kept (w.heap.size + 1) V _ by (repeat' (first | exact Kept.refl _ _ | refine Kept.drew ?_ | refine Kept.alloc ?_ _ | refine Kept.set ?_ _ _ | refine Kept.below ?_ (by assumption)))) hBV (by omega) (by omega))) HE.out (by omega)).mono ?_); rintro e w4 ⟨r4, rfl, q4, hb4⟩; obtain ⟨ad4, cp4, rfl⟩ := ownT_slice q4; have P4 := RV1.kept (show Kept (w.heap.size + 1 + 1 + 1) V w4 by (repeat' (first | exact Kept.refl _ _ | refine Kept.drew ?_ | refine Kept.alloc ?_ _ | refine Kept.set ?_ _ _ | refine Kept.below ?_ (by assumption)))) (by omega); obtain ⟨u0, u1, u2, g0, g1, g2⟩ := P4.three)
        | (go_at_call 88; (with_reducible refine (cloneN_any (HA.out.later (Kept.under (show Kept (w.heap.size + 1) V _ by (repeat' (first | exact Kept.refl _ _ | refine Kept.drew ?_ | refine Kept.alloc ?_ _ | refine Kept.set ?_ _ _ | refine Kept.below ?_ (by assumption)))) hBV (by omega) (by omega))) HD.out (by omega)).mono ?_); rintro e w3 ⟨r3, rfl, q3, hb3⟩; obtain ⟨ad3, cp3, rfl⟩ := ownT_slice q3)))
    have Q3' := Lib.hid (q3.later hb4)
    have Q4 := Lib.hid q4
    clear q3 q4
    have hk4 := (show Kept (w.heap.size + 1 + 1 + 1) V w4 by (repeat' (first | exact Kept.refl _ _ | refine Kept.drew ?_ | refine Kept.alloc ?_ _ | refine Kept.set ?_ _ _ | refine Kept.below ?_ (by assumption)))).size
    have hk3 := (show Kept (w.heap.size + 1 + 1 + 1) V w3 by (repeat' (first | exact Kept.refl _ _ | refine Kept.drew ?_ | refine Kept.alloc ?_ _ | refine Kept.set ?_ _ _ | refine Kept.below ?_ (by assumption)))).size
    have hK4 := (Kept.under (show Kept (w.heap.size + 1 + 1 + 1) V w4 by (repeat' (first | exact Kept.refl _ _ | refine Kept.drew ?_ | refine Kept.alloc ?_ _ | refine Kept.set ?_ _ _ | refine Kept.below ?_ (by assumption)))) hBV (by omega) (by omega))
    go_wp2_with fail
    have hQ : ResQ w.heap.size w4 (.agg #[.bool q'.neg, .slice ad3 q'.num.length cp3, .slice ad4 q'.den.length cp4]) q'.rat (n + 2) :=
      copied_res HOKQ.out (Num.mono Q3'.out (by show w.heap.size ≤ V.heap.size; omega)) (Num.mono Q4.out (by omega)) HA.out.wf HB.out.wf (by omega) (by omega)
    refine bodyPost_ret (v := .agg #[.bool q'.neg, .slice ad3 q'.num.length cp3, .slice ad4 q'.den.length cp4]) (by simp [results, Tryz.results44, go_sem, u0, u1, u2]) rfl ⟨_, rfl, hQ.far P4 (by decide) (kept3 _ _ _), below_set3 hK4 (by omega) _ _ _⟩
  · have hoc : offC s xs ≠ 0 := by
      unfold offC
      rw [if_neg (by simp [hm0])]
      split
      · decide
      · first | decide | (rw [if_neg hin]; decide)
    obtain ⟨c, hc⟩ : ∃ c, offC s xs = c := ⟨_, rfl⟩
    rw [hc] at hof hoc
    have hne : (c != 0) = true := by simp [hoc]
    have e : elV s (qs.map Q3.rat) xs = intQ 0 := by rw [elV_out hin, intQ_zero]
    rw [e]
    clear T B e hin hc hoc h0 hm0 hl
    go_enter Tryz.func44, Tryz.ntmps44
    (try rw [hW])
    go_wp2_with (first
      | (go_at_call 86; refine hof.mono ?_; rintro e w1 ⟨rfl, hb1⟩; have s1 := hb1.size)
      | (go_at_call 87; refine (int_any 0 _ (by omega) (by omega)).mono ?_; rintro e w2 ⟨r, rfl, qv, hb2⟩; have Q2 := Lib.hid qv; obtain ⟨m5, f1, l1, j1, f2, l2, j2, rfl⟩ := qv.shape; clear qv; have P2 := (R1.later hb1).later hb2; have s2 := hb2.size; obtain ⟨u0, u1, u2, g0, g1, g2⟩ := P2.three))
    have P3 := P2.set3 (.bool m5) (.slice f1 l1 j1) (.slice f2 l2 j2)
    obtain ⟨z0, z1, z2, _, _, _⟩ := P3.three
    refine bodyPost_ret (v := .agg #[.bool m5, .slice f1 l1 j1, .slice f2 l2 j2]) (by simp [results, Tryz.results44, go_sem, z0, z1, z2]) rfl ⟨_, rfl, ?_, below_set3 (hBW.trans ((hb1.mono (by omega)).trans (hb2.mono (by omega)))) (by omega) _ _ _⟩
    exact ((Q2.out.mono (by omega)).more (by omega)).far P2 (by decide) (kept3 _ _ _)
end
section
open Go.RowKit Go.Shelf
attribute [local go_sem] Oper.semAt_some
set_option linter.unusedVariables false
set_option linter.unusedSimpArgs false
theorem wrap_i64 {x : Int} (h0 : -9223372036854775808 ≤ x) (h1 : x ≤ 9223372036854775807) : IntKind.i64.wrap x = x := by
  simp only [IntKind.wrap, IntKind.bits, IntKind.signed]
  simp
  omega
/-- what a round over pairs is handed -/
def pairV (xs : List Int) {n : Nat} (x : Fin n) : Array Value := #[.int .i64 (x.val : Int), .agg #[.int .i64 (xs[2 * x.val]?.getD 0), .int .i64 (xs[2 * x.val + 1]?.getD 0)]]
theorem pairs_any (ad : Option Addr) (n cap : Nat) (w : World) :
    Calls Tryz.prog 61 #[.slice ad n cap] w fun e w' => e = .returned (.func (.func 95) #[] #[.pointer (some ⟨w.heap.size, 0, none⟩)]) ∧ w' = w.alloc (.cells #[.slice ad n cap] 22) := by
  go_enter Tryz.func61, Tryz.ntmps61
  go_wp2
  go_ret
  exact ⟨rfl, rfl⟩
set_option maxRecDepth 100000 in
set_option maxHeartbeats 4000000 in
theorem pairs_in (n l Bs n₀ m : Nat) (ad : Option Addr) (xs : List Int) (cap : Nat) (hm : xs.length ≤ 17592186044416) (hlen : xs.length = 2 * m) (hb : xs ≠ [] → ∀ a, ad = some a → a.block < n₀) (J Jx : List (Fin m) → World → Prop)
    (hJ : ∀ pre A, J pre A → J pre A.drew)
    (hY : ∀ pre x W, J pre W → pre.length < m → YieldAt Fence.wide (n - 1) Tryz.prog l (pairV xs x) W fun e W' =>
      (e = .returned (.bool true) ∧ J (pre ++ [x]) W' ∧ KpS n₀ Bs W W') ∨ (e = .returned (.bool false) ∧ Jx (pre ++ [x]) W'))
    (W : World) (hBs : W.cell? ⟨Bs, 0, none⟩ = some (.slice ad xs.length cap)) (hl : LimS W ad xs) (h0 : J [] W) :
    CallsIn Fence.wide n Tryz.prog 95 #[.func (.yield l) #[] #[], .pointer (some ⟨Bs, 0, none⟩)] W fun e W' => (∃ v, e = .returned v) ∧
      ((∃ ys, Upto ys m ∧ J ys W') ∨ (∃ pre, (∃ k, k ≤ m ∧ Upto pre k) ∧ Jx pre W')) := by
  have hq : (xs.length : Int).tdiv 2 = (m : Int) := by rw [hlen, Int.natCast_mul]; exact Int.mul_tdiv_cancel_left _ (by decide)
  have hq2 : ((2 : Int) * (m : Int)).tdiv 2 = (m : Int) := Int.mul_tdiv_cancel_left _ (by decide)
  have HLEN := Lib.hid hlen
  refine callsIn_of_wp Tryz.func95 rfl trivial ?_ rfl
  simp only [Tryz.ntmps95, List.size_toArray, List.length_cons, List.length_nil, Nat.reduceAdd, Nat.reduceSub, Array.replicate_succ, Array.replicate_zero, List.push_toArray, List.append_toArray, List.nil_append, List.cons_append]
  gi_wp2_with fail
  (try rw [hq])
  gi_loopw [3, 7] (fun _ i wr => ∃ (k : Nat) (pre : List (Fin m)), k ≤ m ∧ i = .int .i64 k ∧ Upto pre k ∧ J pre wr ∧ KpS n₀ Bs W wr)
    (fun _ i _ => m - (intOf i).toNat)
  case atStart => exact ⟨0, [], Nat.zero_le _, rfl, rfl, h0, KpS.refl _ _ _⟩
  case round =>
    obtain ⟨k, pre, hk, rfl, hup, hJs, hnx⟩ := hrel
    have hBr := (World.cell?_of_block (a := ⟨Bs, 0, none⟩) hnx.box).trans hBs
    by_cases hlt : k < m
    · rcases hl with rfl | ⟨b, off, rfl, hc⟩
      · simp at hlen; omega
      · have hbn := hb (by rintro rfl; simp at hlen; omega) ⟨b, off, none⟩ rfl
        have hY2 := hY pre ⟨k, hlt⟩ wr.drew (hJ _ _ hJs) (by rw [hup.length]; exact hlt)
        obtain ⟨fn, tmps, assign, body, hy, hR⟩ := hY2
        simp only [pairV] at hy
        have c0 := (hnx.below.cell (p := ⟨b, off + 2 * k, none⟩) hbn).trans (hc (2 * k) (by omega))
        have c1 := (hnx.below.cell (p := ⟨b, off + (2 * k + 1), none⟩) hbn).trans (hc (2 * k + 1) (by omega))
        obtain ⟨x0, hx0⟩ : ∃ x, xs[2 * k]?.getD 0 = x := ⟨_, rfl⟩
        obtain ⟨x1, hx1⟩ : ∃ x, xs[2 * k + 1]?.getD 0 = x := ⟨_, rfl⟩
        rw [List.getD_eq_getElem?_getD, hx0] at c0
        rw [List.getD_eq_getElem?_getD, hx1] at c1
        rw [hx0, hx1] at hy
        have hnx2 : KpS n₀ Bs W wr.drew := ⟨hnx.below.drew, hnx.box⟩
        have hkI : (k : Int) < (m : Int) := by omega
        have HJ := Lib.hid hJ
        have HY := Lib.hid hY
        have v1 : IntKind.i64.wrap (2 * (k : Int)) = 2 * (k : Int) := wrap_i64 (by omega) (by omega)
        have v2 : IntKind.i64.wrap (2 * (k : Int) + 1) = 2 * (k : Int) + 1 := wrap_i64 (by omega) (by omega)
        have i0 : (0 : Int) ≤ 2 * (k : Int) := by omega
        have i1 : 2 * (k : Int) < (xs.length : Int) := by omega
        have i2 : (0 : Int) ≤ 2 * (k : Int) + 1 := by omega
        have i3 : 2 * (k : Int) + 1 < (xs.length : Int) := by omega
        have n1 : (2 * (k : Int)).toNat = 2 * k := by omega
        have n2 : (2 * (k : Int) + 1).toNat = 2 * k + 1 := by omega
        clear hJ hY hc hx0 hx1 hb hlen
        gi_wp2_with fail
        refine wpIn_region_L (fun X => X.cell? ⟨Bs, 0, none⟩ = some (.slice (some ⟨b, off, none⟩) xs.length cap) ∧ X.cell? ⟨b, off + 2 * k, none⟩ = some (.int .i64 x0) ∧ X.cell? ⟨b, off + (2 * k + 1), none⟩ = some (.int .i64 x1)) [14, 15] (by kernel_rfl)
          ⟨hBr, c0, c1⟩ (fun hHeld => ?_)
        refine wpAnyInL_take (i := 0) (v := ?va0) [14, 15] rfl rfl (by kernel_rfl) (by kernel_rfl) (by kernel_rfl) (by kernel_rfl) (by kernel_rfl) (by kernel_rfl) (fun _ _ _ h => h) (Or.inl ⟨by rfl, ?ha0⟩) (fun _ => rfl) (by assumption) ?ra0
        case ha0 =>
          intro w hSw
          try dsimp only at hSw
          go_simp
          try with_reducible rfl
        try simp only [Act.put, List.setIfInBounds_toArray, List.set_cons_zero, List.set_cons_succ]
        refine wpAnyInL_take (i := 1) (v := ?va1) [14, 15] rfl rfl (by kernel_rfl) (by kernel_rfl) (by kernel_rfl) (by kernel_rfl) (by kernel_rfl) (by kernel_rfl) (fun _ _ _ h => h) (Or.inl ⟨by rfl, ?ha1⟩) (fun _ => rfl) (by assumption) ?ra1
        case ha1 =>
          intro w hSw
          try dsimp only at hSw
          go_simp
          try with_reducible rfl
        try simp only [Act.put, List.setIfInBounds_toArray, List.set_cons_zero, List.set_cons_succ]
        refine wpAnyInL_take (i := 2) (v := ?va2) [5, 6, 13, 14, 15] rfl rfl (by kernel_rfl) (by kernel_rfl) (by kernel_rfl) (by kernel_rfl) (by kernel_rfl) (by kernel_rfl) (fun _ _ _ h => h) (Or.inl ⟨by rfl, ?ha2⟩) (fun _ => rfl) (by assumption) ?ra2
        case ha2 =>
          intro w hSw
          try dsimp only at hSw
          go_simp
          try with_reducible rfl
        try simp only [Act.put, List.setIfInBounds_toArray, List.set_cons_zero, List.set_cons_succ]
        refine wpAnyInL_take (i := 3) (v := ?va3) [4, 5, 6, 13, 14, 15] rfl rfl (by kernel_rfl) (by kernel_rfl) (by kernel_rfl) (by kernel_rfl) (by kernel_rfl) (by kernel_rfl) (fun _ _ _ h => h) (Or.inl ⟨by rfl, ?ha3⟩) (fun _ => rfl) (by assumption) ?ra3
        case ha3 =>
          intro w hSw
          try dsimp only at hSw
          go_simp
          try with_reducible rfl
        try simp only [Act.put, List.setIfInBounds_toArray, List.set_cons_zero, List.set_cons_succ]
        refine wpAnyInL_take (i := 4) (v := ?va4) [5, 6, 13, 14, 15] rfl rfl (by kernel_rfl) (by kernel_rfl) (by kernel_rfl) (by kernel_rfl) (by kernel_rfl) (by kernel_rfl) (fun _ _ _ h => h) (Or.inl ⟨by rfl, ?ha4⟩) (fun _ => rfl) (by assumption) ?ra4
        case ha4 =>
          intro w hSw
          try dsimp only at hSw
          go_simp
          try with_reducible rfl
        try simp only [Act.put, List.setIfInBounds_toArray, List.set_cons_zero, List.set_cons_succ]
        refine wpAnyInL_take (i := 5) (v := ?va5) [6, 13, 14, 15] rfl rfl (by kernel_rfl) (by kernel_rfl) (by kernel_rfl) (by kernel_rfl) (by kernel_rfl) (by kernel_rfl) (fun _ _ _ h => h) (Or.inl ⟨by rfl, ?ha5⟩) (fun _ => rfl) (by assumption) ?ra5
        case ha5 =>
          intro w hSw
          try dsimp only at hSw
          go_simp
          try with_reducible rfl
        try simp only [Act.put, List.setIfInBounds_toArray, List.set_cons_zero, List.set_cons_succ]
        refine wpAnyInL_take (i := 6) (v := ?va6) [13, 14, 15] rfl rfl (by kernel_rfl) (by kernel_rfl) (by kernel_rfl) (by kernel_rfl) (by kernel_rfl) (by kernel_rfl) (fun _ _ _ h => h) (Or.inl ⟨by rfl, ?ha6⟩) (fun _ => rfl) (by assumption) ?ra6
        case ha6 =>
          intro w hSw
          try dsimp only at hSw
          go_simp
          try with_reducible rfl
        try simp only [Act.put, List.setIfInBounds_toArray, List.set_cons_zero, List.set_cons_succ]
        refine wpAnyInL_take (i := 7) (v := ?va7) [11, 12, 13, 14, 15] rfl rfl (by kernel_rfl) (by kernel_rfl) (by kernel_rfl) (by kernel_rfl) (by kernel_rfl) (by kernel_rfl) (fun _ _ _ h => h) (Or.inl ⟨by rfl, ?ha7⟩) (fun _ => rfl) (by assumption) ?ra7
        case ha7 =>
          intro w hSw
          try dsimp only at hSw
          go_simp
          try with_reducible rfl
        try simp only [Act.put, List.setIfInBounds_toArray, List.set_cons_zero, List.set_cons_succ]
        refine wpAnyInL_take (i := 8) (v := ?va8) [9, 10, 11, 12, 13, 14, 15] rfl rfl (by kernel_rfl) (by kernel_rfl) (by kernel_rfl) (by kernel_rfl) (by kernel_rfl) (by kernel_rfl) (fun _ _ _ h => h) (Or.inl ⟨by rfl, ?ha8⟩) (fun _ => rfl) (by assumption) ?ra8
        case ha8 =>
          intro w hSw
          try dsimp only at hSw
          go_simp
          try with_reducible rfl
        try simp only [Act.put, List.setIfInBounds_toArray, List.set_cons_zero, List.set_cons_succ]
        refine wpAnyInL_take (i := 9) (v := ?va9) [10, 11, 12, 13, 14, 15] rfl rfl (by kernel_rfl) (by kernel_rfl) (by kernel_rfl) (by kernel_rfl) (by kernel_rfl) (by kernel_rfl) (fun _ _ _ h => h) (Or.inl ⟨by rfl, ?ha9⟩) (fun _ => rfl) (by assumption) ?ra9
        case ha9 =>
          intro w hSw
          try dsimp only at hSw
          go_simp
          try with_reducible rfl
        try simp only [Act.put, List.setIfInBounds_toArray, List.set_cons_zero, List.set_cons_succ]
        refine wpAnyInL_take (i := 10) (v := ?va10) [11, 12, 13, 14, 15] rfl rfl (by kernel_rfl) (by kernel_rfl) (by kernel_rfl) (by kernel_rfl) (by kernel_rfl) (by kernel_rfl) (fun _ _ _ h => h) (Or.inl ⟨by rfl, ?ha10⟩) (fun _ => rfl) (by assumption) ?ra10
        case ha10 =>
          intro w hSw
          try dsimp only at hSw
          go_simp
          try with_reducible rfl
        try simp only [Act.put, List.setIfInBounds_toArray, List.set_cons_zero, List.set_cons_succ]
        refine wpAnyInL_take (i := 11) (v := ?va11) [12, 13, 14, 15] rfl rfl (by kernel_rfl) (by kernel_rfl) (by kernel_rfl) (by kernel_rfl) (by kernel_rfl) (by kernel_rfl) (fun _ _ _ h => h) (Or.inl ⟨by rfl, ?ha11⟩) (fun _ => rfl) (by assumption) ?ra11
        case ha11 =>
          intro w hSw
          try dsimp only at hSw
          go_simp
          try with_reducible rfl
        try simp only [Act.put, List.setIfInBounds_toArray, List.set_cons_zero, List.set_cons_succ]
        refine wpAnyInL_take (i := 12) (v := ?va12) [13, 14, 15] rfl rfl (by kernel_rfl) (by kernel_rfl) (by kernel_rfl) (by kernel_rfl) (by kernel_rfl) (by kernel_rfl) (fun _ _ _ h => h) (Or.inl ⟨by rfl, ?ha12⟩) (fun _ => rfl) (by assumption) ?ra12
        case ha12 =>
          intro w hSw
          try dsimp only at hSw
          go_simp
          try with_reducible rfl
        try simp only [Act.put, List.setIfInBounds_toArray, List.set_cons_zero, List.set_cons_succ]
        refine wpAnyInL_take (i := 13) (v := ?va13) [14, 15] rfl rfl (by kernel_rfl) (by kernel_rfl) (by kernel_rfl) (by kernel_rfl) (by kernel_rfl) (by kernel_rfl) (fun _ _ _ h => h) (Or.inl ⟨by rfl, ?ha13⟩) (fun _ => rfl) (by assumption) ?ra13
        case ha13 =>
          intro w hSw
          try dsimp only at hSw
          go_simp
          try with_reducible rfl
        try simp only [Act.put, List.setIfInBounds_toArray, List.set_cons_zero, List.set_cons_succ]
        refine wpAnyInL_one (i := 14) (by kernel_rfl) rfl (fun K hK => ?sb6)
        go_simp
        refine ⟨(fun h => by cases h), hR.mono ?_⟩
        rintro e W3 (⟨rfl, hJ3, hk3⟩ | ⟨rfl, hJx3⟩)
        · refine hK.out _ _ (fun h => absurd (by decide) h) (fun _ => ?mb6)
          clear hK K
          try simp only [Act.put, List.setIfInBounds_toArray, List.set_cons_zero, List.set_cons_succ]
          refine wpAnyInL_one (i := 15) (by kernel_rfl) rfl (fun K hK => ?sb7)
          go_simp
          refine hK.out _ _ (fun h => absurd (by decide) h) (fun _ => ?mb7)
          clear hK K
          try simp only [Act.put, List.setIfInBounds_toArray, List.set_cons_zero, List.set_cons_succ]
          refine wpAnyInL_done (by kernel_rfl) ?_ _
          gi_wp2
          go_roundw
          case rel => exact ⟨k + 1, _, by omega, by go_num, hup.snoc hlt, hJ3, hnx2.trans hk3⟩
          case measure => simp [intOf]; omega
        · refine hK.out _ _ (fun h => absurd (by decide) h) (fun _ => ?mc6)
          clear hK K
          try simp only [Act.put, List.setIfInBounds_toArray, List.set_cons_zero, List.set_cons_succ]
          refine wpAnyInL_one (i := 15) (by kernel_rfl) rfl (fun K hK => ?sc7)
          go_simp
          refine hK.out _ _ (fun h => absurd (by decide) h) (fun _ => ?mc7)
          clear hK K
          try simp only [Act.put, List.setIfInBounds_toArray, List.set_cons_zero, List.set_cons_succ]
          refine wpAnyInL_done (by kernel_rfl) ?_ _
          gi_wp2
          refine bodyPost_ret (results_none rfl _ _ _) rfl ?_
          exact ⟨⟨_, rfl⟩, .inr ⟨_, ⟨k + 1, by omega, hup.snoc hlt⟩, hJx3⟩⟩
    · obtain rfl : k = m := by omega
      gi_wp2
      go_end0
      exact ⟨⟨_, rfl⟩, .inl ⟨_, hup, hJs⟩⟩
theorem pairs_stops (n Bs n₀ m : Nat) (ad : Option Addr) (xs : List Int) (cap : Nat) (hm : xs.length ≤ 17592186044416) (hlen : xs.length = 2 * m) (hb : xs ≠ [] → ∀ a, ad = some a → a.block < n₀) (w : World) (hBs : Bs < w.heap.size)
    (hc : w.cell? ⟨Bs, 0, none⟩ = some (.slice ad xs.length cap)) (hl : LimS w ad xs) :
    SeqStopsK Fence.wide n Tryz.prog 95 #[.pointer (some ⟨Bs, 0, none⟩)] (pairV xs (n := m)) (KpS n₀ Bs) (fun ys => Upto ys m) (fun pre => ∃ k, k ≤ m ∧ Upto pre k) m w := fun l J Jx W hW hJ _ hY h0 =>
  pairs_in n l Bs n₀ m ad xs cap hm hlen hb J Jx (fun pre A hj => hJ pre A A.drew none hj ⟨rfl, rfl, rfl, Nat.le_refl _, fun _ _ _ => rfl⟩ (fun _ h => by cases h)) hY W ((hW.cell (p := ⟨Bs, 0, none⟩) hBs).trans hc) (hl.later hW) h0
end
end Go.Proofs.YtooglnhlhgmhdaaGreat
