/-
  Package move as it landed: filled, built, element.
-/
import Derived.Test.YtooglnhlhgmhdaaGreatK1
import Derived.Test.YtooglnhlhgmhdaaGreatK2
import Derived.Test.YtooglnhlhgmhdaaGreatK3
import Derived.Test.YtooglnhlhgmhdaaGreatK4
import Derived.Test.YtooglnhlhgmhdaaGreatK5
import Derived.Test.YtooglnhlhgmhdaaGreatK7
import Derived.Test.YtooglnhlhgmhdaaGreatK10
import Derived.Test.YtooglnhlhgmhdaaGreatK11
import Derived.Test.YtooglnhlhgmhdaaGreatK12
import Derived.Test.YtooglnhlhgmhdaaGreatK13
import Derived.Test.YtooglnhlhgmhdaaGreatK15
import Derived.Test.YtooglnhlhgmhdaaGreatK16
import Derived.Test.YtooglnhlhgmhdaaGreatK17
import Derived.Test.YtooglnhlhgmhdaaGreatK18
import Derived.WalkKit
import Derived.Test.YtooglnhlhgmhdaaGreatRows
import Derived.BigQuiet
import Derived.Deep.QuietTactic
import Derived.Lib.Hide
import Derived.Lib.Small
import Derived.Lib.Walk
import Derived.Lib.BitFns
import Derived.Maps.AppendAt
import Derived.RangeFuncNested
import Derived.RangeFuncBound
import Derived.RangeFuncCalls
import Derived.RangeFuncLeaves
import Derived.Shelf.Abstract
import Derived.OwnWalkIn
import Derived.TacticsInMore
import Derived.LoopNIn
import Derived.LoopIn
import Derived.RangeFuncBox
import Derived.Deep.RegionHeld3
import Derived.OrdersIn
import Derived.StillTailTactics
import Derived.RangeFuncFrom
import Derived.Laws.EntriesVeiled
import Derived.ProofKit
import Derived.OpenShut
import Derived.JoinedCond
import Derived.Carry
import Derived.Laws.AppendOwnNone
import Derived.Lib.ItoaNum
import Derived.Deep.RegionLaw
import Derived.WalkMore
import Derived.Lib.SmallJoins
import Derived.IntWalk
import Derived.Deep.DeepCutAuto
import Derived.Laws.OwnMore
import Derived.OrdersHeld
import Derived.Deep.RegionHeld
import Derived.ArgAppend
import Derived.Deep.Slices
import Derived.Laws.CopyOwn
import Derived.Lib.SliceRun
namespace Go.Proofs.YtooglnhlhgmhdaaGreat
set_option maxRecDepth 100000
section
open Go.RowKit
set_option linter.unusedVariables false
set_option linter.unusedSimpArgs false
set_option maxRecDepth 100000 in
set_option maxHeartbeats 4000000 in
theorem intRR_any (k : Int) (w : World) (h0 : -9223372036854775808 ≤ k) (h1 : k ≤ 9223372036854775807) :
    Calls Tryz.prog 49 #[.int .i64 k] w fun e w' => ∃ r, e = .returned r ∧ ResR w.heap.size w' r (intQ k) 6 ∧ Below w.heap.size w w' := by
  obtain ⟨i1, i2, i3⟩ := intQ_parts k
  obtain ⟨m1, hm1⟩ : ∃ m, decide (k < 0) = m := ⟨_, rfl⟩
  rw [hm1] at i1
  have I1 := Lib.hid i1
  have I2 := Lib.hid i2
  have I3 := Lib.hid i3
  clear i1 i2 i3
  obtain ⟨W, hW⟩ : ∃ W, (w.alloc (.cells #[.bool false, .slice none 0 0, .slice none 0 0] 75)) = W := ⟨_, rfl⟩
  have R0 : Row W (w.heap.size) 75 #[.bool false, .slice none 0 0, .slice none 0 0] := by rw [← hW]; exact (Row.new _ _ _)
  have hBW : Below w.heap.size w W := by rw [← hW]; exact ((Below.refl _ _).alloc (by (try simp) <;> omega) _)
  have hsW : w.heap.size + 1 ≤ W.heap.size := by rw [← hW]; simp
  go_enter Tryz.func49, Tryz.ntmps49
  go_wp2_with fail
  refine (sizeR_any k _ h0 h1).mono ?_
  rintro e w1 ⟨r1, rfl, z1, q1, l1, hb1⟩
  have hs1 := hb1.size
  obtain ⟨ad1, cp1, rfl, q1, A1⟩ := q1.slice
  have v1 : valD z1 = (((intQ k).num.natAbs : Nat) : Int) := by rw [q1.eq, I2.out]
  have V1 := Lib.hid v1
  have hb2 : Below w1.heap.size w1 (w1.alloc (.cells #[.int .i64 1] 3)) := (Below.refl _ _).alloc (Nat.le_refl _) _
  have L := digit_lit (Row.new w1 3 #[.int .i64 1]) (by omega)
  have P2 := (R0.later hb1).later hb2
  have A2 := A1.later hb2
  have Q1 := Lib.hid q1
  clear v1 q1 hW
  obtain ⟨q0, q1, q2, h0', h1', h2'⟩ := (R0.later hb1).three
  obtain ⟨u0, u1, u2, g0, g1, g2⟩ := P2.three
  go_wp2_with fail
  refine bodyPost_ret (v := .agg #[.bool m1, .slice ad1 z1.length cp1, .slice (some ⟨w1.heap.size, 0, none⟩) 1 1]) (by simp [results, Tryz.results49, go_sem, u0, u1, u2]) rfl ⟨_, rfl, ⟨z1, [1], ad1, some ⟨w1.heap.size, 0, none⟩, cp1, 1, by rw [I1.out]; rfl, ?_, ?_, l1, by simp⟩, ?_⟩
  · exact (((Q1.out.mono (by omega)).later hb2).far P2 (by decide) (kept3 _ _ _)).eqTo V1.out
  · rw [I3.out]; exact (ResD.one w1 (by omega)).far P2 (by decide) (kept3 _ _ _)
  · exact below_set3 ((hBW.trans (hb1.mono (by omega))).trans (hb2.mono (by omega))) (by omega) _ _ _
/-- a tensor as it is answered -/
def ResT (base : Nat) (w : World) (v : Value) (s : List Int) (L : List Rat) (m : Nat) : Prop :=
  ∃ (a b : Option Addr) (ca cb : Nat), v = .agg #[.slice a s.length ca, .slice b L.length cb] ∧ ResS base w (.slice a s.length ca) s ∧ RowO base 58 (fun W v x => ResQ base W v x m) w (.slice b L.length cb) L
theorem ResT.later {base : Nat} {w w' : World} {v : Value} {s : List Int} {L : List Rat} {m : Nat} (h : ResT base w v s L m) (hb : Below w.heap.size w w') : ResT base w' v s L m := by
  obtain ⟨a, b, ca, cb, rfl, h1, h2⟩ := h
  exact ⟨a, b, ca, cb, rfl, h1.later hb, h2.later hb (fun v x h => h.later hb)⟩
theorem ResT.mono {base base' : Nat} {w : World} {v : Value} {s : List Int} {L : List Rat} {m : Nat} (h : ResT base w v s L m) (hb : base' ≤ base) : ResT base' w v s L m := by
  obtain ⟨a, b, ca, cb, rfl, h1, h2⟩ := h
  exact ⟨a, b, ca, cb, rfl, h1.mono hb, h2.mono hb (fun v x h => h.mono hb)⟩
theorem ResT.far {base : Nat} {w w' : World} {v : Value} {s : List Int} {L : List Rat} {m g : Nat} {t : TypeId} {cs : Array Value} (h : ResT base w v s L m) (R : Row w g t cs) (h1 : t ≠ 3) (h2 : t ≠ 63) (h3 : t ≠ 58) (hk : ∀ k, k ≠ g → w'.heap[k]? = w.heap[k]?) : ResT base w' v s L m := by
  obtain ⟨a, b, ca, cb, rfl, k1, k2⟩ := h
  exact ⟨a, b, ca, cb, rfl, k1.far R h1 hk, k2.far R h3 hk (fun v x h => h.far R h2 hk)⟩
end
section
open Go.RowKit
set_option linter.unusedVariables false
set_option linter.unusedSimpArgs false
/-- all parts are at most n limbs long -/
def lensQ (qs : List Q3) (n : Nat) : Prop := ∀ q ∈ qs, q.num.length ≤ n ∧ q.den.length ≤ n
theorem lensQ.of {qs : List Q3} {n : Nat} (h : sizeQs qs ≤ n) : lensQ qs n := fun q hq => by
  have := sizeQs_mem hq
  unfold sizeQ at this
  omega
/-- why there is no tensor of a shape and so many numbers -/
def makeC (s : List Int) (n : Nat) : Int := if mayC s ≠ 0 then mayC s else if (n : Int) ≠ countS s then 13 else 0
def noTensor : Value := .agg #[.slice none 0 0, .slice none 0 0]
def noRat : Value := .agg #[.bool false, .slice none 0 0, .slice none 0 0]
/-- the rational as it is answered -/
theorem ResQ.raw {base n : Nat} {w : World} {v : Value} {x : Rat} (h : ResQ base w v x n) : ∃ q : Q3, RawQ w v q ∧ q.rat = x ∧ q.num.length ≤ n ∧ q.den.length ≤ n ∧ okQ q = true := by
  obtain ⟨zs, ys, ad, bd, ca, cb, rfl, A, B, l1, l2⟩ := h
  have e : (Q3.mk (decide (x.num < 0)) zs ys).rat = x := by unfold Q3.rat; rw [A.eq, B.eq, ratOf_self]
  refine ⟨⟨decide (x.num < 0), zs, ys⟩, ⟨ad, bd, ca, cb, rfl, A.at_.2, B.at_.2, (Num.at_ A.num A.wf).2.2, (Num.at_ B.num B.wf).2.2⟩, e, l1, l2, ?_⟩
  unfold okQ validB isB
  rw [e]
  simp only [Bool.and_eq_true, decide_eq_true_eq, beq_iff_eq]
  exact ⟨by simp, ⟨A.full, A.eq⟩, B.full, B.eq⟩
/-- an answered tensor, as it is handed in again -/
theorem ResT.tens {base m : Nat} {w : World} {v : Value} {s : List Int} {L : List Rat} (h : ResT base w v s L m) : ∃ (qs : List Q3) (a b : Option Addr) (ca cb : Nat), TensQ w v s qs a ca b cb ∧ qs.map Q3.rat = L ∧ lensQ qs m ∧ ∀ q ∈ qs, okQ q = true := by
  obtain ⟨a, b, ca, cb, rfl, h1, h2⟩ := h
  obtain ⟨_, A, na⟩ := h1.at_
  obtain ⟨_, B, nb⟩ := h2.at_
  rcases B.els with e | ⟨bb, o, es, e, hc, hall⟩
  · subst e
    exact ⟨[], a, b, ca, cb, ⟨rfl, A, na, ⟨rfl, B.le, .inl rfl⟩, nb⟩, rfl, (fun q hq => by cases hq), fun q hq => by cases hq⟩
  · have hch : ∀ i, ∃ q : Q3, i < L.length → ∀ d x, es[i]? = some d → L[i]? = some x → RawQ w d.agg q ∧ q.rat = x ∧ q.num.length ≤ m ∧ q.den.length ≤ m ∧ okQ q = true := fun i => by
      by_cases hi : i < L.length
      · obtain ⟨d, x, g1, g2, g3⟩ := hall.at hi
        obtain ⟨q, k1, k2, k3, k4, k5⟩ := ResQ.raw g3
        refine ⟨q, fun _ d' x' e1 e2 => ?_⟩
        rw [g1] at e1
        rw [g2] at e2
        cases e1
        cases e2
        exact ⟨k1, k2, k3, k4, k5⟩
      · exact ⟨⟨false, [], []⟩, fun h => absurd h hi⟩
    obtain ⟨F, hF⟩ := Classical.axiomOfChoice hch
    have hl : ((List.range L.length).map F).length = L.length := by simp
    have hat : ∀ i q, ((List.range L.length).map F)[i]? = some q → i < L.length ∧ q = F i := fun i q hq => by
      have hlt : i < L.length := by
        rcases Nat.lt_or_ge i L.length with g | g
        · exact g
        · rw [List.getElem?_eq_none (by simpa using g)] at hq; cases hq
      rw [List.getElem?_map, List.getElem?_range hlt] at hq
      simp only [Option.map_some, Option.some.injEq] at hq
      exact ⟨hlt, hq.symm⟩
    refine ⟨(List.range L.length).map F, a, b, ca, cb, ⟨by rw [hl], A, na, ⟨rfl, by rw [hl]; exact B.le, .inr ⟨bb, o, es, e, hc, by rw [hl]; exact hall.1, fun i d q h1 hq => ?_⟩⟩, nb⟩, ?_, fun q hq => ?_, fun q hq => ?_⟩
    · obtain ⟨hlt, rfl⟩ := hat i q hq
      obtain ⟨d', x, g1, g2, _⟩ := hall.at hlt
      rw [h1] at g1
      cases g1
      exact (hF i hlt d x h1 g2).1
    · apply List.ext_getElem?
      intro i
      by_cases hlt : i < L.length
      · obtain ⟨d, x, g1, g2, _⟩ := hall.at hlt
        rw [List.getElem?_map, List.getElem?_map, List.getElem?_range hlt, g2]
        simp only [Option.map_some]
        rw [(hF i hlt d x g1 g2).2.1]
      · rw [List.getElem?_eq_none (by simpa using hlt), List.getElem?_eq_none (by omega)]
    · obtain ⟨i, hi, rfl⟩ := List.mem_iff_getElem.1 hq
      obtain ⟨hlt, he⟩ := hat i _ (List.getElem?_eq_getElem hi)
      obtain ⟨d, x, g1, g2, _⟩ := hall.at hlt
      rw [he]
      exact ⟨(hF i hlt d x g1 g2).2.2.1, (hF i hlt d x g1 g2).2.2.2.1⟩
    · obtain ⟨i, hi, rfl⟩ := List.mem_iff_getElem.1 hq
      obtain ⟨hlt, he⟩ := hat i _ (List.getElem?_eq_getElem hi)
      obtain ⟨d, x, g1, g2, _⟩ := hall.at hlt
      rw [he]
      exact (hF i hlt d x g1 g2).2.2.2.2
end
section
open Go.RowKit
set_option linter.unusedVariables false
set_option linter.unusedSimpArgs false
theorem make_rowP (m : Nat) (hc : m ≤ 1000000000000) (w : World) :
    (Instr.makeSlice 24 (.int .i64 0) (.int .i64 (m : Int))).run Tryz.prog w = .ok (.slice (some ⟨w.heap.size, 0, none⟩) 0 m) (w.alloc (.cells (madeCells #[.bool false, .slice none 0 0, .slice none 0 0] (m * 3)) 58)) := by
  obtain ⟨i0, hi, hz0, hz1, hz2⟩ := info_parts infoQ
  have h := run_make (P := Tryz.prog) w 24 58 i0 (.agg #[.bool false, .slice none 0 0, .slice none 0 0]) Tryz.underlying24 hi hz0 .i64 .i64 0 m (by omega) (by omega) (by rw [hz2]; omega) (by omega)
  simpa [hz1, Value.cells] using h
theorem madeP_len (z : Array Value) (m : Nat) : (madeCells z m).size = m := by
  simp [madeCells]
theorem cells_argU {w : World} {ys : List Int} {ad : Addr} {cap : Nat} (lx : Lim w (some ad) ys) : ∀ j u, (ys.map (Value.int .u32))[j]? = some u → w.cell? (ad.add j) = some u := by
  intro j u hj
  rcases lx with rfl | ⟨b, off, e, hc⟩
  · simp at hj
  · cases e
    rw [List.getElem?_map] at hj
    have hjl : j < ys.length := by
      rcases Nat.lt_or_ge j ys.length with h | h
      · exact h
      · rw [List.getElem?_eq_none h] at hj; cases hj
    rw [show (⟨b, off, none⟩ : Addr).add j = ⟨b, off + j, none⟩ from (by unfold Addr.add; split <;> simp_all), hc j hjl, ← hj]
    simp [hjl]
set_option maxRecDepth 100000 in
set_option maxHeartbeats 2000000 in
theorem cloneN_any {u : Value} {xs : List Int} {ad : Option Addr} {cap : Nat} {w : World} (A : Arg w u xs ad cap) (hn : ad = none → cap = 0) (hx : xs.length ≤ 134217728) :
    Calls Tryz.prog 88 #[u] w fun e w' => ∃ r, e = .returned r ∧ Num w.heap.size w' r xs ∧ Below w.heap.size w w' := by
  obtain ⟨i0, hi, hz0, hz1, hz2⟩ := info_parts infoLimb
  have q22 : ∀ (w : World) (a : Option Addr) (n c n' c' : Nat), (binOp .eql 56 (.slice a n c) (.slice none n' c')).run Tryz.prog w = .ok (.bool a.isNone) w := fun w a n c n' c' => Lib.run_eql_slice_nil w _ _ a n c n' c' Tryz.underlying56
  obtain ⟨rfl, lx, hle, wx⟩ := A
  clear wx
  cases ad with
  | none =>
    have hc := hn rfl
    subst hc
    obtain rfl : xs = [] := List.eq_nil_of_length_eq_zero (by omega)
    clear lx hle hn hx
    go_enter Tryz.func88, Tryz.ntmps88
    go_wp2
    go_ret
    exact ⟨_, rfl, World.ownsRow_nil _ _ _ _, Below.refl _ _⟩
  | some a =>
    have HC := Lib.hid (cells_argU (cap := cap) (lx.later ((Below.refl w.heap.size w).alloc (Nat.le_refl _) (.cells #[] 63))))
    clear lx hn
    go_enter Tryz.func88, Tryz.ntmps88
    go_wp2_with (at_builtin; refine wpList_append_own _ rfl _ _ 56 rfl w.heap.size 63 i0 (.int .u32 0) 1 4 Tryz.underlying56 hi hz0 hz1 hz2 rfl (by decide) _ _ _ rfl (World.ownsRow_made w #[] 0 (Nat.le_refl _) (Nat.zero_le _) rfl) a xs.length cap (xs.map (Value.int .u32)) rfl ?qc1 HC.out (ints_oneCell _ _) ?qc4 ?qc5 ?qc6 ?_)
    case qc1 => simp
    case qc4 => unfold maxLen; omega
    case qc5 => omega
    case qc6 => simp
    intro v' w1 hown hgrow hnil
    go_wp2
    go_ret
    refine ⟨v', rfl, ?_, ?_⟩
    · unfold Num; simpa using hown
    · exact ((Below.refl _ w).alloc (Nat.le_refl _) _).grown hgrow (by simp) (by intro k hk; simp [Value.ownBlock] at hk; omega)
set_option maxRecDepth 100000 in
set_option maxHeartbeats 2000000 in
theorem cloneS_any {u : Value} {xs : List Int} {ad : Option Addr} {cap : Nat} {w : World} (A : ArgS w u xs ad cap) (hn : ad = none → cap = 0) (hx : xs.length ≤ 17592186044416) :
    Calls Tryz.prog 60 #[u] w fun e w' => ∃ r, e = .returned r ∧ ResS w.heap.size w' r xs ∧ Below w.heap.size w w' := by
  obtain ⟨i0, hi, hz0, hz1, hz2⟩ := info_parts infoS
  have q22 : ∀ (w : World) (a : Option Addr) (n c n' c' : Nat), (binOp .eql 23 (.slice a n c) (.slice none n' c')).run Tryz.prog w = .ok (.bool a.isNone) w := fun w a n c n' c' => Lib.run_eql_slice_nil w _ _ a n c n' c' Tryz.underlying23
  have HW := Lib.hid A.wf
  obtain ⟨rfl, lx, hle, wx⟩ := A
  clear wx
  cases ad with
  | none =>
    have hc := hn rfl
    subst hc
    obtain rfl : xs = [] := List.eq_nil_of_length_eq_zero (by omega)
    clear lx hle hn hx
    go_enter Tryz.func60, Tryz.ntmps60
    go_wp2
    go_ret
    exact ⟨_, rfl, ResS.nil _ _, Below.refl _ _⟩
  | some a =>
    have HC := Lib.hid (cells_argS (cap := cap) (lx.later ((Below.refl w.heap.size w).alloc (Nat.le_refl _) (.cells #[] 3))))
    clear lx hn
    go_enter Tryz.func60, Tryz.ntmps60
    go_wp2_with (at_builtin; refine wpList_append_own _ rfl _ _ 23 rfl w.heap.size 3 i0 (.int .i64 0) 1 8 Tryz.underlying23 hi hz0 hz1 hz2 rfl (by decide) _ _ _ rfl (World.ownsRow_made w #[] 0 (Nat.le_refl _) (Nat.zero_le _) rfl) a xs.length cap (xs.map (Value.int .i64)) rfl ?qc1 HC.out (ints_oneCell _ _) ?qc4 ?qc5 ?qc6 ?_)
    case qc1 => simp
    case qc4 => unfold maxLen; omega
    case qc5 => omega
    case qc6 => simp
    intro v' w1 hown hgrow hnil
    go_wp2
    go_ret
    refine ⟨v', rfl, ⟨?_, HW.out⟩, ?_⟩
    · unfold NumS; simpa using hown
    · exact ((Below.refl _ w).alloc (Nat.le_refl _) _).grown hgrow (by simp) (by intro k hk; simp [Value.ownBlock] at hk; omega)
/-- the first number that is not 0 -/
def orL : List Int → Int
  | [] => 0
  | x :: r => if x = 0 then orL r else x
theorem orL_nil {xs : List Int} (h : ∀ x ∈ xs, x = 0) : orL xs = 0 := by
  induction xs with
  | nil => rfl
  | cons x r ih =>
    unfold orL
    rw [if_pos (h x (by simp))]
    exact ih fun y hy => h y (by simp [hy])
theorem orL_at {xs : List Int} {k : Nat} {x : Int} (h : ∀ j, j < k → xs.getD j 0 = 0) (hk : xs[k]? = some x) (hx : x ≠ 0) : orL xs = x := by
  induction xs generalizing k with
  | nil => simp at hk
  | cons y r ih =>
    cases k with
    | zero =>
      simp at hk
      subst hk
      unfold orL
      rw [if_neg hx]
    | succ k =>
      have h0 := h 0 (by omega)
      simp at h0
      unfold orL
      rw [if_pos h0]
      exact ih (k := k) (fun j hj => by simpa using h (j + 1) (by omega)) (by simpa using hk)
set_option maxRecDepth 100000 in
set_option maxHeartbeats 2000000 in
theorem or_any {w : World} {xs : List Int} {b : Nat} {cap : Nat} (hc : ∀ k, k < xs.length → w.cell? ⟨b, k, none⟩ = some (.int .i64 (xs.getD k 0))) (hm : xs.length ≤ 1000000) :
    Calls Tryz.prog 39 #[.slice (some ⟨b, 0, none⟩) xs.length cap] w fun e w' => e = .returned (.int .i64 (orL xs)) ∧ w = w' := by
  obtain ⟨d, hd⟩ : ∃ d, orL xs = d := ⟨_, rfl⟩
  have HD := Lib.hid hd
  have HC := Lib.hid hc
  obtain ⟨m, hm2⟩ : ∃ m, xs.length = m := ⟨_, rfl⟩
  have HM := Lib.hid hm2
  rw [hd]
  rw [hm2] at hm ⊢
  clear hd hc hm2
  go_enter Tryz.func39, Tryz.ntmps39
  go_wp2_with fail
  go_loopw [5, 8] (fun _ i wr => ∃ k : Nat, i = .int .i64 k ∧ k ≤ m ∧ (∀ j, j < k → xs.getD j 0 = 0) ∧ w = wr) (fun _ i _ => m - (intOf i).toNat)
  case atStart => exact ⟨0, rfl, Nat.zero_le _, (fun j hj => by omega), by trivial⟩
  case round =>
    obtain ⟨k, rfl, hk, hall, rfl⟩ := hrel
    have HA := Lib.hid hall
    clear hall
    by_cases hlt : k < m
    · have c1 := HC.out k (by rw [HM.out]; exact hlt)
      obtain ⟨x, hx⟩ : ∃ x, xs.getD k 0 = x := ⟨_, rfl⟩
      rw [hx] at c1
      have HX := Lib.hid hx
      have hk0 : (0 : Int) ≤ (k : Int) := Int.natCast_nonneg _
      have hk1 : (k : Int) < (m : Int) := by omega
      clear hx
      by_cases e : x = 0
      · have hne : (x != 0) = false := by simp [e]
        go_wp2
        go_roundw
        case rel =>
          refine ⟨k + 1, by go_num, by omega, fun j hj => ?_, by trivial⟩
          by_cases h : j = k
          · rw [h, HX.out, e]
          · exact HA.out j (by omega)
        case measure => simp [intOf]; omega
      · have hne : (x != 0) = true := by simp [e]
        have hd : d = x := by
          rw [← HD.out]
          refine orL_at HA.out ?_ e
          have : k < xs.length := by rw [HM.out]; exact hlt
          rw [List.getElem?_eq_getElem this, ← HX.out]
          simp [this]
        subst hd
        go_wp2
        go_ret
        exact ⟨rfl, rfl⟩
    · obtain rfl : k = m := by omega
      have hk1 : ¬ (k : Int) < (k : Int) := by omega
      have hd : d = 0 := by
        rw [← HD.out]
        refine orL_nil fun x hx => ?_
        obtain ⟨j, hj, rfl⟩ := List.mem_iff_getElem.1 hx
        have h := HA.out j (by rw [← HM.out]; exact hj)
        simpa [hj] using h
      subst hd
      go_wp2
      go_ret
      exact ⟨rfl, rfl⟩
end
section
open Go.RowKit
set_option linter.unusedVariables false
set_option linter.unusedSimpArgs false
/-- limbs of a number that may be, copied -/
theorem copied_res {base n : Nat} {w : World} {q : Q3} {ad bd : Option Addr} {ca cb : Nat} (hok : okQ q = true) (A : Num base w (.slice ad q.num.length ca) q.num) (B : Num base w (.slice bd q.den.length cb) q.den) (wa : Wf q.num) (wb : Wf q.den) (h1 : q.num.length ≤ n) (h2 : q.den.length ≤ n) :
    ResQ base w (.agg #[.bool q.neg, .slice ad q.num.length ca, .slice bd q.den.length cb]) q.rat n := by
  unfold okQ validB isB at hok
  simp only [Bool.and_eq_true, decide_eq_true_eq, beq_iff_eq] at hok
  obtain ⟨e1, ⟨f1, v1⟩, f2, v2⟩ := hok
  exact ⟨q.num, q.den, ad, bd, ca, cb, by rw [e1], ⟨A, wa, f1, v1⟩, ⟨B, wb, f2, v2⟩, h1, h2⟩
end
section
open Go.RowKit
set_option linter.unusedVariables false
set_option linter.unusedSimpArgs false
/-- a number of the reference: in new memory, or in what was handed in -/
def ResA (base : Nat) (w0 W : World) (v : Value) (x : Rat) (n : Nat) : Prop := ResR base W v x n ∨ ArgR w0 v x n
theorem ResA.later {base n : Nat} {w0 W W' : World} {v : Value} {x : Rat} (h : ResA base w0 W v x n) (hb : Below W.heap.size W W') : ResA base w0 W' v x n := h.imp (fun h => h.later hb) id
theorem ResA.far {base n g : Nat} {w0 W W' : World} {v : Value} {x : Rat} {t : TypeId} {cs : Array Value} (h : ResA base w0 W v x n) (R : Row W g t cs) (ht : t ≠ 3) (hk : ∀ k, k ≠ g → W'.heap[k]? = W.heap[k]?) : ResA base w0 W' v x n := h.imp (fun h => h.far R ht hk) id
theorem ResA.apart {base base' n : Nat} {T : TypeId} {w0 w w' : World} {v u : Value} {es : List E3} {x : Rat} {o : Obj} (h : OwnE base T w v es) (hg : (w.alloc o).grownBy w' v.ownBlock) (hT : T ≠ 3) (k : ResA base' w0 w u x n) : ResA base' w0 w' u x n := k.imp (fun k => ResR.apart h hg hT k) id
theorem ResA.arg {base n : Nat} {w0 W : World} {v : Value} {x : Rat} (h : ResA base w0 W v x n) (hb : Below w0.heap.size w0 W) : ArgR W v x n := h.elim (fun h => h.arg) (fun h => h.later hb)
theorem ArgR.shape {w : World} {v : Value} {x : Rat} {n : Nat} (h : ArgR w v x n) : ∃ m a1 n1 c1 a2 n2 c2, v = .agg #[.bool m, .slice a1 n1 c1, .slice a2 n2 c2] := by
  obtain ⟨_, _, _, _, _, _, rfl, _⟩ := h
  exact ⟨_, _, _, _, _, _, _, rfl⟩
/-- a tensor of the reference, wherever it lies -/
def TenR (w : World) (v : Value) (s : List Int) (L : List Rat) (n : Nat) : Prop := ∃ a ca b cb, TensR w v s L n a ca b cb
theorem TenR.later {w w' : World} {v : Value} {s : List Int} {L : List Rat} {n : Nat} (h : TenR w v s L n) (hb : Below w.heap.size w w') : TenR w' v s L n := by
  obtain ⟨a, ca, b, cb, h⟩ := h
  exact ⟨a, ca, b, cb, h.later hb⟩
theorem pushE2 {α : Type} {B base : Nat} {T : TypeId} {P : World → Value → α → Prop} {w wr w1 : World} {v v' : Value} {es : List E3} {L : List α} {e : E3} {x : α} {o : Obj} (hb : Below B w wr) (hB : B ≤ base) (hbase : base ≤ wr.heap.size)
    (hown : OwnE base T wr v es) (hall : AllE (P wr) es L) (hx : P wr e.agg x) (hst : ∀ u y, P wr u y → P w1 u y)
    (hown' : w1.ownsRow base T 3 v' (es.length + 1) (flat3 es ++ [e.a, e.b, e.c])) (hgrow : (wr.alloc o).grownBy w1 v.ownBlock) : RowO base T P w1 v' (L ++ [x]) ∧ Below B w w1 := by
  refine ⟨⟨es ++ [e], ?_, (hall.snoc hx).imp fun u y _ => hst u y⟩, (hb.alloc (Nat.le_trans hB hbase) o).grown hgrow (by simp; omega) (fun k hk => Nat.le_trans hB (hown.lt k hk).1)⟩
  unfold OwnE
  rw [List.length_append, flat3_append]
  exact hown'
/-- what a loop has made, as a tensor -/
theorem tenR_of {base n m : Nat} {w0 w : World} {a b : Option Addr} {ca cb : Nat} {s : List Int} {L : List Rat} (hm : m = L.length) (hb : Below w0.heap.size w0 w) (S : ResS base w (.slice a s.length ca) s) (E : RowO base 75 (fun W v x => ResA base w0 W v x n) w (.slice b m cb) L) :
    TenR w (.agg #[.slice a s.length ca, .slice b m cb]) s L n := by
  subst hm
  exact ⟨a, ca, b, cb, rfl, S.at_.2.1, S.at_.2.2, E.at_.2.1.imp (fun v x _ h => h.arg hb), E.at_.2.2⟩
end
section
open Go.RowKit
set_option linter.unusedVariables false
set_option linter.unusedSimpArgs false
/-- what an operation on tensors answers: a tensor, or why there is none -/
def One (base : Nat) (w' : World) (e : Ending) (c : Int) (s : List Int) (L : List Rat) (N : Nat) : Prop :=
  (c = 0 ∧ ∃ r, e = .returned (.tuple #[r, .int .i64 0]) ∧ ResT base w' r s L N) ∨ (c ≠ 0 ∧ e = .returned (.tuple #[noTensor, .int .i64 c]))
theorem mayT_valid {s : List Int} {qs : List Q3} (h : mayT s qs = 0) : (qs.length : Int) = countS s ∧ ∀ q ∈ qs, okQ q = true := by
  unfold mayT at h
  split at h
  · rename_i h1; exact absurd h h1
  · split at h
    · cases h
    · rename_i h2
      split at h
      · rename_i h3
        exact ⟨by omega, List.all_eq_true.1 h3⟩
      · cases h
theorem mayT_rank {s : List Int} {qs : List Q3} (h : mayT s qs = 0) : mayC s = 0 := by
  unfold mayT at h
  split at h
  · rename_i h1; exact absurd h h1
  · rename_i h1; simpa using h1
end
section
set_option linter.unusedVariables false
set_option linter.unusedSimpArgs false
/-- the element at places; 0 where there are no such ones -/
def elV (s : List Int) (L : List Rat) (xs : List Int) : Rat := if inS s xs then L.getD (placeS s xs).toNat 0 else 0
/-- what a shape is filled with -/
def fillV (s : List Int) (F : List Int → Rat) : List Rat := (List.range (prodS s).toNat).map fun k : Nat => F (idxS s (k : Int))
theorem fillV_len (s : List Int) (F : List Int → Rat) : (fillV s F).length = (prodS s).toNat := by simp [fillV]
theorem fillV_congr {s : List Int} (hp : posS s) {F G : List Int → Rat} (h : ∀ xs, inS s xs → F xs = G xs) : fillV s F = fillV s G := by
  unfold fillV
  refine List.map_congr_left fun k hk => h _ ?_
  have := List.mem_range.1 hk
  exact (place_idx hp (by omega) (by omega)).1
theorem elV_in {s xs : List Int} {L : List Rat} (h : inS s xs) : elV s L xs = L.getD (placeS s xs).toNat 0 := if_pos h
theorem elV_out {s xs : List Int} {L : List Rat} (h : ¬ inS s xs) : elV s L xs = 0 := if_neg h
theorem elV_fill {s xs : List Int} (F : List Int → Rat) (h : inS s xs) : elV s (fillV s F) xs = F xs := by
  obtain ⟨h0, h1⟩ := place_range h
  rw [elV_in h, List.getD_eq_getElem?_getD]
  unfold fillV
  rw [List.getElem?_map, List.getElem?_range (by omega)]
  simp only [Option.map_some, Option.getD_some]
  rw [show (((placeS s xs).toNat : Nat) : Int) = placeS s xs by omega, idx_place h]
theorem fillV_self {s : List Int} (hp : posS s) {L : List Rat} (hl : L.length = (prodS s).toNat) : fillV s (elV s L) = L := by
  apply List.ext_getElem
  · rw [fillV_len, hl]
  · intro i g1 g2
    simp only [fillV, List.getElem_map, List.getElem_range]
    obtain ⟨h1, h2⟩ := place_idx hp (n := (i : Int)) (by omega) (by omega)
    rw [elV_in h1, h2]
    simp [g2]
theorem posS.ok {s : List Int} (h : OkS s) : posS s := h.pos
/-- the list's numbers, each by its place -/
theorem getD_map_range {n : Nat} (f : Nat → Int) {i : Nat} (h : i < n) : ((List.range n).map f).getD i 0 = f i := by
  simp [List.getD_eq_getElem?_getD, h]
theorem list_eq_getD {a b : List Int} (hl : a.length = b.length) (h : ∀ i, i < a.length → a.getD i 0 = b.getD i 0) : a = b := by
  apply List.ext_getElem hl
  intro i g1 g2
  have := h i g1
  simpa [List.getD_eq_getElem?_getD, g1, g2] using this
def trS (s p : List Int) : List Int := p.map fun n => s.getD n.toNat 0
def trI (p xs : List Int) : List Int := (List.range p.length).map fun n : Nat => xs.getD (p.idxOf (n : Int)) 0
theorem trS_len (s p : List Int) : (trS s p).length = p.length := by simp [trS]
theorem trI_len (p xs : List Int) : (trI p xs).length = p.length := by simp [trI]
theorem trS_at (s p : List Int) {i : Nat} (h : i < p.length) : (trS s p).getD i 0 = s.getD (p.getD i 0).toNat 0 := by
  simp [trS, List.getD_eq_getElem?_getD, h]
theorem trI_at (p xs : List Int) {n : Nat} (h : n < p.length) : (trI p xs).getD n 0 = xs.getD (p.idxOf (n : Int)) 0 := getD_map_range _ h
theorem IsPerm.idx {p : List Int} (h : IsPerm p) {n : Nat} (hn : n < p.length) : p.idxOf (n : Int) < p.length ∧ p.getD (p.idxOf (n : Int)) 0 = (n : Int) := by
  have hm := (h.mem (n : Int)).2 (by omega)
  have hlt := List.idxOf_lt_length_of_mem hm
  exact ⟨hlt, by rw [getD_elem hlt]; exact List.getElem_idxOf hlt⟩
theorem IsPerm.low {p : List Int} (h : IsPerm p) {i : Nat} (hi : i < p.length) : 0 ≤ p.getD i 0 ∧ p.getD i 0 < p.length := (h.back hi).1
theorem IsPerm.idx_at {p : List Int} (h : IsPerm p) {i : Nat} (hi : i < p.length) : p.idxOf (p.getD i 0) = i := by
  have h2 := (h.back hi).2
  have h1 := h.low hi
  rw [invL_at p (by omega), show (((p.getD i 0).toNat : Nat) : Int) = p.getD i 0 by omega] at h2
  omega
theorem trI_in {s p xs : List Int} (hp : IsPerm p) (hl : p.length = s.length) (h : inS (trS s p) xs) : inS s (trI p xs) := by
  refine inS_of (by rw [trI_len, hl]) fun i hi => ?_
  obtain ⟨k1, k2⟩ := hp.idx (n := i) (by omega)
  have := inS_at h (i := p.idxOf (i : Int)) (by rw [trS_len]; exact k1)
  rw [trS_at s p k1, k2] at this
  rw [trI_at p xs (by omega)]
  exact this
/-- a list of numbers that was filled through a permutation -/
theorem trI_eq {p xs zs : List Int} (hp : IsPerm p) (hl : zs.length = p.length) (h : ∀ j, j < p.length → zs.getD (p.getD j 0).toNat 0 = xs.getD j 0) : zs = trI p xs := by
  refine list_eq_getD (by rw [hl, trI_len]) fun i hi => ?_
  obtain ⟨k1, k2⟩ := hp.idx (n := i) (by omega)
  rw [trI_at p xs (by omega), ← h _ k1, k2]
  rfl
/-- a row that is filled through a permutation, up to place k -/
def FillP (p xs zs : List Int) (k : Nat) : Prop := zs.length = p.length ∧ ∀ j, j < k → zs.getD (p.getD j 0).toNat 0 = xs.getD j 0
theorem FillP.nil (p xs : List Int) : FillP p xs (List.replicate p.length 0) 0 := ⟨by simp, fun j hj => by omega⟩
theorem getD_set_self (zs : List Int) (i : Nat) (x : Int) (h : i < zs.length) : (zs.set i x).getD i 0 = x := by
  simp [List.getD_eq_getElem?_getD, h]
theorem getD_set_ne (zs : List Int) {i j : Nat} (x : Int) (h : i ≠ j) : (zs.set i x).getD j 0 = zs.getD j 0 := by
  simp [List.getD_eq_getElem?_getD, h]
theorem FillP.next {p xs zs : List Int} {k : Nat} (hp : IsPerm p) (hk : k < p.length) (h : FillP p xs zs k) : FillP p xs (zs.set (p.getD k 0).toNat (xs.getD k 0)) (k + 1) := by
  obtain ⟨h1, h2⟩ := h
  have hl := hp.low hk
  refine ⟨by rw [List.length_set]; exact h1, fun j hj => ?_⟩
  by_cases e : j = k
  · subst e
    exact getD_set_self _ _ _ (by omega)
  · rw [getD_set_ne, h2 j (by omega)]
    intro e2
    have hj2 := hp.low (i := j) (by omega)
    have := hp.idx_at hk
    rw [show p.getD k 0 = p.getD j 0 by omega, hp.idx_at (by omega)] at this
    exact e this
theorem FillP.full {p xs zs : List Int} (hp : IsPerm p) (h : FillP p xs zs p.length) : zs = trI p xs := trI_eq hp h.1 h.2
theorem Wid.map_range {n : Nat} {f : Nat → Int} (h : ∀ i, i < n → -9223372036854775808 ≤ f i ∧ f i ≤ 9223372036854775807) : Wid ((List.range n).map f) := fun x hx => by
  obtain ⟨i, hi, rfl⟩ := List.mem_map.1 hx
  exact h i (List.mem_range.1 hi)
theorem trI_wid {p xs : List Int} (h : Wid xs) : Wid (trI p xs) := Wid.map_range fun i _ => h.getD _
theorem trS_back {s p : List Int} (hp : IsPerm p) (hl : p.length = s.length) : trS (trS s p) (invL p) = s := by
  refine list_eq_getD (by rw [trS_len, invL_length, hl]) fun i hi => ?_
  rw [trS_len, invL_length] at hi
  obtain ⟨k1, k2⟩ := hp.idx (n := i) hi
  rw [trS_at _ _ (by rw [invL_length]; exact hi), invL_at p hi, show ((p.idxOf (i : Int) : Int)).toNat = p.idxOf (i : Int) by omega, trS_at s p k1, k2]
  rfl
theorem trI_back {p xs : List Int} (hp : IsPerm p) (hl : xs.length = p.length) : trI p (trI (invL p) xs) = xs := by
  have hi := hp.inv
  refine list_eq_getD (by rw [trI_len, hl]) fun i hx => ?_
  rw [trI_len] at hx
  obtain ⟨k1, k2⟩ := hp.idx (n := i) hx
  have e : (invL p).idxOf ((p.idxOf (i : Int) : Nat) : Int) = i := by
    have := hi.idx_at (i := i) (by rw [invL_length]; exact hx)
    rwa [invL_at p hx] at this
  rw [trI_at p _ hx, trI_at _ _ (by rw [invL_length]; exact k1), e]
theorem prod_perm {a b : List Int} (h : a.Perm b) : prodS a = prodS b := by
  induction h with
  | nil => rfl
  | cons x _ ih => simp only [prodS]; rw [ih]
  | swap x y l => simp only [prodS]; rw [← Int.mul_assoc, ← Int.mul_assoc, Int.mul_comm y x]
  | trans _ _ h1 h2 => rw [h1, h2]
theorem IsPerm.perm {p : List Int} (h : IsPerm p) : p.Perm (upS p.length) :=
  perm_of_all h.nodup (fun x hx => mem_upS.2 ((h.mem x).1 hx)) (by rw [upS_length]; exact Nat.le_refl _) |>.symm
theorem trS_up (s : List Int) : trS s (upS s.length) = s := by
  refine list_eq_getD (by rw [trS_len, upS_length]) fun i hi => ?_
  rw [trS_len, upS_length] at hi
  rw [trS_at _ _ (by rw [upS_length]; exact hi)]
  unfold upS
  rw [getD_map_range _ hi]
  rfl
theorem trS_ok {s p : List Int} (hp : IsPerm p) (hl : p.length = s.length) (h : OkS s) : OkS (trS s p) ∧ prodS (trS s p) = prodS s := by
  have hperm : (trS s p).Perm s := by
    have := hp.perm.map fun n => s.getD n.toNat 0
    rw [hl] at this
    exact this.trans (by rw [show (upS s.length).map (fun n => s.getD n.toNat 0) = trS s (upS s.length) from rfl, trS_up])
  have hpr := prod_perm hperm
  exact ⟨⟨by rw [trS_len, hl]; exact h.rank, fun x hx => h.pos x (hperm.mem_iff.1 hx), by rw [hpr]; exact h.few⟩, hpr⟩
def fstP (l : List Int) (i : Nat) : Int := l.getD (2 * i) 0
def sndP (l : List Int) (i : Nat) : Int := l.getD (2 * i + 1) 0
/-- each number, moved by what goes with its place -/
def shI (d : Nat → Int) (xs : List Int) : List Int := (List.range xs.length).map fun i : Nat => xs.getD i 0 + d i
theorem shI_len (d : Nat → Int) (xs : List Int) : (shI d xs).length = xs.length := by simp [shI]
theorem shI_at (d : Nat → Int) (xs : List Int) {i : Nat} (h : i < xs.length) : (shI d xs).getD i 0 = xs.getD i 0 + d i := getD_map_range _ h
end
section
set_option linter.unusedVariables false
set_option linter.unusedSimpArgs false
def bcI (s : List Int) (k : Nat) (xs : List Int) : List Int := (List.range s.length).map fun i : Nat => (xs.getD (k + i) 0) % (s.getD i 0)
theorem bcI_len (s : List Int) (k : Nat) (xs : List Int) : (bcI s k xs).length = s.length := by simp [bcI]
theorem bcI_at (s : List Int) (k : Nat) (xs : List Int) {i : Nat} (h : i < s.length) : (bcI s k xs).getD i 0 = (xs.getD (k + i) 0) % (s.getD i 0) := getD_map_range _ h
/-- a pair that is none -/
def badCut (l : List Int) (i : Nat) : Prop := fstP l i < 0 ∨ sndP l i ≤ fstP l i
instance badCut.dec (l : List Int) (i : Nat) : Decidable (badCut l i) := inferInstanceAs (Decidable (_ ∨ _))
def slC (s cuts : List Int) : Int :=
  if cuts.length ≠ 2 * s.length then 11 else if ∃ i, i < s.length ∧ badCut cuts i then 11 else if ∃ i, i < s.length ∧ s.getD i 0 < sndP cuts i then 13 else 0
def slS (s cuts : List Int) : List Int := (List.range s.length).map fun i : Nat => sndP cuts i - fstP cuts i
theorem slC_len {s cuts : List Int} (h : cuts.length ≠ 2 * s.length) : slC s cuts = 11 := if_pos h
theorem slC_bad {s cuts : List Int} {i : Nat} (hi : i < s.length) (h : badCut cuts i) : slC s cuts = 11 := by
  unfold slC
  split
  · rfl
  · rw [if_pos ⟨i, hi, h⟩]
theorem slC_out {s cuts : List Int} (hl : cuts.length = 2 * s.length) (hg : ∀ i, i < s.length → ¬ badCut cuts i) {i : Nat} (hi : i < s.length) (h : s.getD i 0 < sndP cuts i) : slC s cuts = 13 := by
  unfold slC
  rw [if_neg (by omega), if_neg (fun ⟨j, hj, hb⟩ => hg j hj hb), if_pos ⟨i, hi, h⟩]
theorem slC_ok {s cuts : List Int} (hl : cuts.length = 2 * s.length) (hg : ∀ i, i < s.length → ¬ badCut cuts i) (h : ∀ i, i < s.length → ¬ s.getD i 0 < sndP cuts i) : slC s cuts = 0 := by
  unfold slC
  rw [if_neg (by omega), if_neg (fun ⟨j, hj, hb⟩ => hg j hj hb), if_neg (fun ⟨j, hj, hb⟩ => h j hj hb)]
theorem slC_is {s cuts : List Int} (h : slC s cuts = 0) : cuts.length = 2 * s.length ∧ ∀ i, i < s.length → 0 ≤ fstP cuts i ∧ fstP cuts i < sndP cuts i ∧ sndP cuts i ≤ s.getD i 0 := by
  unfold slC at h
  split at h
  · cases h
  · next h1 =>
    split at h
    · cases h
    · next h2 =>
      split at h
      · cases h
      · next h3 =>
        refine ⟨by omega, fun i hi => ?_⟩
        have a : ¬ badCut cuts i := fun hb => h2 ⟨i, hi, hb⟩
        have b : ¬ s.getD i 0 < sndP cuts i := fun hb => h3 ⟨i, hi, hb⟩
        unfold badCut at a
        omega
theorem slS_len (s cuts : List Int) : (slS s cuts).length = s.length := by simp [slS]
theorem slS_at (s cuts : List Int) {i : Nat} (h : i < s.length) : (slS s cuts).getD i 0 = sndP cuts i - fstP cuts i := getD_map_range _ h
theorem pos_of {s : List Int} (h : ∀ i, i < s.length → 1 ≤ s.getD i 0) : posS s := fun x hx => by
  obtain ⟨i, hi, rfl⟩ := List.mem_iff_getElem.1 hx
  rw [← getD_elem hi]
  exact h i hi
theorem prod_le {a b : List Int} (hl : a.length = b.length) (h : ∀ i, i < a.length → 1 ≤ a.getD i 0 ∧ a.getD i 0 ≤ b.getD i 0) : prodS a ≤ prodS b := by
  induction a generalizing b with
  | nil => cases b with
    | nil => exact Int.le_refl _
    | cons y b => simp at hl
  | cons x a ih => cases b with
    | nil => simp at hl
    | cons y b =>
      have h0 := h 0 (by simp)
      simp at h0
      have hi : ∀ i, i < a.length → 1 ≤ a.getD i 0 ∧ a.getD i 0 ≤ b.getD i 0 := fun i hi => by simpa using h (i + 1) (by simpa using hi)
      have h1 := ih (by simpa using hl) hi
      have h2 := prodS_pos (pos_of fun i k => (hi i k).1)
      simp only [prodS]
      exact Int.mul_le_mul h0.2 h1 (by omega) (by omega)
theorem slS_ok {s cuts : List Int} (h : slC s cuts = 0) (ok : OkS s) : OkS (slS s cuts) := by
  obtain ⟨_, h2⟩ := slC_is h
  have h3 : ∀ i, i < (slS s cuts).length → 1 ≤ (slS s cuts).getD i 0 ∧ (slS s cuts).getD i 0 ≤ s.getD i 0 := fun i hi => by
    rw [slS_len] at hi
    have := h2 i hi
    rw [slS_at _ _ hi]
    omega
  exact ⟨by rw [slS_len]; exact ok.rank, pos_of fun i hi => (h3 i hi).1, Int.le_trans (prod_le (slS_len _ _) h3) ok.few⟩
def badPad (l : List Int) (i : Nat) : Prop := fstP l i < 0 ∨ sndP l i < 0
instance badPad.dec (l : List Int) (i : Nat) : Decidable (badPad l i) := inferInstanceAs (Decidable (_ ∨ _))
def pdS (s pads : List Int) : List Int := (List.range s.length).map fun i : Nat => s.getD i 0 + (min (fstP pads i) 1024 + min (sndP pads i) 1024)
def pdC (s pads : List Int) : Int :=
  if pads.length ≠ 2 * s.length then 11 else if ∃ i, i < s.length ∧ badPad pads i then 11 else mayC (pdS s pads)
theorem pdS_len (s pads : List Int) : (pdS s pads).length = s.length := by simp [pdS]
theorem pdS_at (s pads : List Int) {i : Nat} (h : i < s.length) : (pdS s pads).getD i 0 = s.getD i 0 + (min (fstP pads i) 1024 + min (sndP pads i) 1024) := getD_map_range _ h
theorem pdC_is {s pads : List Int} (h : pdC s pads = 0) : pads.length = 2 * s.length ∧ OkS (pdS s pads) ∧ ∀ i, i < s.length → 0 ≤ fstP pads i ∧ 0 ≤ sndP pads i := by
  unfold pdC at h
  split at h
  · cases h
  · next h1 =>
    split at h
    · cases h
    · next h2 =>
      refine ⟨by omega, mayC_zero.1 h, fun i hi => ?_⟩
      have a : ¬ badPad pads i := fun hb => h2 ⟨i, hi, hb⟩
      unfold badPad at a
      omega
/-- what fits within the limit was no number that was cut -/
theorem pd_small {s pads : List Int} (h : pdC s pads = 0) (ok : OkS s) {i : Nat} (hi : i < s.length) : (pdS s pads).getD i 0 = fstP pads i + s.getD i 0 + sndP pads i ∧ fstP pads i ≤ 1024 ∧ sndP pads i ≤ 1024 := by
  obtain ⟨_, h2, h3⟩ := pdC_is h
  have h4 := getD_le_prod h2.pos (k := i) (by rw [pdS_len]; exact hi)
  have h5 := h2.few
  have h6 := ok.pos.getD hi
  have h7 := h3 i hi
  rw [pdS_at _ _ hi] at h4 ⊢
  omega
/-- where the tensor stands within what it was padded to -/
def inL (s pads : List Int) : List Int := (List.range s.length).flatMap fun i : Nat => [fstP pads i, fstP pads i + s.getD i 0]
theorem inL_len (s pads : List Int) : (inL s pads).length = 2 * s.length := by
  unfold inL
  induction s.length with
  | zero => rfl
  | succ n ih => rw [List.range_succ, List.flatMap_append, List.length_append, ih]; simp; omega
theorem flat2_at (f : Nat → List Int) (hf : ∀ i, (f i).length = 2) {n i : Nat} (hi : i < n) (j : Nat) (hj : j < 2) : ((List.range n).flatMap f).getD (2 * i + j) 0 = (f i).getD j 0 := by
  induction n with
  | zero => omega
  | succ n ih =>
    have hl : ((List.range n).flatMap f).length = 2 * n := by
      clear ih hi
      induction n with
      | zero => rfl
      | succ n ih => rw [List.range_succ, List.flatMap_append, List.length_append, ih]; simp [hf]; omega
    rw [List.range_succ, List.flatMap_append, List.getD_eq_getElem?_getD]
    by_cases h : i < n
    · rw [List.getElem?_append_left (by omega), ← List.getD_eq_getElem?_getD, ih h]
    · obtain rfl : i = n := by omega
      rw [List.getElem?_append_right (by omega), hl]
      simp [List.getD_eq_getElem?_getD]
theorem inL_fst {s pads : List Int} {i : Nat} (hi : i < s.length) : fstP (inL s pads) i = fstP pads i := by
  have := flat2_at (fun i : Nat => [fstP pads i, fstP pads i + s.getD i 0]) (fun _ => rfl) hi 0 (by omega)
  exact this
theorem inL_snd {s pads : List Int} {i : Nat} (hi : i < s.length) : sndP (inL s pads) i = fstP pads i + s.getD i 0 := by
  have := flat2_at (fun i : Nat => [fstP pads i, fstP pads i + s.getD i 0]) (fun _ => rfl) hi 1 (by omega)
  exact this
end
section
open Go.RowKit
set_option linter.unusedVariables false
set_option linter.unusedSimpArgs false
set_option maxRecDepth 100000 in
set_option maxHeartbeats 4000000 in
theorem filled_any {N F : Nat} {cap : Array Value} {f : List Int → Rat} {w : World} {v : Value} {s : List Int} {a : Option Addr} {ca : Nat} (A : ArgS w v s a ca) (na : a = none → ca = 0) (ok : OkS s)
    (heF : ∀ args w, (callFunc F args).run Tryz.prog w = .ok (.enter F args) w)
    (hdo : ∀ (B : Nat) (W : World) (x : Value) (xs : List Int), inS s xs → w.heap.size ≤ B → B ≤ W.heap.size → Below w.heap.size w W → ResS B W x xs → Calls Tryz.prog F (#[x] ++ cap) W fun e w' => ∃ r, e = .returned r ∧ ResQ B w' r (f xs) N ∧ Below B W w') :
    Calls Tryz.prog 85 #[v, .func (.func F) #[] cap] w fun e w' => ∃ r, e = .returned r ∧ RowO w.heap.size 58 (fun W v x => ResQ w.heap.size W v x N) w' r (fillV s f) ∧ Below w.heap.size w w' := by
  obtain ⟨i0, hi, hz0, hz1, hz2⟩ := info_parts infoQ
  have HA := Lib.hid A
  have HDO := Lib.hid hdo
  have hcnt := countS_eq A
  have hpr := prodS_pos ok.pos
  have hfew := ok.few
  obtain ⟨M, hM⟩ : ∃ M : Nat, prodS s = (M : Int) := ⟨(prodS s).toNat, by omega⟩
  rw [ok.count, hM] at hcnt
  have hM1 : M ≤ 1024 := by omega
  have HM := Lib.hid hM
  have HF : Hid (fillV s f = (List.range M).map fun k : Nat => f (idxS s (k : Int))) := Lib.hid (by unfold fillV; rw [hM]; simp)
  have hmk := make_rowP M (by omega)
  have hrk : s.length ≤ 4 := ok.rank
  have HNA := Lib.hid na
  have HOK := Lib.hid ok
  obtain rfl := A.is
  clear A hdo na ok hM hpr hfew
  go_enter Tryz.func85, Tryz.ntmps85
  go_wp2_with (go_at_call 93; refine hcnt.mono ?_; rintro e w1 ⟨rfl, rfl⟩)
  obtain ⟨V, hV⟩ : ∃ V, w.alloc (.cells (madeCells #[.bool false, .slice none 0 0, .slice none 0 0] (M * 3)) 58) = V := ⟨_, rfl⟩
  have r2 : OwnE w.heap.size 58 V (.slice (some ⟨w.heap.size, 0, none⟩) 0 M) [] := by
    rw [← hV]
    exact (show OwnE w.heap.size 58 _ (.slice (some ⟨w.heap.size, 0, none⟩) 0 M) [] from World.ownsRow_made w _ M (Nat.le_refl _) (by unfold maxLen; omega) (madeP_len _ _))
  have hBV : Below w.heap.size w V := by rw [← hV]; exact (Below.refl _ _).alloc (Nat.le_refl _) _
  (try rw [hV])
  have H2 := Lib.hid r2
  have HB := Lib.hid hBV
  clear r2 hBV hmk hV hcnt
  go_loopw [6, 7, 8, 9, 15] (fun v _ _ _ i wr => ∃ (k : Nat), i = .int .i64 (k : Int) ∧ k ≤ M ∧
    RowO w.heap.size 58 (fun W v x => ResQ w.heap.size W v x N) wr v ((List.range k).map fun j : Nat => f (idxS s (j : Int))) ∧ Below w.heap.size w wr) (fun _ _ _ _ i _ => M - (intOf i).toNat)
  case atStart => exact ⟨0, rfl, Nat.zero_le _, ⟨[], H2.out, AllE.nil _⟩, HB.out⟩
  case round =>
    obtain ⟨k, rfl, hk, ⟨es, hown, hall⟩, hb⟩ := hrel
    have hsz := hb.size
    obtain ⟨av, cv, rfl⟩ := ownT_slice hown
    have hle : es.length = k := by rw [hall.1]; simp
    subst hle
    by_cases hlt : es.length < M
    · have hpl := place_idx HOK.out.pos (n := (es.length : Int)) (by omega) (by rw [HM.out]; omega)
      have hix := indexS_any (n := (es.length : Int)) (HA.out.later hb) HNA.out (by omega) (by omega) (by omega)
      rw [idxC_in (mayC_ok HOK.out) (by omega) (by rw [HM.out]; omega), idxV_in (idxC_in (mayC_ok HOK.out) (by omega) (by rw [HM.out]; omega))] at hix
      have HIN := Lib.hid hpl.1
      have hltI : (es.length : Int) < (M : Int) := by omega
      clear hpl
      go_wp2_with fail
      refine hix.mono ?_
      rintro e w3 ⟨r3, rfl, R3, hb3⟩
      have hsz3 := hb3.size
      have hcall := HDO.out wr.heap.size w3 r3 _ HIN.out hsz hb3.size (hb.trans (hb3.mono hsz)) R3
      clear R3
      go_wp2_with fail
      refine hcall.mono ?_
      rintro e w5 ⟨rv, rfl, qv, hb5⟩
      have Q5 := Lib.hid qv
      obtain ⟨m5, f1, l1, i1, f2, l2, i2, rfl⟩ := qv.shape
      clear qv
      have hb5w : Below wr.heap.size wr w5 := hb3.trans hb5
      have hown5 : OwnE w.heap.size 58 w5 (.slice av es.length cv) es := hown.later hb5w
      have hall5 : AllE (fun v x => ResQ w.heap.size w5 v x N) es ((List.range es.length).map fun j : Nat => f (idxS s (j : Int))) := hall.imp fun u x _ h => h.later hb5w
      have hB5 : Below w.heap.size w w5 := hb.trans (hb5w.mono hsz)
      have hsz5 := hB5.size
      have hx5 : ResQ w.heap.size w5 (E3.agg ⟨.bool m5, .slice f1 l1 i1, .slice f2 l2 i2⟩) (f (idxS s (es.length : Int))) N := Q5.out.mono hsz
      have HALL := Lib.hid hall5
      clear hall hall5 hown
      go_wp2_with (at_builtin; refine wpList_append_own _ rfl _ _ 24 rfl w.heap.size 58 i0 _ 3 56 Tryz.underlying24 hi hz0 hz1 hz2 rfl (by decide) _ es.length (flat3 es) rfl (hown5.later ((Below.refl _ _).alloc (Nat.le_refl _) _)) ⟨w5.heap.size, 0, none⟩ 1 1 [.bool m5, .slice f1 l1 i1, .slice f2 l2 i2] rfl rfl (cell_three_new _ _ _ _ _) (by simp [Value.oneCell']) (by unfold maxLen; omega) (by omega) (by simp; omega) ?_)
      intro v' w6 hown' hgrow _
      obtain ⟨av', cv', rfl⟩ := ownT_slice hown'
      go_wp2
      go_roundw
      case rel =>
        obtain ⟨hrow6, hb6⟩ := pushE (P := fun W v x => ResQ w.heap.size W v x N) (e := ⟨.bool m5, .slice f1 l1 i1, .slice f2 l2 i2⟩) hB5 hsz5 hown5 HALL.out hx5 (fun u y h => ResQ.apart hown5 hgrow (by decide) h) hown' hgrow
        refine ⟨es.length + 1, by go_num, by omega, ?_, hb6⟩
        rw [List.range_succ, List.map_append]
        exact hrow6
      case measure => simp [intOf]; omega
    · have hkl : es.length = M := by omega
      have hltI : ¬ (es.length : Int) < (M : Int) := by omega
      have hrow : RowO w.heap.size 58 (fun W v x => ResQ w.heap.size W v x N) wr (.slice av es.length cv) (fillV s f) := ⟨es, hown, by rw [HF.out, ← hkl]; exact hall⟩
      have HROW := Lib.hid hrow
      clear hown hall hkl hrow hlt
      go_wp2_with fail
      go_ret
      exact ⟨_, rfl, HROW.out, hb⟩
set_option maxRecDepth 100000 in
set_option maxHeartbeats 4000000 in
theorem built_any {N F : Nat} {cap : Array Value} {f : List Int → Rat} {w : World} {v : Value} {s : List Int} {a : Option Addr} {ca : Nat} (A : ArgS w v s a ca) (na : a = none → ca = 0) (ok : OkS s)
    (heF : ∀ args w, (callFunc F args).run Tryz.prog w = .ok (.enter F args) w)
    (hdo : ∀ (B : Nat) (W : World) (x : Value) (xs : List Int), inS s xs → w.heap.size ≤ B → B ≤ W.heap.size → Below w.heap.size w W → ResS B W x xs → Calls Tryz.prog F (#[x] ++ cap) W fun e w' => ∃ r, e = .returned r ∧ ResQ B w' r (f xs) N ∧ Below B W w') :
    Calls Tryz.prog 42 #[v, .func (.func F) #[] cap] w fun e w' => ∃ r, e = .returned r ∧ ResT w.heap.size w' r s (fillV s f) N ∧ Below w.heap.size w w' := by
  have hrk : s.length ≤ 4 := ok.rank
  have HA := Lib.hid A
  obtain rfl := A.is
  obtain ⟨W, hW⟩ : ∃ W, w.alloc (.cells #[.slice none 0 0, .slice none 0 0] 26) = W := ⟨_, rfl⟩
  have R0 : Row W w.heap.size 26 #[.slice none 0 0, .slice none 0 0] := by rw [← hW]; exact Row.new _ _ _
  have hBW : Below w.heap.size w W := by rw [← hW]; exact (Below.refl _ _).alloc (Nat.le_refl _) _
  have hs : W.heap.size = w.heap.size + 1 := by rw [← hW]; simp
  have hc := cloneS_any (A.later hBW) na (by omega)
  have hf := fun (X : World) (hX : Below W.heap.size W X) => filled_any (N := N) (F := F) (cap := cap) (f := f) (HA.out.later (hBW.trans (hX.mono hBW.size))) na ok heF
    (fun B Y x xs h1 h2 h3 h4 h5 => hdo B Y x xs h1 (by have := hX.size; omega) h3 (hBW.trans ((hX.trans (h4.mono hX.size)).mono hBW.size)) h5)
  have HFL := Lib.hid hf
  have HL := Lib.hid (fillV_len s f)
  obtain ⟨L, hL⟩ : ∃ L, fillV s f = L := ⟨_, rfl⟩
  rw [hL] at HFL ⊢
  clear A hdo na ok hf hL
  go_enter Tryz.func42, Tryz.ntmps42
  (try rw [hW])
  go_wp2_with (go_at_call 60; refine hc.mono ?_; rintro e w1 ⟨r, rfl, hr, hb⟩; obtain ⟨a', ca', rfl, hr, -, -⟩ := hr.slice)
  refine (HFL.out w1 hb).mono ?_
  rintro e w2 ⟨r2, rfl, RO, hb2⟩
  have P2 := (R0.later hb).later hb2
  have s1 := hb.size
  have s2 := hb2.size
  obtain ⟨es, hown, hall⟩ := RO
  obtain ⟨b', cb', rfl⟩ := ownT_slice hown
  have HRS := Lib.hid (hr.later hb2)
  have hlen : es.length = L.length := hall.1
  have HO : Hid (RowO w1.heap.size 58 (fun W v x => ResQ w1.heap.size W v x N) w2 (.slice b' es.length cb') L) := Lib.hid ⟨es, hown, hall⟩
  have HLEN := Lib.hid hlen
  clear hown hall hr hlen
  obtain ⟨u0, u1, g0, g1⟩ := P2.two
  go_wp2_with fail
  have P3 := P2.set2 (.slice a' s.length ca') (.slice b' es.length cb')
  obtain ⟨z0, z1, _, _⟩ := P3.two
  refine bodyPost_ret (v := .agg #[.slice a' s.length ca', .slice b' es.length cb']) (by simp [results, Tryz.results42, go_sem, z0, z1]) rfl ⟨_, rfl, ?_, below_set2 ((hBW.trans (hb.mono (by omega))).trans (hb2.mono (by omega))) (by omega) _ _⟩
  have hR : ResT w.heap.size w2 (.agg #[.slice a' s.length ca', .slice b' es.length cb']) s L N := ⟨a', b', ca', cb', by rw [HLEN.out], (HRS.out.mono (by omega)), by rw [← HLEN.out]; exact HO.out.mono (by omega) (fun v x h => h.mono (by omega))⟩
  exact hR.far P2 (by decide) (by decide) (by decide) (kept2 _ _)
set_option maxRecDepth 100000 in
set_option maxHeartbeats 4000000 in
theorem element_any {n : Nat} {w : World} {v u : Value} {s xs : List Int} {qs : List Q3} {a b ad : Option Addr} {ca cb cd : Nat} (T : TensQ w v s qs a ca b cb) (h0 : mayT s qs = 0) (B : ArgS w u xs ad cd) (nd : ad = none → cd = 0) (hx : xs.length ≤ 1000000) (hl : lensQ qs n) (hn : n ≤ 100000000) :
    Calls Tryz.prog 44 #[v, u] w fun e w' => ∃ r, e = .returned r ∧ ResQ w.heap.size w' r (elV s (qs.map Q3.rat) xs) (n + 2) ∧ Below w.heap.size w w' := by
  have HT := Lib.hid T
  obtain rfl := B.is
  obtain rfl := T.is
  have hm0 := mayT_rank h0
  have okS := mayC_zero.1 hm0
  have hrk : s.length ≤ 4 := okS.rank
  obtain ⟨W, hW⟩ : ∃ W, ((w.alloc (.cells #[.slice a s.length ca, .slice b qs.length cb] 26)).alloc (.cells #[.bool false, .slice none 0 0, .slice none 0 0] 58)) = W := ⟨_, rfl⟩
  have R0 : Row W (w.heap.size) 26 #[.slice a s.length ca, .slice b qs.length cb] := by rw [← hW]; have h := Row.new w 26 #[.slice a s.length ca, .slice b qs.length cb]; (try simp only [World.size_alloc] at h); exact (h.alloc _)
  have R1 : Row W (w.heap.size + 1) 58 #[.bool false, .slice none 0 0, .slice none 0 0] := by rw [← hW]; have h := Row.new (w.alloc (.cells #[.slice a s.length ca, .slice b qs.length cb] 26)) 58 #[.bool false, .slice none 0 0, .slice none 0 0]; (try simp only [World.size_alloc] at h); exact h
  have hBW : Below w.heap.size w W := by rw [← hW]; exact (((Below.refl _ _).alloc (by (try simp) <;> omega) _).alloc (by (try simp) <;> omega) _)
  have hsW : W.heap.size = w.heap.size + 1 + 1 := by rw [← hW]; simp
  have hof := offsetS_any (T.later hBW).sh (B.later hBW) T.nila nd (by omega) (by omega)
  obtain ⟨c0, c1, _, _⟩ := R0.two
  by_cases hin : inS s xs
  · have hoc : offC s xs = 0 := by unfold offC; rw [if_neg (by simp [hm0]), if_neg (by simp [inS_length hin]), if_pos hin]
    have hov : offV s xs = placeS s xs := by unfold offV; rw [if_pos hoc]
    obtain ⟨p0, p1⟩ := place_range hin
    obtain ⟨p, hp⟩ : ∃ p : Nat, placeS s xs = (p : Int) := ⟨(placeS s xs).toNat, by omega⟩
    have hcnt := (mayT_valid h0).1
    rw [okS.count] at hcnt
    have hpl : p < qs.length := by omega
    rw [hoc, hov, hp] at hof
    have hel : elV s (qs.map Q3.rat) xs = (qs[p]).rat := by
      rw [elV_in hin, hp, List.getD_eq_getElem?_getD]
      simp [hpl]
    rw [hel]
    have hokq := (mayT_valid h0).2 qs[p] (List.getElem_mem _)
    obtain ⟨hl1, hl2⟩ := hl qs[p] (List.getElem_mem _)
    obtain ⟨q, hq⟩ : ∃ q, qs[p] = q := ⟨_, rfl⟩
    rw [hq] at hokq hl1 hl2 ⊢
    have hq? : qs[p]? = some q := by rw [List.getElem?_eq_getElem hpl, hq]
    have hpI0 : (0 : Int) ≤ (p : Int) := by omega
    have hpI : (p : Int) < (qs.length : Int) := by omega
    have HX1 := Lib.hid hq?
    clear T B hel hq hcnt p0 p1 hin hoc hov hp h0 hm0 hl hq?
    go_enter Tryz.func44, Tryz.ntmps44
    (try rw [hW])
    go_wp2_with fail
    refine hof.mono ?_
    rintro e w1 ⟨rfl, hb1⟩
    have s1 := hb1.size
    have hBw1 : Below w.heap.size w w1 := hBW.trans (hb1.mono (by omega))
    obtain ⟨bb, o, x0, x1, x2, q', hbo, hqk, f0, f1, f2, hraw⟩ := HT.out.el.at hpl
    have e0 := (hBw1.cell (World.block_lt_of_cell? _ _ f0)).trans f0
    have e1 := (hBw1.cell (World.block_lt_of_cell? _ _ f1)).trans f1
    have e2 := (hBw1.cell (World.block_lt_of_cell? _ _ f2)).trans f2
    subst hbo
    obtain rfl : q' = q := by rw [HX1.out] at hqk; exact (Option.some.inj hqk).symm
    obtain ⟨ad2, bd, ca2, cb2, hraw', A, D, na, nb⟩ := hraw
    simp only [Value.agg.injEq, Array.mk.injEq, List.cons.injEq, and_true] at hraw'
    obtain ⟨rfl, rfl, rfl⟩ := hraw'
    have RX0 := R0.later hb1
    have RX1 := R1.later hb1
    obtain ⟨k0, k1, _, _⟩ := RX0.two
    obtain ⟨V, hV⟩ : ∃ V, w1.alloc (.cells #[.bool q'.neg, .slice ad2 q'.num.length ca2, .slice bd q'.den.length cb2] 58) = V := ⟨_, rfl⟩
    have R2 : Row V w1.heap.size 58 #[.bool q'.neg, .slice ad2 q'.num.length ca2, .slice bd q'.den.length cb2] := by rw [← hV]; exact Row.new _ _ _
    have RV1 : Row V (w.heap.size + 1) 58 #[.bool false, .slice none 0 0, .slice none 0 0] := by rw [← hV]; exact RX1.alloc _
    have hBV1 : Below w1.heap.size w1 V := by rw [← hV]; exact (Below.refl _ _).alloc (Nat.le_refl _) _
    have hBV : Below w.heap.size w V := hBw1.trans (hBV1.mono (by omega))
    have hsV : V.heap.size = w1.heap.size + 1 := by rw [← hV]; simp
    have mkS : ∀ X, Kept (w.heap.size + 1) V X → X.cell? ⟨w1.heap.size, 0, none⟩ = some (.bool q'.neg) ∧ X.cell? ⟨w1.heap.size, 1, none⟩ = some (.slice ad2 q'.num.length ca2) ∧ X.cell? ⟨w1.heap.size, 2, none⟩ = some (.slice bd q'.den.length cb2) ∧ Kept (w.heap.size + 1) V X := fun X h => ⟨(R2.kept h (by omega)).cell 0, (R2.kept h (by omega)).cell 1, (R2.kept h (by omega)).cell 2, h⟩
    have HA := Lib.hid A
    have HB := Lib.hid D
    have HD := Lib.hid na
    have HE := Lib.hid nb
    have HOKQ := Lib.hid hokq
    clear A D na nb hof hqk hokq R0 R1 c0 c1 RX0 RX1 hW
    go_wp2_with fail
    (try rw [hV])
    clear hV e0 e1 e2 k0 k1 f0 f1 f2
    go_region_held3 (fun X => X.cell? ⟨w1.heap.size, 0, none⟩ = some (.bool q'.neg) ∧ X.cell? ⟨w1.heap.size, 1, none⟩ = some (.slice ad2 q'.num.length ca2) ∧ X.cell? ⟨w1.heap.size, 2, none⟩ = some (.slice bd q'.den.length cb2) ∧ Kept (w.heap.size + 1) V X)
      (((refine mkS _ ?_; (repeat' (first | exact Kept.refl _ _ | refine Kept.drew ?_ | refine Kept.alloc ?_ _ | refine Kept.set ?_ _ _ | refine Kept.below ?_ (by assumption))))))
      ((first
        | (go_at_call 88; (with_reducible refine (cloneN_any (HB.out.later (Kept.under (show Kept (w.heap.size + 1) V _ by (repeat' (first | exact Kept.refl _ _ | refine Kept.drew ?_ | refine Kept.alloc ?_ _ | refine Kept.set ?_ _ _ | refine Kept.below ?_ (by assumption)))) hBV (by omega) (by omega))) HE.out (by omega)).mono ?_); rintro e w4 ⟨r4, rfl, q4, hb4⟩; obtain ⟨ad4, cp4, rfl⟩ := ownT_slice q4; have P4 := RV1.kept (show Kept (w.heap.size + 1 + 1 + 1) V w4 by (repeat' (first | exact Kept.refl _ _ | refine Kept.drew ?_ | refine Kept.alloc ?_ _ | refine Kept.set ?_ _ _ | refine Kept.below ?_ (by assumption)))) (by omega); obtain ⟨u0, u1, u2, g0, g1, g2⟩ := P4.three)
        | (go_at_call 88; (with_reducible refine (cloneN_any (HA.out.later (Kept.under (show Kept (w.heap.size + 1) V _ by (repeat' (first | exact Kept.refl _ _ | refine Kept.drew ?_ | refine Kept.alloc ?_ _ | refine Kept.set ?_ _ _ | refine Kept.below ?_ (by assumption)))) hBV (by omega) (by omega))) HD.out (by omega)).mono ?_); rintro e w3 ⟨r3, rfl, q3, hb3⟩; obtain ⟨ad3, cp3, rfl⟩ := ownT_slice q3)))
    have Q3' := Lib.hid (q3.later hb4)
    have Q4 := Lib.hid q4
    clear q3 q4
    have hk4 := (show Kept (w.heap.size + 1 + 1 + 1) V w4 by (repeat' (first | exact Kept.refl _ _ | refine Kept.drew ?_ | refine Kept.alloc ?_ _ | refine Kept.set ?_ _ _ | refine Kept.below ?_ (by assumption)))).size
    have hk3 := (show Kept (w.heap.size + 1 + 1 + 1) V w3 by (repeat' (first | exact Kept.refl _ _ | refine Kept.drew ?_ | refine Kept.alloc ?_ _ | refine Kept.set ?_ _ _ | refine Kept.below ?_ (by assumption)))).size
    have hK4 := (Kept.under (show Kept (w.heap.size + 1 + 1 + 1) V w4 by (repeat' (first | exact Kept.refl _ _ | refine Kept.drew ?_ | refine Kept.alloc ?_ _ | refine Kept.set ?_ _ _ | refine Kept.below ?_ (by assumption)))) hBV (by omega) (by omega))
    go_wp2_with fail
    have hQ : ResQ w.heap.size w4 (.agg #[.bool q'.neg, .slice ad3 q'.num.length cp3, .slice ad4 q'.den.length cp4]) q'.rat (n + 2) :=
      copied_res HOKQ.out (Num.mono Q3'.out (by show w.heap.size ≤ V.heap.size; omega)) (Num.mono Q4.out (by omega)) HA.out.wf HB.out.wf (by omega) (by omega)
    refine bodyPost_ret (v := .agg #[.bool q'.neg, .slice ad3 q'.num.length cp3, .slice ad4 q'.den.length cp4]) (by simp [results, Tryz.results44, go_sem, u0, u1, u2]) rfl ⟨_, rfl, hQ.far P4 (by decide) (kept3 _ _ _), below_set3 hK4 (by omega) _ _ _⟩
  · have hoc : offC s xs ≠ 0 := by
      unfold offC
      rw [if_neg (by simp [hm0])]
      split
      · decide
      · first | decide | (rw [if_neg hin]; decide)
    obtain ⟨c, hc⟩ : ∃ c, offC s xs = c := ⟨_, rfl⟩
    rw [hc] at hof hoc
    have hne : (c != 0) = true := by simp [hoc]
    have e : elV s (qs.map Q3.rat) xs = intQ 0 := by rw [elV_out hin, intQ_zero]
    rw [e]
    clear T B e hin hc hoc h0 hm0 hl
    go_enter Tryz.func44, Tryz.ntmps44
    (try rw [hW])
    go_wp2_with (first
      | (go_at_call 86; refine hof.mono ?_; rintro e w1 ⟨rfl, hb1⟩; have s1 := hb1.size)
      | (go_at_call 87; refine (int_any 0 _ (by omega) (by omega)).mono ?_; rintro e w2 ⟨r, rfl, qv, hb2⟩; have Q2 := Lib.hid qv; obtain ⟨m5, f1, l1, j1, f2, l2, j2, rfl⟩ := qv.shape; clear qv; have P2 := (R1.later hb1).later hb2; have s2 := hb2.size; obtain ⟨u0, u1, u2, g0, g1, g2⟩ := P2.three))
    have P3 := P2.set3 (.bool m5) (.slice f1 l1 j1) (.slice f2 l2 j2)
    obtain ⟨z0, z1, z2, _, _, _⟩ := P3.three
    refine bodyPost_ret (v := .agg #[.bool m5, .slice f1 l1 j1, .slice f2 l2 j2]) (by simp [results, Tryz.results44, go_sem, z0, z1, z2]) rfl ⟨_, rfl, ?_, below_set3 (hBW.trans ((hb1.mono (by omega)).trans (hb2.mono (by omega)))) (by omega) _ _ _⟩
    exact ((Q2.out.mono (by omega)).more (by omega)).far P2 (by decide) (kept3 _ _ _)
end
end Go.Proofs.YtooglnhlhgmhdaaGreat
