/-
  The iterator over limbs: its contract.
-/
import Derived.RangeFuncNested
import Derived.RangeFuncBound
import Derived.RangeFuncCalls
import Derived.RangeFuncLeaves
import Derived.Shelf.Abstract
import Derived.OwnWalkIn
import Derived.TacticsInMore
import Derived.LoopNIn
import Derived.LoopIn
import Derived.Test.YteinfanfhgpciaaMem
namespace Go.Proofs.Yteinfanfhgpciaa
open Go.RowKit Go.Shelf
attribute [local go_sem] Oper.semAt_some

theorem wideCall {n : Nat} {P : Program} {f : FuncId} {args : Array Value} {w : World} {R : Ending → World → Prop} (h : Calls P f args w R) :
    Fence.wide.fn f ∧ (Fence.wide.depth.isSome = true → 1 ≤ n) ∧ CallsIn Fence.wide (n - 1) P f args w R := ⟨trivial, (fun h => by cases h), callsIn_wide.2 h⟩
theorem roundCall {n l : Nat} {P : Program} {f : FuncId} {args : Array Value} {w : World} {R : Ending → World → Prop} (h : Calls P f args w R) :
    (Fence.wide.inRound l).fn f ∧ ((Fence.wide.inRound l).depth.isSome = true → 1 ≤ n) ∧ CallsIn (Fence.wide.inRound l) (n - 1) P f args w R := ⟨trivial, (fun h => by cases h), CallsIn.inRound l (callsIn_wide.2 h)⟩

/-- the first k places -/
def Upto {n : Nat} (pre : List (Fin n)) (k : Nat) : Prop := pre.map Fin.val = List.range k
theorem Upto.nil {n : Nat} : Upto ([] : List (Fin n)) 0 := rfl
theorem Upto.snoc {n k : Nat} {pre : List (Fin n)} (h : Upto pre k) (hk : k < n) : Upto (pre ++ [⟨k, hk⟩]) (k + 1) := by
  unfold Upto at *
  rw [List.map_append, h, List.range_succ]
  rfl
theorem Upto.length {n k : Nat} {pre : List (Fin n)} (h : Upto pre k) : pre.length = k := by
  have := congrArg List.length h
  simpa using this

theorem range_limbs (xs : List Int) (m : Nat) (hm : m ≤ xs.length) : (List.range m).map (fun i => xs[i]?.getD 0) = xs.take m := by
  apply List.ext_getElem
  · simp; omega
  · intro i h1 h2
    simp at h1
    simp [show i < xs.length by omega]
theorem Upto.limbs {xs : List Int} {m : Nat} {ys : List (Fin m)} (h : Upto ys m) (hm : m ≤ xs.length) : ys.map (fun x => xs[x.val]?.getD 0) = xs.take m := by
  rw [← range_limbs xs m hm, ← h, List.map_map]
  rfl

/-- what a round is handed: the place, the limb -/
def limbAt (xs : List Int) {n : Nat} (x : Fin n) : Array Value := #[.int .i64 (x.val : Int), .int .u32 (xs[x.val]?.getD 0)]

set_option maxRecDepth 100000 in
set_option maxHeartbeats 2000000 in
theorem limbs1_in (n l Bs n₀ : Nat) (ad : Option Addr) (xs : List Int) (cap : Nat) (hm : xs.length ≤ 35184372088832) (hcap : xs.length ≤ cap) (hb : xs ≠ [] → ∀ a, ad = some a → a.block < n₀) (J Jx : List (Fin (trimN xs xs.length)) → World → Prop)
    (hY : ∀ pre x W, J pre W → pre.length < trimN xs xs.length → YieldAt Fence.wide (n - 1) Try.prog l (limbAt xs x) W fun e W' =>
      (e = .returned (.bool true) ∧ J (pre ++ [x]) W' ∧ Below n₀ W W') ∨ (e = .returned (.bool false) ∧ Jx (pre ++ [x]) W'))
    (W : World) (hBs : W.cell? ⟨Bs, 0, none⟩ = some (.slice ad xs.length cap)) (hl : Lim W ad xs) (h0 : J [] W) :
    CallsIn Fence.wide n Try.prog 52 #[.func (.yield l) #[] #[], .pointer (some ⟨Bs, 0, none⟩)] W fun e W' => (∃ v, e = .returned v) ∧
      ((∃ ys, Upto ys (trimN xs xs.length) ∧ J ys W') ∨ (∃ pre, (∃ k, k ≤ trimN xs xs.length ∧ Upto pre k) ∧ Jx pre W')) := by
  have hle := trim_le xs
  refine callsIn_of_wp Try.func52 rfl trivial ?_ rfl
  simp only [Try.ntmps52, List.size_toArray, List.length_cons, List.length_nil, Nat.reduceAdd, Nat.reduceSub, Array.replicate_succ, Array.replicate_zero, List.push_toArray, List.append_toArray, List.nil_append, List.cons_append]
  gi_wp2_with fail
  refine wideCall ((cut_any ad xs cap _ hl (by unfold maxLen; omega) hcap).mono ?_)
  rintro e w' ⟨rfl, rfl⟩
  generalize trimN xs xs.length = m at *
  gi_wp2_with fail
  gi_loopw [3, 4, 8] (fun _ _ i wr => ∃ (k : Nat) (pre : List (Fin m)), k ≤ m ∧ i = .int .i64 k ∧ Upto pre k ∧ J pre wr ∧ Below n₀ W wr)
    (fun _ _ i _ => m - (intOf i).toNat)
  case atStart => exact ⟨0, [], Nat.zero_le _, rfl, rfl, h0, Below.refl _ _⟩
  case round =>
    obtain ⟨k, pre, hk, rfl, hup, hJs, hnx⟩ := hrel
    by_cases hlt : k < m
    · rcases hl with rfl | ⟨b, off, rfl, hc⟩
      · simp at hle; omega
      · obtain ⟨fn, tmps, assign, body, hy, hR⟩ := hY pre ⟨k, hlt⟩ wr hJs (by rw [hup.length]; exact hlt)
        simp only [limbAt] at hy
        have hcx := (hnx.cell (p := ⟨b, off + k, none⟩) (hb (by rintro rfl; simp at hle; omega) ⟨b, off, none⟩ rfl)).trans (hc k (by omega))
        clear hc
        gi_wp2
        refine ⟨(fun h => by cases h), hR.mono ?_⟩
        rintro e W3 (⟨rfl, hJ3, hk3⟩ | ⟨rfl, hJx3⟩)
        · gi_wp2
          go_roundw
          case rel => exact ⟨k + 1, _, by omega, by go_num, hup.snoc hlt, hJ3, hnx.trans hk3⟩
          case measure => simp [intOf]; omega
        · gi_wp2
          refine bodyPost_ret (results_none rfl _ _ _) rfl ?_
          exact ⟨⟨_, rfl⟩, .inr ⟨_, ⟨k + 1, by omega, hup.snoc hlt⟩, hJx3⟩⟩
    · obtain rfl : k = m := by omega
      gi_wp2
      go_end0
      exact ⟨⟨_, rfl⟩, .inl ⟨_, hup, hJs⟩⟩

theorem limbs_any (ad : Option Addr) (n cap : Nat) (w : World) :
    Calls Try.prog 42 #[.slice ad n cap] w fun e w' => e = .returned (.func (.func 52) #[] #[.pointer (some ⟨w.heap.size, 0, none⟩)]) ∧ w' = w.alloc (.cells #[.slice ad n cap] 24) := by
  go_enter Try.func42, Try.ntmps42
  go_wp2
  go_ret
  exact ⟨rfl, rfl⟩

theorem limbs_stops (n Bs n₀ : Nat) (ad : Option Addr) (xs : List Int) (cap : Nat) (hm : xs.length ≤ 35184372088832) (hcap : xs.length ≤ cap) (hb : xs ≠ [] → ∀ a, ad = some a → a.block < n₀) (w : World) (hBs : Bs < w.heap.size)
    (hc : w.cell? ⟨Bs, 0, none⟩ = some (.slice ad xs.length cap)) (hl : Lim w ad xs) :
    SeqStopsK Fence.wide n Try.prog 52 #[.pointer (some ⟨Bs, 0, none⟩)] (limbAt xs (n := trimN xs xs.length)) (Below n₀) (fun ys => Upto ys (trimN xs xs.length)) (fun pre => ∃ k, k ≤ trimN xs xs.length ∧ Upto pre k) (trimN xs xs.length) w := fun l J Jx W hW _ _ hY h0 =>
  limbs1_in n l Bs n₀ ad xs cap hm hcap hb J Jx hY W ((hW.cell (p := ⟨Bs, 0, none⟩) hBs).trans hc) (hl.later hW) h0

end Go.Proofs.Yteinfanfhgpciaa
