/-
  slices.Backward over limbs: its contract. Cmp.
-/
import Derived.Test.YteinfanfhgpciaaRound
import Derived.Test.YteinfanfhgpciaaTrim
namespace Go.Proofs.Yteinfanfhgpciaa
open Go.RowKit Go.Shelf
attribute [local go_sem] Oper.semAt_some

/-- the last k places, from above -/
def Downto {n : Nat} (pre : List (Fin n)) (k : Nat) : Prop := pre.length = k ∧ ∀ i (h : i < pre.length), (pre[i]).val + i + 1 = n
theorem Downto.nil {n : Nat} : Downto ([] : List (Fin n)) 0 := ⟨rfl, fun i h => by simp at h⟩
theorem Downto.snoc {n k : Nat} {pre : List (Fin n)} (h : Downto pre k) (x : Fin n) (hx : x.val + k + 1 = n) : Downto (pre ++ [x]) (k + 1) := by
  obtain ⟨h1, h2⟩ := h
  refine ⟨by simp [h1], fun i hi => ?_⟩
  by_cases hlt : i < pre.length
  · rw [List.getElem_append_left hlt]; exact h2 i hlt
  · have : i = k := by simp at hi; omega
    subst this
    rw [List.getElem_append_right (by omega)]
    simp [h1, hx]

set_option maxRecDepth 100000 in
set_option maxHeartbeats 2000000 in
theorem back1_in (n l Bs n₀ : Nat) (ad : Option Addr) (xs : List Int) (cap : Nat) (hm : xs.length ≤ 35184372088832) (hBn : Bs < n₀) (hb : xs ≠ [] → ∀ a, ad = some a → a.block < n₀) (J Jx : List (Fin xs.length) → World → Prop)
    (hY : ∀ pre x W, J pre W → pre.length < xs.length → YieldAt Fence.wide (n - 1) Try.prog l (limbAt xs x) W fun e W' =>
      (e = .returned (.bool true) ∧ J (pre ++ [x]) W' ∧ Below n₀ W W') ∨ (e = .returned (.bool false) ∧ Jx (pre ++ [x]) W'))
    (W : World) (hBs : W.cell? ⟨Bs, 0, none⟩ = some (.slice ad xs.length cap)) (hl : Lim W ad xs) (h0 : J [] W) :
    CallsIn Fence.wide n Try.prog 54 #[.func (.yield l) #[] #[], .pointer (some ⟨Bs, 0, none⟩)] W fun e W' => (∃ v, e = .returned v) ∧
      ((∃ ys, Downto ys xs.length ∧ J ys W') ∨ (∃ pre, (∃ k, k ≤ xs.length ∧ Downto pre k) ∧ Jx pre W')) := by
  refine callsIn_of_wp Try.func54 rfl trivial ?_ rfl
  simp only [Try.ntmps54, List.size_toArray, List.length_cons, List.length_nil, Nat.reduceAdd, Nat.reduceSub, Array.replicate_succ, Array.replicate_zero, List.push_toArray, List.append_toArray, List.nil_append, List.cons_append]
  gi_wp2_with fail
  gi_loopw [3] (fun i wr => ∃ (k : Nat) (pre : List (Fin xs.length)), k ≤ xs.length ∧ i = .int .i64 ((xs.length : Int) - 1 - k) ∧ Downto pre k ∧ J pre wr ∧ Below n₀ W wr)
    (fun i _ => (intOf i + 1).toNat)
  case atStart => exact ⟨0, [], Nat.zero_le _, by simp, Downto.nil, h0, Below.refl _ _⟩
  case round =>
    obtain ⟨k, pre, hk, rfl, hdn, hJs, hnx⟩ := hrel
    have hBr := (hnx.cell (p := ⟨Bs, 0, none⟩) hBn).trans hBs
    by_cases hlt : k < xs.length
    · rcases hl with rfl | ⟨b, off, rfl, hc⟩
      · simp at hlt
      · obtain ⟨j, hj⟩ : ∃ j, j + k + 1 = xs.length := ⟨xs.length - k - 1, by omega⟩
        have hji : ((xs.length : Int) - 1 - k) = (j : Int) := by omega
        rw [hji]
        have hjl : j < xs.length := by omega
        obtain ⟨fn, tmps, assign, body, hy, hR⟩ := hY pre ⟨j, hjl⟩ wr hJs (by rw [hdn.1]; exact hlt)
        simp only [limbAt] at hy
        have hcx := (hnx.cell (p := ⟨b, off + j, none⟩) (hb (by rintro rfl; simp at hlt) ⟨b, off, none⟩ rfl)).trans (hc j (by omega))
        have ej : xs[j]?.getD 0 = xs[j] := by simp [hjl]
        rw [ej] at hy
        have HJ := Lib.hid hj
        clear hc hj hji ej
        gi_wp2
        refine ⟨(fun h => by cases h), hR.mono ?_⟩
        rintro e W3 (⟨rfl, hJ3, hk3⟩ | ⟨rfl, hJx3⟩)
        · gi_wp2
          go_roundw
          case rel => exact ⟨k + 1, _, by omega, by have := HJ.out; congr 1; omega, hdn.snoc ⟨j, hjl⟩ HJ.out, hJ3, hnx.trans hk3⟩
          case measure => simp [intOf]
        · gi_wp2
          refine bodyPost_ret (results_none rfl _ _ _) rfl ?_
          exact ⟨⟨_, rfl⟩, .inr ⟨_, ⟨k + 1, by omega, hdn.snoc ⟨j, hjl⟩ HJ.out⟩, hJx3⟩⟩
    · obtain rfl : k = xs.length := by omega
      have hji : ((xs.length : Int) - 1 - xs.length) = -1 := by omega
      rw [hji]
      clear hji
      gi_wp2
      go_end0
      exact ⟨⟨_, rfl⟩, .inl ⟨_, hdn, hJs⟩⟩

theorem back_any (ad : Option Addr) (n cap : Nat) (w : World) :
    Calls Try.prog 44 #[.slice ad n cap] w fun e w' => e = .returned (.func (.func 54) #[] #[.pointer (some ⟨w.heap.size, 0, none⟩)]) ∧ w' = w.alloc (.cells #[.slice ad n cap] 24) := by
  go_enter Try.func44, Try.ntmps44
  go_wp2
  go_ret
  exact ⟨rfl, rfl⟩

theorem back_stops (n Bs n₀ : Nat) (ad : Option Addr) (xs : List Int) (cap : Nat) (hm : xs.length ≤ 35184372088832) (hBn : Bs < n₀) (hb : xs ≠ [] → ∀ a, ad = some a → a.block < n₀) (w : World) (hBs : Bs < w.heap.size)
    (hc : w.cell? ⟨Bs, 0, none⟩ = some (.slice ad xs.length cap)) (hl : Lim w ad xs) :
    SeqStopsK Fence.wide n Try.prog 54 #[.pointer (some ⟨Bs, 0, none⟩)] (limbAt xs (n := xs.length)) (Below n₀) (fun ys => Downto ys xs.length) (fun pre => ∃ k, k ≤ xs.length ∧ Downto pre k) xs.length w := fun l J Jx W hW _ _ hY h0 =>
  back1_in n l Bs n₀ ad xs cap hm hBn hb J Jx hY W ((hW.cell (p := ⟨Bs, 0, none⟩) hBs).trans hc) (hl.later hW) h0

end Go.Proofs.Yteinfanfhgpciaa
