/-
  Contracts of the law's own helpers: Equal, same.
-/
import Derived.Test.YteinfanfhgpciaaVal
namespace Go.Proofs.Yteinfanfhgpciaa
open Go.RowKit

/-- are they limbs of one number? -/
def eqB (xs ys : List Int) : Bool := (List.range (max xs.length ys.length)).all fun i => decide (xs.getD i 0 = ys.getD i 0)
theorem eqB_true {xs ys : List Int} : eqB xs ys = true ↔ ∀ i, i < max xs.length ys.length → xs.getD i 0 = ys.getD i 0 := by
  unfold eqB
  rw [List.all_eq_true]
  constructor
  · intro h i hi
    exact of_decide_eq_true (h i (List.mem_range.2 hi))
  · intro h i hi
    exact decide_eq_true (h i (List.mem_range.1 hi))
theorem eqB_false {xs ys : List Int} (i : Nat) (hi : i < max xs.length ys.length) (h : xs.getD i 0 ≠ ys.getD i 0) : eqB xs ys = false := by
  cases e : eqB xs ys with
  | false => rfl
  | true => exact absurd (eqB_true.1 e i hi) h
theorem eqB_self (xs : List Int) : eqB xs xs = true := eqB_true.2 fun _ _ => rfl

set_option maxHeartbeats 1000000 in
theorem equal_any (a b : Option Addr) (xs ys : List Int) (capa capb : Nat) (w : World) (hla : Lim w a xs) (hlb : Lim w b ys) (hma : xs.length ≤ 70368744177664) (hmb : ys.length ≤ 70368744177664) :
    Calls Try.prog 22 #[.slice a xs.length capa, .slice b ys.length capb] w fun e w' => e = .returned (.bool (eqB xs ys)) ∧ w = w' := by
  go_enter Try.func22, Try.ntmps22
  go_wp2
  go_loop [5, 6, 7] (fun i _ _ => ∃ k : Nat, k ≤ max xs.length ys.length ∧ i = .int .i64 k ∧ ∀ j, j < k → xs.getD j 0 = ys.getD j 0) (fun i _ _ => max xs.length ys.length - (intOf i).toNat)
  case atStart => exact ⟨0, Nat.zero_le _, rfl, fun j hj => by omega⟩
  case round =>
    obtain ⟨k, hk, rfl, hall⟩ := hrel
    have HA := Lib.hid hall
    clear hall
    by_cases hlt : k < max xs.length ys.length
    · obtain ⟨x, hxk⟩ : ∃ x, xs.getD k 0 = x := ⟨_, rfl⟩
      obtain ⟨y, hyk⟩ : ∃ y, ys.getD k 0 = y := ⟨_, rfl⟩
      have hx0 : ¬ k < xs.length → x = 0 := fun h => by rw [← hxk]; simp [List.getElem?_eq_none (Nat.le_of_not_lt h)]
      have hy0 : ¬ k < ys.length → y = 0 := fun h => by rw [← hyk]; simp [List.getElem?_eq_none (Nat.le_of_not_lt h)]
      have hca : k < xs.length → ∃ p off, a = some ⟨p, off, none⟩ ∧ w.cell? ⟨p, off + k, none⟩ = some (.int .u32 x) := fun h => by
        rcases hla with rfl | ⟨p, off, rfl, hc⟩
        · simp at h
        · exact ⟨p, off, rfl, by rw [hc k h, hxk]⟩
      have hcb : k < ys.length → ∃ p off, b = some ⟨p, off, none⟩ ∧ w.cell? ⟨p, off + k, none⟩ = some (.int .u32 y) := fun h => by
        rcases hlb with rfl | ⟨p, off, rfl, hc⟩
        · simp at h
        · exact ⟨p, off, rfl, by rw [hc k h, hyk]⟩
      have HX := Lib.hid hxk
      have HY := Lib.hid hyk
      have HK := Lib.hid hlt
      have HH := Lib.hid hk
      clear hxk hyk hla hlb hlt hk
      by_cases e : x = y
      · have hne : (x != y) = false := by simp [e]
        have fin : ∃ j : Nat, j ≤ max xs.length ys.length ∧ Value.int .i64 ((k : Int) + 1) = .int .i64 j ∧ ∀ i, i < j → xs.getD i 0 = ys.getD i 0 :=
          ⟨k + 1, HK.out, by go_num, fun i hi => by
            by_cases h : i = k
            · subst h; rw [HX.out, HY.out]; exact e
            · exact HA.out i (by omega)⟩
        have FIN := Lib.hid fin
        have E := Lib.hid e
        clear fin e
        by_cases h1 : k < xs.length <;> by_cases h2 : k < ys.length
        · obtain ⟨p, off, rfl, c1⟩ := hca h1
          obtain ⟨p2, off2, rfl, c2⟩ := hcb h2
          clear hx0 hy0 hca hcb
          go_wp2
          go_round
          case rel => exact FIN.out
          case measure => have := HK.out; simp [intOf]; omega
        · obtain ⟨p, off, rfl, c1⟩ := hca h1
          have h0 := hy0 h2
          subst h0
          clear hx0 hy0 hca hcb
          go_wp2
          go_round
          case rel => exact FIN.out
          case measure => have := HK.out; simp [intOf]; omega
        · obtain ⟨p2, off2, rfl, c2⟩ := hcb h2
          have h0 := hx0 h1
          subst h0
          clear hx0 hy0 hca hcb
          go_wp2
          go_round
          case rel => exact FIN.out
          case measure => have := HK.out; simp [intOf]; omega
        · have := HK.out; omega
      · have hf : eqB xs ys = false := eqB_false k HK.out (by rw [HX.out, HY.out]; exact e)
        have hne : (x != y) = true := by simp [e]
        clear e
        have HF := Lib.hid hf
        clear hf
        by_cases h1 : k < xs.length <;> by_cases h2 : k < ys.length
        · obtain ⟨p, off, rfl, c1⟩ := hca h1
          obtain ⟨p2, off2, rfl, c2⟩ := hcb h2
          clear hx0 hy0 hca hcb
          go_wp2
          go_ret
          exact ⟨by rw [HF.out]; rfl, rfl⟩
        · obtain ⟨p, off, rfl, c1⟩ := hca h1
          have h0 := hy0 h2
          subst h0
          clear hx0 hy0 hca hcb
          go_wp2
          go_ret
          exact ⟨by rw [HF.out]; rfl, rfl⟩
        · obtain ⟨p2, off2, rfl, c2⟩ := hcb h2
          have h0 := hx0 h1
          subst h0
          clear hx0 hy0 hca hcb
          go_wp2
          go_ret
          exact ⟨by rw [HF.out]; rfl, rfl⟩
        · have := HK.out; omega
    · have h1 : ¬ k < xs.length := by omega
      have h2 : ¬ k < ys.length := by omega
      have ht : eqB xs ys = true := eqB_true.2 fun i hi => HA.out i (by omega)
      go_wp2
      go_ret
      exact ⟨rfl, rfl⟩

set_option maxHeartbeats 1000000 in
theorem same_any (a b : Option Addr) (xs ys : List Int) (capa capb : Nat) (w : World) (hla : Lim w a xs) (hlb : Lim w b ys) (hma : xs.length ≤ 70368744177664) (hmb : ys.length ≤ 70368744177664) (h : xs = ys) :
    Calls Try.prog 32 #[.slice a xs.length capa, .slice b ys.length capb] w fun e w' => e = .returned (.bool true) ∧ w = w' := by
  subst h
  go_enter Try.func32, Try.ntmps32
  have hb : ((xs.length : Int) == (xs.length : Int)) = true := by simp
  go_wp2_with fail
  refine (equal_any a b xs xs capa capb _ hla hlb hma hmb).mono ?_
  rintro e w' ⟨rfl, rfl⟩
  rw [eqB_self]
  go_wp2_with fail
  go_ret
  exact ⟨rfl, rfl⟩
end Go.Proofs.Yteinfanfhgpciaa
