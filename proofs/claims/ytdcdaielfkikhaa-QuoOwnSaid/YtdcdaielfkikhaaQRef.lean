/-
  Contracts of the reference of layer 2: trim, digit, DivMod, Gcd, Pow.
-/
import Derived.Test.YtdcdaielfkikhaaQMath
import Derived.Test.YtdcdaielfkikhaaB3
namespace Go.Proofs.Ytdcdaielfkikhaa
open Go.RowKit
set_option linter.unusedVariables false
set_option linter.unusedSimpArgs false

set_option maxHeartbeats 400000 in
theorem trimQ_any (ad : Option Addr) (xs : List Int) (cap : Nat) (w : World) (hl : LimI w ad xs) (hm : xs.length ≤ 1099511627776) (hcap : xs.length ≤ cap) :
    Calls Try.prog 36 #[.slice ad xs.length cap] w fun e w' => e = .returned (.slice ad (trimN xs xs.length) cap) ∧ w = w' := by
  go_enter Try.func36, Try.ntmps36
  go_wp2
  go_loop [3] (fun n => ∃ j : Nat, j ≤ xs.length ∧ n = .int .i64 j ∧ trimN xs j = trimN xs xs.length) (fun n => (intOf n).toNat)
  case atStart => exact ⟨xs.length, Nat.le_refl _, rfl, rfl⟩
  case round =>
    obtain ⟨j, hj, rfl, ht⟩ := hrel
    have HT := Lib.hid ht
    clear ht
    rcases j with _ | m
    · have h0 : trimN xs xs.length = 0 := HT.out.symm
      go_wp2
      go_ret
      exact ⟨rfl, rfl⟩
    · rcases hl with rfl | ⟨b, off, rfl, hc⟩
      · simp at hj
      · have hck := hc m (by omega)
        clear hc
        go_wp2
        · have hz : xs.getD m 0 = 0 := by
            have h : (xs[m]?.getD 0 == 0) = true := by assumption
            simpa using h
          go_round
          case rel => exact ⟨m, by omega, by go_num, by rw [← HT.out]; simp only [trimN]; rw [if_pos hz]⟩
          case measure => simp [intOf]
        · have hz : xs.getD m 0 ≠ 0 := by
            have h : (xs[m]?.getD 0 == 0) = false := by assumption
            simpa using h
          have ht : trimN xs xs.length = m + 1 := by rw [← HT.out]; simp only [trimN]; rw [if_neg hz]
          go_ret
          exact ⟨by rw [ht]; simp, rfl⟩
theorem trimQ_num {base : Nat} {v : Value} {xs : List Int} {w : World} (h : NumI base w v xs) (hm : xs.length ≤ 1099511627776) :
    Calls Try.prog 36 #[v] w fun e w' => ∃ u, e = .returned u ∧ NumI base w u (trim xs) ∧ w = w' := by
  obtain ⟨ad, cap, rfl, hl, hc, _, _⟩ := h.read
  exact (trimQ_any ad xs cap w hl hm hc).mono fun e w' ⟨he, hw⟩ => ⟨_, he, h.cut, hw⟩

theorem sign_le {x y : Int} : sign x y ≤ 0 ↔ x ≤ y := by unfold sign; split <;> (try split) <;> omega

set_option maxHeartbeats 1000000 in
/-- how often ys goes into rs -/
theorem digitQ_any {u v : Value} {rs ys : List Int} {a b : Option Addr} {capa capb : Nat} {w : World} (h1 : ArgD w u rs a capa) (h2 : ArgD w v ys b capb) (hx : rs.length ≤ 17179869184) (hy : ys.length ≤ 17179869184)
    (hlt : valD rs < valD ys * 10000) :
    Calls Try.prog 37 #[u, v] w fun e w' => ∃ d : Int, e = .returned (.int .i64 d) ∧ 0 ≤ d ∧ d < 10000 ∧ valD ys * d ≤ valD rs ∧ valD rs < valD ys * (d + 1) ∧ Below w.heap.size w w' := by
  have hr0 := val_nonnegD h1.wf
  go_enter Try.func37, Try.ntmps37
  go_wp2
  go_loopw [5, 6, 7] (fun lo hi _ wr => ∃ l h : Int, lo = .int .i64 l ∧ hi = .int .i64 h ∧ 0 ≤ l ∧ l < h ∧ h ≤ 10000 ∧ valD ys * l ≤ valD rs ∧ valD rs < valD ys * h ∧ Below w.heap.size w wr) (fun lo hi _ _ => (intOf hi - intOf lo).toNat)
  case atStart => exact ⟨0, 10000, rfl, rfl, by omega, by omega, by omega, by simpa using hr0, hlt, Below.refl _ _⟩
  case round =>
    obtain ⟨l, h, rfl, rfl, hl0, hlh, hh, hlo, hhi, hb⟩ := hrel
    have hsz := hb.size
    have HLO := Lib.hid hlo
    have HHI := Lib.hid hhi
    clear hlo hhi
    by_cases hgo : 1 < h - l
    · have hq : Int.tdiv (l + h) 2 = (l + h) / 2 := Int.tdiv_eq_ediv_of_nonneg (by omega)
      obtain ⟨m, hm⟩ : ∃ m, (l + h) / 2 = m := ⟨_, rfl⟩
      rw [hm] at hq
      have hm1 : l < m := by omega
      have hm2 : m < h := by omega
      clear hm
      have A1 := h1.later hb
      have A2 := h2.later hb
      go_wp2_with fail
      refine (times_any m A2 (by omega) (by omega)).mono ?_
      rintro e w2 ⟨r2, rfl, z2, q2, n2, hb2⟩
      obtain ⟨ad2, cap2, A3⟩ := q2.arg
      have A1' := A1.later hb2
      have hs2 := hb2.size
      go_wp2_with fail
      refine (cmpD_any A3 A1' (by omega) (by omega)).mono ?_
      rintro e w3 ⟨rfl, hb3⟩
      have hB3 : Below w.heap.size w w3 := (hb.trans (hb2.mono hsz)).trans (hb3.mono (by omega))
      have hv := q2.eq
      rw [hv]
      clear A1 A2 A3 A1' hb2 hb3 q2 hv
      by_cases hle : valD ys * m ≤ valD rs
      · have hd : decide (sign (valD ys * m) (valD rs) ≤ 0) = true := decide_eq_true (sign_le.2 hle)
        have HLE := Lib.hid hle
        clear hle
        go_wp2
        go_roundw
        case rel => exact ⟨m, h, rfl, rfl, by omega, hm2, hh, HLE.out, HHI.out, hB3⟩
        case measure => simp [intOf]; omega
      · have hd : decide (sign (valD ys * m) (valD rs) ≤ 0) = false := decide_eq_false (fun h => hle (sign_le.1 h))
        have HLE := Lib.hid (Int.not_le.1 hle)
        clear hle
        go_wp2
        go_roundw
        case rel => exact ⟨l, m, rfl, rfl, hl0, hm1, by omega, HLO.out, HLE.out, hB3⟩
        case measure => simp [intOf]; omega
    · obtain rfl : h = l + 1 := by omega
      go_wp2
      go_ret
      exact ⟨l, rfl, hl0, by omega, HLO.out, HHI.out, hb⟩
end Go.Proofs.Ytdcdaielfkikhaa
