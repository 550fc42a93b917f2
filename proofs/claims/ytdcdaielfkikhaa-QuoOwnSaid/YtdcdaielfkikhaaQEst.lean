/-
  Contracts of package quo: estimate.
-/
import Derived.Test.YtdcdaielfkikhaaQShort
import Derived.BigQuiet
import Derived.WalkMore
import Derived.Deep.QuietTactic
namespace Go.Proofs.Ytdcdaielfkikhaa
open Go.RowKit
set_option linter.unusedVariables false
set_option linter.unusedSimpArgs false

theorem est_of {ps ys : List Int} (n : Nat) (hp : Wf ps) (hy : Wf ys) (lp : ps.length = n + 3) (ly : ys.length = n + 2) (ht : 2147483648 ≤ ys.getD (n + 1) 0) (hlt : val ps < 4294967296 * val ys) :
    Est (val ps) (val ys) (ps.getD (n + 2) 0 * 4294967296 + ps.getD (n + 1) 0) (ps.getD n 0) (ys.getD (n + 1) 0) (ys.getD n 0) (4294967296 ^ n) (val (ps.take n)) (val (ys.take n)) := by
  have hU : val ps = (ps.getD (n + 2) 0 * 4294967296 + ps.getD (n + 1) 0) * (4294967296 * 4294967296 ^ n) + ps.getD n 0 * 4294967296 ^ n + val (ps.take n) := by
    have h := val_take_succ ps (n + 2)
    have e2 : (4294967296 : Int) ^ (n + 2) = 4294967296 * (4294967296 * 4294967296 ^ n) := by rw [Int.pow_succ, Int.pow_succ, Int.mul_comm, Int.mul_comm (4294967296 ^ n)]
    have e1 : (4294967296 : Int) ^ (n + 1) = 4294967296 * 4294967296 ^ n := by rw [Int.pow_succ, Int.mul_comm]
    rw [List.take_of_length_le (by omega), val_take_succ ps (n + 1), val_take_succ ps n, e2, e1] at h
    rw [h]
    generalize (4294967296 : Int) ^ n = P
    generalize ps.getD (n + 2) 0 = x
    generalize ps.getD (n + 1) 0 = y
    generalize ps.getD n 0 = z
    generalize val (ps.take n) = t
    clear h hp hy lp ly ht hlt e1 e2
    grind
  have hV : val ys = ys.getD (n + 1) 0 * (4294967296 * 4294967296 ^ n) + ys.getD n 0 * 4294967296 ^ n + val (ys.take n) := by
    have h := val_take_succ ys (n + 1)
    rw [List.take_of_length_le (by omega), val_take_succ ys n, Int.pow_succ] at h
    rw [h]
    generalize (4294967296 : Int) ^ n = P
    grind
  have b1 := hp.getD (n + 2)
  have b2 := hp.getD (n + 1)
  have b3 := hp.getD n
  have b4 := hy.getD (n + 1)
  have b5 := hy.getD n
  have l1 := val_lt (hp.take n)
  have l2 := val_lt (hy.take n)
  rw [List.length_take, Nat.min_eq_left (by omega)] at l1 l2
  exact ⟨hU, hV, by have := pow_pos' n; omega, val_nonneg (hp.take n), l1, val_nonneg (hy.take n), l2, ht, b4.2, b5.1, b5.2, b3.1, b3.2, by omega, hlt⟩

set_option maxRecDepth 100000 in
set_option maxHeartbeats 4000000 in
theorem estimate_any {pg po bg bo : Nat} {ps ys : List Int} {capp capb : Nat} {w : World} (n : Nat) (hp : Wf ps) (hy : Wf ys) (lp : ps.length = n + 3) (ly : ys.length = n + 2) (hm : n ≤ 1099511627776)
    (cp : ∀ i, i < ps.length → w.cell? ⟨pg, po + i, none⟩ = some (.int .u32 (ps.getD i 0))) (cy : ∀ i, i < ys.length → w.cell? ⟨bg, bo + i, none⟩ = some (.int .u32 (ys.getD i 0)))
    (ht : 2147483648 ≤ ys.getD (n + 1) 0) (hlt : val ps < 4294967296 * val ys) :
    Calls Try.prog 67 #[.slice (some ⟨pg, po, none⟩) ps.length capp, .slice (some ⟨bg, bo, none⟩) ys.length capb] w fun e w' =>
      ∃ q : Int, e = .returned (.int .u64 q) ∧ 0 ≤ q ∧ q ≤ 4294967295 ∧ 0 ≤ val ps - q * val ys + val ys ∧ val ps < (q + 1) * val ys ∧ Below w.heap.size w w' := by
  have E := est_of n hp hy lp ly ht hlt
  have c2 := cp (n + 2) (by omega)
  have c1 := cp (n + 1) (by omega)
  have c0 := cp n (by omega)
  have d1 := cy (n + 1) (by omega)
  have d0 := cy n (by omega)
  obtain ⟨bp0, bp1⟩ := hp.getD (n + 2)
  obtain ⟨bq0, bq1⟩ := hp.getD (n + 1)
  obtain ⟨u2, h2⟩ : ∃ u, ps.getD (n + 2) 0 = u := ⟨_, rfl⟩
  obtain ⟨u1, h1⟩ : ∃ u, ps.getD (n + 1) 0 = u := ⟨_, rfl⟩
  obtain ⟨u0, h0⟩ : ∃ u, ps.getD n 0 = u := ⟨_, rfl⟩
  obtain ⟨v1, g1⟩ : ∃ u, ys.getD (n + 1) 0 = u := ⟨_, rfl⟩
  obtain ⟨v0, g0⟩ : ∃ u, ys.getD n 0 = u := ⟨_, rfl⟩
  rw [h2] at E c2 bp0 bp1
  rw [h1] at E c1 bq0 bq1
  rw [h0] at E c0
  rw [g1] at E d1
  rw [g0] at E d0
  obtain ⟨N, hN⟩ : ∃ N, ps.length = N := ⟨_, rfl⟩
  obtain ⟨m, hm'⟩ : ∃ m, ys.length = m := ⟨_, rfl⟩
  obtain ⟨j1, hj1⟩ : ∃ j1, n + 1 = j1 := ⟨_, rfl⟩
  rw [hN, hm']
  rw [show n + 2 = m by omega] at c2
  rw [hj1] at c1 d1
  have e1 : (m : Int) - 1 = (j1 : Int) := by omega
  have e0 : (m : Int) - 2 = (n : Int) := by omega
  have i1 : (j1 : Int) < m := by omega
  have i0 : (n : Int) < m := by omega
  have i2 : (m : Int) < N := by omega
  have i3 : (j1 : Int) < N := by omega
  have i4 : (n : Int) < N := by omega
  have i5 : m ≤ 1099511627778 := by omega
  clear cp cy h2 h1 h0 g1 g0 ht hlt hp hy lp ly hN hm' hj1
  generalize val ps = U at *
  generalize val ys = V at *
  obtain ⟨high, hh⟩ : ∃ high, u2 * 4294967296 + u1 = high := ⟨_, rfl⟩
  have hor : bits .or .u64 (u2 * 4294967296) u1 = high := by rw [or_u64 ⟨bp0, bp1⟩ ⟨bq0, bq1⟩]; omega
  rw [hh] at E
  have a0 := E.a0
  have a1 := E.a1
  have b0 := E.b0
  have b1 := E.b1
  have l0 := E.l0
  have l1 := E.l1
  have hh0 := E.h0
  have hhm : high < 18446744073709551616 := by omega
  obtain ⟨q0, hq0⟩ : ∃ q, high / v1 = q := ⟨_, rfl⟩
  obtain ⟨r0, hr0⟩ : ∃ r, high % v1 = r := ⟨_, rfl⟩
  have htd : Int.tdiv high v1 = q0 := by rw [Int.tdiv_eq_ediv_of_nonneg hh0, hq0]
  have htm : Int.tmod high v1 = r0 := by rw [Int.tmod_eq_emod_of_nonneg hh0, hr0]
  have hqr : q0 * v1 + r0 = high := by have h := Int.mul_ediv_add_emod high v1; rw [hq0, hr0, Int.mul_comm] at h; exact h
  have br0 : 0 ≤ r0 := by rw [← hr0]; exact Int.emod_nonneg _ (by omega)
  have br1 : r0 < v1 := by rw [← hr0]; exact Int.emod_lt_of_pos _ (by omega)
  have bq2 : 0 ≤ q0 := by rw [← hq0]; exact Int.ediv_nonneg hh0 (by omega)
  have bq3 : q0 ≤ 8589934592 := by
    have h1 := mul_le_l (a := 2147483648) (b := v1) bq2 a0
    omega
  have hfirst : U < (q0 + 1) * V := by rw [← hq0]; exact E.first
  have hv1 : v1 ≠ 0 := by omega
  have hwq : IntKind.u64.wrap q0 = q0 := wrap_u64 (by omega) (by omega)
  have hwr : IntKind.u64.wrap r0 = r0 := wrap_u64 (by omega) (by omega)
  have hww : IntKind.u64.wrap v1 = v1 := wrap_u64 (by omega) (by omega)
  have HQR := Lib.hid hqr
  have HF := Lib.hid hfirst
  clear hq0 hr0 hqr hfirst
  have HH := Lib.hid hh
  have HE := Lib.hid E
  clear hh E
  go_enter Try.func67, Try.ntmps67
  go_wp2
  go_step3
  go_wp2
  go_quiet (fail)
  go_wp2
  go_quiet (fail)
  go_wp2
  go_quiet (fail)
  go_wp2
  go_step3
  go_wp2
  go_loopw [10, 11] (fun q r wr => ∃ Q R : Int, q = .int .u64 Q ∧ r = .int .u64 R ∧ Q * v1 + R = high ∧ 0 ≤ Q ∧ Q ≤ 8589934592 ∧ 0 ≤ R ∧ R < 4294967296 + v1 ∧ U < (Q + 1) * V ∧ Below w.heap.size w wr) (fun q _ _ => (intOf q).toNat)
  case atStart => exact ⟨q0, r0, rfl, rfl, HQR.out, bq2, bq3, br0, by omega, HF.out, ⟨rfl, rfl, rfl, Nat.le_refl _, fun _ _ => rfl⟩⟩
  case round =>
    obtain ⟨Q, R, rfl, rfl, hQR, hQ0, hQ1, hR0, hR1, hU, hb⟩ := hrel
    have hsz := hb.size
    have HQR := Lib.hid hQR
    have HU := Lib.hid hU
    have E := HE.out
    clear hwq hwr htd htm br0 br1 bq2 bq3 hor e1 e0 i1 i0 i2 i3 i4 c2 c1 c0 d1 d0 hQR hU
    by_cases hR : R ≤ 4294967295
    · by_cases hQ : 4294967295 < Q
      · have hu := E.step HQR.out hQ0 (.inl hQ)
        have hq1 : (Q - 1) * v1 + (R + v1) = high := by have h := HQR.out; rw [Int.sub_mul, Int.one_mul]; omega
        have HU2 := Lib.hid hu
        have HQ2 := Lib.hid hq1
        clear hu hq1 E
        go_wp2
        go_roundw
        case rel => exact ⟨Q - 1, R + v1, rfl, rfl, HQ2.out, by omega, by omega, by omega, by omega, HU2.out, hb⟩
        case measure => simp [intOf]; omega
      · obtain ⟨p, hp⟩ : ∃ p, Q * v0 = p := ⟨_, rfl⟩
        have hpb := limb_prod (q := Q) (y := v0) ⟨hQ0, by omega⟩ ⟨b0, b1⟩
        rw [hp] at hpb
        obtain ⟨hp0, hp1⟩ := hpb
        have hor2 : bits .or .u64 (R * 4294967296) u0 = R * 4294967296 + u0 := or_u64' ⟨hR0, by omega⟩ ⟨l0, l1⟩
        by_cases hgt : R * 4294967296 + u0 < p
        · have hQ2 : 0 < Q := by
            rcases Int.lt_or_le 0 Q with h | h
            · exact h
            · have h0 : Q = 0 := by omega
              rw [h0, Int.zero_mul] at hp
              omega
          have hu := E.step HQR.out hQ0 (.inr (by rw [hp]; exact hgt))
          have hq1 : (Q - 1) * v1 + (R + v1) = high := by have h := HQR.out; rw [Int.sub_mul, Int.one_mul]; omega
          have HU2 := Lib.hid hu
          have HQ2 := Lib.hid hq1
          clear hu hq1 E
          go_wp2
          go_roundw
          case rel => exact ⟨Q - 1, R + v1, rfl, rfl, HQ2.out, by omega, by omega, by omega, by omega, HU2.out, hb⟩
          case measure => simp [intOf]; omega
        · have hd := E.done HQR.out hQ0 hR0 (.inr ⟨by omega, by rw [hp]; omega⟩)
          have HD := Lib.hid hd
          clear hd E
          go_wp2
          go_ret
          exact ⟨Q, rfl, hQ0, HD.out.1, HD.out.2, HU.out, hb⟩
    · have hd := E.done HQR.out hQ0 hR0 (.inl (by omega))
      have HD := Lib.hid hd
      clear hd E
      go_wp2
      go_ret
      exact ⟨Q, rfl, hQ0, HD.out.1, HD.out.2, HU.out, hb⟩
end Go.Proofs.Ytdcdaielfkikhaa
