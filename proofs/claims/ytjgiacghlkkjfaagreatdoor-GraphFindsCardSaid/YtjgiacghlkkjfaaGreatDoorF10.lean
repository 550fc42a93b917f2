/-
  Part 10 of 29: contracts and what they rest on (QEst, QDivide, QLong, QDiv, OCode2).
-/
import Derived.Test.YtjgiacghlkkjfaaGreatDoorF1
import Derived.Test.YtjgiacghlkkjfaaGreatDoorF2
import Derived.Test.YtjgiacghlkkjfaaGreatDoorF4
import Derived.Test.YtjgiacghlkkjfaaGreatDoorF5
import Derived.Test.YtjgiacghlkkjfaaGreatDoorF7
import Derived.Test.YtjgiacghlkkjfaaGreatDoorF8
import Derived.Test.YtjgiacghlkkjfaaGreatDoorF9
import Derived.WalkKit
import Derived.Test.YtjgiacghlkkjfaaGreatDoorRows
import Derived.OrdersHeld
import Derived.Deep.RegionHeld
import Derived.BigQuiet
import Derived.Deep.QuietTactic
import Derived.Lib.Hide
import Derived.Lib.Small
import Derived.Lib.Walk
import Derived.Lib.BitFns
import Derived.Maps.AppendAt
import Derived.RangeFuncNested
import Derived.RangeFuncBound
import Derived.RangeFuncCalls
import Derived.RangeFuncLeaves
import Derived.Shelf.Abstract
import Derived.OwnWalkIn
import Derived.TacticsInMore
import Derived.LoopNIn
import Derived.LoopIn
import Derived.RangeFuncBox
import Derived.Deep.RegionHeld3
import Derived.OrdersIn
import Derived.StillTailTactics
import Derived.RangeFuncFrom
import Derived.Laws.EntriesVeiled
import Derived.ProofKit
import Derived.OpenShut
import Derived.JoinedCond
import Derived.Carry
import Derived.Laws.AppendOwnNone
import Derived.Lib.ItoaNum
import Derived.Deep.RegionLaw
import Derived.WalkMore
import Derived.Lib.SmallJoins
import Derived.IntWalk
import Derived.Deep.DeepCutAuto
import Derived.Laws.OwnMore
import Derived.ArgAppend
import Derived.Deep.Slices
import Derived.Laws.CopyOwn
import Derived.Lib.SliceRun
import Derived.SizedLaws
namespace Go.Proofs.YtjgiacghlkkjfaaGreatDoor
set_option maxRecDepth 100000
section
open Go.RowKit
set_option linter.unusedVariables false
set_option linter.unusedSimpArgs false
theorem est_of {ps ys : List Int} (n : Nat) (hp : Wf ps) (hy : Wf ys) (lp : ps.length = n + 3) (ly : ys.length = n + 2) (ht : 2147483648 ≤ ys.getD (n + 1) 0) (hlt : val ps < 4294967296 * val ys) :
    Est (val ps) (val ys) (ps.getD (n + 2) 0 * 4294967296 + ps.getD (n + 1) 0) (ps.getD n 0) (ys.getD (n + 1) 0) (ys.getD n 0) (4294967296 ^ n) (val (ps.take n)) (val (ys.take n)) := by
  have hU : val ps = (ps.getD (n + 2) 0 * 4294967296 + ps.getD (n + 1) 0) * (4294967296 * 4294967296 ^ n) + ps.getD n 0 * 4294967296 ^ n + val (ps.take n) := by
    have h := val_take_succ ps (n + 2)
    have e2 : (4294967296 : Int) ^ (n + 2) = 4294967296 * (4294967296 * 4294967296 ^ n) := by rw [Int.pow_succ, Int.pow_succ, Int.mul_comm, Int.mul_comm (4294967296 ^ n)]
    have e1 : (4294967296 : Int) ^ (n + 1) = 4294967296 * 4294967296 ^ n := by rw [Int.pow_succ, Int.mul_comm]
    rw [List.take_of_length_le (by omega), val_take_succ ps (n + 1), val_take_succ ps n, e2, e1] at h
    rw [h]
    generalize (4294967296 : Int) ^ n = P
    generalize ps.getD (n + 2) 0 = x
    generalize ps.getD (n + 1) 0 = y
    generalize ps.getD n 0 = z
    generalize val (ps.take n) = t
    clear h hp hy lp ly ht hlt e1 e2
    grind
  have hV : val ys = ys.getD (n + 1) 0 * (4294967296 * 4294967296 ^ n) + ys.getD n 0 * 4294967296 ^ n + val (ys.take n) := by
    have h := val_take_succ ys (n + 1)
    rw [List.take_of_length_le (by omega), val_take_succ ys n, Int.pow_succ] at h
    rw [h]
    generalize (4294967296 : Int) ^ n = P
    grind
  have b1 := hp.getD (n + 2)
  have b2 := hp.getD (n + 1)
  have b3 := hp.getD n
  have b4 := hy.getD (n + 1)
  have b5 := hy.getD n
  have l1 := val_lt (hp.take n)
  have l2 := val_lt (hy.take n)
  rw [List.length_take, Nat.min_eq_left (by omega)] at l1 l2
  exact ⟨hU, hV, by have := pow_pos' n; omega, val_nonneg (hp.take n), l1, val_nonneg (hy.take n), l2, ht, b4.2, b5.1, b5.2, b3.1, b3.2, by omega, hlt⟩
set_option maxRecDepth 100000 in
set_option maxHeartbeats 4000000 in
theorem estimate_any {pg po bg bo : Nat} {ps ys : List Int} {capp capb : Nat} {w : World} (n : Nat) (hp : Wf ps) (hy : Wf ys) (lp : ps.length = n + 3) (ly : ys.length = n + 2) (hm : n ≤ 1099511627776)
    (cp : ∀ i, i < ps.length → w.cell? ⟨pg, po + i, none⟩ = some (.int .u32 (ps.getD i 0))) (cy : ∀ i, i < ys.length → w.cell? ⟨bg, bo + i, none⟩ = some (.int .u32 (ys.getD i 0)))
    (ht : 2147483648 ≤ ys.getD (n + 1) 0) (hlt : val ps < 4294967296 * val ys) :
    Calls Tryz.prog 296 #[.slice (some ⟨pg, po, none⟩) ps.length capp, .slice (some ⟨bg, bo, none⟩) ys.length capb] w fun e w' =>
      ∃ q : Int, e = .returned (.int .u64 q) ∧ 0 ≤ q ∧ q ≤ 4294967295 ∧ 0 ≤ val ps - q * val ys + val ys ∧ val ps < (q + 1) * val ys ∧ Below w.heap.size w w' := by
  have E := est_of n hp hy lp ly ht hlt
  have c2 := cp (n + 2) (by omega)
  have c1 := cp (n + 1) (by omega)
  have c0 := cp n (by omega)
  have d1 := cy (n + 1) (by omega)
  have d0 := cy n (by omega)
  obtain ⟨bp0, bp1⟩ := hp.getD (n + 2)
  obtain ⟨bq0, bq1⟩ := hp.getD (n + 1)
  obtain ⟨u2, h2⟩ : ∃ u, ps.getD (n + 2) 0 = u := ⟨_, rfl⟩
  obtain ⟨u1, h1⟩ : ∃ u, ps.getD (n + 1) 0 = u := ⟨_, rfl⟩
  obtain ⟨u0, h0⟩ : ∃ u, ps.getD n 0 = u := ⟨_, rfl⟩
  obtain ⟨v1, g1⟩ : ∃ u, ys.getD (n + 1) 0 = u := ⟨_, rfl⟩
  obtain ⟨v0, g0⟩ : ∃ u, ys.getD n 0 = u := ⟨_, rfl⟩
  rw [h2] at E c2 bp0 bp1
  rw [h1] at E c1 bq0 bq1
  rw [h0] at E c0
  rw [g1] at E d1
  rw [g0] at E d0
  obtain ⟨N, hN⟩ : ∃ N, ps.length = N := ⟨_, rfl⟩
  obtain ⟨m, hm'⟩ : ∃ m, ys.length = m := ⟨_, rfl⟩
  obtain ⟨j1, hj1⟩ : ∃ j1, n + 1 = j1 := ⟨_, rfl⟩
  rw [hN, hm']
  rw [show n + 2 = m by omega] at c2
  rw [hj1] at c1 d1
  have e1 : (m : Int) - 1 = (j1 : Int) := by omega
  have e0 : (m : Int) - 2 = (n : Int) := by omega
  have i1 : (j1 : Int) < m := by omega
  have i0 : (n : Int) < m := by omega
  have i2 : (m : Int) < N := by omega
  have i3 : (j1 : Int) < N := by omega
  have i4 : (n : Int) < N := by omega
  have i5 : m ≤ 1099511627778 := by omega
  clear cp cy h2 h1 h0 g1 g0 ht hlt hp hy lp ly hN hm' hj1
  generalize val ps = U at *
  generalize val ys = V at *
  obtain ⟨high, hh⟩ : ∃ high, u2 * 4294967296 + u1 = high := ⟨_, rfl⟩
  have hor : bits .or .u64 (u2 * 4294967296) u1 = high := by rw [or_u64 ⟨bp0, bp1⟩ ⟨bq0, bq1⟩]; omega
  rw [hh] at E
  have a0 := E.a0
  have a1 := E.a1
  have b0 := E.b0
  have b1 := E.b1
  have l0 := E.l0
  have l1 := E.l1
  have hh0 := E.h0
  have hhm : high < 18446744073709551616 := by omega
  obtain ⟨q0, hq0⟩ : ∃ q, high / v1 = q := ⟨_, rfl⟩
  obtain ⟨r0, hr0⟩ : ∃ r, high % v1 = r := ⟨_, rfl⟩
  have htd : Int.tdiv high v1 = q0 := by rw [Int.tdiv_eq_ediv_of_nonneg hh0, hq0]
  have htm : Int.tmod high v1 = r0 := by rw [Int.tmod_eq_emod_of_nonneg hh0, hr0]
  have hqr : q0 * v1 + r0 = high := by have h := Int.mul_ediv_add_emod high v1; rw [hq0, hr0, Int.mul_comm] at h; exact h
  have br0 : 0 ≤ r0 := by rw [← hr0]; exact Int.emod_nonneg _ (by omega)
  have br1 : r0 < v1 := by rw [← hr0]; exact Int.emod_lt_of_pos _ (by omega)
  have bq2 : 0 ≤ q0 := by rw [← hq0]; exact Int.ediv_nonneg hh0 (by omega)
  have bq3 : q0 ≤ 8589934592 := by
    have h1 := mul_le_l (a := 2147483648) (b := v1) bq2 a0
    omega
  have hfirst : U < (q0 + 1) * V := by rw [← hq0]; exact E.first
  have hv1 : v1 ≠ 0 := by omega
  have hwq : IntKind.u64.wrap q0 = q0 := wrap_u64 (by omega) (by omega)
  have hwr : IntKind.u64.wrap r0 = r0 := wrap_u64 (by omega) (by omega)
  have hww : IntKind.u64.wrap v1 = v1 := wrap_u64 (by omega) (by omega)
  have HQR := Lib.hid hqr
  have HF := Lib.hid hfirst
  clear hq0 hr0 hqr hfirst
  have HH := Lib.hid hh
  have HE := Lib.hid E
  clear hh E
  go_enter Tryz.func296, Tryz.ntmps296
  go_wp2
  go_step3
  go_wp2
  go_quiet (fail)
  go_wp2
  go_quiet (fail)
  go_wp2
  go_quiet (fail)
  go_wp2
  go_step3
  go_wp2
  go_loopw [10, 11] (fun q r wr => ∃ Q R : Int, q = .int .u64 Q ∧ r = .int .u64 R ∧ Q * v1 + R = high ∧ 0 ≤ Q ∧ Q ≤ 8589934592 ∧ 0 ≤ R ∧ R < 4294967296 + v1 ∧ U < (Q + 1) * V ∧ Below w.heap.size w wr) (fun q _ _ => (intOf q).toNat)
  case atStart => exact ⟨q0, r0, rfl, rfl, HQR.out, bq2, bq3, br0, by omega, HF.out, ⟨rfl, rfl, rfl, Nat.le_refl _, fun _ _ => rfl⟩⟩
  case round =>
    obtain ⟨Q, R, rfl, rfl, hQR, hQ0, hQ1, hR0, hR1, hU, hb⟩ := hrel
    have hsz := hb.size
    have HQR := Lib.hid hQR
    have HU := Lib.hid hU
    have E := HE.out
    clear hwq hwr htd htm br0 br1 bq2 bq3 hor e1 e0 i1 i0 i2 i3 i4 c2 c1 c0 d1 d0 hQR hU
    by_cases hR : R ≤ 4294967295
    · by_cases hQ : 4294967295 < Q
      · have hu := E.step HQR.out hQ0 (.inl hQ)
        have hq1 : (Q - 1) * v1 + (R + v1) = high := by have h := HQR.out; rw [Int.sub_mul, Int.one_mul]; omega
        have HU2 := Lib.hid hu
        have HQ2 := Lib.hid hq1
        clear hu hq1 E
        go_wp2
        go_roundw
        case rel => exact ⟨Q - 1, R + v1, rfl, rfl, HQ2.out, by omega, by omega, by omega, by omega, HU2.out, hb⟩
        case measure => simp [intOf]; omega
      · obtain ⟨p, hp⟩ : ∃ p, Q * v0 = p := ⟨_, rfl⟩
        have hpb := limb_prod (q := Q) (y := v0) ⟨hQ0, by omega⟩ ⟨b0, b1⟩
        rw [hp] at hpb
        obtain ⟨hp0, hp1⟩ := hpb
        have hor2 : bits .or .u64 (R * 4294967296) u0 = R * 4294967296 + u0 := or_u64' ⟨hR0, by omega⟩ ⟨l0, l1⟩
        by_cases hgt : R * 4294967296 + u0 < p
        · have hQ2 : 0 < Q := by
            rcases Int.lt_or_le 0 Q with h | h
            · exact h
            · have h0 : Q = 0 := by omega
              rw [h0, Int.zero_mul] at hp
              omega
          have hu := E.step HQR.out hQ0 (.inr (by rw [hp]; exact hgt))
          have hq1 : (Q - 1) * v1 + (R + v1) = high := by have h := HQR.out; rw [Int.sub_mul, Int.one_mul]; omega
          have HU2 := Lib.hid hu
          have HQ2 := Lib.hid hq1
          clear hu hq1 E
          go_wp2
          go_roundw
          case rel => exact ⟨Q - 1, R + v1, rfl, rfl, HQ2.out, by omega, by omega, by omega, by omega, HU2.out, hb⟩
          case measure => simp [intOf]; omega
        · have hd := E.done HQR.out hQ0 hR0 (.inr ⟨by omega, by rw [hp]; omega⟩)
          have HD := Lib.hid hd
          clear hd E
          go_wp2
          go_ret
          exact ⟨Q, rfl, hQ0, HD.out.1, HD.out.2, HU.out, hb⟩
    · have hd := E.done HQR.out hQ0 hR0 (.inl (by omega))
      have HD := Lib.hid hd
      clear hd E
      go_wp2
      go_ret
      exact ⟨Q, rfl, hQ0, HD.out.1, HD.out.2, HU.out, hb⟩
end
section
open Go.RowKit
set_option linter.unusedVariables false
set_option linter.unusedSimpArgs false
theorem Below.thenOnly {b : Nat} {w v w' : World} (h : Below w.heap.size w v) (k : Only b v w') : w.grownBy w' (some b) :=
  ⟨k.os.trans h.os, k.tape.trans h.tape, k.output.trans h.output, by rw [k.size]; exact h.size, fun i hi hb => (k.block i (fun e => hb (by rw [e]))).trans (h.block i hi)⟩
set_option maxRecDepth 100000 in
set_option maxHeartbeats 4000000 in
theorem divide_any {g cap capp i : Nat} {bg bo capb : Nat} {zs ys : List Int} {w : World} (n : Nat) (hz : Part w g cap zs) (hwz : Wf zs) (hwy : Wf ys) (hn : ys.length = n + 2) (hi : i + ys.length < zs.length) (hm : zs.length ≤ 1099511627776)
    (cy : ∀ j, j < ys.length → w.cell? ⟨bg, bo + j, none⟩ = some (.int .u32 (ys.getD j 0))) (hbg : bg ≠ g) (ht : 2147483648 ≤ ys.getD (n + 1) 0) (hlt : val (sub zs i (ys.length + 1)) < 4294967296 * val ys) :
    Calls Tryz.prog 276 #[.slice (some ⟨g, i, none⟩) (ys.length + 1 : Nat) capp, .slice (some ⟨bg, bo, none⟩) ys.length capb] w fun e w' =>
      ∃ (q : Int) (ls : List Int), e = .returned (.int .u32 q) ∧ 0 ≤ q ∧ q < 4294967296 ∧ ls.length = ys.length + 1 ∧ Wf ls ∧ Part w' g cap (putAt zs i ls) ∧ val ls = val (sub zs i (ys.length + 1)) - q * val ys ∧ val ls < val ys ∧ w.grownBy w' (some g) := by
  have hws := sub_wf i (ys.length + 1) hwz
  have hsl := sub_length zs i (ys.length + 1) (by omega)
  have hbl : bg < w.heap.size := World.block_lt_of_cell? w _ (cy 0 (by omega))
  have est := estimate_any (pg := g) (po := i) (bg := bg) (bo := bo) (capp := capp) (capb := capb) (w := w) n hws hwy (by omega) hn (by omega) (fun j hj => by rw [sub_getD _ _ _ _ (by omega)]; exact hz.cell (i + j) (by omega)) cy ht hlt
  rw [hsl] at est
  have hU0 := val_nonneg hws
  have hV0 := val_nonneg hwy
  obtain ⟨U, hU⟩ : ∃ U, val (sub zs i (ys.length + 1)) = U := ⟨_, rfl⟩
  obtain ⟨V, hV⟩ : ∃ V, val ys = V := ⟨_, rfl⟩
  rw [hU, hV] at est hlt
  rw [hU] at hU0 ⊢
  rw [hV] at hV0 ⊢
  obtain ⟨N, hN⟩ : ∃ N, ys.length + 1 = N := ⟨_, rfl⟩
  have tk := fun (w : World) (q : Int) hz hq cy => take_any (g := g) (cap := cap) (capp := capp) (i := i) (bg := bg) (bo := bo) (capb := capb) (zs := zs) (ys := ys) (w := w) q hz hwz hwy hq hi hm cy hbg
  rw [hN] at est tk ⊢
  have TK := Lib.hid tk
  have HU := Lib.hid hU
  have HV := Lib.hid hV
  have HN := Lib.hid hN
  have hln : 0 < ys.length := by omega
  clear tk hU hV hN hlt hn ht
  go_enter Tryz.func276, Tryz.ntmps276
  go_wp2_with fail
  refine est.mono ?_
  rintro e w1 ⟨q, rfl, hq0, hq1, hlo, hhi, hb1⟩
  have hz1 := hz.later hb1
  have cy1 : ∀ j, j < ys.length → w1.cell? ⟨bg, bo + j, none⟩ = some (.int .u32 (ys.getD j 0)) := fun j hj => (hb1.cell (p := ⟨bg, bo + j, none⟩) hbl).trans (cy j hj)
  have hvt := val_takeL (q := q) hws hwy ⟨hq0, hq1⟩ hsl
  rw [HU.out, HV.out] at hvt
  have hlt1 := val_lt (takeL_wf (sub zs i (ys.length + 1)) ys q)
  have hnn1 := val_nonneg (takeL_wf (sub zs i (ys.length + 1)) ys q)
  rw [takeL_length] at hlt1
  have hhi2 : U < q * V + V := by rw [Int.add_mul, Int.one_mul] at hhi; exact hhi
  clear est cy hz hhi
  go_wp2_with fail
  refine (TK.out w1 q hz1 ⟨hq0, hq1⟩ cy1).mono ?_
  rintro e w2 ⟨rfl, hp2, ho2⟩
  have hg2 := Below.thenOnly hb1 ho2
  rw [← HN.out] at hp2 ⊢
  obtain ⟨t, htb⟩ : ∃ t, takeB (sub zs i (ys.length + 1)) ys q = t := ⟨_, rfl⟩
  rw [htb] at hvt ⊢
  have hlsl := takeL_length (sub zs i (ys.length + 1)) ys q
  have hlsw := takeL_wf (sub zs i (ys.length + 1)) ys q
  obtain ⟨ls, hls⟩ : ∃ ls, takeL (sub zs i (ys.length + 1)) ys q = ls := ⟨_, rfl⟩
  rw [hls] at hvt hlt1 hnn1 hp2 hlsl hlsw
  clear hls htb
  cases t with
  | false =>
    simp only [Bool.false_eq_true, if_false, Int.add_zero] at hvt
    have hqw : IntKind.u32.wrap q = q := by rw [wrap_u32]; exact Int.emod_eq_of_lt hq0 (by omega)
    have HP := Lib.hid hp2
    have HVT := Lib.hid hvt
    have h2 : val ls < V := by omega
    have H2 := Lib.hid h2
    clear hp2 hvt h2 hlt1 hnn1 hlo hhi2
    go_wp2
    go_ret
    exact ⟨q, ls, rfl, hq0, by omega, hlsl.trans HN.out, hlsw, HP.out, HVT.out, H2.out, hg2⟩
  | true =>
    simp only [if_true] at hvt
    have hneg : U < q * V := by omega
    have hqp : 0 < q := by
      rcases Int.lt_or_le 0 q with h | h
      · exact h
      · have h0 : q = 0 := by omega
        rw [h0, Int.zero_mul] at hneg
        omega
    have cy2 : ∀ j, j < ys.length → w2.cell? ⟨bg, bo + j, none⟩ = some (.int .u32 (ys.getD j 0)) := fun j hj => (ho2.cell (p := ⟨bg, bo + j, none⟩) hbg).trans (cy1 j hj)
    have hpl := putAt_length zs ls i (by omega)
    have gv := give_any (g := g) (cap := cap) (capp := capp) (i := i) (bg := bg) (bo := bo) (capb := capb) (zs := putAt zs i ls) (ys := ys) (w := w2) hp2 (putAt_wf i hwz hlsw) hwy (by omega) (by omega) cy2 hbg
    rw [sub_putAt zs ls i (ys.length + 1) hlsl (by omega), putAt_twice zs ls _ i (by omega) (by rw [giveL_length, hlsl])] at gv
    have hgl := giveL_length ls ys
    have hgw := giveL_wf ls ys
    have hg0 := val_nonneg hgw
    have hg1 := val_lt hgw
    rw [hgl] at hg1
    have hfin : val (giveL ls ys) = U - (q - 1) * V := by
      have e : (q - 1) * V = q * V - V := by rw [Int.sub_mul, Int.one_mul]
      rcases val_giveL hlsw hwy (by omega) with h | h
      · rw [HV.out] at h; omega
      · rw [HV.out] at h; omega
    have hfin2 : val (giveL ls ys) < V := by
      have e : (q - 1) * V = q * V - V := by rw [Int.sub_mul, Int.one_mul]
      omega
    have HFIN := Lib.hid hfin
    have HFIN2 := Lib.hid hfin2
    rw [HN.out] at gv ⊢
    have hqw : IntKind.u32.wrap (q - 1) = q - 1 := by rw [wrap_u32]; exact Int.emod_eq_of_lt (by omega) (by omega)
    clear hvt hlt1 hnn1 hlo hhi2 hfin hfin2 hg0 hg1 hneg hp2 cy1 cy2
    go_wp2_with fail
    refine gv.mono ?_
    rintro e w3 ⟨rfl, hp3, ho3⟩
    have HP := Lib.hid hp3
    have hg3 : w.grownBy w3 (some g) := ⟨ho3.os.trans hg2.os, ho3.tape.trans hg2.tape, ho3.output.trans hg2.output, by rw [ho3.size]; exact hg2.size, fun i hi hb => (ho3.block i (fun e => hb (by rw [e]))).trans (hg2.block i hi hb)⟩
    clear hp3 gv
    go_wp2
    go_ret
    exact ⟨q - 1, _, rfl, by omega, by omega, by rw [← HN.out]; exact hgl, hgw, HP.out, HFIN.out, HFIN2.out, hg3⟩
end
section
open Go.RowKit
set_option linter.unusedVariables false
set_option linter.unusedSimpArgs false
/-- the divisor, shifted till the highest bit of its last limb is 1 -/
theorem norm_ok {ys bs : List Int} {s : Nat} (hy : Wf ys) (hb : Wf bs) (fb : trimN bs bs.length = bs.length) (h2 : 2 ≤ trimN ys ys.length) (hs : s + bitsN ys = trimN ys ys.length * 32) (hv : val bs = val ys * 2 ^ s) :
    ∃ n, bs.length = n + 2 ∧ n + 2 = trimN ys ys.length ∧ 2147483648 ≤ bs.getD (n + 1) 0 := by
  obtain ⟨n, hn⟩ : ∃ n, trimN ys ys.length = n + 2 := ⟨trimN ys ys.length - 2, by omega⟩
  rcases bitsN_is hy with ⟨h0, _⟩ | ⟨j, hj, h3, h4⟩
  · exfalso; have := (bitsN_count hy).2.1; omega
  have e1 : s + j + 1 = (n + 2) * 32 := by omega
  have l1 : (2 : Int) ^ (s + j) ≤ val bs := by
    rw [hv, Nat.add_comm, Int.pow_add]
    exact mul_le_r (Int.le_of_lt (two_pos s)) h3
  have l2 : val bs < 2 ^ (s + j + 1) := by
    rw [hv, Nat.add_assoc, Nat.add_comm s, Int.pow_add]
    exact Int.mul_lt_mul_of_pos_right h4 (two_pos s)
  rw [e1, ← pow_limb] at l2
  have e2 : (2 : Int) ^ (s + j) = 4294967296 ^ (n + 1) * 2147483648 := by
    rw [pow_limb, show s + j = (n + 1) * 32 + 31 by omega, Int.pow_add]
    rfl
  rw [e2] at l1
  have hlen : bs.length = n + 2 := by
    rcases Nat.lt_trichotomy bs.length (n + 2) with h | h | h
    · exfalso
      have k1 := val_lt hb
      have k2 : (4294967296 : Int) ^ bs.length ≤ 4294967296 ^ (n + 1) := by rw [pow_limb, pow_limb]; exact two_mono (by omega)
      have k3 := pow_pos' (n + 1)
      omega
    · exact h
    · exfalso
      have k1 := full_ge hb fb (bs.length - 1) (by omega)
      have k2 : (4294967296 : Int) ^ (n + 2) ≤ 4294967296 ^ (bs.length - 1) := by rw [pow_limb, pow_limb]; exact two_mono (by omega)
      omega
  refine ⟨n, hlen, hn.symm, ?_⟩
  have k1 := val_take_succ bs (n + 1)
  rw [List.take_of_length_le (by omega)] at k1
  have k2 := val_lt (hb.take (n + 1))
  rw [List.length_take, Nat.min_eq_left (by omega)] at k2
  rcases Int.lt_or_le (bs.getD (n + 1) 0) 2147483648 with h | h
  · exfalso
    have k3 := mul_le_l (a := bs.getD (n + 1) 0) (b := 2147483647) (c := 4294967296 ^ (n + 1)) (Int.le_of_lt (pow_pos' _)) (by omega)
    omega
  · exact h
/-- a limb of the quotient -/
theorem long_step {zs ls : List Int} {i t : Nat} {q V : Int} (hz : Wf zs) (hl : Wf ls) (hll : ls.length = t + 1) (hi : i + t < zs.length) (hV0 : 0 ≤ V) (hV : V < 4294967296 ^ t) (hlt : val zs < 4294967296 ^ (i + 1) * V) :
    val (sub zs i (t + 1)) < 4294967296 * V ∧ (val ls = val (sub zs i (t + 1)) - q * V → val ls < V → val (putAt zs i ls) = val zs - 4294967296 ^ i * (q * V) ∧ val (putAt zs i ls) < 4294967296 ^ i * V) := by
  have hp := pow_pos' i
  have hd0 : val (zs.drop (i + 1 + t)) = 0 := by
    refine val_drop0 hz _ ?_
    rw [Int.pow_add]
    have h1 := mul_le_l (a := V) (b := 4294967296 ^ t) (c := 4294967296 ^ (i + 1)) (Int.le_of_lt (pow_pos' _)) (Int.le_of_lt hV)
    omega
  have h1 := val_split (xs := zs) i (by omega)
  have h2 := val_split (xs := zs.drop i) (t + 1) (by rw [List.length_drop]; omega)
  rw [List.drop_drop, show i + (t + 1) = i + 1 + t by omega, hd0, Int.mul_zero, Int.add_zero] at h2
  have h3 := val_nonneg (hz.take i)
  have h4 := val_lt (hz.take i)
  rw [List.length_take, Nat.min_eq_left (by omega)] at h4
  have hput : val (putAt zs i ls) = val (zs.take i) + 4294967296 ^ i * val ls := by
    unfold putAt
    rw [val_cat3, hll, show i + (t + 1) = i + 1 + t by omega, hd0, List.length_take, Nat.min_eq_left (by omega), Int.mul_zero, Int.add_zero]
  have hU : val (zs.drop i) = val (sub zs i (t + 1)) := h2
  rw [hU] at h1
  generalize val (sub zs i (t + 1)) = U at *
  rw [Int.pow_succ] at hlt
  generalize (4294967296 : Int) ^ i = P at *
  refine ⟨?_, fun e1 e2 => ⟨?_, ?_⟩⟩
  · rcases Int.lt_or_le U (4294967296 * V) with h | h
    · exact h
    · exfalso
      have h5 := mul_le_l (c := P) (by omega) h
      rw [← Int.mul_assoc] at h5
      omega
  · rw [hput, h1, e1, Int.mul_sub]; omega
  · rw [hput]
    have h5 := mul_le_l (a := val ls) (b := V - 1) (c := P) (by omega) (by omega)
    rw [Int.mul_sub, Int.mul_one] at h5
    omega
theorem long_alg (Z P V q Q : Int) : Z + V * (P * 4294967296 * Q) = Z - P * (q * V) + V * (P * (q + 4294967296 * Q)) := by grind
/-- what is left, shifted back -/
theorem long_end {A B Q R s : Int} (hs : 0 < s) (h : A * s = R + B * s * Q) (h0 : 0 ≤ R) (h1 : R < B * s) : Q = A / B ∧ R / s = A % B := by
  have hB : 0 < B := by
    rcases Int.lt_or_le 0 B with k | k
    · exact k
    · exfalso
      have := mul_le_r (a := B) (b := 0) (c := s) (by omega) k
      omega
  have e : R = (A - B * Q) * s := by rw [Int.sub_mul]; have : B * Q * s = B * s * Q := by rw [Int.mul_assoc, Int.mul_comm Q, ← Int.mul_assoc]; 
                                     omega
  have hr : R / s = A - B * Q := by rw [e]; exact Int.mul_ediv_cancel _ (by omega)
  have r0 : 0 ≤ A - B * Q := by rw [← hr]; exact Int.ediv_nonneg h0 (by omega)
  have r1 : A - B * Q < B := by
    rw [← hr]
    exact Int.ediv_lt_of_lt_mul hs h1
  obtain ⟨q1, q2⟩ := quo_eq (V := Q) (d := B) (r := A - B * Q) (N := A) hB (by rw [Int.mul_comm]; omega) ⟨r0, r1⟩
  exact ⟨q1, by rw [hr]; exact q2⟩
theorem Lim.grown {w w' : World} {ad : Option Addr} {xs : List Int} {row : Option Nat} (h : Lim w ad xs) (k : w.grownBy w' row) (hne : ∀ a, ad = some a → some a.block ≠ row) : Lim w' ad xs := by
  rcases h with rfl | ⟨b, off, rfl, hc⟩
  · exact .inl rfl
  · exact .inr ⟨b, off, rfl, fun i hi => k.cell (hc i hi) (show some b ≠ row from hne ⟨b, off, none⟩ rfl)⟩
set_option maxRecDepth 100000 in
set_option maxHeartbeats 4000000 in
theorem long_any {u v : Value} {xs ys : List Int} {a b : Option Addr} {capa capb : Nat} {w : World} (h1 : Arg w u xs a capa) (h2 : Arg w v ys b capb) (hx : xs.length ≤ 134217728) (hy : ys.length ≤ 134217728) (h2y : 2 ≤ trimN ys ys.length) (hle : val ys ≤ val xs) :
    Calls Tryz.prog 254 #[u, v] w fun e w' => ∃ r t, e = .returned (.tuple #[r, t]) ∧ Below w.heap.size w w' ∧ (∃ zs, Res w.heap.size w' r zs (val xs / val ys) ∧ zs.length ≤ xs.length + 2) ∧ (∃ zs, Res w.heap.size w' t zs (val xs % val ys) ∧ zs.length ≤ xs.length + 2) := by
  obtain ⟨c1, c2, c3⟩ := bitsN_count h2.wf
  have hty := trim_le ys
  have hcount := count_any h2 (by omega)
  have hbits := bits_res h2 (by omega) (bitsN_is h2.wf)
  obtain ⟨s, hs⟩ : ∃ s, s + bitsN ys = trimN ys ys.length * 32 := ⟨trimN ys ys.length * 32 - bitsN ys, by omega⟩
  obtain ⟨t, ht⟩ : ∃ t, trimN ys ys.length = t := ⟨_, rfl⟩
  obtain ⟨kb, hkb⟩ : ∃ kb, bitsN ys = kb := ⟨_, rfl⟩
  have hnorm := fun (bs : List Int) hb fb hv => norm_ok (ys := ys) (bs := bs) (s := s) h2.wf hb fb h2y hs hv
  rw [hkb] at hbits c2 c3 hs
  rw [ht] at hcount hs c2 c3 hnorm hty h2y
  have hsub : ((t : Int) * 32 - (kb : Int)) = (s : Int) := by omega
  have hs32 : s ≤ 31 := by omega
  have hxw := h1.wf
  have hyw := h2.wf
  have HS := Lib.hid hs
  have HNORM := Lib.hid hnorm
  clear c1 c2 c3 hs hnorm ht hkb
  obtain ⟨i0, hi, hz0, hz1, hz2⟩ := info_parts infoLimb
  go_enter Tryz.func254, Tryz.ntmps254
  go_wp2_with fail
  refine hcount.mono ?_
  rintro e w' ⟨rfl, rfl⟩
  go_wp2_with fail
  refine hbits.mono ?_
  rintro e w' ⟨rfl, rfl⟩
  clear hcount hbits
  go_wp2_with fail
  refine (shl_any s h2 (by omega) (by omega) (by omega)).mono ?_
  rintro e w1 ⟨r1, bs, rfl, q1, n1, hb1⟩
  have A1 := h1.later hb1
  rw [Int.toNat_natCast] at q1 n1
  go_wp2_with fail
  refine (shl_any s A1 (by omega) (by omega) (by omega)).mono ?_
  rintro e w2 ⟨r2, cs, rfl, q2, n2, hb2⟩
  rw [Int.toNat_natCast] at q2 n2
  obtain ⟨n, ebl, _, etop⟩ := HNORM.out bs q1.wf q1.full q1.eq
  have hs1 := hb1.size
  have hs2 := hb2.size
  have hB2 : Below w.heap.size w w2 := hb1.trans (hb2.mono hs1)
  have hcl : bs.length ≤ cs.length := by
    rcases Nat.lt_or_ge cs.length bs.length with k | k
    · exfalso
      have := len_lt q2.wf q1.wf q1.full k
      rw [q1.eq, q2.eq] at this
      have := mul_le_r (Int.le_of_lt (two_pos s)) hle
      omega
    · exact k
  have hV0 : 0 < val bs := by
    have h1 := full_ge q1.wf q1.full (n + 1) (by omega)
    have h2 := pow_pos' (n + 1)
    omega
  have hV1 := val_lt q1.wf
  -- b lies below what comes
  obtain ⟨bg, bo, capb1, hbv, hbcell, hbg⟩ : ∃ bg bo cp, r1 = .slice (some ⟨bg, bo, none⟩) bs.length cp ∧ (∀ j, j < bs.length → w2.cell? ⟨bg, bo + j, none⟩ = some (.int .u32 (bs.getD j 0))) ∧ bg < w1.heap.size := by
    obtain ⟨ad, cp, e1, e2, _, _, e5⟩ := q1.num.read
    have e2' := e2.later hb2
    rcases e2' with e | ⟨bg, bo, rfl, hc⟩
    · rw [e] at ebl; simp at ebl
    · exact ⟨bg, bo, cp, e1, hc, (e5 _ rfl).2⟩
  subst hbv
  have hwb := q1.wf
  have HFB := Lib.hid q1.full
  have q1eq := q1.eq
  have hrow := q2.num
  unfold Num at hrow
  have hcsw := q2.wf
  have hcse := q2.eq
  have hxl : cs.length ≤ 134217730 := by omega
  have hcx : cs.length ≤ xs.length + 1 := by omega
  have hN := Lib.hid q2.num
  have HEB := Lib.hid ebl
  have HTOP := Lib.hid etop
  have HC := Lib.hid hbcell
  have HQ1 := Lib.hid q1eq
  have HQ2 := Lib.hid hcse
  have hn1 : bs.length ≤ 134217730 := by omega
  obtain ⟨M, hM⟩ : ∃ M, M + bs.length = cs.length + 1 := ⟨cs.length + 1 - bs.length, by omega⟩
  have hMi : ((cs.length : Int) + 1 - (bs.length : Int)) = (M : Int) := by omega
  have hmk := make_runN M M (Nat.le_refl _) (by omega)
  have HM := Lib.hid hM
  clear hM
  clear q1 q2 hb1 A1 h1 h2 n1 n2 HNORM ebl etop hbcell q1eq hcse hle
  go_wp2_with (at_builtin; refine wpList_append_own _ rfl _ _ 91 rfl w1.heap.size 96 i0 (.int .u32 0) 1 4 Tryz.underlying91 hi hz0 hz1 hz2 rfl (by decide) _ _ _ rfl (hrow.alloc _) ⟨w2.heap.size, 0, none⟩ 1 1 [.int .u32 0] rfl rfl (cell_one_new _ _ _) (by simp [Value.oneCell']) (by unfold maxLen; omega) (by omega) (by simp; omega) ?_; intro v' w3 hown' hgrow _; have hnum : Num w1.heap.size w3 v' (cs ++ [0]) := (by unfold Num; rw [List.length_append, List.map_append]; exact hown'); obtain ⟨g, cap, rfl, hg, hcapm, hpart⟩ : ∃ g cap, v' = .slice (some ⟨g, 0, none⟩) (cs ++ [0]).length cap ∧ w1.heap.size ≤ g ∧ cap ≤ maxLen ∧ Part w3 g cap (cs ++ [0]) := hnum.parts.resolve_left (fun h => by have := h.2; simp at this))
  have hw3 : Below w.heap.size w w3 := (hB2.alloc (by omega) _).grown hgrow (by simp; omega) (fun k hk => Nat.le_trans hs1 (hN.out.lt k hk).1)
  have hs3 : w2.heap.size ≤ w3.heap.size := by have := hgrow.size; simp at this; omega
  have hlimb : Lim w3 (some ⟨bg, bo, none⟩) bs := by
    have h1 : Lim w2 (some ⟨bg, bo, none⟩) bs := .inr ⟨bg, bo, rfl, HC.out⟩
    refine Lim.grown (h1.later ((Below.refl w2.heap.size w2).alloc (Nat.le_refl _) _)) hgrow (fun a e => ?_)
    cases e
    intro e2
    have := (hN.out.lt bg e2.symm).1
    omega
  have hglt := hpart.lt
  obtain ⟨L, hL⟩ : ∃ L, (cs ++ [0]).length = L := ⟨_, rfl⟩
  have hLc : L = cs.length + 1 := by rw [← hL]; simp
  have hV := HQ1.out
  have hwz0 : Wf (cs ++ [0]) := hcsw.append (wf1 (by omega))
  have hv0 : val (cs ++ [0]) = val cs := by rw [val_append]; simp [val]
  have HL := Lib.hid hL
  have HLC := Lib.hid hLc
  have HV := Lib.hid hV
  have hpart0 := hpart.alloc (.cells (madeCells #[.int .u32 0] M) 96)
  have hblk0 := Blk.made w3 M
  have hlim0 := hlimb.later ((Below.refl w3.heap.size w3).alloc (Nat.le_refl _) (.cells (madeCells #[.int .u32 0] M) 96))
  have hw4 : Below w.heap.size w (w3.alloc (.cells (madeCells #[.int .u32 0] M) 96)) := hw3.alloc (by omega) _
  have hvstart : val (cs ++ [0]) < 4294967296 ^ M * val bs := by
    rw [hv0]
    have h1 := val_lt hcsw
    have hbl := HEB.out
    have h3 := full_ge (us := bs) hwb HFB.out (n + 1) (by omega)
    have h2 := mul_le_l (a := 4294967296 ^ (n + 1)) (b := val bs) (c := 4294967296 ^ M) (Int.le_of_lt (pow_pos' _)) h3
    rw [← Int.pow_add, show M + (n + 1) = cs.length by have := HM.out; omega] at h2
    omega
  have HBG := Lib.hid (show bg < g by omega)
  clear hpart hown' hgrow hnum hlimb hL hLc hV hrow hbg
  go_loopw [9] (fun i wr => ∃ (k : Nat) (zs qs : List Int), k ≤ M ∧ i = .int .i64 ((k : Int) - 1) ∧ zs.length = L ∧ Wf zs ∧ Part wr g cap zs ∧ Blk wr w3.heap.size (List.replicate k 0 ++ qs) ∧ qs.length + k = M ∧ Wf qs ∧
      val zs < 4294967296 ^ k * val bs ∧ val cs = val zs + val bs * (4294967296 ^ k * val qs) ∧ Lim wr (some ⟨bg, bo, none⟩) bs ∧ Below w.heap.size w wr) (fun i _ => (intOf i + 1).toNat)
  case atStart =>
    refine ⟨M, cs ++ [0], [], Nat.le_refl _, by simp, HL.out, hwz0, hpart0, by simpa using hblk0, by simp, Wf.nil, hvstart, by rw [hv0]; simp [val], hlim0, hw4⟩
  case round =>
    obtain ⟨k, zs, qs, hk, rfl, hzl, hzw, hpart, hblk, hql, hqw, hlt, hval, hlim, hb⟩ := hrel
    have hsz := hb.size
    have hM := HM.out
    have hLc := HLC.out
    clear hpart0 hblk0 hlim0 hw4 hvstart hwz0 hv0 hw3 hB2
    by_cases hgo : 0 < k
    · obtain ⟨j, rfl⟩ : ∃ j, k = j + 1 := ⟨k - 1, by omega⟩
      have hji : (((j + 1 : Nat) : Int) - 1) = (j : Int) := by omega
      rw [hji]
      have hcapL := hpart.le
      have hVn : 0 ≤ val bs := by omega
      obtain ⟨hU, _⟩ := long_step (zs := zs) (ls := List.replicate (bs.length + 1) 0) (i := j) (t := bs.length) (q := 0) (V := val bs) hzw (Wf.zeros _) (by simp) (by omega) hVn hV1 hlt
      have hcy : ∀ i, i < bs.length → wr.cell? ⟨bg, bo + i, none⟩ = some (.int .u32 (bs.getD i 0)) := by
        rcases hlim with e | ⟨b', o', e, hc⟩
        · rw [e]; intro i h; simp at h
        · cases e; exact hc
      have hbgg : bg ≠ g := by
        have := HBG.out
        omega
      have hdiv := divide_any (g := g) (cap := cap) (capp := cap - j) (i := j) (bg := bg) (bo := bo) (capb := capb1) (zs := zs) (ys := bs) (w := wr) n hpart hzw hwb HEB.out (by omega) (by omega) hcy hbgg HTOP.out hU
      have s1 : (0 : Int) ≤ (j : Int) := by omega
      have s2 : (j : Int) + (bs.length : Int) + 1 ≤ (cap : Int) := by omega
      have s3 : (j : Int) < (M : Int) := by omega
      have HK := Lib.hid hk
      have HZL := Lib.hid hzl
      have HQL := Lib.hid hql
      have HLT := Lib.hid hlt
      have HVAL := Lib.hid hval
      clear hk hzl hql hlt hval hLc hM hcy hgo
      go_wp2_with fail
      rw [show j + bs.length + 1 - j = bs.length + 1 from by omega]
      refine hdiv.mono ?_
      rintro e w5 ⟨q, ls, rfl, q0, q1, hll, hlw, hp5, hvl, hvlt, hg5⟩
      have hne : w3.heap.size ≠ g := by omega
      have hblk5 := hblk.grown hg5 (fun e => hne (Option.some.inj e))
      have hlim5 := Lim.grown hlim hg5 (fun a e => by cases e; intro e2; exact hbgg (Option.some.inj e2))
      have hb5 : Below w.heap.size w w5 := hb.grown hg5 hsz (fun k hk => by cases hk; omega)
      have hlz : (List.replicate (j + 1) 0 ++ qs).length = M := by rw [List.length_append, List.length_replicate]; have := HQL.out; omega
      have hcell := hblk5.cell j (by omega)
      have hfree := hblk5.free j
      have hset := hblk5.set j q
      rw [set_front] at hset
      have hzl := HZL.out
      obtain ⟨_, hst⟩ := long_step (zs := zs) (ls := ls) (i := j) (t := bs.length) (q := q) (V := val bs) hzw hlw hll (by have := HLC.out; have := HM.out; have := HK.out; omega) hVn hV1 HLT.out
      obtain ⟨st1, st2⟩ := hst hvl hvlt
      have hpl := putAt_length zs ls j (by rw [hll, hzl]; have := HLC.out; have := HM.out; have := HK.out; omega)
      have fin : ∃ (k' : Nat) (zs' qs' : List Int), k' ≤ M ∧ Value.int .i64 ((j : Int) - 1) = .int .i64 ((k' : Int) - 1) ∧ zs'.length = L ∧ Wf zs' ∧ Part (w5.setCell ⟨w3.heap.size, j, none⟩ (.int .u32 q)) g cap zs' ∧ Blk (w5.setCell ⟨w3.heap.size, j, none⟩ (.int .u32 q)) w3.heap.size (List.replicate k' 0 ++ qs') ∧ qs'.length + k' = M ∧ Wf qs' ∧
          val zs' < 4294967296 ^ k' * val bs ∧ val cs = val zs' + val bs * (4294967296 ^ k' * val qs') ∧ Lim (w5.setCell ⟨w3.heap.size, j, none⟩ (.int .u32 q)) (some ⟨bg, bo, none⟩) bs ∧ Below w.heap.size w (w5.setCell ⟨w3.heap.size, j, none⟩ (.int .u32 q)) := by
        have hO : Only w3.heap.size w5 (w5.setCell ⟨w3.heap.size, j, none⟩ (.int .u32 q)) := Only.set _ _ _ _
        refine ⟨j, putAt zs j ls, q :: qs, by have := HK.out; omega, rfl, hpl.trans hzl, putAt_wf _ hzw hlw, hp5.far (p := ⟨w3.heap.size, j, none⟩) (Ne.symm hne) _, hset, by rw [List.length_cons]; have := HQL.out; omega, Wf.cons ⟨q0, q1⟩ hqw, st2, ?_, Lim.grown hlim5 hO.grown (fun a e => by cases e; intro e2; have e3 : bg = w3.heap.size := Option.some.inj e2; have := HBG.out; omega), hb5.setCell (p := ⟨w3.heap.size, j, none⟩) (by simp; omega) _⟩
        rw [HVAL.out, st1]
        simp only [val]
        rw [Int.pow_succ]
        exact long_alg _ _ _ _ _
      have FIN := Lib.hid fin
      clear fin hset hp5 hblk5 hlim5 hb5 hg5 hvl hvlt st1 st2 hst hpl hlz hdiv hU
      go_wp2
      go_roundw
      case rel => exact FIN.out
      case measure => simp [intOf]
    · obtain rfl : k = 0 := by omega
      have hji : (((0 : Nat) : Int) - 1) = -1 := by omega
      rw [hji]
      rw [List.replicate_zero, List.nil_append] at hblk
      rw [Int.pow_zero, Int.one_mul] at hlt hval
      rw [HQ2.out, HV.out] at hval
      rw [HV.out] at hlt
      have hz0 := val_nonneg hzw
      obtain ⟨e1, e2⟩ := long_end (A := val xs) (B := val ys) (Q := val qs) (R := val zs) (s := 2 ^ s) (two_pos s) hval hz0 hlt
      have hql' : qs.length = M := by omega
      have Aq : Arg wr (.slice (some ⟨w3.heap.size, 0, none⟩) M M) qs (some ⟨w3.heap.size, 0, none⟩) M := ⟨by rw [hql'], hblk.lim, by omega, hqw⟩
      have Az : Arg wr (.slice (some ⟨g, 0, none⟩) (cs.length + 1) cap) zs (some ⟨g, 0, none⟩) cap := ⟨by rw [hzl, hLc], hpart.lim, hpart.le, hzw⟩
      have E1 := Lib.hid e1
      have E2 := Lib.hid e2
      have hzl2 : zs.length ≤ xs.length + 2 := by omega
      have HX := Lib.hid (show M ≤ xs.length + 2 by omega)
      clear hpart hblk hlt hval hlim e1 e2 hz0 hV0
      go_wp2_with fail
      refine (trim_res Aq (by omega)).mono ?_
      rintro e w6 ⟨r6, l6, rfl, q6, n6, hb6⟩
      have Az6 := Az.later hb6
      have hs6 := hb6.size
      go_wp2_with fail
      refine (shr_any s Az6 (by omega) (by omega) (by omega)).mono ?_
      rintro e w7 ⟨r7, l7, rfl, q7, n7, hb7⟩
      have q6' := q6.later hb7
      rw [Int.toNat_natCast] at q7
      have hB7 : Below w.heap.size w w7 := (hb.trans (hb6.mono hsz)).trans (hb7.mono (by omega))
      have hX := HX.out
      go_wp2_with fail
      go_ret2
      exact ⟨r6, r7, rfl, hB7, ⟨l6, ⟨q6'.num.mono hsz, q6'.wf, q6'.full, q6'.eq.trans E1.out⟩, by omega⟩, ⟨l7, ⟨q7.num.mono (by omega), q7.wf, q7.full, q7.eq.trans E2.out⟩, by omega⟩⟩
end
section
open Go.RowKit
set_option linter.unusedVariables false
set_option linter.unusedSimpArgs false
theorem full_len {zs : List Int} {m : Nat} (hw : Wf zs) (hf : trimN zs zs.length = zs.length) (h : val zs < 4294967296 ^ m) : zs.length ≤ m := by
  rcases Nat.lt_or_ge m zs.length with k | k
  · exfalso
    have h1 := full_ge hw hf (zs.length - 1) (by omega)
    have h2 : (4294967296 : Int) ^ m ≤ 4294967296 ^ (zs.length - 1) := by rw [pow_limb, pow_limb]; exact two_mono (by omega)
    omega
  · exact k
theorem Res.lenLe {base : Nat} {w : World} {u : Value} {zs xs : List Int} {n : Int} (h : Res base w u zs n) (hx : Wf xs) (hle : n ≤ val xs) : zs.length ≤ xs.length := by
  have := val_lt hx
  exact full_len h.wf h.full (by rw [h.eq]; omega)
theorem Res.nil (base : Nat) (w : World) : Res base w (.slice none 0 0) [] 0 := ⟨⟨rfl, .inl ⟨rfl, rfl⟩⟩, Wf.nil, rfl, rfl⟩
theorem ediv_le {a b : Int} (ha : 0 ≤ a) (hb : 0 < b) : a / b ≤ a := Int.ediv_le_self b ha
theorem emod_le {a b : Int} (ha : 0 ≤ a) (hb : 0 < b) : a % b ≤ a := by
  have h1 := Int.emod_add_mul_ediv a b
  have h2 := Int.mul_nonneg (show 0 ≤ b by omega) (Int.ediv_nonneg ha (show 0 ≤ b by omega))
  omega
theorem val_zero {xs : List Int} (h : Wf xs) : val xs = 0 ↔ trimN xs xs.length = 0 := by
  constructor
  · intro h0
    rcases Nat.eq_zero_or_pos (trimN xs xs.length) with k | k
    · exact k
    · exfalso
      have h1 := full_ge h.trim (trim_full xs) (trimN xs xs.length - 1) (by rw [trim_length]; omega)
      rw [val_trim] at h1
      have := pow_pos' (trimN xs xs.length - 1)
      omega
  · intro h0
    rw [← val_trim xs]
    unfold trim
    rw [h0]
    rfl
set_option maxRecDepth 100000 in
set_option maxHeartbeats 1000000 in
theorem div_any {u v : Value} {xs ys : List Int} {a b : Option Addr} {capa capb : Nat} {w : World} (h1 : Arg w u xs a capa) (h2 : Arg w v ys b capb) (hx : xs.length ≤ 134217728) (hy : ys.length ≤ 134217728) (h0 : 0 < val ys) :
    Calls Tryz.prog 220 #[u, v] w fun e w' => ∃ r t, e = .returned (.tuple #[r, t, .int .i64 0]) ∧ Below w.heap.size w w' ∧ (∃ zs, Res w.heap.size w' r zs (val xs / val ys) ∧ zs.length ≤ xs.length) ∧
      (∃ zs, Res w.heap.size w' t zs (val xs % val ys) ∧ zs.length ≤ xs.length ∧ zs.length ≤ ys.length) := by
  have hc := count_any h2 (by omega)
  have hx0 := val_nonneg h1.wf
  have hq := ediv_le hx0 h0
  have hr := emod_le hx0 h0
  have hr2 := Int.emod_lt_of_pos (val xs) h0
  obtain ⟨t, ht⟩ : ∃ t, trimN ys ys.length = t := ⟨_, rfl⟩
  have htp : t ≠ 0 := by
    intro e
    have := (val_zero h2.wf).2 (ht.trans e)
    omega
  rw [ht] at hc
  have hd0 : ((t : Int) == 0) = false := by simp; omega
  have HQ := Lib.hid hq
  have HR := Lib.hid hr
  have HR2 := Lib.hid hr2
  clear hq hr hr2
  by_cases ht1 : t = 1
  · subst ht1
    have hd1 : (((1 : Nat) : Int) == 1) = true := by decide
    have hv1 := val_take_ge ys 1 (by omega)
    rw [val_take_succ] at hv1
    simp only [List.take_zero, val, Int.pow_zero, Int.one_mul, Int.zero_add] at hv1
    have hb := h2.wf.getD 0
    obtain ⟨bx, hbx⟩ : ∃ bx, ys.getD 0 0 = bx := ⟨_, rfl⟩
    rw [hbx] at hv1 hb
    have hl1 := trim_le ys
    rw [ht] at hl1
    obtain ⟨rfl, ly, hle, wy⟩ := h2
    rcases ly with rfl | ⟨bb, off, rfl, hcell⟩
    · simp at hl1
    have hc0 := hcell 0 (by omega)
    rw [hbx, Nat.add_zero] at hc0
    have hlt : (0 : Int) < (ys.length : Int) := by omega
    have HV := Lib.hid hv1
    have HY := Lib.hid wy
    clear hcell ht hbx hv1 hd0 htp
    go_enter Tryz.func220, Tryz.ntmps220
    go_wp2_with fail
    refine hc.mono ?_
    rintro e w' ⟨rfl, rfl⟩
    clear hc
    go_wp2_with fail
    refine (short1_any bx h1 (by omega) ⟨by rw [HV.out]; exact h0, hb.2⟩).mono ?_
    rintro e w2 ⟨r2, rfl, z2, q2, n2, hb2⟩
    have hm0 : 0 ≤ val xs % bx := Int.emod_nonneg _ (by rw [HV.out]; omega)
    have hm1 : val xs % bx < 18446744073709551616 := by have := HR2.out; rw [← HV.out] at this; omega
    have hwm : IntKind.u64.wrap (val xs % bx) = val xs % bx := wrap_u64 hm0 hm1
    go_wp2_with fail
    refine (ofN_any (val xs % bx) _ hm0 hm1).mono ?_
    rintro e w3 ⟨r3, z3, rfl, q3, n3, hb3⟩
    have hs2 := hb2.size
    have q2' := q2.later hb3
    have hB : Below w.heap.size w w3 := hb2.trans (hb3.mono hs2)
    rw [HV.out] at q2' q3
    have l2 := q3.lenLe h1.wf HR.out
    have l3 := q3.lenLe HY.out (Int.le_of_lt HR2.out)
    go_wp2_with fail
    go_ret3
    exact ⟨r2, r3, rfl, hB, ⟨z2, q2', n2⟩, ⟨z3, ⟨q3.num.mono hs2, q3.wf, q3.full, q3.eq⟩, l2, l3⟩⟩
  · have hd1 : ((t : Int) == 1) = false := by simp; omega
    have hcmp := cmp_res h1 h2 (by omega) (by omega)
    by_cases hlt : val xs < val ys
    · rw [sign_lt hlt] at hcmp
      have hn : decide ((-1 : Int) < 0) = true := by decide
      go_enter Tryz.func220, Tryz.ntmps220
      go_wp2_with fail
      refine hc.mono ?_
      rintro e w' ⟨rfl, rfl⟩
      clear hc
      go_wp2_with fail
      refine hcmp.mono ?_
      rintro e w2 ⟨rfl, hb2⟩
      clear hcmp
      have A1 := h1.later hb2
      have hs2 := hb2.size
      go_wp2_with fail
      refine (trim_res A1 (by omega)).mono ?_
      rintro e w3 ⟨r3, z3, rfl, q3, n3, hb3⟩
      have hB : Below w.heap.size w w3 := hb2.trans (hb3.mono hs2)
      have e1 : val xs / val ys = 0 := Int.ediv_eq_zero_of_lt hx0 hlt
      have e2 : val xs % val ys = val xs := Int.emod_eq_of_lt hx0 hlt
      have l3 := q3.lenLe h2.wf (Int.le_of_lt hlt)
      have E1 := Lib.hid e1
      have E2 := Lib.hid e2
      clear e1 e2
      go_wp2_with fail
      go_ret3
      exact ⟨_, r3, rfl, hB, ⟨[], by rw [E1.out]; exact Res.nil _ _, by simp⟩, ⟨z3, ⟨q3.num.mono hs2, q3.wf, q3.full, q3.eq.trans E2.out.symm⟩, n3, l3⟩⟩
    · have hn : decide (sign (val xs) (val ys) < 0) = false := decide_eq_false (by unfold sign; rw [if_neg hlt]; split <;> omega)
      go_enter Tryz.func220, Tryz.ntmps220
      go_wp2_with fail
      refine hc.mono ?_
      rintro e w' ⟨rfl, rfl⟩
      clear hc
      go_wp2_with fail
      refine hcmp.mono ?_
      rintro e w2 ⟨rfl, hb2⟩
      clear hcmp
      have A1 := h1.later hb2
      have A2 := h2.later hb2
      have hs2 := hb2.size
      go_wp2_with fail
      refine (long_any A1 A2 (by omega) (by omega) (by omega) (by omega)).mono ?_
      rintro e w3 ⟨r3, t3, rfl, hb3, ⟨z3, q3, _⟩, ⟨z4, q4, _⟩⟩
      have hB : Below w.heap.size w w3 := hb2.trans (hb3.mono hs2)
      have l1 := q3.lenLe h1.wf HQ.out
      have l2 := q4.lenLe h1.wf HR.out
      have l3 := q4.lenLe h2.wf (Int.le_of_lt HR2.out)
      go_wp2_with fail
      go_ret3
      exact ⟨r3, t3, rfl, hB, ⟨z3, ⟨q3.num.mono hs2, q3.wf, q3.full, q3.eq⟩, l1⟩, ⟨z4, ⟨q4.num.mono hs2, q4.wf, q4.full, q4.eq⟩, l2, l3⟩⟩
end
section
open Go.RowKit
set_option linter.unusedVariables false
set_option linter.unusedSimpArgs false
theorem below_drewN11 {B : Nat} {a w : World} (h : Below B a w) (n : Nat) : Below B a (w.drewN n) := ⟨h.os, h.tape, h.output, h.size, h.block⟩
set_option maxRecDepth 100000 in
set_option maxHeartbeats 4000000 in
theorem isNone_any {u : Value} {xs : List Int} {a : Option Addr} {ca : Nat} {w : World} (A : ArgS w u xs a ca) (hx : xs.length ≤ 17592186044416) : Calls Tryz.prog 278 #[u] w fun e w' => e = .returned (.bool (noB xs)) ∧ Below w.heap.size w w' := by
  obtain rfl := A.is
  obtain ⟨c, hc⟩ : ∃ c, noB xs = c := ⟨_, rfl⟩
  rw [hc]
  by_cases h0 : xs.length = 0
  · obtain rfl : c = true := by rw [← hc]; exact decide_eq_true h0
    have h0I : (xs.length : Int) = 0 := by omega
    clear hc
    go_enter Tryz.func278, Tryz.ntmps278
    go_wp2_with fail
    go_ret
    exact ⟨rfl, Below.refl _ _⟩
  · obtain rfl : c = false := by rw [← hc]; exact decide_eq_false h0
    have h0I : ((xs.length : Int) == 0) = false := by simp; exact fun h => h0 (by rw [h]; rfl)
    clear hc
    go_enter Tryz.func278, Tryz.ntmps278
    go_wp2_with fail
    go_ret
    exact ⟨rfl, Below.refl _ _⟩
set_option maxRecDepth 100000 in
set_option maxHeartbeats 4000000 in
theorem oneUpTo_any (m : Int) (w : World) : Calls Tryz.prog 279 #[.int .i64 m] w fun e w' => e = .returned (.func (.func 299) #[] #[.pointer (some ⟨w.heap.size, 0, none⟩)]) ∧ w' = w.alloc (.cells #[.int .i64 0, .int .i64 m] 177) := by
  go_enter Tryz.func279, Tryz.ntmps279
  go_wp2_with fail
  go_ret
  simp
set_option maxRecDepth 100000 in
set_option maxHeartbeats 4000000 in
theorem oneUpTo1_any {u : Value} {xs : List Int} {a : Option Addr} {ca : Nat} {w : World} (A : ArgS w u xs a ca) (hx : xs.length ≤ 17592186044416) {g : Nat} {m : Int} (R : Row w g 177 #[.int .i64 0, .int .i64 m]) : Calls Tryz.prog 299 #[u, .pointer (some ⟨g, 0, none⟩)] w fun e w' => e = .returned (.bool (oneB m xs)) ∧ Below w.heap.size w w' := by
  have HA := Lib.hid A
  obtain rfl := A.is
  obtain ⟨c, hc⟩ : ∃ c, oneB m xs = c := ⟨_, rfl⟩
  rw [hc]
  obtain ⟨L, hL⟩ : ∃ L, xs.length = L := ⟨_, rfl⟩
  rw [hL] at hx ⊢
  by_cases h0 : L = 1
  · subst h0
    obtain ⟨b, o, rfl, hcell⟩ := HA.out.at (i := 0) (by omega)
    obtain ⟨x, hxe⟩ : ∃ x, xs.getD 0 0 = x := ⟨_, rfl⟩
    rw [hxe] at hcell
    obtain rfl : hasB 0 m x = c := by rw [← hc, ← hxe]; unfold oneB hasB; rw [hL]; simp
    have l1 := World.block_lt_of_cell? _ _ hcell
    have MK := Lib.hid (show ∀ X, Below w.heap.size w X → X.cell? ⟨g, 0, none⟩ = some (.int .i64 0) ∧ X.cell? ⟨g, 1, none⟩ = some (.int .i64 m) ∧ X.cell? ⟨b, o, none⟩ = some (.int .i64 x) from fun X h => by
      obtain ⟨g0, g1, _⟩ := (R.later h).two
      exact ⟨g0, g1, (h.cell l1).trans hcell⟩)
    have B0 : Below w.heap.size w w.drew := (Below.refl _ _).drew
    clear hc hL hxe hcell l1 R
    go_enter Tryz.func299, Tryz.ntmps299
    go_wp2_with fail
    refine wp_region_held_drew (S := fun X => X.cell? ⟨g, 0, none⟩ = some (.int .i64 0) ∧ X.cell? ⟨g, 1, none⟩ = some (.int .i64 m) ∧ X.cell? ⟨b, o, none⟩ = some (.int .i64 x)) (by kernel_rfl) (MK.out _ B0) (fun hHeld => ?_)
    obtain ⟨y0, hdrh⟩ : ∃ Y, w.drew = Y := ⟨_, rfl⟩
    rw [hdrh] at B0 hHeld ⊢
    clear hdrh
    refine todo [0, 1, 2, 3, 4, 5, 6, 7] ?_
    iterate 8
     first
     | (refine todoH (v := ?_) rfl (by kernel_rfl) (fun _ _ _ h => h) (by assumption) (Or.inl ⟨by rfl, ?_⟩) ?_
        rotate_left
        · intro w hSw; (try dsimp only at hSw); go_simp; (try with_reducible rfl)
        try simp only [Act.put, List.getElem_toArray, List.getElem_cons_succ, List.getElem_cons_zero, List.setIfInBounds_toArray, List.set_cons_zero, List.set_cons_succ])
     | (refine todoH (v := undef) rfl (by kernel_rfl) (fun _ _ _ h => h) (by assumption) (Or.inr ⟨by rfl, rfl⟩) ?_
        try simp only [Act.put, List.getElem_toArray, List.getElem_cons_succ, List.getElem_cons_zero, List.setIfInBounds_toArray, List.set_cons_zero, List.set_cons_succ])
    refine todone ?_
    refine wpAnyH_ready (rs := [8]) (by kernel_rfl) (by simp) ?_
    refine AllReadyH.cons rfl (fun K hK => ?sh_8) AllReadyH.nil
    go_simp
    refine (has_any 0 m x _).mono ?_
    rintro e y1 ⟨rfl, hy⟩
    have B1 : Below w.heap.size w y1 := B0.trans (hy.mono B0.size)
    have Dh1 := hy
    clear hy
    go_simp
    refine hK.out _ _ (MK.out _ B1) (fun hHeld2 => ?mh_8)
    clear hK K hHeld
    have hHeld := hHeld2
    clear hHeld2
    try simp only [Act.put, List.getElem_toArray, List.getElem_cons_succ, List.getElem_cons_zero, List.setIfInBounds_toArray, List.set_cons_zero, List.set_cons_succ]
    refine todo [9, 10] ?_
    iterate 2
     first
     | (refine todoH (v := ?_) rfl (by kernel_rfl) (fun _ _ _ h => h) (by assumption) (Or.inl ⟨by rfl, ?_⟩) ?_
        rotate_left
        · intro w hSw; (try dsimp only at hSw); go_simp; (try with_reducible rfl)
        try simp only [Act.put, List.getElem_toArray, List.getElem_cons_succ, List.getElem_cons_zero, List.setIfInBounds_toArray, List.set_cons_zero, List.set_cons_succ])
     | (refine todoH (v := undef) rfl (by kernel_rfl) (fun _ _ _ h => h) (by assumption) (Or.inr ⟨by rfl, rfl⟩) ?_
        try simp only [Act.put, List.getElem_toArray, List.getElem_cons_succ, List.getElem_cons_zero, List.setIfInBounds_toArray, List.set_cons_zero, List.set_cons_succ])
    refine todone ?_
    refine wpAnyH_done (by kernel_rfl) ?_ _
    (try dsimp only [Straight])
    go_wp2_with fail
    go_ret
    exact ⟨rfl, B1⟩
  · obtain rfl : c = false := by rw [← hc]; unfold oneB; exact decide_eq_false (by rw [hL]; exact fun h => h0 h.1)
    have h0I : ((L : Int) == 1) = false := by simp; omega
    have B0 : Below w.heap.size w w.drew := (Below.refl _ _).drew
    clear hc hL R
    go_enter Tryz.func299, Tryz.ntmps299
    go_wp2_with fail
    refine wp_region_held_drew (S := fun _ => True) (by kernel_rfl) trivial (fun hHeld => ?_)
    refine todo [0, 1, 2, 3, 4, 5, 6, 7, 8, 9, 10] ?_
    iterate 11
     first
     | (refine todoH (v := ?_) rfl (by kernel_rfl) (fun _ _ _ h => h) (by assumption) (Or.inl ⟨by rfl, ?_⟩) ?_
        rotate_left
        · intro w hSw; (try dsimp only at hSw); go_simp; (try with_reducible rfl)
        try simp only [Act.put, List.getElem_toArray, List.getElem_cons_succ, List.getElem_cons_zero, List.setIfInBounds_toArray, List.set_cons_zero, List.set_cons_succ])
     | (refine todoH (v := undef) rfl (by kernel_rfl) (fun _ _ _ h => h) (by assumption) (Or.inr ⟨by rfl, rfl⟩) ?_
        try simp only [Act.put, List.getElem_toArray, List.getElem_cons_succ, List.getElem_cons_zero, List.setIfInBounds_toArray, List.set_cons_zero, List.set_cons_succ])
    refine todone ?_
    refine wpAnyH_done (by kernel_rfl) ?_ _
    (try dsimp only [Straight])
    go_wp2_with fail
    go_ret
    exact ⟨rfl, B0⟩
set_option maxRecDepth 100000 in
set_option maxHeartbeats 4000000 in
theorem always_any (m : Int) (w : World) : Calls Tryz.prog 280 #[.int .i64 m] w fun e w' => e = .returned (.func (.func 300) #[] #[.pointer (some ⟨w.heap.size, 0, none⟩)]) ∧ w' = w.alloc (.cells #[.int .i64 m] 3) := by
  go_enter Tryz.func280, Tryz.ntmps280
  go_wp2_with fail
  go_ret
  simp
set_option maxRecDepth 100000 in
set_option maxHeartbeats 4000000 in
theorem always1_any {g : Nat} {m r : Int} {w : World} (h0 : -9223372036854775808 ≤ m) (h1 : m ≤ 9223372036854775807) (R : Row w g 3 #[.int .i64 m]) : Calls Tryz.prog 300 #[.int .i64 r, .pointer (some ⟨g, 0, none⟩)] w fun e w' => ∃ v, e = .returned v ∧ ResS w.heap.size w' v [m] ∧ Below w.heap.size w w' := by
  have c0 := R.cell 0
  go_enter Tryz.func300, Tryz.ntmps300
  go_wp2_with fail
  go_ret
  refine ⟨_, rfl, ⟨⟨rfl, .inr ⟨w.heap.size, 1, #[.int .i64 m], rfl, Nat.le_refl _, heap_alloc_new w _, Nat.le_refl _, by unfold maxLen; omega, by simp, by simp⟩⟩, Wid.one ⟨h0, h1⟩⟩, (Below.refl _ _).alloc (Nat.le_refl _) _⟩
set_option maxRecDepth 100000 in
set_option maxHeartbeats 4000000 in
theorem coprime_any {p q : Int} (hp0 : -2147483647 ≤ p) (hp1 : p ≤ 2147483647) (hq0 : -2147483647 ≤ q) (hq1 : q ≤ 2147483647) (w : World) : Calls Tryz.prog 301 #[.int .i64 p, .int .i64 q] w fun e w' => e = .returned (.bool (copB p q)) ∧ Below w.heap.size w w' := by
  obtain ⟨c, hc⟩ : ∃ c, copB p q = c := ⟨_, rfl⟩
  rw [hc]
  have HC := Lib.hid hc
  clear hc
  go_enter Tryz.func301, Tryz.ntmps301
  go_wp2
  go_loopw [0, 1] (fun a b wr => ∃ P Q : Int, a = .int .i64 P ∧ b = .int .i64 Q ∧ -2147483647 ≤ P ∧ P ≤ 2147483647 ∧ -2147483647 ≤ Q ∧ Q ≤ 2147483647 ∧ Int.gcd P Q = Int.gcd p q ∧ Below w.heap.size w wr) (fun _ b _ => (intOf b).natAbs)
  case atStart => exact ⟨p, q, rfl, rfl, hp0, hp1, hq0, hq1, rfl, Below.refl _ _⟩
  case round =>
    obtain ⟨P, Q, rfl, rfl, a0, a1, b0, b1, hg, hb⟩ := hrel
    have HG := Lib.hid hg
    clear hg
    by_cases hQ : Q = 0
    · subst hQ
      have hgP : Int.gcd p q = P.natAbs := by rw [← HG.out]; simp
      by_cases h1 : P = 1
      · subst h1
        obtain rfl : c = true := by rw [← HC.out]; unfold copB; rw [hgP]; rfl
        clear hgP
        go_wp2_with fail
        go_ret
        exact ⟨rfl, hb⟩
      · have h1I : (P == 1) = false := by simp [h1]
        by_cases h2 : P = -1
        · subst h2
          obtain rfl : c = true := by rw [← HC.out]; unfold copB; rw [hgP]; rfl
          clear hgP
          go_wp2_with fail
          go_ret
          exact ⟨rfl, hb⟩
        · have h2I : (P == -1) = false := by simp [h2]
          obtain rfl : c = false := by rw [← HC.out]; unfold copB; rw [hgP]; exact decide_eq_false (by omega)
          clear hgP
          go_wp2_with fail
          go_ret
          exact ⟨rfl, hb⟩
    · have hQI : (Q != 0) = true := by simp [hQ]
      have hlt : (P.tmod Q).natAbs < Q.natAbs := by
        have h := Int.tmod_lt_of_pos (a := P) (b := (Q.natAbs : Int)) (by omega)
        rw [Int.natAbs_tmod]
        exact Nat.mod_lt _ (by omega)
      have hgc : Int.gcd Q (P.tmod Q) = Int.gcd p q := by
        rw [← HG.out, Int.gcd_comm P Q]
        unfold Int.gcd
        rw [Int.natAbs_tmod, Nat.gcd_comm Q.natAbs, ← Nat.gcd_rec, Nat.gcd_comm]
      have hw : IntKind.i64.wrap (P.tmod Q) = P.tmod Q := IntWalk.i64_in _ (by omega)
      have HGC := Lib.hid hgc
      have HLT := Lib.hid hlt
      clear hgc hlt
      go_wp2_with fail
      go_quiet (fail)
      go_wp2
      go_roundw
      case rel => exact ⟨Q, P.tmod Q, by first | rfl | (rw [hw]), rfl, b0, b1, by have := HLT.out; omega, by have := HLT.out; omega, HGC.out, below_drewN11 hb nq⟩
      case measure => simp [intOf]; have h := HLT.out; rw [Int.natAbs_tmod] at h; exact h
end
end Go.Proofs.YtjgiacghlkkjfaaGreatDoor
