/-
  Rows of structs of three cells (rational numbers): as they came in, as they are made.
-/
import Derived.Test.YtooglnhlhgmhdaaGreatZ1
import Derived.Test.YtooglnhlhgmhdaaGreatZ2
import Derived.Test.YtooglnhlhgmhdaaGreatZ3
import Derived.Test.YtooglnhlhgmhdaaGreatZ5
import Derived.Test.YtooglnhlhgmhdaaGreatZ6
import Derived.Test.YtooglnhlhgmhdaaGreatZ7
import Derived.Test.YtooglnhlhgmhdaaGreatZ9
import Derived.Test.YtooglnhlhgmhdaaGreatZ10
import Derived.Test.YtooglnhlhgmhdaaGreatZ11
import Derived.WalkKit
import Derived.Test.YtooglnhlhgmhdaaGreatRows
import Derived.BigQuiet
import Derived.Deep.QuietTactic
import Derived.Lib.Hide
import Derived.Lib.Small
import Derived.Lib.Walk
import Derived.Lib.BitFns
import Derived.Maps.AppendAt
import Derived.RangeFuncNested
import Derived.RangeFuncBound
import Derived.RangeFuncCalls
import Derived.RangeFuncLeaves
import Derived.Shelf.Abstract
import Derived.OwnWalkIn
import Derived.TacticsInMore
import Derived.LoopNIn
import Derived.LoopIn
import Derived.RangeFuncBox
import Derived.Deep.RegionHeld3
import Derived.OrdersIn
import Derived.StillTailTactics
import Derived.RangeFuncFrom
import Derived.Laws.EntriesVeiled
import Derived.ProofKit
import Derived.OpenShut
import Derived.JoinedCond
import Derived.Carry
import Derived.Laws.AppendOwnNone
import Derived.Lib.ItoaNum
import Derived.Deep.RegionLaw
import Derived.WalkMore
import Derived.Lib.SmallJoins
import Derived.IntWalk
import Derived.Deep.DeepCutAuto
import Derived.Laws.OwnMore
namespace Go.Proofs.YtooglnhlhgmhdaaGreat
set_option maxRecDepth 100000
section
open Go.RowKit
set_option linter.unusedVariables false
set_option linter.unusedSimpArgs false
theorem Only.grownBy {b : Nat} {w w' : World} (h : Only b w w') : w.grownBy w' (some b) := h.grown
theorem Below.thenOnly {b : Nat} {w v w' : World} (h : Below w.heap.size w v) (k : Only b v w') : w.grownBy w' (some b) :=
  ⟨k.os.trans h.os, k.tape.trans h.tape, k.output.trans h.output, by rw [k.size]; exact h.size, fun i hi hb => (k.block i (fun e => hb (by rw [e]))).trans (h.block i hi)⟩
set_option maxRecDepth 100000 in
set_option maxHeartbeats 4000000 in
theorem divide_any {g cap capp i : Nat} {bg bo capb : Nat} {zs ys : List Int} {w : World} (n : Nat) (hz : Part w g cap zs) (hwz : Wf zs) (hwy : Wf ys) (hn : ys.length = n + 2) (hi : i + ys.length < zs.length) (hm : zs.length ≤ 1099511627776)
    (cy : ∀ j, j < ys.length → w.cell? ⟨bg, bo + j, none⟩ = some (.int .u32 (ys.getD j 0))) (hbg : bg ≠ g) (ht : 2147483648 ≤ ys.getD (n + 1) 0) (hlt : val (sub zs i (ys.length + 1)) < 4294967296 * val ys) :
    Calls Tryz.prog 158 #[.slice (some ⟨g, i, none⟩) (ys.length + 1 : Nat) capp, .slice (some ⟨bg, bo, none⟩) ys.length capb] w fun e w' =>
      ∃ (q : Int) (ls : List Int), e = .returned (.int .u32 q) ∧ 0 ≤ q ∧ q < 4294967296 ∧ ls.length = ys.length + 1 ∧ Wf ls ∧ Part w' g cap (putAt zs i ls) ∧ val ls = val (sub zs i (ys.length + 1)) - q * val ys ∧ val ls < val ys ∧ w.grownBy w' (some g) := by
  have hws := sub_wf i (ys.length + 1) hwz
  have hsl := sub_length zs i (ys.length + 1) (by omega)
  have hbl : bg < w.heap.size := World.block_lt_of_cell? w _ (cy 0 (by omega))
  have est := estimate_any (pg := g) (po := i) (bg := bg) (bo := bo) (capp := capp) (capb := capb) (w := w) n hws hwy (by omega) hn (by omega) (fun j hj => by rw [sub_getD _ _ _ _ (by omega)]; exact hz.cell (i + j) (by omega)) cy ht hlt
  rw [hsl] at est
  have hU0 := val_nonneg hws
  have hV0 := val_nonneg hwy
  obtain ⟨U, hU⟩ : ∃ U, val (sub zs i (ys.length + 1)) = U := ⟨_, rfl⟩
  obtain ⟨V, hV⟩ : ∃ V, val ys = V := ⟨_, rfl⟩
  rw [hU, hV] at est hlt
  rw [hU] at hU0 ⊢
  rw [hV] at hV0 ⊢
  obtain ⟨N, hN⟩ : ∃ N, ys.length + 1 = N := ⟨_, rfl⟩
  have tk := fun (w : World) (q : Int) hz hq cy => take_any (g := g) (cap := cap) (capp := capp) (i := i) (bg := bg) (bo := bo) (capb := capb) (zs := zs) (ys := ys) (w := w) q hz hwz hwy hq hi hm cy hbg
  rw [hN] at est tk ⊢
  have TK := Lib.hid tk
  have HU := Lib.hid hU
  have HV := Lib.hid hV
  have HN := Lib.hid hN
  have hln : 0 < ys.length := by omega
  clear tk hU hV hN hlt hn ht
  go_enter Tryz.func158, Tryz.ntmps158
  go_wp2_with fail
  refine est.mono ?_
  rintro e w1 ⟨q, rfl, hq0, hq1, hlo, hhi, hb1⟩
  have hz1 := hz.later hb1
  have cy1 : ∀ j, j < ys.length → w1.cell? ⟨bg, bo + j, none⟩ = some (.int .u32 (ys.getD j 0)) := fun j hj => (hb1.cell (p := ⟨bg, bo + j, none⟩) hbl).trans (cy j hj)
  have hvt := val_takeL (q := q) hws hwy ⟨hq0, hq1⟩ hsl
  rw [HU.out, HV.out] at hvt
  have hlt1 := val_lt (takeL_wf (sub zs i (ys.length + 1)) ys q)
  have hnn1 := val_nonneg (takeL_wf (sub zs i (ys.length + 1)) ys q)
  rw [takeL_length] at hlt1
  have hhi2 : U < q * V + V := by rw [Int.add_mul, Int.one_mul] at hhi; exact hhi
  clear est cy hz hhi
  go_wp2_with fail
  refine (TK.out w1 q hz1 ⟨hq0, hq1⟩ cy1).mono ?_
  rintro e w2 ⟨rfl, hp2, ho2⟩
  have hg2 := Below.thenOnly hb1 ho2
  rw [← HN.out] at hp2 ⊢
  obtain ⟨t, htb⟩ : ∃ t, takeB (sub zs i (ys.length + 1)) ys q = t := ⟨_, rfl⟩
  rw [htb] at hvt ⊢
  have hlsl := takeL_length (sub zs i (ys.length + 1)) ys q
  have hlsw := takeL_wf (sub zs i (ys.length + 1)) ys q
  obtain ⟨ls, hls⟩ : ∃ ls, takeL (sub zs i (ys.length + 1)) ys q = ls := ⟨_, rfl⟩
  rw [hls] at hvt hlt1 hnn1 hp2 hlsl hlsw
  clear hls htb
  cases t with
  | false =>
    simp only [Bool.false_eq_true, if_false, Int.add_zero] at hvt
    have hqw : IntKind.u32.wrap q = q := by rw [wrap_u32]; exact Int.emod_eq_of_lt hq0 (by omega)
    have HP := Lib.hid hp2
    have HVT := Lib.hid hvt
    have h2 : val ls < V := by omega
    have H2 := Lib.hid h2
    clear hp2 hvt h2 hlt1 hnn1 hlo hhi2
    go_wp2
    go_ret
    exact ⟨q, ls, rfl, hq0, by omega, hlsl.trans HN.out, hlsw, HP.out, HVT.out, H2.out, hg2⟩
  | true =>
    simp only [if_true] at hvt
    have hneg : U < q * V := by omega
    have hqp : 0 < q := by
      rcases Int.lt_or_le 0 q with h | h
      · exact h
      · have h0 : q = 0 := by omega
        rw [h0, Int.zero_mul] at hneg
        omega
    have cy2 : ∀ j, j < ys.length → w2.cell? ⟨bg, bo + j, none⟩ = some (.int .u32 (ys.getD j 0)) := fun j hj => (ho2.cell (p := ⟨bg, bo + j, none⟩) hbg).trans (cy1 j hj)
    have hpl := putAt_length zs ls i (by omega)
    have gv := give_any (g := g) (cap := cap) (capp := capp) (i := i) (bg := bg) (bo := bo) (capb := capb) (zs := putAt zs i ls) (ys := ys) (w := w2) hp2 (putAt_wf i hwz hlsw) hwy (by omega) (by omega) cy2 hbg
    rw [sub_putAt zs ls i (ys.length + 1) hlsl (by omega), putAt_twice zs ls _ i (by omega) (by rw [giveL_length, hlsl])] at gv
    have hgl := giveL_length ls ys
    have hgw := giveL_wf ls ys
    have hg0 := val_nonneg hgw
    have hg1 := val_lt hgw
    rw [hgl] at hg1
    have hfin : val (giveL ls ys) = U - (q - 1) * V := by
      have e : (q - 1) * V = q * V - V := by rw [Int.sub_mul, Int.one_mul]
      rcases val_giveL hlsw hwy (by omega) with h | h
      · rw [HV.out] at h; omega
      · rw [HV.out] at h; omega
    have hfin2 : val (giveL ls ys) < V := by
      have e : (q - 1) * V = q * V - V := by rw [Int.sub_mul, Int.one_mul]
      omega
    have HFIN := Lib.hid hfin
    have HFIN2 := Lib.hid hfin2
    rw [HN.out] at gv ⊢
    have hqw : IntKind.u32.wrap (q - 1) = q - 1 := by rw [wrap_u32]; exact Int.emod_eq_of_lt (by omega) (by omega)
    clear hvt hlt1 hnn1 hlo hhi2 hfin hfin2 hg0 hg1 hneg hp2 cy1 cy2
    go_wp2_with fail
    refine gv.mono ?_
    rintro e w3 ⟨rfl, hp3, ho3⟩
    have HP := Lib.hid hp3
    have hg3 : w.grownBy w3 (some g) := ⟨ho3.os.trans hg2.os, ho3.tape.trans hg2.tape, ho3.output.trans hg2.output, by rw [ho3.size]; exact hg2.size, fun i hi hb => (ho3.block i (fun e => hb (by rw [e]))).trans (hg2.block i hi hb)⟩
    clear hp3 gv
    go_wp2
    go_ret
    exact ⟨q - 1, _, rfl, by omega, by omega, by rw [← HN.out]; exact hgl, hgw, HP.out, HFIN.out, HFIN2.out, hg3⟩
end
section
open Go.RowKit
set_option linter.unusedVariables false
set_option linter.unusedSimpArgs false
/-- the divisor, shifted till the highest bit of its last limb is 1 -/
theorem norm_ok {ys bs : List Int} {s : Nat} (hy : Wf ys) (hb : Wf bs) (fb : trimN bs bs.length = bs.length) (h2 : 2 ≤ trimN ys ys.length) (hs : s + bitsN ys = trimN ys ys.length * 32) (hv : val bs = val ys * 2 ^ s) :
    ∃ n, bs.length = n + 2 ∧ n + 2 = trimN ys ys.length ∧ 2147483648 ≤ bs.getD (n + 1) 0 := by
  obtain ⟨n, hn⟩ : ∃ n, trimN ys ys.length = n + 2 := ⟨trimN ys ys.length - 2, by omega⟩
  rcases bitsN_is hy with ⟨h0, _⟩ | ⟨j, hj, h3, h4⟩
  · exfalso; have := (bitsN_count hy).2.1; omega
  have e1 : s + j + 1 = (n + 2) * 32 := by omega
  have l1 : (2 : Int) ^ (s + j) ≤ val bs := by
    rw [hv, Nat.add_comm, Int.pow_add]
    exact mul_le_r (Int.le_of_lt (two_pos s)) h3
  have l2 : val bs < 2 ^ (s + j + 1) := by
    rw [hv, Nat.add_assoc, Nat.add_comm s, Int.pow_add]
    exact Int.mul_lt_mul_of_pos_right h4 (two_pos s)
  rw [e1, ← pow_limb] at l2
  have e2 : (2 : Int) ^ (s + j) = 4294967296 ^ (n + 1) * 2147483648 := by
    rw [pow_limb, show s + j = (n + 1) * 32 + 31 by omega, Int.pow_add]
    rfl
  rw [e2] at l1
  have hlen : bs.length = n + 2 := by
    rcases Nat.lt_trichotomy bs.length (n + 2) with h | h | h
    · exfalso
      have k1 := val_lt hb
      have k2 : (4294967296 : Int) ^ bs.length ≤ 4294967296 ^ (n + 1) := by rw [pow_limb, pow_limb]; exact two_mono (by omega)
      have k3 := pow_pos' (n + 1)
      omega
    · exact h
    · exfalso
      have k1 := full_ge hb fb (bs.length - 1) (by omega)
      have k2 : (4294967296 : Int) ^ (n + 2) ≤ 4294967296 ^ (bs.length - 1) := by rw [pow_limb, pow_limb]; exact two_mono (by omega)
      omega
  refine ⟨n, hlen, hn.symm, ?_⟩
  have k1 := val_take_succ bs (n + 1)
  rw [List.take_of_length_le (by omega)] at k1
  have k2 := val_lt (hb.take (n + 1))
  rw [List.length_take, Nat.min_eq_left (by omega)] at k2
  rcases Int.lt_or_le (bs.getD (n + 1) 0) 2147483648 with h | h
  · exfalso
    have k3 := mul_le_l (a := bs.getD (n + 1) 0) (b := 2147483647) (c := 4294967296 ^ (n + 1)) (Int.le_of_lt (pow_pos' _)) (by omega)
    omega
  · exact h
/-- a limb of the quotient -/
theorem long_step {zs ls : List Int} {i t : Nat} {q V : Int} (hz : Wf zs) (hl : Wf ls) (hll : ls.length = t + 1) (hi : i + t < zs.length) (hV0 : 0 ≤ V) (hV : V < 4294967296 ^ t) (hlt : val zs < 4294967296 ^ (i + 1) * V) :
    val (sub zs i (t + 1)) < 4294967296 * V ∧ (val ls = val (sub zs i (t + 1)) - q * V → val ls < V → val (putAt zs i ls) = val zs - 4294967296 ^ i * (q * V) ∧ val (putAt zs i ls) < 4294967296 ^ i * V) := by
  have hp := pow_pos' i
  have hd0 : val (zs.drop (i + 1 + t)) = 0 := by
    refine val_drop0 hz _ ?_
    rw [Int.pow_add]
    have h1 := mul_le_l (a := V) (b := 4294967296 ^ t) (c := 4294967296 ^ (i + 1)) (Int.le_of_lt (pow_pos' _)) (Int.le_of_lt hV)
    omega
  have h1 := val_split (xs := zs) i (by omega)
  have h2 := val_split (xs := zs.drop i) (t + 1) (by rw [List.length_drop]; omega)
  rw [List.drop_drop, show i + (t + 1) = i + 1 + t by omega, hd0, Int.mul_zero, Int.add_zero] at h2
  have h3 := val_nonneg (hz.take i)
  have h4 := val_lt (hz.take i)
  rw [List.length_take, Nat.min_eq_left (by omega)] at h4
  have hput : val (putAt zs i ls) = val (zs.take i) + 4294967296 ^ i * val ls := by
    unfold putAt
    rw [val_cat3, hll, show i + (t + 1) = i + 1 + t by omega, hd0, List.length_take, Nat.min_eq_left (by omega), Int.mul_zero, Int.add_zero]
  have hU : val (zs.drop i) = val (sub zs i (t + 1)) := h2
  rw [hU] at h1
  generalize val (sub zs i (t + 1)) = U at *
  rw [Int.pow_succ] at hlt
  generalize (4294967296 : Int) ^ i = P at *
  refine ⟨?_, fun e1 e2 => ⟨?_, ?_⟩⟩
  · rcases Int.lt_or_le U (4294967296 * V) with h | h
    · exact h
    · exfalso
      have h5 := mul_le_l (c := P) (by omega) h
      rw [← Int.mul_assoc] at h5
      omega
  · rw [hput, h1, e1, Int.mul_sub]; omega
  · rw [hput]
    have h5 := mul_le_l (a := val ls) (b := V - 1) (c := P) (by omega) (by omega)
    rw [Int.mul_sub, Int.mul_one] at h5
    omega
theorem long_alg (Z P V q Q : Int) : Z + V * (P * 4294967296 * Q) = Z - P * (q * V) + V * (P * (q + 4294967296 * Q)) := by grind
/-- what is left, shifted back -/
theorem long_end {A B Q R s : Int} (hs : 0 < s) (h : A * s = R + B * s * Q) (h0 : 0 ≤ R) (h1 : R < B * s) : Q = A / B ∧ R / s = A % B := by
  have hB : 0 < B := by
    rcases Int.lt_or_le 0 B with k | k
    · exact k
    · exfalso
      have := mul_le_r (a := B) (b := 0) (c := s) (by omega) k
      omega
  have e : R = (A - B * Q) * s := by rw [Int.sub_mul]; have : B * Q * s = B * s * Q := by rw [Int.mul_assoc, Int.mul_comm Q, ← Int.mul_assoc]; 
                                     omega
  have hr : R / s = A - B * Q := by rw [e]; exact Int.mul_ediv_cancel _ (by omega)
  have r0 : 0 ≤ A - B * Q := by rw [← hr]; exact Int.ediv_nonneg h0 (by omega)
  have r1 : A - B * Q < B := by
    rw [← hr]
    exact Int.ediv_lt_of_lt_mul hs h1
  obtain ⟨q1, q2⟩ := quo_eq (V := Q) (d := B) (r := A - B * Q) (N := A) hB (by rw [Int.mul_comm]; omega) ⟨r0, r1⟩
  exact ⟨q1, by rw [hr]; exact q2⟩
theorem Lim.grown {w w' : World} {ad : Option Addr} {xs : List Int} {row : Option Nat} (h : Lim w ad xs) (k : w.grownBy w' row) (hne : ∀ a, ad = some a → some a.block ≠ row) : Lim w' ad xs := by
  rcases h with rfl | ⟨b, off, rfl, hc⟩
  · exact .inl rfl
  · exact .inr ⟨b, off, rfl, fun i hi => k.cell (hc i hi) (show some b ≠ row from hne ⟨b, off, none⟩ rfl)⟩
set_option maxRecDepth 100000 in
set_option maxHeartbeats 4000000 in
theorem long_any {u v : Value} {xs ys : List Int} {a b : Option Addr} {capa capb : Nat} {w : World} (h1 : Arg w u xs a capa) (h2 : Arg w v ys b capb) (hx : xs.length ≤ 134217728) (hy : ys.length ≤ 134217728) (h2y : 2 ≤ trimN ys ys.length) (hle : val ys ≤ val xs) :
    Calls Tryz.prog 141 #[u, v] w fun e w' => ∃ r t, e = .returned (.tuple #[r, t]) ∧ Below w.heap.size w w' ∧ (∃ zs, Res w.heap.size w' r zs (val xs / val ys) ∧ zs.length ≤ xs.length + 2) ∧ (∃ zs, Res w.heap.size w' t zs (val xs % val ys) ∧ zs.length ≤ xs.length + 2) := by
  obtain ⟨c1, c2, c3⟩ := bitsN_count h2.wf
  have hty := trim_le ys
  have hcount := count_any h2 (by omega)
  have hbits := bits_res h2 (by omega) (bitsN_is h2.wf)
  obtain ⟨s, hs⟩ : ∃ s, s + bitsN ys = trimN ys ys.length * 32 := ⟨trimN ys ys.length * 32 - bitsN ys, by omega⟩
  obtain ⟨t, ht⟩ : ∃ t, trimN ys ys.length = t := ⟨_, rfl⟩
  obtain ⟨kb, hkb⟩ : ∃ kb, bitsN ys = kb := ⟨_, rfl⟩
  have hnorm := fun (bs : List Int) hb fb hv => norm_ok (ys := ys) (bs := bs) (s := s) h2.wf hb fb h2y hs hv
  rw [hkb] at hbits c2 c3 hs
  rw [ht] at hcount hs c2 c3 hnorm hty h2y
  have hsub : ((t : Int) * 32 - (kb : Int)) = (s : Int) := by omega
  have hs32 : s ≤ 31 := by omega
  have hxw := h1.wf
  have hyw := h2.wf
  have HS := Lib.hid hs
  have HNORM := Lib.hid hnorm
  clear c1 c2 c3 hs hnorm ht hkb
  obtain ⟨i0, hi, hz0, hz1, hz2⟩ := info_parts infoLimb
  go_enter Tryz.func141, Tryz.ntmps141
  go_wp2_with fail
  refine hcount.mono ?_
  rintro e w' ⟨rfl, rfl⟩
  go_wp2_with fail
  refine hbits.mono ?_
  rintro e w' ⟨rfl, rfl⟩
  clear hcount hbits
  go_wp2_with fail
  refine (shl_any s h2 (by omega) (by omega) (by omega)).mono ?_
  rintro e w1 ⟨r1, bs, rfl, q1, n1, hb1⟩
  have A1 := h1.later hb1
  rw [Int.toNat_natCast] at q1 n1
  go_wp2_with fail
  refine (shl_any s A1 (by omega) (by omega) (by omega)).mono ?_
  rintro e w2 ⟨r2, cs, rfl, q2, n2, hb2⟩
  rw [Int.toNat_natCast] at q2 n2
  obtain ⟨n, ebl, _, etop⟩ := HNORM.out bs q1.wf q1.full q1.eq
  have hs1 := hb1.size
  have hs2 := hb2.size
  have hB2 : Below w.heap.size w w2 := hb1.trans (hb2.mono hs1)
  have hcl : bs.length ≤ cs.length := by
    rcases Nat.lt_or_ge cs.length bs.length with k | k
    · exfalso
      have := len_lt q2.wf q1.wf q1.full k
      rw [q1.eq, q2.eq] at this
      have := mul_le_r (Int.le_of_lt (two_pos s)) hle
      omega
    · exact k
  have hV0 : 0 < val bs := by
    have h1 := full_ge q1.wf q1.full (n + 1) (by omega)
    have h2 := pow_pos' (n + 1)
    omega
  have hV1 := val_lt q1.wf
  -- b lies below what comes
  obtain ⟨bg, bo, capb1, hbv, hbcell, hbg⟩ : ∃ bg bo cp, r1 = .slice (some ⟨bg, bo, none⟩) bs.length cp ∧ (∀ j, j < bs.length → w2.cell? ⟨bg, bo + j, none⟩ = some (.int .u32 (bs.getD j 0))) ∧ bg < w1.heap.size := by
    obtain ⟨ad, cp, e1, e2, _, _, e5⟩ := q1.num.read
    have e2' := e2.later hb2
    rcases e2' with e | ⟨bg, bo, rfl, hc⟩
    · rw [e] at ebl; simp at ebl
    · exact ⟨bg, bo, cp, e1, hc, (e5 _ rfl).2⟩
  subst hbv
  have hwb := q1.wf
  have HFB := Lib.hid q1.full
  have q1eq := q1.eq
  have hrow := q2.num
  unfold Num at hrow
  have hcsw := q2.wf
  have hcse := q2.eq
  have hxl : cs.length ≤ 134217730 := by omega
  have hcx : cs.length ≤ xs.length + 1 := by omega
  have hN := Lib.hid q2.num
  have HEB := Lib.hid ebl
  have HTOP := Lib.hid etop
  have HC := Lib.hid hbcell
  have HQ1 := Lib.hid q1eq
  have HQ2 := Lib.hid hcse
  have hn1 : bs.length ≤ 134217730 := by omega
  obtain ⟨M, hM⟩ : ∃ M, M + bs.length = cs.length + 1 := ⟨cs.length + 1 - bs.length, by omega⟩
  have hMi : ((cs.length : Int) + 1 - (bs.length : Int)) = (M : Int) := by omega
  have hmk := make_runN M M (Nat.le_refl _) (by omega)
  have HM := Lib.hid hM
  clear hM
  clear q1 q2 hb1 A1 h1 h2 n1 n2 HNORM ebl etop hbcell q1eq hcse hle
  go_wp2_with (at_builtin; refine wpList_append_own _ rfl _ _ 56 rfl w1.heap.size 63 i0 (.int .u32 0) 1 4 Tryz.underlying56 hi hz0 hz1 hz2 rfl (by decide) _ _ _ rfl (hrow.alloc _) ⟨w2.heap.size, 0, none⟩ 1 1 [.int .u32 0] rfl rfl (cell_one_new _ _ _) (by simp [Value.oneCell']) (by unfold maxLen; omega) (by omega) (by simp; omega) ?_; intro v' w3 hown' hgrow _; have hnum : Num w1.heap.size w3 v' (cs ++ [0]) := (by unfold Num; rw [List.length_append, List.map_append]; exact hown'); obtain ⟨g, cap, rfl, hg, hcapm, hpart⟩ : ∃ g cap, v' = .slice (some ⟨g, 0, none⟩) (cs ++ [0]).length cap ∧ w1.heap.size ≤ g ∧ cap ≤ maxLen ∧ Part w3 g cap (cs ++ [0]) := hnum.parts.resolve_left (fun h => by have := h.2; simp at this))
  have hw3 : Below w.heap.size w w3 := (hB2.alloc (by omega) _).grown hgrow (by simp; omega) (fun k hk => Nat.le_trans hs1 (hN.out.lt k hk).1)
  have hs3 : w2.heap.size ≤ w3.heap.size := by have := hgrow.size; simp at this; omega
  have hlimb : Lim w3 (some ⟨bg, bo, none⟩) bs := by
    have h1 : Lim w2 (some ⟨bg, bo, none⟩) bs := .inr ⟨bg, bo, rfl, HC.out⟩
    refine Lim.grown (h1.later ((Below.refl w2.heap.size w2).alloc (Nat.le_refl _) _)) hgrow (fun a e => ?_)
    cases e
    intro e2
    have := (hN.out.lt bg e2.symm).1
    omega
  have hglt := hpart.lt
  obtain ⟨L, hL⟩ : ∃ L, (cs ++ [0]).length = L := ⟨_, rfl⟩
  have hLc : L = cs.length + 1 := by rw [← hL]; simp
  have hV := HQ1.out
  have hwz0 : Wf (cs ++ [0]) := hcsw.append (wf1 (by omega))
  have hv0 : val (cs ++ [0]) = val cs := by rw [val_append]; simp [val]
  have HL := Lib.hid hL
  have HLC := Lib.hid hLc
  have HV := Lib.hid hV
  have hpart0 := hpart.alloc (.cells (madeCells #[.int .u32 0] M) 63)
  have hblk0 := Blk.made w3 M
  have hlim0 := hlimb.later ((Below.refl w3.heap.size w3).alloc (Nat.le_refl _) (.cells (madeCells #[.int .u32 0] M) 63))
  have hw4 : Below w.heap.size w (w3.alloc (.cells (madeCells #[.int .u32 0] M) 63)) := hw3.alloc (by omega) _
  have hvstart : val (cs ++ [0]) < 4294967296 ^ M * val bs := by
    rw [hv0]
    have h1 := val_lt hcsw
    have hbl := HEB.out
    have h3 := full_ge (us := bs) hwb HFB.out (n + 1) (by omega)
    have h2 := mul_le_l (a := 4294967296 ^ (n + 1)) (b := val bs) (c := 4294967296 ^ M) (Int.le_of_lt (pow_pos' _)) h3
    rw [← Int.pow_add, show M + (n + 1) = cs.length by have := HM.out; omega] at h2
    omega
  have HBG := Lib.hid (show bg < g by omega)
  clear hpart hown' hgrow hnum hlimb hL hLc hV hrow hbg
  go_loopw [9] (fun i wr => ∃ (k : Nat) (zs qs : List Int), k ≤ M ∧ i = .int .i64 ((k : Int) - 1) ∧ zs.length = L ∧ Wf zs ∧ Part wr g cap zs ∧ Blk wr w3.heap.size (List.replicate k 0 ++ qs) ∧ qs.length + k = M ∧ Wf qs ∧
      val zs < 4294967296 ^ k * val bs ∧ val cs = val zs + val bs * (4294967296 ^ k * val qs) ∧ Lim wr (some ⟨bg, bo, none⟩) bs ∧ Below w.heap.size w wr) (fun i _ => (intOf i + 1).toNat)
  case atStart =>
    refine ⟨M, cs ++ [0], [], Nat.le_refl _, by simp, HL.out, hwz0, hpart0, by simpa using hblk0, by simp, Wf.nil, hvstart, by rw [hv0]; simp [val], hlim0, hw4⟩
  case round =>
    obtain ⟨k, zs, qs, hk, rfl, hzl, hzw, hpart, hblk, hql, hqw, hlt, hval, hlim, hb⟩ := hrel
    have hsz := hb.size
    have hM := HM.out
    have hLc := HLC.out
    clear hpart0 hblk0 hlim0 hw4 hvstart hwz0 hv0 hw3 hB2
    by_cases hgo : 0 < k
    · obtain ⟨j, rfl⟩ : ∃ j, k = j + 1 := ⟨k - 1, by omega⟩
      have hji : (((j + 1 : Nat) : Int) - 1) = (j : Int) := by omega
      rw [hji]
      have hcapL := hpart.le
      have hVn : 0 ≤ val bs := by omega
      obtain ⟨hU, _⟩ := long_step (zs := zs) (ls := List.replicate (bs.length + 1) 0) (i := j) (t := bs.length) (q := 0) (V := val bs) hzw (Wf.zeros _) (by simp) (by omega) hVn hV1 hlt
      have hcy : ∀ i, i < bs.length → wr.cell? ⟨bg, bo + i, none⟩ = some (.int .u32 (bs.getD i 0)) := by
        rcases hlim with e | ⟨b', o', e, hc⟩
        · rw [e]; intro i h; simp at h
        · cases e; exact hc
      have hbgg : bg ≠ g := by
        have := HBG.out
        omega
      have hdiv := divide_any (g := g) (cap := cap) (capp := cap - j) (i := j) (bg := bg) (bo := bo) (capb := capb1) (zs := zs) (ys := bs) (w := wr) n hpart hzw hwb HEB.out (by omega) (by omega) hcy hbgg HTOP.out hU
      have s1 : (0 : Int) ≤ (j : Int) := by omega
      have s2 : (j : Int) + (bs.length : Int) + 1 ≤ (cap : Int) := by omega
      have s3 : (j : Int) < (M : Int) := by omega
      have HK := Lib.hid hk
      have HZL := Lib.hid hzl
      have HQL := Lib.hid hql
      have HLT := Lib.hid hlt
      have HVAL := Lib.hid hval
      clear hk hzl hql hlt hval hLc hM hcy hgo
      go_wp2_with fail
      rw [show j + bs.length + 1 - j = bs.length + 1 from by omega]
      refine hdiv.mono ?_
      rintro e w5 ⟨q, ls, rfl, q0, q1, hll, hlw, hp5, hvl, hvlt, hg5⟩
      have hne : w3.heap.size ≠ g := by omega
      have hblk5 := hblk.grown hg5 (fun e => hne (Option.some.inj e))
      have hlim5 := Lim.grown hlim hg5 (fun a e => by cases e; intro e2; exact hbgg (Option.some.inj e2))
      have hb5 : Below w.heap.size w w5 := hb.grown hg5 hsz (fun k hk => by cases hk; omega)
      have hlz : (List.replicate (j + 1) 0 ++ qs).length = M := by rw [List.length_append, List.length_replicate]; have := HQL.out; omega
      have hcell := hblk5.cell j (by omega)
      have hfree := hblk5.free j
      have hset := hblk5.set j q
      rw [set_front] at hset
      have hzl := HZL.out
      obtain ⟨_, hst⟩ := long_step (zs := zs) (ls := ls) (i := j) (t := bs.length) (q := q) (V := val bs) hzw hlw hll (by have := HLC.out; have := HM.out; have := HK.out; omega) hVn hV1 HLT.out
      obtain ⟨st1, st2⟩ := hst hvl hvlt
      have hpl := putAt_length zs ls j (by rw [hll, hzl]; have := HLC.out; have := HM.out; have := HK.out; omega)
      have fin : ∃ (k' : Nat) (zs' qs' : List Int), k' ≤ M ∧ Value.int .i64 ((j : Int) - 1) = .int .i64 ((k' : Int) - 1) ∧ zs'.length = L ∧ Wf zs' ∧ Part (w5.setCell ⟨w3.heap.size, j, none⟩ (.int .u32 q)) g cap zs' ∧ Blk (w5.setCell ⟨w3.heap.size, j, none⟩ (.int .u32 q)) w3.heap.size (List.replicate k' 0 ++ qs') ∧ qs'.length + k' = M ∧ Wf qs' ∧
          val zs' < 4294967296 ^ k' * val bs ∧ val cs = val zs' + val bs * (4294967296 ^ k' * val qs') ∧ Lim (w5.setCell ⟨w3.heap.size, j, none⟩ (.int .u32 q)) (some ⟨bg, bo, none⟩) bs ∧ Below w.heap.size w (w5.setCell ⟨w3.heap.size, j, none⟩ (.int .u32 q)) := by
        have hO : Only w3.heap.size w5 (w5.setCell ⟨w3.heap.size, j, none⟩ (.int .u32 q)) := Only.set _ _ _ _
        refine ⟨j, putAt zs j ls, q :: qs, by have := HK.out; omega, rfl, hpl.trans hzl, putAt_wf _ hzw hlw, hp5.far (p := ⟨w3.heap.size, j, none⟩) (Ne.symm hne) _, hset, by rw [List.length_cons]; have := HQL.out; omega, Wf.cons ⟨q0, q1⟩ hqw, st2, ?_, Lim.grown hlim5 hO.grown (fun a e => by cases e; intro e2; have e3 : bg = w3.heap.size := Option.some.inj e2; have := HBG.out; omega), hb5.setCell (p := ⟨w3.heap.size, j, none⟩) (by simp; omega) _⟩
        rw [HVAL.out, st1]
        simp only [val]
        rw [Int.pow_succ]
        exact long_alg _ _ _ _ _
      have FIN := Lib.hid fin
      clear fin hset hp5 hblk5 hlim5 hb5 hg5 hvl hvlt st1 st2 hst hpl hlz hdiv hU
      go_wp2
      go_roundw
      case rel => exact FIN.out
      case measure => simp [intOf]
    · obtain rfl : k = 0 := by omega
      have hji : (((0 : Nat) : Int) - 1) = -1 := by omega
      rw [hji]
      rw [List.replicate_zero, List.nil_append] at hblk
      rw [Int.pow_zero, Int.one_mul] at hlt hval
      rw [HQ2.out, HV.out] at hval
      rw [HV.out] at hlt
      have hz0 := val_nonneg hzw
      obtain ⟨e1, e2⟩ := long_end (A := val xs) (B := val ys) (Q := val qs) (R := val zs) (s := 2 ^ s) (two_pos s) hval hz0 hlt
      have hql' : qs.length = M := by omega
      have Aq : Arg wr (.slice (some ⟨w3.heap.size, 0, none⟩) M M) qs (some ⟨w3.heap.size, 0, none⟩) M := ⟨by rw [hql'], hblk.lim, by omega, hqw⟩
      have Az : Arg wr (.slice (some ⟨g, 0, none⟩) (cs.length + 1) cap) zs (some ⟨g, 0, none⟩) cap := ⟨by rw [hzl, hLc], hpart.lim, hpart.le, hzw⟩
      have E1 := Lib.hid e1
      have E2 := Lib.hid e2
      have hzl2 : zs.length ≤ xs.length + 2 := by omega
      have HX := Lib.hid (show M ≤ xs.length + 2 by omega)
      clear hpart hblk hlt hval hlim e1 e2 hz0 hV0
      go_wp2_with fail
      refine (trim_res Aq (by omega)).mono ?_
      rintro e w6 ⟨r6, l6, rfl, q6, n6, hb6⟩
      have Az6 := Az.later hb6
      have hs6 := hb6.size
      go_wp2_with fail
      refine (shr_any s Az6 (by omega) (by omega) (by omega)).mono ?_
      rintro e w7 ⟨r7, l7, rfl, q7, n7, hb7⟩
      have q6' := q6.later hb7
      rw [Int.toNat_natCast] at q7
      have hB7 : Below w.heap.size w w7 := (hb.trans (hb6.mono hsz)).trans (hb7.mono (by omega))
      have hX := HX.out
      go_wp2_with fail
      go_ret2
      exact ⟨r6, r7, rfl, hB7, ⟨l6, ⟨q6'.num.mono hsz, q6'.wf, q6'.full, q6'.eq.trans E1.out⟩, by omega⟩, ⟨l7, ⟨q7.num.mono (by omega), q7.wf, q7.full, q7.eq.trans E2.out⟩, by omega⟩⟩
end
section
open Go.RowKit
set_option linter.unusedVariables false
set_option linter.unusedSimpArgs false
theorem full_len {zs : List Int} {m : Nat} (hw : Wf zs) (hf : trimN zs zs.length = zs.length) (h : val zs < 4294967296 ^ m) : zs.length ≤ m := by
  rcases Nat.lt_or_ge m zs.length with k | k
  · exfalso
    have h1 := full_ge hw hf (zs.length - 1) (by omega)
    have h2 : (4294967296 : Int) ^ m ≤ 4294967296 ^ (zs.length - 1) := by rw [pow_limb, pow_limb]; exact two_mono (by omega)
    omega
  · exact k
theorem Res.lenLe {base : Nat} {w : World} {u : Value} {zs xs : List Int} {n : Int} (h : Res base w u zs n) (hx : Wf xs) (hle : n ≤ val xs) : zs.length ≤ xs.length := by
  have := val_lt hx
  exact full_len h.wf h.full (by rw [h.eq]; omega)
theorem Res.nil (base : Nat) (w : World) : Res base w (.slice none 0 0) [] 0 := ⟨⟨rfl, .inl ⟨rfl, rfl⟩⟩, Wf.nil, rfl, rfl⟩
theorem ediv_le {a b : Int} (ha : 0 ≤ a) (hb : 0 < b) : a / b ≤ a := Int.ediv_le_self b ha
theorem emod_le {a b : Int} (ha : 0 ≤ a) (hb : 0 < b) : a % b ≤ a := by
  have h1 := Int.emod_add_mul_ediv a b
  have h2 := Int.mul_nonneg (show 0 ≤ b by omega) (Int.ediv_nonneg ha (show 0 ≤ b by omega))
  omega
theorem val_zero {xs : List Int} (h : Wf xs) : val xs = 0 ↔ trimN xs xs.length = 0 := by
  constructor
  · intro h0
    rcases Nat.eq_zero_or_pos (trimN xs xs.length) with k | k
    · exact k
    · exfalso
      have h1 := full_ge h.trim (trim_full xs) (trimN xs xs.length - 1) (by rw [trim_length]; omega)
      rw [val_trim] at h1
      have := pow_pos' (trimN xs xs.length - 1)
      omega
  · intro h0
    rw [← val_trim xs]
    unfold trim
    rw [h0]
    rfl
set_option maxRecDepth 100000 in
set_option maxHeartbeats 1000000 in
theorem div_any {u v : Value} {xs ys : List Int} {a b : Option Addr} {capa capb : Nat} {w : World} (h1 : Arg w u xs a capa) (h2 : Arg w v ys b capb) (hx : xs.length ≤ 134217728) (hy : ys.length ≤ 134217728) (h0 : 0 < val ys) :
    Calls Tryz.prog 122 #[u, v] w fun e w' => ∃ r t, e = .returned (.tuple #[r, t, .int .i64 0]) ∧ Below w.heap.size w w' ∧ (∃ zs, Res w.heap.size w' r zs (val xs / val ys) ∧ zs.length ≤ xs.length) ∧
      (∃ zs, Res w.heap.size w' t zs (val xs % val ys) ∧ zs.length ≤ xs.length ∧ zs.length ≤ ys.length) := by
  have hc := count_any h2 (by omega)
  have hx0 := val_nonneg h1.wf
  have hq := ediv_le hx0 h0
  have hr := emod_le hx0 h0
  have hr2 := Int.emod_lt_of_pos (val xs) h0
  obtain ⟨t, ht⟩ : ∃ t, trimN ys ys.length = t := ⟨_, rfl⟩
  have htp : t ≠ 0 := by
    intro e
    have := (val_zero h2.wf).2 (ht.trans e)
    omega
  rw [ht] at hc
  have hd0 : ((t : Int) == 0) = false := by simp; omega
  have HQ := Lib.hid hq
  have HR := Lib.hid hr
  have HR2 := Lib.hid hr2
  clear hq hr hr2
  by_cases ht1 : t = 1
  · subst ht1
    have hd1 : (((1 : Nat) : Int) == 1) = true := by decide
    have hv1 := val_take_ge ys 1 (by omega)
    rw [val_take_succ] at hv1
    simp only [List.take_zero, val, Int.pow_zero, Int.one_mul, Int.zero_add] at hv1
    have hb := h2.wf.getD 0
    obtain ⟨bx, hbx⟩ : ∃ bx, ys.getD 0 0 = bx := ⟨_, rfl⟩
    rw [hbx] at hv1 hb
    have hl1 := trim_le ys
    rw [ht] at hl1
    obtain ⟨rfl, ly, hle, wy⟩ := h2
    rcases ly with rfl | ⟨bb, off, rfl, hcell⟩
    · simp at hl1
    have hc0 := hcell 0 (by omega)
    rw [hbx, Nat.add_zero] at hc0
    have hlt : (0 : Int) < (ys.length : Int) := by omega
    have HV := Lib.hid hv1
    have HY := Lib.hid wy
    clear hcell ht hbx hv1 hd0 htp
    go_enter Tryz.func122, Tryz.ntmps122
    go_wp2_with fail
    refine hc.mono ?_
    rintro e w' ⟨rfl, rfl⟩
    clear hc
    go_wp2_with fail
    refine (short1_any bx h1 (by omega) ⟨by rw [HV.out]; exact h0, hb.2⟩).mono ?_
    rintro e w2 ⟨r2, rfl, z2, q2, n2, hb2⟩
    have hm0 : 0 ≤ val xs % bx := Int.emod_nonneg _ (by rw [HV.out]; omega)
    have hm1 : val xs % bx < 18446744073709551616 := by have := HR2.out; rw [← HV.out] at this; omega
    have hwm : IntKind.u64.wrap (val xs % bx) = val xs % bx := wrap_u64 hm0 hm1
    go_wp2_with fail
    refine (ofN_any (val xs % bx) _ hm0 hm1).mono ?_
    rintro e w3 ⟨r3, z3, rfl, q3, n3, hb3⟩
    have hs2 := hb2.size
    have q2' := q2.later hb3
    have hB : Below w.heap.size w w3 := hb2.trans (hb3.mono hs2)
    rw [HV.out] at q2' q3
    have l2 := q3.lenLe h1.wf HR.out
    have l3 := q3.lenLe HY.out (Int.le_of_lt HR2.out)
    go_wp2_with fail
    go_ret3
    exact ⟨r2, r3, rfl, hB, ⟨z2, q2', n2⟩, ⟨z3, ⟨q3.num.mono hs2, q3.wf, q3.full, q3.eq⟩, l2, l3⟩⟩
  · have hd1 : ((t : Int) == 1) = false := by simp; omega
    have hcmp := cmp_res h1 h2 (by omega) (by omega)
    by_cases hlt : val xs < val ys
    · rw [sign_lt hlt] at hcmp
      have hn : decide ((-1 : Int) < 0) = true := by decide
      go_enter Tryz.func122, Tryz.ntmps122
      go_wp2_with fail
      refine hc.mono ?_
      rintro e w' ⟨rfl, rfl⟩
      clear hc
      go_wp2_with fail
      refine hcmp.mono ?_
      rintro e w2 ⟨rfl, hb2⟩
      clear hcmp
      have A1 := h1.later hb2
      have hs2 := hb2.size
      go_wp2_with fail
      refine (trim_res A1 (by omega)).mono ?_
      rintro e w3 ⟨r3, z3, rfl, q3, n3, hb3⟩
      have hB : Below w.heap.size w w3 := hb2.trans (hb3.mono hs2)
      have e1 : val xs / val ys = 0 := Int.ediv_eq_zero_of_lt hx0 hlt
      have e2 : val xs % val ys = val xs := Int.emod_eq_of_lt hx0 hlt
      have l3 := q3.lenLe h2.wf (Int.le_of_lt hlt)
      have E1 := Lib.hid e1
      have E2 := Lib.hid e2
      clear e1 e2
      go_wp2_with fail
      go_ret3
      exact ⟨_, r3, rfl, hB, ⟨[], by rw [E1.out]; exact Res.nil _ _, by simp⟩, ⟨z3, ⟨q3.num.mono hs2, q3.wf, q3.full, q3.eq.trans E2.out.symm⟩, n3, l3⟩⟩
    · have hn : decide (sign (val xs) (val ys) < 0) = false := decide_eq_false (by unfold sign; rw [if_neg hlt]; split <;> omega)
      go_enter Tryz.func122, Tryz.ntmps122
      go_wp2_with fail
      refine hc.mono ?_
      rintro e w' ⟨rfl, rfl⟩
      clear hc
      go_wp2_with fail
      refine hcmp.mono ?_
      rintro e w2 ⟨rfl, hb2⟩
      clear hcmp
      have A1 := h1.later hb2
      have A2 := h2.later hb2
      have hs2 := hb2.size
      go_wp2_with fail
      refine (long_any A1 A2 (by omega) (by omega) (by omega) (by omega)).mono ?_
      rintro e w3 ⟨r3, t3, rfl, hb3, ⟨z3, q3, _⟩, ⟨z4, q4, _⟩⟩
      have hB : Below w.heap.size w w3 := hb2.trans (hb3.mono hs2)
      have l1 := q3.lenLe h1.wf HQ.out
      have l2 := q4.lenLe h1.wf HR.out
      have l3 := q4.lenLe h2.wf (Int.le_of_lt HR2.out)
      go_wp2_with fail
      go_ret3
      exact ⟨r3, t3, rfl, hB, ⟨z3, ⟨q3.num.mono hs2, q3.wf, q3.full, q3.eq⟩, l1⟩, ⟨z4, ⟨q4.num.mono hs2, q4.wf, q4.full, q4.eq⟩, l2, l3⟩⟩
end
section
open Go.RowKit
set_option linter.unusedVariables false
set_option linter.unusedSimpArgs false
set_option maxRecDepth 100000 in
set_option maxHeartbeats 1000000 in
theorem shortGcd_any (x y : Int) (w : World) (hx : 0 ≤ x ∧ x < 18446744073709551616) (hy : 0 ≤ y ∧ y < 18446744073709551616) :
    Calls Tryz.prog 137 #[.int .u64 x, .int .u64 y] w fun e w' => e = .returned (.int .u64 (Int.gcd x y : Int)) ∧ Below w.heap.size w w' := by
  obtain ⟨hx0, hx1⟩ := hx
  obtain ⟨hy0, hy1⟩ := hy
  go_enter Tryz.func137, Tryz.ntmps137
  go_wp2
  go_loopw [0, 1] (fun p q wr => ∃ P Q : Int, p = .int .u64 P ∧ q = .int .u64 Q ∧ 0 ≤ P ∧ P < 18446744073709551616 ∧ 0 ≤ Q ∧ Q < 18446744073709551616 ∧ Int.gcd P Q = Int.gcd x y ∧ Below w.heap.size w wr) (fun _ q _ => (intOf q).toNat)
  case atStart => exact ⟨x, y, rfl, rfl, hx0, hx1, hy0, hy1, rfl, Below.refl _ _⟩
  case round =>
    obtain ⟨P, Q, rfl, rfl, hP0, hP1, hQ0, hQ1, hg, hb⟩ := hrel
    have hsz := hb.size
    have HG := Lib.hid hg
    clear hg
    by_cases hgo : 0 < Q
    · obtain ⟨m, hm⟩ : ∃ m, P % Q = m := ⟨_, rfl⟩
      have htm : Int.tmod P Q = m := by rw [Int.tmod_eq_emod_of_nonneg hP0, hm]
      have hm0 : 0 ≤ m := by rw [← hm]; exact Int.emod_nonneg _ (by omega)
      have hm1 : m < Q := by rw [← hm]; exact Int.emod_lt_of_pos _ hgo
      have hwm : IntKind.u64.wrap m = m := wrap_u64 (by omega) (by omega)
      have hq0 : Q ≠ 0 := by omega
      have hg2 : Int.gcd Q m = Int.gcd x y := by rw [← hm, gcd_step]; exact HG.out
      have HG2 := Lib.hid hg2
      clear hg2 hm
      go_wp2
      go_quiet (fail)
      go_wp2
      go_roundw
      case rel => exact ⟨Q, m, rfl, rfl, hQ0, hQ1, hm0, by omega, HG2.out, ⟨hb.os, hb.tape, hb.output, hb.size, hb.block⟩⟩
      case measure => simp [intOf]; omega
    · obtain rfl : Q = 0 := by omega
      have hfin : P = (Int.gcd x y : Int) := by rw [← HG.out]; exact (gcd_end hP0).symm
      have HF := Lib.hid hfin
      clear hfin
      go_wp2
      go_ret
      exact ⟨by rw [← HF.out]; rfl, hb⟩
/-- loops over pairs: how much is left -/
def leftN (w : World) (v : Value) : Nat := (val (readV w v)).toNat
theorem Arg.left {w : World} {u : Value} {xs : List Int} {a : Option Addr} {cap : Nat} (h : Arg w u xs a cap) : leftN w u = (val xs).toNat := by unfold leftN; rw [h.read]
theorem bits_pos {xs : List Int} (h : Wf xs) : 0 < val xs ↔ 0 < bitsN xs := by
  rcases bitsN_is h with ⟨h1, h2⟩ | ⟨j, h1, h2, _⟩
  · omega
  · have := two_pos j; omega
theorem uint_gen {u : Value} {xs : List Int} {a : Option Addr} {capa : Nat} {w : World} (h1 : Arg w u xs a capa) (hx : xs.length ≤ 35184372088832) :
    Calls Tryz.prog 136 #[u] w fun e w' => (∃ X : Int, e = .returned (.tuple #[.int .u64 X, .bool (decide (val xs < 18446744073709551616))])) ∧ w = w' := by
  by_cases h : val xs < 18446744073709551616
  · rw [decide_eq_true h]
    exact (uint_small h1 hx h).mono fun e w' ⟨he, hw⟩ => ⟨⟨_, he⟩, hw⟩
  · rw [decide_eq_false h]
    exact (uint_big h1 hx (by omega)).mono fun e w' ⟨he, hw⟩ => ⟨⟨_, he⟩, hw⟩
set_option maxRecDepth 100000 in
set_option maxHeartbeats 2000000 in
theorem gcd_any {u v : Value} {xs ys : List Int} {a b : Option Addr} {capa capb : Nat} {w : World} (h1 : Arg w u xs a capa) (h2 : Arg w v ys b capb) (hx : xs.length ≤ 134217728) (hy : ys.length ≤ 134217728) :
    Calls Tryz.prog 119 #[u, v] w fun e w' => ∃ r zs, e = .returned r ∧ Res w.heap.size w' r zs (Int.gcd (val xs) (val ys) : Int) ∧ zs.length ≤ max xs.length ys.length + 2 ∧ Below w.heap.size w w' := by
  obtain ⟨m, hm⟩ : ∃ m, max xs.length ys.length = m := ⟨_, rfl⟩
  have hm2 : m ≤ 134217728 := by omega
  have hmx : xs.length ≤ m := by omega
  have hmy : ys.length ≤ m := by omega
  rw [hm]
  clear hm hx hy
  go_enter Tryz.func119, Tryz.ntmps119
  go_wp2
  go_loopw [0, 1, 5, 6, 7, 8, 9, 10, 11] (fun p q _ _ _ _ _ _ _ wr => ∃ (p' q' : Value) (us vs : List Int) (ad bd : Option Addr) (cp cq : Nat), p' = p ∧ q' = q ∧ Arg wr p' us ad cp ∧ Arg wr q' vs bd cq ∧ us.length ≤ m ∧ vs.length ≤ m ∧ Int.gcd (val us) (val vs) = Int.gcd (val xs) (val ys) ∧ Below w.heap.size w wr) (fun _ q _ _ _ _ _ _ _ wr => leftN wr q)
  case atStart => exact ⟨u, v, xs, ys, a, b, capa, capb, rfl, rfl, h1, h2, hmx, hmy, rfl, Below.refl _ _⟩
  case round =>
    obtain ⟨p, q, us, vs, ad, bd, cp, cq, rfl, rfl, A1, A2, hu, hv, hg, hb⟩ := hrel
    have hsz := hb.size
    have HG := Lib.hid hg
    clear hg h1 h2
    have hbits := bits_res A2 (by omega) (bitsN_is A2.wf)
    obtain ⟨nb, hnb⟩ : ∃ nb, bitsN vs = nb := ⟨_, rfl⟩
    have hbp := bits_pos A2.wf
    rw [hnb] at hbits hbp
    have hu0 := val_nonneg A1.wf
    have hv0 := val_nonneg A2.wf
    clear hnb
    by_cases hgo : 0 < nb
    · have hpos := hbp.2 hgo
      have hgo2 : (0 : Int) < (nb : Int) := by omega
      by_cases hs : val us < 18446744073709551616 ∧ val vs < 18446744073709551616
      · obtain ⟨hs1, hs2⟩ := hs
        go_wp2_with fail
        refine hbits.mono ?_
        rintro e w' ⟨rfl, rfl⟩
        clear hbits
        go_wp2_with fail
        refine (uint_small A1 (by omega) hs1).mono ?_
        rintro e w' ⟨rfl, rfl⟩
        go_wp2_with fail
        refine (uint_small A2 (by omega) hs2).mono ?_
        rintro e w' ⟨rfl, rfl⟩
        go_wp2_with fail
        refine (shortGcd_any (val us) (val vs) _ ⟨hu0, hs1⟩ ⟨hv0, hs2⟩).mono ?_
        rintro e w2 ⟨rfl, hb2⟩
        have hgl : (Int.gcd (val us) (val vs) : Int) < 18446744073709551616 := by
          have h3 : Int.gcd (val us) (val vs) ∣ (val vs).natAbs := Int.gcd_dvd_natAbs_right _ _
          have h4 := Nat.le_of_dvd (by omega) h3
          omega
        have hs3 := hb2.size
        go_wp2_with fail
        refine (ofN_any _ _ (Int.natCast_nonneg _) hgl).mono ?_
        rintro e w3 ⟨r3, z3, rfl, q3, n3, hb3⟩
        have hB := (hb.trans (hb2.mono hsz)).trans (hb3.mono (by omega))
        have q3e := q3.eq
        rw [HG.out] at q3e
        have HE := Lib.hid q3e
        clear q3e hgl hs1 hs2 hgo2 hpos hbp
        go_wp2_with fail
        go_ret
        exact ⟨r3, z3, rfl, ⟨q3.num.mono (by omega), q3.wf, q3.full, HE.out⟩, by omega, hB⟩
      · by_cases hs1 : val us < 18446744073709551616
        · have hs2 : ¬ val vs < 18446744073709551616 := fun h => hs ⟨hs1, h⟩
          have d1 : decide (val us < 18446744073709551616) = true := decide_eq_true hs1
          have d2 : decide (val vs < 18446744073709551616) = false := decide_eq_false hs2
          have u1 := uint_gen A1 (by omega)
          have u2 := uint_gen A2 (by omega)
          rw [d1] at u1
          rw [d2] at u2
          clear d1 d2
          go_wp2_with fail
          refine hbits.mono ?_
          rintro e w' ⟨rfl, rfl⟩
          clear hbits
          go_wp2_with fail
          refine u1.mono ?_
          rintro e w' ⟨⟨X, rfl⟩, rfl⟩
          go_wp2_with fail
          refine u2.mono ?_
          rintro e w' ⟨⟨Y, rfl⟩, rfl⟩
          go_wp2_with fail
          refine (div_any A1 A2 (by omega) (by omega) hpos).mono ?_
          rintro e w2 ⟨r2, s2, rfl, hb2, _, ⟨z2, q2, n2, n2'⟩⟩
          obtain ⟨ad2, cap2, A3⟩ := q2.arg
          have A2' := A2.later hb2
          have hB2 := hb.trans (hb2.mono hsz)
          have hl2 := A3.left
          have hleft := A2.left
          have hr1 := Int.emod_lt_of_pos (val us) hpos
          have hr2 := Int.emod_nonneg (val us) (show val vs ≠ 0 by omega)
          have hm3 : leftN w2 s2 < leftN wr q := by rw [hleft, hl2, q2.eq]; omega
          have hg3 : Int.gcd (val vs) (val z2) = Int.gcd (val xs) (val ys) := by rw [q2.eq, gcd_step]; exact HG.out
          have HG3 := Lib.hid hg3
          have HM3 := Lib.hid hm3
          clear hg3 hm3 hr1 hr2 hl2 hleft q2 A1 A2 hb2 hpos hbp hs
          go_wp2
          go_roundw
          case rel => exact ⟨_, _, vs, z2, bd, ad2, cq, cap2, rfl, rfl, A2', A3, hv, by omega, HG3.out, hB2⟩
          case measure => exact HM3.out
        · have d1 : decide (val us < 18446744073709551616) = false := decide_eq_false hs1
          have u1 := uint_gen A1 (by omega)
          have u2 := uint_gen A2 (by omega)
          rw [d1] at u1
          generalize decide (val vs < 18446744073709551616) = f2 at u2
          clear d1
          go_wp2_with fail
          refine hbits.mono ?_
          rintro e w' ⟨rfl, rfl⟩
          clear hbits
          go_wp2_with fail
          refine u1.mono ?_
          rintro e w' ⟨⟨X, rfl⟩, rfl⟩
          go_wp2_with fail
          refine u2.mono ?_
          rintro e w' ⟨⟨Y, rfl⟩, rfl⟩
          go_wp2_with fail
          refine (div_any A1 A2 (by omega) (by omega) hpos).mono ?_
          rintro e w2 ⟨r2, s2, rfl, hb2, _, ⟨z2, q2, n2, n2'⟩⟩
          obtain ⟨ad2, cap2, A3⟩ := q2.arg
          have A2' := A2.later hb2
          have hB2 := hb.trans (hb2.mono hsz)
          have hl2 := A3.left
          have hleft := A2.left
          have hr1 := Int.emod_lt_of_pos (val us) hpos
          have hr2 := Int.emod_nonneg (val us) (show val vs ≠ 0 by omega)
          have hm3 : leftN w2 s2 < leftN wr q := by rw [hleft, hl2, q2.eq]; omega
          have hg3 : Int.gcd (val vs) (val z2) = Int.gcd (val xs) (val ys) := by rw [q2.eq, gcd_step]; exact HG.out
          have HG3 := Lib.hid hg3
          have HM3 := Lib.hid hm3
          clear hg3 hm3 hr1 hr2 hl2 hleft q2 A1 A2 hb2 hpos hbp hs
          go_wp2
          go_roundw
          case rel => exact ⟨_, _, vs, z2, bd, ad2, cq, cap2, rfl, rfl, A2', A3, hv, by omega, HG3.out, hB2⟩
          case measure => exact HM3.out
    · have h0 : nb = 0 := by omega
      have hvz : val vs = 0 := by omega
      have hfin : val us = (Int.gcd (val xs) (val ys) : Int) := by rw [← HG.out, hvz]; exact (gcd_end hu0).symm
      have HF := Lib.hid hfin
      subst h0
      have hd : decide ((0 : Int) < ((0 : Nat) : Int)) = false := by decide
      clear hfin hvz hbp
      go_wp2_with fail
      refine hbits.mono ?_
      rintro e w' ⟨rfl, rfl⟩
      clear hbits
      go_wp2_with fail
      refine (trim_res A1 (by omega)).mono ?_
      rintro e w3 ⟨r3, z3, rfl, q3, n3, hb3⟩
      have hB := hb.trans (hb3.mono hsz)
      have HE := Lib.hid (q3.eq.trans HF.out)
      go_wp2_with fail
      go_ret
      exact ⟨r3, z3, rfl, ⟨q3.num.mono hsz, q3.wf, q3.full, HE.out⟩, by omega, hB⟩
end
section
open Go.RowKit
set_option linter.unusedVariables false
set_option linter.unusedSimpArgs false
/-- three cells -/
structure E3 where
  a : Value
  b : Value
  c : Value
def E3.agg (e : E3) : Value := .agg #[e.a, e.b, e.c]
def flat3 : List E3 → List Value
  | [] => []
  | e :: r => e.a :: e.b :: e.c :: flat3 r
theorem flat3_append (a b : List E3) : flat3 (a ++ b) = flat3 a ++ flat3 b := by
  induction a with
  | nil => rfl
  | cons e r ih => simp only [List.cons_append, flat3, ih]
theorem flat3_at {es : List E3} {i : Nat} {e : E3} (h : es[i]? = some e) : (flat3 es)[i * 3]? = some e.a ∧ (flat3 es)[i * 3 + 1]? = some e.b ∧ (flat3 es)[i * 3 + 2]? = some e.c := by
  induction es generalizing i with
  | nil => simp at h
  | cons d r ih =>
    cases i with
    | zero =>
      simp only [List.getElem?_cons_zero, Option.some.injEq] at h
      subst h
      exact ⟨rfl, rfl, rfl⟩
    | succ i =>
      have h2 := ih (i := i) (by simpa using h)
      rw [show (i + 1) * 3 = i * 3 + 1 + 1 + 1 by omega]
      simp only [flat3]
      exact h2
/-- where es lie -/
def CellsE (w : World) (b o : Nat) (es : List E3) : Prop := ∀ i e, es[i]? = some e → w.cell? ⟨b, o + i * 3, none⟩ = some e.a ∧ w.cell? ⟨b, o + i * 3 + 1, none⟩ = some e.b ∧ w.cell? ⟨b, o + i * 3 + 2, none⟩ = some e.c
/-- a row of structs, of the call's own -/
def OwnE (base : Nat) (T : TypeId) (w : World) (v : Value) (es : List E3) : Prop := w.ownsRow base T 3 v es.length (flat3 es)
theorem OwnE.nil (base : Nat) (T : TypeId) (w : World) : OwnE base T w (.slice none 0 0) [] := ⟨rfl, .inl ⟨rfl, rfl⟩⟩
theorem OwnE.lt {base : Nat} {T : TypeId} {w : World} {v : Value} {es : List E3} (h : OwnE base T w v es) : ∀ k, v.ownBlock = some k → base ≤ k ∧ k < w.heap.size := World.ownsRow.lt h
theorem OwnE.same {base : Nat} {T : TypeId} {w w' : World} {v : Value} {es : List E3} (h : OwnE base T w v es) (hk : ∀ k, v.ownBlock = some k → w'.heap[k]? = w.heap[k]?) : OwnE base T w' v es := by
  obtain ⟨h1, h2⟩ := h
  refine ⟨h1, ?_⟩
  rcases h2 with h2 | ⟨g, cap, cur, rfl, hg0, hg, hc, hm, hs, ht⟩
  · exact .inl h2
  · exact .inr ⟨g, cap, cur, rfl, hg0, (hk g rfl).trans hg, hc, hm, hs, ht⟩
theorem OwnE.later {base : Nat} {T : TypeId} {w w' : World} {v : Value} {es : List E3} (h : OwnE base T w v es) (hb : Below w.heap.size w w') : OwnE base T w' v es := h.same fun k hk => hb.block k (h.lt k hk).2
theorem OwnE.mono {base base' : Nat} {T : TypeId} {w : World} {v : Value} {es : List E3} (h : OwnE base T w v es) (hb : base' ≤ base) : OwnE base' T w v es := by
  obtain ⟨h1, h2⟩ := h
  refine ⟨h1, ?_⟩
  rcases h2 with h2 | ⟨g, cap, cur, rfl, hg0, hr⟩
  · exact .inl h2
  · exact .inr ⟨g, cap, cur, rfl, Nat.le_trans hb hg0, hr⟩
theorem OwnE.row {base : Nat} {T : TypeId} {w : World} {v : Value} {es : List E3} (h : OwnE base T w v es) : (v = .slice none 0 0 ∧ es = []) ∨ ∃ g cap, v = .slice (some ⟨g, 0, none⟩) es.length cap ∧ base ≤ g ∧ g < w.heap.size ∧ es.length ≤ cap ∧ cap ≤ maxLen ∧ CellsE w g 0 es := by
  obtain ⟨h1, h2⟩ := h
  rcases h2 with ⟨hv, hn⟩ | ⟨g, cap, cur, hv, hb, hg, hc, hm, hs, ht⟩
  · exact .inl ⟨hv, List.eq_nil_of_length_eq_zero hn⟩
  · refine .inr ⟨g, cap, hv, hb, lt_of_block hg, hc, hm, fun i e he => ?_⟩
    have hi : i < es.length := by
      rcases Nat.lt_or_ge i es.length with k | k
      · exact k
      · rw [List.getElem?_eq_none k] at he; cases he
    have hat : ∀ j, j < es.length * 3 → w.cell? ⟨g, j, none⟩ = (flat3 es)[j]? := fun j hj =>
      World.ownsRow.cellAt (w := w) (base := base) (e := T) (size := 3) (g := g) (n := es.length) (cap := cap) (xs := flat3 es) ⟨h1, .inr ⟨g, cap, cur, rfl, hb, hg, hc, hm, hs, ht⟩⟩ j hj
    obtain ⟨f0, f1, f2⟩ := flat3_at he
    simp only [Nat.zero_add]
    exact ⟨(hat _ (by omega)).trans f0, (hat _ (by omega)).trans f1, (hat _ (by omega)).trans f2⟩
theorem CellsE.later {w w' : World} {b o : Nat} {es : List E3} (h : CellsE w b o es) (hb : Below w.heap.size w w') : CellsE w' b o es := fun i e he => by
  obtain ⟨h0, h1, h2⟩ := h i e he
  exact ⟨(hb.cell (World.block_lt_of_cell? w _ h0)).trans h0, (hb.cell (World.block_lt_of_cell? w _ h1)).trans h1, (hb.cell (World.block_lt_of_cell? w _ h2)).trans h2⟩
/-- each struct is what the list says -/
def AllE {α : Type} (P : Value → α → Prop) (es : List E3) (L : List α) : Prop := es.length = L.length ∧ ∀ (i : Nat) (e : E3) (x : α), es[i]? = some e → L[i]? = some x → P e.agg x
theorem AllE.nil {α : Type} (P : Value → α → Prop) : AllE P [] ([] : List α) := ⟨rfl, fun i e x h => by simp at h⟩
theorem AllE.imp {α : Type} {P Q : Value → α → Prop} {es : List E3} {L : List α} (h : AllE P es L) (k : ∀ v x, x ∈ L → P v x → Q v x) : AllE Q es L := ⟨h.1, fun i e x h1 h2 => k _ _ (List.mem_of_getElem? h2) (h.2 i e x h1 h2)⟩
theorem AllE.snoc {α : Type} {P : Value → α → Prop} {es : List E3} {L : List α} {e : E3} {x : α} (h : AllE P es L) (hx : P e.agg x) : AllE P (es ++ [e]) (L ++ [x]) := by
  refine ⟨by simp [h.1], fun i d y h1 h2 => ?_⟩
  by_cases hlt : i < es.length
  · rw [List.getElem?_append_left hlt] at h1
    rw [List.getElem?_append_left (by rw [← h.1]; exact hlt)] at h2
    exact h.2 i d y h1 h2
  · have hi : i = es.length := by
      rcases Nat.lt_or_ge i (es ++ [e]).length with k | k
      · simp at k; omega
      · rw [List.getElem?_eq_none k] at h1; cases h1
    subst hi
    rw [List.getElem?_append_right (Nat.le_refl _), Nat.sub_self] at h1
    rw [List.getElem?_append_right (by rw [h.1]; exact Nat.le_refl _), h.1, Nat.sub_self] at h2
    simp only [List.getElem?_cons_zero, Option.some.injEq] at h1 h2
    subst h1
    subst h2
    exact hx
theorem AllE.at {α : Type} {P : Value → α → Prop} {es : List E3} {L : List α} (h : AllE P es L) {i : Nat} (hi : i < L.length) : ∃ e x, es[i]? = some e ∧ L[i]? = some x ∧ P e.agg x := by
  have h1 : i < es.length := by rw [h.1]; exact hi
  exact ⟨es[i], L[i], List.getElem?_eq_getElem h1, List.getElem?_eq_getElem hi, h.2 i _ _ (List.getElem?_eq_getElem h1) (List.getElem?_eq_getElem hi)⟩
/-- an argument: a slice of structs -/
structure RowA {α : Type} (P : World → Value → α → Prop) (w : World) (u : Value) (L : List α) (ad : Option Addr) (cap : Nat) : Prop where
  is : u = .slice ad L.length cap
  le : L.length ≤ cap
  els : L = [] ∨ ∃ b o es, ad = some ⟨b, o, none⟩ ∧ CellsE w b o es ∧ AllE (P w) es L
theorem RowA.later {α : Type} {P : World → Value → α → Prop} {w w' : World} {u : Value} {L : List α} {ad : Option Addr} {cap : Nat} (h : RowA P w u L ad cap) (hb : Below w.heap.size w w') (hP : ∀ v x, x ∈ L → P w v x → P w' v x) : RowA P w' u L ad cap := by
  refine ⟨h.is, h.le, ?_⟩
  rcases h.els with e | ⟨b, o, es, e, c, k⟩
  · exact .inl e
  · exact .inr ⟨b, o, es, e, c.later hb, k.imp hP⟩
theorem RowA.at {α : Type} {P : World → Value → α → Prop} {w : World} {u : Value} {L : List α} {ad : Option Addr} {cap : Nat} (h : RowA P w u L ad cap) {i : Nat} (hi : i < L.length) :
    ∃ b o x y z q, ad = some ⟨b, o, none⟩ ∧ L[i]? = some q ∧ w.cell? ⟨b, o + i * 3, none⟩ = some x ∧ w.cell? ⟨b, o + i * 3 + 1, none⟩ = some y ∧ w.cell? ⟨b, o + i * 3 + 2, none⟩ = some z ∧ P w (.agg #[x, y, z]) q := by
  rcases h.els with e | ⟨b, o, es, e, c, k⟩
  · rw [e] at hi; simp at hi
  · obtain ⟨d, q, h1, h2, h3⟩ := k.at hi
    obtain ⟨c0, c1, c2⟩ := c i d h1
    exact ⟨b, o, d.a, d.b, d.c, q, e, h2, c0, c1, c2, h3⟩
/-- a result: a slice of structs in new memory -/
def RowO {α : Type} (base : Nat) (T : TypeId) (P : World → Value → α → Prop) (w : World) (u : Value) (L : List α) : Prop := ∃ es, OwnE base T w u es ∧ AllE (P w) es L
theorem RowO.nil {α : Type} (base : Nat) (T : TypeId) (P : World → Value → α → Prop) (w : World) : RowO base T P w (.slice none 0 0) ([] : List α) := ⟨[], OwnE.nil _ _ _, AllE.nil _⟩
theorem RowO.later {α : Type} {base : Nat} {T : TypeId} {P : World → Value → α → Prop} {w w' : World} {u : Value} {L : List α} (h : RowO base T P w u L) (hb : Below w.heap.size w w') (hP : ∀ v x, P w v x → P w' v x) : RowO base T P w' u L := by
  obtain ⟨es, h1, h2⟩ := h
  exact ⟨es, h1.later hb, h2.imp fun v x _ => hP v x⟩
theorem RowO.mono {α : Type} {base base' : Nat} {T : TypeId} {P Q : World → Value → α → Prop} {w : World} {u : Value} {L : List α} (h : RowO base T P w u L) (hb : base' ≤ base) (hP : ∀ v x, P w v x → Q w v x) : RowO base' T Q w u L := by
  obtain ⟨es, h1, h2⟩ := h
  exact ⟨es, h1.mono hb, h2.imp fun v x _ => hP v x⟩
theorem RowO.arg {α : Type} {base : Nat} {T : TypeId} {P : World → Value → α → Prop} {w : World} {u : Value} {L : List α} (h : RowO base T P w u L) : ∃ ad cap, RowA P w u L ad cap ∧ (ad = none → cap = 0) ∧ cap ≤ maxLen := by
  obtain ⟨es, h1, h2⟩ := h
  rcases h1.row with ⟨rfl, rfl⟩ | ⟨g, cap, rfl, _, _, hc, hm, hcells⟩
  · have e : L = [] := List.eq_nil_of_length_eq_zero h2.1.symm
    subst e
    exact ⟨none, 0, ⟨rfl, Nat.le_refl _, .inl rfl⟩, fun _ => rfl, by unfold maxLen; omega⟩
  · exact ⟨some ⟨g, 0, none⟩, cap, ⟨by rw [h2.1], by rw [← h2.1]; exact hc, .inr ⟨g, 0, es, rfl, hcells, h2⟩⟩, (fun h => by cases h), hm⟩
theorem OwnE.typed {base : Nat} {T : TypeId} {w : World} {v : Value} {es : List E3} (h : OwnE base T w v es) {g : Nat} (hg : v.ownBlock = some g) : ∃ cur, w.heap[g]? = some (.cells cur T (0, 0)) := by
  obtain ⟨_, h2⟩ := h
  rcases h2 with ⟨rfl, _⟩ | ⟨g', cap, cur, rfl, _, hh, _⟩
  · cases hg
  · simp [Value.ownBlock] at hg
    subst hg
    exact ⟨cur, hh⟩
/-- a row of another type is not felt -/
theorem apartV {base base' size n sz m : Nat} {T t : TypeId} {w w' : World} {v u : Value} {ys : List Value} {xs : List Value} {o : Obj} (h : w.ownsRow base T sz v m ys) (hg : (w.alloc o).grownBy w' v.ownBlock) (hT : T ≠ t) (k : w.ownsRow base' t size u n xs) : w'.ownsRow base' t size u n xs := by
  obtain ⟨k1, k2⟩ := k
  refine ⟨k1, ?_⟩
  rcases k2 with k2 | ⟨g, cap, cur, rfl, hg0, hh, hrest⟩
  · exact .inl k2
  · refine .inr ⟨g, cap, cur, rfl, hg0, ?_, hrest⟩
    have hlt := lt_of_block hh
    rw [hg.block g (by rw [World.size_alloc]; omega) (fun e => by
      obtain ⟨_, h2⟩ := h
      rcases h2 with ⟨rfl, _⟩ | ⟨g', cap', cur', rfl, _, hc, _⟩
      · cases e
      · simp only [Value.ownBlock, Option.some.injEq] at e
        subst e
        rw [hh] at hc
        simp only [Option.some.injEq, Obj.cells.injEq] at hc
        exact hT hc.2.1.symm), Below.heap_alloc _ _ _ hlt]
    exact hh
theorem apartE {base base' size n : Nat} {T t : TypeId} {w w' : World} {v u : Value} {es : List E3} {xs : List Value} {o : Obj} (h : OwnE base T w v es) (hg : (w.alloc o).grownBy w' v.ownBlock) (hT : T ≠ t) (k : w.ownsRow base' t size u n xs) : w'.ownsRow base' t size u n xs := apartV h hg hT k
theorem pushE {α : Type} {base : Nat} {T : TypeId} {P : World → Value → α → Prop} {w wr w1 : World} {v v' : Value} {es : List E3} {L : List α} {e : E3} {x : α} {o : Obj} (hb : Below base w wr) (hbase : base ≤ wr.heap.size)
    (hown : OwnE base T wr v es) (hall : AllE (P wr) es L) (hx : P wr e.agg x) (hst : ∀ u y, P wr u y → P w1 u y)
    (hown' : w1.ownsRow base T 3 v' (es.length + 1) (flat3 es ++ [e.a, e.b, e.c])) (hgrow : (wr.alloc o).grownBy w1 v.ownBlock) : RowO base T P w1 v' (L ++ [x]) ∧ Below base w w1 := by
  refine ⟨⟨es ++ [e], ?_, (hall.snoc hx).imp fun u y _ => hst u y⟩, (hb.alloc hbase o).grown hgrow (by simp; omega) (fun k hk => (hown.lt k hk).1)⟩
  unfold OwnE
  rw [List.length_append, flat3_append]
  exact hown'
theorem cell_three_new (w : World) (a b c : Value) (t : TypeId) : ∀ j u, [a, b, c][j]? = some u → (w.alloc (.cells #[a, b, c] t)).cell? ((⟨w.heap.size, 0, none⟩ : Addr).add j) = some u := by
  intro j u hj
  match j, hj with
  | 0, hj => simp at hj; subst hj; simp [Addr.add]
  | 1, hj => simp at hj; subst hj; simp [Addr.add]
  | 2, hj => simp at hj; subst hj; simp [Addr.add]
  | j + 3, hj => simp at hj
/-- append, as one step of a region that draws its order -/
theorem step_append_ownT {P : Program} {ops : Array Oper} {o : Oper} {a : Act} {w : World} {K : Act → World → Prop} {Q : Exit → Act → World → Prop} {E : Prop} (hgd : o.guard = none) (s x : Operand) (t : TypeId)
    (ho : o.op = .call { callee := .builtin .append, args := #[s, x], argTypes := #[t, t] })
    (base : Nat) (e : TypeId) (i : TypeInfo) (z : Value) (size bytes : Nat) (ht : P.underlying t = some (.slice e)) (hi : P.info? e = some i) (hz : i.zero = some z)
    (hsize : i.size = size) (hby : i.bytes = bytes) (hzs : z.cells.size = size) (hsz : 0 < size)
    (v : Value) (n : Nat) (xs : List Value) (hs : a.eval s = v) (hown : w.ownsRow base e size v n xs)
    (ad : Addr) (m c : Nat) (news : List Value) (hx : a.eval x = .slice (some ad) m c) (hl : news.length = m * size) (hnews : ∀ j u, news[j]? = some u → w.cell? (ad.add j) = some u) (h1 : ∀ u ∈ news, u.oneCell' = true)
    (h63 : n + m ≤ maxLen) (hbytes : (n + m) * bytes ≤ 140737488355328) (hbase : base ≤ w.heap.size)
    (h : ∀ v' w', w'.ownsRow base e size v' (n + m) (xs ++ news) → w.grownBy w' v.ownBlock → (v' = .slice none 0 0 ↔ v = .slice none 0 0 ∧ m = 0) → K (a.put o.dst v') w') :
    if Region.wanted o (yielded ops a.tmps) = true then Oper.wp P o a w K Q else E := by
  have hw : Region.wanted o (yielded ops a.tmps) = true := by simp [Region.wanted, hgd]
  rw [if_pos hw]
  exact wp_append_own w s x t ho base e i z size bytes ht hi hz hsize hby hzs hsz v n xs hs hown ad m c news hx hl hnews h1 h63 hbytes hbase h
end
end Go.Proofs.YtooglnhlhgmhdaaGreat
