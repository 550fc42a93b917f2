/-
  Layer 9: broadcasting, slicing and padding, in numbers.
-/
import Derived.Test.YtooglnhlhgmhdaaGreatZ1
import Derived.Test.YtooglnhlhgmhdaaGreatZ2
import Derived.Test.YtooglnhlhgmhdaaGreatZ3
import Derived.Test.YtooglnhlhgmhdaaGreatZ4
import Derived.Test.YtooglnhlhgmhdaaGreatZ5
import Derived.Test.YtooglnhlhgmhdaaGreatZ7
import Derived.Test.YtooglnhlhgmhdaaGreatZ11
import Derived.Test.YtooglnhlhgmhdaaGreatZ12
import Derived.Test.YtooglnhlhgmhdaaGreatZ13
import Derived.WalkKit
import Derived.Test.YtooglnhlhgmhdaaGreatRows
import Derived.BigQuiet
import Derived.Deep.QuietTactic
import Derived.Lib.Hide
import Derived.Lib.Small
import Derived.Lib.Walk
import Derived.Lib.BitFns
import Derived.Maps.AppendAt
import Derived.RangeFuncNested
import Derived.RangeFuncBound
import Derived.RangeFuncCalls
import Derived.RangeFuncLeaves
import Derived.Shelf.Abstract
import Derived.OwnWalkIn
import Derived.TacticsInMore
import Derived.LoopNIn
import Derived.LoopIn
import Derived.RangeFuncBox
import Derived.Deep.RegionHeld3
import Derived.OrdersIn
import Derived.StillTailTactics
import Derived.RangeFuncFrom
import Derived.Laws.EntriesVeiled
import Derived.ProofKit
import Derived.OpenShut
import Derived.JoinedCond
import Derived.Carry
import Derived.Laws.AppendOwnNone
import Derived.Lib.ItoaNum
import Derived.Deep.RegionLaw
import Derived.WalkMore
import Derived.Lib.SmallJoins
import Derived.IntWalk
import Derived.Deep.DeepCutAuto
import Derived.Laws.OwnMore
import Derived.OrdersHeld
import Derived.Deep.RegionHeld
import Derived.ArgAppend
import Derived.Deep.Slices
import Derived.Laws.CopyOwn
import Derived.Lib.SliceRun
namespace Go.Proofs.YtooglnhlhgmhdaaGreat
set_option maxRecDepth 100000
section
open Go.RowKit
set_option linter.unusedVariables false
set_option linter.unusedSimpArgs false
set_option maxRecDepth 100000 in
set_option maxHeartbeats 2000000 in
theorem mayR6_any {u : Value} {xs : List Int} {ad : Option Addr} {cap : Nat} {w : World} (A : ArgS w u xs ad cap) :
    Calls Tryz.prog 55 #[u] w fun e w' => e = .returned (.int .i64 (mayC xs)) ∧ w = w' := by
  have HA := Lib.hid A
  obtain rfl := A.is
  obtain ⟨L, hL⟩ : ∃ L, xs.length = L := ⟨_, rfl⟩
  have HL := Lib.hid hL
  obtain ⟨c, hc⟩ : ∃ c, mayC xs = c := ⟨_, rfl⟩
  have HC := Lib.hid hc
  rw [hL, hc]
  clear A hL hc
  by_cases h4 : 4 < L
  · obtain rfl : c = 14 := by rw [← HC.out]; exact mayC_rank (by rw [HL.out]; exact h4)
    have h4I : (4 : Int) < (L : Int) := by omega
    go_enter Tryz.func55, Tryz.ntmps55
    go_wp2
    go_ret
    exact ⟨rfl, rfl⟩
  · have h4I : ¬ (4 : Int) < (L : Int) := by omega
    go_enter Tryz.func55, Tryz.ntmps55
    go_wp2
    go_loop [3] (fun i => ∃ k : Nat, i = .int .i64 (k : Int) ∧ k ≤ L ∧ posS (xs.take k)) (fun i => L - (intOf i).toNat)
    case atStart => exact ⟨0, rfl, Nat.zero_le _, fun x h => by simp at h⟩
    case round =>
      obtain ⟨k, rfl, hkL, hp⟩ := hrel
      have HP := Lib.hid hp
      clear hp
      by_cases hlt : k < L
      · obtain ⟨b, off, rfl, hc⟩ := HA.out.at (i := k) (by rw [HL.out]; exact hlt)
        have hx : xs[k]? = some (xs.getD k 0) := by rw [List.getD_eq_getElem?_getD, List.getElem?_eq_getElem (by rw [HL.out]; exact hlt)]; rfl
        obtain ⟨x, hxe⟩ : ∃ x, xs.getD k 0 = x := ⟨_, rfl⟩
        rw [hxe] at hc hx
        have HX := Lib.hid hx
        have hltI : (k : Int) < (L : Int) := by omega
        clear hxe hx
        by_cases h1 : x < 1
        · obtain rfl : c = 13 := by
            rw [← HC.out]
            refine mayC_dim (by rw [HL.out]; omega) fun hp => ?_
            have := hp x (List.mem_of_getElem? HX.out)
            omega
          go_wp2
          go_ret
          exact ⟨rfl, rfl⟩
        · go_wp2
          go_round
          case rel =>
            refine ⟨k + 1, by go_num, by omega, fun y hy => ?_⟩
            rw [List.take_add_one, HX.out, Option.toList_some] at hy
            rcases List.mem_append.1 hy with h | h
            · exact HP.out y h
            · rw [List.mem_singleton.1 h]; omega
          case measure => simp [intOf]; omega
      · obtain rfl : k = L := by omega
        have hpos : posS xs := by
          have := HP.out
          rwa [List.take_of_length_le (by rw [HL.out]; exact Nat.le_refl _)] at this
        have hltI : ¬ (k : Int) < (k : Int) := by omega
        have HQ := Lib.hid hpos
        clear hpos
        go_wp2
        go_loop [4, 5] (fun n i => ∃ j : Nat, i = .int .i64 (j : Int) ∧ j ≤ k ∧ n = .int .i64 (prodS (xs.take j)) ∧ prodS (xs.take j) ≤ 1024) (fun _ i => k - (intOf i).toNat)
        case atStart => exact ⟨0, rfl, Nat.zero_le _, rfl, by simp [prodS]⟩
        case round =>
          obtain ⟨j, rfl, hjk, rfl, hn⟩ := hrel
          have hn1 := prodS_pos (HQ.out.take j)
          obtain ⟨n, hne⟩ : ∃ n, prodS (xs.take j) = n := ⟨_, rfl⟩
          rw [hne] at hn hn1 ⊢
          by_cases hjl : j < k
          · obtain ⟨b, off, rfl, hc⟩ := HA.out.at (i := j) (by rw [HL.out]; exact hjl)
            have hx1 := HQ.out.getD (i := j) (by rw [HL.out]; exact hjl)
            have hst := prodS_take (s := xs) (k := j) (by rw [HL.out]; exact hjl)
            have hle := getD_le_prod HQ.out (k := j) (by rw [HL.out]; exact hjl)
            have hle2 := prodS_take_le HQ.out (j + 1)
            obtain ⟨x, hxe⟩ : ∃ x, xs.getD j 0 = x := ⟨_, rfl⟩
            rw [hxe] at hc hx1 hst hle
            rw [hne] at hst
            rw [hst] at hle2
            have HST := Lib.hid hst
            have HLE := Lib.hid hle
            have HLE2 := Lib.hid hle2
            have hjI : (j : Int) < (k : Int) := by omega
            clear hxe hne hst hle hle2
            by_cases hbig : 1024 < x
            · obtain rfl : c = 14 := by
                rw [← HC.out]
                exact mayC_count (by rw [HL.out]; omega) HQ.out (by have := HLE.out; omega)
              go_wp2
              go_ret
              exact ⟨rfl, rfl⟩
            · have hm0 : 0 ≤ n * x := Int.mul_nonneg (by omega) (by omega)
              have hm1 : n * x ≤ 1024 * 1024 := Int.mul_le_mul (by omega) (by omega) (by omega) (by omega)
              have hw : IntKind.i64.wrap (n * x) = n * x := IntWalk.i64_in _ (by omega)
              obtain ⟨m, hm⟩ : ∃ m, n * x = m := ⟨_, rfl⟩
              rw [hm] at hm0 hm1 hw
              have HM := Lib.hid hm
              by_cases hbig2 : 1024 < m
              · obtain rfl : c = 14 := by
                  rw [← HC.out]
                  exact mayC_count (by rw [HL.out]; omega) HQ.out (by have := HLE2.out; have := HM.out; omega)
                go_wp2
                go_ret
                exact ⟨rfl, rfl⟩
              · go_wp2
                go_round
                case rel => exact ⟨j + 1, by go_num, by omega, by rw [HST.out, HM.out], by rw [HST.out, HM.out]; omega⟩
                case measure => simp [intOf]; omega
          · obtain rfl : j = k := by omega
            obtain rfl : c = 0 := by
              rw [← HC.out]
              refine mayC_ok ⟨by rw [HL.out]; omega, HQ.out, ?_⟩
              rw [List.take_of_length_le (by rw [HL.out]; exact Nat.le_refl _)] at hne
              rw [hne]
              exact hn
            have hjI : ¬ (j : Int) < (j : Int) := by omega
            clear hne
            go_wp2
            go_ret
            exact ⟨rfl, rfl⟩
set_option maxRecDepth 100000 in
set_option maxHeartbeats 2000000 in
theorem countR6_any {u : Value} {xs : List Int} {ad : Option Addr} {cap : Nat} {w : World} (A : ArgS w u xs ad cap) :
    Calls Tryz.prog 66 #[u] w fun e w' => e = .returned (.int .i64 (countS xs)) ∧ w = w' := by
  have hm := mayR6_any A
  have HA := Lib.hid A
  obtain rfl := A.is
  by_cases h0 : mayC xs = 0
  · have ok := mayC_zero.1 h0
    rw [ok.count]
    rw [h0] at hm
    obtain ⟨L, hL⟩ : ∃ L, xs.length = L := ⟨_, rfl⟩
    have HL := Lib.hid hL
    obtain ⟨P, hP⟩ : ∃ P, prodS xs = P := ⟨_, rfl⟩
    have HP := Lib.hid hP
    rw [hL] at hm ⊢
    rw [hP]
    have HO := Lib.hid ok
    have h4 : L ≤ 4 := by rw [← hL]; exact ok.rank
    clear A hL hP ok h0
    go_enter Tryz.func66, Tryz.ntmps66
    go_wp2_with (go_at_call 55; refine hm.mono ?_; rintro e w1 ⟨rfl, rfl⟩)
    clear hm
    go_loop [3, 4] (fun n i => ∃ j : Nat, i = .int .i64 (j : Int) ∧ j ≤ L ∧ n = .int .i64 (prodS (xs.take j))) (fun _ i => L - (intOf i).toNat)
    case atStart => exact ⟨0, rfl, Nat.zero_le _, rfl⟩
    case round =>
      obtain ⟨j, rfl, hjk, rfl⟩ := hrel
      have hn1 := prodS_pos (HO.out.pos.take j)
      have hn2 := prodS_take_le HO.out.pos j
      have hf := HO.out.few
      obtain ⟨n, hne⟩ : ∃ n, prodS (xs.take j) = n := ⟨_, rfl⟩
      rw [hne] at hn1 hn2 ⊢
      by_cases hjl : j < L
      · obtain ⟨b, off, rfl, hc⟩ := HA.out.at (i := j) (by rw [HL.out]; exact hjl)
        have hx1 := HO.out.pos.getD (i := j) (by rw [HL.out]; exact hjl)
        have hst := prodS_take (s := xs) (k := j) (by rw [HL.out]; exact hjl)
        have hle := getD_le_prod HO.out.pos (k := j) (by rw [HL.out]; exact hjl)
        obtain ⟨x, hxe⟩ : ∃ x, xs.getD j 0 = x := ⟨_, rfl⟩
        rw [hxe] at hc hx1 hst hle
        rw [hne] at hst
        have hm0 : 0 ≤ n * x := Int.mul_nonneg (by omega) (by omega)
        have hm1 : n * x ≤ 1024 * 1024 := Int.mul_le_mul (by omega) (by omega) (by omega) (by omega)
        have hw : wrap64 (n * x) = n * x := by unfold wrap64; omega
        have HST := Lib.hid hst
        have hjI : (j : Int) < (L : Int) := by omega
        clear hxe hne hst hle hf hn2
        go_wp2
        go_round
        case rel => exact ⟨j + 1, by go_num, by omega, by rw [HST.out]⟩
        case measure => simp [intOf]; omega
      · obtain rfl : j = L := by omega
        obtain rfl : n = P := by
          rw [← hne, List.take_of_length_le (by rw [HL.out]; exact Nat.le_refl _)]; exact HP.out
        have hjI : ¬ (j : Int) < (j : Int) := by omega
        clear hne
        go_wp2
        go_ret
        exact ⟨rfl, rfl⟩
  · rw [count_bad h0]
    obtain ⟨c, hc⟩ : ∃ c, mayC xs = c := ⟨_, rfl⟩
    rw [hc] at hm h0
    have hne : (c != 0) = true := by simpa using h0
    clear h0 hc A
    go_enter Tryz.func66, Tryz.ntmps66
    go_wp2_with (go_at_call 55; refine hm.mono ?_; rintro e w1 ⟨rfl, rfl⟩)
    go_ret
    exact ⟨rfl, rfl⟩
end
section
open Go.RowKit
set_option linter.unusedVariables false
set_option linter.unusedSimpArgs false
theorem inS_wid {s xs : List Int} (h : inS s xs) (hs : Wid s) : Wid xs := by
  intro x hx
  obtain ⟨i, hi, rfl⟩ := List.getElem_of_mem hx
  have hl := inS_length h
  have h1 := inS_at h (i := i) (by omega)
  have h2 := hs.getD i
  have e : xs.getD i 0 = xs[i] := by simp [hi]
  rw [e] at h1
  omega
end
section
open Go.RowKit
set_option linter.unusedVariables false
set_option linter.unusedSimpArgs false
theorem make_runS (n : Nat) (hc : n ≤ 17592186044416) (w : World) :
    (Instr.makeSlice 22 (.int .i64 (n : Int)) (.int .i64 (n : Int))).run Tryz.prog w = .ok (.slice (some ⟨w.heap.size, 0, none⟩) n n) (w.alloc (.cells (madeCells #[.int .i64 0] n) 3)) := by
  obtain ⟨i0, hi, hz0, hz1, hz2⟩ := info_parts infoS
  have h := run_make (P := Tryz.prog) w 22 3 i0 (.int .i64 0) Tryz.underlying22 hi hz0 .i64 .i64 n n (by omega) (by omega) (by rw [hz2]; omega) (by omega)
  simpa [hz1, Value.cells] using h
/-- why an index has no place: 0, or an error; its place -/
def offC (s xs : List Int) : Int := if mayC s ≠ 0 then mayC s else if xs.length ≠ s.length then 2 else if inS s xs then 0 else 21
def offV (s xs : List Int) : Int := if offC s xs = 0 then placeS s xs else 0
theorem offC_may {s xs : List Int} (h : mayC s ≠ 0) : offC s xs = mayC s := by unfold offC; rw [if_pos h]
theorem offC_arg {s xs : List Int} (h : mayC s = 0) (h2 : xs.length ≠ s.length) : offC s xs = 2 := by unfold offC; rw [if_neg (by rw [h]; simp), if_pos h2]
theorem offC_in {s xs : List Int} (h : mayC s = 0) (h3 : inS s xs) : offC s xs = 0 := by unfold offC; rw [if_neg (by rw [h]; simp), if_neg (by rw [inS_length h3]; simp), if_pos h3]
theorem offC_out {s xs : List Int} (h : mayC s = 0) (h2 : xs.length = s.length) (h3 : ¬ inS s xs) : offC s xs = 21 := by unfold offC; rw [if_neg (by rw [h]; simp), if_neg (by rw [h2]; simp), if_neg h3]
theorem offV_in {s xs : List Int} (h : mayC s = 0) (h3 : inS s xs) : offV s xs = placeS s xs := by unfold offV; rw [if_pos (offC_in h h3)]
theorem offV_bad {s xs : List Int} (h : offC s xs ≠ 0) : offV s xs = 0 := by unfold offV; rw [if_neg h]
end
section
open Go.RowKit
set_option linter.unusedVariables false
set_option linter.unusedSimpArgs false
theorem pow_limit {k L : Nat} {N : Int} (h : (4294967296 : Int) ^ k ≤ N) (h2 : N < (10000 : Int) ^ L) : k < L := by
  rcases Nat.lt_or_ge k L with g | g
  · exact g
  · exfalso
    have e1 : (10000 : Nat) ^ L ≤ 4294967296 ^ L := Nat.pow_le_pow_left (by omega) L
    have e2 : (4294967296 : Nat) ^ L ≤ 4294967296 ^ k := Nat.pow_le_pow_right (by omega) g
    have e3 : ((10000 ^ L : Nat) : Int) = (10000 : Int) ^ L := by rw [Int.natCast_pow]; rfl
    have e4 : ((4294967296 ^ k : Nat) : Int) = (4294967296 : Int) ^ k := by rw [Int.natCast_pow]; rfl
    omega
set_option maxRecDepth 100000 in
set_option maxHeartbeats 4000000 in
theorem limbsR_any {u : Value} {ds : List Int} {a : Option Addr} {ca : Nat} {w : World} (A : ArgD w u ds a ca) (hx : ds.length ≤ 1099511627776) :
    Calls Tryz.prog 134 #[u] w fun e w' => ∃ r, e = .returned r ∧ ∃ zs, Res w.heap.size w' r zs (valD ds) ∧ zs.length ≤ ds.length ∧ Below w.heap.size w w' := by
  obtain ⟨i0, hi, hz0, hz1, hz2⟩ := info_parts infoLimb
  have hlt := val_ltD A.wf
  have h0N := val_nonnegD A.wf
  obtain ⟨N, hN⟩ : ∃ N, valD ds = N := ⟨_, rfl⟩
  rw [hN] at hlt h0N ⊢
  have HN := Lib.hid hN
  have HLT := Lib.hid hlt
  have HA := Lib.hid A
  obtain ⟨L, hL⟩ : ∃ L, ds.length = L := ⟨_, rfl⟩
  have HL := Lib.hid hL
  rw [hL] at hx ⊢
  clear hN hlt A hL
  go_enter Tryz.func134, Tryz.ntmps134
  go_wp2
  go_loopw [0, 3, 4, 5, 6, 7] (fun n s _ _ _ _ wr => ∃ (es zs : List Int) (b : Option Addr) (cb : Nat) (M : Int), ArgD wr n es b cb ∧ valD es = M ∧ 0 ≤ M ∧ es.length ≤ L ∧ Num w.heap.size wr s zs ∧ Wf zs ∧ val zs + 4294967296 ^ zs.length * M = N ∧ (M = 0 → trimN zs zs.length = zs.length) ∧ zs.length ≤ L ∧ Below w.heap.size w wr) (fun n _ _ _ _ _ wr => leftD wr n)
  case atStart => exact ⟨ds, [], a, ca, N, HA.out, HN.out, h0N, by rw [HL.out]; exact Nat.le_refl _, ⟨rfl, .inl ⟨rfl, rfl⟩⟩, Wf.nil, by simp [val], fun _ => rfl, Nat.zero_le _, Below.refl _ _⟩
  case round =>
    obtain ⟨es, zs, b, cb, M, E, hM, hM0, hel, hnum, hwf, hval, hfull, hzl, hb⟩ := hrel
    have hsz := hb.size
    have HE := Lib.hid E
    have HM := Lib.hid hM
    have HV := Lib.hid hval
    have HF := Lib.hid hfull
    have HO := Lib.hid hnum
    have HWF := Lib.hid hwf
    have hrow : wr.ownsRow w.heap.size 63 1 _ zs.length (zs.map (Value.int .u32)) := hnum
    have eE := E.is
    subst eE
    obtain ⟨m, hm⟩ : ∃ m, es.length = m := ⟨_, rfl⟩
    have HML := Lib.hid hm
    rw [hm] at hel
    rw [hm]
    by_cases hp : 0 < M
    · have hml : 0 < m := by
        rcases Nat.eq_zero_or_pos m with g | g
        · exfalso
          have := List.eq_nil_of_length_eq_zero (hm.trans g)
          rw [this] at hM
          simp [valD] at hM
          omega
        · exact g
      have hmI : (0 : Int) < (m : Int) := by omega
      have hs1 := short_any 65536 E (by omega) (by omega)
      rw [hM, hm] at hs1
      have hzL : zs.length < L := by
        refine pow_limit (N := N) ?_ (by rw [← HL.out]; exact HLT.out)
        have h1 := val_nonneg hwf
        have h2 := Int.mul_le_mul_of_nonneg_left (show (1 : Int) ≤ M by omega) (show (0 : Int) ≤ 4294967296 ^ zs.length from Int.pow_nonneg (by omega))
        omega
      obtain ⟨lo, hlo⟩ : ∃ lo, M % 65536 = lo := ⟨_, rfl⟩
      obtain ⟨hi2, hhi⟩ : ∃ h, M / 65536 = h := ⟨_, rfl⟩
      obtain ⟨up, hup⟩ : ∃ u, hi2 % 65536 = u := ⟨_, rfl⟩
      obtain ⟨rs, hrs⟩ : ∃ u, hi2 / 65536 = u := ⟨_, rfl⟩
      have hd : up * 65536 + lo + 4294967296 * rs = M := by omega
      have b0 : 0 ≤ lo ∧ lo < 65536 := by omega
      have b1 : 0 ≤ up ∧ up < 65536 := by omega
      have b2 : 0 ≤ rs := by omega
      obtain ⟨lo0, lo1⟩ := b0
      obtain ⟨up0, up1⟩ := b1
      rw [hlo, hhi] at hs1
      have HD := Lib.hid hd
      have HUP := Lib.hid hup
      have HRS := Lib.hid hrs
      clear hM hval hfull hnum hm hlo hhi hup hrs hd E
      go_wp2_with fail
      refine hs1.mono ?_
      rintro e w1 ⟨r1, rfl, z1, q1, l1, hb1⟩
      obtain ⟨ad1, cp1, rfl, q1, A1⟩ := q1.slice
      have v1 := q1.eq
      have hs2 := short_any 65536 A1 (by omega) (by omega)
      rw [v1, HUP.out, HRS.out] at hs2
      have hbw1 := hb.trans (hb1.mono hsz)
      have hrow1 : w1.ownsRow w.heap.size 63 1 _ zs.length (zs.map (Value.int .u32)) := Num.later HO.out hb1
      clear q1 v1 hs1 hrow
      go_wp2_with fail
      refine hs2.mono ?_
      rintro e w2 ⟨r2, rfl, z2, q2, l2, hb2⟩
      obtain ⟨ad2, cp2, rfl, q2, A2⟩ := q2.slice
      have hbw2 := hbw1.trans (hb2.mono hbw1.size)
      have hsz2 := hbw2.size
      have hrow2 : w2.ownsRow w.heap.size 63 1 _ zs.length (zs.map (Value.int .u32)) := Num.later (w := w1) hrow1 hb2
      have e1 : up % 4294967296 = up := by omega
      have e2 : lo % 4294967296 = lo := by omega
      have e3 : up * 65536 % 4294967296 = up * 65536 := by omega
      have e4 : (up * 65536 + lo) % 4294967296 = up * 65536 + lo := by omega
      have v2 := q2.eq
      have V2 := Lib.hid v2
      have Q2 := Lib.hid q2
      have HA2 := Lib.hid A2
      have HB2 := Lib.hid hbw2
      have HO2 : Hid (Num w.heap.size w2 _ zs) := Lib.hid hrow2
      clear hs2 hrow1 q2 v2 hbw1
      go_wp2_with (at_builtin; refine wpList_append_own _ rfl _ _ 56 rfl w.heap.size 63 i0 (.int .u32 0) 1 4 Tryz.underlying56 hi hz0 hz1 hz2 rfl (by decide) _ _ _ rfl (hrow2.alloc _) ⟨w2.heap.size, 0, none⟩ 1 1 [.int .u32 (up * 65536 + lo)] rfl rfl (cell_one_new _ _ _) (by simp [Value.oneCell']) (by unfold maxLen; omega) (by omega) (by simp; omega) ?_; intro v' w3 hown' hgrow _)
      have hnum3 : Num w.heap.size w3 v' (zs ++ [up * 65536 + lo]) := by
        unfold Num
        rw [List.length_append, List.map_append]
        exact hown'
      have hb3 : Below w.heap.size w w3 := (HB2.out.alloc hsz2 _).grown hgrow (by simp; omega) (fun k hk => (HO2.out.lt k hk).1)
      have Q3 : ResD w1.heap.size w3 (.slice ad2 z2.length cp2) z2 rs := ⟨apartV HO2.out hgrow (by decide) Q2.out.num, Q2.out.wf, Q2.out.full, Q2.out.eq⟩
      have A3 := Q3.at_.2
      go_roundw
      case rel => exact ⟨z2, _, ad2, cp2, rs, A3, V2.out, b2, by omega, hnum3, HWF.out.append (Wf.cons (by omega) Wf.nil), (by
        rw [val_append, List.length_append, List.length_singleton, Int.pow_succ]
        have h1 := HV.out
        have h2 := HD.out
        have h3 : val [up * 65536 + lo] = up * 65536 + lo := by simp [val]
        rw [h3, Int.mul_assoc, Int.add_assoc, ← Int.mul_add, h2]
        exact h1), fun h0 => full_snoc _ (by have := HD.out; omega), (by rw [List.length_append]; simp only [List.length_cons, List.length_nil]; omega), hb3⟩
      case measure =>
        have h1 := HE.out.left
        rw [HML.out, HM.out] at h1
        have h2 := HD.out
        rw [A3.left, V2.out, h1]
        omega
    · have h0 : M = 0 := by omega
      subst h0
      have hz := valD_zero E.wf E.full hM
      have hm0 : m = 0 := by rw [← hm, hz]
      subst hm0
      have hwfx := Lib.hid hwf
      clear hm hM hval hfull hnum E hz
      go_wp2
      go_ret
      refine ⟨_, rfl, zs, ⟨HO.out, hwf, (by have h := HF.out; simpa using h), ?_⟩, hzl, hb⟩
      have := HV.out
      rw [Int.mul_zero, Int.add_zero] at this
      exact this
set_option maxRecDepth 100000 in
set_option maxHeartbeats 4000000 in
theorem backR_any {n : Nat} {w : World} {v : Value} {X : Rat} (h : ArgR w v X n) (hn : n ≤ 1000000000) :
    Calls Tryz.prog 116 #[v] w fun e w' => ∃ r, e = .returned r ∧ ResQ w.heap.size w' r X n ∧ Below w.heap.size w w' := by
  obtain ⟨xs, ds, a1, a2, c1, c2, rfl, A, B, hX1, hX2, hx, hd⟩ := h
  obtain ⟨m1, hm1⟩ : ∃ m, decide (X.num < 0) = m := ⟨_, rfl⟩
  rw [hm1]
  have HM := Lib.hid hm1
  have HX1 := Lib.hid hX1
  have HX2 := Lib.hid hX2
  clear hm1 hX1 hX2
  obtain ⟨W, hW⟩ : ∃ W, ((w.alloc (.cells #[.bool m1, .slice a1 xs.length c1, .slice a2 ds.length c2] 75)).alloc (.cells #[.bool false, .slice none 0 0, .slice none 0 0] 58)) = W := ⟨_, rfl⟩
  have R0 : Row W (w.heap.size) 75 #[.bool m1, .slice a1 xs.length c1, .slice a2 ds.length c2] := by rw [← hW]; exact ((Row.new _ _ _).alloc _)
  have R1 : Row W (w.heap.size + 1) 58 #[.bool false, .slice none 0 0, .slice none 0 0] := by rw [← hW]; have h := (Row.new (w.alloc (.cells #[.bool m1, .slice a1 xs.length c1, .slice a2 ds.length c2] 75)) 58 #[.bool false, .slice none 0 0, .slice none 0 0]); simp only [World.size_alloc] at h; exact h
  have hBW : Below w.heap.size w W := by rw [← hW]; exact (((Below.refl _ _).alloc (by (try simp) <;> omega) _).alloc (by (try simp) <;> omega) _)
  have hsW : w.heap.size + 1 + 1 ≤ W.heap.size := by rw [← hW]; simp
  have mkS : ∀ X, Kept (w.heap.size + 1) W X → X.cell? ⟨w.heap.size, 0, none⟩ = some (.bool m1) ∧ X.cell? ⟨w.heap.size, 1, none⟩ = some (.slice a1 xs.length c1) ∧ X.cell? ⟨w.heap.size, 2, none⟩ = some (.slice a2 ds.length c2) ∧ Kept (w.heap.size + 1) W X := fun X h => ⟨(R0.kept h (by omega)).cell 0, (R0.kept h (by omega)).cell 1, (R0.kept h (by omega)).cell 2, h⟩
  go_enter Tryz.func116, Tryz.ntmps116
  go_wp2_with fail
  clear hW
  go_region_held3 (fun X => X.cell? ⟨w.heap.size, 0, none⟩ = some (.bool m1) ∧ X.cell? ⟨w.heap.size, 1, none⟩ = some (.slice a1 xs.length c1) ∧ X.cell? ⟨w.heap.size, 2, none⟩ = some (.slice a2 ds.length c2) ∧ Kept (w.heap.size + 1) W X)
    (((refine mkS _ ?_; (repeat' (first | exact Kept.refl _ _ | refine Kept.drew ?_ | refine Kept.alloc ?_ _ | refine Kept.set ?_ _ _ | refine Kept.below ?_ (by assumption))))))
    ((first
      | (go_at_call 134; (with_reducible refine (limbsR_any (B.later (Kept.under (show Kept (w.heap.size + 1) W _ by (repeat' (first | exact Kept.refl _ _ | refine Kept.drew ?_ | refine Kept.alloc ?_ _ | refine Kept.set ?_ _ _ | refine Kept.below ?_ (by assumption)))) hBW (by omega) (by omega))) (by omega)).mono ?_); rintro e w4 ⟨r4, rfl, z4, q4, l4, hb4⟩; obtain ⟨ad4, cp4, rfl, q4, A4⟩ := q4.slice; have P4 := R1.kept (show Kept (w.heap.size + 1 + 1 + 1) W w4 by (repeat' (first | exact Kept.refl _ _ | refine Kept.drew ?_ | refine Kept.alloc ?_ _ | refine Kept.set ?_ _ _ | refine Kept.below ?_ (by assumption)))) (by omega); have Q4 := Lib.hid q4; clear q4; obtain ⟨u0, u1, u2, g0, g1, g2⟩ := P4.three)
      | (go_at_call 134; (with_reducible refine (limbsR_any (A.later (Kept.under (show Kept (w.heap.size + 1) W _ by (repeat' (first | exact Kept.refl _ _ | refine Kept.drew ?_ | refine Kept.alloc ?_ _ | refine Kept.set ?_ _ _ | refine Kept.below ?_ (by assumption)))) hBW (by omega) (by omega))) (by omega)).mono ?_); rintro e w3 ⟨r3, rfl, z3, q3, l3, hb3⟩; obtain ⟨ad3, cp3, rfl, q3, A3⟩ := q3.slice; have Q3 := Lib.hid q3; clear q3)))
  have Q3' := Q3.out.later hb4
  have hk4 := (show Kept (w.heap.size + 1 + 1 + 1) W w4 by (repeat' (first | exact Kept.refl _ _ | refine Kept.drew ?_ | refine Kept.alloc ?_ _ | refine Kept.set ?_ _ _ | refine Kept.below ?_ (by assumption)))).size
  have hk3 := (show Kept (w.heap.size + 1 + 1 + 1) W w3 by (repeat' (first | exact Kept.refl _ _ | refine Kept.drew ?_ | refine Kept.alloc ?_ _ | refine Kept.set ?_ _ _ | refine Kept.below ?_ (by assumption)))).size
  have hK4 := (Kept.under (show Kept (w.heap.size + 1 + 1 + 1) W w4 by (repeat' (first | exact Kept.refl _ _ | refine Kept.drew ?_ | refine Kept.alloc ?_ _ | refine Kept.set ?_ _ _ | refine Kept.below ?_ (by assumption)))) hBW (by omega) (by omega))
  have HQ := Lib.hid Q3'
  clear Q3'
  go_wp2_with fail
  refine bodyPost_ret (v := .agg #[.bool m1, .slice ad3 z3.length cp3, .slice ad4 z4.length cp4]) (by simp [results, Tryz.results116, go_sem, u0, u1, u2]) rfl ⟨_, rfl, ⟨z3, z4, ad3, ad4, cp3, cp4, by rw [HM.out], ?_, ?_, by omega, by omega⟩, below_set3 hK4 (by omega) _ _ _⟩
  · rw [← HX1.out]; exact (HQ.out.mono (by show w.heap.size ≤ W.heap.size; omega)).far P4 (by decide) (kept3 _ _ _)
  · rw [← HX2.out]; exact (Q4.out.mono (by omega)).far P4 (by decide) (kept3 _ _ _)
end
section
open Go.RowKit
set_option linter.unusedVariables false
set_option linter.unusedSimpArgs false
/-- numerator and denominator are at most 2 to the b -/
def FitQ (X : Rat) (b : Nat) : Prop := X.num.natAbs ≤ 2 ^ b ∧ X.den ≤ 2 ^ b
theorem FitQ.mono {X : Rat} {a b : Nat} (h : FitQ X a) (hb : a ≤ b) : FitQ X b :=
  ⟨Nat.le_trans h.1 (Nat.pow_le_pow_right (by omega) hb), Nat.le_trans h.2 (Nat.pow_le_pow_right (by omega) hb)⟩
theorem FitQ.of {n : Bool} {A B : Int} {b : Nat} (hA : 0 ≤ A) (hB : 0 ≤ B) (h1 : A ≤ ((2 ^ b : Nat) : Int)) (h2 : B ≤ ((2 ^ b : Nat) : Int)) : FitQ (ratOf n A B) b := by
  have hp : 1 ≤ 2 ^ b := Nat.one_le_two_pow
  rcases Int.lt_or_le 0 B with h | h
  · have e1 := ratOf_abs (n := n) hA h
    have e2 := ratOf_den (n := n) (A := A) h
    have hg : (0 : Int) ≤ (Int.gcd A B : Int) := Int.natCast_nonneg _
    have l1 : A / (Int.gcd A B : Int) ≤ A := Int.ediv_le_self _ hA
    have l2 : B / (Int.gcd A B : Int) ≤ B := Int.ediv_le_self _ hB
    constructor <;> omega
  · have hz : B = 0 := by omega
    subst hz
    rw [ratOf_zero_right]
    exact ⟨by show 0 ≤ _; omega, by show 1 ≤ _; omega⟩
theorem FitQ.zero (b : Nat) : FitQ 0 b := ⟨Nat.zero_le _, Nat.one_le_two_pow⟩
theorem two_pow_mul (a b : Nat) {x y : Nat} (h1 : x ≤ 2 ^ a) (h2 : y ≤ 2 ^ b) : x * y ≤ 2 ^ (a + b) := by
  rw [Nat.pow_add]; exact Nat.mul_le_mul h1 h2
theorem sgn_abs (t : Int) : sgn (decide (t < 0)) (t.natAbs : Int) = t := by
  unfold sgn
  by_cases h : t < 0
  · rw [decide_eq_true h]; simp; omega
  · rw [decide_eq_false h]; simp; omega
theorem sgn_natAbs (n : Bool) (A : Int) : (sgn n A).natAbs = A.natAbs := by
  unfold sgn
  cases n <;> simp
theorem FitQ.add {X Y : Rat} {a b : Nat} (h : FitQ X a) (k : FitQ Y b) : FitQ (X + Y) (a + b + 1) := by
  obtain ⟨A, hA⟩ : ∃ A, X.num.natAbs = A := ⟨_, rfl⟩
  obtain ⟨B, hB⟩ : ∃ B, X.den = B := ⟨_, rfl⟩
  obtain ⟨C, hC⟩ : ∃ C, Y.num.natAbs = C := ⟨_, rfl⟩
  obtain ⟨D, hD⟩ : ∃ D, Y.den = D := ⟨_, rfl⟩
  have eX : ratOf (decide (X.num < 0)) (A : Int) (B : Int) = X := by rw [← hA, ← hB]; exact ratOf_self X
  have eY : ratOf (decide (Y.num < 0)) (C : Int) (D : Int) = Y := by rw [← hC, ← hD]; exact ratOf_self Y
  have pB := den_pos' X
  have pD := den_pos' Y
  rw [hB] at pB
  rw [hD] at pD
  obtain ⟨t, ht⟩ : ∃ t, sgn (decide (X.num < 0)) ((A : Int) * (D : Int)) + sgn (decide (Y.num < 0)) ((C : Int) * (B : Int)) = t := ⟨_, rfl⟩
  have hs := rat_sum (m := decide (X.num < 0)) (n := decide (Y.num < 0)) (r := decide (t < 0)) (A := A) (B := B) (C := C) (D := D) (S := (t.natAbs : Int)) pB pD (by rw [sgn_abs, ht])
  rw [eX, eY] at hs
  rw [← hs]
  have f1 := h.1
  have f2 := h.2
  have f3 := k.1
  have f4 := k.2
  rw [hA] at f1
  rw [hB] at f2
  rw [hC] at f3
  rw [hD] at f4
  have g1 := two_pow_mul a b f1 f4
  have g2 := two_pow_mul b a f3 f2
  have g3 := two_pow_mul a b f2 f4
  have ht2 : t.natAbs ≤ A * D + C * B := by
    rw [← ht]
    refine Nat.le_trans (Int.natAbs_add_le _ _) ?_
    rw [sgn_natAbs, sgn_natAbs, Int.natAbs_mul, Int.natAbs_mul]
    simp
  rw [Nat.add_comm b a] at g2
  have hp2 : 2 ^ (a + b + 1) = 2 ^ (a + b) * 2 := Nat.pow_succ ..
  refine FitQ.of (Int.natCast_nonneg _) (Int.mul_nonneg (Int.natCast_nonneg _) (Int.natCast_nonneg _)) ?_ ?_
  · omega
  · rw [← Int.natCast_mul]; omega
theorem FitQ.raw {q : Q3} {m : Nat} (h1 : Wf q.num) (h2 : Wf q.den) (l1 : q.num.length ≤ m) (l2 : q.den.length ≤ m) : FitQ q.rat (32 * m) := by
  have e : ∀ {xs : List Int}, Wf xs → xs.length ≤ m → val xs ≤ ((2 ^ (32 * m) : Nat) : Int) := fun {xs} hx hl => by
    have h3 := val_lt hx
    have h4 : (4294967296 : Nat) ^ xs.length ≤ 4294967296 ^ m := Nat.pow_le_pow_right (by omega) hl
    have h5 : ((4294967296 ^ xs.length : Nat) : Int) = (4294967296 : Int) ^ xs.length := by rw [Int.natCast_pow]; rfl
    have h6 : 2 ^ (32 * m) = (4294967296 : Nat) ^ m := by rw [Nat.pow_mul]
    omega
  exact FitQ.of (val_nonneg h1) (val_nonneg h2) (e h1 l1) (e h2 l2)
end
section
open Go.RowKit
set_option linter.unusedVariables false
set_option linter.unusedSimpArgs false
theorem ResS.at_ {base : Nat} {w : World} {ad : Option Addr} {n cap : Nat} {xs : List Int} (h : ResS base w (.slice ad n cap) xs) : n = xs.length ∧ ArgS w (.slice ad n cap) xs ad cap ∧ (ad = none → cap = 0) := by
  obtain ⟨ad', cap', e, _, A, hn⟩ := h.slice
  simp only [Value.slice.injEq] at e
  obtain ⟨rfl, rfl, rfl⟩ := e
  exact ⟨rfl, A, hn⟩
theorem RowA.imp {α : Type} {P Q : World → Value → α → Prop} {w : World} {u : Value} {L : List α} {ad : Option Addr} {cap : Nat} (h : RowA P w u L ad cap) (hP : ∀ v x, x ∈ L → P w v x → Q w v x) : RowA Q w u L ad cap := by
  refine ⟨h.is, h.le, ?_⟩
  rcases h.els with e | ⟨b, o, es, e, c, k⟩
  · exact .inl e
  · exact .inr ⟨b, o, es, e, c, k.imp hP⟩
theorem RowO.at_ {α : Type} {base : Nat} {T : TypeId} {P : World → Value → α → Prop} {w : World} {ad : Option Addr} {n cap : Nat} {L : List α} (h : RowO base T P w (.slice ad n cap) L) : n = L.length ∧ RowA P w (.slice ad n cap) L ad cap ∧ (ad = none → cap = 0) := by
  obtain ⟨ad', cap', A, hn, _⟩ := h.arg
  have e := A.is
  simp only [Value.slice.injEq] at e
  obtain ⟨rfl, rfl, rfl⟩ := e
  exact ⟨rfl, A, hn⟩
end
section
open Go.RowKit Go.ChangeShapes Go.WideShapes Go.ChangeAt Go.Joins Go.Deep
set_option linter.unusedVariables false
set_option linter.unusedSimpArgs false
set_option maxRecDepth 100000
theorem cellsInt7 : Tryz.prog.cellsOf 3 = 1 := by kernel_rfl
theorem wf_int7 {i : Int} (h : (Lit.int .i64 i).wf = true) : -9223372036854775808 ≤ i ∧ i ≤ 9223372036854775807 := by simpa [Lit.wf, IntKind.min, IntKind.max, IntKind.signed, IntKind.bits] using h
/-- a row of limbs, as it came in: it is no longer than its bulk -/
theorem open_natB {H : Type} {enc : TypeId × Value → H} {W : World} {v : Value} {y : DataW H × List MemPlace} {fuel : Nat}
    (hf : DataW.trod enc Tryz.prog W 0 (fun _ => true) true fuel 56 [v] = some y) : ∃ ad xs cap, v = .slice ad xs.length cap ∧ Arg W (.slice ad xs.length cap) xs ad cap ∧ xs.length + 1 ≤ Rows.uptoBulk y.1 ∧ (ad = none → cap = 0) := by
  rcases open_ints Tryz.underlying56 Tryz.underlying63 cellsLimb hf with ⟨hcs, hx⟩ | ⟨a, n, cap, zs, hcs, _, hl, hm, hz, hx, hcell, hwz⟩
  · simp only [List.cons.injEq, and_true] at hcs
    subst hcs
    exact ⟨none, [], 0, rfl, ⟨rfl, .inl rfl, Nat.le_refl _, Wf.nil⟩, by have := bulk_pos y.1; simpa using this, fun _ => rfl⟩
  · simp only [List.cons.injEq, and_true] at hcs
    subst hcs
    subst hx
    simp only [if_true] at hz
    have hlen : (zs.take n).length = n := by rw [List.length_take]; omega
    have hb := bulk_slice (lits .u32 (zs.take n) : List (DataW H)) (lits .u32 (zs.drop n))
    have hb2 : (zs.take n).length + 1 ≤ Rows.uptoBulk (.slice (lits .u32 (zs.take n) : List (DataW H)) (lits .u32 (zs.drop n))) := by
      have h1 := bulk_len (lits .u32 (zs.take n) : List (DataW H))
      simp only [lits, List.length_map] at h1
      simp only [Rows.uptoBulk, lits]
      omega
    refine ⟨some a, zs.take n, cap, by rw [hlen], ⟨rfl, ?_, by rw [hlen]; exact hl, fun x hx => wf_limb (hwz x (List.mem_of_mem_take hx))⟩, hb2, fun e => by cases e⟩
    by_cases h0 : n = 0
    · exact .inl (by simp [h0])
    · obtain ⟨b, off, rfl, hc⟩ := ints_at hcell (by omega)
      refine .inr ⟨b, off, rfl, fun i hi => ?_⟩
      rw [hlen] at hi
      rw [hc i (by omega)]
      simp [hi]
/-- a row of numbers, as it came in -/
theorem open_intsB {H : Type} {enc : TypeId × Value → H} {W : World} {v : Value} {y : DataW H × List MemPlace} {fuel : Nat} {T : TypeId} (hT : Tryz.prog.underlying T = some (.slice 3))
    (hf : DataW.trod enc Tryz.prog W 0 (fun _ => true) true fuel T [v] = some y) : ∃ ad xs cap, v = .slice ad xs.length cap ∧ ArgS W (.slice ad xs.length cap) xs ad cap ∧ xs.length + 1 ≤ Rows.uptoBulk y.1 ∧ (ad = none → cap = 0) := by
  rcases open_ints hT Tryz.underlying3 cellsInt7 hf with ⟨hcs, hx⟩ | ⟨a, n, cap, zs, hcs, _, hl, hm, hz, hx, hcell, hwz⟩
  · simp only [List.cons.injEq, and_true] at hcs
    subst hcs
    exact ⟨none, [], 0, rfl, ⟨rfl, .inl rfl, Nat.le_refl _, Wid.nil⟩, by have := bulk_pos y.1; simpa using this, fun _ => rfl⟩
  · simp only [List.cons.injEq, and_true] at hcs
    subst hcs
    subst hx
    simp only [if_true] at hz
    have hlen : (zs.take n).length = n := by rw [List.length_take]; omega
    have hb2 : (zs.take n).length + 1 ≤ Rows.uptoBulk (.slice (lits .i64 (zs.take n) : List (DataW H)) (lits .i64 (zs.drop n))) := by
      have h1 := bulk_len (lits .i64 (zs.take n) : List (DataW H))
      simp only [lits, List.length_map] at h1
      simp only [Rows.uptoBulk, lits]
      omega
    refine ⟨some a, zs.take n, cap, by rw [hlen], ⟨rfl, ?_, by rw [hlen]; exact hl, fun x hx => wf_int7 (hwz x (List.mem_of_mem_take hx))⟩, hb2, fun e => by cases e⟩
    by_cases h0 : n = 0
    · exact .inl (by simp [h0])
    · obtain ⟨b, off, rfl, hc⟩ := ints_at hcell (by omega)
      refine .inr ⟨b, off, rfl, fun i hi => ?_⟩
      rw [hlen] at hi
      rw [hc i (by omega)]
      simp [hi]
/-- how much rational numbers hold -/
def sizeQ (q : Q3) : Nat := q.num.length + q.den.length + 1
def sizeQs : List Q3 → Nat
  | [] => 0
  | q :: qs => sizeQ q + sizeQs qs
theorem sizeQs_mem {qs : List Q3} {q : Q3} (h : q ∈ qs) : sizeQ q ≤ sizeQs qs := by
  induction qs with
  | nil => cases h
  | cons p qs ih =>
    simp only [sizeQs]
    rcases List.mem_cons.1 h with rfl | h
    · omega
    · have := ih h; omega
theorem sizeQs_len (qs : List Q3) : qs.length ≤ sizeQs qs := by
  induction qs with
  | nil => exact Nat.le_refl _
  | cons p qs ih => simp only [sizeQs, sizeQ, List.length_cons]; omega
theorem sizeQs_range {H : Type} (F : Nat → Q3) (D : Nat → DataW H) (n : Nat) (h : ∀ i, i < n → sizeQ (F i) ≤ Rows.uptoBulk (D i)) : sizeQs ((List.range n).map F) ≤ Rows.uptoBulkAll ((List.range n).map D) := by
  suffices hs : ∀ l : List Nat, (∀ i ∈ l, sizeQ (F i) ≤ Rows.uptoBulk (D i)) → sizeQs (l.map F) ≤ Rows.uptoBulkAll (l.map D) from hs _ (fun i hi => h i (List.mem_range.1 hi))
  intro l
  induction l with
  | nil => intro _; simp [sizeQs]
  | cons a l ih =>
    intro hl
    have h1 := hl a (List.mem_cons_self ..)
    have h2 := ih (fun i hi => hl i (List.mem_cons_of_mem _ hi))
    simp only [List.map_cons, sizeQs, Rows.uptoBulkAll]
    omega
/-- a row of rational numbers, as it came in -/
theorem open_rats {H : Type} {enc : TypeId × Value → H} {W : World} {v : Value} {y : DataW H × List MemPlace} {fuel : Nat}
    (hf : DataW.trod enc Tryz.prog W 0 (fun _ => true) true fuel 24 [v] = some y) : ∃ (ad : Option Addr) (qs : List Q3) (cap : Nat), v = .slice ad qs.length cap ∧ RowA RawQ W (.slice ad qs.length cap) qs ad cap ∧ (ad = none → cap = 0) ∧ sizeQs qs + 1 ≤ Rows.uptoBulk y.1 := by
  rcases open_slice Tryz.underlying24 hf with ⟨hcs, hx⟩ | ⟨a, len, cap, m, n, D, Pl, hcs, hb, hl, hm, hmm, hx, hi⟩
  · simp only [List.cons.injEq, and_true] at hcs
    subst hcs
    exact ⟨none, [], 0, rfl, ⟨rfl, Nat.le_refl _, .inl rfl⟩, fun _ => rfl, by have := bulk_pos y.1; simpa [sizeQs] using this⟩
  · simp only [List.cons.injEq, and_true] at hcs
    subst hcs
    subst hx
    simp only [if_true] at hmm
    rw [cellsRat] at hi
    have hel : ∀ i, i < len → ∃ (e : E3) (q : Q3), W.cell? (a.add (i * 3)) = some e.a ∧ W.cell? ((a.add (i * 3)).add 1) = some e.b ∧ W.cell? ((a.add (i * 3)).add 2) = some e.c ∧ RawQ W e.agg q ∧ sizeQ q ≤ Rows.uptoBulk (D i) := fun i hlt => by
      obtain ⟨cs', hc, ht⟩ := hi i (by omega)
      obtain ⟨_, hcl, hat⟩ := World.cells?_some hc
      obtain ⟨xs, n', _, hy, hlen, hyl, hfd⟩ := DataW.trod_struct Tryz.underlying58 ht
      have hc3 : cs'.length = 3 := hcl
      match cs', hc3 with
      | [c0, c1, c2], _ =>
        match xs, (show xs.length = 3 from hyl) with
        | [y0, y1, y2], _ =>
          have h0 := hfd 0 _ rfl
          have h1 := hfd 1 _ rfl
          have h2 := hfd 2 _ rfl
          have g0 : DataW.trod enc Tryz.prog W 0 (fun _ => true) true n' 4 [c0] = some y0 := h0
          have g1 : DataW.trod enc Tryz.prog W 0 (fun _ => true) true n' 56 [c1] = some y1 := h1
          have g2 : DataW.trod enc Tryz.prog W 0 (fun _ => true) true n' 56 [c2] = some y2 := h2
          obtain ⟨b, hbv, _⟩ := DataW.trod_bool Tryz.underlying4 g0
          simp only [List.cons.injEq, and_true] at hbv
          subst hbv
          obtain ⟨ad, zs, ca, rfl, A, l1, n1⟩ := open_natB g1
          obtain ⟨bd, ys, cb, rfl, B, l2, n2⟩ := open_natB g2
          have p0 := hat 0 (by omega)
          have p1 := hat 1 (by omega)
          have p2 := hat 2 (by omega)
          rw [show ∀ p : Addr, p.add 0 = p from fun p => by cases p; rename_i b o path; cases path <;> simp [Addr.add]] at p0
          refine ⟨⟨.bool b, .slice ad zs.length ca, .slice bd ys.length cb⟩, ⟨b, zs, ys⟩, p0, p1, p2, ⟨ad, bd, ca, cb, rfl, A, B, n1, n2⟩, ?_⟩
          have hD : D i = .agg ([y0, y1, y2].map (·.1)) := by simpa using congrArg Prod.fst hy
          rw [hD]
          simp only [List.map_cons, List.map_nil, Rows.uptoBulk, Rows.uptoBulkAll, sizeQ]
          omega
    have hel2 : ∀ i, ∃ (e : E3) (q : Q3), i < len → W.cell? (a.add (i * 3)) = some e.a ∧ W.cell? ((a.add (i * 3)).add 1) = some e.b ∧ W.cell? ((a.add (i * 3)).add 2) = some e.c ∧ RawQ W e.agg q ∧ sizeQ q ≤ Rows.uptoBulk (D i) := fun i => by
      by_cases h : i < len
      · obtain ⟨e, q, h'⟩ := hel i h
        exact ⟨e, q, fun _ => h'⟩
      · exact ⟨⟨.bool false, .bool false, .bool false⟩, ⟨false, [], []⟩, fun h' => absurd h' h⟩
    obtain ⟨E, hE⟩ := Classical.axiomOfChoice hel2
    obtain ⟨F, hF⟩ := Classical.axiomOfChoice hE
    have hlq : ((List.range len).map F).length = len := by simp
    refine ⟨some a, (List.range len).map F, cap, by rw [hlq], ⟨rfl, by rw [hlq]; exact hl, ?_⟩, (by intro e; cases e), ?_⟩
    · by_cases h0 : len = 0
      · exact .inl (by rw [h0]; rfl)
      · have hp : ∃ b o, a = ⟨b, o, none⟩ := by
          obtain ⟨h1, _⟩ := hF 0 (by omega)
          obtain ⟨b, off, spot⟩ := a
          have hspot : spot = none := by simpa [Addr.add] using World.cell?_spot h1
          subst hspot
          exact ⟨b, off, rfl⟩
        obtain ⟨b, o, rfl⟩ := hp
        refine .inr ⟨b, o, (List.range len).map E, rfl, fun i e he => ?_, ⟨by simp, fun i e q he hq => ?_⟩⟩
        · have hlt : i < len := by
            rcases Nat.lt_or_ge i len with g | g
            · exact g
            · rw [List.getElem?_eq_none (by simpa using g)] at he; cases he
          rw [List.getElem?_map, List.getElem?_range hlt] at he
          simp only [Option.map_some, Option.some.injEq] at he
          subst he
          obtain ⟨h1, h2, h3, _⟩ := hF i hlt
          rw [add_plain] at h1 h2 h3
          rw [add_plain] at h2 h3
          exact ⟨h1, h2, h3⟩
        · have hlt : i < len := by
            rcases Nat.lt_or_ge i len with g | g
            · exact g
            · rw [List.getElem?_eq_none (by simpa using g)] at he; cases he
          rw [List.getElem?_map, List.getElem?_range hlt] at he hq
          simp only [Option.map_some, Option.some.injEq] at he hq
          subst he
          subst hq
          exact (hF i hlt).2.2.2.1
    · have h1 := sizeQs_range F D len (fun i hi => (hF i hi).2.2.2.2)
      simp only [Rows.uptoBulk]
      omega
end
section
set_option linter.unusedVariables false
set_option linter.unusedSimpArgs false
/-- the element at places; 0 where there are no such ones -/
def elV (s : List Int) (L : List Rat) (xs : List Int) : Rat := if inS s xs then L.getD (placeS s xs).toNat 0 else 0
/-- what a shape is filled with -/
def fillV (s : List Int) (F : List Int → Rat) : List Rat := (List.range (prodS s).toNat).map fun k : Nat => F (idxS s (k : Int))
theorem fillV_len (s : List Int) (F : List Int → Rat) : (fillV s F).length = (prodS s).toNat := by simp [fillV]
theorem fillV_congr {s : List Int} (hp : posS s) {F G : List Int → Rat} (h : ∀ xs, inS s xs → F xs = G xs) : fillV s F = fillV s G := by
  unfold fillV
  refine List.map_congr_left fun k hk => h _ ?_
  have := List.mem_range.1 hk
  exact (place_idx hp (by omega) (by omega)).1
theorem elV_in {s xs : List Int} {L : List Rat} (h : inS s xs) : elV s L xs = L.getD (placeS s xs).toNat 0 := if_pos h
theorem elV_out {s xs : List Int} {L : List Rat} (h : ¬ inS s xs) : elV s L xs = 0 := if_neg h
theorem elV_fill {s xs : List Int} (F : List Int → Rat) (h : inS s xs) : elV s (fillV s F) xs = F xs := by
  obtain ⟨h0, h1⟩ := place_range h
  rw [elV_in h, List.getD_eq_getElem?_getD]
  unfold fillV
  rw [List.getElem?_map, List.getElem?_range (by omega)]
  simp only [Option.map_some, Option.getD_some]
  rw [show (((placeS s xs).toNat : Nat) : Int) = placeS s xs by omega, idx_place h]
theorem posS.ok {s : List Int} (h : OkS s) : posS s := h.pos
/-- the list's numbers, each by its place -/
theorem getD_map_range {n : Nat} (f : Nat → Int) {i : Nat} (h : i < n) : ((List.range n).map f).getD i 0 = f i := by
  simp [List.getD_eq_getElem?_getD, h]
theorem list_eq_getD {a b : List Int} (hl : a.length = b.length) (h : ∀ i, i < a.length → a.getD i 0 = b.getD i 0) : a = b := by
  apply List.ext_getElem hl
  intro i g1 g2
  have := h i g1
  simpa [List.getD_eq_getElem?_getD, g1, g2] using this
def trS (s p : List Int) : List Int := p.map fun n => s.getD n.toNat 0
def trI (p xs : List Int) : List Int := (List.range p.length).map fun n : Nat => xs.getD (p.idxOf (n : Int)) 0
theorem trS_len (s p : List Int) : (trS s p).length = p.length := by simp [trS]
theorem trI_len (p xs : List Int) : (trI p xs).length = p.length := by simp [trI]
theorem trS_at (s p : List Int) {i : Nat} (h : i < p.length) : (trS s p).getD i 0 = s.getD (p.getD i 0).toNat 0 := by
  simp [trS, List.getD_eq_getElem?_getD, h]
theorem trI_at (p xs : List Int) {n : Nat} (h : n < p.length) : (trI p xs).getD n 0 = xs.getD (p.idxOf (n : Int)) 0 := getD_map_range _ h
theorem IsPerm.idx {p : List Int} (h : IsPerm p) {n : Nat} (hn : n < p.length) : p.idxOf (n : Int) < p.length ∧ p.getD (p.idxOf (n : Int)) 0 = (n : Int) := by
  have hm := (h.mem (n : Int)).2 (by omega)
  have hlt := List.idxOf_lt_length_of_mem hm
  exact ⟨hlt, by rw [getD_elem hlt]; exact List.getElem_idxOf hlt⟩
theorem IsPerm.low {p : List Int} (h : IsPerm p) {i : Nat} (hi : i < p.length) : 0 ≤ p.getD i 0 ∧ p.getD i 0 < p.length := (h.back hi).1
theorem IsPerm.idx_at {p : List Int} (h : IsPerm p) {i : Nat} (hi : i < p.length) : p.idxOf (p.getD i 0) = i := by
  have h2 := (h.back hi).2
  have h1 := h.low hi
  rw [invL_at p (by omega), show (((p.getD i 0).toNat : Nat) : Int) = p.getD i 0 by omega] at h2
  omega
/-- a list of numbers that was filled through a permutation -/
theorem trI_eq {p xs zs : List Int} (hp : IsPerm p) (hl : zs.length = p.length) (h : ∀ j, j < p.length → zs.getD (p.getD j 0).toNat 0 = xs.getD j 0) : zs = trI p xs := by
  refine list_eq_getD (by rw [hl, trI_len]) fun i hi => ?_
  obtain ⟨k1, k2⟩ := hp.idx (n := i) (by omega)
  rw [trI_at p xs (by omega), ← h _ k1, k2]
  rfl
/-- a row that is filled through a permutation, up to place k -/
def FillP (p xs zs : List Int) (k : Nat) : Prop := zs.length = p.length ∧ ∀ j, j < k → zs.getD (p.getD j 0).toNat 0 = xs.getD j 0
theorem FillP.nil (p xs : List Int) : FillP p xs (List.replicate p.length 0) 0 := ⟨by simp, fun j hj => by omega⟩
theorem getD_set_self (zs : List Int) (i : Nat) (x : Int) (h : i < zs.length) : (zs.set i x).getD i 0 = x := by
  simp [List.getD_eq_getElem?_getD, h]
theorem getD_set_ne (zs : List Int) {i j : Nat} (x : Int) (h : i ≠ j) : (zs.set i x).getD j 0 = zs.getD j 0 := by
  simp [List.getD_eq_getElem?_getD, h]
theorem FillP.next {p xs zs : List Int} {k : Nat} (hp : IsPerm p) (hk : k < p.length) (h : FillP p xs zs k) : FillP p xs (zs.set (p.getD k 0).toNat (xs.getD k 0)) (k + 1) := by
  obtain ⟨h1, h2⟩ := h
  have hl := hp.low hk
  refine ⟨by rw [List.length_set]; exact h1, fun j hj => ?_⟩
  by_cases e : j = k
  · subst e
    exact getD_set_self _ _ _ (by omega)
  · rw [getD_set_ne, h2 j (by omega)]
    intro e2
    have hj2 := hp.low (i := j) (by omega)
    have := hp.idx_at hk
    rw [show p.getD k 0 = p.getD j 0 by omega, hp.idx_at (by omega)] at this
    exact e this
theorem FillP.full {p xs zs : List Int} (hp : IsPerm p) (h : FillP p xs zs p.length) : zs = trI p xs := trI_eq hp h.1 h.2
theorem Wid.map_range {n : Nat} {f : Nat → Int} (h : ∀ i, i < n → -9223372036854775808 ≤ f i ∧ f i ≤ 9223372036854775807) : Wid ((List.range n).map f) := fun x hx => by
  obtain ⟨i, hi, rfl⟩ := List.mem_map.1 hx
  exact h i (List.mem_range.1 hi)
theorem trI_wid {p xs : List Int} (h : Wid xs) : Wid (trI p xs) := Wid.map_range fun i _ => h.getD _
theorem prod_perm {a b : List Int} (h : a.Perm b) : prodS a = prodS b := by
  induction h with
  | nil => rfl
  | cons x _ ih => simp only [prodS]; rw [ih]
  | swap x y l => simp only [prodS]; rw [← Int.mul_assoc, ← Int.mul_assoc, Int.mul_comm y x]
  | trans _ _ h1 h2 => rw [h1, h2]
theorem IsPerm.perm {p : List Int} (h : IsPerm p) : p.Perm (upS p.length) :=
  perm_of_all h.nodup (fun x hx => mem_upS.2 ((h.mem x).1 hx)) (by rw [upS_length]; exact Nat.le_refl _) |>.symm
theorem trS_up (s : List Int) : trS s (upS s.length) = s := by
  refine list_eq_getD (by rw [trS_len, upS_length]) fun i hi => ?_
  rw [trS_len, upS_length] at hi
  rw [trS_at _ _ (by rw [upS_length]; exact hi)]
  unfold upS
  rw [getD_map_range _ hi]
  rfl
theorem trS_ok {s p : List Int} (hp : IsPerm p) (hl : p.length = s.length) (h : OkS s) : OkS (trS s p) ∧ prodS (trS s p) = prodS s := by
  have hperm : (trS s p).Perm s := by
    have := hp.perm.map fun n => s.getD n.toNat 0
    rw [hl] at this
    exact this.trans (by rw [show (upS s.length).map (fun n => s.getD n.toNat 0) = trS s (upS s.length) from rfl, trS_up])
  have hpr := prod_perm hperm
  exact ⟨⟨by rw [trS_len, hl]; exact h.rank, fun x hx => h.pos x (hperm.mem_iff.1 hx), by rw [hpr]; exact h.few⟩, hpr⟩
def fstP (l : List Int) (i : Nat) : Int := l.getD (2 * i) 0
def sndP (l : List Int) (i : Nat) : Int := l.getD (2 * i + 1) 0
end
section
set_option linter.unusedVariables false
set_option linter.unusedSimpArgs false
def bcI (s : List Int) (k : Nat) (xs : List Int) : List Int := (List.range s.length).map fun i : Nat => (xs.getD (k + i) 0) % (s.getD i 0)
theorem bcI_len (s : List Int) (k : Nat) (xs : List Int) : (bcI s k xs).length = s.length := by simp [bcI]
theorem bcI_at (s : List Int) (k : Nat) (xs : List Int) {i : Nat} (h : i < s.length) : (bcI s k xs).getD i 0 = (xs.getD (k + i) 0) % (s.getD i 0) := getD_map_range _ h
/-- a pair that is none -/
def badCut (l : List Int) (i : Nat) : Prop := fstP l i < 0 ∨ sndP l i ≤ fstP l i
instance badCut.dec (l : List Int) (i : Nat) : Decidable (badCut l i) := inferInstanceAs (Decidable (_ ∨ _))
def slC (s cuts : List Int) : Int :=
  if cuts.length ≠ 2 * s.length then 11 else if ∃ i, i < s.length ∧ badCut cuts i then 11 else if ∃ i, i < s.length ∧ s.getD i 0 < sndP cuts i then 13 else 0
def slS (s cuts : List Int) : List Int := (List.range s.length).map fun i : Nat => sndP cuts i - fstP cuts i
theorem slC_len {s cuts : List Int} (h : cuts.length ≠ 2 * s.length) : slC s cuts = 11 := if_pos h
theorem slC_bad {s cuts : List Int} {i : Nat} (hi : i < s.length) (h : badCut cuts i) : slC s cuts = 11 := by
  unfold slC
  split
  · rfl
  · rw [if_pos ⟨i, hi, h⟩]
theorem slC_out {s cuts : List Int} (hl : cuts.length = 2 * s.length) (hg : ∀ i, i < s.length → ¬ badCut cuts i) {i : Nat} (hi : i < s.length) (h : s.getD i 0 < sndP cuts i) : slC s cuts = 13 := by
  unfold slC
  rw [if_neg (by omega), if_neg (fun ⟨j, hj, hb⟩ => hg j hj hb), if_pos ⟨i, hi, h⟩]
theorem slC_ok {s cuts : List Int} (hl : cuts.length = 2 * s.length) (hg : ∀ i, i < s.length → ¬ badCut cuts i) (h : ∀ i, i < s.length → ¬ s.getD i 0 < sndP cuts i) : slC s cuts = 0 := by
  unfold slC
  rw [if_neg (by omega), if_neg (fun ⟨j, hj, hb⟩ => hg j hj hb), if_neg (fun ⟨j, hj, hb⟩ => h j hj hb)]
theorem slC_is {s cuts : List Int} (h : slC s cuts = 0) : cuts.length = 2 * s.length ∧ ∀ i, i < s.length → 0 ≤ fstP cuts i ∧ fstP cuts i < sndP cuts i ∧ sndP cuts i ≤ s.getD i 0 := by
  unfold slC at h
  split at h
  · cases h
  · next h1 =>
    split at h
    · cases h
    · next h2 =>
      split at h
      · cases h
      · next h3 =>
        refine ⟨by omega, fun i hi => ?_⟩
        have a : ¬ badCut cuts i := fun hb => h2 ⟨i, hi, hb⟩
        have b : ¬ s.getD i 0 < sndP cuts i := fun hb => h3 ⟨i, hi, hb⟩
        unfold badCut at a
        omega
theorem slS_len (s cuts : List Int) : (slS s cuts).length = s.length := by simp [slS]
theorem slS_at (s cuts : List Int) {i : Nat} (h : i < s.length) : (slS s cuts).getD i 0 = sndP cuts i - fstP cuts i := getD_map_range _ h
theorem pos_of {s : List Int} (h : ∀ i, i < s.length → 1 ≤ s.getD i 0) : posS s := fun x hx => by
  obtain ⟨i, hi, rfl⟩ := List.mem_iff_getElem.1 hx
  rw [← getD_elem hi]
  exact h i hi
theorem prod_le {a b : List Int} (hl : a.length = b.length) (h : ∀ i, i < a.length → 1 ≤ a.getD i 0 ∧ a.getD i 0 ≤ b.getD i 0) : prodS a ≤ prodS b := by
  induction a generalizing b with
  | nil => cases b with
    | nil => exact Int.le_refl _
    | cons y b => simp at hl
  | cons x a ih => cases b with
    | nil => simp at hl
    | cons y b =>
      have h0 := h 0 (by simp)
      simp at h0
      have hi : ∀ i, i < a.length → 1 ≤ a.getD i 0 ∧ a.getD i 0 ≤ b.getD i 0 := fun i hi => by simpa using h (i + 1) (by simpa using hi)
      have h1 := ih (by simpa using hl) hi
      have h2 := prodS_pos (pos_of fun i k => (hi i k).1)
      simp only [prodS]
      exact Int.mul_le_mul h0.2 h1 (by omega) (by omega)
theorem slS_ok {s cuts : List Int} (h : slC s cuts = 0) (ok : OkS s) : OkS (slS s cuts) := by
  obtain ⟨_, h2⟩ := slC_is h
  have h3 : ∀ i, i < (slS s cuts).length → 1 ≤ (slS s cuts).getD i 0 ∧ (slS s cuts).getD i 0 ≤ s.getD i 0 := fun i hi => by
    rw [slS_len] at hi
    have := h2 i hi
    rw [slS_at _ _ hi]
    omega
  exact ⟨by rw [slS_len]; exact ok.rank, pos_of fun i hi => (h3 i hi).1, Int.le_trans (prod_le (slS_len _ _) h3) ok.few⟩
def badPad (l : List Int) (i : Nat) : Prop := fstP l i < 0 ∨ sndP l i < 0
instance badPad.dec (l : List Int) (i : Nat) : Decidable (badPad l i) := inferInstanceAs (Decidable (_ ∨ _))
theorem flat2_at (f : Nat → List Int) (hf : ∀ i, (f i).length = 2) {n i : Nat} (hi : i < n) (j : Nat) (hj : j < 2) : ((List.range n).flatMap f).getD (2 * i + j) 0 = (f i).getD j 0 := by
  induction n with
  | zero => omega
  | succ n ih =>
    have hl : ((List.range n).flatMap f).length = 2 * n := by
      clear ih hi
      induction n with
      | zero => rfl
      | succ n ih => rw [List.range_succ, List.flatMap_append, List.length_append, ih]; simp [hf]; omega
    rw [List.range_succ, List.flatMap_append, List.getD_eq_getElem?_getD]
    by_cases h : i < n
    · rw [List.getElem?_append_left (by omega), ← List.getD_eq_getElem?_getD, ih h]
    · obtain rfl : i = n := by omega
      rw [List.getElem?_append_right (by omega), hl]
      simp [List.getD_eq_getElem?_getD]
end
end Go.Proofs.YtooglnhlhgmhdaaGreat
