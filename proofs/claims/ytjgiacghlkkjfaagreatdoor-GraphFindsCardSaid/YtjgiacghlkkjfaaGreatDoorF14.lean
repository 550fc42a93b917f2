/-
  Part 14 of 29: contracts and what they rest on (QGcd, TCopy, TCode0, MMath3, GMem, GRow, GEach).
-/
import Derived.Test.YtjgiacghlkkjfaaGreatDoorF1
import Derived.Test.YtjgiacghlkkjfaaGreatDoorF2
import Derived.Test.YtjgiacghlkkjfaaGreatDoorF3
import Derived.Test.YtjgiacghlkkjfaaGreatDoorF4
import Derived.Test.YtjgiacghlkkjfaaGreatDoorF5
import Derived.Test.YtjgiacghlkkjfaaGreatDoorF6
import Derived.Test.YtjgiacghlkkjfaaGreatDoorF8
import Derived.Test.YtjgiacghlkkjfaaGreatDoorF9
import Derived.Test.YtjgiacghlkkjfaaGreatDoorF10
import Derived.Test.YtjgiacghlkkjfaaGreatDoorF11
import Derived.WalkKit
import Derived.Test.YtjgiacghlkkjfaaGreatDoorRows
import Derived.OrdersHeld
import Derived.Deep.RegionHeld
import Derived.BigQuiet
import Derived.Deep.QuietTactic
import Derived.Lib.Hide
import Derived.Lib.Small
import Derived.Lib.Walk
import Derived.Lib.BitFns
import Derived.Maps.AppendAt
import Derived.RangeFuncNested
import Derived.RangeFuncBound
import Derived.RangeFuncCalls
import Derived.RangeFuncLeaves
import Derived.Shelf.Abstract
import Derived.OwnWalkIn
import Derived.TacticsInMore
import Derived.LoopNIn
import Derived.LoopIn
import Derived.RangeFuncBox
import Derived.Deep.RegionHeld3
import Derived.OrdersIn
import Derived.StillTailTactics
import Derived.RangeFuncFrom
import Derived.Laws.EntriesVeiled
import Derived.ProofKit
import Derived.OpenShut
import Derived.JoinedCond
import Derived.Carry
import Derived.Laws.AppendOwnNone
import Derived.Lib.ItoaNum
import Derived.Deep.RegionLaw
import Derived.WalkMore
import Derived.Lib.SmallJoins
import Derived.IntWalk
import Derived.Deep.DeepCutAuto
import Derived.Laws.OwnMore
import Derived.ArgAppend
import Derived.Deep.Slices
import Derived.Laws.CopyOwn
import Derived.Lib.SliceRun
import Derived.SizedLaws
import Derived.Great.BuildSlice
import Derived.Defers
import Derived.Recover
import Derived.Shelf.Small.Wraps
import Derived.Shelf.Strconv.Itoa3
import Derived.Shelf.Strconv.AtoiAll
import Derived.Laws.RangeAny
namespace Go.Proofs.YtjgiacghlkkjfaaGreatDoor
set_option maxRecDepth 100000
section
open Go.RowKit
set_option linter.unusedVariables false
set_option linter.unusedSimpArgs false
set_option maxRecDepth 100000 in
set_option maxHeartbeats 1000000 in
theorem shortGcd_any (x y : Int) (w : World) (hx : 0 ≤ x ∧ x < 18446744073709551616) (hy : 0 ≤ y ∧ y < 18446744073709551616) :
    Calls Tryz.prog 250 #[.int .u64 x, .int .u64 y] w fun e w' => e = .returned (.int .u64 (Int.gcd x y : Int)) ∧ Below w.heap.size w w' := by
  obtain ⟨hx0, hx1⟩ := hx
  obtain ⟨hy0, hy1⟩ := hy
  go_enter Tryz.func250, Tryz.ntmps250
  go_wp2
  go_loopw [0, 1] (fun p q wr => ∃ P Q : Int, p = .int .u64 P ∧ q = .int .u64 Q ∧ 0 ≤ P ∧ P < 18446744073709551616 ∧ 0 ≤ Q ∧ Q < 18446744073709551616 ∧ Int.gcd P Q = Int.gcd x y ∧ Below w.heap.size w wr) (fun _ q _ => (intOf q).toNat)
  case atStart => exact ⟨x, y, rfl, rfl, hx0, hx1, hy0, hy1, rfl, Below.refl _ _⟩
  case round =>
    obtain ⟨P, Q, rfl, rfl, hP0, hP1, hQ0, hQ1, hg, hb⟩ := hrel
    have hsz := hb.size
    have HG := Lib.hid hg
    clear hg
    by_cases hgo : 0 < Q
    · obtain ⟨m, hm⟩ : ∃ m, P % Q = m := ⟨_, rfl⟩
      have htm : Int.tmod P Q = m := by rw [Int.tmod_eq_emod_of_nonneg hP0, hm]
      have hm0 : 0 ≤ m := by rw [← hm]; exact Int.emod_nonneg _ (by omega)
      have hm1 : m < Q := by rw [← hm]; exact Int.emod_lt_of_pos _ hgo
      have hwm : IntKind.u64.wrap m = m := wrap_u64 (by omega) (by omega)
      have hq0 : Q ≠ 0 := by omega
      have hg2 : Int.gcd Q m = Int.gcd x y := by rw [← hm, gcd_step]; exact HG.out
      have HG2 := Lib.hid hg2
      clear hg2 hm
      go_wp2
      go_quiet (fail)
      go_wp2
      go_roundw
      case rel => exact ⟨Q, m, rfl, rfl, hQ0, hQ1, hm0, by omega, HG2.out, ⟨hb.os, hb.tape, hb.output, hb.size, hb.block⟩⟩
      case measure => simp [intOf]; omega
    · obtain rfl : Q = 0 := by omega
      have hfin : P = (Int.gcd x y : Int) := by rw [← HG.out]; exact (gcd_end hP0).symm
      have HF := Lib.hid hfin
      clear hfin
      go_wp2
      go_ret
      exact ⟨by rw [← HF.out]; rfl, hb⟩
/-- loops over pairs: how much is left -/
def leftN (w : World) (v : Value) : Nat := (val (readV w v)).toNat
theorem Arg.left {w : World} {u : Value} {xs : List Int} {a : Option Addr} {cap : Nat} (h : Arg w u xs a cap) : leftN w u = (val xs).toNat := by unfold leftN; rw [h.read]
theorem bits_pos {xs : List Int} (h : Wf xs) : 0 < val xs ↔ 0 < bitsN xs := by
  rcases bitsN_is h with ⟨h1, h2⟩ | ⟨j, h1, h2, _⟩
  · omega
  · have := two_pos j; omega
theorem uint_gen {u : Value} {xs : List Int} {a : Option Addr} {capa : Nat} {w : World} (h1 : Arg w u xs a capa) (hx : xs.length ≤ 35184372088832) :
    Calls Tryz.prog 249 #[u] w fun e w' => (∃ X : Int, e = .returned (.tuple #[.int .u64 X, .bool (decide (val xs < 18446744073709551616))])) ∧ w = w' := by
  by_cases h : val xs < 18446744073709551616
  · rw [decide_eq_true h]
    exact (uint_small h1 hx h).mono fun e w' ⟨he, hw⟩ => ⟨⟨_, he⟩, hw⟩
  · rw [decide_eq_false h]
    exact (uint_big h1 hx (by omega)).mono fun e w' ⟨he, hw⟩ => ⟨⟨_, he⟩, hw⟩
set_option maxRecDepth 100000 in
set_option maxHeartbeats 2000000 in
theorem gcd_any {u v : Value} {xs ys : List Int} {a b : Option Addr} {capa capb : Nat} {w : World} (h1 : Arg w u xs a capa) (h2 : Arg w v ys b capb) (hx : xs.length ≤ 134217728) (hy : ys.length ≤ 134217728) :
    Calls Tryz.prog 217 #[u, v] w fun e w' => ∃ r zs, e = .returned r ∧ Res w.heap.size w' r zs (Int.gcd (val xs) (val ys) : Int) ∧ zs.length ≤ max xs.length ys.length + 2 ∧ Below w.heap.size w w' := by
  obtain ⟨m, hm⟩ : ∃ m, max xs.length ys.length = m := ⟨_, rfl⟩
  have hm2 : m ≤ 134217728 := by omega
  have hmx : xs.length ≤ m := by omega
  have hmy : ys.length ≤ m := by omega
  rw [hm]
  clear hm hx hy
  go_enter Tryz.func217, Tryz.ntmps217
  go_wp2
  go_loopw [0, 1, 5, 6, 7, 8, 9, 10, 11] (fun p q _ _ _ _ _ _ _ wr => ∃ (p' q' : Value) (us vs : List Int) (ad bd : Option Addr) (cp cq : Nat), p' = p ∧ q' = q ∧ Arg wr p' us ad cp ∧ Arg wr q' vs bd cq ∧ us.length ≤ m ∧ vs.length ≤ m ∧ Int.gcd (val us) (val vs) = Int.gcd (val xs) (val ys) ∧ Below w.heap.size w wr) (fun _ q _ _ _ _ _ _ _ wr => leftN wr q)
  case atStart => exact ⟨u, v, xs, ys, a, b, capa, capb, rfl, rfl, h1, h2, hmx, hmy, rfl, Below.refl _ _⟩
  case round =>
    obtain ⟨p, q, us, vs, ad, bd, cp, cq, rfl, rfl, A1, A2, hu, hv, hg, hb⟩ := hrel
    have hsz := hb.size
    have HG := Lib.hid hg
    clear hg h1 h2
    have hbits := bits_res A2 (by omega) (bitsN_is A2.wf)
    obtain ⟨nb, hnb⟩ : ∃ nb, bitsN vs = nb := ⟨_, rfl⟩
    have hbp := bits_pos A2.wf
    rw [hnb] at hbits hbp
    have hu0 := val_nonneg A1.wf
    have hv0 := val_nonneg A2.wf
    clear hnb
    by_cases hgo : 0 < nb
    · have hpos := hbp.2 hgo
      have hgo2 : (0 : Int) < (nb : Int) := by omega
      by_cases hs : val us < 18446744073709551616 ∧ val vs < 18446744073709551616
      · obtain ⟨hs1, hs2⟩ := hs
        go_wp2_with fail
        refine hbits.mono ?_
        rintro e w' ⟨rfl, rfl⟩
        clear hbits
        go_wp2_with fail
        refine (uint_small A1 (by omega) hs1).mono ?_
        rintro e w' ⟨rfl, rfl⟩
        go_wp2_with fail
        refine (uint_small A2 (by omega) hs2).mono ?_
        rintro e w' ⟨rfl, rfl⟩
        go_wp2_with fail
        refine (shortGcd_any (val us) (val vs) _ ⟨hu0, hs1⟩ ⟨hv0, hs2⟩).mono ?_
        rintro e w2 ⟨rfl, hb2⟩
        have hgl : (Int.gcd (val us) (val vs) : Int) < 18446744073709551616 := by
          have h3 : Int.gcd (val us) (val vs) ∣ (val vs).natAbs := Int.gcd_dvd_natAbs_right _ _
          have h4 := Nat.le_of_dvd (by omega) h3
          omega
        have hs3 := hb2.size
        go_wp2_with fail
        refine (ofN_any _ _ (Int.natCast_nonneg _) hgl).mono ?_
        rintro e w3 ⟨r3, z3, rfl, q3, n3, hb3⟩
        have hB := (hb.trans (hb2.mono hsz)).trans (hb3.mono (by omega))
        have q3e := q3.eq
        rw [HG.out] at q3e
        have HE := Lib.hid q3e
        clear q3e hgl hs1 hs2 hgo2 hpos hbp
        go_wp2_with fail
        go_ret
        exact ⟨r3, z3, rfl, ⟨q3.num.mono (by omega), q3.wf, q3.full, HE.out⟩, by omega, hB⟩
      · by_cases hs1 : val us < 18446744073709551616
        · have hs2 : ¬ val vs < 18446744073709551616 := fun h => hs ⟨hs1, h⟩
          have d1 : decide (val us < 18446744073709551616) = true := decide_eq_true hs1
          have d2 : decide (val vs < 18446744073709551616) = false := decide_eq_false hs2
          have u1 := uint_gen A1 (by omega)
          have u2 := uint_gen A2 (by omega)
          rw [d1] at u1
          rw [d2] at u2
          clear d1 d2
          go_wp2_with fail
          refine hbits.mono ?_
          rintro e w' ⟨rfl, rfl⟩
          clear hbits
          go_wp2_with fail
          refine u1.mono ?_
          rintro e w' ⟨⟨X, rfl⟩, rfl⟩
          go_wp2_with fail
          refine u2.mono ?_
          rintro e w' ⟨⟨Y, rfl⟩, rfl⟩
          go_wp2_with fail
          refine (div_any A1 A2 (by omega) (by omega) hpos).mono ?_
          rintro e w2 ⟨r2, s2, rfl, hb2, _, ⟨z2, q2, n2, n2'⟩⟩
          obtain ⟨ad2, cap2, A3⟩ := q2.arg
          have A2' := A2.later hb2
          have hB2 := hb.trans (hb2.mono hsz)
          have hl2 := A3.left
          have hleft := A2.left
          have hr1 := Int.emod_lt_of_pos (val us) hpos
          have hr2 := Int.emod_nonneg (val us) (show val vs ≠ 0 by omega)
          have hm3 : leftN w2 s2 < leftN wr q := by rw [hleft, hl2, q2.eq]; omega
          have hg3 : Int.gcd (val vs) (val z2) = Int.gcd (val xs) (val ys) := by rw [q2.eq, gcd_step]; exact HG.out
          have HG3 := Lib.hid hg3
          have HM3 := Lib.hid hm3
          clear hg3 hm3 hr1 hr2 hl2 hleft q2 A1 A2 hb2 hpos hbp hs
          go_wp2
          go_roundw
          case rel => exact ⟨_, _, vs, z2, bd, ad2, cq, cap2, rfl, rfl, A2', A3, hv, by omega, HG3.out, hB2⟩
          case measure => exact HM3.out
        · have d1 : decide (val us < 18446744073709551616) = false := decide_eq_false hs1
          have u1 := uint_gen A1 (by omega)
          have u2 := uint_gen A2 (by omega)
          rw [d1] at u1
          generalize decide (val vs < 18446744073709551616) = f2 at u2
          clear d1
          go_wp2_with fail
          refine hbits.mono ?_
          rintro e w' ⟨rfl, rfl⟩
          clear hbits
          go_wp2_with fail
          refine u1.mono ?_
          rintro e w' ⟨⟨X, rfl⟩, rfl⟩
          go_wp2_with fail
          refine u2.mono ?_
          rintro e w' ⟨⟨Y, rfl⟩, rfl⟩
          go_wp2_with fail
          refine (div_any A1 A2 (by omega) (by omega) hpos).mono ?_
          rintro e w2 ⟨r2, s2, rfl, hb2, _, ⟨z2, q2, n2, n2'⟩⟩
          obtain ⟨ad2, cap2, A3⟩ := q2.arg
          have A2' := A2.later hb2
          have hB2 := hb.trans (hb2.mono hsz)
          have hl2 := A3.left
          have hleft := A2.left
          have hr1 := Int.emod_lt_of_pos (val us) hpos
          have hr2 := Int.emod_nonneg (val us) (show val vs ≠ 0 by omega)
          have hm3 : leftN w2 s2 < leftN wr q := by rw [hleft, hl2, q2.eq]; omega
          have hg3 : Int.gcd (val vs) (val z2) = Int.gcd (val xs) (val ys) := by rw [q2.eq, gcd_step]; exact HG.out
          have HG3 := Lib.hid hg3
          have HM3 := Lib.hid hm3
          clear hg3 hm3 hr1 hr2 hl2 hleft q2 A1 A2 hb2 hpos hbp hs
          go_wp2
          go_roundw
          case rel => exact ⟨_, _, vs, z2, bd, ad2, cq, cap2, rfl, rfl, A2', A3, hv, by omega, HG3.out, hB2⟩
          case measure => exact HM3.out
    · have h0 : nb = 0 := by omega
      have hvz : val vs = 0 := by omega
      have hfin : val us = (Int.gcd (val xs) (val ys) : Int) := by rw [← HG.out, hvz]; exact (gcd_end hu0).symm
      have HF := Lib.hid hfin
      subst h0
      have hd : decide ((0 : Int) < ((0 : Nat) : Int)) = false := by decide
      clear hfin hvz hbp
      go_wp2_with fail
      refine hbits.mono ?_
      rintro e w' ⟨rfl, rfl⟩
      clear hbits
      go_wp2_with fail
      refine (trim_res A1 (by omega)).mono ?_
      rintro e w3 ⟨r3, z3, rfl, q3, n3, hb3⟩
      have hB := hb.trans (hb3.mono hsz)
      have HE := Lib.hid (q3.eq.trans HF.out)
      go_wp2_with fail
      go_ret
      exact ⟨r3, z3, rfl, ⟨q3.num.mono hsz, q3.wf, q3.full, HE.out⟩, by omega, hB⟩
end
section
open Go.RowKit
set_option linter.unusedVariables false
set_option linter.unusedSimpArgs false
/-- a tensor as it came in -/
structure TensQ (w : World) (v : Value) (s : List Int) (qs : List Q3) (a : Option Addr) (ca : Nat) (b : Option Addr) (cb : Nat) : Prop where
  is : v = .agg #[.slice a s.length ca, .slice b qs.length cb]
  sh : ArgS w (.slice a s.length ca) s a ca
  nila : a = none → ca = 0
  el : RowA RawQ w (.slice b qs.length cb) qs b cb
  nilb : b = none → cb = 0
theorem TensQ.later {w w' : World} {v : Value} {s : List Int} {qs : List Q3} {a b : Option Addr} {ca cb : Nat} (h : TensQ w v s qs a ca b cb) (hb : Below w.heap.size w w') : TensQ w' v s qs a ca b cb :=
  ⟨h.is, h.sh.later hb, h.nila, h.el.later hb (fun v x _ k => k.later hb), h.nilb⟩
theorem infoQ : (Tryz.prog.info? 93).map (fun i => (i.zero, i.size, i.bytes)) = some (some (.agg #[.bool false, .slice none 0 0, .slice none 0 0]), 3, 56) := by kernel_rfl
theorem Kept.grown {r : Nat} {a w w' : World} {v : Value} (h : Kept r a w) (hg : w.grownBy w' v.ownBlock) (hv : v.ownBlock = none ∨ v.ownBlock = some r) : Kept r a w' := by
  refine ⟨hg.os.trans h.os, hg.tape.trans h.tape, hg.output.trans h.output, Nat.le_trans h.size hg.size, fun k hk hr => ?_⟩
  rw [hg.block k (Nat.lt_of_lt_of_le hk h.size) (by rcases hv with e | e <;> rw [e] <;> simp <;> omega)]
  exact h.block k hk hr
theorem ResS.far {base : Nat} {w w' : World} {u : Value} {zs : List Int} {g : Nat} {t : TypeId} {cs : Array Value} (h : ResS base w u zs) (R : Row w g t cs) (ht : t ≠ 3) (hk : ∀ k, k ≠ g → w'.heap[k]? = w.heap[k]?) : ResS base w' u zs := by
  refine ⟨?_, h.wf⟩
  obtain ⟨h1, h2⟩ := h.num
  refine ⟨h1, ?_⟩
  rcases h2 with h2 | ⟨k, cap, cur, rfl, hg0, hg', hc, hm, hs, ht'⟩
  · exact .inl h2
  · refine .inr ⟨k, cap, cur, rfl, hg0, (hk k ?_).trans hg', hc, hm, hs, ht'⟩
    rintro rfl
    have e := hg'.symm.trans R
    injection e with e
    injection e with _ e
    exact ht e.symm
theorem Row.set21 {w : World} {g : Nat} {t : TypeId} {a b : Value} (h : Row w g t #[a, b]) (x : Value) : Row (w.setCell ⟨g, 1, none⟩ x) g t #[a, x] := h.set 1 x
theorem RowA.low {α : Type} {P : World → Value → α → Prop} {w : World} {u : Value} {L : List α} {ad : Option Addr} {cap : Nat} (h : RowA P w u L ad cap) {b o : Nat} (hn : L ≠ []) (e : ad = some ⟨b, o, none⟩) : b < w.heap.size := by
  rcases h.els with hh | ⟨b', o', es', e', c', k'⟩
  · exact absurd hh hn
  · obtain ⟨d, _, h1, _, _⟩ := k'.at (i := 0) (by rcases Nat.eq_zero_or_pos L.length with g | g
                                                  · exact absurd (List.eq_nil_of_length_eq_zero g) hn
                                                  · exact g)
    have h3 := World.block_lt_of_cell? w _ (c' 0 d h1).1
    rw [e] at e'
    simp only [Option.some.injEq, Addr.mk.injEq] at e'
    rw [e'.1]
    exact h3
theorem ownT_slice {base sz n : Nat} {T : TypeId} {w : World} {v : Value} {xs : List Value} (h : w.ownsRow base T sz v n xs) : ∃ a c, v = .slice a n c := by
  obtain ⟨_, h2⟩ := h
  rcases h2 with ⟨rfl, rfl⟩ | ⟨g, cap, cur, rfl, _⟩
  · exact ⟨_, _, rfl⟩
  · exact ⟨_, _, rfl⟩
end
section
open Go.RowKit Go.Shelf
attribute [local go_sem] Oper.semAt_some
set_option linter.unusedVariables false
set_option linter.unusedSimpArgs false
/-- a region of wpAnyL, inside a round -/
theorem region_roundL {l n id : Nat} {P : Program} {ops : Array Oper} {Q : Exit → Act → World → Prop} {a : Act} {w : World} (S : World → Prop) (z : Nat) (hm : P.follows .mixedOrders = true) (hnd : noDefer ops = true) (hLO : ¬ LetsOut Q)
    (hS : S w.drew) (h : S w.drew → wpAnyL P .any ops Q S z ops.size (Array.replicate ops.size false) a w.drew) : (Code.region id ops true).wpIn (Fence.wide.inRound l) n P Q a w :=
  wpIn_region_any hm (wpAnyIn_of_round hnd hLO _ _ _ _ (wpAny_of_L _ _ _ _ (h hS)))
/-- all blocks of cells are as they were -/
def KeepC (W W' : World) : Prop := ∀ (k : Nat) (cur : Array Value) (t : TypeId) (fr : Nat × Nat), W.heap[k]? = some (Obj.cells cur t fr) → W'.heap[k]? = W.heap[k]?
theorem KeepC.below {W W' : World} (h : Below W.heap.size W W') : KeepC W W' := fun k _ _ _ e => h.block k (lt_of_block e)
theorem KeepC.grown {W W' : World} {row : Option Nat} (hg : W.grownBy W' row) (hr : ∀ r, row = some r → ∃ o : Obj, W.heap[r]? = some o ∧ o.isCells = false) : KeepC W W' := fun k cur t fr e =>
  hg.block k (lt_of_block e) fun e2 => by
    obtain ⟨o, ho, hc⟩ := hr k e2.symm
    rw [e] at ho
    cases ho
    cases hc
theorem keepC_row {W W' : World} {base size n : Nat} {T : TypeId} {v : Value} {xs : List Value} (k : KeepC W W') (h : W.ownsRow base T size v n xs) : W'.ownsRow base T size v n xs := by
  obtain ⟨h1, h2⟩ := h
  refine ⟨h1, ?_⟩
  rcases h2 with h2 | ⟨g, cap, cur, rfl, hg0, hh, hrest⟩
  · exact .inl h2
  · exact .inr ⟨g, cap, cur, rfl, hg0, (k _ _ _ _ hh).trans hh, hrest⟩
theorem Row.keepC {W W' : World} {B : Nat} {t : TypeId} {cs : Array Value} (h : Row W B t cs) (k : KeepC W W') : Row W' B t cs := (k _ _ _ _ h).trans h
/-- the block that an append may write to: of cells, if there is one -/
theorem ownV_hits {base size n : Nat} {T : TypeId} {w : World} {v : Value} {xs : List Value} (h : w.ownsRow base T size v n xs) (hb : base ≤ w.heap.size) :
    ∃ r, (v.ownBlock = none ∨ v.ownBlock = some r) ∧ base ≤ r ∧ (∀ g t cs, Row w g t cs → t ≠ T → g ≠ r) ∧ (∀ o, w.heap[r]? = some o → o.isCells = true) ∧ (v.ownBlock = some r ∨ r = w.heap.size) := by
  obtain ⟨_, h2⟩ := h
  rcases h2 with ⟨rfl, _⟩ | ⟨g, cap, cur, rfl, hg0, hh, hrest⟩
  · refine ⟨w.heap.size, .inl rfl, hb, fun g t cs R _ => by have := R.lt; omega, fun o ho => ?_, .inr rfl⟩
    have := lt_of_block ho
    omega
  · refine ⟨g, .inr rfl, hg0, fun k t cs R ht e => ?_, fun o ho => ?_, .inl rfl⟩
    · subst e
      have := hh.symm.trans R
      simp only [Option.some.injEq, Obj.cells.injEq] at this
      exact ht this.2.1.symm
    · rw [hh] at ho
      cases ho
      rfl
theorem keepsFrom_kept {r B : Nat} {W W' : World} (h : Kept r W W') (hr : ∀ o, W.heap[r]? = some o → o.isCells = true) : KeepsFrom B W W' := ⟨h.size, fun k o _ hk ho => by
  have hne : k ≠ r := fun e => by
    subst e
    rw [hr o hk] at ho
    cases ho
  exact (h.block k (lt_of_block hk) hne).trans hk⟩
theorem keepsFrom_set {B : Nat} {W W' : World} (h : KeepsFrom B W W') (p : Addr) (v : Value) : KeepsFrom B W (W'.setCell p v) := h.trans ((KeepsOthers.setCell W' p v).from B)
theorem keepsFrom_below {B : Nat} {W W' : World} (h : Below W.heap.size W W') : KeepsFrom B W W' := ⟨h.size, fun k o _ hk ho => (h.block k (lt_of_block hk)).trans hk⟩
def dfE : E3 := ⟨.bool false, .slice none 0 0, .slice none 0 0⟩
/-- what a round over structs is handed -/
def ratAt (es : List E3) {n : Nat} (x : Fin n) : Array Value := #[.agg #[(es[x.val]?.getD dfE).a, (es[x.val]?.getD dfE).b, (es[x.val]?.getD dfE).c]]
/-- where the structs of a slice lie: below n₀ -/
def LimE (w : World) (ad : Option Addr) (es : List E3) (n₀ : Nat) : Prop := es = [] ∨ ∃ b o, ad = some ⟨b, o, none⟩ ∧ CellsE w b o es ∧ b < n₀
theorem LimE.below {w w' : World} {ad : Option Addr} {es : List E3} {n₀ : Nat} (h : LimE w ad es n₀) (hb : Below n₀ w w') : LimE w' ad es n₀ := by
  rcases h with h | ⟨b, o, e, c, hl⟩
  · exact .inl h
  · refine .inr ⟨b, o, e, fun i d hd => ?_, hl⟩
    obtain ⟨h0, h1, h2⟩ := c i d hd
    exact ⟨(hb.cell (p := ⟨b, o + i * 3, none⟩) hl).trans h0, (hb.cell (p := ⟨b, o + i * 3 + 1, none⟩) hl).trans h1, (hb.cell (p := ⟨b, o + i * 3 + 2, none⟩) hl).trans h2⟩
theorem RowA.limE {α : Type} {P : World → Value → α → Prop} {w : World} {u : Value} {L : List α} {ad : Option Addr} {cap : Nat} (h : RowA P w u L ad cap) : ∃ es, LimE w ad es w.heap.size ∧ AllE (P w) es L := by
  rcases h.els with e | ⟨b, o, es, e, c, k⟩
  · subst e
    exact ⟨[], .inl rfl, AllE.nil _⟩
  · by_cases hn : es = []
    · exact ⟨es, .inl hn, k⟩
    · have hL : L ≠ [] := fun h => hn (List.eq_nil_of_length_eq_zero (by rw [k.1, h]; rfl))
      exact ⟨es, .inr ⟨b, o, e, c, h.low hL e⟩, k⟩
/-- the structs are of one bool and two slices -/
def ShE (es : List E3) : Prop := ∀ k, k < es.length → ∃ m a1 n1 c1 a2 n2 c2, es[k]?.getD dfE = ⟨.bool m, .slice a1 n1 c1, .slice a2 n2 c2⟩
theorem shE_of {α : Type} {P : Value → α → Prop} {es : List E3} {L : List α} (h : AllE P es L) (hP : ∀ v x, P v x → ∃ m a1 n1 c1 a2 n2 c2, v = .agg #[.bool m, .slice a1 n1 c1, .slice a2 n2 c2]) : ShE es := fun k hk => by
  obtain ⟨e, x, h1, h2, h3⟩ := h.at (i := k) (by rw [← h.1]; exact hk)
  obtain ⟨m, a1, n1, c1, a2, n2, c2, he⟩ := hP _ _ h3
  rw [h1]
  obtain ⟨p, q, r⟩ := e
  simp only [E3.agg, Value.agg.injEq, Array.mk.injEq, List.cons.injEq, and_true] at he
  obtain ⟨rfl, rfl, rfl⟩ := he
  exact ⟨m, a1, n1, c1, a2, n2, c2, rfl⟩
theorem RawQ.form {w : World} {v : Value} {q : Q3} (h : RawQ w v q) : ∃ m a1 n1 c1 a2 n2 c2, v = .agg #[.bool m, .slice a1 n1 c1, .slice a2 n2 c2] := by
  obtain ⟨_, _, _, _, rfl, _⟩ := h
  exact ⟨_, _, _, _, _, _, _, rfl⟩
theorem LimE.cells {w : World} {ad : Option Addr} {es : List E3} {n₀ : Nat} (h : LimE w ad es n₀) {k : Nat} (hk : k < es.length) : ∃ b o, ad = some ⟨b, o, none⟩ ∧ w.cell? ⟨b, o + k * 3, none⟩ = some (es[k]?.getD dfE).a ∧ w.cell? ⟨b, o + k * 3 + 1, none⟩ = some (es[k]?.getD dfE).b ∧ w.cell? ⟨b, o + k * 3 + 2, none⟩ = some (es[k]?.getD dfE).c := by
  rcases h with h | ⟨b, o, e, c, _⟩
  · subst h; simp at hk
  · have hx : es[k]? = some es[k] := List.getElem?_eq_getElem hk
    obtain ⟨h0, h1, h2⟩ := c k _ hx
    exact ⟨b, o, e, by rw [hx]; exact h0, by rw [hx]; exact h1, by rw [hx]; exact h2⟩
set_option maxRecDepth 100000 in
set_option maxHeartbeats 2000000 in
theorem allQ_in (n l Bs n₀ : Nat) (ad : Option Addr) (es : List E3) (cap : Nat) (hm : es.length ≤ 1000000000000) (hcap : es.length ≤ cap) (J Jx : List (Fin es.length) → World → Prop)
    (hJ : ∀ pre A B, J pre A → Below A.heap.size A B → J pre B)
    (hY : ∀ pre x W, J pre W → pre.length < es.length → YieldAt Fence.wide (n - 1) Tryz.prog l (ratAt es x) W fun e W' =>
      (e = .returned (.bool true) ∧ J (pre ++ [x]) W' ∧ Below n₀ W W') ∨ (e = .returned (.bool false) ∧ Jx (pre ++ [x]) W'))
    (W : World) (hn₀ : n₀ ≤ W.heap.size) (hBs : W.cell? ⟨Bs, 0, none⟩ = some (.slice ad es.length cap)) (hl : LimE W ad es n₀) (hsh : ShE es) (h0 : J [] W) :
    CallsIn Fence.wide n Tryz.prog 173 #[.func (.yield l) #[] #[], .pointer (some ⟨Bs, 0, none⟩)] W fun e W' => (∃ v, e = .returned v) ∧
      ((∃ ys, Upto ys es.length ∧ J ys W') ∨ (∃ pre, (∃ k, k ≤ es.length ∧ Upto pre k) ∧ Jx pre W')) := by
  refine callsIn_of_wp Tryz.func173 rfl trivial ?_ rfl
  simp only [Tryz.ntmps173, List.size_toArray, List.length_cons, List.length_nil, Nat.reduceAdd, Nat.reduceSub, Array.replicate_succ, Array.replicate_zero, List.push_toArray, List.append_toArray, List.nil_append, List.cons_append]
  gi_wp2_with fail
  gi_loopw [4, 7] (fun _ i wr => ∃ (k : Nat) (pre : List (Fin es.length)), k ≤ es.length ∧ i = .int .i64 k ∧ Upto pre k ∧ J pre wr ∧ Below n₀ W wr)
    (fun _ i _ => es.length - (intOf i).toNat)
  case atStart => exact ⟨0, [], Nat.zero_le _, rfl, rfl, h0, Below.refl _ _⟩
  case round =>
    obtain ⟨k, pre, hk, rfl, hup, hJs, hnx⟩ := hrel
    by_cases hlt : k < es.length
    · obtain ⟨b, o, rfl, c0, c1, c2⟩ := (hl.below hnx).cells hlt
      have hsz := hnx.size
      obtain ⟨W2, hW2⟩ : ∃ W2, wr.alloc (.cells #[(es[k]?.getD dfE).a, (es[k]?.getD dfE).b, (es[k]?.getD dfE).c] 93) = W2 := ⟨_, rfl⟩
      have hb2 : Below wr.heap.size wr W2 := by rw [← hW2]; exact (Below.refl _ _).alloc (Nat.le_refl _) _
      have R2 : Row W2 wr.heap.size 93 #[(es[k]?.getD dfE).a, (es[k]?.getD dfE).b, (es[k]?.getD dfE).c] := by rw [← hW2]; exact Row.new _ _ _
      obtain ⟨d0, d1, d2, _, _, _⟩ := R2.three
      obtain ⟨fn, tmps, assign, body, hy, hR⟩ := hY pre ⟨k, hlt⟩ W2 (hJ _ _ _ hJs hb2) (by rw [hup.length]; exact hlt)
      simp only [ratAt] at hy
      have hnx2 : Below n₀ W W2 := hnx.trans (hb2.mono (by omega))
      obtain ⟨z1, z2, z3, z4, z5, z6, z7, he⟩ := hsh k hlt
      rw [he] at hy c0 c1 c2 hW2 d0 d1 d2
      clear he R2
      have HJ := Lib.hid hJ
      have HY := Lib.hid hY
      clear hJ hY hl
      gi_wp2
      refine ⟨(fun h => by cases h), hR.mono ?_⟩
      rintro e W3 (⟨rfl, hJ3, hk3⟩ | ⟨rfl, hJx3⟩)
      · gi_wp2
        go_roundw
        case rel => exact ⟨k + 1, _, by omega, by go_num, hup.snoc hlt, hJ3, hnx2.trans hk3⟩
        case measure => simp [intOf]; omega
      · gi_wp2
        refine bodyPost_ret (results_none rfl _ _ _) rfl ?_
        exact ⟨⟨_, rfl⟩, .inr ⟨_, ⟨k + 1, by omega, hup.snoc hlt⟩, hJx3⟩⟩
    · obtain rfl : k = es.length := by omega
      gi_wp2
      go_end0
      exact ⟨⟨_, rfl⟩, .inl ⟨_, hup, hJs⟩⟩
end
section
open Go.RowKit
set_option linter.unusedVariables false
set_option linter.unusedSimpArgs false
theorem IdxP.res {B : Nat} {X : World} {ad : Option Addr} {cap : Nat} {zs : List Int} (h : IdxP B X ad cap zs) (hw : Wid zs) : ResS B X (.slice ad zs.length cap) zs := by
  rcases h with ⟨rfl, rfl, rfl⟩ | ⟨g, rfl, k1, k2, hP⟩
  · exact ResS.nil _ _
  · exact ⟨hP.num k1 k2, hw⟩
theorem wrap_range (x : Int) : -9223372036854775808 ≤ IntKind.i64.wrap x ∧ IntKind.i64.wrap x ≤ 9223372036854775807 := by
  simp only [IntKind.wrap, IntKind.bits, IntKind.signed]
  simp
  omega
theorem setBelow {B b : Nat} {w w' : World} (h : Below B w w') (hb : B ≤ b) (k : Nat) (u : Value) : Below B w (w'.setCell ⟨b, k, none⟩ u) := h.setCell hb u
end
section
open Go.RowKit
set_option linter.unusedVariables false
set_option linter.unusedSimpArgs false
/-- a row of structs of k cells -/
structure RowK {α : Type} (k : Nat) (P : World → Nat → Nat → α → Prop) (w : World) (l : List α) (ad : Option Addr) (cap : Nat) : Prop where
  le : l.length ≤ cap
  nil : ad = none → cap = 0
  els : l = [] ∨ ∃ b o, ad = some ⟨b, o, none⟩ ∧ ∀ i x, l[i]? = some x → P w b (o + i * k) x
/-- what is there stays there -/
def Stays {α : Type} (P : World → Nat → Nat → α → Prop) : Prop := ∀ w w' b o x, P w b o x → Below w.heap.size w w' → P w' b o x
theorem RowK.later {α : Type} {k : Nat} {P : World → Nat → Nat → α → Prop} (hP : Stays P) {w w' : World} {l : List α} {ad : Option Addr} {cap : Nat} (h : RowK k P w l ad cap) (hb : Below w.heap.size w w') : RowK k P w' l ad cap := by
  refine ⟨h.le, h.nil, ?_⟩
  rcases h.els with e | ⟨b, o, e, hx⟩
  · exact .inl e
  · exact .inr ⟨b, o, e, fun i x hi => hP _ _ _ _ _ (hx i x hi) hb⟩
theorem RowK.at {α : Type} {k : Nat} {P : World → Nat → Nat → α → Prop} {w : World} {l : List α} {ad : Option Addr} {cap i : Nat} (h : RowK k P w l ad cap) (hi : i < l.length) : ∃ b o x, ad = some ⟨b, o, none⟩ ∧ l[i]? = some x ∧ P w b (o + i * k) x := by
  rcases h.els with rfl | ⟨b, o, e, hx⟩
  · simp at hi
  · exact ⟨b, o, l[i], e, List.getElem?_eq_getElem hi, hx i _ (List.getElem?_eq_getElem hi)⟩
def PortK (w : World) (b o : Nat) (x : PoD) : Prop := ∃ (a : Option Addr) (c : Nat), w.cell? ⟨b, o, none⟩ = some (.string x.nm) ∧ w.cell? ⟨b, o + 1, none⟩ = some (.slice a x.s.length c) ∧ ArgS w (.slice a x.s.length c) x.s a c ∧ (a = none → c = 0)
def WgtK (w : World) (b o : Nat) (x : WeD) : Prop := ∃ (a : Option Addr) (ca : Nat) (d : Option Addr) (cd : Nat), w.cell? ⟨b, o, none⟩ = some (.string x.nm) ∧ w.cell? ⟨b, o + 1, none⟩ = some (.slice a x.s.length ca) ∧ w.cell? ⟨b, o + 2, none⟩ = some (.slice d x.q.length cd) ∧ TensQ w (.agg #[.slice a x.s.length ca, .slice d x.q.length cd]) x.s x.q a ca d cd
def NodK (w : World) (b o : Nat) (x : NoD) : Prop := ∃ (a : Option Addr) (ca : Nat) (d : Option Addr) (cd : Nat), w.cell? ⟨b, o, none⟩ = some (.int .i64 x.o) ∧ w.cell? ⟨b, o + 1, none⟩ = some (.slice a x.ys.length ca) ∧ w.cell? ⟨b, o + 2, none⟩ = some (.slice d x.xs.length cd) ∧ ArgS w (.slice a x.ys.length ca) x.ys a ca ∧ (a = none → ca = 0) ∧ ArgS w (.slice d x.xs.length cd) x.xs d cd ∧ (d = none → cd = 0)
theorem oldCell {w w' : World} {p : Addr} {v : Value} (h : w.cell? p = some v) (hb : Below w.heap.size w w') : w'.cell? p = some v := (hb.cell (World.block_lt_of_cell? w _ h)).trans h
theorem stays_port : Stays PortK := fun w w' b o x h hb => by
  obtain ⟨a, c, h0, h1, h2, h3⟩ := h
  exact ⟨a, c, oldCell h0 hb, oldCell h1 hb, h2.later hb, h3⟩
theorem stays_wgt : Stays WgtK := fun w w' b o x h hb => by
  obtain ⟨a, c, d, e, h0, h1, h2, h3⟩ := h
  exact ⟨a, c, d, e, oldCell h0 hb, oldCell h1 hb, oldCell h2 hb, h3.later hb⟩
theorem stays_nod : Stays NodK := fun w w' b o x h hb => by
  obtain ⟨a, c, d, e, h0, h1, h2, h3, h4, h5, h6⟩ := h
  exact ⟨a, c, d, e, oldCell h0 hb, oldCell h1 hb, oldCell h2 hb, h3.later hb, h4, h5.later hb, h6⟩
/-- where a graph's rows lie -/
structure AdG where
  pa : Option Addr
  pc : Nat
  wa : Option Addr
  wc : Nat
  na : Option Addr
  nc : Nat
  oa : Option Addr
  oc : Nat
  va : Option Addr
  vc : Nat
  ua : Option Addr
  uc : Nat
def cellsG (g : GrD) (A : AdG) : Array Value := #[.int .i64 g.v, .slice A.pa g.ps.length A.pc, .slice A.wa g.ws.length A.wc, .slice A.na g.b.ns.length A.nc, .slice A.oa g.b.os.length A.oc, .bool g.hv, .slice A.va g.vb.ns.length A.vc, .slice A.ua g.vb.os.length A.uc]
structure GrA (w : World) (g : GrD) (A : AdG) : Prop where
  ps : RowK 2 PortK w g.ps A.pa A.pc
  ws : RowK 3 WgtK w g.ws A.wa A.wc
  ns : RowK 3 NodK w g.b.ns A.na A.nc
  os : ArgS w (.slice A.oa g.b.os.length A.oc) g.b.os A.oa A.oc
  osn : A.oa = none → A.oc = 0
  vs : RowK 3 NodK w g.vb.ns A.va A.vc
  us : ArgS w (.slice A.ua g.vb.os.length A.uc) g.vb.os A.ua A.uc
  usn : A.ua = none → A.uc = 0
theorem GrA.later {w w' : World} {g : GrD} {A : AdG} (h : GrA w g A) (hb : Below w.heap.size w w') : GrA w' g A :=
  ⟨h.ps.later stays_port hb, h.ws.later stays_wgt hb, h.ns.later stays_nod hb, h.os.later hb, h.osn, h.vs.later stays_nod hb, h.us.later hb, h.usn⟩
/-- how great the parts of a graph may be -/
structure LimG (g : GrD) : Prop where
  v : -9223372036854775808 ≤ g.v ∧ g.v ≤ 9223372036854775807
  ps : g.ps.length ≤ 17592186044416
  pn : ∀ x ∈ g.ps, x.nm.size ≤ 140737488355328 ∧ x.s.length ≤ 17592186044416
  ws : g.ws.length ≤ 17592186044416
  wn : ∀ x ∈ g.ws, x.nm.size ≤ 140737488355328 ∧ x.s.length ≤ 1048576 ∧ x.q.length ≤ 1048576 ∧ ∀ q ∈ x.q, q.num.length ≤ 1048576 ∧ q.den.length ≤ 1048576
  ns : g.b.ns.length ≤ 17592186044416
  nn : ∀ x ∈ g.b.ns, x.ys.length ≤ 17592186044416 ∧ x.xs.length ≤ 17592186044416
  os : g.b.os.length ≤ 17592186044416
  vs : g.vb.ns.length ≤ 17592186044416
  vn : ∀ x ∈ g.vb.ns, x.ys.length ≤ 17592186044416 ∧ x.xs.length ≤ 17592186044416
  us : g.vb.os.length ≤ 17592186044416
end
section
open Go.RowKit
set_option linter.unusedVariables false
set_option linter.unusedSimpArgs false
/-- a row of structs of k cells, of the call's own: of each struct its cells -/
def RowC {α : Type} (base : Nat) (T : TypeId) (k : Nat) (Q : World → List Value → α → Prop) (w : World) (v : Value) (l : List α) : Prop :=
  ∃ cs : List (List Value), w.ownsRow base T k v l.length cs.flatten ∧ cs.length = l.length ∧ (∀ c ∈ cs, c.length = k) ∧ ∀ (i : Nat) (c : List Value) (x : α), cs[i]? = some c → l[i]? = some x → Q w c x
/-- what is said of a struct's cells outlasts what comes later -/
def LatC {α : Type} (Q : World → List Value → α → Prop) : Prop := ∀ w w' c x, Q w c x → Below w.heap.size w w' → Q w' c x
/-- .. and an append to a row of type T -/
def ApaC {α : Type} (base : Nat) (T : TypeId) (k : Nat) (Q : World → List Value → α → Prop) : Prop :=
  ∀ w w1 o v n xs c x, World.ownsRow w base T k v n xs → (w.alloc o).grownBy w1 v.ownBlock → Q w c x → Q w1 c x
theorem RowC.later {α : Type} {base : Nat} {T : TypeId} {k : Nat} {Q : World → List Value → α → Prop} (hQ : LatC Q) {w w' : World} {v : Value} {l : List α} (h : RowC base T k Q w v l) (hb : Below w.heap.size w w') : RowC base T k Q w' v l := by
  obtain ⟨cs, h1, h2, h3, h4⟩ := h
  refine ⟨cs, ?_, h2, h3, fun i c x a b => hQ _ _ _ _ (h4 i c x a b) hb⟩
  obtain ⟨k1, k2⟩ := h1
  refine ⟨k1, ?_⟩
  rcases k2 with k2 | ⟨g, cap, cur, rfl, hg, hh, hr⟩
  · exact .inl k2
  · exact .inr ⟨g, cap, cur, rfl, hg, (hb.block g (lt_of_block hh)).trans hh, hr⟩
theorem ownsMono {base base' size n : Nat} {T : TypeId} {w : World} {v : Value} {xs : List Value} (h : w.ownsRow base T size v n xs) (hb : base' ≤ base) : w.ownsRow base' T size v n xs := by
  obtain ⟨h1, h2⟩ := h
  refine ⟨h1, ?_⟩
  rcases h2 with h2 | ⟨g, cap, cur, rfl, hg0, hr⟩
  · exact .inl h2
  · exact .inr ⟨g, cap, cur, rfl, Nat.le_trans hb hg0, hr⟩
theorem RowC.mono {α : Type} {base base' : Nat} {T : TypeId} {k : Nat} {Q Q' : World → List Value → α → Prop} {w : World} {v : Value} {l : List α} (h : RowC base T k Q w v l) (hb : base' ≤ base) (hQ : ∀ c x, x ∈ l → Q w c x → Q' w c x) : RowC base' T k Q' w v l := by
  obtain ⟨cs, h1, h2, h3, h4⟩ := h
  exact ⟨cs, ownsMono h1 hb, h2, h3, fun i c x a b => hQ _ _ (List.mem_of_getElem? b) (h4 i c x a b)⟩
theorem RowC.slice {α : Type} {base : Nat} {T : TypeId} {k : Nat} {Q : World → List Value → α → Prop} {w : World} {v : Value} {l : List α} (h : RowC base T k Q w v l) : ∃ a c, v = .slice a l.length c := by
  obtain ⟨cs, h1, _⟩ := h
  exact ownT_slice h1
theorem flatten_at {k : Nat} : ∀ {cs : List (List Value)} {i j : Nat} {c : List Value}, (∀ c ∈ cs, c.length = k) → cs[i]? = some c → j < k → cs.flatten[i * k + j]? = c[j]?
  | [], i, j, c, _, h, _ => by simp at h
  | d :: r, 0, j, c, h, hi, hj => by
    simp only [List.getElem?_cons_zero, Option.some.injEq] at hi
    subst hi
    have hl := h d (List.mem_cons_self ..)
    rw [List.flatten_cons, List.getElem?_append_left (by omega)]
    congr 1
    omega
  | d :: r, i + 1, j, c, h, hi, hj => by
    have hl := h d (List.mem_cons_self ..)
    have ih := flatten_at (cs := r) (i := i) (j := j) (c := c) (fun c hc => h c (List.mem_cons_of_mem _ hc)) (by simpa using hi) hj
    rw [List.flatten_cons, List.getElem?_append_right (by rw [hl, Nat.succ_mul]; omega), hl, ← ih]
    congr 1
    rw [Nat.succ_mul]; omega
/-- such a row reads as one that came in -/
theorem RowC.rowK {α : Type} {base : Nat} {T : TypeId} {k : Nat} {Q : World → List Value → α → Prop} {P : World → Nat → Nat → α → Prop} {w : World} {v : Value} {l : List α} (h : RowC base T k Q w v l)
    (hP : ∀ b o c x, x ∈ l → Q w c x → c.length = k → (∀ j u, c[j]? = some u → w.cell? ⟨b, o + j, none⟩ = some u) → P w b o x) : ∃ ad cap, v = .slice ad l.length cap ∧ RowK k P w l ad cap := by
  obtain ⟨cs, ⟨h1, h2⟩, h3, h4, h5⟩ := h
  rcases h2 with ⟨rfl, hz⟩ | ⟨g, cap, cur, rfl, hb, hg, hc, hm, hs, ht⟩
  · have e : l = [] := List.eq_nil_of_length_eq_zero hz
    subst e
    exact ⟨none, 0, rfl, ⟨Nat.le_refl _, fun _ => rfl, .inl rfl⟩⟩
  · refine ⟨_, cap, rfl, ⟨hc, (fun h => by cases h), .inr ⟨g, 0, rfl, fun i x hx => ?_⟩⟩⟩
    have hi : i < l.length := by
      rcases Nat.lt_or_ge i l.length with h | h
      · exact h
      · rw [List.getElem?_eq_none h] at hx; cases hx
    have hci : cs[i]? = some cs[i] := List.getElem?_eq_getElem (by omega)
    refine hP g (0 + i * k) cs[i] x (List.mem_of_getElem? hx) (h5 i _ x hci hx) (h4 _ (List.getElem_mem _)) (fun j u hj => ?_)
    have hjk : j < k := by
      rcases Nat.lt_or_ge j k with h | h
      · exact h
      · rw [List.getElem?_eq_none (by rw [h4 _ (List.getElem_mem _)]; exact h)] at hj; cases hj
    have hlt : i * k + j < l.length * k := by
      have : (i + 1) * k ≤ l.length * k := Nat.mul_le_mul_right _ hi
      rw [Nat.succ_mul] at this
      omega
    have e1 := flatten_at h4 hci hjk
    rw [← ht, List.getElem?_take, if_pos hlt, Array.getElem?_toList] at e1
    rw [Nat.zero_add]
    exact (cell_of_row w g _ cur _ _ hg).trans (e1.trans hj)
/-- one struct more -/
theorem RowC.push {α : Type} {base : Nat} {T : TypeId} {k : Nat} {Q : World → List Value → α → Prop} (hA : ApaC base T k Q) {w w1 : World} {o : Obj} {v v' : Value} {l : List α} {cs : List (List Value)} {c : List Value} {x : α}
    (hown : w.ownsRow base T k v l.length cs.flatten) (h2 : cs.length = l.length) (h3 : ∀ c ∈ cs, c.length = k) (h4 : ∀ (i : Nat) (c : List Value) (x : α), cs[i]? = some c → l[i]? = some x → Q w c x) (hc : c.length = k) (hx : Q w c x)
    (hown' : w1.ownsRow base T k v' (l.length + 1) (cs.flatten ++ c)) (hg : (w.alloc o).grownBy w1 v.ownBlock) : RowC base T k Q w1 v' (l ++ [x]) := by
  refine ⟨cs ++ [c], ?_, by simp [h2], ?_, fun i d y a b => hA _ _ _ _ _ _ _ _ hown hg ?_⟩
  · rw [List.length_append, List.flatten_append, List.flatten_cons, List.flatten_nil, List.append_nil]
    exact hown'
  · intro d hd
    rcases List.mem_append.1 hd with hd | hd
    · exact h3 d hd
    · rw [List.mem_singleton.1 hd]; exact hc
  · by_cases hlt : i < cs.length
    · rw [List.getElem?_append_left hlt] at a
      rw [List.getElem?_append_left (by omega)] at b
      exact h4 i d y a b
    · rw [List.getElem?_append_right (by omega)] at a b
      have e0 : i - cs.length = 0 := by
        rcases Nat.eq_zero_or_pos (i - cs.length) with h | h
        · exact h
        · rw [List.getElem?_eq_none (by simp; omega)] at a; cases a
      rw [e0] at a
      rw [show i - l.length = 0 by omega] at b
      simp only [List.getElem?_cons_zero, Option.some.injEq] at a b
      subst a
      subst b
      exact hx
theorem RowC.made {α : Type} (base : Nat) (T : TypeId) (k : Nat) (Q : World → List Value → α → Prop) (w : World) (cur : Array Value) (cap : Nat) (hb : base ≤ w.heap.size) (hm : cap ≤ maxLen) (hs : cur.size = cap * k) :
    RowC base T k Q (w.alloc (.cells cur T)) (.slice (some ⟨w.heap.size, 0, none⟩) 0 cap) ([] : List α) := ⟨[], World.ownsRow_made w cur cap hb hm hs, rfl, (fun c h => nomatch h), (fun i c x h => by simp at h)⟩
theorem RowC.nil {α : Type} (base : Nat) (T : TypeId) (k : Nat) (Q : World → List Value → α → Prop) (w : World) : RowC base T k Q w (.slice none 0 0) ([] : List α) := ⟨[], World.ownsRow_nil _ _ _ _, rfl, (fun c h => nomatch h), (fun i c x h => by simp at h)⟩
/-- a shape that lies there -/
def ShpQ (w0 : World) (w : World) (c : List Value) (x : List Int) : Prop := ∃ (a : Option Addr) (n : Nat), c = [.slice a x.length n] ∧ ArgS w0 (.slice a x.length n) x a n ∧ (a = none → n = 0) ∧ Below w0.heap.size w0 w
/-- a shape of one's own -/
def ShpO (B : Nat) (w : World) (c : List Value) (x : List Int) : Prop := ∃ (a : Option Addr) (n : Nat), c = [.slice a x.length n] ∧ ResS B w (.slice a x.length n) x
theorem lat_shpO (B : Nat) : LatC (ShpO B) := fun w w' c x h hb => by
  obtain ⟨a, n, rfl, h⟩ := h
  exact ⟨a, n, rfl, h.later hb⟩
theorem apa_shpO (base B : Nat) : ApaC base 43 1 (ShpO B) := fun w w1 o v n xs c x ho hg h => by
  obtain ⟨a, n, rfl, h⟩ := h
  exact ⟨a, n, rfl, h.apart2 ho hg (by decide)⟩
theorem lat_shpQ (w0 : World) : LatC (ShpQ w0) := fun w w' c x h hb => by
  obtain ⟨a, n, rfl, h1, h2, h3⟩ := h
  exact ⟨a, n, rfl, h1, h2, h3.trans (hb.mono h3.size)⟩
theorem apa_shpQ (w0 : World) : ApaC w0.heap.size 43 1 (ShpQ w0) := fun w w1 o v n xs c x ho hg h => by
  obtain ⟨a, m, rfl, h1, h2, h3⟩ := h
  exact ⟨a, m, rfl, h1, h2, (h3.alloc h3.size o).grown hg (by have := h3.size; simp; omega) (fun q hq => (World.ownsRow.lt ho q hq).1)⟩
/-- a row of shapes of one's own reads as one that came in -/
theorem RowC.rowL {base : Nat} {T : TypeId} {Q : World → List Value → List Int → Prop} {w : World} {v : Value} {l : List (List Int)} (h : RowC base T 1 Q w v l)
    (hQ : ∀ c x, x ∈ l → Q w c x → ∃ (a : Option Addr) (n : Nat), c = [.slice a x.length n] ∧ ArgS w (.slice a x.length n) x a n ∧ (a = none → n = 0)) : ∃ ad cap, v = .slice ad l.length cap ∧ RowL w (.slice ad l.length cap) l ad cap ∧ (ad = none → cap = 0) := by
  obtain ⟨ad, cap, e, R⟩ := h.rowK (P := fun w b o x => ∃ (a : Option Addr) (n : Nat), w.cell? ⟨b, o, none⟩ = some (.slice a x.length n) ∧ ArgS w (.slice a x.length n) x a n ∧ (a = none → n = 0)) (fun b o c x hx hq hl hc => by
    obtain ⟨a, n, rfl, h1, h2⟩ := hQ c x hx hq
    exact ⟨a, n, hc 0 _ rfl, h1, h2⟩)
  refine ⟨ad, cap, e, ⟨rfl, R.le, ?_⟩, R.nil⟩
  rcases R.els with e | ⟨b, o, e, hx⟩
  · exact .inl e
  · refine .inr ⟨b, o, e, fun i x hi => ?_⟩
    have := hx i x hi
    rw [Nat.mul_one] at this
    exact this
end
section
open Go.RowKit
set_option linter.unusedVariables false
set_option linter.unusedSimpArgs false
theorem infoShape13 : (Tryz.prog.info? 43).map (fun i => (i.zero, i.size, i.bytes)) = some (some (.slice none 0 0), 1, 24) := by kernel_rfl
theorem makeShape13 (m : Nat) (hc : m ≤ 1000000) (w : World) :
    (Instr.makeSlice 36 (.int .i64 0) (.int .i64 (m : Int))).run Tryz.prog w = .ok (.slice (some ⟨w.heap.size, 0, none⟩) 0 m) (w.alloc (.cells (madeCells #[.slice none 0 0] (m * 1)) 43)) := by
  obtain ⟨i0, hi, hz0, hz1, hz2⟩ := info_parts infoShape13
  have h := run_make (P := Tryz.prog) w 36 43 i0 (.slice none 0 0) Tryz.underlying36 hi hz0 .i64 .i64 0 m (by omega) (by omega) (by rw [hz2]; omega) (by omega)
  simpa [hz1, Value.cells] using h
theorem rowLater13 {B n k : Nat} {w w' : World} {T : TypeId} {v : Value} {vals : List Value} (h : w.ownsRow B T k v n vals) (hb : Below w.heap.size w w') : w'.ownsRow B T k v n vals := by
  obtain ⟨k1, k2⟩ := h
  refine ⟨k1, ?_⟩
  rcases k2 with k2 | ⟨g, cap, cur, rfl, hg, hh, hr⟩
  · exact .inl k2
  · exact .inr ⟨g, cap, cur, rfl, hg, (hb.block g (lt_of_block hh)).trans hh, hr⟩
/-- each element gives something, or one dies -/
def EachI (okB : Int → Bool) (c0 : Int) (ys : List Int) (e : Ending) (w w' : World) (R : Value → Prop) : Prop :=
  if ys.all okB = true then ∃ v, e = .returned v ∧ R v ∧ Below w.heap.size w w' else e = .panicked (diesV c0) ∧ Below w.heap.size w w'
theorem EachI.bad {okB : Int → Bool} {c0 : Int} {ys : List Int} {w w' : World} {R : Value → Prop} (h : ys.all okB = false) (hb : Below w.heap.size w w') : EachI okB c0 ys (.panicked (diesV c0)) w w' R := by
  unfold EachI
  rw [if_neg (by rw [h]; simp)]
  exact ⟨rfl, hb⟩
theorem EachI.good {okB : Int → Bool} {c0 : Int} {ys : List Int} {e : Ending} {w w' : World} {R : Value → Prop} (h : ys.all okB = true) (k : ∃ v, e = .returned v ∧ R v ∧ Below w.heap.size w w') : EachI okB c0 ys e w w' R := by
  unfold EachI
  rw [if_pos h]
  exact k
set_option maxRecDepth 100000 in
set_option maxHeartbeats 8000000 in
theorem eachPS_any {F : Nat} {cap : Array Value} {β : Type} {f : PoD → β} {Q : World → List Value → β → Prop} {ys : List PoD} {ad : Option Addr} {ca : Nat} {w : World} (A0 : RowK 2 PortK w ys ad ca) (hl : ys.length ≤ 1000000) (heF : ∀ args w, (callFunc F args).run Tryz.prog w = .ok (.enter F args) w)
    (hlat : LatC Q) (hapa : ApaC w.heap.size 43 1 Q)
    (hdo : ∀ W x (a1 : Option Addr) (c1 : Nat), x ∈ ys → ArgS W (.slice a1 x.s.length c1) x.s a1 c1 → (a1 = none → c1 = 0) → Below w.heap.size w W → Calls Tryz.prog F (#[.agg #[.string x.nm, .slice a1 x.s.length c1]] ++ cap) W fun e w' => ∃ (a : Option Addr) (n c : Nat), e = .returned (.slice a n c) ∧ Q w' [.slice a n c] (f x) ∧ Below W.heap.size W w') :
    Calls Tryz.prog 143 #[.slice ad ys.length ca, .func (.func F) #[] cap] w fun e w' => ∃ v, e = .returned v ∧ RowC w.heap.size 43 1 Q w' v (ys.map f) ∧ Below w.heap.size w w' := by
  obtain ⟨i0, hi, hz0, hz1, hz2⟩ := info_parts infoShape13
  have HA := Lib.hid A0
  have HDO := Lib.hid hdo
  have HLAT := Lib.hid hlat
  have HAPA := Lib.hid hapa
  obtain ⟨L, hL⟩ : ∃ L, ys.length = L := ⟨_, rfl⟩
  have HL := Lib.hid hL
  rw [hL] at hl ⊢
  have hmk := makeShape13 L hl w
  have hmade := RowC.made w.heap.size 43 1 Q w (madeCells #[.slice none 0 0] (L * 1)) L (Nat.le_refl _) (by unfold maxLen; omega) (madeP_len _ _)
  have hbm : Below w.heap.size w (w.alloc (.cells (madeCells #[.slice none 0 0] (L * 1)) 43)) := (Below.refl _ _).alloc (Nat.le_refl _) _
  obtain ⟨V, hV⟩ : ∃ V, w.alloc (.cells (madeCells #[.slice none 0 0] (L * 1)) 43) = V := ⟨_, rfl⟩
  rw [hV] at hmade hbm hmk
  have HM := Lib.hid hmade
  have HB := Lib.hid hbm
  clear A0 hdo hlat hapa hL hmade hbm hV
  go_enter Tryz.func143, Tryz.ntmps143
  go_wp2_with fail
  clear hmk
  go_loopw [5, 13] (fun v i wr => ∃ j : Nat, i = .int .i64 (j : Int) ∧ j ≤ L ∧ RowC w.heap.size 43 1 Q wr v ((ys.take j).map f) ∧ Below w.heap.size w wr) (fun _ i _ => L - (intOf i).toNat)
  case atStart => exact ⟨0, rfl, Nat.zero_le _, HM.out, HB.out⟩
  case round =>
    obtain ⟨j, rfl, hj, hrow, hb⟩ := hrel
    have hszi := hb.size
    by_cases hlt : j < L
    · have hltI : (j : Int) < (L : Int) := by omega
      obtain ⟨b1, o1, x, rfl, hx, a1, c1, k0, k1, hA, hn⟩ := (HA.out.later stays_port hb).at (i := j) (by rw [HL.out]; exact hlt)
      have bA : Below wr.heap.size wr (wr.alloc (.cells #[.string x.nm, .slice a1 x.s.length c1] 74)) := (Below.refl _ _).alloc (Nat.le_refl _) _
      have hcall := HDO.out (wr.alloc (.cells #[.string x.nm, .slice a1 x.s.length c1] 74)) x a1 c1 (List.mem_of_getElem? hx) (hA.later bA) hn (hb.trans (bA.mono hb.size))
      obtain ⟨lx, hlx⟩ : ∃ n, x.s.length = n := ⟨_, rfl⟩
      rw [hlx] at hcall k1 bA
      have HBA := Lib.hid bA
      have HX := Lib.hid hx
      have HCA := Lib.hid hcall
      have HROW := Lib.hid hrow
      clear hx hcall hrow bA hlx hA hn
      go_wp2_with fail
      refine HCA.out.mono ?_
      rintro e y1 ⟨a, n, c, rfl, hq1, hy0⟩
      have hy : Below wr.heap.size wr y1 := HBA.out.trans (hy0.mono HBA.out.size)
      have hbE : Below w.heap.size w y1 := hb.trans (hy.mono hszi)
      clear hy0
      have hszE := hbE.size
      obtain ⟨cs, ho, e2, e3, e4⟩ := HROW.out.later HLAT.out hy
      have hlen : ((ys.take j).map f).length = j := by rw [List.length_map, List.length_take, HL.out]; omega
      have HO := Lib.hid ho
      rw [hlen] at ho
      obtain ⟨av, cv, rfl⟩ := ownT_slice ho
      have H3 := Lib.hid (And.intro e2 (And.intro e3 (And.intro e4 hq1)))
      have HOJ := Lib.hid ho
      have HLEN := Lib.hid hlen
      clear e2 e3 e4 hq1 hlen ho
      go_wp2_with (at_builtin; (refine wpList_append_own _ rfl _ _ 36 rfl w.heap.size 43 i0 _ 1 24 Tryz.underlying36 hi hz0 hz1 hz2 rfl (by decide) _ j cs.flatten rfl (rowLater13 HOJ.out ((Below.refl _ _).alloc (Nat.le_refl _) _)) ⟨y1.heap.size, 0, none⟩ 1 1 [.slice a n c] rfl rfl (cell_one_new _ _ _) (by simp [Value.oneCell']) (by unfold maxLen; omega) (by omega) (by simp; omega) ?_; intro v' w6 hown' hgrow _))
      have hb6 : Below w.heap.size w w6 := (hbE.alloc hszE _).grown hgrow (by simp; omega) (fun q hq => (World.ownsRow.lt HOJ.out q hq).1)
      have hN : RowC w.heap.size 43 1 Q w6 v' ((ys.take (j + 1)).map f) := by
        rw [take_nextN HX.out, List.map_append]
        exact RowC.push HAPA.out HO.out H3.out.1 H3.out.2.1 H3.out.2.2.1 rfl H3.out.2.2.2 (by rw [HLEN.out]; exact hown') hgrow
      have HNN := Lib.hid hN
      clear hN hown' hgrow
      go_wp2_with fail
      go_roundw
      case rel => exact ⟨j + 1, by go_num, by omega, HNN.out, hb6⟩
      case measure => simp [intOf]; omega
    · obtain rfl : j = L := by omega
      have hltI : ¬ (j : Int) < (j : Int) := by omega
      have htk : ys.take j = ys := List.take_of_length_le (by rw [HL.out]; exact Nat.le_refl _)
      rw [htk] at hrow
      have HROW := Lib.hid hrow
      clear hrow htk
      go_wp2_with fail
      go_ret
      exact ⟨_, rfl, HROW.out, hb⟩
set_option maxRecDepth 100000 in
set_option maxHeartbeats 8000000 in
theorem eachWS_any {F : Nat} {cap : Array Value} {β : Type} {f : WeD → β} {Q : World → List Value → β → Prop} {ys : List WeD} {ad : Option Addr} {ca : Nat} {w : World} (A0 : RowK 3 WgtK w ys ad ca) (hl : ys.length ≤ 1000000) (heF : ∀ args w, (callFunc F args).run Tryz.prog w = .ok (.enter F args) w)
    (hlat : LatC Q) (hapa : ApaC w.heap.size 43 1 Q)
    (hdo : ∀ W x (a1 : Option Addr) (c1 : Nat) (a2 : Option Addr) (c2 : Nat), x ∈ ys → TensQ W (.agg #[.slice a1 x.s.length c1, .slice a2 x.q.length c2]) x.s x.q a1 c1 a2 c2 → Below w.heap.size w W → Calls Tryz.prog F (#[.agg #[.string x.nm, .slice a1 x.s.length c1, .slice a2 x.q.length c2]] ++ cap) W fun e w' => ∃ (a : Option Addr) (n c : Nat), e = .returned (.slice a n c) ∧ Q w' [.slice a n c] (f x) ∧ Below W.heap.size W w') :
    Calls Tryz.prog 145 #[.slice ad ys.length ca, .func (.func F) #[] cap] w fun e w' => ∃ v, e = .returned v ∧ RowC w.heap.size 43 1 Q w' v (ys.map f) ∧ Below w.heap.size w w' := by
  obtain ⟨i0, hi, hz0, hz1, hz2⟩ := info_parts infoShape13
  have HA := Lib.hid A0
  have HDO := Lib.hid hdo
  have HLAT := Lib.hid hlat
  have HAPA := Lib.hid hapa
  obtain ⟨L, hL⟩ : ∃ L, ys.length = L := ⟨_, rfl⟩
  have HL := Lib.hid hL
  rw [hL] at hl ⊢
  have hmk := makeShape13 L hl w
  have hmade := RowC.made w.heap.size 43 1 Q w (madeCells #[.slice none 0 0] (L * 1)) L (Nat.le_refl _) (by unfold maxLen; omega) (madeP_len _ _)
  have hbm : Below w.heap.size w (w.alloc (.cells (madeCells #[.slice none 0 0] (L * 1)) 43)) := (Below.refl _ _).alloc (Nat.le_refl _) _
  obtain ⟨V, hV⟩ : ∃ V, w.alloc (.cells (madeCells #[.slice none 0 0] (L * 1)) 43) = V := ⟨_, rfl⟩
  rw [hV] at hmade hbm hmk
  have HM := Lib.hid hmade
  have HB := Lib.hid hbm
  clear A0 hdo hlat hapa hL hmade hbm hV
  go_enter Tryz.func145, Tryz.ntmps145
  go_wp2_with fail
  clear hmk
  go_loopw [5, 13] (fun v i wr => ∃ j : Nat, i = .int .i64 (j : Int) ∧ j ≤ L ∧ RowC w.heap.size 43 1 Q wr v ((ys.take j).map f) ∧ Below w.heap.size w wr) (fun _ i _ => L - (intOf i).toNat)
  case atStart => exact ⟨0, rfl, Nat.zero_le _, HM.out, HB.out⟩
  case round =>
    obtain ⟨j, rfl, hj, hrow, hb⟩ := hrel
    have hszi := hb.size
    by_cases hlt : j < L
    · have hltI : (j : Int) < (L : Int) := by omega
      obtain ⟨b1, o1, x, rfl, hx, a1, c1, a2, c2, k0, k1, k2, hA⟩ := (HA.out.later stays_wgt hb).at (i := j) (by rw [HL.out]; exact hlt)
      have bA : Below wr.heap.size wr (wr.alloc (.cells #[.string x.nm, .slice a1 x.s.length c1, .slice a2 x.q.length c2] 67)) := (Below.refl _ _).alloc (Nat.le_refl _) _
      have hcall := HDO.out (wr.alloc (.cells #[.string x.nm, .slice a1 x.s.length c1, .slice a2 x.q.length c2] 67)) x a1 c1 a2 c2 (List.mem_of_getElem? hx) (hA.later bA) (hb.trans (bA.mono hb.size))
      obtain ⟨lx, hlx⟩ : ∃ n, x.s.length = n := ⟨_, rfl⟩
      obtain ⟨ly, hly⟩ : ∃ n, x.q.length = n := ⟨_, rfl⟩
      rw [hlx, hly] at hcall bA
      rw [hlx] at k1
      rw [hly] at k2
      have HBA := Lib.hid bA
      have HX := Lib.hid hx
      have HCA := Lib.hid hcall
      have HROW := Lib.hid hrow
      clear hx hcall hrow bA hlx hly hA
      go_wp2_with fail
      refine HCA.out.mono ?_
      rintro e y1 ⟨a, n, c, rfl, hq1, hy0⟩
      have hy : Below wr.heap.size wr y1 := HBA.out.trans (hy0.mono HBA.out.size)
      have hbE : Below w.heap.size w y1 := hb.trans (hy.mono hszi)
      clear hy0
      have hszE := hbE.size
      obtain ⟨cs, ho, e2, e3, e4⟩ := HROW.out.later HLAT.out hy
      have hlen : ((ys.take j).map f).length = j := by rw [List.length_map, List.length_take, HL.out]; omega
      have HO := Lib.hid ho
      rw [hlen] at ho
      obtain ⟨av, cv, rfl⟩ := ownT_slice ho
      have H3 := Lib.hid (And.intro e2 (And.intro e3 (And.intro e4 hq1)))
      have HOJ := Lib.hid ho
      have HLEN := Lib.hid hlen
      clear e2 e3 e4 hq1 hlen ho
      go_wp2_with (at_builtin; (refine wpList_append_own _ rfl _ _ 36 rfl w.heap.size 43 i0 _ 1 24 Tryz.underlying36 hi hz0 hz1 hz2 rfl (by decide) _ j cs.flatten rfl (rowLater13 HOJ.out ((Below.refl _ _).alloc (Nat.le_refl _) _)) ⟨y1.heap.size, 0, none⟩ 1 1 [.slice a n c] rfl rfl (cell_one_new _ _ _) (by simp [Value.oneCell']) (by unfold maxLen; omega) (by omega) (by simp; omega) ?_; intro v' w6 hown' hgrow _))
      have hb6 : Below w.heap.size w w6 := (hbE.alloc hszE _).grown hgrow (by simp; omega) (fun q hq => (World.ownsRow.lt HOJ.out q hq).1)
      have hN : RowC w.heap.size 43 1 Q w6 v' ((ys.take (j + 1)).map f) := by
        rw [take_nextN HX.out, List.map_append]
        exact RowC.push HAPA.out HO.out H3.out.1 H3.out.2.1 H3.out.2.2.1 rfl H3.out.2.2.2 (by rw [HLEN.out]; exact hown') hgrow
      have HNN := Lib.hid hN
      clear hN hown' hgrow
      go_wp2_with fail
      go_roundw
      case rel => exact ⟨j + 1, by go_num, by omega, HNN.out, hb6⟩
      case measure => simp [intOf]; omega
    · obtain rfl : j = L := by omega
      have hltI : ¬ (j : Int) < (j : Int) := by omega
      have htk : ys.take j = ys := List.take_of_length_le (by rw [HL.out]; exact Nat.le_refl _)
      rw [htk] at hrow
      have HROW := Lib.hid hrow
      clear hrow htk
      go_wp2_with fail
      go_ret
      exact ⟨_, rfl, HROW.out, hb⟩
set_option maxRecDepth 100000 in
set_option maxHeartbeats 8000000 in
theorem eachIS_any {F : Nat} {cap : Array Value} {β : Type} {f : Int → β} {Q : World → List Value → β → Prop} {okB : Int → Bool} {c0 : Int} {ys : List Int} {ad : Option Addr} {ca : Nat} {w : World} (A0 : ArgS w (.slice ad ys.length ca) ys ad ca) (hl : ys.length ≤ 1000000) (heF : ∀ args w, (callFunc F args).run Tryz.prog w = .ok (.enter F args) w)
    (hlat : LatC Q) (hapa : ApaC w.heap.size 43 1 Q)
    (hdo : ∀ W (x : Int), x ∈ ys → Below w.heap.size w W → Calls Tryz.prog F (#[.int .i64 x] ++ cap) W fun e w' => ∃ (a : Option Addr) (n c : Nat), e = (if okB x = true then .returned (.slice a n c) else .panicked (diesV c0)) ∧ (okB x = true → Q w' [.slice a n c] (f x)) ∧ Below W.heap.size W w') :
    Calls Tryz.prog 63 #[.slice ad ys.length ca, .func (.func F) #[] cap] w fun e w' => EachI okB c0 ys e w w' (fun v => RowC w.heap.size 43 1 Q w' v (ys.map f)) := by
  obtain ⟨i0, hi, hz0, hz1, hz2⟩ := info_parts infoShape13
  have HA := Lib.hid A0
  have HDO := Lib.hid hdo
  have HLAT := Lib.hid hlat
  have HAPA := Lib.hid hapa
  obtain ⟨L, hL⟩ : ∃ L, ys.length = L := ⟨_, rfl⟩
  have HL := Lib.hid hL
  rw [hL] at hl ⊢
  have hmk := makeShape13 L hl w
  have hmade := RowC.made w.heap.size 43 1 Q w (madeCells #[.slice none 0 0] (L * 1)) L (Nat.le_refl _) (by unfold maxLen; omega) (madeP_len _ _)
  have hbm : Below w.heap.size w (w.alloc (.cells (madeCells #[.slice none 0 0] (L * 1)) 43)) := (Below.refl _ _).alloc (Nat.le_refl _) _
  obtain ⟨V, hV⟩ : ∃ V, w.alloc (.cells (madeCells #[.slice none 0 0] (L * 1)) 43) = V := ⟨_, rfl⟩
  rw [hV] at hmade hbm hmk
  have HM := Lib.hid hmade
  have HB := Lib.hid hbm
  clear A0 hdo hlat hapa hL hmade hbm hV
  go_enter Tryz.func63, Tryz.ntmps63
  go_wp2_with fail
  clear hmk
  go_loopw [5, 13] (fun v i wr => ∃ j : Nat, i = .int .i64 (j : Int) ∧ j ≤ L ∧ RowC w.heap.size 43 1 Q wr v ((ys.take j).map f) ∧ Below w.heap.size w wr ∧ Hid ((ys.take j).all okB = true)) (fun _ i _ => L - (intOf i).toNat)
  case atStart => exact ⟨0, rfl, Nat.zero_le _, HM.out, HB.out, Lib.hid rfl⟩
  case round =>
    obtain ⟨j, rfl, hj, hrow, hb, hall⟩ := hrel
    have hszi := hb.size
    by_cases hlt : j < L
    · have hltI : (j : Int) < (L : Int) := by omega
      obtain ⟨b1, o1, rfl, k0⟩ := (HA.out.later hb).at (i := j) (by rw [HL.out]; exact hlt)
      have hx : ys[j]? = some (ys.getD j 0) := by
        rw [List.getD_eq_getElem?_getD, List.getElem?_eq_getElem (by rw [HL.out]; exact hlt)]
        rfl
      obtain ⟨x, hxe⟩ : ∃ x, ys.getD j 0 = x := ⟨_, rfl⟩
      rw [hxe] at k0 hx
      have hcall := HDO.out wr x (List.mem_of_getElem? hx) hb
      have HX := Lib.hid hx
      have HCA := Lib.hid hcall
      have HROW := Lib.hid hrow
      clear hx hxe hcall hrow
      go_wp2_with fail
      refine HCA.out.mono ?_
      rintro e y1 ⟨a, n, c, he, hq, hy⟩
      have hbE : Below w.heap.size w y1 := hb.trans (hy.mono hszi)
      by_cases hok : okB x = true
      · rw [if_pos hok] at he
        subst he
        have hq1 := hq hok
        clear hq
        have hszE := hbE.size
        obtain ⟨cs, ho, e2, e3, e4⟩ := HROW.out.later HLAT.out hy
        have hlen : ((ys.take j).map f).length = j := by rw [List.length_map, List.length_take, HL.out]; omega
        have HO := Lib.hid ho
        rw [hlen] at ho
        obtain ⟨av, cv, rfl⟩ := ownT_slice ho
        have H3 := Lib.hid (And.intro e2 (And.intro e3 (And.intro e4 hq1)))
        have HOJ := Lib.hid ho
        have HLEN := Lib.hid hlen
        clear e2 e3 e4 hq1 hlen ho
        go_wp2_with (at_builtin; (refine wpList_append_own _ rfl _ _ 36 rfl w.heap.size 43 i0 _ 1 24 Tryz.underlying36 hi hz0 hz1 hz2 rfl (by decide) _ j cs.flatten rfl (rowLater13 HOJ.out ((Below.refl _ _).alloc (Nat.le_refl _) _)) ⟨y1.heap.size, 0, none⟩ 1 1 [.slice a n c] rfl rfl (cell_one_new _ _ _) (by simp [Value.oneCell']) (by unfold maxLen; omega) (by omega) (by simp; omega) ?_; intro v' w6 hown' hgrow _))
        have hb6 : Below w.heap.size w w6 := (hbE.alloc hszE _).grown hgrow (by simp; omega) (fun q hq => (World.ownsRow.lt HOJ.out q hq).1)
        have hN : RowC w.heap.size 43 1 Q w6 v' ((ys.take (j + 1)).map f) := by
          rw [take_nextN HX.out, List.map_append]
          exact RowC.push HAPA.out HO.out H3.out.1 H3.out.2.1 H3.out.2.2.1 rfl H3.out.2.2.2 (by rw [HLEN.out]; exact hown') hgrow
        have HNN := Lib.hid hN
        clear hN hown' hgrow
        go_wp2_with fail
        go_roundw
        case rel => exact ⟨j + 1, by go_num, by omega, HNN.out, hb6, Lib.hid (by rw [take_nextN HX.out, List.all_append, hall.out]; simp [hok])⟩
        case measure => simp [intOf]; omega
      · rw [if_neg hok] at he
        subst he
        clear hq
        go_wp2_with fail
        (try rw [Exit.noGoto_panic])
        refine ⟨rfl, ?_⟩
        exact EachI.bad (Bool.eq_false_iff.2 fun h => hok (List.all_eq_true.1 h x (List.mem_of_getElem? HX.out))) hbE
    · obtain rfl : j = L := by omega
      have hltI : ¬ (j : Int) < (j : Int) := by omega
      have htk : ys.take j = ys := List.take_of_length_le (by rw [HL.out]; exact Nat.le_refl _)
      rw [htk] at hrow hall
      have HROW := Lib.hid hrow
      clear hrow htk
      go_wp2_with fail
      go_ret
      exact EachI.good hall.out ⟨_, rfl, HROW.out, hb⟩
end
end Go.Proofs.YtjgiacghlkkjfaaGreatDoor
