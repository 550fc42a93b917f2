/-
  Part 5 of 21: contracts and what they rest on (RVar, SRef, TCopy, TBits, TCode0, POpen, MMath2, MTurnA, OKit, OOpen, FPool).
-/
import Derived.Test.YtdcggcfgkhlblaaL1
import Derived.Test.YtdcggcfgkhlblaaL2
import Derived.WalkKit
import Derived.Test.YtdcggcfgkhlblaaRows
import Derived.OrdersHeld
import Derived.Deep.RegionHeld
import Derived.BigQuiet
import Derived.Deep.QuietTactic
import Derived.Lib.Hide
import Derived.Lib.Small
import Derived.Lib.Walk
import Derived.Lib.BitFns
import Derived.Maps.AppendAt
import Derived.RangeFuncNested
import Derived.RangeFuncBound
import Derived.RangeFuncCalls
import Derived.RangeFuncLeaves
import Derived.Shelf.Abstract
import Derived.OwnWalkIn
import Derived.TacticsInMore
import Derived.LoopNIn
import Derived.LoopIn
import Derived.RangeFuncBox
import Derived.Deep.RegionHeld3
import Derived.OrdersIn
import Derived.StillTailTactics
import Derived.RangeFuncFrom
import Derived.Laws.EntriesVeiled
import Derived.ProofKit
import Derived.OpenShut
import Derived.JoinedCond
import Derived.Carry
import Derived.Laws.AppendOwnNone
import Derived.Lib.ItoaNum
import Derived.Deep.RegionLaw
import Derived.WalkMore
import Derived.Lib.SmallJoins
import Derived.IntWalk
import Derived.Deep.DeepCutAuto
import Derived.Laws.OwnMore
import Derived.ArgAppend
import Derived.Deep.Slices
import Derived.Laws.CopyOwn
import Derived.Lib.SliceRun
import Derived.SizedLaws
import Derived.Great.BuildSlice
namespace Go.Proofs.Ytdcggcfgkhlblaa
set_option maxRecDepth 100000
section
open Go.RowKit Go.ChangeShapes Go.WideShapes Go.ChangeAt
set_option linter.unusedVariables false
set_option linter.unusedSimpArgs false
theorem afterSet3 {K : World → Prop} {V : World} {g : Nat} {t : TypeId} {a b c x y z : Value} (R : Row V g t #[a, b, c]) (h : ∀ X, Only g V X → Row X g t #[x, y, z] → K X) :
    K (((V.setCell ⟨g, 0, none⟩ x).setCell ⟨g, 1, none⟩ y).setCell ⟨g, 2, none⟩ z) :=
  h _ (((Only.set V g 0 x).trans (Only.set _ g 1 y)).trans (Only.set _ g 2 z)) (R.set3 x y z)
end
section
open Go.RowKit
set_option linter.unusedVariables false
set_option linter.unusedSimpArgs false
set_option maxRecDepth 100000 in
set_option maxHeartbeats 2000000 in
theorem mayR6_any {u : Value} {xs : List Int} {ad : Option Addr} {cap : Nat} {w : World} (A : ArgS w u xs ad cap) :
    Calls Try.prog 20 #[u] w fun e w' => e = .returned (.int .i64 (mayC xs)) ∧ w = w' := by
  have HA := Lib.hid A
  obtain rfl := A.is
  obtain ⟨L, hL⟩ : ∃ L, xs.length = L := ⟨_, rfl⟩
  have HL := Lib.hid hL
  obtain ⟨c, hc⟩ : ∃ c, mayC xs = c := ⟨_, rfl⟩
  have HC := Lib.hid hc
  rw [hL, hc]
  clear A hL hc
  by_cases h4 : 4 < L
  · obtain rfl : c = 14 := by rw [← HC.out]; exact mayC_rank (by rw [HL.out]; exact h4)
    have h4I : (4 : Int) < (L : Int) := by omega
    go_enter Try.func20, Try.ntmps20
    go_wp2
    go_ret
    exact ⟨rfl, rfl⟩
  · have h4I : ¬ (4 : Int) < (L : Int) := by omega
    go_enter Try.func20, Try.ntmps20
    go_wp2
    go_loop [3] (fun i => ∃ k : Nat, i = .int .i64 (k : Int) ∧ k ≤ L ∧ posS (xs.take k)) (fun i => L - (intOf i).toNat)
    case atStart => exact ⟨0, rfl, Nat.zero_le _, fun x h => by simp at h⟩
    case round =>
      obtain ⟨k, rfl, hkL, hp⟩ := hrel
      have HP := Lib.hid hp
      clear hp
      by_cases hlt : k < L
      · obtain ⟨b, off, rfl, hc⟩ := HA.out.at (i := k) (by rw [HL.out]; exact hlt)
        have hx : xs[k]? = some (xs.getD k 0) := by rw [List.getD_eq_getElem?_getD, List.getElem?_eq_getElem (by rw [HL.out]; exact hlt)]; rfl
        obtain ⟨x, hxe⟩ : ∃ x, xs.getD k 0 = x := ⟨_, rfl⟩
        rw [hxe] at hc hx
        have HX := Lib.hid hx
        have hltI : (k : Int) < (L : Int) := by omega
        clear hxe hx
        by_cases h1 : x < 1
        · obtain rfl : c = 13 := by
            rw [← HC.out]
            refine mayC_dim (by rw [HL.out]; omega) fun hp => ?_
            have := hp x (List.mem_of_getElem? HX.out)
            omega
          go_wp2
          go_ret
          exact ⟨rfl, rfl⟩
        · go_wp2
          go_round
          case rel =>
            refine ⟨k + 1, by go_num, by omega, fun y hy => ?_⟩
            rw [List.take_add_one, HX.out, Option.toList_some] at hy
            rcases List.mem_append.1 hy with h | h
            · exact HP.out y h
            · rw [List.mem_singleton.1 h]; omega
          case measure => simp [intOf]; omega
      · obtain rfl : k = L := by omega
        have hpos : posS xs := by
          have := HP.out
          rwa [List.take_of_length_le (by rw [HL.out]; exact Nat.le_refl _)] at this
        have hltI : ¬ (k : Int) < (k : Int) := by omega
        have HQ := Lib.hid hpos
        clear hpos
        go_wp2
        go_loop [4, 5] (fun n i => ∃ j : Nat, i = .int .i64 (j : Int) ∧ j ≤ k ∧ n = .int .i64 (prodS (xs.take j)) ∧ prodS (xs.take j) ≤ 1024) (fun _ i => k - (intOf i).toNat)
        case atStart => exact ⟨0, rfl, Nat.zero_le _, rfl, by simp [prodS]⟩
        case round =>
          obtain ⟨j, rfl, hjk, rfl, hn⟩ := hrel
          have hn1 := prodS_pos (HQ.out.take j)
          obtain ⟨n, hne⟩ : ∃ n, prodS (xs.take j) = n := ⟨_, rfl⟩
          rw [hne] at hn hn1 ⊢
          by_cases hjl : j < k
          · obtain ⟨b, off, rfl, hc⟩ := HA.out.at (i := j) (by rw [HL.out]; exact hjl)
            have hx1 := HQ.out.getD (i := j) (by rw [HL.out]; exact hjl)
            have hst := prodS_take (s := xs) (k := j) (by rw [HL.out]; exact hjl)
            have hle := getD_le_prod HQ.out (k := j) (by rw [HL.out]; exact hjl)
            have hle2 := prodS_take_le HQ.out (j + 1)
            obtain ⟨x, hxe⟩ : ∃ x, xs.getD j 0 = x := ⟨_, rfl⟩
            rw [hxe] at hc hx1 hst hle
            rw [hne] at hst
            rw [hst] at hle2
            have HST := Lib.hid hst
            have HLE := Lib.hid hle
            have HLE2 := Lib.hid hle2
            have hjI : (j : Int) < (k : Int) := by omega
            clear hxe hne hst hle hle2
            by_cases hbig : 1024 < x
            · obtain rfl : c = 14 := by
                rw [← HC.out]
                exact mayC_count (by rw [HL.out]; omega) HQ.out (by have := HLE.out; omega)
              go_wp2
              go_ret
              exact ⟨rfl, rfl⟩
            · have hm0 : 0 ≤ n * x := Int.mul_nonneg (by omega) (by omega)
              have hm1 : n * x ≤ 1024 * 1024 := Int.mul_le_mul (by omega) (by omega) (by omega) (by omega)
              have hw : IntKind.i64.wrap (n * x) = n * x := IntWalk.i64_in _ (by omega)
              obtain ⟨m, hm⟩ : ∃ m, n * x = m := ⟨_, rfl⟩
              rw [hm] at hm0 hm1 hw
              have HM := Lib.hid hm
              by_cases hbig2 : 1024 < m
              · obtain rfl : c = 14 := by
                  rw [← HC.out]
                  exact mayC_count (by rw [HL.out]; omega) HQ.out (by have := HLE2.out; have := HM.out; omega)
                go_wp2
                go_ret
                exact ⟨rfl, rfl⟩
              · go_wp2
                go_round
                case rel => exact ⟨j + 1, by go_num, by omega, by rw [HST.out, HM.out], by rw [HST.out, HM.out]; omega⟩
                case measure => simp [intOf]; omega
          · obtain rfl : j = k := by omega
            obtain rfl : c = 0 := by
              rw [← HC.out]
              refine mayC_ok ⟨by rw [HL.out]; omega, HQ.out, ?_⟩
              rw [List.take_of_length_le (by rw [HL.out]; exact Nat.le_refl _)] at hne
              rw [hne]
              exact hn
            have hjI : ¬ (j : Int) < (j : Int) := by omega
            clear hne
            go_wp2
            go_ret
            exact ⟨rfl, rfl⟩
set_option maxRecDepth 100000 in
set_option maxHeartbeats 2000000 in
theorem countR6_any {u : Value} {xs : List Int} {ad : Option Addr} {cap : Nat} {w : World} (A : ArgS w u xs ad cap) :
    Calls Try.prog 18 #[u] w fun e w' => e = .returned (.int .i64 (countS xs)) ∧ w = w' := by
  have hm := mayR6_any A
  have HA := Lib.hid A
  obtain rfl := A.is
  by_cases h0 : mayC xs = 0
  · have ok := mayC_zero.1 h0
    rw [ok.count]
    rw [h0] at hm
    obtain ⟨L, hL⟩ : ∃ L, xs.length = L := ⟨_, rfl⟩
    have HL := Lib.hid hL
    obtain ⟨P, hP⟩ : ∃ P, prodS xs = P := ⟨_, rfl⟩
    have HP := Lib.hid hP
    rw [hL] at hm ⊢
    rw [hP]
    have HO := Lib.hid ok
    have h4 : L ≤ 4 := by rw [← hL]; exact ok.rank
    clear A hL hP ok h0
    go_enter Try.func18, Try.ntmps18
    go_wp2_with (go_at_call 20; refine hm.mono ?_; rintro e w1 ⟨rfl, rfl⟩)
    clear hm
    go_loop [3, 4] (fun n i => ∃ j : Nat, i = .int .i64 (j : Int) ∧ j ≤ L ∧ n = .int .i64 (prodS (xs.take j))) (fun _ i => L - (intOf i).toNat)
    case atStart => exact ⟨0, rfl, Nat.zero_le _, rfl⟩
    case round =>
      obtain ⟨j, rfl, hjk, rfl⟩ := hrel
      have hn1 := prodS_pos (HO.out.pos.take j)
      have hn2 := prodS_take_le HO.out.pos j
      have hf := HO.out.few
      obtain ⟨n, hne⟩ : ∃ n, prodS (xs.take j) = n := ⟨_, rfl⟩
      rw [hne] at hn1 hn2 ⊢
      by_cases hjl : j < L
      · obtain ⟨b, off, rfl, hc⟩ := HA.out.at (i := j) (by rw [HL.out]; exact hjl)
        have hx1 := HO.out.pos.getD (i := j) (by rw [HL.out]; exact hjl)
        have hst := prodS_take (s := xs) (k := j) (by rw [HL.out]; exact hjl)
        have hle := getD_le_prod HO.out.pos (k := j) (by rw [HL.out]; exact hjl)
        obtain ⟨x, hxe⟩ : ∃ x, xs.getD j 0 = x := ⟨_, rfl⟩
        rw [hxe] at hc hx1 hst hle
        rw [hne] at hst
        have hm0 : 0 ≤ n * x := Int.mul_nonneg (by omega) (by omega)
        have hm1 : n * x ≤ 1024 * 1024 := Int.mul_le_mul (by omega) (by omega) (by omega) (by omega)
        have hw : wrap64 (n * x) = n * x := by unfold wrap64; omega
        have HST := Lib.hid hst
        have hjI : (j : Int) < (L : Int) := by omega
        clear hxe hne hst hle hf hn2
        go_wp2
        go_round
        case rel => exact ⟨j + 1, by go_num, by omega, by rw [HST.out]⟩
        case measure => simp [intOf]; omega
      · obtain rfl : j = L := by omega
        obtain rfl : n = P := by
          rw [← hne, List.take_of_length_le (by rw [HL.out]; exact Nat.le_refl _)]; exact HP.out
        have hjI : ¬ (j : Int) < (j : Int) := by omega
        clear hne
        go_wp2
        go_ret
        exact ⟨rfl, rfl⟩
  · rw [count_bad h0]
    obtain ⟨c, hc⟩ : ∃ c, mayC xs = c := ⟨_, rfl⟩
    rw [hc] at hm h0
    have hne : (c != 0) = true := by simpa using h0
    clear h0 hc A
    go_enter Try.func18, Try.ntmps18
    go_wp2_with (go_at_call 20; refine hm.mono ?_; rintro e w1 ⟨rfl, rfl⟩)
    go_ret
    exact ⟨rfl, rfl⟩
end
section
open Go.RowKit
set_option linter.unusedVariables false
set_option linter.unusedSimpArgs false
theorem Kept.grown {r : Nat} {a w w' : World} {v : Value} (h : Kept r a w) (hg : w.grownBy w' v.ownBlock) (hv : v.ownBlock = none ∨ v.ownBlock = some r) : Kept r a w' := by
  refine ⟨hg.os.trans h.os, hg.tape.trans h.tape, hg.output.trans h.output, Nat.le_trans h.size hg.size, fun k hk hr => ?_⟩
  rw [hg.block k (Nat.lt_of_lt_of_le hk h.size) (by rcases hv with e | e <;> rw [e] <;> simp <;> omega)]
  exact h.block k hk hr
theorem ResS.far {base : Nat} {w w' : World} {u : Value} {zs : List Int} {g : Nat} {t : TypeId} {cs : Array Value} (h : ResS base w u zs) (R : Row w g t cs) (ht : t ≠ 3) (hk : ∀ k, k ≠ g → w'.heap[k]? = w.heap[k]?) : ResS base w' u zs := by
  refine ⟨?_, h.wf⟩
  obtain ⟨h1, h2⟩ := h.num
  refine ⟨h1, ?_⟩
  rcases h2 with h2 | ⟨k, cap, cur, rfl, hg0, hg', hc, hm, hs, ht'⟩
  · exact .inl h2
  · refine .inr ⟨k, cap, cur, rfl, hg0, (hk k ?_).trans hg', hc, hm, hs, ht'⟩
    rintro rfl
    have e := hg'.symm.trans R
    injection e with e
    injection e with _ e
    exact ht e.symm
theorem ownT_slice {base sz n : Nat} {T : TypeId} {w : World} {v : Value} {xs : List Value} (h : w.ownsRow base T sz v n xs) : ∃ a c, v = .slice a n c := by
  obtain ⟨_, h2⟩ := h
  rcases h2 with ⟨rfl, rfl⟩ | ⟨g, cap, cur, rfl, _⟩
  · exact ⟨_, _, rfl⟩
  · exact ⟨_, _, rfl⟩
end
section
open Go.RowKit
set_option linter.unusedVariables false
set_option linter.unusedSimpArgs false
theorem ResS.at_ {base : Nat} {w : World} {ad : Option Addr} {n cap : Nat} {xs : List Int} (h : ResS base w (.slice ad n cap) xs) : n = xs.length ∧ ArgS w (.slice ad n cap) xs ad cap ∧ (ad = none → cap = 0) := by
  obtain ⟨ad', cap', e, _, A, hn⟩ := h.slice
  simp only [Value.slice.injEq] at e
  obtain ⟨rfl, rfl, rfl⟩ := e
  exact ⟨rfl, A, hn⟩
end
section
open Go.RowKit Go.Shelf
attribute [local go_sem] Oper.semAt_some
set_option linter.unusedVariables false
set_option linter.unusedSimpArgs false
/-- a region of wpAnyL, inside a round -/
theorem region_roundL {l n id : Nat} {P : Program} {ops : Array Oper} {Q : Exit → Act → World → Prop} {a : Act} {w : World} (S : World → Prop) (z : Nat) (hm : P.follows .mixedOrders = true) (hnd : noDefer ops = true) (hLO : ¬ LetsOut Q)
    (hS : S w.drew) (h : S w.drew → wpAnyL P .any ops Q S z ops.size (Array.replicate ops.size false) a w.drew) : (Code.region id ops true).wpIn (Fence.wide.inRound l) n P Q a w :=
  wpIn_region_any hm (wpAnyIn_of_round hnd hLO _ _ _ _ (wpAny_of_L _ _ _ _ (h hS)))
/-- all blocks of cells are as they were -/
def KeepC (W W' : World) : Prop := ∀ (k : Nat) (cur : Array Value) (t : TypeId) (fr : Nat × Nat), W.heap[k]? = some (Obj.cells cur t fr) → W'.heap[k]? = W.heap[k]?
theorem KeepC.below {W W' : World} (h : Below W.heap.size W W') : KeepC W W' := fun k _ _ _ e => h.block k (lt_of_block e)
theorem KeepC.grown {W W' : World} {row : Option Nat} (hg : W.grownBy W' row) (hr : ∀ r, row = some r → ∃ o : Obj, W.heap[r]? = some o ∧ o.isCells = false) : KeepC W W' := fun k cur t fr e =>
  hg.block k (lt_of_block e) fun e2 => by
    obtain ⟨o, ho, hc⟩ := hr k e2.symm
    rw [e] at ho
    cases ho
    cases hc
theorem keepC_row {W W' : World} {base size n : Nat} {T : TypeId} {v : Value} {xs : List Value} (k : KeepC W W') (h : W.ownsRow base T size v n xs) : W'.ownsRow base T size v n xs := by
  obtain ⟨h1, h2⟩ := h
  refine ⟨h1, ?_⟩
  rcases h2 with h2 | ⟨g, cap, cur, rfl, hg0, hh, hrest⟩
  · exact .inl h2
  · exact .inr ⟨g, cap, cur, rfl, hg0, (k _ _ _ _ hh).trans hh, hrest⟩
theorem Row.keepC {W W' : World} {B : Nat} {t : TypeId} {cs : Array Value} (h : Row W B t cs) (k : KeepC W W') : Row W' B t cs := (k _ _ _ _ h).trans h
/-- the block that an append may write to: of cells, if there is one -/
theorem ownV_hits {base size n : Nat} {T : TypeId} {w : World} {v : Value} {xs : List Value} (h : w.ownsRow base T size v n xs) (hb : base ≤ w.heap.size) :
    ∃ r, (v.ownBlock = none ∨ v.ownBlock = some r) ∧ base ≤ r ∧ (∀ g t cs, Row w g t cs → t ≠ T → g ≠ r) ∧ (∀ o, w.heap[r]? = some o → o.isCells = true) ∧ (v.ownBlock = some r ∨ r = w.heap.size) := by
  obtain ⟨_, h2⟩ := h
  rcases h2 with ⟨rfl, _⟩ | ⟨g, cap, cur, rfl, hg0, hh, hrest⟩
  · refine ⟨w.heap.size, .inl rfl, hb, fun g t cs R _ => by have := R.lt; omega, fun o ho => ?_, .inr rfl⟩
    have := lt_of_block ho
    omega
  · refine ⟨g, .inr rfl, hg0, fun k t cs R ht e => ?_, fun o ho => ?_, .inl rfl⟩
    · subst e
      have := hh.symm.trans R
      simp only [Option.some.injEq, Obj.cells.injEq] at this
      exact ht this.2.1.symm
    · rw [hh] at ho
      cases ho
      rfl
theorem keepsFrom_kept {r B : Nat} {W W' : World} (h : Kept r W W') (hr : ∀ o, W.heap[r]? = some o → o.isCells = true) : KeepsFrom B W W' := ⟨h.size, fun k o _ hk ho => by
  have hne : k ≠ r := fun e => by
    subst e
    rw [hr o hk] at ho
    cases ho
  exact (h.block k (lt_of_block hk) hne).trans hk⟩
theorem keepsFrom_set {B : Nat} {W W' : World} (h : KeepsFrom B W W') (p : Addr) (v : Value) : KeepsFrom B W (W'.setCell p v) := h.trans ((KeepsOthers.setCell W' p v).from B)
theorem keepsFrom_below {B : Nat} {W W' : World} (h : Below W.heap.size W W') : KeepsFrom B W W' := ⟨h.size, fun k o _ hk ho => (h.block k (lt_of_block hk)).trans hk⟩
end
section
open Go.RowKit Go.ChangeShapes Go.WideShapes Go.ChangeAt Go.Joins Go.Deep
set_option linter.unusedVariables false
set_option linter.unusedSimpArgs false
set_option maxRecDepth 100000
theorem laid8 : laidOutB Try.prog = true := by kernel_rfl
theorem bytesInt8 : Try.prog.bytesOf 3 = 8 := by kernel_rfl
theorem open_intsW {H : Type} {enc : TypeId × Value → H} {W : World} {v : Value} {y : DataW H × List MemPlace} {fuel : Nat} {T : TypeId} (hT : Try.prog.underlying T = some (.slice 3))
    (hf : DataW.trod enc Try.prog W 0 (fun _ => true) true fuel T [v] = some y) : ∃ ad xs cap, v = .slice ad xs.length cap ∧ ArgS W (.slice ad xs.length cap) xs ad cap ∧ (xs.length = 0 ∨ xs.length * 8 ∈ DataW.weights Try.prog T y.1 ∨ ∃ m, xs.length ≤ m ∧ m * 8 ∈ DataW.weights Try.prog T y.1) ∧ (ad = none → cap = 0) := by
  rcases open_ints hT Try.underlying3 cellsInt7 hf with ⟨hcs, hx⟩ | ⟨a, n, cap, zs, hcs, _, hl, hm, hz, hx, hcell, hwz⟩
  · simp only [List.cons.injEq, and_true] at hcs
    subst hcs
    exact ⟨none, [], 0, rfl, ⟨rfl, .inl rfl, Nat.le_refl _, Wid.nil⟩, .inl rfl, fun _ => rfl⟩
  · simp only [List.cons.injEq, and_true] at hcs
    subst hcs
    subst hx
    simp only [if_true] at hz
    have hlen : (zs.take n).length = n := by rw [List.length_take]; omega
    refine ⟨some a, zs.take n, cap, by rw [hlen], ⟨rfl, ?_, by rw [hlen]; exact hl, fun x hx => wf_int7 (hwz x (List.mem_of_mem_take hx))⟩, .inr (.inr ⟨(lits .i64 (zs.take n) : List (DataW H)).length + (lits .i64 (zs.drop n) : List (DataW H)).length, by simp [lits], by simp [DataW.weights, hT, bytesInt8]⟩), fun e => by cases e⟩
    by_cases h0 : n = 0
    · exact .inl (by simp [h0])
    · obtain ⟨b, off, rfl, hc⟩ := ints_at hcell (by omega)
      refine .inr ⟨b, off, rfl, fun i hi => ?_⟩
      rw [hlen] at hi
      rw [hc i (by omega)]
      simp [hi]
end
section
set_option linter.unusedVariables false
set_option linter.unusedSimpArgs false
def slS (s cuts : List Int) : List Int := (List.range s.length).map fun i : Nat => sndP cuts i - fstP cuts i
theorem slS_len (s cuts : List Int) : (slS s cuts).length = s.length := by simp [slS]
theorem slS_at (s cuts : List Int) {i : Nat} (h : i < s.length) : (slS s cuts).getD i 0 = sndP cuts i - fstP cuts i := getD_map_range _ h
theorem pos_of {s : List Int} (h : ∀ i, i < s.length → 1 ≤ s.getD i 0) : posS s := fun x hx => by
  obtain ⟨i, hi, rfl⟩ := List.mem_iff_getElem.1 hx
  rw [← getD_elem hi]
  exact h i hi
end
section
open Go.RowKit
set_option linter.unusedVariables false
set_option linter.unusedSimpArgs false
/-- the places of a shape, in their order -/
def placesTo (s : List Int) (n : Nat) : List (List Int) := (List.range n).map fun k : Nat => idxS s (k : Int)
def places (s : List Int) : List (List Int) := placesTo s (prodS s).toNat
end
section
open Go.RowKit
set_option linter.unusedVariables false
set_option linter.unusedSimpArgs false
/-- a node as it came in -/
structure NodeA (w : World) (v : Value) (o : Int) (ys xs : List Int) (a1 : Option Addr) (c1 : Nat) (a2 : Option Addr) (c2 : Nat) : Prop where
  is : v = .agg #[.int .i64 o, .slice a1 ys.length c1, .slice a2 xs.length c2]
  args : ArgS w (.slice a1 ys.length c1) ys a1 c1
  nil1 : a1 = none → c1 = 0
  atts : ArgS w (.slice a2 xs.length c2) xs a2 c2
  nil2 : a2 = none → c2 = 0
theorem NodeA.later {w w' : World} {v : Value} {o : Int} {ys xs : List Int} {a1 : Option Addr} {c1 : Nat} {a2 : Option Addr} {c2 : Nat} (h : NodeA w v o ys xs a1 c1 a2 c2) (hb : Below w.heap.size w w') : NodeA w' v o ys xs a1 c1 a2 c2 := ⟨h.is, h.args.later hb, h.nil1, h.atts.later hb, h.nil2⟩
theorem res_slice11 {B : Nat} {w : World} {u : Value} {xs : List Int} (h : ResS B w u xs) : ∃ ad cap, u = .slice ad xs.length cap ∧ ResS B w (.slice ad xs.length cap) xs := by
  obtain ⟨ad, cap, h1, h2, _⟩ := h.slice
  exact ⟨ad, cap, h1, h2⟩
end
section
open Go.RowKit Go.ChangeShapes Go.WideShapes Go.ChangeAt Go.Joins Go.Deep
set_option linter.unusedVariables false
set_option linter.unusedSimpArgs false
set_option maxRecDepth 100000
theorem cellsNode : Try.prog.cellsOf 25 = 3 := by kernel_rfl
theorem reach_in {k : Nat} {l : List Nat} {n : Nat} (hin : ∀ m, m ∈ l → m ≤ 140737488351232) (l1 : n = 0 ∨ n * 8 ∈ l ∨ ∃ m, n ≤ m ∧ m * 8 ∈ l) : n ≤ 17592186043904 := by
  rcases l1 with l1 | l1 | ⟨m, l1, l2⟩
  · omega
  · have := hin _ l1; omega
  · have := hin _ l2; omega
theorem open_node {H : Type} {enc : TypeId × Value → H} {W : World} {v : Value} {d : DataW H} {p : List MemPlace} {base : Nat}
    (hval : Value.okWide Try.prog W .any base 25 v) (h : DataW.Trod enc Try.prog W 0 (fun _ => true) true 25 v d p) (hk : ∀ n ∈ DataW.weights Try.prog 25 d, n ≤ reachBytes) :
    ∃ (o : Int) (ys xs : List Int) (a : Option Addr) (ca : Nat) (b : Option Addr) (cb : Nat), NodeA W v o ys xs a ca b cb ∧ ys.length ≤ 17592186043904 ∧ xs.length ≤ 17592186043904 := by
  obtain ⟨v0, v1, v2, y0, y1, y2, n, rfl, rfl, rfl, h0, h1, h2⟩ := open_agg3 Try.underlying25 (by kernel_rfl) cellsNode hval h
  obtain ⟨o, ho, _⟩ := DataW.trod_int Try.underlying22 h0
  simp at ho
  subst ho
  obtain ⟨a, ys, ca, rfl, A, l1, n1⟩ := open_intsW Try.underlying23 h1
  obtain ⟨b, xs, cb, rfl, B, l2, n2⟩ := open_intsW Try.underlying23 h2
  refine ⟨o, ys, xs, a, ca, b, cb, ⟨rfl, A, n1, B, n2⟩, reach_in (k := 0) (fun m hm => ?_) l1, reach_in (k := 0) (fun m hm => ?_) l2⟩
  · refine Nat.le_trans (hk m ?_) (by decide)
    simp only [DataW.weights, Try.underlying25]
    exact DataW.weights_mem_each (j := 1) rfl rfl m hm
  · refine Nat.le_trans (hk m ?_) (by decide)
    simp only [DataW.weights, Try.underlying25]
    exact DataW.weights_mem_each (j := 2) rfl rfl m hm
end
section
open Go.RowKit
variable {P : Program} {md : Region.Mode} {ops : Array Oper} {Q : Exit → Act → World → Prop} {S : World → Prop}
set_option linter.unusedVariables false
set_option linter.unusedSimpArgs false
/-- an alloc that waits for nothing: its number, its slot, its type, its cells, what it yields -/
structure Fl where
  op : Nat
  dst : Nat
  ty : TypeId
  cells : Array Value
  val : Nat → Value
def setF : List Fl → List Bool → Array Bool → Array Bool
  | f :: fs, b :: bs, L => setF fs bs (L.setIfInBounds f.op b)
  | _, _, L => L
def putF : List Fl → List Value → Act → Act
  | f :: fs, u :: us, a => putF fs us (a.put (some f.dst) u)
  | _, _, a => a
theorem setF_out {c : Nat} {v : Bool} : ∀ (fs : List Fl) (bs : List Bool) (L : Array Bool), c ∉ fs.map Fl.op → setF fs bs (L.setIfInBounds c v) = (setF fs bs L).setIfInBounds c v
  | [], _, _, _ => by simp [setF]
  | f :: fs, [], _, _ => by simp [setF]
  | f :: fs, b :: bs, L, h => by
    simp only [List.map_cons, List.mem_cons, not_or] at h
    simp only [setF]
    rw [Array.setIfInBounds_comm _ _ h.1, setF_out fs bs _ h.2]
theorem setF_at {v : Bool} : ∀ (fs : List Fl) (bs : List Bool) (L : Array Bool) (k : Nat) (f : Fl), fs[k]? = some f → bs.length = fs.length → (fs.map Fl.op).Nodup → (setF fs bs L).setIfInBounds f.op v = setF fs (bs.set k v) L
  | [], _, _, _, _, h, _, _ => by simp at h
  | f :: fs, [], _, _, _, _, h, _ => by simp at h
  | f :: fs, b :: bs, L, 0, g, h, hl, hn => by
    simp only [List.getElem?_cons_zero, Option.some.injEq] at h
    subst h
    simp only [List.map_cons, List.nodup_cons] at hn
    simp only [setF, List.set_cons_zero]
    rw [← setF_out fs bs _ hn.1, Array.setIfInBounds_setIfInBounds]
  | f :: fs, b :: bs, L, k + 1, g, h, hl, hn => by
    simp only [List.getElem?_cons_succ] at h
    simp only [List.map_cons, List.nodup_cons] at hn
    simp only [setF, List.set_cons_succ]
    exact setF_at fs bs _ k g h (by simpa using hl) hn.2
theorem putF_out {c : Nat} {v : Value} : ∀ (fs : List Fl) (us : List Value) (a : Act), c ∉ fs.map Fl.dst → putF fs us (a.put (some c) v) = (putF fs us a).put (some c) v
  | [], _, _, _ => by simp [putF]
  | f :: fs, [], _, _ => by simp [putF]
  | f :: fs, u :: us, a, h => by
    simp only [List.map_cons, List.mem_cons, not_or] at h
    simp only [putF]
    rw [put_comm10 a h.1, putF_out fs us _ h.2]
theorem put_put10 (a : Act) (d : Nat) (u v : Value) : (a.put (some d) u).put (some d) v = a.put (some d) v := by
  cases a
  simp only [Act.put]
  rw [Array.setIfInBounds_setIfInBounds]
theorem putF_at {v : Value} : ∀ (fs : List Fl) (us : List Value) (a : Act) (k : Nat) (f : Fl), fs[k]? = some f → us.length = fs.length → (fs.map Fl.dst).Nodup → (putF fs us a).put (some f.dst) v = putF fs (us.set k v) a
  | [], _, _, _, _, h, _, _ => by simp at h
  | f :: fs, [], _, _, _, _, h, _ => by simp at h
  | f :: fs, u :: us, a, 0, g, h, hl, hn => by
    simp only [List.getElem?_cons_zero, Option.some.injEq] at h
    subst h
    simp only [List.map_cons, List.nodup_cons] at hn
    simp only [putF, List.set_cons_zero]
    rw [← putF_out fs us _ hn.1, put_put10]
  | f :: fs, u :: us, a, k + 1, g, h, hl, hn => by
    simp only [List.getElem?_cons_succ] at h
    simp only [List.map_cons, List.nodup_cons] at hn
    simp only [putF, List.set_cons_succ]
    exact putF_at fs us _ k g h (by simpa using hl) hn.2
def allL : Nat → (List Bool → Bool) → Bool
  | 0, p => p []
  | n + 1, p => allL n (fun l => p (true :: l)) && allL n (fun l => p (false :: l))
theorem allL_spec : ∀ (n : Nat) (p : List Bool → Bool), allL n p = true → ∀ l, l.length = n → p l = true
  | 0, p, h, l, hl => by
    obtain rfl := List.eq_nil_of_length_eq_zero hl
    exact h
  | n + 1, p, h, [], hl => by simp at hl
  | n + 1, p, h, b :: l, hl => by
    simp only [allL, Bool.and_eq_true] at h
    cases b
    · exact allL_spec n _ h.2 l (by simpa using hl)
    · exact allL_spec n _ h.1 l (by simpa using hl)
theorem count_set10 : ∀ (bs : List Bool) (k : Nat), bs[k]? = some false → (bs.set k true).count false + 1 = bs.count false
  | [], k, h => by simp at h
  | b :: bs, 0, h => by
    simp only [List.getElem?_cons_zero, Option.some.injEq] at h
    subst h
    simp
  | b :: bs, k + 1, h => by
    simp only [List.getElem?_cons_succ] at h
    have := count_set10 bs k h
    simp only [List.set_cons_succ, List.count_cons]
    omega
/-- what is known of those that have come up -/
structure OkF (n0 : Nat) (X : World) (fs : List Fl) (bs : List Bool) (us : List Value) : Prop where
  lb : bs.length = fs.length
  lu : us.length = fs.length
  row : ∀ (k : Nat) (f : Fl) (u : Value), fs[k]? = some f → bs[k]? = some true → us[k]? = some u → ∃ g, u = f.val g ∧ n0 ≤ g ∧ Row X g f.ty f.cells
  ne : ∀ (j k : Nat) (f f' : Fl) (g : Nat), j ≠ k → fs[j]? = some f → fs[k]? = some f' → bs[j]? = some true → bs[k]? = some true → us[j]? = some (f.val g) → us[k]? ≠ some (f'.val g)
def InjF (fs : List Fl) : Prop := ∀ f ∈ fs, ∀ g g', f.val g = f.val g' → g = g'
theorem OkF.later {n0 : Nat} {X Y : World} {fs : List Fl} {bs : List Bool} {us : List Value} (h : OkF n0 X fs bs us) (hb : Below X.heap.size X Y) : OkF n0 Y fs bs us :=
  ⟨h.lb, h.lu, fun k f u h1 h2 h3 => by
    obtain ⟨g, e, hg, R⟩ := h.row k f u h1 h2 h3
    exact ⟨g, e, hg, R.later hb⟩, h.ne⟩
theorem OkF.more {n0 k : Nat} {X : World} {fs : List Fl} {bs : List Bool} {us : List Value} {f : Fl} (hi : InjF fs) (h : OkF n0 X fs bs us) (hk : fs[k]? = some f) (hb : bs[k]? = some false) (h0 : n0 ≤ X.heap.size) :
    OkF n0 (X.alloc (.cells f.cells f.ty)) fs (bs.set k true) (us.set k (f.val X.heap.size)) := by
  have hlt : k < fs.length := (List.getElem?_eq_some_iff.1 hk).1
  have hlu : k < us.length := by rw [h.lu]; exact hlt
  have hbel : Below X.heap.size X (X.alloc (.cells f.cells f.ty)) := (Below.refl _ _).alloc (Nat.le_refl _) _
  have old : ∀ j u, j ≠ k → (bs.set k true)[j]? = some true → (us.set k (f.val X.heap.size))[j]? = some u → bs[j]? = some true ∧ us[j]? = some u := fun j u hj h1 h2 => by
    rw [List.getElem?_set_ne (fun e => hj e.symm)] at h1 h2
    exact ⟨h1, h2⟩
  have new : ∀ u, (us.set k (f.val X.heap.size))[k]? = some u → u = f.val X.heap.size := fun u hu => by
    rw [List.getElem?_set_self hlu] at hu
    exact (Option.some.inj hu).symm
  have far : ∀ j f' g, j ≠ k → fs[j]? = some f' → (bs.set k true)[j]? = some true → (us.set k (f.val X.heap.size))[j]? = some (f'.val g) → g < X.heap.size := fun j f' g hj hf h1 h2 => by
    obtain ⟨o1, o2⟩ := old j _ hj h1 h2
    obtain ⟨g', e', _, R⟩ := h.row j f' _ hf o1 o2
    rw [hi f' (List.mem_of_getElem? hf) _ _ e']
    exact R.lt
  refine ⟨by simp [h.lb], by simp [h.lu], fun j f' u h1 h2 h3 => ?_, fun i j fi fj g hij e1 e2 h1 h2 h3 h4 => ?_⟩
  · by_cases hj : j = k
    · subst hj
      rw [hk] at h1
      cases h1
      exact ⟨_, new u h3, h0, Row.new _ _ _⟩
    · obtain ⟨o1, o2⟩ := old j u hj h2 h3
      obtain ⟨g, e, hg, R⟩ := h.row j f' u h1 o1 o2
      exact ⟨g, e, hg, R.later hbel⟩
  · by_cases hi' : i = k
    · subst hi'
      rw [hk] at e1
      cases e1
      have := hi f (List.mem_of_getElem? hk) _ _ (new _ h3)
      have := far j fj g (Ne.symm hij) e2 h2 h4
      omega
    · by_cases hj : j = k
      · subst hj
        rw [hk] at e2
        cases e2
        have := hi f (List.mem_of_getElem? hk) _ _ (new _ h4)
        have := far i fi g hi' e1 h1 h3
        omega
      · obtain ⟨o1, o2⟩ := old i _ hi' h1 h3
        obtain ⟨o3, o4⟩ := old j _ hj h2 h4
        exact h.ne i j fi fj g hij e1 e2 o1 o3 o2 o4
/-- these operations are allocs that wait for nothing -/
def IsF (P : Program) (ops : Array Oper) (Q : Exit → Act → World → Prop) (fs : List Fl) : Prop :=
  ∀ f ∈ fs, (∀ g g', f.val g = f.val g' → g = g') ∧ ∃ o, ops[f.op]? = some o ∧ ∀ (a : Act) (X : World) (K : Act → World → Prop), K (a.put (some f.dst) (f.val X.heap.size)) (X.alloc (.cells f.cells f.ty)) → StepH P ops Q o a X K
theorem IsF.inj {fs : List Fl} (h : IsF P ops Q fs) : InjF fs := fun f hf => (h f hf).1
/-- what may come up: the next of the chain (if those that it needs have come up), and those that have not come up yet -/
def okR (md : Region.Mode) (ops : Array Oper) (L : Array Bool) (fs : List Fl) (c : Nat) (need : List Nat) (bs : List Bool) : Bool :=
  !(Region.ready md ops (setF fs bs L)).isEmpty && (Region.ready md ops (setF fs bs L)).all fun j => (j == c && need.all fun k => bs.getD k false) || (List.range fs.length).any fun k => (fs.map Fl.op).getD k 0 == j && !bs.getD k true
def okE (md : Region.Mode) (ops : Array Oper) (L : Array Bool) (fs : List Fl) (bs : List Bool) : Bool :=
  bs.count false == 0 || (!(Region.ready md ops (setF fs bs L)).isEmpty && (Region.ready md ops (setF fs bs L)).all fun j => (List.range fs.length).any fun k => (fs.map Fl.op).getD k 0 == j && !bs.getD k true)
theorem len_one10 {us : List Value} (h : us.length = 1) : ∃ u, us = [u] := by
  match us, h with
  | [u], _ => exact ⟨u, rfl⟩
theorem pend_of {fs : List Fl} {bs : List Bool} {j : Nat} (hl : bs.length = fs.length) (h : ((List.range fs.length).any fun k => (fs.map Fl.op).getD k 0 == j && !bs.getD k true) = true) : ∃ (k : Nat) (f : Fl), fs[k]? = some f ∧ bs[k]? = some false ∧ f.op = j := by
  rw [List.any_eq_true] at h
  obtain ⟨k, hk, h⟩ := h
  have hk' : k < fs.length := List.mem_range.1 hk
  have hb : k < bs.length := by omega
  simp only [Bool.and_eq_true, beq_iff_eq, Bool.not_eq_true'] at h
  refine ⟨k, fs[k], List.getElem?_eq_getElem hk', ?_, ?_⟩
  · have := h.2
    rw [List.getD_eq_getElem?_getD, List.getElem?_eq_getElem hb] at this
    rw [List.getElem?_eq_getElem hb]
    simpa using this
  · have := h.1
    rw [List.getD_eq_getElem?_getD, List.getElem?_map, List.getElem?_eq_getElem hk'] at this
    simpa using this
theorem OkF.one {n0 : Nat} {X : World} {f : Fl} {us : List Value} (h : OkF n0 X [f] (List.replicate [f].length true) us) : ∃ g, us = [f.val g] ∧ n0 ≤ g ∧ Row X g f.ty f.cells := by
  obtain ⟨u, rfl⟩ := len_one10 h.lu
  obtain ⟨g, rfl, h1, h2⟩ := h.row 0 f u rfl rfl rfl
  exact ⟨g, rfl, h1, h2⟩
theorem step_wpOp {i : Nat} {o : Oper} {a : Act} {w : World} {K : Act → World → Prop} (ho : ops[i]? = some o) (h : StepH P ops Q o a w K) : wpOp P ops Q i K a w := by
  unfold wpOp
  rw [ho]
  unfold StepH at h
  dsimp only
  split
  · rename_i hw
    rw [if_pos hw] at h
    exact .inl h
  · rename_i hw
    rw [if_neg hw] at h
    exact h
/-- whichever allocs have come up: what follows holds -/
def Pool (P : Program) (md : Region.Mode) (ops : Array Oper) (Q : Exit → Act → World → Prop) (S : World → Prop) (fs : List Fl) (w : World) (F : World → Prop) (n : Nat) (L : Array Bool) (a : Act) : Prop :=
  ∀ bs us X, OkF w.heap.size X fs bs us → Below w.heap.size w X → F X → wpAnyH P md ops Q S (n + bs.count false) (setF fs bs L) (putF fs us a) X
theorem pool_fl {fs : List Fl} {n : Nat} {w : World} {a : Act} {L : Array Bool} {F : World → Prop} (hfl : IsF P ops Q fs) (hops : (fs.map Fl.op).Nodup) (hdst : (fs.map Fl.dst).Nodup) (hS : ∀ X, Below w.heap.size w X → S X) (hF : ∀ X Y, Below X.heap.size X Y → F X → F Y)
    {bs : List Bool} {us : List Value} {X : World} (ok : OkF w.heap.size X fs bs us) (hb : Below w.heap.size w X) (hX : F X) {k : Nat} {f : Fl} (hk : fs[k]? = some f) (hbk : bs[k]? = some false) {N : Nat}
    (ih : ∀ bs us X, bs.count false = N → OkF w.heap.size X fs bs us → Below w.heap.size w X → F X → wpAnyH P md ops Q S (n + bs.count false) (setF fs bs L) (putF fs us a) X) (hN : bs.count false = N + 1) :
    wpOp P ops Q f.op (fun a' w' => S w' ∧ wpAnyH P md ops Q S (n + N) ((setF fs bs L).setIfInBounds f.op true) a' w') (putF fs us a) X := by
  obtain ⟨_, o, ho, hstep⟩ := hfl f (List.mem_of_getElem? hk)
  refine step_wpOp ho (hstep _ _ _ ?_)
  have hbel : Below X.heap.size X (X.alloc (.cells f.cells f.ty)) := (Below.refl _ _).alloc (Nat.le_refl _) _
  have hb2 : Below w.heap.size w (X.alloc (.cells f.cells f.ty)) := hb.trans (hbel.mono hb.size)
  have hc := count_set10 bs k hbk
  have h := ih (bs.set k true) (us.set k (f.val X.heap.size)) _ (by omega) (ok.more hfl.inj hk hbk hb.size) hb2 (hF _ _ hbel hX)
  rw [show (bs.set k true).count false = N by omega] at h
  refine ⟨hS _ hb2, ?_⟩
  rw [setF_at fs bs L k f hk ok.lb hops, putF_at fs us a k f hk ok.lu hdst]
  exact h
theorem pool_step {fs : List Fl} {n : Nat} {w : World} {a : Act} {L : Array Bool} {F : World → Prop} {α : Type} (val : α → Value) {c dc : Nat} {oc : Oper} {need : List Nat} {F' : α → World → Prop} (hc : ops[c]? = some oc) (hfl : IsF P ops Q fs) (hops : (fs.map Fl.op).Nodup) (hdst : (fs.map Fl.dst).Nodup) (hco : c ∉ fs.map Fl.op) (hcd : dc ∉ fs.map Fl.dst)
    (hr : allL fs.length (okR md ops L fs c need) = true) (hS : ∀ X, Below w.heap.size w X → S X) (hF : ∀ X Y, Below X.heap.size X Y → F X → F Y)
    (hstep : ∀ us X K, us.length = fs.length → (∀ k ∈ need, ∃ f g, fs[k]? = some f ∧ us[k]? = some (f.val g) ∧ Row X g f.ty f.cells) → Below w.heap.size w X → F X →
      (∀ v X', Below X.heap.size X X' → F' v X' → K ((putF fs us a).put (some dc) (val v)) X') → StepH P ops Q oc (putF fs us a) X K)
    (hnext : ∀ v, Pool P md ops Q S fs w (F' v) n (L.setIfInBounds c true) (a.put (some dc) (val v))) : Pool P md ops Q S fs w F (n + 1) L a := by
  have main : ∀ N bs us X, bs.count false = N → OkF w.heap.size X fs bs us → Below w.heap.size w X → F X → wpAnyH P md ops Q S (n + 1 + bs.count false) (setF fs bs L) (putF fs us a) X := by
    intro N
    induction N with
    | zero =>
      intro bs us X hN ok hb hX
      have hk := allL_spec _ _ hr bs ok.lb
      simp only [okR, Bool.and_eq_true, Bool.not_eq_true', List.isEmpty_eq_false_iff, List.all_eq_true, Bool.or_eq_true, beq_iff_eq] at hk
      rw [hN]
      refine wpAnyH_all rfl hk.1 fun j hj => ?_
      rcases hk.2 j hj with ⟨rfl, hneed⟩ | hp
      · refine step_wpOp hc (hstep us X _ ok.lu (fun k hk' => ?_) hb hX fun v X' hb' hF' => ?_)
        · have h1 := hneed k hk'
          have h2 : bs[k]? = some true := by
            rw [List.getD_eq_getElem?_getD] at h1
            cases e : bs[k]? with
            | none => rw [e] at h1; cases h1
            | some b => rw [e] at h1; simpa using h1
          have h3 : k < fs.length := by rw [← ok.lb]; exact (List.getElem?_eq_some_iff.1 h2).1
          have h4 : k < us.length := by rw [ok.lu]; exact h3
          obtain ⟨g, e, _, R⟩ := ok.row k _ _ (List.getElem?_eq_getElem h3) h2 (List.getElem?_eq_getElem h4)
          exact ⟨_, g, List.getElem?_eq_getElem h3, by rw [List.getElem?_eq_getElem h4, e], R⟩
        · have hb2 := hb.trans (hb'.mono hb.size)
          refine ⟨hS _ hb2, ?_⟩
          have h := hnext v bs us X' (ok.later hb') hb2 hF'
          rw [hN, setF_out fs bs _ hco, putF_out fs us _ hcd] at h
          exact h
      · obtain ⟨k, f, h1, h2, h3⟩ := pend_of ok.lb hp
        have := count_set10 bs k h2
        omega
    | succ N ih =>
      intro bs us X hN ok hb hX
      have hk := allL_spec _ _ hr bs ok.lb
      simp only [okR, Bool.and_eq_true, Bool.not_eq_true', List.isEmpty_eq_false_iff, List.all_eq_true, Bool.or_eq_true, beq_iff_eq] at hk
      rw [hN, show n + 1 + (N + 1) = (n + 1 + N) + 1 by omega]
      refine wpAnyH_all rfl hk.1 fun j hj => ?_
      rcases hk.2 j hj with ⟨rfl, hneed⟩ | hp
      · refine step_wpOp hc (hstep us X _ ok.lu (fun k hk' => ?_) hb hX fun v X' hb' hF' => ?_)
        · have h1 := hneed k hk'
          have h2 : bs[k]? = some true := by
            rw [List.getD_eq_getElem?_getD] at h1
            cases e : bs[k]? with
            | none => rw [e] at h1; cases h1
            | some b => rw [e] at h1; simpa using h1
          have h3 : k < fs.length := by rw [← ok.lb]; exact (List.getElem?_eq_some_iff.1 h2).1
          have h4 : k < us.length := by rw [ok.lu]; exact h3
          obtain ⟨g, e, _, R⟩ := ok.row k _ _ (List.getElem?_eq_getElem h3) h2 (List.getElem?_eq_getElem h4)
          exact ⟨_, g, List.getElem?_eq_getElem h3, by rw [List.getElem?_eq_getElem h4, e], R⟩
        · have hb2 := hb.trans (hb'.mono hb.size)
          refine ⟨hS _ hb2, ?_⟩
          have h := hnext v bs us X' (ok.later hb') hb2 hF'
          rw [hN, setF_out fs bs _ hco, putF_out fs us _ hcd, show n + (N + 1) = n + 1 + N by omega] at h
          exact h
      · obtain ⟨k, f, h1, h2, rfl⟩ := pend_of ok.lb hp
        exact pool_fl hfl hops hdst hS hF ok hb hX h1 h2 ih hN
  exact fun bs us X ok hb hX => main _ bs us X rfl ok hb hX
theorem pool_take {fs : List Fl} {n : Nat} {w : World} {a : Act} {L : Array Bool} {F : World → Prop} {i di : Nat} {oi : Oper} {v : Value} (hi : ops[i]? = some oi) (hd : oi.dst = some di) (hio : i ∉ fs.map Fl.op) (hdi : di ∉ fs.map Fl.dst)
    (hk : allL fs.length (fun bs => Region.noSelect ops && Region.free md ops (setF fs bs L) i && (Region.ready md ops (setF fs bs L)).contains i) = true) (hQ : ∀ c a w, Q (.panic c) (a.put oi.dst v) w → Q (.panic c) a w)
    (hS : ∀ X, Below w.heap.size w X → S X) (hy : ∀ us, us.length = fs.length → YieldsIf P ops S oi v (putF fs us a))
    (hnext : Pool P md ops Q S fs w F n (L.setIfInBounds i true) (a.put (some di) v)) : Pool P md ops Q S fs w F (n + 1) L a := by
  intro bs us X ok hb hX
  have h := allL_spec _ _ hk bs ok.lb
  simp only [Bool.and_eq_true] at h
  rw [show n + 1 + bs.count false = (n + bs.count false) + 1 by omega]
  refine wpAnyH_take hi h.1.1 h.1.2 h.2 hQ (hy us ok.lu) (hS _ hb) ?_
  rw [hd, ← setF_out fs bs _ hio, ← putF_out fs us _ hdi]
  exact hnext bs us X ok hb hX
theorem pool_end {fs : List Fl} {n : Nat} {w : World} {a : Act} {L : Array Bool} {F : World → Prop} (hfl : IsF P ops Q fs) (hops : (fs.map Fl.op).Nodup) (hdst : (fs.map Fl.dst).Nodup) (hr : allL fs.length (okE md ops L fs) = true) (hS : ∀ X, Below w.heap.size w X → S X) (hF : ∀ X Y, Below X.heap.size X Y → F X → F Y)
    (hnext : ∀ us X, OkF w.heap.size X fs (List.replicate fs.length true) us → Below w.heap.size w X → F X → wpAnyH P md ops Q S n (setF fs (List.replicate fs.length true) L) (putF fs us a) X) : Pool P md ops Q S fs w F n L a := by
  have main : ∀ N bs us X, bs.count false = N → OkF w.heap.size X fs bs us → Below w.heap.size w X → F X → wpAnyH P md ops Q S (n + bs.count false) (setF fs bs L) (putF fs us a) X := by
    intro N
    induction N with
    | zero =>
      intro bs us X hN ok hb hX
      obtain rfl : bs = List.replicate fs.length true := by
        rw [List.eq_replicate_iff]
        refine ⟨ok.lb, fun b hb => ?_⟩
        cases b with
        | true => rfl
        | false => exact absurd hN (Nat.ne_of_gt (List.count_pos_iff.2 hb))
      rw [hN]
      exact hnext us X ok hb hX
    | succ N ih =>
      intro bs us X hN ok hb hX
      have hk := allL_spec _ _ hr bs ok.lb
      simp only [okE, Bool.or_eq_true, beq_iff_eq, Bool.and_eq_true, Bool.not_eq_true', List.isEmpty_eq_false_iff, List.all_eq_true] at hk
      rcases hk with hk | hk
      · omega
      rw [hN, show n + (N + 1) = (n + N) + 1 by omega]
      refine wpAnyH_all rfl hk.1 fun j hj => ?_
      obtain ⟨k, f, h1, h2, rfl⟩ := pend_of ok.lb (hk.2 j hj)
      exact pool_fl hfl hops hdst hS hF ok hb hX h1 h2 ih hN
  exact fun bs us X ok hb hX => main _ bs us X rfl ok hb hX
theorem pool_start {fs : List Fl} {n : Nat} {w : World} {a : Act} {L : Array Bool} {F : World → Prop} {us : List Value} (hL : setF fs (List.replicate fs.length false) L = L) (hA : putF fs us a = a) (hu : us.length = fs.length) (hF : F w) (h : Pool P md ops Q S fs w F n L a) : wpAnyH P md ops Q S (n + fs.length) L a w := by
  have ok : OkF w.heap.size w fs (List.replicate fs.length false) us := by
    refine ⟨by simp, hu, fun k f u h1 h2 h3 => ?_, fun j k f f' g hj e1 e2 h1 h2 h3 => ?_⟩
    · rw [List.getElem?_replicate] at h2
      split at h2 <;> simp at h2
    · rw [List.getElem?_replicate] at h1
      split at h1 <;> simp at h1
  have h := h _ us w ok (Below.refl _ _) hF
  rw [hL, hA, List.count_replicate_self] at h
  exact h
end
end Go.Proofs.Ytdcggcfgkhlblaa
