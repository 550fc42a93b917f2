/-
  Part 9 of 29: contracts and what they rest on (NatC, SPart, TRat, TMay, MCode2, OCode1, ICode3).
-/
import Derived.Test.YtjgiacghlkkjfaaGreatDoorF1
import Derived.Test.YtjgiacghlkkjfaaGreatDoorF2
import Derived.Test.YtjgiacghlkkjfaaGreatDoorF3
import Derived.Test.YtjgiacghlkkjfaaGreatDoorF4
import Derived.Test.YtjgiacghlkkjfaaGreatDoorF5
import Derived.Test.YtjgiacghlkkjfaaGreatDoorF6
import Derived.WalkKit
import Derived.Test.YtjgiacghlkkjfaaGreatDoorRows
import Derived.OrdersHeld
import Derived.Deep.RegionHeld
import Derived.BigQuiet
import Derived.Deep.QuietTactic
import Derived.Lib.Hide
import Derived.Lib.Small
import Derived.Lib.Walk
import Derived.Lib.BitFns
import Derived.Maps.AppendAt
import Derived.RangeFuncNested
import Derived.RangeFuncBound
import Derived.RangeFuncCalls
import Derived.RangeFuncLeaves
import Derived.Shelf.Abstract
import Derived.OwnWalkIn
import Derived.TacticsInMore
import Derived.LoopNIn
import Derived.LoopIn
import Derived.RangeFuncBox
import Derived.Deep.RegionHeld3
import Derived.OrdersIn
import Derived.StillTailTactics
import Derived.RangeFuncFrom
import Derived.Laws.EntriesVeiled
import Derived.ProofKit
import Derived.OpenShut
import Derived.JoinedCond
import Derived.Carry
import Derived.Laws.AppendOwnNone
import Derived.Lib.ItoaNum
import Derived.Deep.RegionLaw
import Derived.WalkMore
import Derived.Lib.SmallJoins
import Derived.IntWalk
import Derived.Deep.DeepCutAuto
import Derived.Laws.OwnMore
import Derived.ArgAppend
import Derived.Deep.Slices
import Derived.Laws.CopyOwn
import Derived.Lib.SliceRun
import Derived.SizedLaws
import Derived.Great.BuildSlice
namespace Go.Proofs.YtjgiacghlkkjfaaGreatDoor
set_option maxRecDepth 100000
section
open Go.RowKit
theorem cmp_res {u v : Value} {xs ys : List Int} {a b : Option Addr} {capa capb : Nat} {w : World} (h1 : Arg w u xs a capa) (h2 : Arg w v ys b capb) (hx : xs.length ≤ 35184372088832) (hy : ys.length ≤ 35184372088832) :
    Calls Tryz.prog 237 #[u, v] w fun e w' => e = .returned (.int .i64 (sign (val xs) (val ys))) ∧ Below w.heap.size w w' := by
  rw [h1.is, h2.is]
  refine (cmp_any a b xs ys capa capb w h1.lim h2.lim hx hy h1.le h2.le).mono fun e w' ⟨r, he, hr, hb⟩ => ⟨?_, hb⟩
  have h := (cmp_val h1.wf.trim h2.wf.trim (trim_full xs) (trim_full ys) hr).1
  rw [val_trim, val_trim] at h
  rw [he, h]
end
section
open Go.RowKit
set_option linter.unusedVariables false
set_option linter.unusedSimpArgs false
/-- block g has room for cap numbers, of which the first are zs -/
def PartS (w : World) (g cap : Nat) (zs : List Int) : Prop := ∃ cur : Array Value, w.heap[g]? = some (.cells cur 3 (0, 0)) ∧ cur.size = cap ∧ zs.length ≤ cap ∧ cur.toList.take zs.length = zs.map (Value.int .i64)
theorem PartS.cell {w : World} {g cap : Nat} {zs : List Int} (h : PartS w g cap zs) (i : Nat) (hi : i < zs.length) : w.cell? ⟨g, i, none⟩ = some (.int .i64 (zs.getD i 0)) := by
  obtain ⟨cur, hh, hs, hl, ht⟩ := h
  have e : w.cell? ⟨g, i, none⟩ = cur[i]? := cell_of_row w g i _ 3 (0, 0) hh
  rw [e]
  have h1 : (cur.toList.take zs.length)[i]? = cur[i]? := by rw [List.getElem?_take_of_lt hi]; simp
  rw [← h1, ht]
  simp [hi]
theorem PartS.free {w : World} {g cap : Nat} {zs : List Int} (h : PartS w g cap zs) (i : Nat) : w.frozen? ⟨g, i, none⟩ = false := by
  obtain ⟨cur, hh, _⟩ := h
  exact frozen_of_row w g i _ 3 hh
theorem PartS.lt {w : World} {g cap : Nat} {zs : List Int} (h : PartS w g cap zs) : g < w.heap.size := by obtain ⟨cur, hh, _⟩ := h; exact lt_of_block hh
theorem PartS.same {w w' : World} {g cap : Nat} {zs : List Int} (h : PartS w g cap zs) (e : w'.heap[g]? = w.heap[g]?) : PartS w' g cap zs := by
  obtain ⟨cur, hh, r⟩ := h
  exact ⟨cur, e.trans hh, r⟩
theorem PartS.far {w : World} {g cap : Nat} {zs : List Int} (h : PartS w g cap zs) {p : Addr} (hne : g ≠ p.block) (u : Value) : PartS (w.setCell p u) g cap zs := h.same (Below.heap_setCell _ _ _ _ hne)
theorem PartS.set {w : World} {g cap : Nat} {zs : List Int} (h : PartS w g cap zs) (i : Nat) (hi : i < zs.length) (x : Int) : PartS (w.setCell ⟨g, i, none⟩ (.int .i64 x)) g cap (zs.set i x) := by
  obtain ⟨cur, hh, hs, hl, ht⟩ := h
  refine ⟨cur.setIfInBounds i (.int .i64 x), ?_, by simpa using hs, by simpa using hl, ?_⟩
  · have e := heap_setCell_same w g i _ 3 (.int .i64 x) hh
    rw [e]
  · rw [List.length_set, Array.toList_setIfInBounds, List.take_set, ht, List.map_set]
theorem PartS.num {base g cap : Nat} {w : World} {zs : List Int} (h : PartS w g cap zs) (hb : base ≤ g) (hm : cap ≤ maxLen) : NumS base w (.slice (some ⟨g, 0, none⟩) zs.length cap) zs := by
  obtain ⟨cur, hh, hs, hl, ht⟩ := h
  exact ⟨by simp, .inr ⟨g, cap, cur, rfl, hb, hh, hl, hm, by simpa using hs, by simpa using ht⟩⟩
end
section
open Go.RowKit
set_option linter.unusedVariables false
set_option linter.unusedSimpArgs false
/-- a rational number as it came in: limb by limb -/
structure Q3 where
  neg : Bool
  num : List Int
  den : List Int
def Q3.rat (q : Q3) : Rat := ratOf q.neg (val q.num) (val q.den)
def RawQ (w : World) (v : Value) (q : Q3) : Prop := ∃ (ad bd : Option Addr) (ca cb : Nat), v = .agg #[.bool q.neg, .slice ad q.num.length ca, .slice bd q.den.length cb] ∧
  Arg w (.slice ad q.num.length ca) q.num ad ca ∧ Arg w (.slice bd q.den.length cb) q.den bd cb ∧ (ad = none → ca = 0) ∧ (bd = none → cb = 0)
theorem RawQ.later {w w' : World} {v : Value} {q : Q3} (h : RawQ w v q) (hb : Below w.heap.size w w') : RawQ w' v q := by
  obtain ⟨ad, bd, ca, cb, rfl, A, B, h⟩ := h
  exact ⟨ad, bd, ca, cb, rfl, A.later hb, B.later hb, h⟩
end
section
open Go.RowKit
set_option linter.unusedVariables false
set_option linter.unusedSimpArgs false
set_option maxRecDepth 100000 in
set_option maxHeartbeats 2000000 in
theorem sameSh_any {u v : Value} {xs ys : List Int} {a b : Option Addr} {ca cb : Nat} {w : World} (A : ArgS w u xs a ca) (B : ArgS w v ys b cb) (hx : xs.length ≤ 140737488355328) :
    Calls Tryz.prog 17 #[u, v] w fun e w' => e = .returned (.bool (decide (xs = ys))) ∧ Below w.heap.size w w' := by
  have HA := Lib.hid A
  have HB := Lib.hid B
  obtain rfl := A.is
  obtain rfl := B.is
  obtain ⟨L, hL⟩ : ∃ L, xs.length = L := ⟨_, rfl⟩
  obtain ⟨M, hM⟩ : ∃ M, ys.length = M := ⟨_, rfl⟩
  obtain ⟨d, hd⟩ : ∃ d, decide (xs = ys) = d := ⟨_, rfl⟩
  have HL := Lib.hid hL
  have HM := Lib.hid hM
  have HD := Lib.hid hd
  rw [hL] at hx
  rw [hL, hM, hd]
  clear A B hL hM hd
  by_cases hlm : L = M
  · subst hlm
    have hne : ((L : Int) != (L : Int)) = false := by simp
    go_enter Tryz.func17, Tryz.ntmps17
    go_wp2
    go_loopw [5] (fun i wr => ∃ k : Nat, i = .int .i64 (k : Int) ∧ k ≤ L ∧ xs.take k = ys.take k ∧ Below w.heap.size w wr) (fun i _ => L - (intOf i).toNat)
    case atStart => exact ⟨0, rfl, Nat.zero_le _, rfl, Below.refl _ _⟩
    case round =>
      obtain ⟨k, rfl, hkL, hp, hb⟩ := hrel
      have HP := Lib.hid hp
      clear hp
      by_cases hlt : k < L
      · obtain ⟨b1, o1, rfl, hc1⟩ := (HA.out.later hb).at (i := k) (by rw [HL.out]; exact hlt)
        obtain ⟨b2, o2, rfl, hc2⟩ := (HB.out.later hb).at (i := k) (by rw [HM.out]; exact hlt)
        have e1 := take_next (xs := xs) (k := k) (by rw [HL.out]; exact hlt)
        have e2 := take_next (xs := ys) (k := k) (by rw [HM.out]; exact hlt)
        obtain ⟨x, hx⟩ : ∃ x, xs.getD k 0 = x := ⟨_, rfl⟩
        obtain ⟨y, hy⟩ : ∃ y, ys.getD k 0 = y := ⟨_, rfl⟩
        rw [hx] at hc1 e1
        rw [hy] at hc2 e2
        have E1 := Lib.hid e1
        have E2 := Lib.hid e2
        have HX := Lib.hid hx
        have HY := Lib.hid hy
        have hin : 0 ≤ (k : Int) ∧ (k : Int) < (L : Int) := by omega
        have hltI : (k : Int) < (L : Int) := by omega
        clear hx hy e1 e2
        by_cases hxy : x = y
        · subst hxy
          have hn : (x != x) = false := by simp
          go_wp2
          go_quiet (fail)
          go_wp2
          go_roundw
          case rel => exact ⟨k + 1, by go_num, by omega, by rw [E1.out, E2.out, HP.out], hb.trans (belowS_drew _ _ _)⟩
          case measure => simp [intOf]; omega
        · obtain rfl : d = false := by
            rw [← HD.out, decide_eq_false_iff_not]
            intro h
            apply hxy
            rw [← HX.out, ← HY.out, h]
          have hn : (x != y) = true := by simpa using hxy
          go_wp2
          go_quiet (fail)
          go_wp2
          go_ret
          exact ⟨rfl, hb.trans (belowS_drew _ _ _)⟩
      · obtain rfl : k = L := by omega
        obtain rfl : d = true := by
          rw [← HD.out, decide_eq_true_iff]
          have := HP.out
          rwa [take_all HL.out, take_all HM.out] at this
        have hltI : ¬ (k : Int) < (k : Int) := by omega
        go_wp2
        go_ret
        exact ⟨rfl, hb⟩
  · obtain rfl : d = false := by
      rw [← HD.out, decide_eq_false_iff_not]
      intro h
      apply hlm
      rw [← HL.out, ← HM.out, h]
    have hne : ((L : Int) != (M : Int)) = true := by simp; omega
    go_enter Tryz.func17, Tryz.ntmps17
    go_wp2
    go_ret
    exact ⟨rfl, Below.refl _ _⟩
/-- is an element valid? -/
def okQ (q : Q3) : Bool := validB q.neg q.num q.den q.rat
/-- why a tensor is not valid: 0, or an error -/
def mayT (s : List Int) (qs : List Q3) : Int := if mayC s ≠ 0 then mayC s else if (qs.length : Int) ≠ countS s then 13 else if qs.all okQ = true then 0 else 6
end
section
open Go.RowKit
set_option linter.unusedVariables false
set_option linter.unusedSimpArgs false
/-- a row that came as an index and may be written to -/
def IdxP (B : Nat) (X : World) (ad : Option Addr) (cap : Nat) (zs : List Int) : Prop := (ad = none ∧ cap = 0 ∧ zs = []) ∨ ∃ g, ad = some ⟨g, 0, none⟩ ∧ B ≤ g ∧ cap ≤ maxLen ∧ PartS X g cap zs
theorem NumS.partS0 {base : Nat} {w : World} {v : Value} {zs : List Int} (h : NumS base w v zs) : (v = .slice none 0 0 ∧ zs = []) ∨ ∃ g cap, v = .slice (some ⟨g, 0, none⟩) zs.length cap ∧ base ≤ g ∧ cap ≤ maxLen ∧ PartS w g cap zs := by
  obtain ⟨h1, h2⟩ := h
  rcases h2 with ⟨hv, hn⟩ | ⟨g, cap, cur, hv, hb, hg, hc, hm, hs, ht⟩
  · exact .inl ⟨hv, List.eq_nil_of_length_eq_zero hn⟩
  · exact .inr ⟨g, cap, hv, hb, hm, cur, hg, by simpa using hs, hc, by simpa using ht⟩
theorem ResS.idx {B : Nat} {w : World} {u : Value} {xs : List Int} (h : ResS B w u xs) : ∃ ad cap, u = .slice ad xs.length cap ∧ IdxP B w ad cap xs ∧ xs.length ≤ cap ∧ (ad = none → cap = 0) ∧ Wid xs := by
  obtain ⟨ad, cap, rfl, hR, A, hn⟩ := h.slice
  rcases hR.num.partS0 with ⟨e, hz⟩ | ⟨g, cap2, e, hb, hm, hP⟩
  · simp only [Value.slice.injEq] at e
    obtain ⟨rfl, _, rfl⟩ := e
    exact ⟨_, 0, rfl, .inl ⟨rfl, rfl, hz⟩, A.le, hn, A.wf⟩
  · simp only [Value.slice.injEq] at e
    obtain ⟨rfl, _, rfl⟩ := e
    exact ⟨_, cap, rfl, .inr ⟨g, rfl, hb, hm, hP⟩, A.le, hn, A.wf⟩
theorem IdxP.at {B : Nat} {X : World} {ad : Option Addr} {cap : Nat} {zs : List Int} (h : IdxP B X ad cap zs) {i : Nat} (hi : i < zs.length) : ∃ g, ad = some ⟨g, 0, none⟩ ∧ B ≤ g ∧ cap ≤ maxLen ∧ PartS X g cap zs := by
  rcases h with ⟨_, _, rfl⟩ | h
  · simp at hi
  · exact h
end
section
open Go.RowKit
set_option linter.unusedVariables false
set_option linter.unusedSimpArgs false
set_option maxRecDepth 100000 in
set_option maxHeartbeats 4000000 in
theorem allV_any (w : World) : Calls Tryz.prog 178 #[] w fun e w' => e = .returned (.agg #[.int .i64 1, .int .i64 3]) ∧ Below w.heap.size w w' := by
  obtain ⟨W, hW⟩ : ∃ W, w.alloc (.cells #[.int .i64 0, .int .i64 0] 177) = W := ⟨_, rfl⟩
  have R : Row W w.heap.size 177 #[.int .i64 0, .int .i64 0] := by rw [← hW]; exact Row.new _ _ _
  have hb : Below w.heap.size w W := by rw [← hW]; exact (Below.refl _ _).alloc (Nat.le_refl _) _
  obtain ⟨c0, c1, f0, f1⟩ := R.two
  obtain ⟨z0, z1, _, _⟩ := (R.set2 (.int .i64 1) (.int .i64 3)).two
  have hE := below_set2 hb (Nat.le_refl _) (.int .i64 1) (.int .i64 3)
  go_enter Tryz.func178, Tryz.ntmps178
  (try rw [hW])
  go_wp2_with fail
  exact bodyPost_ret (v := .agg #[.int .i64 1, .int .i64 3]) (by simp [results, Tryz.results178, go_sem, z0, z1]) rfl ⟨rfl, hE⟩
/-- is a number from low to high? -/
def hasB (a b n : Int) : Bool := decide (a ≤ n ∧ n ≤ b)
set_option maxRecDepth 100000 in
set_option maxHeartbeats 4000000 in
theorem has_any (a b n : Int) (w : World) : Calls Tryz.prog 179 #[.agg #[.int .i64 a, .int .i64 b], .int .i64 n] w fun e w' => e = .returned (.bool (hasB a b n)) ∧ Below w.heap.size w w' := by
  obtain ⟨c, hc⟩ : ∃ c, hasB a b n = c := ⟨_, rfl⟩
  rw [hc]
  obtain ⟨W, hW⟩ : ∃ W, w.alloc (.cells #[.int .i64 a, .int .i64 b] 177) = W := ⟨_, rfl⟩
  have R : Row W w.heap.size 177 #[.int .i64 a, .int .i64 b] := by rw [← hW]; exact Row.new _ _ _
  have hb : Below w.heap.size w W := by rw [← hW]; exact (Below.refl _ _).alloc (Nat.le_refl _) _
  obtain ⟨c0, c1, _, _⟩ := R.two
  by_cases h1 : a ≤ n
  · by_cases h2 : n ≤ b
    · obtain rfl : c = true := by rw [← hc]; unfold hasB; exact decide_eq_true (by omega)
      clear hc
      go_enter Tryz.func179, Tryz.ntmps179
      (try rw [hW])
      go_wp2_with fail
      go_ret
      exact ⟨rfl, hb⟩
    · obtain rfl : c = false := by rw [← hc]; unfold hasB; exact decide_eq_false (by omega)
      clear hc
      go_enter Tryz.func179, Tryz.ntmps179
      (try rw [hW])
      go_wp2_with fail
      go_ret
      exact ⟨rfl, hb⟩
  · obtain rfl : c = false := by rw [← hc]; unfold hasB; exact decide_eq_false (by omega)
    clear hc
    go_enter Tryz.func179, Tryz.ntmps179
    (try rw [hW])
    go_wp2_with fail
    go_ret
    exact ⟨rfl, hb⟩
end
section
open Go.RowKit Go.Shelf
attribute [local go_sem] Oper.semAt_some
set_option linter.unusedVariables false
set_option linter.unusedSimpArgs false
/-- what a round over pairs is handed -/
def pairI (sx xs : List Int) {n : Nat} (x : Fin n) : Array Value := #[.int .i64 (sx.getD x.val 0), .agg #[.int .i64 (fstP xs x.val), .int .i64 (sndP xs x.val)]]
theorem pairsI_any (o : Int) (a2 al : Option Addr) (n c2 k cl : Nat) (w : World) :
    Calls Tryz.prog 228 #[.agg #[.int .i64 o, .slice a2 n c2, .slice al k cl]] w fun e w' => e = .returned (.func (.func 258) #[] #[.pointer (some ⟨w.heap.size, 0, none⟩)]) ∧ w' = w.alloc (.cells #[.int .i64 o, .slice a2 n c2, .slice al k cl] 189) := by
  go_enter Tryz.func228, Tryz.ntmps228
  go_wp2
  go_ret
  exact ⟨rfl, rfl⟩
set_option maxRecDepth 100000 in
set_option maxHeartbeats 8000000 in
theorem pairsI_in (n l Bs n₀ m k : Nat) {a2 ax : Option Addr} {xs sx : List Int} {c2 cl cx b o0 : Nat} (hx : xs.length ≤ 1000) (hs : sx.length ≤ 1000) (hk : 0 < k) (hm1 : m ≤ sx.length) (hm2 : 2 * m ≤ xs.length) (hm3 : m < sx.length → xs.length ≤ 2 * m + 1)
    (hba : xs ≠ [] → ∀ a, a2 = some a → a.block < n₀) (hbx : sx ≠ [] → ∀ a, ax = some a → a.block < n₀) (J Jx : List (Fin m) → World → Prop)
    (hJ : ∀ pre A, J pre A → J pre A.drew)
    (hY : ∀ pre x W, J pre W → pre.length < m → YieldAt Fence.wide (n - 1) Tryz.prog l (pairI sx xs x) W fun e W' =>
      (e = .returned (.bool true) ∧ J (pre ++ [x]) W' ∧ KpS n₀ Bs W W') ∨ (e = .returned (.bool false) ∧ Jx (pre ++ [x]) W'))
    (W : World) (hB1 : W.cell? ⟨Bs, 1, none⟩ = some (.slice a2 xs.length c2)) (hB2 : W.cell? ⟨Bs, 2, none⟩ = some (.slice (some ⟨b, o0, none⟩) k cl)) (hcx : W.cell? ⟨b, o0, none⟩ = some (.slice ax sx.length cx))
    (hla : LimS W a2 xs) (hlx : LimS W ax sx) (h0 : J [] W) :
    CallsIn Fence.wide n Tryz.prog 258 #[.func (.yield l) #[] #[], .pointer (some ⟨Bs, 0, none⟩)] W fun e W' => (∃ v, e = .returned v) ∧
      ((∃ ys, Upto ys m ∧ J ys W') ∨ (∃ pre, (∃ k, k ≤ m ∧ Upto pre k) ∧ Jx pre W')) := by
  obtain ⟨S, hS⟩ : ∃ S, sx.length = S := ⟨_, rfl⟩
  have HS := Lib.hid hS
  have HX := Lib.hid (show ∀ i, sx.getD i 0 = sx[i]?.getD 0 from fun i => rfl)
  rw [hS] at hs hm1 hm3 hcx
  have hkI : (0 : Int) < (k : Int) := by omega
  clear hS
  refine callsIn_of_wp Tryz.func258 rfl trivial ?_ rfl
  simp only [Tryz.ntmps258, List.size_toArray, List.length_cons, List.length_nil, Nat.reduceAdd, Nat.reduceSub, Array.replicate_succ, Array.replicate_zero, List.push_toArray, List.append_toArray, List.nil_append, List.cons_append]
  gi_wp2_with fail
  gi_loopw [3, 4, 10] (fun _ _ i wr => ∃ (j : Nat) (pre : List (Fin m)), j ≤ m ∧ i = .int .i64 j ∧ Upto pre j ∧ J pre wr ∧ KpS n₀ Bs W wr)
    (fun _ _ i _ => S - (intOf i).toNat)
  case atStart => exact ⟨0, [], Nat.zero_le _, rfl, rfl, h0, KpS.refl _ _ _⟩
  case round =>
    obtain ⟨j, pre, hj, rfl, hup, hJs, hnx⟩ := hrel
    have hBr := (World.cell?_of_block (a := ⟨Bs, 1, none⟩) hnx.box).trans hB1
    by_cases hlt : j < S
    · rcases hlx with rfl | ⟨bx, ox, rfl, hcs⟩
      · have := HS.out; simp at this; omega
      · have hbn := hbx (by rintro rfl; have := HS.out; simp at this; omega) ⟨bx, ox, none⟩ rfl
        obtain ⟨d, hd⟩ : ∃ d, sx.getD j 0 = d := ⟨_, rfl⟩
        have cd := (hnx.below.cell (p := ⟨bx, ox + j, none⟩) hbn).trans (hcs j (by rw [HS.out]; exact hlt))
        rw [hd] at cd
        have hltI : (j : Int) < (S : Int) := by omega
        have hj0 : (0 : Int) ≤ (j : Int) := by omega
        have v1 : IntKind.i64.wrap (2 * (j : Int)) = 2 * (j : Int) := IntWalk.i64_in _ (by omega)
        have v2 : IntKind.i64.wrap (2 * (j : Int) + 1) = 2 * (j : Int) + 1 := IntWalk.i64_in _ (by omega)
        by_cases hjm : j < m
        · rcases hla with rfl | ⟨ba, oa, rfl, hca⟩
          · simp at hm2; omega
          · have hbn2 := hba (by rintro rfl; simp at hm2; omega) ⟨ba, oa, none⟩ rfl
            have hY2 := hY pre ⟨j, hjm⟩ wr.drew (hJ _ _ hJs) (by rw [hup.length]; exact hjm)
            obtain ⟨fn, tmps, assign, body, hy, hR⟩ := hY2
            simp only [pairI] at hy
            have c0 := (hnx.below.cell (p := ⟨ba, oa + 2 * j, none⟩) hbn2).trans (hca (2 * j) (by omega))
            have c1 := (hnx.below.cell (p := ⟨ba, oa + (2 * j + 1), none⟩) hbn2).trans (hca (2 * j + 1) (by omega))
            obtain ⟨x0, hx0⟩ : ∃ x, fstP xs j = x := ⟨_, rfl⟩
            obtain ⟨x1, hx1⟩ : ∃ x, sndP xs j = x := ⟨_, rfl⟩
            rw [show xs.getD (2 * j) 0 = x0 from hx0] at c0
            rw [show xs.getD (2 * j + 1) 0 = x1 from hx1] at c1
            rw [hx0, hx1, hd] at hy
            have hnx2 : KpS n₀ Bs W wr.drew := ⟨hnx.below.drew, hnx.box⟩
            have HJ := Lib.hid hJ
            have HY := Lib.hid hY
            have i0 : (0 : Int) ≤ 2 * (j : Int) := by omega
            have i1 : 2 * (j : Int) < (xs.length : Int) := by omega
            have i2 : (0 : Int) ≤ 2 * (j : Int) + 1 := by omega
            have i3 : 2 * (j : Int) + 1 < (xs.length : Int) := by omega
            have i4 : ¬ (xs.length : Int) ≤ 2 * (j : Int) + 1 := by omega
            have n1 : (2 * (j : Int)).toNat = 2 * j := by omega
            have n2 : (2 * (j : Int) + 1).toNat = 2 * j + 1 := by omega
            clear hJ hY hca hcs hx0 hx1 hba hbx hd
            gi_wp2_with fail
            refine wpIn_region_L (fun X => X.cell? ⟨Bs, 1, none⟩ = some (.slice (some ⟨ba, oa, none⟩) xs.length c2) ∧ X.cell? ⟨ba, oa + 2 * j, none⟩ = some (.int .i64 x0) ∧ X.cell? ⟨ba, oa + (2 * j + 1), none⟩ = some (.int .i64 x1)) [24, 25, 26] (by kernel_rfl)
              ⟨hBr, c0, c1⟩ (fun hHeld => ?_)
            refine wpAnyInL_take (i := 0) (v := ?va0) [1, 2, 6, 7, 8, 9, 10, 11, 12, 13, 14, 15, 16, 17, 18, 19, 20, 21, 22, 23, 24, 25, 26] rfl rfl (by kernel_rfl) (by kernel_rfl) (by kernel_rfl) (by kernel_rfl) (by kernel_rfl) (by kernel_rfl) (fun _ _ _ h => h) (Or.inl ⟨by rfl, ?ha0⟩) (fun _ => rfl) (by assumption) ?ra0
            case ha0 =>
              intro w hSw
              try dsimp only at hSw
              go_simp
              try with_reducible rfl
            try simp only [Act.put, List.getElem_toArray, List.getElem_cons_succ, List.getElem_cons_zero, List.setIfInBounds_toArray, List.set_cons_zero, List.set_cons_succ]
            refine wpAnyInL_take (i := 1) (v := ?va1) [2, 6, 7, 8, 9, 10, 11, 12, 13, 14, 15, 16, 17, 18, 19, 20, 21, 22, 23, 24, 25, 26] rfl rfl (by kernel_rfl) (by kernel_rfl) (by kernel_rfl) (by kernel_rfl) (by kernel_rfl) (by kernel_rfl) (fun _ _ _ h => h) (Or.inl ⟨by rfl, ?ha1⟩) (fun _ => rfl) (by assumption) ?ra1
            case ha1 =>
              intro w hSw
              try dsimp only at hSw
              go_simp
              try with_reducible rfl
            try simp only [Act.put, List.getElem_toArray, List.getElem_cons_succ, List.getElem_cons_zero, List.setIfInBounds_toArray, List.set_cons_zero, List.set_cons_succ]
            refine wpAnyInL_take (i := 2) (v := ?va2) [6, 7, 8, 9, 10, 11, 12, 13, 14, 15, 16, 17, 18, 19, 20, 21, 22, 23, 24, 25, 26] rfl rfl (by kernel_rfl) (by kernel_rfl) (by kernel_rfl) (by kernel_rfl) (by kernel_rfl) (by kernel_rfl) (fun _ _ _ h => h) (Or.inl ⟨by rfl, ?ha2⟩) (fun _ => rfl) (by assumption) ?ra2
            case ha2 =>
              intro w hSw
              try dsimp only at hSw
              go_simp
              try with_reducible rfl
            try simp only [Act.put, List.getElem_toArray, List.getElem_cons_succ, List.getElem_cons_zero, List.setIfInBounds_toArray, List.set_cons_zero, List.set_cons_succ]
            refine wpAnyInL_take (i := 3) (v := ?va3) [4, 5, 6, 7, 8, 9, 10, 11, 12, 13, 14, 15, 16, 17, 18, 19, 20, 21, 22, 23, 24, 25, 26] rfl rfl (by kernel_rfl) (by kernel_rfl) (by kernel_rfl) (by kernel_rfl) (by kernel_rfl) (by kernel_rfl) (fun _ _ _ h => h) (Or.inl ⟨by rfl, ?ha3⟩) (fun _ => rfl) (by assumption) ?ra3
            case ha3 =>
              intro w hSw
              try dsimp only at hSw
              go_simp
              try with_reducible rfl
            try simp only [Act.put, List.getElem_toArray, List.getElem_cons_succ, List.getElem_cons_zero, List.setIfInBounds_toArray, List.set_cons_zero, List.set_cons_succ]
            refine wpAnyInL_take (i := 4) (v := ?va4) [5, 6, 7, 8, 9, 10, 11, 12, 13, 14, 15, 16, 17, 18, 19, 20, 21, 22, 23, 24, 25, 26] rfl rfl (by kernel_rfl) (by kernel_rfl) (by kernel_rfl) (by kernel_rfl) (by kernel_rfl) (by kernel_rfl) (fun _ _ _ h => h) (Or.inl ⟨by rfl, ?ha4⟩) (fun _ => rfl) (by assumption) ?ra4
            case ha4 =>
              intro w hSw
              try dsimp only at hSw
              go_simp
              try with_reducible rfl
            try simp only [Act.put, List.getElem_toArray, List.getElem_cons_succ, List.getElem_cons_zero, List.setIfInBounds_toArray, List.set_cons_zero, List.set_cons_succ]
            refine wpAnyInL_take (i := 5) (v := ?va5) [6, 7, 8, 9, 10, 11, 12, 13, 14, 15, 16, 17, 18, 19, 20, 21, 22, 23, 24, 25, 26] rfl rfl (by kernel_rfl) (by kernel_rfl) (by kernel_rfl) (by kernel_rfl) (by kernel_rfl) (by kernel_rfl) (fun _ _ _ h => h) (Or.inl ⟨by rfl, ?ha5⟩) (fun _ => rfl) (by assumption) ?ra5
            case ha5 =>
              intro w hSw
              try dsimp only at hSw
              go_simp
              try with_reducible rfl
            try simp only [Act.put, List.getElem_toArray, List.getElem_cons_succ, List.getElem_cons_zero, List.setIfInBounds_toArray, List.set_cons_zero, List.set_cons_succ]
            refine wpAnyInL_take (i := 6) (v := ?va6) [7, 8, 9, 10, 11, 12, 13, 14, 15, 16, 17, 18, 19, 20, 21, 22, 23, 24, 25, 26] rfl rfl (by kernel_rfl) (by kernel_rfl) (by kernel_rfl) (by kernel_rfl) (by kernel_rfl) (by kernel_rfl) (fun _ _ _ h => h) (Or.inl ⟨by rfl, ?ha6⟩) (fun _ => rfl) (by assumption) ?ra6
            case ha6 =>
              intro w hSw
              try dsimp only at hSw
              go_simp
              try with_reducible rfl
            try simp only [Act.put, List.getElem_toArray, List.getElem_cons_succ, List.getElem_cons_zero, List.setIfInBounds_toArray, List.set_cons_zero, List.set_cons_succ]
            rw [decide_eq_false (show ¬ (xs.length : Int) ≤ 2 * (j : Int) + 1 by omega)]
            refine wpAnyInL_take (i := 7) (v := ?va7) [8, 9, 10, 11, 12, 13, 14, 15, 16, 17, 18, 19, 20, 21, 22, 23, 24, 25, 26] rfl rfl (by kernel_rfl) (by kernel_rfl) (by kernel_rfl) (by kernel_rfl) (by kernel_rfl) (by kernel_rfl) (fun _ _ _ h => h) (Or.inl ⟨by rfl, ?ha7⟩) (fun _ => rfl) (by assumption) ?ra7
            case ha7 =>
              intro w hSw
              try dsimp only at hSw
              go_simp
              try with_reducible rfl
            try simp only [Act.put, List.getElem_toArray, List.getElem_cons_succ, List.getElem_cons_zero, List.setIfInBounds_toArray, List.set_cons_zero, List.set_cons_succ]
            refine wpAnyInL_take (i := 8) (v := ?va8) [24, 25, 26] rfl rfl (by kernel_rfl) (by kernel_rfl) (by kernel_rfl) (by kernel_rfl) (by kernel_rfl) (by kernel_rfl) (fun _ _ _ h => h) (Or.inl ⟨by rfl, ?ha8⟩) (fun _ => rfl) (by assumption) ?ra8
            case ha8 =>
              intro w hSw
              try dsimp only at hSw
              go_simp
              try with_reducible rfl
            try simp only [Act.put, List.getElem_toArray, List.getElem_cons_succ, List.getElem_cons_zero, List.setIfInBounds_toArray, List.set_cons_zero, List.set_cons_succ]
            refine wpAnyInL_take (i := 9) (v := ?va9) [24, 25, 26] rfl rfl (by kernel_rfl) (by kernel_rfl) (by kernel_rfl) (by kernel_rfl) (by kernel_rfl) (by kernel_rfl) (fun _ _ _ h => h) (Or.inl ⟨by rfl, ?ha9⟩) (fun _ => rfl) (by assumption) ?ra9
            case ha9 =>
              intro w hSw
              try dsimp only at hSw
              go_simp
              try with_reducible rfl
            try simp only [Act.put, List.getElem_toArray, List.getElem_cons_succ, List.getElem_cons_zero, List.setIfInBounds_toArray, List.set_cons_zero, List.set_cons_succ]
            refine wpAnyInL_take (i := 10) (v := ?va10) [11, 14, 15, 23, 24, 25, 26] rfl rfl (by kernel_rfl) (by kernel_rfl) (by kernel_rfl) (by kernel_rfl) (by kernel_rfl) (by kernel_rfl) (fun _ _ _ h => h) (Or.inl ⟨by rfl, ?ha10⟩) (fun _ => rfl) (by assumption) ?ra10
            case ha10 =>
              intro w hSw
              try dsimp only at hSw
              go_simp
              try with_reducible rfl
            try simp only [Act.put, List.getElem_toArray, List.getElem_cons_succ, List.getElem_cons_zero, List.setIfInBounds_toArray, List.set_cons_zero, List.set_cons_succ]
            refine wpAnyInL_take (i := 11) (v := ?va11) [14, 15, 23, 24, 25, 26] rfl rfl (by kernel_rfl) (by kernel_rfl) (by kernel_rfl) (by kernel_rfl) (by kernel_rfl) (by kernel_rfl) (fun _ _ _ h => h) (Or.inl ⟨by rfl, ?ha11⟩) (fun _ => rfl) (by assumption) ?ra11
            case ha11 =>
              intro w hSw
              try dsimp only at hSw
              go_simp
              try with_reducible rfl
            try simp only [Act.put, List.getElem_toArray, List.getElem_cons_succ, List.getElem_cons_zero, List.setIfInBounds_toArray, List.set_cons_zero, List.set_cons_succ]
            refine wpAnyInL_take (i := 12) (v := ?va12) [13, 14, 15, 23, 24, 25, 26] rfl rfl (by kernel_rfl) (by kernel_rfl) (by kernel_rfl) (by kernel_rfl) (by kernel_rfl) (by kernel_rfl) (fun _ _ _ h => h) (Or.inl ⟨by rfl, ?ha12⟩) (fun _ => rfl) (by assumption) ?ra12
            case ha12 =>
              intro w hSw
              try dsimp only at hSw
              go_simp
              try with_reducible rfl
            try simp only [Act.put, List.getElem_toArray, List.getElem_cons_succ, List.getElem_cons_zero, List.setIfInBounds_toArray, List.set_cons_zero, List.set_cons_succ]
            refine wpAnyInL_take (i := 13) (v := ?va13) [14, 15, 23, 24, 25, 26] rfl rfl (by kernel_rfl) (by kernel_rfl) (by kernel_rfl) (by kernel_rfl) (by kernel_rfl) (by kernel_rfl) (fun _ _ _ h => h) (Or.inl ⟨by rfl, ?ha13⟩) (fun _ => rfl) (by assumption) ?ra13
            case ha13 =>
              intro w hSw
              try dsimp only at hSw
              go_simp
              try with_reducible rfl
            try simp only [Act.put, List.getElem_toArray, List.getElem_cons_succ, List.getElem_cons_zero, List.setIfInBounds_toArray, List.set_cons_zero, List.set_cons_succ]
            refine wpAnyInL_take (i := 14) (v := ?va14) [15, 23, 24, 25, 26] rfl rfl (by kernel_rfl) (by kernel_rfl) (by kernel_rfl) (by kernel_rfl) (by kernel_rfl) (by kernel_rfl) (fun _ _ _ h => h) (Or.inl ⟨by rfl, ?ha14⟩) (fun _ => rfl) (by assumption) ?ra14
            case ha14 =>
              intro w hSw
              try dsimp only at hSw
              go_simp
              try with_reducible rfl
            try simp only [Act.put, List.getElem_toArray, List.getElem_cons_succ, List.getElem_cons_zero, List.setIfInBounds_toArray, List.set_cons_zero, List.set_cons_succ]
            refine wpAnyInL_take (i := 15) (v := ?va15) [23, 24, 25, 26] rfl rfl (by kernel_rfl) (by kernel_rfl) (by kernel_rfl) (by kernel_rfl) (by kernel_rfl) (by kernel_rfl) (fun _ _ _ h => h) (Or.inl ⟨by rfl, ?ha15⟩) (fun _ => rfl) (by assumption) ?ra15
            case ha15 =>
              intro w hSw
              try dsimp only at hSw
              go_simp
              try with_reducible rfl
            try simp only [Act.put, List.getElem_toArray, List.getElem_cons_succ, List.getElem_cons_zero, List.setIfInBounds_toArray, List.set_cons_zero, List.set_cons_succ]
            refine wpAnyInL_take (i := 16) (v := ?va16) [17, 21, 22, 23, 24, 25, 26] rfl rfl (by kernel_rfl) (by kernel_rfl) (by kernel_rfl) (by kernel_rfl) (by kernel_rfl) (by kernel_rfl) (fun _ _ _ h => h) (Or.inl ⟨by rfl, ?ha16⟩) (fun _ => rfl) (by assumption) ?ra16
            case ha16 =>
              intro w hSw
              try dsimp only at hSw
              go_simp
              try with_reducible rfl
            try simp only [Act.put, List.getElem_toArray, List.getElem_cons_succ, List.getElem_cons_zero, List.setIfInBounds_toArray, List.set_cons_zero, List.set_cons_succ]
            refine wpAnyInL_take (i := 17) (v := ?va17) [21, 22, 23, 24, 25, 26] rfl rfl (by kernel_rfl) (by kernel_rfl) (by kernel_rfl) (by kernel_rfl) (by kernel_rfl) (by kernel_rfl) (fun _ _ _ h => h) (Or.inl ⟨by rfl, ?ha17⟩) (fun _ => rfl) (by assumption) ?ra17
            case ha17 =>
              intro w hSw
              try dsimp only at hSw
              go_simp
              try with_reducible rfl
            try simp only [Act.put, List.getElem_toArray, List.getElem_cons_succ, List.getElem_cons_zero, List.setIfInBounds_toArray, List.set_cons_zero, List.set_cons_succ]
            refine wpAnyInL_take (i := 18) (v := ?va18) [19, 20, 21, 22, 23, 24, 25, 26] rfl rfl (by kernel_rfl) (by kernel_rfl) (by kernel_rfl) (by kernel_rfl) (by kernel_rfl) (by kernel_rfl) (fun _ _ _ h => h) (Or.inl ⟨by rfl, ?ha18⟩) (fun _ => rfl) (by assumption) ?ra18
            case ha18 =>
              intro w hSw
              try dsimp only at hSw
              go_simp
              try with_reducible rfl
            try simp only [Act.put, List.getElem_toArray, List.getElem_cons_succ, List.getElem_cons_zero, List.setIfInBounds_toArray, List.set_cons_zero, List.set_cons_succ]
            refine wpAnyInL_take (i := 19) (v := ?va19) [20, 21, 22, 23, 24, 25, 26] rfl rfl (by kernel_rfl) (by kernel_rfl) (by kernel_rfl) (by kernel_rfl) (by kernel_rfl) (by kernel_rfl) (fun _ _ _ h => h) (Or.inl ⟨by rfl, ?ha19⟩) (fun _ => rfl) (by assumption) ?ra19
            case ha19 =>
              intro w hSw
              try dsimp only at hSw
              go_simp
              try with_reducible rfl
            try simp only [Act.put, List.getElem_toArray, List.getElem_cons_succ, List.getElem_cons_zero, List.setIfInBounds_toArray, List.set_cons_zero, List.set_cons_succ]
            refine wpAnyInL_take (i := 20) (v := ?va20) [21, 22, 23, 24, 25, 26] rfl rfl (by kernel_rfl) (by kernel_rfl) (by kernel_rfl) (by kernel_rfl) (by kernel_rfl) (by kernel_rfl) (fun _ _ _ h => h) (Or.inl ⟨by rfl, ?ha20⟩) (fun _ => rfl) (by assumption) ?ra20
            case ha20 =>
              intro w hSw
              try dsimp only at hSw
              go_simp
              try with_reducible rfl
            try simp only [Act.put, List.getElem_toArray, List.getElem_cons_succ, List.getElem_cons_zero, List.setIfInBounds_toArray, List.set_cons_zero, List.set_cons_succ]
            refine wpAnyInL_take (i := 21) (v := ?va21) [22, 23, 24, 25, 26] rfl rfl (by kernel_rfl) (by kernel_rfl) (by kernel_rfl) (by kernel_rfl) (by kernel_rfl) (by kernel_rfl) (fun _ _ _ h => h) (Or.inl ⟨by rfl, ?ha21⟩) (fun _ => rfl) (by assumption) ?ra21
            case ha21 =>
              intro w hSw
              try dsimp only at hSw
              go_simp
              try with_reducible rfl
            try simp only [Act.put, List.getElem_toArray, List.getElem_cons_succ, List.getElem_cons_zero, List.setIfInBounds_toArray, List.set_cons_zero, List.set_cons_succ]
            refine wpAnyInL_take (i := 22) (v := ?va22) [23, 24, 25, 26] rfl rfl (by kernel_rfl) (by kernel_rfl) (by kernel_rfl) (by kernel_rfl) (by kernel_rfl) (by kernel_rfl) (fun _ _ _ h => h) (Or.inl ⟨by rfl, ?ha22⟩) (fun _ => rfl) (by assumption) ?ra22
            case ha22 =>
              intro w hSw
              try dsimp only at hSw
              go_simp
              try with_reducible rfl
            try simp only [Act.put, List.getElem_toArray, List.getElem_cons_succ, List.getElem_cons_zero, List.setIfInBounds_toArray, List.set_cons_zero, List.set_cons_succ]
            refine wpAnyInL_take (i := 23) (v := ?va23) [24, 25, 26] rfl rfl (by kernel_rfl) (by kernel_rfl) (by kernel_rfl) (by kernel_rfl) (by kernel_rfl) (by kernel_rfl) (fun _ _ _ h => h) (Or.inl ⟨by rfl, ?ha23⟩) (fun _ => rfl) (by assumption) ?ra23
            case ha23 =>
              intro w hSw
              try dsimp only at hSw
              go_simp
              try with_reducible rfl
            try simp only [Act.put, List.getElem_toArray, List.getElem_cons_succ, List.getElem_cons_zero, List.setIfInBounds_toArray, List.set_cons_zero, List.set_cons_succ]
            refine wpAnyInL_one (i := 24) (by kernel_rfl) rfl (fun K hK => ?sb6)
            go_simp
            refine ⟨(fun h => by cases h), hR.mono ?_⟩
            rintro e W3 (⟨rfl, hJ3, hk3⟩ | ⟨rfl, hJx3⟩)
            · refine hK.out _ _ (fun h => absurd (by decide) h) (fun _ => ?mx6)
              clear hK K
              try simp only [Act.put, List.getElem_toArray, List.getElem_cons_succ, List.getElem_cons_zero, List.setIfInBounds_toArray, List.set_cons_zero, List.set_cons_succ]
              refine wpAnyInL_one (i := 25) (by kernel_rfl) rfl (fun K hK => ?sx7)
              go_simp
              refine hK.out _ _ (fun h => absurd (by decide) h) (fun _ => ?mx7)
              clear hK K
              try simp only [Act.put, List.getElem_toArray, List.getElem_cons_succ, List.getElem_cons_zero, List.setIfInBounds_toArray, List.set_cons_zero, List.set_cons_succ]
              refine wpAnyInL_one (i := 26) (by kernel_rfl) rfl (fun K hK => ?sx8)
              go_simp
              refine hK.out _ _ (fun h => absurd (by decide) h) (fun _ => ?mx8)
              clear hK K
              try simp only [Act.put, List.getElem_toArray, List.getElem_cons_succ, List.getElem_cons_zero, List.setIfInBounds_toArray, List.set_cons_zero, List.set_cons_succ]
              refine wpAnyInL_done (by kernel_rfl) ?_ _
              gi_wp2
              go_roundw
              case rel => exact ⟨j + 1, _, by omega, by go_num, hup.snoc hjm, hJ3, hnx2.trans hk3⟩
              case measure => simp [intOf]; omega
            · refine hK.out _ _ (fun h => absurd (by decide) h) (fun _ => ?my6)
              clear hK K
              try simp only [Act.put, List.getElem_toArray, List.getElem_cons_succ, List.getElem_cons_zero, List.setIfInBounds_toArray, List.set_cons_zero, List.set_cons_succ]
              refine wpAnyInL_one (i := 25) (by kernel_rfl) rfl (fun K hK => ?sy7)
              go_simp
              refine hK.out _ _ (fun h => absurd (by decide) h) (fun _ => ?my7)
              clear hK K
              try simp only [Act.put, List.getElem_toArray, List.getElem_cons_succ, List.getElem_cons_zero, List.setIfInBounds_toArray, List.set_cons_zero, List.set_cons_succ]
              refine wpAnyInL_one (i := 26) (by kernel_rfl) rfl (fun K hK => ?sy8)
              go_simp
              refine hK.out _ _ (fun h => absurd (by decide) h) (fun _ => ?my8)
              clear hK K
              try simp only [Act.put, List.getElem_toArray, List.getElem_cons_succ, List.getElem_cons_zero, List.setIfInBounds_toArray, List.set_cons_zero, List.set_cons_succ]
              refine wpAnyInL_done (by kernel_rfl) ?_ _
              gi_wp2
              refine bodyPost_ret (results_none rfl _ _ _) rfl ?_
              exact ⟨⟨_, rfl⟩, .inr ⟨_, ⟨j + 1, by omega, hup.snoc hjm⟩, hJx3⟩⟩
        · obtain rfl : j = m := by omega
          have hxm := hm3 hlt
          have i4 : (xs.length : Int) ≤ 2 * (j : Int) + 1 := by omega
          have HJ := Lib.hid (hJ _ _ hJs)
          clear hJ hY hcs hba hbx hd
          gi_wp2_with fail
          refine wpIn_region_L (fun X => X.cell? ⟨Bs, 1, none⟩ = some (.slice a2 xs.length c2)) [] (by kernel_rfl) hBr (fun hHeld => ?_)
          refine wpAnyInL_take (i := 0) (v := ?vb0) [1, 2, 6, 7, 8, 9, 10, 11, 12, 13, 14, 15, 16, 17, 18, 19, 20, 21, 22, 23, 24, 25, 26] rfl rfl (by kernel_rfl) (by kernel_rfl) (by kernel_rfl) (by kernel_rfl) (by kernel_rfl) (by kernel_rfl) (fun _ _ _ h => h) (Or.inl ⟨by rfl, ?hb0⟩) (fun _ => rfl) (by assumption) ?rb0
          case hb0 =>
            intro w hSw
            try dsimp only at hSw
            go_simp
            try with_reducible rfl
          try simp only [Act.put, List.getElem_toArray, List.getElem_cons_succ, List.getElem_cons_zero, List.setIfInBounds_toArray, List.set_cons_zero, List.set_cons_succ]
          refine wpAnyInL_take (i := 1) (v := ?vb1) [2, 6, 7, 8, 9, 10, 11, 12, 13, 14, 15, 16, 17, 18, 19, 20, 21, 22, 23, 24, 25, 26] rfl rfl (by kernel_rfl) (by kernel_rfl) (by kernel_rfl) (by kernel_rfl) (by kernel_rfl) (by kernel_rfl) (fun _ _ _ h => h) (Or.inl ⟨by rfl, ?hb1⟩) (fun _ => rfl) (by assumption) ?rb1
          case hb1 =>
            intro w hSw
            try dsimp only at hSw
            go_simp
            try with_reducible rfl
          try simp only [Act.put, List.getElem_toArray, List.getElem_cons_succ, List.getElem_cons_zero, List.setIfInBounds_toArray, List.set_cons_zero, List.set_cons_succ]
          refine wpAnyInL_take (i := 2) (v := ?vb2) [6, 7, 8, 9, 10, 11, 12, 13, 14, 15, 16, 17, 18, 19, 20, 21, 22, 23, 24, 25, 26] rfl rfl (by kernel_rfl) (by kernel_rfl) (by kernel_rfl) (by kernel_rfl) (by kernel_rfl) (by kernel_rfl) (fun _ _ _ h => h) (Or.inl ⟨by rfl, ?hb2⟩) (fun _ => rfl) (by assumption) ?rb2
          case hb2 =>
            intro w hSw
            try dsimp only at hSw
            go_simp
            try with_reducible rfl
          try simp only [Act.put, List.getElem_toArray, List.getElem_cons_succ, List.getElem_cons_zero, List.setIfInBounds_toArray, List.set_cons_zero, List.set_cons_succ]
          refine wpAnyInL_take (i := 3) (v := ?vb3) [4, 5, 6, 7, 8, 9, 10, 11, 12, 13, 14, 15, 16, 17, 18, 19, 20, 21, 22, 23, 24, 25, 26] rfl rfl (by kernel_rfl) (by kernel_rfl) (by kernel_rfl) (by kernel_rfl) (by kernel_rfl) (by kernel_rfl) (fun _ _ _ h => h) (Or.inl ⟨by rfl, ?hb3⟩) (fun _ => rfl) (by assumption) ?rb3
          case hb3 =>
            intro w hSw
            try dsimp only at hSw
            go_simp
            try with_reducible rfl
          try simp only [Act.put, List.getElem_toArray, List.getElem_cons_succ, List.getElem_cons_zero, List.setIfInBounds_toArray, List.set_cons_zero, List.set_cons_succ]
          refine wpAnyInL_take (i := 4) (v := ?vb4) [5, 6, 7, 8, 9, 10, 11, 12, 13, 14, 15, 16, 17, 18, 19, 20, 21, 22, 23, 24, 25, 26] rfl rfl (by kernel_rfl) (by kernel_rfl) (by kernel_rfl) (by kernel_rfl) (by kernel_rfl) (by kernel_rfl) (fun _ _ _ h => h) (Or.inl ⟨by rfl, ?hb4⟩) (fun _ => rfl) (by assumption) ?rb4
          case hb4 =>
            intro w hSw
            try dsimp only at hSw
            go_simp
            try with_reducible rfl
          try simp only [Act.put, List.getElem_toArray, List.getElem_cons_succ, List.getElem_cons_zero, List.setIfInBounds_toArray, List.set_cons_zero, List.set_cons_succ]
          refine wpAnyInL_take (i := 5) (v := ?vb5) [6, 7, 8, 9, 10, 11, 12, 13, 14, 15, 16, 17, 18, 19, 20, 21, 22, 23, 24, 25, 26] rfl rfl (by kernel_rfl) (by kernel_rfl) (by kernel_rfl) (by kernel_rfl) (by kernel_rfl) (by kernel_rfl) (fun _ _ _ h => h) (Or.inl ⟨by rfl, ?hb5⟩) (fun _ => rfl) (by assumption) ?rb5
          case hb5 =>
            intro w hSw
            try dsimp only at hSw
            go_simp
            try with_reducible rfl
          try simp only [Act.put, List.getElem_toArray, List.getElem_cons_succ, List.getElem_cons_zero, List.setIfInBounds_toArray, List.set_cons_zero, List.set_cons_succ]
          refine wpAnyInL_take (i := 6) (v := ?vb6) [7, 8, 9, 10, 11, 12, 13, 14, 15, 16, 17, 18, 19, 20, 21, 22, 23, 24, 25, 26] rfl rfl (by kernel_rfl) (by kernel_rfl) (by kernel_rfl) (by kernel_rfl) (by kernel_rfl) (by kernel_rfl) (fun _ _ _ h => h) (Or.inl ⟨by rfl, ?hb6⟩) (fun _ => rfl) (by assumption) ?rb6
          case hb6 =>
            intro w hSw
            try dsimp only at hSw
            go_simp
            try with_reducible rfl
          try simp only [Act.put, List.getElem_toArray, List.getElem_cons_succ, List.getElem_cons_zero, List.setIfInBounds_toArray, List.set_cons_zero, List.set_cons_succ]
          (try rw [decide_eq_true i4])
          refine wpAnyInL_take (i := 7) (v := ?vb7) [8, 9, 10, 11, 12, 13, 14, 15, 16, 17, 18, 19, 20, 21, 22, 23, 24, 25, 26] rfl rfl (by kernel_rfl) (by kernel_rfl) (by kernel_rfl) (by kernel_rfl) (by kernel_rfl) (by kernel_rfl) (fun _ _ _ h => h) (Or.inl ⟨by rfl, ?hb7⟩) (fun _ => rfl) (by assumption) ?rb7
          case hb7 =>
            intro w hSw
            try dsimp only at hSw
            go_simp
            try with_reducible rfl
          try simp only [Act.put, List.getElem_toArray, List.getElem_cons_succ, List.getElem_cons_zero, List.setIfInBounds_toArray, List.set_cons_zero, List.set_cons_succ]
          refine wpAnyInL_take (i := 8) (v := undef) [24, 25, 26] rfl rfl (by kernel_rfl) (by kernel_rfl) (by kernel_rfl) (by kernel_rfl) (by kernel_rfl) (by kernel_rfl) (fun _ _ _ h => h) (Or.inr ⟨by rfl, rfl⟩) (fun _ => rfl) (by assumption) ?rb8
          try simp only [Act.put, List.getElem_toArray, List.getElem_cons_succ, List.getElem_cons_zero, List.setIfInBounds_toArray, List.set_cons_zero, List.set_cons_succ]
          refine wpAnyInL_take (i := 9) (v := undef) [24, 25, 26] rfl rfl (by kernel_rfl) (by kernel_rfl) (by kernel_rfl) (by kernel_rfl) (by kernel_rfl) (by kernel_rfl) (fun _ _ _ h => h) (Or.inr ⟨by rfl, rfl⟩) (fun _ => rfl) (by assumption) ?rb9
          try simp only [Act.put, List.getElem_toArray, List.getElem_cons_succ, List.getElem_cons_zero, List.setIfInBounds_toArray, List.set_cons_zero, List.set_cons_succ]
          refine wpAnyInL_take (i := 10) (v := undef) [11, 14, 15, 23, 24, 25, 26] rfl rfl (by kernel_rfl) (by kernel_rfl) (by kernel_rfl) (by kernel_rfl) (by kernel_rfl) (by kernel_rfl) (fun _ _ _ h => h) (Or.inr ⟨by rfl, rfl⟩) (fun _ => rfl) (by assumption) ?rb10
          try simp only [Act.put, List.getElem_toArray, List.getElem_cons_succ, List.getElem_cons_zero, List.setIfInBounds_toArray, List.set_cons_zero, List.set_cons_succ]
          refine wpAnyInL_take (i := 11) (v := undef) [14, 15, 23, 24, 25, 26] rfl rfl (by kernel_rfl) (by kernel_rfl) (by kernel_rfl) (by kernel_rfl) (by kernel_rfl) (by kernel_rfl) (fun _ _ _ h => h) (Or.inr ⟨by rfl, rfl⟩) (fun _ => rfl) (by assumption) ?rb11
          try simp only [Act.put, List.getElem_toArray, List.getElem_cons_succ, List.getElem_cons_zero, List.setIfInBounds_toArray, List.set_cons_zero, List.set_cons_succ]
          refine wpAnyInL_take (i := 12) (v := undef) [13, 14, 15, 23, 24, 25, 26] rfl rfl (by kernel_rfl) (by kernel_rfl) (by kernel_rfl) (by kernel_rfl) (by kernel_rfl) (by kernel_rfl) (fun _ _ _ h => h) (Or.inr ⟨by rfl, rfl⟩) (fun _ => rfl) (by assumption) ?rb12
          try simp only [Act.put, List.getElem_toArray, List.getElem_cons_succ, List.getElem_cons_zero, List.setIfInBounds_toArray, List.set_cons_zero, List.set_cons_succ]
          refine wpAnyInL_take (i := 13) (v := undef) [14, 15, 23, 24, 25, 26] rfl rfl (by kernel_rfl) (by kernel_rfl) (by kernel_rfl) (by kernel_rfl) (by kernel_rfl) (by kernel_rfl) (fun _ _ _ h => h) (Or.inr ⟨by rfl, rfl⟩) (fun _ => rfl) (by assumption) ?rb13
          try simp only [Act.put, List.getElem_toArray, List.getElem_cons_succ, List.getElem_cons_zero, List.setIfInBounds_toArray, List.set_cons_zero, List.set_cons_succ]
          refine wpAnyInL_take (i := 14) (v := undef) [15, 23, 24, 25, 26] rfl rfl (by kernel_rfl) (by kernel_rfl) (by kernel_rfl) (by kernel_rfl) (by kernel_rfl) (by kernel_rfl) (fun _ _ _ h => h) (Or.inr ⟨by rfl, rfl⟩) (fun _ => rfl) (by assumption) ?rb14
          try simp only [Act.put, List.getElem_toArray, List.getElem_cons_succ, List.getElem_cons_zero, List.setIfInBounds_toArray, List.set_cons_zero, List.set_cons_succ]
          refine wpAnyInL_take (i := 15) (v := undef) [23, 24, 25, 26] rfl rfl (by kernel_rfl) (by kernel_rfl) (by kernel_rfl) (by kernel_rfl) (by kernel_rfl) (by kernel_rfl) (fun _ _ _ h => h) (Or.inr ⟨by rfl, rfl⟩) (fun _ => rfl) (by assumption) ?rb15
          try simp only [Act.put, List.getElem_toArray, List.getElem_cons_succ, List.getElem_cons_zero, List.setIfInBounds_toArray, List.set_cons_zero, List.set_cons_succ]
          refine wpAnyInL_take (i := 16) (v := undef) [17, 21, 22, 23, 24, 25, 26] rfl rfl (by kernel_rfl) (by kernel_rfl) (by kernel_rfl) (by kernel_rfl) (by kernel_rfl) (by kernel_rfl) (fun _ _ _ h => h) (Or.inr ⟨by rfl, rfl⟩) (fun _ => rfl) (by assumption) ?rb16
          try simp only [Act.put, List.getElem_toArray, List.getElem_cons_succ, List.getElem_cons_zero, List.setIfInBounds_toArray, List.set_cons_zero, List.set_cons_succ]
          refine wpAnyInL_take (i := 17) (v := undef) [21, 22, 23, 24, 25, 26] rfl rfl (by kernel_rfl) (by kernel_rfl) (by kernel_rfl) (by kernel_rfl) (by kernel_rfl) (by kernel_rfl) (fun _ _ _ h => h) (Or.inr ⟨by rfl, rfl⟩) (fun _ => rfl) (by assumption) ?rb17
          try simp only [Act.put, List.getElem_toArray, List.getElem_cons_succ, List.getElem_cons_zero, List.setIfInBounds_toArray, List.set_cons_zero, List.set_cons_succ]
          refine wpAnyInL_take (i := 18) (v := undef) [19, 20, 21, 22, 23, 24, 25, 26] rfl rfl (by kernel_rfl) (by kernel_rfl) (by kernel_rfl) (by kernel_rfl) (by kernel_rfl) (by kernel_rfl) (fun _ _ _ h => h) (Or.inr ⟨by rfl, rfl⟩) (fun _ => rfl) (by assumption) ?rb18
          try simp only [Act.put, List.getElem_toArray, List.getElem_cons_succ, List.getElem_cons_zero, List.setIfInBounds_toArray, List.set_cons_zero, List.set_cons_succ]
          refine wpAnyInL_take (i := 19) (v := undef) [20, 21, 22, 23, 24, 25, 26] rfl rfl (by kernel_rfl) (by kernel_rfl) (by kernel_rfl) (by kernel_rfl) (by kernel_rfl) (by kernel_rfl) (fun _ _ _ h => h) (Or.inr ⟨by rfl, rfl⟩) (fun _ => rfl) (by assumption) ?rb19
          try simp only [Act.put, List.getElem_toArray, List.getElem_cons_succ, List.getElem_cons_zero, List.setIfInBounds_toArray, List.set_cons_zero, List.set_cons_succ]
          refine wpAnyInL_take (i := 20) (v := undef) [21, 22, 23, 24, 25, 26] rfl rfl (by kernel_rfl) (by kernel_rfl) (by kernel_rfl) (by kernel_rfl) (by kernel_rfl) (by kernel_rfl) (fun _ _ _ h => h) (Or.inr ⟨by rfl, rfl⟩) (fun _ => rfl) (by assumption) ?rb20
          try simp only [Act.put, List.getElem_toArray, List.getElem_cons_succ, List.getElem_cons_zero, List.setIfInBounds_toArray, List.set_cons_zero, List.set_cons_succ]
          refine wpAnyInL_take (i := 21) (v := undef) [22, 23, 24, 25, 26] rfl rfl (by kernel_rfl) (by kernel_rfl) (by kernel_rfl) (by kernel_rfl) (by kernel_rfl) (by kernel_rfl) (fun _ _ _ h => h) (Or.inr ⟨by rfl, rfl⟩) (fun _ => rfl) (by assumption) ?rb21
          try simp only [Act.put, List.getElem_toArray, List.getElem_cons_succ, List.getElem_cons_zero, List.setIfInBounds_toArray, List.set_cons_zero, List.set_cons_succ]
          refine wpAnyInL_take (i := 22) (v := undef) [23, 24, 25, 26] rfl rfl (by kernel_rfl) (by kernel_rfl) (by kernel_rfl) (by kernel_rfl) (by kernel_rfl) (by kernel_rfl) (fun _ _ _ h => h) (Or.inr ⟨by rfl, rfl⟩) (fun _ => rfl) (by assumption) ?rb22
          try simp only [Act.put, List.getElem_toArray, List.getElem_cons_succ, List.getElem_cons_zero, List.setIfInBounds_toArray, List.set_cons_zero, List.set_cons_succ]
          refine wpAnyInL_take (i := 23) (v := undef) [24, 25, 26] rfl rfl (by kernel_rfl) (by kernel_rfl) (by kernel_rfl) (by kernel_rfl) (by kernel_rfl) (by kernel_rfl) (fun _ _ _ h => h) (Or.inr ⟨by rfl, rfl⟩) (fun _ => rfl) (by assumption) ?rb23
          try simp only [Act.put, List.getElem_toArray, List.getElem_cons_succ, List.getElem_cons_zero, List.setIfInBounds_toArray, List.set_cons_zero, List.set_cons_succ]
          refine wpAnyInL_take (i := 24) (v := undef) [25, 26] rfl rfl (by kernel_rfl) (by kernel_rfl) (by kernel_rfl) (by kernel_rfl) (by kernel_rfl) (by kernel_rfl) (fun _ _ _ h => h) (Or.inr ⟨by rfl, rfl⟩) (fun _ => rfl) (by assumption) ?rb24
          try simp only [Act.put, List.getElem_toArray, List.getElem_cons_succ, List.getElem_cons_zero, List.setIfInBounds_toArray, List.set_cons_zero, List.set_cons_succ]
          refine wpAnyInL_take (i := 25) (v := undef) [26] rfl rfl (by kernel_rfl) (by kernel_rfl) (by kernel_rfl) (by kernel_rfl) (by kernel_rfl) (by kernel_rfl) (fun _ _ _ h => h) (Or.inr ⟨by rfl, rfl⟩) (fun _ => rfl) (by assumption) ?rb25
          try simp only [Act.put, List.getElem_toArray, List.getElem_cons_succ, List.getElem_cons_zero, List.setIfInBounds_toArray, List.set_cons_zero, List.set_cons_succ]
          refine wpAnyInL_take (i := 26) (v := ?vb26) [] rfl rfl (by kernel_rfl) (by kernel_rfl) (by kernel_rfl) (by kernel_rfl) (by kernel_rfl) (by kernel_rfl) (fun _ _ _ h => h) (Or.inl ⟨by rfl, ?hb26⟩) (fun _ => rfl) (by assumption) ?rb26
          case hb26 =>
            intro w hSw
            try dsimp only at hSw
            go_simp
            try with_reducible rfl
          try simp only [Act.put, List.getElem_toArray, List.getElem_cons_succ, List.getElem_cons_zero, List.setIfInBounds_toArray, List.set_cons_zero, List.set_cons_succ]
          refine wpAnyInL_done (by kernel_rfl) ?_ _
          gi_wp2
          refine bodyPost_ret (results_none rfl _ _ _) rfl ?_
          exact ⟨⟨_, rfl⟩, .inl ⟨_, hup, HJ.out⟩⟩
    · obtain rfl : j = m := by omega
      obtain rfl : j = S := by omega
      gi_wp2
      go_end0
      exact ⟨⟨_, rfl⟩, .inl ⟨_, hup, hJs⟩⟩
theorem pairsI_stops (n Bs n₀ m k : Nat) {a2 ax : Option Addr} {xs sx : List Int} {c2 cl cx b o0 : Nat} (hx : xs.length ≤ 1000) (hs : sx.length ≤ 1000) (hk : 0 < k) (hm1 : m ≤ sx.length) (hm2 : 2 * m ≤ xs.length) (hm3 : m < sx.length → xs.length ≤ 2 * m + 1)
    (hba : xs ≠ [] → ∀ a, a2 = some a → a.block < n₀) (hbx : sx ≠ [] → ∀ a, ax = some a → a.block < n₀) (w : World) (hBs : Bs < w.heap.size)
    (hB1 : w.cell? ⟨Bs, 1, none⟩ = some (.slice a2 xs.length c2)) (hB2 : w.cell? ⟨Bs, 2, none⟩ = some (.slice (some ⟨b, o0, none⟩) k cl)) (hcx : w.cell? ⟨b, o0, none⟩ = some (.slice ax sx.length cx)) (hla : LimS w a2 xs) (hlx : LimS w ax sx) :
    SeqStopsK Fence.wide n Tryz.prog 258 #[.pointer (some ⟨Bs, 0, none⟩)] (pairI sx xs (n := m)) (KpS n₀ Bs) (fun ys => Upto ys m) (fun pre => ∃ k, k ≤ m ∧ Upto pre k) m w := fun l J Jx W hW hJ _ hY h0 =>
  pairsI_in n l Bs n₀ m k hx hs hk hm1 hm2 hm3 hba hbx J Jx (fun pre A hj => hJ pre A A.drew none hj ⟨rfl, rfl, rfl, Nat.le_refl _, fun _ _ _ => rfl⟩ (fun _ h => by cases h)) hY W
    ((hW.cell (p := ⟨Bs, 1, none⟩) hBs).trans hB1) ((hW.cell (p := ⟨Bs, 2, none⟩) hBs).trans hB2) ((hW.cell (p := ⟨b, o0, none⟩) (World.block_lt_of_cell? _ _ hcx)).trans hcx) (hla.later hW) (hlx.later hW) h0
end
end Go.Proofs.YtjgiacghlkkjfaaGreatDoor
