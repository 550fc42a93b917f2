/-
  Part 27 of 34: contracts and what they rest on (TCmp, TCode1, TCode2, TCode3, TCode5, TJoin, MFuncs).
-/
import Derived.Test.YtooglnhlhgmhdaaGreatV1
import Derived.Test.YtooglnhlhgmhdaaGreatV2
import Derived.Test.YtooglnhlhgmhdaaGreatV3
import Derived.Test.YtooglnhlhgmhdaaGreatV4
import Derived.Test.YtooglnhlhgmhdaaGreatV5
import Derived.Test.YtooglnhlhgmhdaaGreatV7
import Derived.Test.YtooglnhlhgmhdaaGreatV9
import Derived.Test.YtooglnhlhgmhdaaGreatV12
import Derived.Test.YtooglnhlhgmhdaaGreatV13
import Derived.Test.YtooglnhlhgmhdaaGreatV14
import Derived.Test.YtooglnhlhgmhdaaGreatV16
import Derived.Test.YtooglnhlhgmhdaaGreatV18
import Derived.Test.YtooglnhlhgmhdaaGreatV19
import Derived.Test.YtooglnhlhgmhdaaGreatV20
import Derived.Test.YtooglnhlhgmhdaaGreatV22
import Derived.Test.YtooglnhlhgmhdaaGreatV23
import Derived.Test.YtooglnhlhgmhdaaGreatV24
import Derived.Test.YtooglnhlhgmhdaaGreatV25
import Derived.WalkKit
import Derived.Test.YtooglnhlhgmhdaaGreatRows
import Derived.BigQuiet
import Derived.Deep.QuietTactic
import Derived.Lib.Hide
import Derived.Lib.Small
import Derived.Lib.Walk
import Derived.Lib.BitFns
import Derived.Maps.AppendAt
import Derived.RangeFuncNested
import Derived.RangeFuncBound
import Derived.RangeFuncCalls
import Derived.RangeFuncLeaves
import Derived.Shelf.Abstract
import Derived.OwnWalkIn
import Derived.TacticsInMore
import Derived.LoopNIn
import Derived.LoopIn
import Derived.RangeFuncBox
import Derived.Deep.RegionHeld3
import Derived.OrdersIn
import Derived.StillTailTactics
import Derived.RangeFuncFrom
import Derived.Laws.EntriesVeiled
import Derived.ProofKit
import Derived.OpenShut
import Derived.JoinedCond
import Derived.Carry
import Derived.Laws.AppendOwnNone
import Derived.Lib.ItoaNum
import Derived.Deep.RegionLaw
import Derived.WalkMore
import Derived.Lib.SmallJoins
import Derived.IntWalk
import Derived.Deep.DeepCutAuto
import Derived.Laws.OwnMore
import Derived.OrdersHeld
import Derived.Deep.RegionHeld
import Derived.ArgAppend
import Derived.Deep.Slices
import Derived.Laws.CopyOwn
import Derived.Lib.SliceRun
namespace Go.Proofs.YtooglnhlhgmhdaaGreat
set_option maxRecDepth 100000
section
open Go.RowKit
set_option linter.unusedVariables false
set_option linter.unusedSimpArgs false
/-- two tensors' dimensions are the same, and each two elements meet B -/
noncomputable def allBC {α β : Type} (B : α → β → Bool) (s1 s2 : List Int) (L1 : List α) (L2 : List β) : Bool := @decide (s1 = s2 ∧ L1.length = L2.length ∧ ∀ (i : Nat) (x : α) (y : β), L1[i]? = some x → L2[i]? = some y → B x y = true) (Classical.propDecidable _)
theorem allBC_yes {α β : Type} {B : α → β → Bool} {s1 s2 : List Int} {L1 : List α} {L2 : List β} (h1 : s1 = s2) (h2 : L1.length = L2.length) (h3 : ∀ (i : Nat) (x : α) (y : β), L1[i]? = some x → L2[i]? = some y → B x y = true) : allBC B s1 s2 L1 L2 = true := by
  unfold allBC
  simp only [decide_eq_true_eq]
  exact ⟨h1, h2, h3⟩
theorem allBC_no {α β : Type} {B : α → β → Bool} {s1 s2 : List Int} {L1 : List α} {L2 : List β} (h : ¬ (s1 = s2 ∧ L1.length = L2.length ∧ ∀ (i : Nat) (x : α) (y : β), L1[i]? = some x → L2[i]? = some y → B x y = true)) : allBC B s1 s2 L1 L2 = false := by
  unfold allBC
  simp only [decide_eq_false_iff_not]
  exact h
theorem sameRaw_any {n : Nat} {w : World} {u v : Value} {p q : Q3} (hu : RawQ w u p) (hv : RawQ w v q) (hp : p.num.length ≤ n ∧ p.den.length ≤ n) (hq : q.num.length ≤ n ∧ q.den.length ≤ n) (hn : n ≤ 1048576) :
    Calls Tryz.prog 38 #[u, v] w fun e w' => e = .returned (.bool (decide (p.rat = q.rat))) ∧ Below w.heap.size w w' := by
  have a1 := hu.arg hp.1 hp.2
  have a2 := hv.arg hq.1 hq.2
  obtain ⟨ad, bd, ca, cb, rfl, _⟩ := hu
  obtain ⟨ad', bd', ca', cb', rfl, _⟩ := hv
  exact sameR_any a1 a2 (by omega)
set_option maxRecDepth 100000 in
set_option maxHeartbeats 8000000 in
theorem sameT_any {n : Nat} {w : World} {u v : Value} {s1 s2 : List Int} {L1 : List Q3} {L2 : List Q3} {a1 b1 a2 b2 : Option Addr} {ca1 cb1 ca2 cb2 : Nat} (T1 : TensQ w u s1 L1 a1 ca1 b1 cb1) (T2 : TensQ w v s2 L2 a2 ca2 b2 cb2) (hs : s1.length ≤ 140737488355328) (hq1 : L1.length ≤ 1000000000) (hq2 : L2.length ≤ 1000000000) (hn : n ≤ 1048576) (hl1 : ∀ q ∈ L1, q.num.length ≤ n ∧ q.den.length ≤ n) (hl2 : ∀ q ∈ L2, q.num.length ≤ n ∧ q.den.length ≤ n) :
    Calls Tryz.prog 34 #[u, v] w fun e w' => e = .returned (.bool (allBC (fun (p q : Q3) => decide (p.rat = q.rat)) s1 s2 L1 L2)) ∧ Below w.heap.size w w' := by
  have HT1 := Lib.hid T1
  have HT2 := Lib.hid T2
  obtain rfl := T1.is
  obtain rfl := T2.is
  obtain ⟨W, hW⟩ : ∃ W, ((w.alloc (.cells #[.slice a1 s1.length ca1, .slice b1 L1.length cb1] 26)).alloc (.cells #[.slice a2 s2.length ca2, .slice b2 L2.length cb2] 26)) = W := ⟨_, rfl⟩
  have R0 : Row W w.heap.size 26 #[.slice a1 s1.length ca1, .slice b1 L1.length cb1] := by rw [← hW]; exact (Row.new _ _ _).alloc _
  have R1 : Row W (w.heap.size + 1) 26 #[.slice a2 s2.length ca2, .slice b2 L2.length cb2] := by rw [← hW]; have h := (Row.new (w.alloc (.cells #[.slice a1 s1.length ca1, .slice b1 L1.length cb1] 26)) 26 #[.slice a2 s2.length ca2, .slice b2 L2.length cb2]); simp only [World.size_alloc] at h; exact h
  have hBW : Below w.heap.size w W := by rw [← hW]; exact ((Below.refl _ _).alloc (by simp) _).alloc (by simp) _
  obtain ⟨c, hc⟩ : ∃ c, allBC (fun (p q : Q3) => decide (p.rat = q.rat)) s1 s2 L1 L2 = c := ⟨_, rfl⟩
  have HC := Lib.hid hc
  rw [hc]
  have q1 := sameSh_any (HT1.out.sh.later hBW) (HT2.out.sh.later hBW) hs
  obtain ⟨p0, p1, _, _⟩ := R0.two
  obtain ⟨o0, o1, _, _⟩ := R1.two
  clear T1 T2 hc
  by_cases hsh : s1 = s2
  · rw [decide_eq_true hsh] at q1
    have HSH := Lib.hid hsh
    clear hsh
    by_cases hlen : L1.length = L2.length
    · have hne : ((L1.length : Int) != (L2.length : Int)) = false := by simp; omega
      have HLN := Lib.hid hlen
      clear hlen
      go_enter Tryz.func34, Tryz.ntmps34
      go_wp2_with (go_at_call 35; refine q1.mono ?_; rintro e w1 ⟨rfl, hb1⟩; have R0' := R0.later hb1; have R1' := R1.later hb1; obtain ⟨c00, c01, _, _⟩ := R0'.two; obtain ⟨c10, c11, _, _⟩ := R1'.two)
      have hBW1 : Below w.heap.size w w1 := hBW.trans (hb1.mono hBW.size)
      clear hne q1 hW c00 c01 c10 c11
      go_loopw [5] (fun i wr => ∃ k : Nat, i = .int .i64 (k : Int) ∧ k ≤ L1.length ∧ (∀ i x y, i < k → L1[i]? = some x → L2[i]? = some y → decide (x.rat = y.rat) = true) ∧ Below w1.heap.size w1 wr) (fun i _ => L1.length - (intOf i).toNat)
      case atStart => exact ⟨0, rfl, Nat.zero_le _, fun i x y h => by omega, Below.refl _ _⟩
      case round =>
        obtain ⟨k, rfl, hk, hall, hb⟩ := hrel
        have r0 := R0'.later hb
        have r1 := R1'.later hb
        obtain ⟨c00, c01, _, _⟩ := r0.two
        obtain ⟨c10, c11, _, _⟩ := r1.two
        have HALL := Lib.hid hall
        clear hall
        by_cases hlt : k < L1.length
        · have hlt2 : k < L2.length := by have := HLN.out; omega
          have hbw := hBW1.trans (hb.mono hBW1.size)
          obtain ⟨bb, o, x0, x1, x2, q, hbo, hqk, e0, e1, e2, hraw⟩ := (HT1.out.el.later hbw (fun v x _ k => k.later hbw)).at hlt
          obtain ⟨bd, od, y0, y1, y2, t, hbd, htk, d0, d1, d2, hrat⟩ := (HT2.out.el.later hbw (fun v x _ k => k.later hbw)).at hlt2
          have hm1 := List.mem_of_getElem? hqk
          have hm2 := List.mem_of_getElem? htk
          subst hbo
          subst hbd
          have hcall := fun X (hX : Below wr.heap.size wr X) => sameRaw_any (hraw.later hX) (hrat.later hX) (hl1 q hm1) (hl2 t hm2) hn
          have hltI : (k : Int) < (L1.length : Int) := by omega
          have hltI2 : (k : Int) < (L2.length : Int) := by omega
          have HQK := Lib.hid hqk
          have HTK := Lib.hid htk
          have mkS : ∀ X, Below wr.heap.size wr X → X.cell? ⟨w.heap.size, 1, none⟩ = some (.slice (some ⟨bb, o, none⟩) L1.length cb1) ∧ X.cell? ⟨w.heap.size + 1, 1, none⟩ = some (.slice (some ⟨bd, od, none⟩) L2.length cb2) ∧ X.cell? ⟨bb, o + k * 3, none⟩ = some x0 ∧ X.cell? ⟨bb, o + k * 3 + 1, none⟩ = some x1 ∧ X.cell? ⟨bb, o + k * 3 + 2, none⟩ = some x2 ∧
            X.cell? ⟨bd, od + k * 3, none⟩ = some y0 ∧ X.cell? ⟨bd, od + k * 3 + 1, none⟩ = some y1 ∧ X.cell? ⟨bd, od + k * 3 + 2, none⟩ = some y2 ∧ Below wr.heap.size wr X := fun X h =>
            ⟨(r0.later h).cell 1, (r1.later h).cell 1, (h.cell (World.block_lt_of_cell? wr _ e0)).trans e0, (h.cell (World.block_lt_of_cell? wr _ e1)).trans e1, (h.cell (World.block_lt_of_cell? wr _ e2)).trans e2, (h.cell (World.block_lt_of_cell? wr _ d0)).trans d0, (h.cell (World.block_lt_of_cell? wr _ d1)).trans d1, (h.cell (World.block_lt_of_cell? wr _ d2)).trans d2, h⟩
          clear hqk htk hraw hrat
          obtain ⟨bo, hbo⟩ : ∃ bo, decide (q.rat = t.rat) = bo := ⟨_, rfl⟩
          rw [hbo] at hcall
          have HBO := Lib.hid hbo
          clear hbo
          cases bo with
          | true =>
            go_wp2_with fail
            go_region_held3 (fun X => X.cell? ⟨w.heap.size, 1, none⟩ = some (.slice (some ⟨bb, o, none⟩) L1.length cb1) ∧ X.cell? ⟨w.heap.size + 1, 1, none⟩ = some (.slice (some ⟨bd, od, none⟩) L2.length cb2) ∧ X.cell? ⟨bb, o + k * 3, none⟩ = some x0 ∧ X.cell? ⟨bb, o + k * 3 + 1, none⟩ = some x1 ∧ X.cell? ⟨bb, o + k * 3 + 2, none⟩ = some x2 ∧
                X.cell? ⟨bd, od + k * 3, none⟩ = some y0 ∧ X.cell? ⟨bd, od + k * 3 + 1, none⟩ = some y1 ∧ X.cell? ⟨bd, od + k * 3 + 2, none⟩ = some y2 ∧ Below wr.heap.size wr X)
              (((refine mkS _ ?_; (repeat' (first | exact Below.refl _ _ | refine Below.drew ?_ | assumption)))))
              ((go_at_call 38; (with_reducible refine (hcall _ (show Below wr.heap.size wr _ by (repeat' (first | exact Below.refl _ _ | refine Below.drew ?_)))).mono ?_); rintro e w2 ⟨rfl, hb2⟩; have hb2 : Below wr.heap.size wr w2 := ((Below.refl _ _).drew).trans hb2))
            go_wp2
            go_roundw
            case rel =>
              refine ⟨k + 1, by go_num, by omega, fun i x y hi h1 h2 => ?_, hb.trans (hb2.mono hb.size)⟩
              by_cases hik : i = k
              · subst hik
                rw [HQK.out] at h1
                rw [HTK.out] at h2
                cases h1
                cases h2
                exact HBO.out
              · exact HALL.out i x y (by omega) h1 h2
            case measure => simp [intOf]; omega
          | false =>
            obtain rfl : c = false := by rw [← HC.out]; exact allBC_no fun ⟨_, _, h⟩ => by have := h k q t HQK.out HTK.out; rw [show decide (q.rat = t.rat) = false from HBO.out] at this; cases this
            go_wp2_with fail
            go_region_held3 (fun X => X.cell? ⟨w.heap.size, 1, none⟩ = some (.slice (some ⟨bb, o, none⟩) L1.length cb1) ∧ X.cell? ⟨w.heap.size + 1, 1, none⟩ = some (.slice (some ⟨bd, od, none⟩) L2.length cb2) ∧ X.cell? ⟨bb, o + k * 3, none⟩ = some x0 ∧ X.cell? ⟨bb, o + k * 3 + 1, none⟩ = some x1 ∧ X.cell? ⟨bb, o + k * 3 + 2, none⟩ = some x2 ∧
                X.cell? ⟨bd, od + k * 3, none⟩ = some y0 ∧ X.cell? ⟨bd, od + k * 3 + 1, none⟩ = some y1 ∧ X.cell? ⟨bd, od + k * 3 + 2, none⟩ = some y2 ∧ Below wr.heap.size wr X)
              (((refine mkS _ ?_; (repeat' (first | exact Below.refl _ _ | refine Below.drew ?_ | assumption)))))
              ((go_at_call 38; (with_reducible refine (hcall _ (show Below wr.heap.size wr _ by (repeat' (first | exact Below.refl _ _ | refine Below.drew ?_)))).mono ?_); rintro e w2 ⟨rfl, hb2⟩; have hb2 : Below wr.heap.size wr w2 := ((Below.refl _ _).drew).trans hb2))
            go_wp2
            go_ret
            exact ⟨rfl, hBW1.trans ((hb.trans (hb2.mono hb.size)).mono hBW1.size)⟩
        · obtain rfl : k = L1.length := by omega
          have hltI : ¬ (L1.length : Int) < (L1.length : Int) := by omega
          obtain rfl : c = true := by rw [← HC.out]; exact allBC_yes HSH.out HLN.out fun i x y h1 h2 => HALL.out i x y (by
            rcases Nat.lt_or_ge i L1.length with g | g
            · exact g
            · rw [List.getElem?_eq_none g] at h1; cases h1) h1 h2
          go_wp2
          go_ret
          exact ⟨rfl, hBW1.trans (hb.mono hBW1.size)⟩
    · have hne : ((L1.length : Int) != (L2.length : Int)) = true := by simp; omega
      obtain rfl : c = false := by rw [← HC.out]; exact allBC_no fun h => hlen h.2.1
      clear hlen
      go_enter Tryz.func34, Tryz.ntmps34
      go_wp2_with (go_at_call 35; refine q1.mono ?_; rintro e w1 ⟨rfl, hb1⟩; have R0' := R0.later hb1; have R1' := R1.later hb1; obtain ⟨c00, c01, _, _⟩ := R0'.two; obtain ⟨c10, c11, _, _⟩ := R1'.two)
      go_ret
      exact ⟨rfl, hBW.trans (hb1.mono hBW.size)⟩
  · rw [decide_eq_false hsh] at q1
    obtain rfl : c = false := by rw [← HC.out]; exact allBC_no fun h => hsh h.1
    clear hsh
    go_enter Tryz.func34, Tryz.ntmps34
    go_wp2_with (go_at_call 35; refine q1.mono ?_; rintro e w1 ⟨rfl, hb1⟩; have R0' := R0.later hb1; have R1' := R1.later hb1; obtain ⟨c00, c01, _, _⟩ := R0'.two; obtain ⟨c10, c11, _, _⟩ := R1'.two)
    go_ret
    exact ⟨rfl, hBW.trans (hb1.mono hBW.size)⟩
end
section
open Go.RowKit Go.Shelf
attribute [local go_sem] Oper.semAt_some
set_option linter.unusedVariables false
set_option linter.unusedSimpArgs false
theorem allQ_any (ad : Option Addr) (n cap : Nat) (w : World) :
    Calls Tryz.prog 82 #[.slice ad n cap] w fun e w' => e = .returned (.func (.func 108) #[] #[.pointer (some ⟨w.heap.size, 0, none⟩)]) ∧ w' = w.alloc (.cells #[.slice ad n cap] 100) := by
  go_enter Tryz.func82, Tryz.ntmps82
  go_wp2
  go_ret
  exact ⟨rfl, rfl⟩
theorem allQ_stops (n Bs n₀ : Nat) (ad : Option Addr) (es : List E3) (cap : Nat) (hm : es.length ≤ 1000000000000) (hcap : es.length ≤ cap) (w : World) (hn₀ : n₀ ≤ w.heap.size) (hBs : Bs < w.heap.size)
    (hc : w.cell? ⟨Bs, 0, none⟩ = some (.slice ad es.length cap)) (hl : LimE w ad es n₀) (hsh : ShE es) :
    SeqStopsK Fence.wide n Tryz.prog 108 #[.pointer (some ⟨Bs, 0, none⟩)] (ratAt es (n := es.length)) (Below n₀) (fun ys => Upto ys es.length) (fun pre => ∃ k, k ≤ es.length ∧ Upto pre k) es.length w := fun l J Jx W hW hJ _ hY h0 =>
  allQ_in n l Bs n₀ ad es cap hm hcap J Jx (fun pre A B hj hb => hJ pre A B none hj ⟨hb.os, hb.tape, hb.output, hb.size, fun k hk _ => hb.block k hk⟩ (fun _ h => by cases h)) hY W (Nat.le_trans hn₀ hW.size) ((hW.cell (p := ⟨Bs, 0, none⟩) hBs).trans hc) (hl.below (hW.mono hn₀)) hsh h0
theorem besideQ_any (a b : Option Addr) (n m ca cb : Nat) (w : World) :
    Calls Tryz.prog 75 #[.slice a n ca, .slice b m cb] w fun e w' => e = .returned (.func (.func 99) #[] #[.pointer (some ⟨w.heap.size, 0, none⟩), .pointer (some ⟨w.heap.size + 1, 0, none⟩)]) ∧
      w' = (w.alloc (.cells #[.slice a n ca] 100)).alloc (.cells #[.slice b m cb] 100) := by
  go_enter Tryz.func75, Tryz.ntmps75
  go_wp2
  go_ret
  simp
end
section
open Go.RowKit Go.Shelf
attribute [local go_sem] Oper.semAt_some
set_option linter.unusedVariables false
set_option linter.unusedSimpArgs false
set_option maxRecDepth 100000 in
set_option maxHeartbeats 4000000 in
theorem besideQ_in (n l Bs n₀ : Nat) (a1 a2 : Option Addr) (es fs : List E3) (cap1 cap2 : Nat) (hm : es.length ≤ 1000000000000) (hlen : fs.length = es.length) (J Jx : List (Fin es.length) → World → Prop)
    (hJ : ∀ pre A B, J pre A → Below A.heap.size A B → J pre B)
    (hY : ∀ pre x W, J pre W → pre.length < es.length → YieldAt Fence.wide (n - 1) Tryz.prog l (ratsAt es fs x) W fun e W' =>
      (e = .returned (.bool true) ∧ J (pre ++ [x]) W' ∧ KpS n₀ (Bs + 1) W W') ∨ (e = .returned (.bool false) ∧ Jx (pre ++ [x]) W'))
    (W : World) (hn₀ : Bs + 1 < W.heap.size) (hW₀ : n₀ ≤ W.heap.size) (hB1 : W.cell? ⟨Bs, 0, none⟩ = some (.slice a1 es.length cap1)) (hB2 : W.cell? ⟨Bs + 1, 0, none⟩ = some (.slice a2 fs.length cap2)) (hl1 : LimE W a1 es n₀) (hl2 : LimE W a2 fs n₀) (hsh1 : ShE es) (hsh2 : ShE fs) (h0 : J [] W) :
    CallsIn Fence.wide n Tryz.prog 99 #[.func (.yield l) #[] #[], .pointer (some ⟨Bs, 0, none⟩), .pointer (some ⟨Bs + 1, 0, none⟩)] W fun e W' => (∃ v, e = .returned v) ∧
      ((∃ ys, Upto ys es.length ∧ J ys W') ∨ (∃ pre, (∃ k, k ≤ es.length ∧ Upto pre k) ∧ Jx pre W')) := by
  refine callsIn_of_wp Tryz.func99 rfl trivial ?_ rfl
  simp only [Tryz.ntmps99, List.size_toArray, List.length_cons, List.length_nil, Nat.reduceAdd, Nat.reduceSub, Array.replicate_succ, Array.replicate_zero, List.push_toArray, List.append_toArray, List.nil_append, List.cons_append]
  gi_wp2_with fail
  gi_loopw [4, 5, 8] (fun _ _ i wr => ∃ (k : Nat) (pre : List (Fin es.length)), k ≤ es.length ∧ i = .int .i64 k ∧ Upto pre k ∧ J pre wr ∧ KpS n₀ (Bs + 1) W wr)
    (fun _ _ i _ => es.length - (intOf i).toNat)
  case atStart => exact ⟨0, [], Nat.zero_le _, rfl, rfl, h0, KpS.refl _ _ _⟩
  case round =>
    obtain ⟨k, pre, hk, rfl, hup, hJs, hnx⟩ := hrel
    by_cases hlt : k < es.length
    · obtain ⟨b, o, rfl, c0, c1, c2⟩ := (hl1.below hnx.below).cells hlt
      obtain ⟨b', o', rfl, e0, e1, e2⟩ := (hl2.below hnx.below).cells (k := k) (by omega)
      have hB2' := (World.cell?_of_block (a := ⟨Bs + 1, 0, none⟩) hnx.box).trans hB2
      have hsz := hnx.below.size
      obtain ⟨z1, z2, z3, z4, z5, z6, z7, he⟩ := hsh1 k hlt
      obtain ⟨y1, y2, y3, y4, y5, y6, y7, hf⟩ := hsh2 k (by omega)
      obtain ⟨W2, hW2⟩ : ∃ W2, wr.alloc (.cells #[(es[k]?.getD dfE).a, (es[k]?.getD dfE).b, (es[k]?.getD dfE).c] 58) = W2 := ⟨_, rfl⟩
      have hb2 : Below wr.heap.size wr W2 := by rw [← hW2]; exact (Below.refl _ _).alloc (Nat.le_refl _) _
      have R2 : Row W2 wr.heap.size 58 #[(es[k]?.getD dfE).a, (es[k]?.getD dfE).b, (es[k]?.getD dfE).c] := by rw [← hW2]; exact Row.new _ _ _
      obtain ⟨d0, d1, d2, _, _, _⟩ := R2.three
      have hY2 := hY pre ⟨k, hlt⟩ W2.drew (hJ _ _ _ hJs hb2.drew) (by rw [hup.length]; exact hlt)
      obtain ⟨fn, tmps, assign, body, hy, hR⟩ := hY2
      have hnx2 : KpS n₀ (Bs + 1) W W2.drew := hnx.trans ⟨(hb2.mono (by omega)).drew, hb2.block (Bs + 1) (by omega)⟩
      simp only [ratsAt] at hy
      have f0 := (hb2.cell (p := ⟨b', o' + k * 3, none⟩) (World.block_lt_of_cell? wr _ e0)).trans e0
      have f1 := (hb2.cell (p := ⟨b', o' + k * 3 + 1, none⟩) (World.block_lt_of_cell? wr _ e1)).trans e1
      have f2 := (hb2.cell (p := ⟨b', o' + k * 3 + 2, none⟩) (World.block_lt_of_cell? wr _ e2)).trans e2
      have g2 := (hb2.cell (p := ⟨Bs + 1, 0, none⟩) (World.block_lt_of_cell? wr _ hB2')).trans hB2'
      rw [he] at hy c0 c1 c2 hW2 d0 d1 d2
      rw [hf] at hy e0 e1 e2 f0 f1 f2
      simp only at hy
      have hfl : fs.length = es.length := hlen
      rw [hfl] at g2
      have HJ := Lib.hid hJ
      have HY := Lib.hid hY
      have hkI : (k : Int) < (es.length : Int) := by omega
      clear hJ hY hl1 hl2 he hf R2 hsh1 hsh2 hlen
      gi_wp2_with fail
      refine wpIn_region_L (fun X => X.cell? ⟨wr.heap.size, 0, none⟩ = some (.bool z1) ∧ X.cell? ⟨wr.heap.size, 1, none⟩ = some (.slice z2 z3 z4) ∧ X.cell? ⟨wr.heap.size, 2, none⟩ = some (.slice z5 z6 z7) ∧
        X.cell? ⟨Bs + 1, 0, none⟩ = some (.slice (some ⟨b', o', none⟩) es.length cap2) ∧ X.cell? ⟨b', o' + k * 3, none⟩ = some (.bool y1) ∧ X.cell? ⟨b', o' + k * 3 + 1, none⟩ = some (.slice y2 y3 y4) ∧ X.cell? ⟨b', o' + k * 3 + 2, none⟩ = some (.slice y5 y6 y7)) [6, 7] (by kernel_rfl)
        ⟨d0, d1, d2, g2, f0, f1, f2⟩ (fun hHeld => ?_)
      refine wpAnyInL_take (i := 0) (v := ?va0) [6, 7] rfl rfl (by kernel_rfl) (by kernel_rfl) (by kernel_rfl) (by kernel_rfl) (by kernel_rfl) (by kernel_rfl) (fun _ _ _ h => h) (Or.inl ⟨by rfl, ?ha0⟩) (fun _ => rfl) (by assumption) ?ra0
      case ha0 =>
        intro w hSw
        try dsimp only at hSw
        go_simp
        try with_reducible rfl
      try simp only [Act.put, List.setIfInBounds_toArray, List.set_cons_zero, List.set_cons_succ]
      refine wpAnyInL_take (i := 1) (v := ?va1) [6, 7] rfl rfl (by kernel_rfl) (by kernel_rfl) (by kernel_rfl) (by kernel_rfl) (by kernel_rfl) (by kernel_rfl) (fun _ _ _ h => h) (Or.inl ⟨by rfl, ?ha1⟩) (fun _ => rfl) (by assumption) ?ra1
      case ha1 =>
        intro w hSw
        try dsimp only at hSw
        go_simp
        try with_reducible rfl
      try simp only [Act.put, List.setIfInBounds_toArray, List.set_cons_zero, List.set_cons_succ]
      refine wpAnyInL_take (i := 2) (v := ?va2) [4, 5, 6, 7] rfl rfl (by kernel_rfl) (by kernel_rfl) (by kernel_rfl) (by kernel_rfl) (by kernel_rfl) (by kernel_rfl) (fun _ _ _ h => h) (Or.inl ⟨by rfl, ?ha2⟩) (fun _ => rfl) (by assumption) ?ra2
      case ha2 =>
        intro w hSw
        try dsimp only at hSw
        go_simp
        try with_reducible rfl
      try simp only [Act.put, List.setIfInBounds_toArray, List.set_cons_zero, List.set_cons_succ]
      refine wpAnyInL_take (i := 3) (v := ?va3) [4, 5, 6, 7] rfl rfl (by kernel_rfl) (by kernel_rfl) (by kernel_rfl) (by kernel_rfl) (by kernel_rfl) (by kernel_rfl) (fun _ _ _ h => h) (Or.inl ⟨by rfl, ?ha3⟩) (fun _ => rfl) (by assumption) ?ra3
      case ha3 =>
        intro w hSw
        try dsimp only at hSw
        go_simp
        try with_reducible rfl
      try simp only [Act.put, List.setIfInBounds_toArray, List.set_cons_zero, List.set_cons_succ]
      refine wpAnyInL_take (i := 4) (v := ?va4) [5, 6, 7] rfl rfl (by kernel_rfl) (by kernel_rfl) (by kernel_rfl) (by kernel_rfl) (by kernel_rfl) (by kernel_rfl) (fun _ _ _ h => h) (Or.inl ⟨by rfl, ?ha4⟩) (fun _ => rfl) (by assumption) ?ra4
      case ha4 =>
        intro w hSw
        try dsimp only at hSw
        go_simp
        try with_reducible rfl
      try simp only [Act.put, List.setIfInBounds_toArray, List.set_cons_zero, List.set_cons_succ]
      refine wpAnyInL_take (i := 5) (v := ?va5) [6, 7] rfl rfl (by kernel_rfl) (by kernel_rfl) (by kernel_rfl) (by kernel_rfl) (by kernel_rfl) (by kernel_rfl) (fun _ _ _ h => h) (Or.inl ⟨by rfl, ?ha5⟩) (fun _ => rfl) (by assumption) ?ra5
      case ha5 =>
        intro w hSw
        try dsimp only at hSw
        go_simp
        try with_reducible rfl
      try simp only [Act.put, List.setIfInBounds_toArray, List.set_cons_zero, List.set_cons_succ]
      refine wpAnyInL_one (i := 6) (by kernel_rfl) rfl (fun K hK => ?sb6)
      go_simp
      refine ⟨(fun h => by cases h), hR.mono ?_⟩
      rintro e W3 (⟨rfl, hJ3, hk3⟩ | ⟨rfl, hJx3⟩)
      · refine hK.out _ _ (fun h => absurd (by decide) h) (fun _ => ?mb6)
        clear hK K
        try simp only [Act.put, List.setIfInBounds_toArray, List.set_cons_zero, List.set_cons_succ]
        refine wpAnyInL_one (i := 7) (by kernel_rfl) rfl (fun K hK => ?sb7)
        go_simp
        refine hK.out _ _ (fun h => absurd (by decide) h) (fun _ => ?mb7)
        clear hK K
        try simp only [Act.put, List.setIfInBounds_toArray, List.set_cons_zero, List.set_cons_succ]
        refine wpAnyInL_done (by kernel_rfl) ?_ _
        gi_wp2
        go_roundw
        case rel => exact ⟨k + 1, _, by omega, by go_num, hup.snoc hlt, hJ3, hnx2.trans hk3⟩
        case measure => simp [intOf]; omega
      · refine hK.out _ _ (fun h => absurd (by decide) h) (fun _ => ?mc6)
        clear hK K
        try simp only [Act.put, List.setIfInBounds_toArray, List.set_cons_zero, List.set_cons_succ]
        refine wpAnyInL_one (i := 7) (by kernel_rfl) rfl (fun K hK => ?sc7)
        go_simp
        refine hK.out _ _ (fun h => absurd (by decide) h) (fun _ => ?mc7)
        clear hK K
        try simp only [Act.put, List.setIfInBounds_toArray, List.set_cons_zero, List.set_cons_succ]
        refine wpAnyInL_done (by kernel_rfl) ?_ _
        gi_wp2
        refine bodyPost_ret (results_none rfl _ _ _) rfl ?_
        exact ⟨⟨_, rfl⟩, .inr ⟨_, ⟨k + 1, by omega, hup.snoc hlt⟩, hJx3⟩⟩
    · obtain rfl : k = es.length := by omega
      gi_wp2
      go_end0
      exact ⟨⟨_, rfl⟩, .inl ⟨_, hup, hJs⟩⟩
theorem besideQ_stops (n Bs n₀ : Nat) (a1 a2 : Option Addr) (es fs : List E3) (cap1 cap2 : Nat) (hm : es.length ≤ 1000000000000) (hlen : fs.length = es.length) (w : World) (hn₀ : Bs + 1 < w.heap.size) (hw : n₀ ≤ w.heap.size)
    (hB1 : w.cell? ⟨Bs, 0, none⟩ = some (.slice a1 es.length cap1)) (hB2 : w.cell? ⟨Bs + 1, 0, none⟩ = some (.slice a2 fs.length cap2)) (hl1 : LimE w a1 es n₀) (hl2 : LimE w a2 fs n₀) (hsh1 : ShE es) (hsh2 : ShE fs) :
    SeqStopsK Fence.wide n Tryz.prog 99 #[.pointer (some ⟨Bs, 0, none⟩), .pointer (some ⟨Bs + 1, 0, none⟩)] (ratsAt es fs (n := es.length)) (KpS n₀ (Bs + 1)) (fun ys => Upto ys es.length) (fun pre => ∃ k, k ≤ es.length ∧ Upto pre k) es.length w := fun l J Jx W hW hJ _ hY h0 =>
  besideQ_in n l Bs n₀ a1 a2 es fs cap1 cap2 hm hlen J Jx (fun pre A B hj hb => hJ pre A B none hj ⟨hb.os, hb.tape, hb.output, hb.size, fun k hk _ => hb.block k hk⟩ (fun _ h => by cases h)) hY W (Nat.lt_of_lt_of_le hn₀ hW.size) (Nat.le_trans hw hW.size) ((hW.cell (p := ⟨Bs, 0, none⟩) (by show Bs < w.heap.size; omega)).trans hB1) ((hW.cell (p := ⟨Bs + 1, 0, none⟩) (by show Bs + 1 < w.heap.size; omega)).trans hB2) (hl1.below (hW.mono hw)) (hl2.below (hW.mono hw)) hsh1 hsh2 h0
end
section
open Go.RowKit Go.Shelf
attribute [local go_sem] Oper.semAt_some
set_option linter.unusedVariables false
set_option linter.unusedSimpArgs false
set_option maxHeartbeats 2000000 in
theorem room_any {u : Value} {s : List Int} {a : Option Addr} {ca : Nat} {w : World} (A : ArgS w u s a ca) (n : Nat) :
    Calls Tryz.prog 81 #[u, .int .i64 (n : Int)] w fun e w' => e = .returned (.int .i64 (makeC s n)) ∧ w = w' := by
  have h1 := mayS_eq A
  have h2 := countS_eq A
  have e : makeC s n = if mayC s ≠ 0 then mayC s else if (n : Int) ≠ countS s then 13 else 0 := rfl
  obtain rfl := A.is
  rw [e]
  generalize mayC s = m at *
  generalize countS s = c at *
  clear e A
  by_cases h : m = 0
  · subst h
    by_cases hc : (n : Int) = c
    · have hn : ((n : Int) != c) = false := by simp [hc]
      have hd : (if (0 : Int) ≠ 0 then (0 : Int) else if (n : Int) ≠ c then 13 else 0) = 0 := by simp [hc]
      rw [hd]
      go_enter Tryz.func81, Tryz.ntmps81
      go_wp2_with (first | (go_at_call 52; refine h1.mono ?_; rintro e w1 ⟨rfl, rfl⟩) | (go_at_call 93; refine h2.mono ?_; rintro e w1 ⟨rfl, rfl⟩))
      go_ret
      exact ⟨rfl, rfl⟩
    · have hn : ((n : Int) != c) = true := by simp [hc]
      have hd : (if (0 : Int) ≠ 0 then (0 : Int) else if (n : Int) ≠ c then 13 else 0) = 13 := by simp [hc]
      rw [hd]
      go_enter Tryz.func81, Tryz.ntmps81
      go_wp2_with (first | (go_at_call 52; refine h1.mono ?_; rintro e w1 ⟨rfl, rfl⟩) | (go_at_call 93; refine h2.mono ?_; rintro e w1 ⟨rfl, rfl⟩))
      go_ret
      exact ⟨rfl, rfl⟩
  · have hn : (m != 0) = true := by simp [h]
    rw [if_pos h]
    go_enter Tryz.func81, Tryz.ntmps81
    go_wp2_with (first | (go_at_call 52; refine h1.mono ?_; rintro e w1 ⟨rfl, rfl⟩) | (go_at_call 93; refine h2.mono ?_; rintro e w1 ⟨rfl, rfl⟩))
    go_ret
    exact ⟨rfl, rfl⟩
theorem elements_any (a b : Option Addr) (n m ca cb : Nat) (w : World) :
    Calls Tryz.prog 74 #[.agg #[.slice a n ca, .slice b m cb]] w fun e w' => e = .returned (.slice b m cb) ∧ Below w.heap.size w w' := by
  go_enter Tryz.func74, Tryz.ntmps74
  go_wp2
  go_ret
  exact ⟨rfl, (Below.refl _ _).alloc (Nat.le_refl _) _⟩
end
section
open Go.RowKit Go.Shelf
attribute [local go_sem] Oper.semAt_some
set_option linter.unusedVariables false
set_option linter.unusedSimpArgs false
theorem mayT_make {s : List Int} {qs : List Q3} (h : makeC s qs.length ≠ 0) : mayT s qs = makeC s qs.length := by
  unfold makeC at h ⊢
  unfold mayT
  split
  · rfl
  · rename_i h1
    rw [if_neg h1] at h
    split
    · rfl
    · rename_i h2
      rw [if_neg h2] at h
      exact absurd rfl h
theorem mayT_all {s : List Int} {qs : List Q3} (h : makeC s qs.length = 0) : mayT s qs = if qs.all okQ = true then 0 else 6 := by
  unfold makeC at h
  unfold mayT
  split at h
  · rename_i h1; exact absurd h h1
  · rename_i h1
    rw [if_neg h1]
    split at h
    · cases h
    · rename_i h2
      rw [if_neg h2]
theorem mayRaw_any {n : Nat} {w : World} {v : Value} {q : Q3} (h : RawQ w v q) (h1 : q.num.length ≤ n) (h2 : q.den.length ≤ n) (hn : n ≤ 16777000) :
    Calls Tryz.prog 83 #[v] w fun e w' => e = .returned (.int .i64 (mayCode (okQ q))) ∧ Below w.heap.size w w' := by
  obtain ⟨ad, bd, ca, cb, rfl, A, D, _, _⟩ := h
  exact mayQ_any A D h1 h2 hn
set_option maxRecDepth 100000 in
set_option maxHeartbeats 8000000 in
theorem mayT7_big {n : Nat} {w : World} {v : Value} {s : List Int} {qs : List Q3} {a b : Option Addr} {ca cb : Nat} (T : TensQ w v s qs a ca b cb) (hq : qs.length ≤ 1048576) (hl : lensQ qs n) (hn : n ≤ 4000000) :
    Calls Tryz.prog 40 #[v] w fun e w' => e = .returned (.int .i64 (mayT s qs)) ∧ Below w.heap.size w w' := by
  obtain rfl := T.is
  obtain ⟨B, hB⟩ : ∃ B, w.heap.size = B := ⟨_, rfl⟩
  obtain ⟨W1, hW1⟩ : ∃ W1, w.alloc (.cells #[.slice a s.length ca, .slice b qs.length cb] 26) = W1 := ⟨_, rfl⟩
  obtain ⟨W2, hW2⟩ : ∃ W2, W1.alloc (.cells #[.int .i64 0] 27) = W2 := ⟨_, rfl⟩
  have s1 : W1.heap.size = B + 1 := by rw [← hW1, ← hB]; simp
  have s2 : W2.heap.size = B + 1 + 1 := by rw [← hW2, World.size_alloc, s1]
  have R0 : Row W2 B 26 #[.slice a s.length ca, .slice b qs.length cb] := by rw [← hW2, ← hW1, ← hB]; exact (Row.new _ _ _).alloc _
  have R1 : Row W2 (B + 1) 27 #[.int .i64 0] := by rw [← hW2, ← s1]; exact Row.new _ _ _
  have hb2 : Below B w W2 := by rw [← hW2, ← hW1]; exact ((Below.refl _ w).alloc (by omega) _).alloc (by simp; omega) _
  have T2 := T.later (by rw [hB]; exact hb2)
  obtain ⟨c0, c1, _, _⟩ := R0.two
  have hr := room_any T2.sh qs.length
  obtain ⟨c, hc⟩ : ∃ c, makeC s qs.length = c := ⟨_, rfl⟩
  rw [hc] at hr
  have HL := Lib.hid hl
  have HT := Lib.hid T
  have d1 := R1.cell 0
  have f1 := R1.free 0
  obtain ⟨n', hn'⟩ : ∃ n' : Nat, Hid (3 ≤ n') := ⟨3, Nat.le_refl 3⟩
  clear T T2 hl
  by_cases h0 : c = 0
  · subst h0
    have hmt := mayT_all hc
    rw [hmt]
    obtain ⟨dd, hdd⟩ : ∃ d : Int, (if qs.all okQ = true then 0 else 6) = d := ⟨_, rfl⟩
    rw [hdd]
    have HD := Lib.hid hdd
    clear hdd
    obtain ⟨es, hlim, hall⟩ := HT.out.el.limE
    have hsh : ShE es := shE_of hall (fun v x h => h.form)
    have hcap := HT.out.el.le
    have hel : es.length = qs.length := hall.1
    have HEL := Lib.hid hel
    have HA := Lib.hid hall
    have HC := Lib.hid hc
    rw [← hel] at hr hcap c1 R0 hq hW1 ⊢
    rw [hB] at hlim
    clear hall hmt hel hc
    refine (callsIn_wide (n := n')).1 ?_
    refine callsIn_of_wp_marks Tryz.func40 rfl trivial ?_ rfl
    simp only [Tryz.ntmps40, List.size_toArray, List.length_cons, List.length_nil, Nat.reduceAdd, Nat.reduceSub, Array.replicate_succ, Array.replicate_zero, List.push_toArray, List.append_toArray, List.nil_append, List.cons_append]
    gi_wp2_with fail
    refine wideCall (hr.mono ?_)
    rintro e w' ⟨rfl, rfl⟩
    gi_wp2_with fail
    refine wideCall ((elements_any _ _ _ _ _ _ _).mono ?_)
    rintro e w3 ⟨rfl, b3⟩
    gi_wp2_with fail
    refine wideCall ((allQ_any _ _ _ _).mono ?_)
    rintro e w' ⟨rfl, rfl⟩
    gi_wp2_with fail
    have s3 := b3.size
    obtain ⟨I, hI⟩ : ∃ I, w3.heap.size = I := ⟨_, rfl⟩
    obtain ⟨V, hV⟩ : ∃ V, w3.alloc (.cells #[.slice b es.length cb] 100) = V := ⟨_, rfl⟩
    have sV : V.heap.size = I + 1 := by rw [← hV, World.size_alloc, hI]
    have b4 : Below w3.heap.size w3 V := by rw [← hV]; exact (Below.refl _ _).alloc (Nat.le_refl _) _
    have d4 : Boxed V I 100 (.slice b es.length cb) := by rw [← hV, ← hI]; exact Boxed.new _ _ _
    have b2V : Below W2.heap.size W2 V := b3.trans (b4.mono s3)
    have e1 := R1.later b2V
    have e0 := R0.later b2V
    have hbV : Below B w V := hb2.trans (b2V.mono (by omega))
    have hlimV : LimE V b es B := hlim.below hbV
    simp only [hI, hV]
    have h3 : 3 ≤ n' := hn'
    clear hV
    refine wpIn_rangeFunc_ownH (F := Fence.wide) (n := n') rfl (by omega) (gf := 108) (lb := #[.pointer (some ⟨I, 0, none⟩)]) rfl trivial (enters_of Tryz.func108 (by kernel_rfl) rfl)
      (allQ_stops (n' - 1) I B b es cb (by omega) hcap V (by omega) (by omega) d4.cell hlimV hsh) belowK_t (belowK_b (by omega)) (Below.refl _ _) (fun _ => rfl)
      (fun (pre : List (Fin es.length)) X => Row X (B + 1) 27 #[.int .i64 0] ∧ (∀ x ∈ pre, okQ (qs[x.val]?.getD ⟨false, [], []⟩) = true) ∧ Below B w X ∧ I + 1 ≤ X.heap.size)
      (fun c pre X => c = .ret ∧ Row X (B + 1) 27 #[.int .i64 6] ∧ (∃ x ∈ pre, okQ (qs[x.val]?.getD ⟨false, [], []⟩) = false) ∧ Below B w X)
      (fun pre X Y row ⟨h1, h2, h3, h4⟩ hg hr => ⟨h1.keepC (KeepC.grown hg (fun r e => (hr r e).2)), h2, h3.grown hg (by have := h3.size; omega) (fun k e => by have := (hr k e).1; omega), Nat.le_trans h4 hg.size⟩)
      (fun c pre X Y row ⟨h0, h1, h2, h3⟩ hg hr => ⟨h0, h1.keepC (KeepC.grown hg (fun r e => (hr r e).2)), h2, h3.grown hg (by have := h3.size; omega) (fun k e => by have := (hr k e).1; omega)⟩)
      ⟨e1, (fun x h => by cases h), hbV, by omega⟩
      (fun (x : Fin es.length) a' X => ∃ p, I + 1 ≤ p ∧ Row X p 58 #[(es[x.val]?.getD dfE).a, (es[x.val]?.getD dfE).b, (es[x.val]?.getD dfE).c] ∧
        a' = { tmps := #[.agg #[.slice a s.length ca, .slice b es.length cb], .pointer (some ⟨B, 0, none⟩), .pointer (some ⟨B + 1, 0, none⟩), .int .i64 0, .pointer (some ⟨p, 0, none⟩), undef, .pointer (some ⟨B, 0, none⟩), .slice a s.length ca, .pointer (some ⟨B, 1, none⟩), .slice b es.length cb, .int .i64 es.length, .int .i64 0, .int .i64 0, .bool false, undef,
          .agg #[.slice a s.length ca, .slice b es.length cb], .slice b es.length cb, .func (.func 108) #[] #[.pointer (some ⟨I, 0, none⟩)], .agg #[(es[x.val]?.getD dfE).a, (es[x.val]?.getD dfE).b, (es[x.val]?.getD dfE).c], undef, undef, undef, undef, undef], defers := [] })
      (fun x a' _ X Y row ⟨p, h1, h2, h3⟩ hg hr => ⟨p, h1, h2.keepC (KeepC.grown hg (fun r e => (hr r e).2)), h3⟩)
      ?assign ?body ?done ?stop
    case assign =>
      rintro l pre ⟨k, hk⟩ X K ⟨h1, h2, h3, h4⟩ hK
      obtain ⟨z1, z2, z3, z4, z5, z6, z7, he⟩ := hsh k hk
      have hs3 := h3.size
      have hbX : Below X.heap.size X (X.alloc (.cells #[.bool z1, .slice z2 z3 z4, .slice z5 z6 z7] 58)) := (Below.refl _ _).alloc (Nat.le_refl _) _
      have kk := KeepC.below hbX
      have HK := Lib.hid hK
      simp only [ratAt]
      rw [he]
      simp only
      clear hK
      gi_wp2
      refine HK.out _ _ ⟨by simp, fun q o _ ho _ => (Below.heap_alloc _ _ _ (lt_of_block ho)).trans ho⟩ (hbX.mono (by omega)) ⟨h1.keepC kk, h2, h3.trans (hbX.mono (by omega)), by simp; omega⟩ ⟨X.heap.size, h4, ?_, ?_⟩
      · simp only [he]; exact Row.new _ _ _
      · simp only [he]
    case body =>
      rintro l pre ⟨k, hk⟩ a' X hl hrec ⟨h1, h2, h3, h4⟩ ⟨p, hp, hR, rfl⟩ hlt
      obtain ⟨z1, z2, z3, z4, z5, z6, z7, he⟩ := hsh k hk
      simp only at hR ⊢
      rw [he] at hR ⊢
      simp only at hR ⊢
      have hkq : k < qs.length := by rw [← HEL.out]; exact hk
      have hqk : qs[k]? = some qs[k] := List.getElem?_eq_getElem hkq
      obtain ⟨q, hq2⟩ : ∃ q, qs[k] = q := ⟨_, rfl⟩
      rw [hq2] at hqk
      have hek : es[k]? = some es[k] := List.getElem?_eq_getElem hk
      have hraw := HA.out.2 k _ _ hek hqk
      have e2 : es[k] = ⟨.bool z1, .slice z2 z3 z4, .slice z5 z6 z7⟩ := by rw [hek] at he; exact he
      rw [e2] at hraw
      have hmem := List.mem_of_getElem? hqk
      have hlq := HL.out q hmem
      have hgd : qs[k]?.getD ⟨false, [], []⟩ = q := by rw [hqk]; rfl
      obtain ⟨g0, g1, g2, _, _, _⟩ := hR.three
      have hs3 := h3.size
      have hrX := hraw.later (hB.symm ▸ h3 : Below w.heap.size w X)
      gi_wp2_with fail
      refine roundCall ((mayRaw_any hrX hlq.1 hlq.2 (by omega)).mono ?_)
      rintro e w5 ⟨rfl, b5⟩
      have s5 := b5.size
      have R5 := h1.later b5
      have f5 := R5.free 0
      have d5 := R5.cell 0
      by_cases hok : okQ q = true
      · rw [hok]
        have hm : mayCode true = 0 := rfl
        rw [hm]
        gi_wp2
        refine ⟨keepsFrom_below b5, b5.mono (by omega), R5, fun x hx => ?_, h3.trans (b5.mono (by omega)), by omega⟩
        rcases List.mem_append.1 hx with hx | hx
        · exact h2 x hx
        · simp at hx
          subst hx
          rw [hgd]
          exact hok
      · have hok2 : okQ q = false := by simpa using hok
        rw [hok2]
        have hm : mayCode false = 6 := rfl
        rw [hm]
        have R6 : Row (w5.setCell ⟨B + 1, 0, none⟩ (.int .i64 6)) (B + 1) 27 #[.int .i64 6] := R5.set 0 _
        gi_wp2
        refine ⟨keepsFrom_set (keepsFrom_below b5) _ _, rfl, R6, ⟨_, List.mem_append_right _ (List.mem_singleton.2 rfl), ?_⟩, (h3.trans (b5.mono (by omega))).setCell (by show B ≤ B + 1; omega) _⟩
        show okQ (qs[k]?.getD ⟨false, [], []⟩) = false
        rw [hgd]
        exact hok2
    case done =>
      rintro D ys X hD hup ⟨h1, h2, h3, h4⟩ hK
      have hall : qs.all okQ = true := by
        rw [List.all_eq_true]
        intro q hq
        obtain ⟨k, hk, rfl⟩ := List.mem_iff_getElem.1 hq
        have hk2 : k < es.length := by rw [HEL.out]; exact hk
        have hm : (⟨k, hk2⟩ : Fin es.length) ∈ ys := by
          have h5 : k ∈ ys.map Fin.val := by rw [show ys.map Fin.val = List.range es.length from hup]; exact List.mem_range.2 hk2
          obtain ⟨x, hx, hv⟩ := List.mem_map.1 h5
          have : x = ⟨k, hk2⟩ := Fin.ext hv
          rw [← this]
          exact hx
        have h5 := h2 _ hm
        simp only at h5
        rw [List.getElem?_eq_getElem hk] at h5
        exact h5
      have c5 := h1.cell 0
      have f5 := h1.free 0
      gi_wp2
      have hK' := (KeepsOthers.setCell X ⟨B + 1, 0, none⟩ (.int .i64 0)).same D _ hK rfl
      refine ⟨by simp, .inl ⟨_, _, rfl, run_takeDeferred hK', ?_⟩⟩
      have hc5 := cell_kept ((h1.set 0 (.int .i64 0)).cell 0) (grownBy_putObj' _ D (.deferred none)) (fun r e => by cases e; exact ⟨_, hK', rfl⟩)
      simp at hc5
      refine ⟨.int .i64 0, by simp [results, Tryz.f40, go_sem, hc5], by rw [← HD.out, if_pos hall], ?_⟩
      rw [hB]
      exact (h3.setCell (p := ⟨B + 1, 0, none⟩) (by show B ≤ B + 1; omega) _).trans (belowK_b (n₀ := B) (w := w) (by omega) _ D _ _ (by omega) hK' rfl rfl)
    case stop =>
      rintro D c pre X hD ⟨k, hk, hup⟩ ⟨rfl, h1, ⟨x, hx, hbad⟩, h3⟩ hK
      have hall : ¬ qs.all okQ = true := by
        intro h
        rw [List.all_eq_true] at h
        have hk2 : x.val < qs.length := by rw [← HEL.out]; exact x.isLt
        rw [List.getElem?_eq_getElem hk2] at hbad
        have := h _ (List.getElem_mem hk2)
        simp only [Option.getD_some] at hbad
        rw [hbad] at this
        cases this
      gi_wp2
      refine ⟨by simp, .inl ⟨_, _, rfl, run_takeDeferred hK, ?_⟩⟩
      have hc5 := cell_kept (h1.cell 0) (grownBy_putObj' _ D (.deferred none)) (fun r e => by cases e; exact ⟨_, hK, rfl⟩)
      simp at hc5
      refine ⟨.int .i64 6, by simp [results, Tryz.f40, go_sem, hc5], by rw [← HD.out, if_neg hall], ?_⟩
      rw [hB]
      exact h3.trans (belowK_b (n₀ := B) (w := w) (by omega) _ D _ _ (by omega) hK rfl rfl)
  · have hn : (c != 0) = true := by simp [h0]
    rw [mayT_make (by rw [hc]; exact h0), hc]
    have R3 : Row (W2.setCell ⟨B + 1, 0, none⟩ (.int .i64 c)) (B + 1) 27 #[.int .i64 c] := R1.set 0 _
    have y0 := R3.cell 0
    go_enter Tryz.func40, Tryz.ntmps40
    go_wp2_with (go_at_call 81; refine hr.mono ?_; rintro e w1 ⟨rfl, rfl⟩)
    simp at y0
    refine bodyPost_ret (v := .int .i64 c) (by simp [results, Tryz.results40, go_sem, y0]) rfl ⟨rfl, ?_⟩
    rw [hB]
    exact hb2.setCell (p := ⟨B + 1, 0, none⟩) (by show B ≤ B + 1; omega) _
theorem mayT7_any {n : Nat} {w : World} {v : Value} {s : List Int} {qs : List Q3} {a b : Option Addr} {ca cb : Nat} (T : TensQ w v s qs a ca b cb) (hs : s.length ≤ 1048576) (hq : qs.length ≤ 1048576) (hl : lensQ qs n) (hn : n ≤ 4000000) :
    Calls Tryz.prog 40 #[v] w fun e w' => e = .returned (.int .i64 (mayT s qs)) ∧ Below w.heap.size w w' := mayT7_big T hq hl hn
end
section
open Go.RowKit Go.Shelf
set_option linter.unusedVariables false
set_option linter.unusedSimpArgs false
/-- the steps of a row of sums -/
def stepsD (p : Nat → Rat) (i len : Nat) : List Rat := (List.range len).map fun k => p (i + k + 1) - p (i + k)
theorem stepsD_len (p : Nat → Rat) (i len : Nat) : (stepsD p i len).length = len := by simp [stepsD]
theorem stepsD_take (p : Nat → Rat) (i : Nat) {k len : Nat} (h : k ≤ len) : (stepsD p i len).take k = stepsD p i k := by
  unfold stepsD
  rw [← List.map_take, List.take_range, Nat.min_eq_left h]
theorem stepsD_drop (p : Nat → Rat) (i : Nat) {k len : Nat} (h : k ≤ len) : (stepsD p i len).drop k = stepsD p (i + k) (len - k) := by
  unfold stepsD
  apply List.ext_getElem
  · simp
  · intro j h1 h2
    simp only [List.getElem_drop, List.getElem_map, List.getElem_range]
    rw [show i + k + j = i + (k + j) by omega]
theorem AllE.takeK {α : Type} {P : Value → α → Prop} {es : List E3} {L : List α} (h : AllE P es L) (k : Nat) : AllE P (es.take k) (L.take k) :=
  ⟨by simp [h.1], fun i e x h1 h2 => by
    rw [List.getElem?_take] at h1 h2
    split at h1
    · rename_i hi
      rw [if_pos hi] at h2
      exact h.2 i e x h1 h2
    · cases h1⟩
theorem AllE.dropK {α : Type} {P : Value → α → Prop} {es : List E3} {L : List α} (h : AllE P es L) (k : Nat) : AllE P (es.drop k) (L.drop k) :=
  ⟨by simp [h.1], fun i e x h1 h2 => by
    rw [List.getElem?_drop] at h1 h2
    exact h.2 _ e x h1 h2⟩
theorem RowA.takeK {α : Type} {P : World → Value → α → Prop} {w : World} {L : List α} {ad : Option Addr} {n cap : Nat} (h : RowA P w (.slice ad n cap) L ad cap) {k : Nat} (hk : k ≤ L.length) : RowA P w (.slice ad k cap) (L.take k) ad cap := by
  refine ⟨by rw [List.length_take, Nat.min_eq_left hk], by rw [List.length_take]; have := h.le; omega, ?_⟩
  rcases h.els with e | ⟨b, o, es, e, c, a⟩
  · exact .inl (by rw [e]; simp)
  · exact .inr ⟨b, o, es.take k, e, fun i d hd => c i d (by
      rw [List.getElem?_take] at hd
      split at hd
      · exact hd
      · cases hd), a.takeK k⟩
theorem RowA.dropK {α : Type} {P : World → Value → α → Prop} {w : World} {L : List α} {b o n cap : Nat} (h : RowA P w (.slice (some ⟨b, o, none⟩) n cap) L (some ⟨b, o, none⟩) cap) {k : Nat} (hk : k ≤ L.length) : RowA P w (.slice (some ⟨b, o + k * 3, none⟩) (n - k) (cap - k)) (L.drop k) (some ⟨b, o + k * 3, none⟩) (cap - k) := by
  have hn : n = L.length := by have := h.is; simp only [Value.slice.injEq] at this; exact this.2.1
  refine ⟨by rw [List.length_drop, hn], by rw [List.length_drop]; have := h.le; omega, ?_⟩
  rcases h.els with e | ⟨b', o', es, e, c, a⟩
  · exact .inl (by rw [e]; simp)
  · simp only [Option.some.injEq, Addr.mk.injEq, and_true] at e
    obtain ⟨rfl, rfl⟩ := e
    refine .inr ⟨b, o + k * 3, es.drop k, rfl, fun i d hd => ?_, a.dropK k⟩
    rw [List.getElem?_drop] at hd
    have := c _ d hd
    rw [show o + (k + i) * 3 = o + k * 3 + i * 3 by omega] at this
    exact this
theorem ResQ.argQ {base n : Nat} {w : World} {v : Value} {x : Rat} (h : ResQ base w v x n) : ArgQ w v x n := by
  obtain ⟨q, k1, k2, k3, k4, _⟩ := h.raw
  rw [← k2]
  exact k1.arg k3 k4
set_option maxRecDepth 100000 in
set_option maxHeartbeats 8000000 in
theorem joinedQ_any {base m B2 N : Nat} (p : Nat → Rat) (hf : ∀ i j, i ≤ j → j ≤ N → FitQ (p j - p i) B2) (hm : m = B2 / 32 + 1) (hm2 : m ≤ 8000000) (hN : N ≤ 1048576) :
    ∀ (len i : Nat), 1 ≤ len → i + len ≤ N → ∀ (w : World) (ad : Option Addr) (cap : Nat), RowA (fun W v x => ResQ base W v x m) w (.slice ad len cap) (stepsD p i len) ad cap → base ≤ w.heap.size →
      Calls Tryz.prog 77 #[.slice ad len cap, .func (.func 78) #[] #[]] w fun e w' => ∃ r, e = .returned r ∧ ResQ base w' r (p (i + len) - p i) m ∧ Below w.heap.size w w' := by
  intro len
  induction len using Nat.strongRecOn with
  | _ len ih =>
  intro i hl hi w ad cap h hbase
  have hlen := stepsD_len p i len
  obtain ⟨bb, o, x0, x1, x2, q0, hbo, hq0, e0, e1, e2, hr0⟩ := h.at (i := 0) (by rw [hlen]; omega)
  subst hbo
  obtain ⟨B, hB⟩ : ∃ B, w.heap.size = B := ⟨_, rfl⟩
  obtain ⟨W, hW⟩ : ∃ W, w.alloc (.cells #[.bool false, .slice none 0 0, .slice none 0 0] 58) = W := ⟨_, rfl⟩
  have sW : W.heap.size = B + 1 := by rw [← hW, World.size_alloc, hB]
  have R0 : Row W B 58 #[.bool false, .slice none 0 0, .slice none 0 0] := by rw [← hW, ← hB]; exact Row.new _ _ _
  have bW : Below B w W := by rw [← hW]; exact (Below.refl _ w).alloc (by omega) _
  have bW' : Below w.heap.size w W := by rw [hB]; exact bW
  have h' := h.later bW' (fun v x _ k => k.later bW')
  obtain ⟨y0, y1, y2, z0, z1, z2⟩ := R0.three
  have hcap := h.le
  rw [hlen] at hcap
  by_cases h1 : len = 1
  · subst h1
    have hq : q0 = p (i + 1) - p i := by
      unfold stepsD at hq0
      simpa using hq0.symm
    subst hq
    have hr1 := hr0.later bW'
    have E0 := (bW'.cell (p := ⟨bb, o + 0 * 3, none⟩) (World.block_lt_of_cell? _ _ e0)).trans e0
    have E1 := (bW'.cell (p := ⟨bb, o + 0 * 3 + 1, none⟩) (World.block_lt_of_cell? _ _ e1)).trans e1
    have E2 := (bW'.cell (p := ⟨bb, o + 0 * 3 + 2, none⟩) (World.block_lt_of_cell? _ _ e2)).trans e2
    obtain ⟨a1, a2, a3, a4, a5, a6, a7, ha⟩ := hr0.shape
    simp only [Value.agg.injEq, Array.mk.injEq, List.cons.injEq, and_true] at ha
    obtain ⟨rfl, rfl, rfl⟩ := ha
    simp only [Nat.zero_mul, Nat.add_zero] at E0 E1 E2
    have R3 := R0.set3 (.bool a1) (.slice a2 a3 a4) (.slice a5 a6 a7)
    obtain ⟨v0, v1, v2, _⟩ := R3.three
    have HR := Lib.hid hr1
    have HR0 := Lib.hid R0
    clear h h' ih R3 R0 hr0 hr1 e0 e1 e2
    go_enter Tryz.func77, Tryz.ntmps77
    go_wp2_with fail
    refine bodyPost_ret (v := .agg #[.bool a1, .slice a2 a3 a4, .slice a5 a6 a7]) (by simp [results, Tryz.results77, go_sem, v0, v1, v2]) rfl ⟨_, rfl, ?_, ?_⟩
    · exact HR.out.far HR0.out (by decide) (kept3 _ _ _)
    · rw [hB]; exact below_set3 (g := B) bW (Nat.le_refl _) _ _ _
  · obtain ⟨k, hk⟩ : ∃ k, len / 2 = k := ⟨_, rfl⟩
    have hk1 : 1 ≤ k ∧ k < len := by omega
    have htd : Int.tdiv (len : Int) 2 = (k : Int) := by rw [Int.tdiv_eq_ediv_of_nonneg (by omega)]; omega
    have hne : ((len : Int) == 1) = false := by simp; omega
    have hA := h'.takeK (k := k) (by rw [hlen]; omega)
    have hD := h'.dropK (k := k) (by rw [hlen]; omega)
    rw [stepsD_take p i (by omega)] at hA
    rw [stepsD_drop p i (by omega)] at hD
    have hkI : (k : Int) ≤ (len : Int) := by omega
    have hkI2 : (k : Int) < (len : Int) := by omega
    have hk0 : (0 : Int) ≤ (k : Int) := by omega
    have hkc : (k : Int) ≤ (cap : Int) := by omega
    have hlc : (len : Int) ≤ (cap : Int) := by omega
    have hkn : ¬ cap = k := by omega
    have HA := Lib.hid hA
    have HD := Lib.hid hD
    have HR0 := Lib.hid R0
    have ihA := ih k (by omega) i (by omega) (by omega)
    have ihD := ih (len - k) (by omega) (i + k) (by omega) (by omega)
    have hsum : i + k + (len - k) = i + len := by omega
    rw [hsum] at ihD
    have HSUM := Lib.hid hsum
    have HK := Lib.hid hk
    clear h h' ih hA hD R0 hr0 e0 e1 e2 hq0 hk hsum y0 y1 y2 z0 z1 z2
    go_enter Tryz.func77, Tryz.ntmps77
    go_wp2_with fail
    refine wp_region_held (S := fun _ => True) (by kernel_rfl) ?_
    have hHeld : True := trivial
    refine todo [0, 1, 2, 3, 4, 6, 7, 8, 9] ?_
    iterate 9
     refine todoH (v := ?_) rfl (by kernel_rfl) (fun _ _ _ h => h) (by assumption) (Or.inl ⟨by rfl, ?_⟩) ?_
     rotate_left
     · intro w hSw; (try dsimp only at hSw); go_simp; (try with_reducible rfl)
     try simp only [Act.put, List.getElem_toArray, List.getElem_cons_succ, List.getElem_cons_zero, List.setIfInBounds_toArray, List.set_cons_zero, List.set_cons_succ]
    refine todone ?_
    refine wpAnyH_ready (rs := [5]) (by kernel_rfl) (by simp) ?_
    refine AllReadyH.cons rfl (fun K hK => ?sc5) AllReadyH.nil
    go_simp
    refine (ihA _ _ _ (HA.out.later (Below.refl _ W).drew (fun v x _ k => k.later (Below.refl _ W).drew)) (by show base ≤ W.heap.size; omega)).mono ?_
    rintro e w3 ⟨r3, rfl, Q3', b3⟩
    obtain ⟨m5, f1, l1, j1, f2, l2, j2, rfl⟩ := Q3'.shape
    have b03 : Below W.heap.size W w3 := (Below.refl _ W).drew.trans b3
    have s3 := b03.size
    go_simp
    refine hK.out _ _ ?kc5 (fun hHeld => ?mc5)
    case kc5 =>
      try dsimp only
      skip
    clear hK K
    try simp only [Act.put, List.setIfInBounds_toArray, List.set_cons_zero, List.set_cons_succ]
    refine wpAnyH_ready (rs := [10]) (by kernel_rfl) (by simp) ?_
    refine AllReadyH.cons rfl (fun K hK => ?sc10) AllReadyH.nil
    go_simp
    refine (ihD _ _ _ (HD.out.later b03 (fun v x _ k => k.later b03)) (by omega)).mono ?_
    rintro e w4 ⟨r4, rfl, Q4, b4⟩
    obtain ⟨m6, g1, p1, i1, g2, p2, i2, rfl⟩ := Q4.shape
    have b04 : Below W.heap.size W w4 := b03.trans (b4.mono s3)
    have s4 := b4.size
    go_simp
    refine hK.out _ _ ?kc10 (fun hHeld => ?mc10)
    case kc10 =>
      try dsimp only
      skip
    clear hK K
    try simp only [Act.put, List.setIfInBounds_toArray, List.set_cons_zero, List.set_cons_succ]
    refine wpAnyH_ready (rs := [11]) (by kernel_rfl) (by simp) ?_
    refine AllReadyH.cons rfl (fun K hK => ?sc11) AllReadyH.nil
    go_simp
    refine (addQ_any (Q3'.later b4).argQ Q4.argQ (by omega)).mono ?_
    rintro e w5 ⟨r5, rfl, Q5, b5⟩
    obtain ⟨m7, h1, n1, t1, h2, n2, t2, rfl⟩ := Q5.shape
    have b05 : Below W.heap.size W w5 := b04.trans (b5.mono (by omega))
    go_simp
    refine hK.out _ _ ?kc11 (fun hHeld => ?mc11)
    case kc11 =>
      try dsimp only
      skip
    clear hK K
    try simp only [Act.put, List.setIfInBounds_toArray, List.set_cons_zero, List.set_cons_succ]
    have R5 := HR0.out.later b05
    obtain ⟨u0, u1, u2, u3, u4, u5⟩ := R5.three
    have R6 := R5.set3 (.bool m7) (.slice h1 n1 t1) (.slice h2 n2 t2)
    obtain ⟨v0, v1, v2, _⟩ := R6.three
    have HR5 := Lib.hid R5
    clear R5 R6
    refine wpAnyH_ready (rs := [12]) (by kernel_rfl) (by simp) ?_
    refine AllReadyH.cons rfl (fun K hK => ?sc12) AllReadyH.nil
    go_simp
    refine hK.out _ _ ?kc12 (fun hHeld => ?mc12)
    case kc12 =>
      try dsimp only
      skip
    clear hK K
    try simp only [Act.put, List.setIfInBounds_toArray, List.set_cons_zero, List.set_cons_succ]
    refine wpAnyH_done (by kernel_rfl) ?_ _
    have hX : p (i + k) - p i + (p (i + len) - p (i + k)) = p (i + len) - p i := by grind
    rw [hX] at Q5
    have Q6 : ResQ base w5 (.agg #[.bool m7, .slice h1 n1 t1, .slice h2 n2 t2]) (p (i + len) - p i) m := by
      rw [hm]
      exact (Q5.mono (by omega)).refit (hf _ _ (by omega) hi)
    have HQ := Lib.hid Q6
    clear Q5 Q6 Q4 Q3'
    go_wp2_with fail
    refine bodyPost_ret (v := .agg #[.bool m7, .slice h1 n1 t1, .slice h2 n2 t2]) (by simp [results, Tryz.results77, go_sem, v0, v1, v2]) rfl ⟨_, rfl, ?_, ?_⟩
    · exact HQ.out.far HR5.out (by decide) (kept3 _ _ _)
    · rw [hB]; exact below_set3 (g := B) (bW.trans (b05.mono (by omega))) (Nat.le_refl _) _ _ _
end
section
open Go.RowKit
set_option linter.unusedVariables false
set_option linter.unusedSimpArgs false
theorem or0 {x : Int} {l : List Int} (h : orL (x :: l) = 0) : x = 0 ∧ orL l = 0 := by
  unfold orL at h
  split at h
  · rename_i h1; exact ⟨h1, h⟩
  · rename_i h1; exact absurd h h1
theorem or1 {x : Int} (h : orL [x] = 0) : x = 0 := (or0 h).1
theorem make_runSh (n : Nat) (hc : n ≤ 17592186044416) (w : World) :
    (Instr.makeSlice 23 (.int .i64 (n : Int)) (.int .i64 (n : Int))).run Tryz.prog w = .ok (.slice (some ⟨w.heap.size, 0, none⟩) n n) (w.alloc (.cells (madeCells #[.int .i64 0] n) 3)) := by
  obtain ⟨i0, hi, hz0, hz1, hz2⟩ := info_parts infoS
  have h := run_make (P := Tryz.prog) w 23 3 i0 (.int .i64 0) Tryz.underlying23 hi hz0 .i64 .i64 n n (by omega) (by omega) (by rw [hz2]; omega) (by omega)
  simpa [hz1, Value.cells] using h
theorem okS_wid {s : List Int} (ok : OkS s) : Wid s := fun x hx => by
  obtain ⟨i, hi, rfl⟩ := List.mem_iff_getElem.1 hx
  have e1 := ok.pos.getD hi
  have e2 := getD_le_prod ok.pos hi
  have e3 := ok.few
  rw [getD_elem hi] at e1 e2
  omega
end
end Go.Proofs.YtooglnhlhgmhdaaGreat
