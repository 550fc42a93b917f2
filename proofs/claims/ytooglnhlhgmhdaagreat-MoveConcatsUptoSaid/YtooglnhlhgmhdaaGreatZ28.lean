/-
  Layer 9: fluxionref07.Same with longer numbers. (Made by wip/gen/gen_msame.py out of XTCmp.)
-/
import Derived.Test.YtooglnhlhgmhdaaGreatZ1
import Derived.Test.YtooglnhlhgmhdaaGreatZ2
import Derived.Test.YtooglnhlhgmhdaaGreatZ3
import Derived.Test.YtooglnhlhgmhdaaGreatZ4
import Derived.Test.YtooglnhlhgmhdaaGreatZ5
import Derived.Test.YtooglnhlhgmhdaaGreatZ6
import Derived.Test.YtooglnhlhgmhdaaGreatZ7
import Derived.Test.YtooglnhlhgmhdaaGreatZ8
import Derived.Test.YtooglnhlhgmhdaaGreatZ9
import Derived.Test.YtooglnhlhgmhdaaGreatZ10
import Derived.Test.YtooglnhlhgmhdaaGreatZ11
import Derived.Test.YtooglnhlhgmhdaaGreatZ12
import Derived.Test.YtooglnhlhgmhdaaGreatZ13
import Derived.Test.YtooglnhlhgmhdaaGreatZ14
import Derived.Test.YtooglnhlhgmhdaaGreatZ15
import Derived.Test.YtooglnhlhgmhdaaGreatZ16
import Derived.Test.YtooglnhlhgmhdaaGreatZ17
import Derived.Test.YtooglnhlhgmhdaaGreatZ18
import Derived.Test.YtooglnhlhgmhdaaGreatZ19
import Derived.Test.YtooglnhlhgmhdaaGreatZ20
import Derived.Test.YtooglnhlhgmhdaaGreatZ21
import Derived.Test.YtooglnhlhgmhdaaGreatZ22
import Derived.Test.YtooglnhlhgmhdaaGreatZ23
import Derived.Test.YtooglnhlhgmhdaaGreatZ24
import Derived.Test.YtooglnhlhgmhdaaGreatZ25
import Derived.Test.YtooglnhlhgmhdaaGreatZ26
import Derived.Test.YtooglnhlhgmhdaaGreatZ27
import Derived.WalkKit
import Derived.Test.YtooglnhlhgmhdaaGreatRows
import Derived.BigQuiet
import Derived.Deep.QuietTactic
import Derived.Lib.Hide
import Derived.Lib.Small
import Derived.Lib.Walk
import Derived.Lib.BitFns
import Derived.Maps.AppendAt
import Derived.RangeFuncNested
import Derived.RangeFuncBound
import Derived.RangeFuncCalls
import Derived.RangeFuncLeaves
import Derived.Shelf.Abstract
import Derived.OwnWalkIn
import Derived.TacticsInMore
import Derived.LoopNIn
import Derived.LoopIn
import Derived.RangeFuncBox
import Derived.Deep.RegionHeld3
import Derived.OrdersIn
import Derived.StillTailTactics
import Derived.RangeFuncFrom
import Derived.Laws.EntriesVeiled
import Derived.ProofKit
import Derived.OpenShut
import Derived.JoinedCond
import Derived.Carry
import Derived.Laws.AppendOwnNone
import Derived.Lib.ItoaNum
import Derived.Deep.RegionLaw
import Derived.WalkMore
import Derived.Lib.SmallJoins
import Derived.IntWalk
import Derived.Deep.DeepCutAuto
import Derived.Laws.OwnMore
import Derived.OrdersHeld
import Derived.Deep.RegionHeld
import Derived.ArgAppend
import Derived.Deep.Slices
import Derived.Laws.CopyOwn
import Derived.Lib.SliceRun
namespace Go.Proofs.YtooglnhlhgmhdaaGreat
set_option maxRecDepth 100000
section
open Go.RowKit
set_option linter.unusedVariables false
set_option linter.unusedSimpArgs false
theorem sameRaw9_any {n : Nat} {w : World} {u v : Value} {p q : Q3} (hu : RawQ w u p) (hv : RawQ w v q) (hp : p.num.length ≤ n ∧ p.den.length ≤ n) (hq : q.num.length ≤ n ∧ q.den.length ≤ n) (hn : n ≤ 4000000) :
    Calls Tryz.prog 38 #[u, v] w fun e w' => e = .returned (.bool (decide (p.rat = q.rat))) ∧ Below w.heap.size w w' := by
  have a1 := hu.arg hp.1 hp.2
  have a2 := hv.arg hq.1 hq.2
  obtain ⟨ad, bd, ca, cb, rfl, _⟩ := hu
  obtain ⟨ad', bd', ca', cb', rfl, _⟩ := hv
  exact sameR_any a1 a2 (by omega)
set_option maxRecDepth 100000 in
set_option maxHeartbeats 8000000 in
theorem sameT9_any {n : Nat} {w : World} {u v : Value} {s1 s2 : List Int} {L1 : List Q3} {L2 : List Q3} {a1 b1 a2 b2 : Option Addr} {ca1 cb1 ca2 cb2 : Nat} (T1 : TensQ w u s1 L1 a1 ca1 b1 cb1) (T2 : TensQ w v s2 L2 a2 ca2 b2 cb2) (hs : s1.length ≤ 140737488355328) (hq1 : L1.length ≤ 1000000000) (hq2 : L2.length ≤ 1000000000) (hn : n ≤ 4000000) (hl1 : ∀ q ∈ L1, q.num.length ≤ n ∧ q.den.length ≤ n) (hl2 : ∀ q ∈ L2, q.num.length ≤ n ∧ q.den.length ≤ n) :
    Calls Tryz.prog 34 #[u, v] w fun e w' => e = .returned (.bool (allBC (fun (p q : Q3) => decide (p.rat = q.rat)) s1 s2 L1 L2)) ∧ Below w.heap.size w w' := by
  have HT1 := Lib.hid T1
  have HT2 := Lib.hid T2
  obtain rfl := T1.is
  obtain rfl := T2.is
  obtain ⟨W, hW⟩ : ∃ W, ((w.alloc (.cells #[.slice a1 s1.length ca1, .slice b1 L1.length cb1] 26)).alloc (.cells #[.slice a2 s2.length ca2, .slice b2 L2.length cb2] 26)) = W := ⟨_, rfl⟩
  have R0 : Row W w.heap.size 26 #[.slice a1 s1.length ca1, .slice b1 L1.length cb1] := by rw [← hW]; exact (Row.new _ _ _).alloc _
  have R1 : Row W (w.heap.size + 1) 26 #[.slice a2 s2.length ca2, .slice b2 L2.length cb2] := by rw [← hW]; have h := (Row.new (w.alloc (.cells #[.slice a1 s1.length ca1, .slice b1 L1.length cb1] 26)) 26 #[.slice a2 s2.length ca2, .slice b2 L2.length cb2]); simp only [World.size_alloc] at h; exact h
  have hBW : Below w.heap.size w W := by rw [← hW]; exact ((Below.refl _ _).alloc (by simp) _).alloc (by simp) _
  obtain ⟨c, hc⟩ : ∃ c, allBC (fun (p q : Q3) => decide (p.rat = q.rat)) s1 s2 L1 L2 = c := ⟨_, rfl⟩
  have HC := Lib.hid hc
  rw [hc]
  have q1 := sameSh_any (HT1.out.sh.later hBW) (HT2.out.sh.later hBW) hs
  obtain ⟨p0, p1, _, _⟩ := R0.two
  obtain ⟨o0, o1, _, _⟩ := R1.two
  clear T1 T2 hc
  by_cases hsh : s1 = s2
  · rw [decide_eq_true hsh] at q1
    have HSH := Lib.hid hsh
    clear hsh
    by_cases hlen : L1.length = L2.length
    · have hne : ((L1.length : Int) != (L2.length : Int)) = false := by simp; omega
      have HLN := Lib.hid hlen
      clear hlen
      go_enter Tryz.func34, Tryz.ntmps34
      go_wp2_with (go_at_call 35; refine q1.mono ?_; rintro e w1 ⟨rfl, hb1⟩; have R0' := R0.later hb1; have R1' := R1.later hb1; obtain ⟨c00, c01, _, _⟩ := R0'.two; obtain ⟨c10, c11, _, _⟩ := R1'.two)
      have hBW1 : Below w.heap.size w w1 := hBW.trans (hb1.mono hBW.size)
      clear hne q1 hW c00 c01 c10 c11
      go_loopw [5] (fun i wr => ∃ k : Nat, i = .int .i64 (k : Int) ∧ k ≤ L1.length ∧ (∀ i x y, i < k → L1[i]? = some x → L2[i]? = some y → decide (x.rat = y.rat) = true) ∧ Below w1.heap.size w1 wr) (fun i _ => L1.length - (intOf i).toNat)
      case atStart => exact ⟨0, rfl, Nat.zero_le _, fun i x y h => by omega, Below.refl _ _⟩
      case round =>
        obtain ⟨k, rfl, hk, hall, hb⟩ := hrel
        have r0 := R0'.later hb
        have r1 := R1'.later hb
        obtain ⟨c00, c01, _, _⟩ := r0.two
        obtain ⟨c10, c11, _, _⟩ := r1.two
        have HALL := Lib.hid hall
        clear hall
        by_cases hlt : k < L1.length
        · have hlt2 : k < L2.length := by have := HLN.out; omega
          have hbw := hBW1.trans (hb.mono hBW1.size)
          obtain ⟨bb, o, x0, x1, x2, q, hbo, hqk, e0, e1, e2, hraw⟩ := (HT1.out.el.later hbw (fun v x _ k => k.later hbw)).at hlt
          obtain ⟨bd, od, y0, y1, y2, t, hbd, htk, d0, d1, d2, hrat⟩ := (HT2.out.el.later hbw (fun v x _ k => k.later hbw)).at hlt2
          have hm1 := List.mem_of_getElem? hqk
          have hm2 := List.mem_of_getElem? htk
          subst hbo
          subst hbd
          have hcall := fun X (hX : Below wr.heap.size wr X) => sameRaw9_any (hraw.later hX) (hrat.later hX) (hl1 q hm1) (hl2 t hm2) hn
          have hltI : (k : Int) < (L1.length : Int) := by omega
          have hltI2 : (k : Int) < (L2.length : Int) := by omega
          have HQK := Lib.hid hqk
          have HTK := Lib.hid htk
          have mkS : ∀ X, Below wr.heap.size wr X → X.cell? ⟨w.heap.size, 1, none⟩ = some (.slice (some ⟨bb, o, none⟩) L1.length cb1) ∧ X.cell? ⟨w.heap.size + 1, 1, none⟩ = some (.slice (some ⟨bd, od, none⟩) L2.length cb2) ∧ X.cell? ⟨bb, o + k * 3, none⟩ = some x0 ∧ X.cell? ⟨bb, o + k * 3 + 1, none⟩ = some x1 ∧ X.cell? ⟨bb, o + k * 3 + 2, none⟩ = some x2 ∧
            X.cell? ⟨bd, od + k * 3, none⟩ = some y0 ∧ X.cell? ⟨bd, od + k * 3 + 1, none⟩ = some y1 ∧ X.cell? ⟨bd, od + k * 3 + 2, none⟩ = some y2 ∧ Below wr.heap.size wr X := fun X h =>
            ⟨(r0.later h).cell 1, (r1.later h).cell 1, (h.cell (World.block_lt_of_cell? wr _ e0)).trans e0, (h.cell (World.block_lt_of_cell? wr _ e1)).trans e1, (h.cell (World.block_lt_of_cell? wr _ e2)).trans e2, (h.cell (World.block_lt_of_cell? wr _ d0)).trans d0, (h.cell (World.block_lt_of_cell? wr _ d1)).trans d1, (h.cell (World.block_lt_of_cell? wr _ d2)).trans d2, h⟩
          clear hqk htk hraw hrat
          obtain ⟨bo, hbo⟩ : ∃ bo, decide (q.rat = t.rat) = bo := ⟨_, rfl⟩
          rw [hbo] at hcall
          have HBO := Lib.hid hbo
          clear hbo
          cases bo with
          | true =>
            go_wp2_with fail
            go_region_held3 (fun X => X.cell? ⟨w.heap.size, 1, none⟩ = some (.slice (some ⟨bb, o, none⟩) L1.length cb1) ∧ X.cell? ⟨w.heap.size + 1, 1, none⟩ = some (.slice (some ⟨bd, od, none⟩) L2.length cb2) ∧ X.cell? ⟨bb, o + k * 3, none⟩ = some x0 ∧ X.cell? ⟨bb, o + k * 3 + 1, none⟩ = some x1 ∧ X.cell? ⟨bb, o + k * 3 + 2, none⟩ = some x2 ∧
                X.cell? ⟨bd, od + k * 3, none⟩ = some y0 ∧ X.cell? ⟨bd, od + k * 3 + 1, none⟩ = some y1 ∧ X.cell? ⟨bd, od + k * 3 + 2, none⟩ = some y2 ∧ Below wr.heap.size wr X)
              (((refine mkS _ ?_; (repeat' (first | exact Below.refl _ _ | refine Below.drew ?_ | assumption)))))
              ((go_at_call 38; (with_reducible refine (hcall _ (show Below wr.heap.size wr _ by (repeat' (first | exact Below.refl _ _ | refine Below.drew ?_)))).mono ?_); rintro e w2 ⟨rfl, hb2⟩; have hb2 : Below wr.heap.size wr w2 := ((Below.refl _ _).drew).trans hb2))
            go_wp2
            go_roundw
            case rel =>
              refine ⟨k + 1, by go_num, by omega, fun i x y hi h1 h2 => ?_, hb.trans (hb2.mono hb.size)⟩
              by_cases hik : i = k
              · subst hik
                rw [HQK.out] at h1
                rw [HTK.out] at h2
                cases h1
                cases h2
                exact HBO.out
              · exact HALL.out i x y (by omega) h1 h2
            case measure => simp [intOf]; omega
          | false =>
            obtain rfl : c = false := by rw [← HC.out]; exact allBC_no fun ⟨_, _, h⟩ => by have := h k q t HQK.out HTK.out; rw [show decide (q.rat = t.rat) = false from HBO.out] at this; cases this
            go_wp2_with fail
            go_region_held3 (fun X => X.cell? ⟨w.heap.size, 1, none⟩ = some (.slice (some ⟨bb, o, none⟩) L1.length cb1) ∧ X.cell? ⟨w.heap.size + 1, 1, none⟩ = some (.slice (some ⟨bd, od, none⟩) L2.length cb2) ∧ X.cell? ⟨bb, o + k * 3, none⟩ = some x0 ∧ X.cell? ⟨bb, o + k * 3 + 1, none⟩ = some x1 ∧ X.cell? ⟨bb, o + k * 3 + 2, none⟩ = some x2 ∧
                X.cell? ⟨bd, od + k * 3, none⟩ = some y0 ∧ X.cell? ⟨bd, od + k * 3 + 1, none⟩ = some y1 ∧ X.cell? ⟨bd, od + k * 3 + 2, none⟩ = some y2 ∧ Below wr.heap.size wr X)
              (((refine mkS _ ?_; (repeat' (first | exact Below.refl _ _ | refine Below.drew ?_ | assumption)))))
              ((go_at_call 38; (with_reducible refine (hcall _ (show Below wr.heap.size wr _ by (repeat' (first | exact Below.refl _ _ | refine Below.drew ?_)))).mono ?_); rintro e w2 ⟨rfl, hb2⟩; have hb2 : Below wr.heap.size wr w2 := ((Below.refl _ _).drew).trans hb2))
            go_wp2
            go_ret
            exact ⟨rfl, hBW1.trans ((hb.trans (hb2.mono hb.size)).mono hBW1.size)⟩
        · obtain rfl : k = L1.length := by omega
          have hltI : ¬ (L1.length : Int) < (L1.length : Int) := by omega
          obtain rfl : c = true := by rw [← HC.out]; exact allBC_yes HSH.out HLN.out fun i x y h1 h2 => HALL.out i x y (by
            rcases Nat.lt_or_ge i L1.length with g | g
            · exact g
            · rw [List.getElem?_eq_none g] at h1; cases h1) h1 h2
          go_wp2
          go_ret
          exact ⟨rfl, hBW1.trans (hb.mono hBW1.size)⟩
    · have hne : ((L1.length : Int) != (L2.length : Int)) = true := by simp; omega
      obtain rfl : c = false := by rw [← HC.out]; exact allBC_no fun h => hlen h.2.1
      clear hlen
      go_enter Tryz.func34, Tryz.ntmps34
      go_wp2_with (go_at_call 35; refine q1.mono ?_; rintro e w1 ⟨rfl, hb1⟩; have R0' := R0.later hb1; have R1' := R1.later hb1; obtain ⟨c00, c01, _, _⟩ := R0'.two; obtain ⟨c10, c11, _, _⟩ := R1'.two)
      go_ret
      exact ⟨rfl, hBW.trans (hb1.mono hBW.size)⟩
  · rw [decide_eq_false hsh] at q1
    obtain rfl : c = false := by rw [← HC.out]; exact allBC_no fun h => hsh h.1
    clear hsh
    go_enter Tryz.func34, Tryz.ntmps34
    go_wp2_with (go_at_call 35; refine q1.mono ?_; rintro e w1 ⟨rfl, hb1⟩; have R0' := R0.later hb1; have R1' := R1.later hb1; obtain ⟨c00, c01, _, _⟩ := R0'.two; obtain ⟨c10, c11, _, _⟩ := R1'.two)
    go_ret
    exact ⟨rfl, hBW.trans (hb1.mono hBW.size)⟩
/-- what was answered and what came in: the same tensor -/
theorem sameX9 {b1 n m : Nat} {w : World} {u v : Value} {s : List Int} {L : List Rat} {qs : List Q3} {a b : Option Addr} {ca cb : Nat} (h1 : ResT b1 w u s L n) (T : TensQ w v s qs a ca b cb) (hL : qs.map Q3.rat = L) (hq : lensQ qs m) (hs : s.length ≤ 1000000) (hl : L.length ≤ 1000000) (hn : n ≤ 4000000) (hm : m ≤ 4000000) :
    Calls Tryz.prog 34 #[u, v] w fun e w' => e = .returned (.bool true) ∧ Below w.heap.size w w' := by
  obtain ⟨q1, a1, c1, ca1, cc1, T1, e1, l1, k1⟩ := h1.tens
  have g1 : q1.length = L.length := by rw [← e1]; simp
  have g2 : qs.length = L.length := by rw [← hL]; simp
  have h := sameT9_any (n := max n m) T1 T (by omega) (by omega) (by omega) (by omega) (fun q hq => ⟨Nat.le_trans (l1 q hq).1 (by omega), Nat.le_trans (l1 q hq).2 (by omega)⟩) (fun q hq' => ⟨Nat.le_trans (hq q hq').1 (by omega), Nat.le_trans (hq q hq').2 (by omega)⟩)
  rw [allBC_yes rfl (by omega) (fun i x y hx hy => by
    have f1 : (q1.map Q3.rat)[i]? = some x.rat := by rw [List.getElem?_map, hx]; rfl
    have f2 : (qs.map Q3.rat)[i]? = some y.rat := by rw [List.getElem?_map, hy]; rfl
    rw [e1] at f1
    rw [hL, f1] at f2
    exact decide_eq_true (Option.some.inj f2))] at h
  exact h
end
end Go.Proofs.YtooglnhlhgmhdaaGreat
