/-
  Layer 9's reference: count, Reshape.
-/
import Derived.Test.YtooglnhlhgmhdaaGreatK1
import Derived.Test.YtooglnhlhgmhdaaGreatK2
import Derived.Test.YtooglnhlhgmhdaaGreatK3
import Derived.Test.YtooglnhlhgmhdaaGreatK5
import Derived.Test.YtooglnhlhgmhdaaGreatK7
import Derived.Test.YtooglnhlhgmhdaaGreatK11
import Derived.Test.YtooglnhlhgmhdaaGreatK12
import Derived.Test.YtooglnhlhgmhdaaGreatK13
import Derived.Test.YtooglnhlhgmhdaaGreatK15
import Derived.Test.YtooglnhlhgmhdaaGreatK16
import Derived.Test.YtooglnhlhgmhdaaGreatK17
import Derived.Test.YtooglnhlhgmhdaaGreatK18
import Derived.Test.YtooglnhlhgmhdaaGreatK19
import Derived.Test.YtooglnhlhgmhdaaGreatK20
import Derived.Test.YtooglnhlhgmhdaaGreatK21
import Derived.WalkKit
import Derived.Test.YtooglnhlhgmhdaaGreatRows
import Derived.BigQuiet
import Derived.Deep.QuietTactic
import Derived.Lib.Hide
import Derived.Lib.Small
import Derived.Lib.Walk
import Derived.Lib.BitFns
import Derived.Maps.AppendAt
import Derived.RangeFuncNested
import Derived.RangeFuncBound
import Derived.RangeFuncCalls
import Derived.RangeFuncLeaves
import Derived.Shelf.Abstract
import Derived.OwnWalkIn
import Derived.TacticsInMore
import Derived.LoopNIn
import Derived.LoopIn
import Derived.RangeFuncBox
import Derived.Deep.RegionHeld3
import Derived.OrdersIn
import Derived.StillTailTactics
import Derived.RangeFuncFrom
import Derived.Laws.EntriesVeiled
import Derived.ProofKit
import Derived.OpenShut
import Derived.JoinedCond
import Derived.Carry
import Derived.Laws.AppendOwnNone
import Derived.Lib.ItoaNum
import Derived.Deep.RegionLaw
import Derived.WalkMore
import Derived.Lib.SmallJoins
import Derived.IntWalk
import Derived.Deep.DeepCutAuto
import Derived.Laws.OwnMore
import Derived.OrdersHeld
import Derived.Deep.RegionHeld
import Derived.ArgAppend
import Derived.Deep.Slices
import Derived.Laws.CopyOwn
import Derived.Lib.SliceRun
namespace Go.Proofs.YtooglnhlhgmhdaaGreat
set_option maxRecDepth 100000
section
open Go.RowKit
set_option linter.unusedVariables false
set_option linter.unusedSimpArgs false
/-- two tensors' dimensions are the same, and each two elements meet B -/
noncomputable def allBC {α β : Type} (B : α → β → Bool) (s1 s2 : List Int) (L1 : List α) (L2 : List β) : Bool := @decide (s1 = s2 ∧ L1.length = L2.length ∧ ∀ (i : Nat) (x : α) (y : β), L1[i]? = some x → L2[i]? = some y → B x y = true) (Classical.propDecidable _)
theorem allBC_yes {α β : Type} {B : α → β → Bool} {s1 s2 : List Int} {L1 : List α} {L2 : List β} (h1 : s1 = s2) (h2 : L1.length = L2.length) (h3 : ∀ (i : Nat) (x : α) (y : β), L1[i]? = some x → L2[i]? = some y → B x y = true) : allBC B s1 s2 L1 L2 = true := by
  unfold allBC
  simp only [decide_eq_true_eq]
  exact ⟨h1, h2, h3⟩
theorem allBC_no {α β : Type} {B : α → β → Bool} {s1 s2 : List Int} {L1 : List α} {L2 : List β} (h : ¬ (s1 = s2 ∧ L1.length = L2.length ∧ ∀ (i : Nat) (x : α) (y : β), L1[i]? = some x → L2[i]? = some y → B x y = true)) : allBC B s1 s2 L1 L2 = false := by
  unfold allBC
  simp only [decide_eq_false_iff_not]
  exact h
theorem isRaw_any {n : Nat} {w : World} {u v : Value} {X : Rat} {q : Q3} (hu : ArgR w u X n) (hv : RawQ w v q) (hn : n ≤ 1000000000) (hx : q.num.length ≤ 134217728) (hd : q.den.length ≤ 134217728) :
    Calls Tryz.prog 72 #[u, v] w fun e w' => e = .returned (.bool (validB q.neg q.num q.den X)) ∧ Below w.heap.size w w' := by
  obtain ⟨ad, bd, ca, cb, rfl, A, B, _⟩ := hv
  exact isR_dec hu A B hn hx hd
theorem sameRaw_any {n : Nat} {w : World} {u v : Value} {p q : Q3} (hu : RawQ w u p) (hv : RawQ w v q) (hp : p.num.length ≤ n ∧ p.den.length ≤ n) (hq : q.num.length ≤ n ∧ q.den.length ≤ n) (hn : n ≤ 1048576) :
    Calls Tryz.prog 38 #[u, v] w fun e w' => e = .returned (.bool (decide (p.rat = q.rat))) ∧ Below w.heap.size w w' := by
  have a1 := hu.arg hp.1 hp.2
  have a2 := hv.arg hq.1 hq.2
  obtain ⟨ad, bd, ca, cb, rfl, _⟩ := hu
  obtain ⟨ad', bd', ca', cb', rfl, _⟩ := hv
  exact sameR_any a1 a2 (by omega)
set_option maxRecDepth 100000 in
set_option maxHeartbeats 8000000 in
theorem isT_any {n : Nat} {w : World} {u v : Value} {s1 s2 : List Int} {L1 : List Rat} {L2 : List Q3} {a1 b1 a2 b2 : Option Addr} {ca1 cb1 ca2 cb2 : Nat} (T1 : TensR w u s1 L1 n a1 ca1 b1 cb1) (T2 : TensQ w v s2 L2 a2 ca2 b2 cb2) (hs : s1.length ≤ 140737488355328) (hq1 : L1.length ≤ 1000000000) (hq2 : L2.length ≤ 1000000000) (hn : n ≤ 1000000000) (hl : ∀ q ∈ L2, q.num.length ≤ 134217728 ∧ q.den.length ≤ 134217728) :
    Calls Tryz.prog 32 #[u, v] w fun e w' => e = .returned (.bool (allBC (fun (x : Rat) (q : Q3) => validB q.neg q.num q.den x) s1 s2 L1 L2)) ∧ Below w.heap.size w w' := by
  have HT1 := Lib.hid T1
  have HT2 := Lib.hid T2
  obtain rfl := T1.is
  obtain rfl := T2.is
  obtain ⟨W, hW⟩ : ∃ W, ((w.alloc (.cells #[.slice a1 s1.length ca1, .slice b1 L1.length cb1] 34)).alloc (.cells #[.slice a2 s2.length ca2, .slice b2 L2.length cb2] 26)) = W := ⟨_, rfl⟩
  have R0 : Row W w.heap.size 34 #[.slice a1 s1.length ca1, .slice b1 L1.length cb1] := by rw [← hW]; exact (Row.new _ _ _).alloc _
  have R1 : Row W (w.heap.size + 1) 26 #[.slice a2 s2.length ca2, .slice b2 L2.length cb2] := by rw [← hW]; have h := (Row.new (w.alloc (.cells #[.slice a1 s1.length ca1, .slice b1 L1.length cb1] 34)) 26 #[.slice a2 s2.length ca2, .slice b2 L2.length cb2]); simp only [World.size_alloc] at h; exact h
  have hBW : Below w.heap.size w W := by rw [← hW]; exact ((Below.refl _ _).alloc (by simp) _).alloc (by simp) _
  obtain ⟨c, hc⟩ : ∃ c, allBC (fun (x : Rat) (q : Q3) => validB q.neg q.num q.den x) s1 s2 L1 L2 = c := ⟨_, rfl⟩
  have HC := Lib.hid hc
  rw [hc]
  have q1 := sameSh_any (HT1.out.sh.later hBW) (HT2.out.sh.later hBW) hs
  obtain ⟨p0, p1, _, _⟩ := R0.two
  obtain ⟨o0, o1, _, _⟩ := R1.two
  clear T1 T2 hc
  by_cases hsh : s1 = s2
  · rw [decide_eq_true hsh] at q1
    have HSH := Lib.hid hsh
    clear hsh
    by_cases hlen : L1.length = L2.length
    · have hne : ((L1.length : Int) != (L2.length : Int)) = false := by simp; omega
      have HLN := Lib.hid hlen
      clear hlen
      go_enter Tryz.func32, Tryz.ntmps32
      go_wp2_with (go_at_call 35; refine q1.mono ?_; rintro e w1 ⟨rfl, hb1⟩; have R0' := R0.later hb1; have R1' := R1.later hb1; obtain ⟨c00, c01, _, _⟩ := R0'.two; obtain ⟨c10, c11, _, _⟩ := R1'.two)
      have hBW1 : Below w.heap.size w w1 := hBW.trans (hb1.mono hBW.size)
      clear hne q1 hW c00 c01 c10 c11
      go_loopw [5] (fun i wr => ∃ k : Nat, i = .int .i64 (k : Int) ∧ k ≤ L1.length ∧ (∀ i x y, i < k → L1[i]? = some x → L2[i]? = some y → validB y.neg y.num y.den x = true) ∧ Below w1.heap.size w1 wr) (fun i _ => L1.length - (intOf i).toNat)
      case atStart => exact ⟨0, rfl, Nat.zero_le _, fun i x y h => by omega, Below.refl _ _⟩
      case round =>
        obtain ⟨k, rfl, hk, hall, hb⟩ := hrel
        have r0 := R0'.later hb
        have r1 := R1'.later hb
        obtain ⟨c00, c01, _, _⟩ := r0.two
        obtain ⟨c10, c11, _, _⟩ := r1.two
        have HALL := Lib.hid hall
        clear hall
        by_cases hlt : k < L1.length
        · have hlt2 : k < L2.length := by have := HLN.out; omega
          have hbw := hBW1.trans (hb.mono hBW1.size)
          obtain ⟨bb, o, x0, x1, x2, q, hbo, hqk, e0, e1, e2, hraw⟩ := (HT1.out.el.later hbw (fun v x _ k => k.later hbw)).at hlt
          obtain ⟨bd, od, y0, y1, y2, t, hbd, htk, d0, d1, d2, hrat⟩ := (HT2.out.el.later hbw (fun v x _ k => k.later hbw)).at hlt2
          have hm1 := List.mem_of_getElem? hqk
          have hm2 := List.mem_of_getElem? htk
          subst hbo
          subst hbd
          have hcall := fun X (hX : Below wr.heap.size wr X) => isRaw_any (ArgR.later hraw hX) (hrat.later hX) hn (hl t hm2).1 (hl t hm2).2
          have hltI : (k : Int) < (L1.length : Int) := by omega
          have hltI2 : (k : Int) < (L2.length : Int) := by omega
          have HQK := Lib.hid hqk
          have HTK := Lib.hid htk
          have mkS : ∀ X, Below wr.heap.size wr X → X.cell? ⟨w.heap.size, 1, none⟩ = some (.slice (some ⟨bb, o, none⟩) L1.length cb1) ∧ X.cell? ⟨w.heap.size + 1, 1, none⟩ = some (.slice (some ⟨bd, od, none⟩) L2.length cb2) ∧ X.cell? ⟨bb, o + k * 3, none⟩ = some x0 ∧ X.cell? ⟨bb, o + k * 3 + 1, none⟩ = some x1 ∧ X.cell? ⟨bb, o + k * 3 + 2, none⟩ = some x2 ∧
            X.cell? ⟨bd, od + k * 3, none⟩ = some y0 ∧ X.cell? ⟨bd, od + k * 3 + 1, none⟩ = some y1 ∧ X.cell? ⟨bd, od + k * 3 + 2, none⟩ = some y2 ∧ Below wr.heap.size wr X := fun X h =>
            ⟨(r0.later h).cell 1, (r1.later h).cell 1, (h.cell (World.block_lt_of_cell? wr _ e0)).trans e0, (h.cell (World.block_lt_of_cell? wr _ e1)).trans e1, (h.cell (World.block_lt_of_cell? wr _ e2)).trans e2, (h.cell (World.block_lt_of_cell? wr _ d0)).trans d0, (h.cell (World.block_lt_of_cell? wr _ d1)).trans d1, (h.cell (World.block_lt_of_cell? wr _ d2)).trans d2, h⟩
          clear hqk htk hraw hrat
          obtain ⟨bo, hbo⟩ : ∃ bo, validB t.neg t.num t.den q = bo := ⟨_, rfl⟩
          rw [hbo] at hcall
          have HBO := Lib.hid hbo
          clear hbo
          cases bo with
          | true =>
            go_wp2_with fail
            go_region_held3 (fun X => X.cell? ⟨w.heap.size, 1, none⟩ = some (.slice (some ⟨bb, o, none⟩) L1.length cb1) ∧ X.cell? ⟨w.heap.size + 1, 1, none⟩ = some (.slice (some ⟨bd, od, none⟩) L2.length cb2) ∧ X.cell? ⟨bb, o + k * 3, none⟩ = some x0 ∧ X.cell? ⟨bb, o + k * 3 + 1, none⟩ = some x1 ∧ X.cell? ⟨bb, o + k * 3 + 2, none⟩ = some x2 ∧
                X.cell? ⟨bd, od + k * 3, none⟩ = some y0 ∧ X.cell? ⟨bd, od + k * 3 + 1, none⟩ = some y1 ∧ X.cell? ⟨bd, od + k * 3 + 2, none⟩ = some y2 ∧ Below wr.heap.size wr X)
              (((refine mkS _ ?_; (repeat' (first | exact Below.refl _ _ | refine Below.drew ?_ | assumption)))))
              ((go_at_call 72; (with_reducible refine (hcall _ (show Below wr.heap.size wr _ by (repeat' (first | exact Below.refl _ _ | refine Below.drew ?_)))).mono ?_); rintro e w2 ⟨rfl, hb2⟩; have hb2 : Below wr.heap.size wr w2 := ((Below.refl _ _).drew).trans hb2))
            go_wp2
            go_roundw
            case rel =>
              refine ⟨k + 1, by go_num, by omega, fun i x y hi h1 h2 => ?_, hb.trans (hb2.mono hb.size)⟩
              by_cases hik : i = k
              · subst hik
                rw [HQK.out] at h1
                rw [HTK.out] at h2
                cases h1
                cases h2
                exact HBO.out
              · exact HALL.out i x y (by omega) h1 h2
            case measure => simp [intOf]; omega
          | false =>
            obtain rfl : c = false := by rw [← HC.out]; exact allBC_no fun ⟨_, _, h⟩ => by have := h k q t HQK.out HTK.out; rw [show validB t.neg t.num t.den q = false from HBO.out] at this; cases this
            go_wp2_with fail
            go_region_held3 (fun X => X.cell? ⟨w.heap.size, 1, none⟩ = some (.slice (some ⟨bb, o, none⟩) L1.length cb1) ∧ X.cell? ⟨w.heap.size + 1, 1, none⟩ = some (.slice (some ⟨bd, od, none⟩) L2.length cb2) ∧ X.cell? ⟨bb, o + k * 3, none⟩ = some x0 ∧ X.cell? ⟨bb, o + k * 3 + 1, none⟩ = some x1 ∧ X.cell? ⟨bb, o + k * 3 + 2, none⟩ = some x2 ∧
                X.cell? ⟨bd, od + k * 3, none⟩ = some y0 ∧ X.cell? ⟨bd, od + k * 3 + 1, none⟩ = some y1 ∧ X.cell? ⟨bd, od + k * 3 + 2, none⟩ = some y2 ∧ Below wr.heap.size wr X)
              (((refine mkS _ ?_; (repeat' (first | exact Below.refl _ _ | refine Below.drew ?_ | assumption)))))
              ((go_at_call 72; (with_reducible refine (hcall _ (show Below wr.heap.size wr _ by (repeat' (first | exact Below.refl _ _ | refine Below.drew ?_)))).mono ?_); rintro e w2 ⟨rfl, hb2⟩; have hb2 : Below wr.heap.size wr w2 := ((Below.refl _ _).drew).trans hb2))
            go_wp2
            go_ret
            exact ⟨rfl, hBW1.trans ((hb.trans (hb2.mono hb.size)).mono hBW1.size)⟩
        · obtain rfl : k = L1.length := by omega
          have hltI : ¬ (L1.length : Int) < (L1.length : Int) := by omega
          obtain rfl : c = true := by rw [← HC.out]; exact allBC_yes HSH.out HLN.out fun i x y h1 h2 => HALL.out i x y (by
            rcases Nat.lt_or_ge i L1.length with g | g
            · exact g
            · rw [List.getElem?_eq_none g] at h1; cases h1) h1 h2
          go_wp2
          go_ret
          exact ⟨rfl, hBW1.trans (hb.mono hBW1.size)⟩
    · have hne : ((L1.length : Int) != (L2.length : Int)) = true := by simp; omega
      obtain rfl : c = false := by rw [← HC.out]; exact allBC_no fun h => hlen h.2.1
      clear hlen
      go_enter Tryz.func32, Tryz.ntmps32
      go_wp2_with (go_at_call 35; refine q1.mono ?_; rintro e w1 ⟨rfl, hb1⟩; have R0' := R0.later hb1; have R1' := R1.later hb1; obtain ⟨c00, c01, _, _⟩ := R0'.two; obtain ⟨c10, c11, _, _⟩ := R1'.two)
      go_ret
      exact ⟨rfl, hBW.trans (hb1.mono hBW.size)⟩
  · rw [decide_eq_false hsh] at q1
    obtain rfl : c = false := by rw [← HC.out]; exact allBC_no fun h => hsh h.1
    clear hsh
    go_enter Tryz.func32, Tryz.ntmps32
    go_wp2_with (go_at_call 35; refine q1.mono ?_; rintro e w1 ⟨rfl, hb1⟩; have R0' := R0.later hb1; have R1' := R1.later hb1; obtain ⟨c00, c01, _, _⟩ := R0'.two; obtain ⟨c10, c11, _, _⟩ := R1'.two)
    go_ret
    exact ⟨rfl, hBW.trans (hb1.mono hBW.size)⟩
set_option maxRecDepth 100000 in
set_option maxHeartbeats 8000000 in
theorem sameT_any {n : Nat} {w : World} {u v : Value} {s1 s2 : List Int} {L1 : List Q3} {L2 : List Q3} {a1 b1 a2 b2 : Option Addr} {ca1 cb1 ca2 cb2 : Nat} (T1 : TensQ w u s1 L1 a1 ca1 b1 cb1) (T2 : TensQ w v s2 L2 a2 ca2 b2 cb2) (hs : s1.length ≤ 140737488355328) (hq1 : L1.length ≤ 1000000000) (hq2 : L2.length ≤ 1000000000) (hn : n ≤ 1048576) (hl1 : ∀ q ∈ L1, q.num.length ≤ n ∧ q.den.length ≤ n) (hl2 : ∀ q ∈ L2, q.num.length ≤ n ∧ q.den.length ≤ n) :
    Calls Tryz.prog 34 #[u, v] w fun e w' => e = .returned (.bool (allBC (fun (p q : Q3) => decide (p.rat = q.rat)) s1 s2 L1 L2)) ∧ Below w.heap.size w w' := by
  have HT1 := Lib.hid T1
  have HT2 := Lib.hid T2
  obtain rfl := T1.is
  obtain rfl := T2.is
  obtain ⟨W, hW⟩ : ∃ W, ((w.alloc (.cells #[.slice a1 s1.length ca1, .slice b1 L1.length cb1] 26)).alloc (.cells #[.slice a2 s2.length ca2, .slice b2 L2.length cb2] 26)) = W := ⟨_, rfl⟩
  have R0 : Row W w.heap.size 26 #[.slice a1 s1.length ca1, .slice b1 L1.length cb1] := by rw [← hW]; exact (Row.new _ _ _).alloc _
  have R1 : Row W (w.heap.size + 1) 26 #[.slice a2 s2.length ca2, .slice b2 L2.length cb2] := by rw [← hW]; have h := (Row.new (w.alloc (.cells #[.slice a1 s1.length ca1, .slice b1 L1.length cb1] 26)) 26 #[.slice a2 s2.length ca2, .slice b2 L2.length cb2]); simp only [World.size_alloc] at h; exact h
  have hBW : Below w.heap.size w W := by rw [← hW]; exact ((Below.refl _ _).alloc (by simp) _).alloc (by simp) _
  obtain ⟨c, hc⟩ : ∃ c, allBC (fun (p q : Q3) => decide (p.rat = q.rat)) s1 s2 L1 L2 = c := ⟨_, rfl⟩
  have HC := Lib.hid hc
  rw [hc]
  have q1 := sameSh_any (HT1.out.sh.later hBW) (HT2.out.sh.later hBW) hs
  obtain ⟨p0, p1, _, _⟩ := R0.two
  obtain ⟨o0, o1, _, _⟩ := R1.two
  clear T1 T2 hc
  by_cases hsh : s1 = s2
  · rw [decide_eq_true hsh] at q1
    have HSH := Lib.hid hsh
    clear hsh
    by_cases hlen : L1.length = L2.length
    · have hne : ((L1.length : Int) != (L2.length : Int)) = false := by simp; omega
      have HLN := Lib.hid hlen
      clear hlen
      go_enter Tryz.func34, Tryz.ntmps34
      go_wp2_with (go_at_call 35; refine q1.mono ?_; rintro e w1 ⟨rfl, hb1⟩; have R0' := R0.later hb1; have R1' := R1.later hb1; obtain ⟨c00, c01, _, _⟩ := R0'.two; obtain ⟨c10, c11, _, _⟩ := R1'.two)
      have hBW1 : Below w.heap.size w w1 := hBW.trans (hb1.mono hBW.size)
      clear hne q1 hW c00 c01 c10 c11
      go_loopw [5] (fun i wr => ∃ k : Nat, i = .int .i64 (k : Int) ∧ k ≤ L1.length ∧ (∀ i x y, i < k → L1[i]? = some x → L2[i]? = some y → decide (x.rat = y.rat) = true) ∧ Below w1.heap.size w1 wr) (fun i _ => L1.length - (intOf i).toNat)
      case atStart => exact ⟨0, rfl, Nat.zero_le _, fun i x y h => by omega, Below.refl _ _⟩
      case round =>
        obtain ⟨k, rfl, hk, hall, hb⟩ := hrel
        have r0 := R0'.later hb
        have r1 := R1'.later hb
        obtain ⟨c00, c01, _, _⟩ := r0.two
        obtain ⟨c10, c11, _, _⟩ := r1.two
        have HALL := Lib.hid hall
        clear hall
        by_cases hlt : k < L1.length
        · have hlt2 : k < L2.length := by have := HLN.out; omega
          have hbw := hBW1.trans (hb.mono hBW1.size)
          obtain ⟨bb, o, x0, x1, x2, q, hbo, hqk, e0, e1, e2, hraw⟩ := (HT1.out.el.later hbw (fun v x _ k => k.later hbw)).at hlt
          obtain ⟨bd, od, y0, y1, y2, t, hbd, htk, d0, d1, d2, hrat⟩ := (HT2.out.el.later hbw (fun v x _ k => k.later hbw)).at hlt2
          have hm1 := List.mem_of_getElem? hqk
          have hm2 := List.mem_of_getElem? htk
          subst hbo
          subst hbd
          have hcall := fun X (hX : Below wr.heap.size wr X) => sameRaw_any (hraw.later hX) (hrat.later hX) (hl1 q hm1) (hl2 t hm2) hn
          have hltI : (k : Int) < (L1.length : Int) := by omega
          have hltI2 : (k : Int) < (L2.length : Int) := by omega
          have HQK := Lib.hid hqk
          have HTK := Lib.hid htk
          have mkS : ∀ X, Below wr.heap.size wr X → X.cell? ⟨w.heap.size, 1, none⟩ = some (.slice (some ⟨bb, o, none⟩) L1.length cb1) ∧ X.cell? ⟨w.heap.size + 1, 1, none⟩ = some (.slice (some ⟨bd, od, none⟩) L2.length cb2) ∧ X.cell? ⟨bb, o + k * 3, none⟩ = some x0 ∧ X.cell? ⟨bb, o + k * 3 + 1, none⟩ = some x1 ∧ X.cell? ⟨bb, o + k * 3 + 2, none⟩ = some x2 ∧
            X.cell? ⟨bd, od + k * 3, none⟩ = some y0 ∧ X.cell? ⟨bd, od + k * 3 + 1, none⟩ = some y1 ∧ X.cell? ⟨bd, od + k * 3 + 2, none⟩ = some y2 ∧ Below wr.heap.size wr X := fun X h =>
            ⟨(r0.later h).cell 1, (r1.later h).cell 1, (h.cell (World.block_lt_of_cell? wr _ e0)).trans e0, (h.cell (World.block_lt_of_cell? wr _ e1)).trans e1, (h.cell (World.block_lt_of_cell? wr _ e2)).trans e2, (h.cell (World.block_lt_of_cell? wr _ d0)).trans d0, (h.cell (World.block_lt_of_cell? wr _ d1)).trans d1, (h.cell (World.block_lt_of_cell? wr _ d2)).trans d2, h⟩
          clear hqk htk hraw hrat
          obtain ⟨bo, hbo⟩ : ∃ bo, decide (q.rat = t.rat) = bo := ⟨_, rfl⟩
          rw [hbo] at hcall
          have HBO := Lib.hid hbo
          clear hbo
          cases bo with
          | true =>
            go_wp2_with fail
            go_region_held3 (fun X => X.cell? ⟨w.heap.size, 1, none⟩ = some (.slice (some ⟨bb, o, none⟩) L1.length cb1) ∧ X.cell? ⟨w.heap.size + 1, 1, none⟩ = some (.slice (some ⟨bd, od, none⟩) L2.length cb2) ∧ X.cell? ⟨bb, o + k * 3, none⟩ = some x0 ∧ X.cell? ⟨bb, o + k * 3 + 1, none⟩ = some x1 ∧ X.cell? ⟨bb, o + k * 3 + 2, none⟩ = some x2 ∧
                X.cell? ⟨bd, od + k * 3, none⟩ = some y0 ∧ X.cell? ⟨bd, od + k * 3 + 1, none⟩ = some y1 ∧ X.cell? ⟨bd, od + k * 3 + 2, none⟩ = some y2 ∧ Below wr.heap.size wr X)
              (((refine mkS _ ?_; (repeat' (first | exact Below.refl _ _ | refine Below.drew ?_ | assumption)))))
              ((go_at_call 38; (with_reducible refine (hcall _ (show Below wr.heap.size wr _ by (repeat' (first | exact Below.refl _ _ | refine Below.drew ?_)))).mono ?_); rintro e w2 ⟨rfl, hb2⟩; have hb2 : Below wr.heap.size wr w2 := ((Below.refl _ _).drew).trans hb2))
            go_wp2
            go_roundw
            case rel =>
              refine ⟨k + 1, by go_num, by omega, fun i x y hi h1 h2 => ?_, hb.trans (hb2.mono hb.size)⟩
              by_cases hik : i = k
              · subst hik
                rw [HQK.out] at h1
                rw [HTK.out] at h2
                cases h1
                cases h2
                exact HBO.out
              · exact HALL.out i x y (by omega) h1 h2
            case measure => simp [intOf]; omega
          | false =>
            obtain rfl : c = false := by rw [← HC.out]; exact allBC_no fun ⟨_, _, h⟩ => by have := h k q t HQK.out HTK.out; rw [show decide (q.rat = t.rat) = false from HBO.out] at this; cases this
            go_wp2_with fail
            go_region_held3 (fun X => X.cell? ⟨w.heap.size, 1, none⟩ = some (.slice (some ⟨bb, o, none⟩) L1.length cb1) ∧ X.cell? ⟨w.heap.size + 1, 1, none⟩ = some (.slice (some ⟨bd, od, none⟩) L2.length cb2) ∧ X.cell? ⟨bb, o + k * 3, none⟩ = some x0 ∧ X.cell? ⟨bb, o + k * 3 + 1, none⟩ = some x1 ∧ X.cell? ⟨bb, o + k * 3 + 2, none⟩ = some x2 ∧
                X.cell? ⟨bd, od + k * 3, none⟩ = some y0 ∧ X.cell? ⟨bd, od + k * 3 + 1, none⟩ = some y1 ∧ X.cell? ⟨bd, od + k * 3 + 2, none⟩ = some y2 ∧ Below wr.heap.size wr X)
              (((refine mkS _ ?_; (repeat' (first | exact Below.refl _ _ | refine Below.drew ?_ | assumption)))))
              ((go_at_call 38; (with_reducible refine (hcall _ (show Below wr.heap.size wr _ by (repeat' (first | exact Below.refl _ _ | refine Below.drew ?_)))).mono ?_); rintro e w2 ⟨rfl, hb2⟩; have hb2 : Below wr.heap.size wr w2 := ((Below.refl _ _).drew).trans hb2))
            go_wp2
            go_ret
            exact ⟨rfl, hBW1.trans ((hb.trans (hb2.mono hb.size)).mono hBW1.size)⟩
        · obtain rfl : k = L1.length := by omega
          have hltI : ¬ (L1.length : Int) < (L1.length : Int) := by omega
          obtain rfl : c = true := by rw [← HC.out]; exact allBC_yes HSH.out HLN.out fun i x y h1 h2 => HALL.out i x y (by
            rcases Nat.lt_or_ge i L1.length with g | g
            · exact g
            · rw [List.getElem?_eq_none g] at h1; cases h1) h1 h2
          go_wp2
          go_ret
          exact ⟨rfl, hBW1.trans (hb.mono hBW1.size)⟩
    · have hne : ((L1.length : Int) != (L2.length : Int)) = true := by simp; omega
      obtain rfl : c = false := by rw [← HC.out]; exact allBC_no fun h => hlen h.2.1
      clear hlen
      go_enter Tryz.func34, Tryz.ntmps34
      go_wp2_with (go_at_call 35; refine q1.mono ?_; rintro e w1 ⟨rfl, hb1⟩; have R0' := R0.later hb1; have R1' := R1.later hb1; obtain ⟨c00, c01, _, _⟩ := R0'.two; obtain ⟨c10, c11, _, _⟩ := R1'.two)
      go_ret
      exact ⟨rfl, hBW.trans (hb1.mono hBW.size)⟩
  · rw [decide_eq_false hsh] at q1
    obtain rfl : c = false := by rw [← HC.out]; exact allBC_no fun h => hsh h.1
    clear hsh
    go_enter Tryz.func34, Tryz.ntmps34
    go_wp2_with (go_at_call 35; refine q1.mono ?_; rintro e w1 ⟨rfl, hb1⟩; have R0' := R0.later hb1; have R1' := R1.later hb1; obtain ⟨c00, c01, _, _⟩ := R0'.two; obtain ⟨c10, c11, _, _⟩ := R1'.two)
    go_ret
    exact ⟨rfl, hBW.trans (hb1.mono hBW.size)⟩
end
section
open Go.RowKit Go.Shelf
attribute [local go_sem] Oper.semAt_some
set_option linter.unusedVariables false
set_option linter.unusedSimpArgs false
set_option maxHeartbeats 2000000 in
theorem room_any {u : Value} {s : List Int} {a : Option Addr} {ca : Nat} {w : World} (A : ArgS w u s a ca) (n : Nat) :
    Calls Tryz.prog 81 #[u, .int .i64 (n : Int)] w fun e w' => e = .returned (.int .i64 (makeC s n)) ∧ w = w' := by
  have h1 := mayS_eq A
  have h2 := countS_eq A
  have e : makeC s n = if mayC s ≠ 0 then mayC s else if (n : Int) ≠ countS s then 13 else 0 := rfl
  obtain rfl := A.is
  rw [e]
  generalize mayC s = m at *
  generalize countS s = c at *
  clear e A
  by_cases h : m = 0
  · subst h
    by_cases hc : (n : Int) = c
    · have hn : ((n : Int) != c) = false := by simp [hc]
      have hd : (if (0 : Int) ≠ 0 then (0 : Int) else if (n : Int) ≠ c then 13 else 0) = 0 := by simp [hc]
      rw [hd]
      go_enter Tryz.func81, Tryz.ntmps81
      go_wp2_with (first | (go_at_call 52; refine h1.mono ?_; rintro e w1 ⟨rfl, rfl⟩) | (go_at_call 93; refine h2.mono ?_; rintro e w1 ⟨rfl, rfl⟩))
      go_ret
      exact ⟨rfl, rfl⟩
    · have hn : ((n : Int) != c) = true := by simp [hc]
      have hd : (if (0 : Int) ≠ 0 then (0 : Int) else if (n : Int) ≠ c then 13 else 0) = 13 := by simp [hc]
      rw [hd]
      go_enter Tryz.func81, Tryz.ntmps81
      go_wp2_with (first | (go_at_call 52; refine h1.mono ?_; rintro e w1 ⟨rfl, rfl⟩) | (go_at_call 93; refine h2.mono ?_; rintro e w1 ⟨rfl, rfl⟩))
      go_ret
      exact ⟨rfl, rfl⟩
  · have hn : (m != 0) = true := by simp [h]
    rw [if_pos h]
    go_enter Tryz.func81, Tryz.ntmps81
    go_wp2_with (first | (go_at_call 52; refine h1.mono ?_; rintro e w1 ⟨rfl, rfl⟩) | (go_at_call 93; refine h2.mono ?_; rintro e w1 ⟨rfl, rfl⟩))
    go_ret
    exact ⟨rfl, rfl⟩
theorem elements_any (a b : Option Addr) (n m ca cb : Nat) (w : World) :
    Calls Tryz.prog 74 #[.agg #[.slice a n ca, .slice b m cb]] w fun e w' => e = .returned (.slice b m cb) ∧ Below w.heap.size w w' := by
  go_enter Tryz.func74, Tryz.ntmps74
  go_wp2
  go_ret
  exact ⟨rfl, (Below.refl _ _).alloc (Nat.le_refl _) _⟩
end
section
open Go.RowKit Go.Shelf
attribute [local go_sem] Oper.semAt_some
set_option linter.unusedVariables false
set_option linter.unusedSimpArgs false
theorem mayT_make {s : List Int} {qs : List Q3} (h : makeC s qs.length ≠ 0) : mayT s qs = makeC s qs.length := by
  unfold makeC at h ⊢
  unfold mayT
  split
  · rfl
  · rename_i h1
    rw [if_neg h1] at h
    split
    · rfl
    · rename_i h2
      rw [if_neg h2] at h
      exact absurd rfl h
theorem mayT_all {s : List Int} {qs : List Q3} (h : makeC s qs.length = 0) : mayT s qs = if qs.all okQ = true then 0 else 6 := by
  unfold makeC at h
  unfold mayT
  split at h
  · rename_i h1; exact absurd h h1
  · rename_i h1
    rw [if_neg h1]
    split at h
    · cases h
    · rename_i h2
      rw [if_neg h2]
theorem mayRaw_any {n : Nat} {w : World} {v : Value} {q : Q3} (h : RawQ w v q) (h1 : q.num.length ≤ n) (h2 : q.den.length ≤ n) (hn : n ≤ 16777000) :
    Calls Tryz.prog 83 #[v] w fun e w' => e = .returned (.int .i64 (mayCode (okQ q))) ∧ Below w.heap.size w w' := by
  obtain ⟨ad, bd, ca, cb, rfl, A, D, _, _⟩ := h
  exact mayQ_any A D h1 h2 hn
set_option maxRecDepth 100000 in
set_option maxHeartbeats 8000000 in
theorem mayT7_big {n : Nat} {w : World} {v : Value} {s : List Int} {qs : List Q3} {a b : Option Addr} {ca cb : Nat} (T : TensQ w v s qs a ca b cb) (hq : qs.length ≤ 1048576) (hl : lensQ qs n) (hn : n ≤ 4000000) :
    Calls Tryz.prog 40 #[v] w fun e w' => e = .returned (.int .i64 (mayT s qs)) ∧ Below w.heap.size w w' := by
  obtain rfl := T.is
  obtain ⟨B, hB⟩ : ∃ B, w.heap.size = B := ⟨_, rfl⟩
  obtain ⟨W1, hW1⟩ : ∃ W1, w.alloc (.cells #[.slice a s.length ca, .slice b qs.length cb] 26) = W1 := ⟨_, rfl⟩
  obtain ⟨W2, hW2⟩ : ∃ W2, W1.alloc (.cells #[.int .i64 0] 27) = W2 := ⟨_, rfl⟩
  have s1 : W1.heap.size = B + 1 := by rw [← hW1, ← hB]; simp
  have s2 : W2.heap.size = B + 1 + 1 := by rw [← hW2, World.size_alloc, s1]
  have R0 : Row W2 B 26 #[.slice a s.length ca, .slice b qs.length cb] := by rw [← hW2, ← hW1, ← hB]; exact (Row.new _ _ _).alloc _
  have R1 : Row W2 (B + 1) 27 #[.int .i64 0] := by rw [← hW2, ← s1]; exact Row.new _ _ _
  have hb2 : Below B w W2 := by rw [← hW2, ← hW1]; exact ((Below.refl _ w).alloc (by omega) _).alloc (by simp; omega) _
  have T2 := T.later (by rw [hB]; exact hb2)
  obtain ⟨c0, c1, _, _⟩ := R0.two
  have hr := room_any T2.sh qs.length
  obtain ⟨c, hc⟩ : ∃ c, makeC s qs.length = c := ⟨_, rfl⟩
  rw [hc] at hr
  have HL := Lib.hid hl
  have HT := Lib.hid T
  have d1 := R1.cell 0
  have f1 := R1.free 0
  obtain ⟨n', hn'⟩ : ∃ n' : Nat, Hid (3 ≤ n') := ⟨3, Nat.le_refl 3⟩
  clear T T2 hl
  by_cases h0 : c = 0
  · subst h0
    have hmt := mayT_all hc
    rw [hmt]
    obtain ⟨dd, hdd⟩ : ∃ d : Int, (if qs.all okQ = true then 0 else 6) = d := ⟨_, rfl⟩
    rw [hdd]
    have HD := Lib.hid hdd
    clear hdd
    obtain ⟨es, hlim, hall⟩ := HT.out.el.limE
    have hsh : ShE es := shE_of hall (fun v x h => h.form)
    have hcap := HT.out.el.le
    have hel : es.length = qs.length := hall.1
    have HEL := Lib.hid hel
    have HA := Lib.hid hall
    have HC := Lib.hid hc
    rw [← hel] at hr hcap c1 R0 hq hW1 ⊢
    rw [hB] at hlim
    clear hall hmt hel hc
    refine (callsIn_wide (n := n')).1 ?_
    refine callsIn_of_wp_marks Tryz.func40 rfl trivial ?_ rfl
    simp only [Tryz.ntmps40, List.size_toArray, List.length_cons, List.length_nil, Nat.reduceAdd, Nat.reduceSub, Array.replicate_succ, Array.replicate_zero, List.push_toArray, List.append_toArray, List.nil_append, List.cons_append]
    gi_wp2_with fail
    refine wideCall (hr.mono ?_)
    rintro e w' ⟨rfl, rfl⟩
    gi_wp2_with fail
    refine wideCall ((elements_any _ _ _ _ _ _ _).mono ?_)
    rintro e w3 ⟨rfl, b3⟩
    gi_wp2_with fail
    refine wideCall ((allQ_any _ _ _ _).mono ?_)
    rintro e w' ⟨rfl, rfl⟩
    gi_wp2_with fail
    have s3 := b3.size
    obtain ⟨I, hI⟩ : ∃ I, w3.heap.size = I := ⟨_, rfl⟩
    obtain ⟨V, hV⟩ : ∃ V, w3.alloc (.cells #[.slice b es.length cb] 100) = V := ⟨_, rfl⟩
    have sV : V.heap.size = I + 1 := by rw [← hV, World.size_alloc, hI]
    have b4 : Below w3.heap.size w3 V := by rw [← hV]; exact (Below.refl _ _).alloc (Nat.le_refl _) _
    have d4 : Boxed V I 100 (.slice b es.length cb) := by rw [← hV, ← hI]; exact Boxed.new _ _ _
    have b2V : Below W2.heap.size W2 V := b3.trans (b4.mono s3)
    have e1 := R1.later b2V
    have e0 := R0.later b2V
    have hbV : Below B w V := hb2.trans (b2V.mono (by omega))
    have hlimV : LimE V b es B := hlim.below hbV
    simp only [hI, hV]
    have h3 : 3 ≤ n' := hn'
    clear hV
    refine wpIn_rangeFunc_ownH (F := Fence.wide) (n := n') rfl (by omega) (gf := 108) (lb := #[.pointer (some ⟨I, 0, none⟩)]) rfl trivial (enters_of Tryz.func108 (by kernel_rfl) rfl)
      (allQ_stops (n' - 1) I B b es cb (by omega) hcap V (by omega) (by omega) d4.cell hlimV hsh) belowK_t (belowK_b (by omega)) (Below.refl _ _) (fun _ => rfl)
      (fun (pre : List (Fin es.length)) X => Row X (B + 1) 27 #[.int .i64 0] ∧ (∀ x ∈ pre, okQ (qs[x.val]?.getD ⟨false, [], []⟩) = true) ∧ Below B w X ∧ I + 1 ≤ X.heap.size)
      (fun c pre X => c = .ret ∧ Row X (B + 1) 27 #[.int .i64 6] ∧ (∃ x ∈ pre, okQ (qs[x.val]?.getD ⟨false, [], []⟩) = false) ∧ Below B w X)
      (fun pre X Y row ⟨h1, h2, h3, h4⟩ hg hr => ⟨h1.keepC (KeepC.grown hg (fun r e => (hr r e).2)), h2, h3.grown hg (by have := h3.size; omega) (fun k e => by have := (hr k e).1; omega), Nat.le_trans h4 hg.size⟩)
      (fun c pre X Y row ⟨h0, h1, h2, h3⟩ hg hr => ⟨h0, h1.keepC (KeepC.grown hg (fun r e => (hr r e).2)), h2, h3.grown hg (by have := h3.size; omega) (fun k e => by have := (hr k e).1; omega)⟩)
      ⟨e1, (fun x h => by cases h), hbV, by omega⟩
      (fun (x : Fin es.length) a' X => ∃ p, I + 1 ≤ p ∧ Row X p 58 #[(es[x.val]?.getD dfE).a, (es[x.val]?.getD dfE).b, (es[x.val]?.getD dfE).c] ∧
        a' = { tmps := #[.agg #[.slice a s.length ca, .slice b es.length cb], .pointer (some ⟨B, 0, none⟩), .pointer (some ⟨B + 1, 0, none⟩), .int .i64 0, .pointer (some ⟨p, 0, none⟩), undef, .pointer (some ⟨B, 0, none⟩), .slice a s.length ca, .pointer (some ⟨B, 1, none⟩), .slice b es.length cb, .int .i64 es.length, .int .i64 0, .int .i64 0, .bool false, undef,
          .agg #[.slice a s.length ca, .slice b es.length cb], .slice b es.length cb, .func (.func 108) #[] #[.pointer (some ⟨I, 0, none⟩)], .agg #[(es[x.val]?.getD dfE).a, (es[x.val]?.getD dfE).b, (es[x.val]?.getD dfE).c], undef, undef, undef, undef, undef], defers := [] })
      (fun x a' _ X Y row ⟨p, h1, h2, h3⟩ hg hr => ⟨p, h1, h2.keepC (KeepC.grown hg (fun r e => (hr r e).2)), h3⟩)
      ?assign ?body ?done ?stop
    case assign =>
      rintro l pre ⟨k, hk⟩ X K ⟨h1, h2, h3, h4⟩ hK
      obtain ⟨z1, z2, z3, z4, z5, z6, z7, he⟩ := hsh k hk
      have hs3 := h3.size
      have hbX : Below X.heap.size X (X.alloc (.cells #[.bool z1, .slice z2 z3 z4, .slice z5 z6 z7] 58)) := (Below.refl _ _).alloc (Nat.le_refl _) _
      have kk := KeepC.below hbX
      have HK := Lib.hid hK
      simp only [ratAt]
      rw [he]
      simp only
      clear hK
      gi_wp2
      refine HK.out _ _ ⟨by simp, fun q o _ ho _ => (Below.heap_alloc _ _ _ (lt_of_block ho)).trans ho⟩ (hbX.mono (by omega)) ⟨h1.keepC kk, h2, h3.trans (hbX.mono (by omega)), by simp; omega⟩ ⟨X.heap.size, h4, ?_, ?_⟩
      · simp only [he]; exact Row.new _ _ _
      · simp only [he]
    case body =>
      rintro l pre ⟨k, hk⟩ a' X hl hrec ⟨h1, h2, h3, h4⟩ ⟨p, hp, hR, rfl⟩ hlt
      obtain ⟨z1, z2, z3, z4, z5, z6, z7, he⟩ := hsh k hk
      simp only at hR ⊢
      rw [he] at hR ⊢
      simp only at hR ⊢
      have hkq : k < qs.length := by rw [← HEL.out]; exact hk
      have hqk : qs[k]? = some qs[k] := List.getElem?_eq_getElem hkq
      obtain ⟨q, hq2⟩ : ∃ q, qs[k] = q := ⟨_, rfl⟩
      rw [hq2] at hqk
      have hek : es[k]? = some es[k] := List.getElem?_eq_getElem hk
      have hraw := HA.out.2 k _ _ hek hqk
      have e2 : es[k] = ⟨.bool z1, .slice z2 z3 z4, .slice z5 z6 z7⟩ := by rw [hek] at he; exact he
      rw [e2] at hraw
      have hmem := List.mem_of_getElem? hqk
      have hlq := HL.out q hmem
      have hgd : qs[k]?.getD ⟨false, [], []⟩ = q := by rw [hqk]; rfl
      obtain ⟨g0, g1, g2, _, _, _⟩ := hR.three
      have hs3 := h3.size
      have hrX := hraw.later (hB.symm ▸ h3 : Below w.heap.size w X)
      gi_wp2_with fail
      refine roundCall ((mayRaw_any hrX hlq.1 hlq.2 (by omega)).mono ?_)
      rintro e w5 ⟨rfl, b5⟩
      have s5 := b5.size
      have R5 := h1.later b5
      have f5 := R5.free 0
      have d5 := R5.cell 0
      by_cases hok : okQ q = true
      · rw [hok]
        have hm : mayCode true = 0 := rfl
        rw [hm]
        gi_wp2
        refine ⟨keepsFrom_below b5, b5.mono (by omega), R5, fun x hx => ?_, h3.trans (b5.mono (by omega)), by omega⟩
        rcases List.mem_append.1 hx with hx | hx
        · exact h2 x hx
        · simp at hx
          subst hx
          rw [hgd]
          exact hok
      · have hok2 : okQ q = false := by simpa using hok
        rw [hok2]
        have hm : mayCode false = 6 := rfl
        rw [hm]
        have R6 : Row (w5.setCell ⟨B + 1, 0, none⟩ (.int .i64 6)) (B + 1) 27 #[.int .i64 6] := R5.set 0 _
        gi_wp2
        refine ⟨keepsFrom_set (keepsFrom_below b5) _ _, rfl, R6, ⟨_, List.mem_append_right _ (List.mem_singleton.2 rfl), ?_⟩, (h3.trans (b5.mono (by omega))).setCell (by show B ≤ B + 1; omega) _⟩
        show okQ (qs[k]?.getD ⟨false, [], []⟩) = false
        rw [hgd]
        exact hok2
    case done =>
      rintro D ys X hD hup ⟨h1, h2, h3, h4⟩ hK
      have hall : qs.all okQ = true := by
        rw [List.all_eq_true]
        intro q hq
        obtain ⟨k, hk, rfl⟩ := List.mem_iff_getElem.1 hq
        have hk2 : k < es.length := by rw [HEL.out]; exact hk
        have hm : (⟨k, hk2⟩ : Fin es.length) ∈ ys := by
          have h5 : k ∈ ys.map Fin.val := by rw [show ys.map Fin.val = List.range es.length from hup]; exact List.mem_range.2 hk2
          obtain ⟨x, hx, hv⟩ := List.mem_map.1 h5
          have : x = ⟨k, hk2⟩ := Fin.ext hv
          rw [← this]
          exact hx
        have h5 := h2 _ hm
        simp only at h5
        rw [List.getElem?_eq_getElem hk] at h5
        exact h5
      have c5 := h1.cell 0
      have f5 := h1.free 0
      gi_wp2
      have hK' := (KeepsOthers.setCell X ⟨B + 1, 0, none⟩ (.int .i64 0)).same D _ hK rfl
      refine ⟨by simp, .inl ⟨_, _, rfl, run_takeDeferred hK', ?_⟩⟩
      have hc5 := cell_kept ((h1.set 0 (.int .i64 0)).cell 0) (grownBy_putObj' _ D (.deferred none)) (fun r e => by cases e; exact ⟨_, hK', rfl⟩)
      simp at hc5
      refine ⟨.int .i64 0, by simp [results, Tryz.f40, go_sem, hc5], by rw [← HD.out, if_pos hall], ?_⟩
      rw [hB]
      exact (h3.setCell (p := ⟨B + 1, 0, none⟩) (by show B ≤ B + 1; omega) _).trans (belowK_b (n₀ := B) (w := w) (by omega) _ D _ _ (by omega) hK' rfl rfl)
    case stop =>
      rintro D c pre X hD ⟨k, hk, hup⟩ ⟨rfl, h1, ⟨x, hx, hbad⟩, h3⟩ hK
      have hall : ¬ qs.all okQ = true := by
        intro h
        rw [List.all_eq_true] at h
        have hk2 : x.val < qs.length := by rw [← HEL.out]; exact x.isLt
        rw [List.getElem?_eq_getElem hk2] at hbad
        have := h _ (List.getElem_mem hk2)
        simp only [Option.getD_some] at hbad
        rw [hbad] at this
        cases this
      gi_wp2
      refine ⟨by simp, .inl ⟨_, _, rfl, run_takeDeferred hK, ?_⟩⟩
      have hc5 := cell_kept (h1.cell 0) (grownBy_putObj' _ D (.deferred none)) (fun r e => by cases e; exact ⟨_, hK, rfl⟩)
      simp at hc5
      refine ⟨.int .i64 6, by simp [results, Tryz.f40, go_sem, hc5], by rw [← HD.out, if_neg hall], ?_⟩
      rw [hB]
      exact h3.trans (belowK_b (n₀ := B) (w := w) (by omega) _ D _ _ (by omega) hK rfl rfl)
  · have hn : (c != 0) = true := by simp [h0]
    rw [mayT_make (by rw [hc]; exact h0), hc]
    have R3 : Row (W2.setCell ⟨B + 1, 0, none⟩ (.int .i64 c)) (B + 1) 27 #[.int .i64 c] := R1.set 0 _
    have y0 := R3.cell 0
    go_enter Tryz.func40, Tryz.ntmps40
    go_wp2_with (go_at_call 81; refine hr.mono ?_; rintro e w1 ⟨rfl, rfl⟩)
    simp at y0
    refine bodyPost_ret (v := .int .i64 c) (by simp [results, Tryz.results40, go_sem, y0]) rfl ⟨rfl, ?_⟩
    rw [hB]
    exact hb2.setCell (p := ⟨B + 1, 0, none⟩) (by show B ≤ B + 1; omega) _
theorem mayT7_any {n : Nat} {w : World} {v : Value} {s : List Int} {qs : List Q3} {a b : Option Addr} {ca cb : Nat} (T : TensQ w v s qs a ca b cb) (hs : s.length ≤ 1048576) (hq : qs.length ≤ 1048576) (hl : lensQ qs n) (hn : n ≤ 4000000) :
    Calls Tryz.prog 40 #[v] w fun e w' => e = .returned (.int .i64 (mayT s qs)) ∧ Below w.heap.size w w' := mayT7_big T hq hl hn
end
section
open Go.RowKit Go.ChangeShapes Go.WideShapes Go.ChangeAt Go.Joins Go.Deep
set_option linter.unusedVariables false
set_option linter.unusedSimpArgs false
set_option maxRecDepth 100000
theorem afterSet2 {K : World → Prop} {V : World} {g : Nat} {t : TypeId} {a b x y : Value} (R : Row V g t #[a, b]) (h : ∀ X, Only g V X → Row X g t #[x, y] → K X) :
    K ((V.setCell ⟨g, 0, none⟩ x).setCell ⟨g, 1, none⟩ y) :=
  h _ ((Only.set V g 0 x).trans (Only.set _ g 1 y)) (R.set2 x y)
/-- what Dot answers -/
def DotQ (base : Nat) (w : World) (r : Value) (x : Rat) (n : Nat) (c : Int) : Prop := (c = 0 → ResQ base w r x n) ∧ (c ≠ 0 → r = noRat)
theorem DotQ.later {base n : Nat} {w w' : World} {r : Value} {x : Rat} {c : Int} (h : DotQ base w r x n c) (hb : Below w.heap.size w w') : DotQ base w' r x n c := ⟨fun k => (h.1 k).later hb, h.2⟩
theorem DotQ.only {base n g : Nat} {w w' : World} {r : Value} {x : Rat} {c : Int} {cs : Array Value} (h : DotQ base w r x n c) (R : Row w g 58 cs) (k : Only g w w') : DotQ base w' r x n c := ⟨fun e => (h.1 e).only R k, h.2⟩
theorem DotQ.shape {base n : Nat} {w : World} {r : Value} {x : Rat} {c : Int} (h : DotQ base w r x n c) : ∃ m f1 l1 j1 f2 l2 j2, r = .agg #[.bool m, .slice f1 l1 j1, .slice f2 l2 j2] ∧ (c ≠ 0 → l1 = 0 ∧ l2 = 0) := by
  by_cases hc : c = 0
  · obtain ⟨m, a, b, d, e, f, g, rfl⟩ := (h.1 hc).shape
    exact ⟨m, a, b, d, e, f, g, rfl, fun k => absurd hc k⟩
  · exact ⟨_, _, _, _, _, _, _, h.2 hc, fun _ => ⟨rfl, rfl⟩⟩
/-- what Full and Make answer -/
def TenC (base : Nat) (w : World) (r : Value) (s : List Int) (L : List Rat) (n : Nat) (c : Int) : Prop := (c = 0 → ResT base w r s L n) ∧ (c ≠ 0 → r = noTensor)
theorem TenC.later {base n : Nat} {w w' : World} {r : Value} {s : List Int} {L : List Rat} {c : Int} (h : TenC base w r s L n c) (hb : Below w.heap.size w w') : TenC base w' r s L n c := ⟨fun k => (h.1 k).later hb, h.2⟩
theorem TenC.only {base n g : Nat} {w w' : World} {r : Value} {s : List Int} {L : List Rat} {c : Int} {cs : Array Value} (h : TenC base w r s L n c) (R : Row w g 26 cs) (k : Only g w w') : TenC base w' r s L n c := ⟨fun e => (h.1 e).far R (by decide) (by decide) (by decide) k.block, h.2⟩
theorem TenC.shape {base n : Nat} {w : World} {r : Value} {s : List Int} {L : List Rat} {c : Int} (h : TenC base w r s L n c) : ∃ f1 l1 j1 f2 l2 j2, r = .agg #[.slice f1 l1 j1, .slice f2 l2 j2] ∧ (c ≠ 0 → l1 = 0 ∧ l2 = 0) := by
  by_cases hc : c = 0
  · obtain ⟨a, b, d, e, rfl, _, _⟩ := h.1 hc
    exact ⟨_, _, _, _, _, _, rfl, fun k => absurd hc k⟩
  · exact ⟨_, _, _, _, _, _, h.2 hc, fun _ => ⟨rfl, rfl⟩⟩
/-- append(nil, s...) in a region that draws its order -/
theorem step_copyK {ops : Array Oper} {o : Oper} {a : Act} {w : World} {K : Act → World → Prop} {Q : Exit → Act → World → Prop} {E : Prop} (hg : o.guard = none) (t : Nat) (T : TypeId) (hT : Tryz.prog.underlying T = some (.slice 3))
    (hop : o.op = Op.call { callee := Callee.builtin Builtin.append, args := #[Operand.const (.slice none 0 0), Operand.tmp t], argTypes := #[T, T] }) {xs : List Int} {ad : Option Addr} {cap : Nat} {u : Value} (hx : a.eval (.tmp t) = u)
    (hA : ArgS w u xs ad cap) (hn : ad = none → cap = 0) (hl : xs.length ≤ 17592186044416)
    (h : ∀ v' w1, ResS w.heap.size w1 v' xs → Below w.heap.size w w1 → K (a.put o.dst v') w1) :
    if Region.wanted o (yielded ops a.tmps) = true then Oper.wp Tryz.prog o a w K Q else E := by
  rw [if_pos (by simp [Region.wanted, hg])]
  obtain ⟨i0, hi, hz0, hz1, hz2⟩ := info_parts infoS
  have hnil := World.ownsRow_nil w w.heap.size 3 1
  have hs : a.eval (.const (.slice none 0 0)) = .slice none 0 0 := rfl
  obtain ⟨rfl, lx, hle, wx⟩ := hA
  cases ad with
  | none =>
    have hc := hn rfl
    subst hc
    have hxs : xs = [] := List.eq_nil_of_length_eq_zero (by omega)
    subst hxs
    have hrun := run_append_owned_none (P := Tryz.prog) w w.heap.size T o.type 3 i0 1 hT hi (.slice none 0 0) 0 [] hnil
    unfold Oper.wp
    simp [execOp, hop, resolve, invoke, builtin, hs, hx, hrun, Result.andThen]
    exact h _ _ ⟨hnil, wx⟩ (Below.refl _ _)
  | some ad =>
    obtain ⟨v', w', hr, hown, hgrow, _⟩ := run_append_own (P := Tryz.prog) w w.heap.size T o.type 3 i0 (.int .i64 0) 1 8 hT hi hz0 hz1 hz2 rfl (by decide) (.slice none 0 0) 0 [] hnil ad xs.length cap (xs.map (Value.int .i64)) (by simp) (cells_argS (cap := cap) lx) (ints_oneCell _ _) (by unfold maxLen; omega) (by omega) (Nat.le_refl _)
    unfold Oper.wp
    simp [execOp, hop, resolve, invoke, builtin, hs, hx, hr, Result.andThen]
    refine h v' w' ⟨?_, wx⟩ ((Below.refl _ w).grown hgrow (Nat.le_refl _) (fun k hk => by cases hk))
    unfold NumS
    simpa using hown
end
section
open Go.RowKit
set_option linter.unusedVariables false
set_option linter.unusedSimpArgs false
/-- the product of dimensions, up to just above the limit -/
def cntR (s : List Int) : Int := if prodS s ≤ 1024 then prodS s else 1025
theorem cntR_ok {s : List Int} (ok : OkS s) : cntR s = prodS s := if_pos ok.few
set_option maxRecDepth 100000 in
set_option maxHeartbeats 4000000 in
theorem count9_any {w : World} {u : Value} {s : List Int} {a : Option Addr} {ca : Nat} (A : ArgS w u s a ca) (hp : posS s) (hs : s.length ≤ 1000000) :
    Calls Tryz.prog 56 #[u] w fun e w' => e = .returned (.int .i64 (cntR s)) ∧ w = w' := by
  have HA := Lib.hid A
  have HP := Lib.hid hp
  obtain rfl := A.is
  obtain ⟨d, hd⟩ : ∃ d, cntR s = d := ⟨_, rfl⟩
  have HD := Lib.hid hd
  obtain ⟨L, hL⟩ : ∃ L, s.length = L := ⟨_, rfl⟩
  have HL := Lib.hid hL
  rw [hd]
  rw [hL] at hs ⊢
  clear A hd hL hp
  go_enter Tryz.func56, Tryz.ntmps56
  go_wp2_with fail
  go_loopw [3, 4] (fun n i wr => ∃ (k : Nat) (p : Int), i = .int .i64 (k : Int) ∧ n = .int .i64 p ∧ k ≤ L ∧ p = prodS (s.take k) ∧ 1 ≤ p ∧ p ≤ 1024 ∧ w = wr) (fun _ i _ => L - (intOf i).toNat)
  case atStart => exact ⟨0, 1, rfl, rfl, Nat.zero_le _, rfl, by decide, by decide, by trivial⟩
  case round =>
    obtain ⟨k, p, rfl, rfl, hk, hpe, hp1, hp2, rfl⟩ := hrel
    have HPE := Lib.hid hpe
    clear hpe
    by_cases hlt : k < L
    · have hks : k < s.length := by rw [HL.out]; exact hlt
      obtain ⟨b1, o1, rfl, c1⟩ := HA.out.at hks
      have hx1 := HP.out.getD hks
      have hx2 := getD_le_prod HP.out hks
      have htk := prodS_take hks
      have hle := prodS_take_le HP.out (k + 1)
      rw [← HPE.out] at htk
      obtain ⟨x, hx⟩ : ∃ x, s.getD k 0 = x := ⟨_, rfl⟩
      rw [hx] at c1 hx1 hx2 htk
      have hltI : (k : Int) < (L : Int) := by omega
      have HX := Lib.hid hx
      clear hx hks
      by_cases hb : x > 1024
      · have hdd : d = 1025 := by rw [← HD.out]; unfold cntR; rw [if_neg (by omega)]
        subst hdd
        clear htk hle hx2
        go_wp2
        go_ret
        exact ⟨rfl, rfl⟩
      · obtain ⟨y, hy⟩ : ∃ y, p * x = y := ⟨_, rfl⟩
        have hy1 : 1 ≤ y := by rw [← hy]; exact Int.le_trans (by omega) (Int.mul_le_mul hp1 hx1 (by omega) (by omega))
        have hy2 : y ≤ 1024 * 1024 := by rw [← hy]; exact Int.mul_le_mul hp2 (by omega) (by omega) (by omega)
        have hw : IntKind.i64.wrap y = y := wrap_i64 (by omega) (by omega)
        rw [hy] at htk
        have HTK := Lib.hid htk
        have hxb : ¬ x > 1024 := hb
        by_cases hb2 : y > 1024
        · have hdd : d = 1025 := by rw [← HD.out]; unfold cntR; rw [if_neg (by omega)]
          subst hdd
          clear htk hle hx2
          go_wp2
          go_ret
          exact ⟨rfl, rfl⟩
        · have hyb : ¬ y > 1024 := hb2
          clear htk hle hx2
          go_wp2
          go_roundw
          case rel => exact ⟨k + 1, y, by go_num, rfl, by omega, HTK.out.symm, hy1, by omega, by trivial⟩
          case measure => simp [intOf]; omega
    · obtain rfl : k = L := by omega
      have hltI : ¬ (k : Int) < (k : Int) := by omega
      have hall : s.take k = s := by rw [← HL.out]; exact List.take_length
      have hdd : d = p := by rw [← HD.out, HPE.out, hall]; unfold cntR; rw [if_pos (by rw [← hall, ← HPE.out]; omega)]
      subst hdd
      clear hall
      go_wp2
      go_ret
      exact ⟨rfl, rfl⟩
/-- what a function of the reference answers: a tensor and a number, or none and an error's number -/
def RefA (w' : World) (e : Ending) (c : Int) (s : List Int) (L : List Rat) (m : Nat) : Prop :=
  ∃ r, e = .returned (.tuple #[r, .int .i64 c]) ∧ (∃ x0 x1 x2 x3 x4 x5, r = .agg #[.slice x0 x1 x2, .slice x3 x4 x5]) ∧ (c = 0 → TenR w' r s L m)
def rsC (t : List Int) (k : Nat) : Int := if mayC t ≠ 0 then mayC t else if countS t ≠ (k : Int) then 13 else 0
set_option maxRecDepth 100000 in
set_option maxHeartbeats 4000000 in
theorem reshapeR_any {m : Nat} {w : World} {v : Value} {s t : List Int} {L : List Rat} {ad : Option Addr} {cd : Nat} (T : TenR w v s L m) (D : ArgS w (.slice ad t.length cd) t ad cd) (nd : ad = none → cd = 0) (ht : t.length ≤ 8000000) :
    Calls Tryz.prog 21 #[v, .slice ad t.length cd] w fun e w' => RefA w' e (rsC t L.length) t L m ∧ Below w.heap.size w w' := by
  obtain ⟨a, ca, b, cb, T⟩ := T
  have HT := Lib.hid T
  obtain rfl := T.is
  obtain ⟨W, hW⟩ : ∃ W, ((w.alloc (.cells #[.slice a s.length ca, .slice b L.length cb] 34)).alloc (.cells #[.slice none 0 0, .slice none 0 0] 34)) = W := ⟨_, rfl⟩
  have R0 : Row W (w.heap.size) 34 #[.slice a s.length ca, .slice b L.length cb] := by rw [← hW]; exact (Row.new _ _ _).alloc _
  have R1 : Row W (w.heap.size + 1) 34 #[.slice none 0 0, .slice none 0 0] := by rw [← hW]; have h := Row.new (w.alloc (.cells #[.slice a s.length ca, .slice b L.length cb] 34)) 34 #[.slice none 0 0, .slice none 0 0]; (try simp only [World.size_alloc] at h); exact h
  have hBW : Below w.heap.size w W := by rw [← hW]; exact (((Below.refl _ _).alloc (by (try simp) <;> omega) _).alloc (by (try simp) <;> omega) _)
  have hsW : W.heap.size = w.heap.size + 1 + 1 := by rw [← hW]; simp
  have hmy := mayR6_any (D.later hBW)
  have HD := Lib.hid D
  have HND := Lib.hid nd
  obtain ⟨p, hp⟩ : ∃ p, mayC t = p := ⟨_, rfl⟩
  rw [hp] at hmy
  obtain ⟨c, hc⟩ : ∃ c, rsC t L.length = c := ⟨_, rfl⟩
  have HC := Lib.hid hc
  have HP := Lib.hid hp
  rw [hc]
  obtain ⟨c0, c1, _, _⟩ := R0.two
  obtain ⟨u0, u1, g0, g1⟩ := R1.two
  have P3 := R1.set2 (.slice none 0 0) (.slice none 0 0)
  obtain ⟨z0, z1, _, _⟩ := P3.two
  have HB3 := Lib.hid (below_set2 hBW (show w.heap.size ≤ w.heap.size + 1 by omega) (.slice none 0 0) (.slice none 0 0))
  by_cases h0 : p = 0
  · subst h0
    have okT := mayC_zero.1 hp
    have hcn := fun (X : World) (h : Below w.heap.size w X) => count9_any (HD.out.later h) okT.pos (by have := okT.rank; omega)
    rw [cntR_ok okT] at hcn
    obtain ⟨k, hk⟩ : ∃ k, prodS t = k := ⟨_, rfl⟩
    rw [hk] at hcn
    have hcc : c = if k ≠ (L.length : Int) then 13 else 0 := by
      rw [← HC.out]
      unfold rsC
      rw [if_neg (by rw [hp]; simp), okT.count, hk]
    have HCC := Lib.hid hcc
    have mkS : ∀ X, Below W.heap.size W X → X.cell? ⟨w.heap.size, 1, none⟩ = some (.slice b L.length cb) := fun X h => ((R0.later h).two).2.1
    have B0 : Below W.heap.size W W.drew := (Below.refl _ W).drew
    clear T D nd hp hc hcc
    go_enter Tryz.func21, Tryz.ntmps21
    (try rw [hW])
    go_wp2_with (go_at_call 55; refine hmy.mono ?_; rintro e w1 ⟨rfl, rfl⟩)
    refine wp_region_held (S := fun X => X.cell? ⟨w.heap.size, 1, none⟩ = some (.slice b L.length cb)) (by kernel_rfl) ?_
    have hHeld := mkS _ B0
    refine wpAnyH_take (i := 0) (v := ?vq0a0) rfl (by kernel_rfl) (by kernel_rfl) (by kernel_rfl) (fun _ _ _ h => h) (Or.inl ⟨by rfl, ?hq0a0⟩) (by assumption) ?rq0a0
    case hq0a0 =>
      intro w hSw
      try dsimp only at hSw
      go_simp
      try with_reducible rfl
    try simp only [Act.put, List.setIfInBounds_toArray, List.set_cons_zero, List.set_cons_succ]
    refine wpAnyH_take (i := 2) (v := ?vq0a2) rfl (by kernel_rfl) (by kernel_rfl) (by kernel_rfl) (fun _ _ _ h => h) (Or.inl ⟨by rfl, ?hq0a2⟩) (by assumption) ?rq0a2
    case hq0a2 =>
      intro w hSw
      try dsimp only at hSw
      go_simp
      try with_reducible rfl
    try simp only [Act.put, List.setIfInBounds_toArray, List.set_cons_zero, List.set_cons_succ]
    refine wpAnyH_take (i := 3) (v := ?vq0a3) rfl (by kernel_rfl) (by kernel_rfl) (by kernel_rfl) (fun _ _ _ h => h) (Or.inl ⟨by rfl, ?hq0a3⟩) (by assumption) ?rq0a3
    case hq0a3 =>
      intro w hSw
      try dsimp only at hSw
      go_simp
      try with_reducible rfl
    try simp only [Act.put, List.setIfInBounds_toArray, List.set_cons_zero, List.set_cons_succ]
    refine wpAnyH_take (i := 4) (v := ?vq0a4) rfl (by kernel_rfl) (by kernel_rfl) (by kernel_rfl) (fun _ _ _ h => h) (Or.inl ⟨by rfl, ?hq0a4⟩) (by assumption) ?rq0a4
    case hq0a4 =>
      intro w hSw
      try dsimp only at hSw
      go_simp
      try with_reducible rfl
    try simp only [Act.put, List.setIfInBounds_toArray, List.set_cons_zero, List.set_cons_succ]
    refine wpAnyH_ready (rs := [1]) (by kernel_rfl) (by simp) ?_
    refine AllReadyH.cons rfl (fun K hK => ?scn) AllReadyH.nil
    go_simp
    refine (hcn _ (hBW.trans (B0.mono (by omega)))).mono ?_
    rintro e y1 ⟨rfl, rfl⟩
    go_simp
    refine hK.out _ _ ?kcn (fun hHeld => ?mcn)
    case kcn =>
      try dsimp only
      exact mkS _ B0
    clear hK K
    try simp only [Act.put, List.setIfInBounds_toArray, List.set_cons_zero, List.set_cons_succ]
    refine wpAnyH_take (i := 5) (v := ?vq5a5) rfl (by kernel_rfl) (by kernel_rfl) (by kernel_rfl) (fun _ _ _ h => h) (Or.inl ⟨by rfl, ?hq5a5⟩) (by assumption) ?rq5a5
    case hq5a5 =>
      intro w hSw
      try dsimp only at hSw
      go_simp
      try with_reducible rfl
    try simp only [Act.put, List.getElem_toArray, List.getElem_cons_succ, List.getElem_cons_zero, List.setIfInBounds_toArray, List.set_cons_zero, List.set_cons_succ]
    refine wpAnyH_done (by kernel_rfl) ?_ _
    have hBd : Below w.heap.size w W.drew := hBW.drew
    have R1d : Row W.drew (w.heap.size + 1) 34 #[.slice none 0 0, .slice none 0 0] := R1.drew
    obtain ⟨v0, v1, h0', h1'⟩ := R1d.two
    by_cases h : k = (L.length : Int)
    · have hn : (k != (L.length : Int)) = false := by simp [h]
      obtain rfl : c = 0 := by rw [HCC.out, if_neg (by simp [h])]
      obtain ⟨Y, hY⟩ : ∃ Y, W.drew = Y := ⟨_, rfl⟩
      have bY : Below W.heap.size W Y := by rw [← hY]; exact B0
      rw [hY] at R1d hBd
      have mkY : ∀ X, Below Y.heap.size Y X → X.cell? ⟨w.heap.size, 1, none⟩ = some (.slice b L.length cb) := fun X h => mkS X (bY.trans (h.mono bY.size))
      have sY := bY.size
      have BY : Below Y.heap.size Y Y.drew := (Below.refl _ Y).drew
      clear h
      go_wp2_with fail
      (try rw [hY])
      clear hY v0 v1 h0' h1'
      refine wp_region_held (S := fun X => X.cell? ⟨w.heap.size, 1, none⟩ = some (.slice b L.length cb)) (by kernel_rfl) ?_
      have hHeld := mkY _ BY
      refine wpAnyH_take (i := 0) (v := ?vq7a0) rfl (by kernel_rfl) (by kernel_rfl) (by kernel_rfl) (fun _ _ _ h => h) (Or.inl ⟨by rfl, ?hq7a0⟩) (by assumption) ?rq7a0
      case hq7a0 =>
        intro w hSw
        try dsimp only at hSw
        go_simp
        try with_reducible rfl
      try simp only [Act.put, List.setIfInBounds_toArray, List.set_cons_zero, List.set_cons_succ]
      refine wpAnyH_take (i := 2) (v := ?vq7a2) rfl (by kernel_rfl) (by kernel_rfl) (by kernel_rfl) (fun _ _ _ h => h) (Or.inl ⟨by rfl, ?hq7a2⟩) (by assumption) ?rq7a2
      case hq7a2 =>
        intro w hSw
        try dsimp only at hSw
        go_simp
        try with_reducible rfl
      try simp only [Act.put, List.setIfInBounds_toArray, List.set_cons_zero, List.set_cons_succ]
      refine wpAnyH_take (i := 3) (v := ?vq7a3) rfl (by kernel_rfl) (by kernel_rfl) (by kernel_rfl) (fun _ _ _ h => h) (Or.inl ⟨by rfl, ?hq7a3⟩) (by assumption) ?rq7a3
      case hq7a3 =>
        intro w hSw
        try dsimp only at hSw
        go_simp
        try with_reducible rfl
      try simp only [Act.put, List.setIfInBounds_toArray, List.set_cons_zero, List.set_cons_succ]
      refine wpAnyH_ready (rs := [1]) (by kernel_rfl) (by simp) ?_
      refine AllReadyH.cons rfl (fun K hK => ?sap) AllReadyH.nil
      refine step_copyK rfl _ 22 Tryz.underlying22 rfl rfl (HD.out.later (hBd.drew)) HND.out (by omega) ?_
      intro ro y2 RS hy
      obtain ⟨a2, c2, rfl, RS2, A2, n2⟩ := RS.slice
      have B1 : Below Y.heap.size Y y2 := BY.trans hy
      refine hK.out _ _ (mkY _ B1) (fun hHeld2 => ?_)
      clear hK K hHeld
      have hHeld := hHeld2
      clear hHeld2
      try simp only [Act.put, List.setIfInBounds_toArray, List.set_cons_zero, List.set_cons_succ]
      refine wpAnyH_take (i := 4) (v := ?vq8a4) rfl (by kernel_rfl) (by kernel_rfl) (by kernel_rfl) (fun _ _ _ h => h) (Or.inl ⟨by rfl, ?hq8a4⟩) (by assumption) ?rq8a4
      case hq8a4 =>
        intro w hSw
        try dsimp only at hSw
        go_simp
        try with_reducible rfl
      try simp only [Act.put, List.setIfInBounds_toArray, List.set_cons_zero, List.set_cons_succ]
      have s2 := B1.size
      have P2 := R1d.later B1
      obtain ⟨v0, v1, v2, v3⟩ := P2.two
      have hB2 : Below w.heap.size w y2 := hBd.trans (B1.mono (by omega))
      have X0 := (((R0.later bY).later B1).far (p := ⟨w.heap.size + 1, 0, none⟩) (by show w.heap.size ≠ w.heap.size + 1; omega) (.slice a2 t.length c2)).far (p := ⟨w.heap.size + 1, 1, none⟩) (by show w.heap.size ≠ w.heap.size + 1; omega) (.slice b L.length cb)
      refine wpAnyH_ready (rs := [5]) (by kernel_rfl) (by simp) ?_
      refine AllReadyH.cons rfl (fun K hK => ?sst) AllReadyH.nil
      go_simp
      refine hK.out _ _ ?kst (fun hHeld => ?mst)
      case kst =>
        try dsimp only
        exact X0.two.2.1
      clear hK K
      try simp only [Act.put, List.setIfInBounds_toArray, List.set_cons_zero, List.set_cons_succ]
      refine wpAnyH_ready (rs := [6]) (by kernel_rfl) (by simp) ?_
      refine AllReadyH.cons rfl (fun K hK => ?sas) AllReadyH.nil
      go_simp
      refine hK.out _ _ ?kas (fun hHeld => ?mas)
      case kas =>
        try dsimp only
        exact X0.two.2.1
      clear hK K
      try simp only [Act.put, List.setIfInBounds_toArray, List.set_cons_zero, List.set_cons_succ]
      refine wpAnyH_done (by kernel_rfl) ?_ _
      have P4 := P2.set2 (.slice a2 t.length c2) (.slice b L.length cb)
      obtain ⟨z0', z1', _, _⟩ := P4.two
      have hU := (HT.out.later hB2)
      go_wp2_with fail
      refine bodyPost_ret (v := .tuple #[.agg #[.slice a2 t.length c2, .slice b L.length cb], .int .i64 0]) (by simp [results, Tryz.results21, go_sem, z0', z1']) rfl ⟨⟨_, rfl, ⟨_, _, _, _, _, _, rfl⟩, fun _ => ?_⟩, below_set2 hB2 (by omega) _ _⟩
      have hold : TensR w (.agg #[.slice a s.length ca, .slice b L.length cb]) s L m a ca b cb := HT.out
      refine ⟨a2, c2, b, cb, rfl, ((RS2.mono (show w.heap.size ≤ _ by omega)).far P2 (by decide) (kept2 _ _)).at_.2.1, n2, ?_, hold.nilb⟩
      exact hold.el.later (below_set2 hB2 (by omega) _ _) (fun v x _ k => k.later (below_set2 hB2 (by omega) _ _))
    · have hn : (k != (L.length : Int)) = true := by simp [h]
      obtain rfl : c = 13 := by rw [HCC.out, if_pos h]
      have P4 := R1d.set2 (.slice none 0 0) (.slice none 0 0)
      obtain ⟨z0', z1', _, _⟩ := P4.two
      clear h
      go_wp2_with fail
      refine bodyPost_ret (v := .tuple #[noTensor, .int .i64 13]) (by simp [results, Tryz.results21, go_sem, z0, z1, z0', z1', noTensor]) rfl ⟨⟨_, rfl, ⟨none, 0, 0, none, 0, 0, rfl⟩, fun h => by cases h⟩, below_set2 hBd (by omega) _ _⟩
  · have hcc : c = p := by rw [← HC.out]; unfold rsC; rw [if_pos (by rw [hp]; exact h0), hp]
    subst hcc
    have hne : (c != 0) = true := by simp [h0]
    have H0 := Lib.hid h0
    clear T D nd hp hc h0
    go_enter Tryz.func21, Tryz.ntmps21
    (try rw [hW])
    go_wp2_with (go_at_call 55; refine hmy.mono ?_; rintro e w1 ⟨rfl, rfl⟩)
    refine bodyPost_ret (v := .tuple #[noTensor, .int .i64 c]) (by simp [results, Tryz.results21, go_sem, z0, z1, noTensor]) rfl ⟨⟨_, rfl, ⟨none, 0, 0, none, 0, 0, rfl⟩, fun h => absurd h H0.out⟩, HB3.out⟩
end
end Go.Proofs.YtooglnhlhgmhdaaGreat
