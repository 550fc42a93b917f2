/-
  The reference of layer 7: Bits, Empty.
-/
import Derived.Test.YtooglnhlhgmhdaaGreatK1
import Derived.Test.YtooglnhlhgmhdaaGreatK2
import Derived.Test.YtooglnhlhgmhdaaGreatK3
import Derived.Test.YtooglnhlhgmhdaaGreatK4
import Derived.Test.YtooglnhlhgmhdaaGreatK5
import Derived.Test.YtooglnhlhgmhdaaGreatK7
import Derived.Test.YtooglnhlhgmhdaaGreatK11
import Derived.Test.YtooglnhlhgmhdaaGreatK12
import Derived.Test.YtooglnhlhgmhdaaGreatK13
import Derived.Test.YtooglnhlhgmhdaaGreatK15
import Derived.WalkKit
import Derived.Test.YtooglnhlhgmhdaaGreatRows
import Derived.BigQuiet
import Derived.Deep.QuietTactic
import Derived.Lib.Hide
import Derived.Lib.Small
import Derived.Lib.Walk
import Derived.Lib.BitFns
import Derived.Maps.AppendAt
import Derived.RangeFuncNested
import Derived.RangeFuncBound
import Derived.RangeFuncCalls
import Derived.RangeFuncLeaves
import Derived.Shelf.Abstract
import Derived.OwnWalkIn
import Derived.TacticsInMore
import Derived.LoopNIn
import Derived.LoopIn
import Derived.RangeFuncBox
import Derived.Deep.RegionHeld3
import Derived.OrdersIn
import Derived.StillTailTactics
import Derived.RangeFuncFrom
import Derived.Laws.EntriesVeiled
import Derived.ProofKit
import Derived.OpenShut
import Derived.JoinedCond
import Derived.Carry
import Derived.Laws.AppendOwnNone
import Derived.Lib.ItoaNum
import Derived.Deep.RegionLaw
import Derived.WalkMore
import Derived.Lib.SmallJoins
import Derived.IntWalk
import Derived.Deep.DeepCutAuto
import Derived.Laws.OwnMore
import Derived.OrdersHeld
import Derived.Deep.RegionHeld
import Derived.ArgAppend
import Derived.Deep.Slices
namespace Go.Proofs.YtooglnhlhgmhdaaGreat
set_option maxRecDepth 100000
section
open Go.RowKit
set_option linter.unusedVariables false
set_option linter.unusedSimpArgs false
set_option maxRecDepth 100000 in
set_option maxHeartbeats 4000000 in
theorem eqS_any {w : World} {xs ys : List Int} {a b : Option Addr} {c d : Nat} (A : Arg w (.slice a xs.length c) xs a c) (B : Arg w (.slice b ys.length d) ys b d) (hx : xs.length ≤ 70368744177664) (hy : ys.length ≤ 70368744177664) :
    Calls Tryz.prog 109 #[.slice a xs.length c, .slice b ys.length d] w fun e w' => e = .returned (.bool (decide (xs = ys))) ∧ Below w.heap.size w w' := by
  by_cases hl : xs.length = ys.length
  case neg =>
    have hne : decide (xs = ys) = false := decide_eq_false (fun h => hl (by rw [h]))
    have hn1 : ((xs.length : Int) != (ys.length : Int)) = true := by simp; omega
    rw [hne]
    clear hl hne
    go_enter Tryz.func109, Tryz.ntmps109
    go_wp2_with fail
    go_ret
    exact ⟨rfl, Below.refl _ _⟩
  obtain ⟨m, hm⟩ : ∃ m, xs.length = m := ⟨_, rfl⟩
  have hm2 : ys.length = m := by omega
  have la := A.lim
  have lb := B.lim
  have hext : (∀ j, j < m → xs.getD j 0 = ys.getD j 0) → xs = ys := by
    intro h
    apply List.ext_getElem (by omega)
    intro i h1 h2
    have := h i (by omega)
    simpa [h1, h2] using this
  have HX := Lib.hid hext
  have hmm : ((m : Int) != (m : Int)) = false := by simp
  have HL1 := Lib.hid hm
  have HL2 := Lib.hid hm2
  rw [hm] at hx ⊢
  rw [hm2]
  clear hl hm hm2 hext A B hy
  go_enter Tryz.func109, Tryz.ntmps109
  go_wp2_with fail
  go_loopw [5, 13] (fun _ i wr => ∃ k : Nat, i = .int .i64 k ∧ k ≤ m ∧ (∀ j, j < k → xs.getD j 0 = ys.getD j 0) ∧ Below w.heap.size w wr) (fun _ i _ => m - (intOf i).toNat)
  case atStart => exact ⟨0, rfl, Nat.zero_le _, fun j hj => by omega, Below.refl _ _⟩
  case round =>
    obtain ⟨k, rfl, hk, hall, hb⟩ := hrel
    have HA := Lib.hid hall
    clear hall
    by_cases hlt : k < m
    · have HK := Lib.hid hlt
      obtain ⟨p, o, rfl, c1⟩ : ∃ p o, a = some ⟨p, o, none⟩ ∧ wr.cell? ⟨p, o + k, none⟩ = some (.int .u32 (xs.getD k 0)) := by
        rcases la.later hb with e | ⟨p, o, e, hc⟩
        · rw [e] at HL1; have := HL1.out; simp at this; omega
        · exact ⟨p, o, e, hc k (by rw [HL1.out]; exact hlt)⟩
      obtain ⟨p2, o2, rfl, c2⟩ : ∃ p o, b = some ⟨p, o, none⟩ ∧ wr.cell? ⟨p, o + k, none⟩ = some (.int .u32 (ys.getD k 0)) := by
        rcases lb.later hb with e | ⟨p, o, e, hc⟩
        · rw [e] at HL2; have := HL2.out; simp at this; omega
        · exact ⟨p, o, e, hc k (by rw [HL2.out]; exact hlt)⟩
      obtain ⟨x, hxk⟩ : ∃ x, xs.getD k 0 = x := ⟨_, rfl⟩
      obtain ⟨y, hyk⟩ : ∃ y, ys.getD k 0 = y := ⟨_, rfl⟩
      rw [hxk] at c1
      rw [hyk] at c2
      have HXK := Lib.hid hxk
      have HYK := Lib.hid hyk
      have hk0 : (0 : Int) ≤ (k : Int) := Int.natCast_nonneg _
      have hk1 : (k : Int) < (m : Int) := by omega
      clear hxk hyk la lb
      by_cases e : x = y
      · have hne : (x != y) = false := by simp [e]
        have fin : ∃ j : Nat, Value.int .i64 ((k : Int) + 1) = .int .i64 j ∧ j ≤ m ∧ (∀ i, i < j → xs.getD i 0 = ys.getD i 0) :=
          ⟨k + 1, by go_num, HK.out, fun i hi => by
            by_cases h : i = k
            · subst h; rw [HXK.out, HYK.out]; exact e
            · exact HA.out i (by omega)⟩
        have FIN := Lib.hid fin
        clear fin e
        go_wp2_with fail
        go_quiet (fail)
        go_wp2_with fail
        go_roundw
        case rel =>
          obtain ⟨j, h1, h2, h3⟩ := FIN.out
          exact ⟨j, h1, h2, h3, ⟨hb.os, hb.tape, hb.output, hb.size, hb.block⟩⟩
        case measure => have := HK.out; simp [intOf]; omega
      · have hne : (x != y) = true := by simp [e]
        have hd : decide (xs = ys) = false := decide_eq_false (fun h => e (by rw [← HXK.out, ← HYK.out, h]))
        have HD := Lib.hid hd
        clear e hd
        go_wp2_with fail
        go_quiet (fail)
        go_wp2_with fail
        go_ret
        exact ⟨by rw [HD.out]; rfl, ⟨hb.os, hb.tape, hb.output, hb.size, hb.block⟩⟩
    · obtain rfl : k = m := by omega
      have hd : decide (xs = ys) = true := decide_eq_true (HX.out HA.out)
      have HD := Lib.hid hd
      clear hd
      go_wp2_with fail
      go_ret
      exact ⟨by rw [HD.out]; rfl, hb⟩
/-- May's answer: is it valid? -/
def mayCode (b : Bool) : Int := if b = true then 0 else 6
theorem eq_isB {base : Nat} {w : World} {u : Value} {xs zs : List Int} {N : Int} (hx : Wf xs) (h : Res base w u zs N) : decide (xs = zs) = isB xs N := by
  unfold isB
  by_cases e : xs = zs
  · rw [decide_eq_true e, e]
    exact (decide_eq_true ⟨h.full, h.eq⟩).symm
  · rw [decide_eq_false e]
    exact (decide_eq_false (fun k => e (canon hx h.wf k.1 h.full (k.2.trans h.eq.symm)))).symm
set_option maxRecDepth 100000 in
set_option maxHeartbeats 4000000 in
theorem mayQ_any {n : Nat} {w : World} {m1 : Bool} {xs ds : List Int} {a1 a2 : Option Addr} {c1 c2 : Nat} (A : Arg w (.slice a1 xs.length c1) xs a1 c1) (B : Arg w (.slice a2 ds.length c2) ds a2 c2)
    (hx : xs.length ≤ n) (hd : ds.length ≤ n) (hn : n ≤ 16777000) :
    Calls Tryz.prog 83 #[.agg #[.bool m1, .slice a1 xs.length c1, .slice a2 ds.length c2]] w fun e w' => e = .returned (.int .i64 (mayCode (validB m1 xs ds (ratOf m1 (val xs) (val ds))))) ∧ Below w.heap.size w w' := by
  obtain ⟨X, hX⟩ : ∃ X, ratOf m1 (val xs) (val ds) = X := ⟨_, rfl⟩
  have hq : ArgQ w (.agg #[.bool m1, .slice a1 xs.length c1, .slice a2 ds.length c2]) X n := ⟨m1, xs, ds, a1, a2, c1, c2, rfl, A, B, hX, hx, hd⟩
  rw [hX]
  clear hX
  obtain ⟨vb, hvb⟩ : ∃ b, validB m1 xs ds X = b := ⟨_, rfl⟩
  rw [hvb]
  have HVB := Lib.hid hvb
  clear hvb
  obtain ⟨W, hW⟩ : ∃ W, (w.alloc (.cells #[.bool m1, .slice a1 xs.length c1, .slice a2 ds.length c2] 58)) = W := ⟨_, rfl⟩
  have R0 : Row W (w.heap.size) 58 #[.bool m1, .slice a1 xs.length c1, .slice a2 ds.length c2] := by rw [← hW]; exact (Row.new _ _ _)
  have hBW : Below w.heap.size w W := by rw [← hW]; exact ((Below.refl _ _).alloc (by (try simp) <;> omega) _)
  have hsW : w.heap.size + 1 ≤ W.heap.size := by rw [← hW]; simp
  obtain ⟨p0, p1, p2, _, _, _⟩ := R0.three
  have hq' := hq.later hBW
  have AW := A.later hBW
  have BW := B.later hBW
  go_enter Tryz.func83, Tryz.ntmps83
  go_wp2_with fail
  refine (norm_any hq' (by omega)).mono ?_
  rintro e w1 ⟨r1, rfl, h1, hb1⟩
  have hs1 := hb1.size
  obtain ⟨fs, gs, f1, f2, j1, j2, rfl, Rf, Rg, lf, lg⟩ := h1
  obtain ⟨m4, hm4⟩ : ∃ m, decide (X.num < 0) = m := ⟨_, rfl⟩
  have hv : vb = ((m1 == m4) && (decide (xs = fs) && decide (ds = gs))) := by rw [← HVB.out, eq_isB A.wf Rf, eq_isB B.wf Rg]; unfold validB; rw [hm4]
  rw [hm4]
  have HV0 := Lib.hid hv
  have Cf := Rf.at_.2
  have Cg := Rg.at_.2
  clear p0 p1 p2 hW hq hq' hv hm4 Rf Rg A B
  have Q0 := R0.later hb1
  obtain ⟨U, hU⟩ : ∃ U, w1.alloc (.cells #[.bool m4, .slice f1 fs.length j1, .slice f2 gs.length j2] 58) = U := ⟨_, rfl⟩
  have hBU : Below w1.heap.size w1 U := by rw [← hU]; exact (Below.refl _ _).alloc (Nat.le_refl _) _
  have R5 : Row U w1.heap.size 58 #[.bool m4, .slice f1 fs.length j1, .slice f2 gs.length j2] := by rw [← hU]; exact Row.new _ _ _
  have hsU : w1.heap.size + 1 ≤ U.heap.size := by rw [← hU]; simp
  have AU := (AW.later hb1).later hBU
  have BU := (BW.later hb1).later hBU
  have CfU := Cf.later hBU
  have CgU := Cg.later hBU
  have k1 := eqS_any AU CfU (by omega) (by omega)
  obtain ⟨b1, hb1'⟩ : ∃ b, decide (xs = fs) = b := ⟨_, rfl⟩
  obtain ⟨b2, hb2'⟩ : ∃ b, decide (ds = gs) = b := ⟨_, rfl⟩
  rw [hb1'] at k1
  have hv1 := HV0.out
  rw [hb1', hb2'] at hv1
  have HB2 := Lib.hid hb2'
  clear hb1' hb2' HV0
  obtain ⟨p0, p1, p2, _, _, _⟩ := Q0.three
  obtain ⟨q0, q1, q2, _, _, _⟩ := (Q0.later hBU).three
  obtain ⟨o0, o1, o2, _, _, _⟩ := R5.three
  have hB2 : Below w.heap.size w U := (hBW.trans (hb1.mono (by omega))).trans (hBU.mono (by omega))
  obtain ⟨b0, hb0⟩ : ∃ b, (m1 == m4) = b := ⟨_, rfl⟩
  rw [hb0] at hv1
  have hb1' : (m1 != m4) = !b0 := by rw [← hb0]; cases m1 <;> cases m4 <;> rfl
  have HV := Lib.hid hv1
  clear hv1
  cases b0 with
  | false =>
    have e0 : (m1 != m4) = true := hb1'
    clear hb1'
    go_wp2_with fail
    go_ret
    exact ⟨by rw [HV.out]; rfl, by first | exact hB2 | (rw [hU]; exact hB2)⟩
  | true =>
    have e0 : (m1 != m4) = false := hb1'
    clear hb1'
    cases b1 with
    | false =>
      go_wp2_with fail
      (try rw [hU])
      refine k1.mono ?_
      rintro e w2 ⟨rfl, hb2⟩
      clear k1
      go_wp2_with fail
      go_ret
      exact ⟨by rw [HV.out]; rfl, hB2.trans (hb2.mono (by omega))⟩
    | true =>
      go_wp2_with fail
      (try rw [hU])
      refine k1.mono ?_
      rintro e w2 ⟨rfl, hb2⟩
      have hs2 := hb2.size
      have k2 := eqS_any (BU.later hb2) (CgU.later hb2) (by omega) (by omega)
      rw [HB2.out] at k2
      clear k1 p0 p1 p2 q0 q1 q2 o0 o1 o2 hU
      obtain ⟨q0, q1, q2, _, _, _⟩ := ((Q0.later hBU).later hb2).three
      obtain ⟨o0, o1, o2, _, _, _⟩ := (R5.later hb2).three
      go_wp2_with fail
      refine k2.mono ?_
      rintro e w3 ⟨rfl, hb3⟩
      clear k2
      cases b2 with
      | true =>
        go_wp2_with fail
        go_ret
        exact ⟨by rw [HV.out]; rfl, (hB2.trans (hb2.mono (by omega))).trans (hb3.mono (by omega))⟩
      | false =>
        go_wp2_with fail
        go_ret
        exact ⟨by rw [HV.out]; rfl, (hB2.trans (hb2.mono (by omega))).trans (hb3.mono (by omega))⟩
end
section
open Go.RowKit
set_option linter.unusedVariables false
set_option linter.unusedSimpArgs false
theorem place_snoc {s xs : List Int} (hl : xs.length = s.length) (d x : Int) : placeS (s ++ [d]) (xs ++ [x]) = placeS s xs * d + x := by
  induction s generalizing xs with
  | nil =>
    obtain rfl := List.eq_nil_of_length_eq_zero hl
    simp [placeS, prodS]
  | cons c cs ih => cases xs with
    | nil => simp at hl
    | cons y ys =>
      have := ih (xs := ys) (by simpa using hl)
      simp only [List.cons_append, placeS, this, prodS_append, prodS]
      rw [Int.add_mul, Int.mul_one, Int.mul_assoc]
      omega
theorem inS_snoc {s xs : List Int} (h : inS s xs) {d x : Int} (h0 : 0 ≤ x) (h1 : x < d) : inS (s ++ [d]) (xs ++ [x]) := by
  induction s generalizing xs with
  | nil =>
    obtain rfl := List.eq_nil_of_length_eq_zero (inS_length h)
    exact ⟨⟨h0, h1⟩, trivial⟩
  | cons c cs ih => cases xs with
    | nil => exact h.elim
    | cons y ys => exact ⟨h.1, ih h.2⟩
theorem inS_next {s xs : List Int} {k : Nat} {d x : Int} (h : inS (s.take k) (xs.take k)) (hd : s[k]? = some d) (hx : xs[k]? = some x) (h0 : 0 ≤ x) (h1 : x < d) : inS (s.take (k + 1)) (xs.take (k + 1)) := by
  rw [List.take_add_one, List.take_add_one, hd, hx]
  exact inS_snoc h h0 h1
theorem place_next {s xs : List Int} {k : Nat} {d x : Int} (h : inS (s.take k) (xs.take k)) (hd : s[k]? = some d) (hx : xs[k]? = some x) : placeS (s.take (k + 1)) (xs.take (k + 1)) = placeS (s.take k) (xs.take k) * d + x := by
  rw [List.take_add_one, List.take_add_one, hd, hx]
  exact place_snoc (inS_length h) d x
theorem place_small {s xs : List Int} {k : Nat} (ok : OkS s) (h : inS (s.take k) (xs.take k)) : 0 ≤ placeS (s.take k) (xs.take k) ∧ placeS (s.take k) (xs.take k) < 1024 := by
  have h1 := place_range h
  have h2 := prodS_take_le ok.pos k
  have h3 := ok.few
  omega
set_option maxRecDepth 100000 in
set_option maxHeartbeats 2000000 in
theorem offsetS_any {u v : Value} {s xs : List Int} {a b : Option Addr} {ca cb : Nat} {w : World} (A : ArgS w u s a ca) (B : ArgS w v xs b cb) (ha : a = none → ca = 0) (hb : b = none → cb = 0) (hx : s.length ≤ 17592186044416) (hy : xs.length ≤ 17592186044416) :
    Calls Tryz.prog 86 #[u, v] w fun e w' => e = .returned (.tuple #[.int .i64 (offV s xs), .int .i64 (offC s xs)]) ∧ Below w.heap.size w w' := by
  refine Calls.mono (R := fun e w' => e = .returned (.tuple #[.int .i64 (offV s xs), .int .i64 (offC s xs)]) ∧ w = w') ?_ (fun _ _ ⟨h1, h2⟩ => ⟨h1, h2 ▸ Below.refl _ _⟩)
  have hm := mayS_eq A
  have HA := Lib.hid A
  have HB := Lib.hid B
  obtain rfl := A.is
  obtain rfl := B.is
  obtain ⟨c, hc⟩ : ∃ c, offC s xs = c := ⟨_, rfl⟩
  obtain ⟨t, ht⟩ : ∃ t, offV s xs = t := ⟨_, rfl⟩
  obtain ⟨m, hmc⟩ : ∃ m, mayC s = m := ⟨_, rfl⟩
  obtain ⟨L, hL⟩ : ∃ L, s.length = L := ⟨_, rfl⟩
  obtain ⟨M, hM⟩ : ∃ M, xs.length = M := ⟨_, rfl⟩
  rw [hmc, hL] at hm
  rw [hc, ht, hL, hM]
  have HC := Lib.hid hc
  have HT := Lib.hid ht
  have HM := Lib.hid hM
  have HL := Lib.hid hL
  have HMC := Lib.hid hmc
  rw [hL] at hx
  rw [hM] at hy
  clear A B ha hb hc ht hmc hL hM
  by_cases h0 : m = 0
  · subst h0
    by_cases hl : M = L
    · subst hl
      have hlI : ((M : Int) != (M : Int)) = false := by simp
      have ok := mayC_zero.1 HMC.out
      have hM4 : M ≤ 4 := by rw [← HL.out]; exact ok.rank
      have HO := Lib.hid ok
      clear ok
      go_enter Tryz.func86, Tryz.ntmps86
      go_wp2_with (go_at_call 52; refine hm.mono ?_; rintro e w1 ⟨rfl, rfl⟩)
      clear hm
      go_loop [7, 8, 9, 22] (fun p _ _ i => ∃ (k : Nat) (P : Int), i = .int .i64 (k : Int) ∧ p = .int .i64 P ∧ k ≤ M ∧ inS (s.take k) (xs.take k) ∧ P = placeS (s.take k) (xs.take k)) (fun _ _ _ i => M - (intOf i).toNat)
      case atStart => exact ⟨0, 0, rfl, rfl, Nat.zero_le _, trivial, rfl⟩
      case round =>
        obtain ⟨k, P, rfl, rfl, hk, hin, hP⟩ := hrel
        have hsm := place_small HO.out hin
        rw [← hP] at hsm
        obtain ⟨hP0, hP1⟩ := hsm
        have HIN := Lib.hid hin
        have HP := Lib.hid hP
        clear hin hP
        by_cases hlt : k < M
        · obtain ⟨b1, o1, rfl, c1⟩ := HA.out.at (i := k) (by rw [HL.out]; exact hlt)
          obtain ⟨b2, o2, rfl, c2⟩ := HB.out.at (i := k) (by rw [HM.out]; exact hlt)
          have hd := getD_some (xs := s) (k := k) (by rw [HL.out]; exact hlt)
          have hxx := getD_some (xs := xs) (k := k) (by rw [HM.out]; exact hlt)
          have hd1 := HO.out.pos.getD (i := k) (by rw [HL.out]; exact hlt)
          have hd2 := getD_le_prod HO.out.pos (k := k) (by rw [HL.out]; exact hlt)
          have hf := HO.out.few
          obtain ⟨d, hde⟩ : ∃ d, s.getD k 0 = d := ⟨_, rfl⟩
          obtain ⟨x, hxe⟩ : ∃ x, xs.getD k 0 = x := ⟨_, rfl⟩
          rw [hde] at c1 hd hd1 hd2
          rw [hxe] at c2 hxx
          have HD := Lib.hid hd
          have HX := Lib.hid hxx
          have HDE := Lib.hid hde
          have HXE := Lib.hid hxe
          have hbw := below_any x d w
          have hltI : (k : Int) < (M : Int) := by omega
          have hd3 : d ≤ 1024 := by omega
          clear hd hxx hd2 hf hde hxe
          by_cases hg : 0 ≤ x ∧ x < d
          · obtain ⟨g0, g1⟩ := hg
            rw [belowB_yes g0 g1] at hbw
            have hn := inS_next HIN.out HD.out HX.out g0 g1
            have hp := place_next HIN.out HD.out HX.out
            have hs := place_small HO.out hn
            rw [hp, ← HP.out] at hs
            have e0 : 0 ≤ P * d := Int.mul_nonneg hP0 (by omega)
            have e1 : P * d ≤ 1024 * 1024 := Int.mul_le_mul (by omega) hd3 (by omega) (by omega)
            have w1 : wrap64 (P * d) = P * d := by unfold wrap64; omega
            have w2 : wrap64 (P * d + x) = P * d + x := by unfold wrap64; omega
            have HN := Lib.hid hn
            have HPN := Lib.hid hp
            clear hn hp hs
            go_wp2_with (go_at_call 110; refine hbw.mono ?_; rintro e w1 ⟨rfl, rfl⟩)
            go_round
            case rel => exact ⟨k + 1, _, by go_num, rfl, by omega, HN.out, by rw [HPN.out, ← HP.out] <;> first | exact w2 | rw [w1, w2]⟩
            case measure => simp [intOf]; omega
          · rw [belowB_no (by omega)] at hbw
            have hno : ¬ inS s xs := fun h => by
              have := inS_at h (i := k) (by rw [HL.out]; exact hlt)
              rw [HDE.out, HXE.out] at this
              exact hg this
            have hcc := offC_out HMC.out (by rw [HM.out, HL.out]) hno
            obtain rfl : c = 21 := by rw [← HC.out]; exact hcc
            obtain rfl : t = 0 := by rw [← HT.out]; exact offV_bad (by rw [hcc]; decide)
            clear hcc hno hg
            go_wp2_with (go_at_call 110; refine hbw.mono ?_; rintro e w1 ⟨rfl, rfl⟩)
            go_ret2
            exact ⟨rfl, rfl⟩
        · obtain rfl : k = M := by omega
          have hin := HIN.out
          have hP := HP.out
          rw [take_all HL.out, take_all HM.out] at hin hP
          obtain rfl : c = 0 := by rw [← HC.out]; exact offC_in HMC.out hin
          obtain rfl : t = P := by rw [← HT.out, offV_in HMC.out hin]; exact hP.symm
          have hltI : ¬ (k : Int) < (k : Int) := by omega
          clear hin hP
          go_wp2
          go_ret2
          exact ⟨rfl, rfl⟩
    · have hcc := offC_arg HMC.out (by rw [HM.out, HL.out]; exact hl)
      obtain rfl : c = 2 := by rw [← HC.out]; exact hcc
      obtain rfl : t = 0 := by rw [← HT.out]; exact offV_bad (by rw [hcc]; decide)
      have hlI : ((M : Int) != (L : Int)) = true := by simp; omega
      clear hcc
      go_enter Tryz.func86, Tryz.ntmps86
      go_wp2_with (go_at_call 52; refine hm.mono ?_; rintro e w1 ⟨rfl, rfl⟩)
      go_ret2
      exact ⟨rfl, rfl⟩
  · have hcc := offC_may (s := s) (xs := xs) (by rw [HMC.out]; exact h0)
    obtain rfl : c = m := by rw [← HC.out, hcc]; exact HMC.out
    obtain rfl : t = 0 := by rw [← HT.out]; exact offV_bad (by rw [HC.out]; exact h0)
    have hne : (c != 0) = true := by simpa using h0
    clear hcc
    go_enter Tryz.func86, Tryz.ntmps86
    go_wp2_with (go_at_call 52; refine hm.mono ?_; rintro e w1 ⟨rfl, rfl⟩)
    go_ret2
    exact ⟨rfl, rfl⟩
/-- the first k numbers are axes; the last one of them -/
def axU (l : List Int) (rank : Int) (k : Nat) : Prop := ∀ i, i < k → (0 ≤ l.getD i 0 ∧ l.getD i 0 < rank) ∧ (0 < i → l.getD (i - 1) 0 < l.getD i 0)
def lastS (l : List Int) : Nat → Int
  | 0 => -1
  | k + 1 => l.getD k 0
theorem axU.next {l : List Int} {rank : Int} {k : Nat} (h : axU l rank k) (h0 : lastS l k < l.getD k 0) (h1 : 0 ≤ l.getD k 0) (h2 : l.getD k 0 < rank) : axU l rank (k + 1) := by
  intro i hi
  by_cases e : i = k
  · subst e
    refine ⟨⟨h1, h2⟩, fun hp => ?_⟩
    obtain ⟨j, rfl⟩ : ∃ j, i = j + 1 := ⟨i - 1, by omega⟩
    exact h0
  · exact h i (by omega)
end
section
open Go.RowKit
set_option linter.unusedVariables false
set_option linter.unusedSimpArgs false
theorem pow_limit {k L : Nat} {N : Int} (h : (4294967296 : Int) ^ k ≤ N) (h2 : N < (10000 : Int) ^ L) : k < L := by
  rcases Nat.lt_or_ge k L with g | g
  · exact g
  · exfalso
    have e1 : (10000 : Nat) ^ L ≤ 4294967296 ^ L := Nat.pow_le_pow_left (by omega) L
    have e2 : (4294967296 : Nat) ^ L ≤ 4294967296 ^ k := Nat.pow_le_pow_right (by omega) g
    have e3 : ((10000 ^ L : Nat) : Int) = (10000 : Int) ^ L := by rw [Int.natCast_pow]; rfl
    have e4 : ((4294967296 ^ k : Nat) : Int) = (4294967296 : Int) ^ k := by rw [Int.natCast_pow]; rfl
    omega
set_option maxRecDepth 100000 in
set_option maxHeartbeats 4000000 in
theorem limbsR_any {u : Value} {ds : List Int} {a : Option Addr} {ca : Nat} {w : World} (A : ArgD w u ds a ca) (hx : ds.length ≤ 1099511627776) :
    Calls Tryz.prog 134 #[u] w fun e w' => ∃ r, e = .returned r ∧ ∃ zs, Res w.heap.size w' r zs (valD ds) ∧ zs.length ≤ ds.length ∧ Below w.heap.size w w' := by
  obtain ⟨i0, hi, hz0, hz1, hz2⟩ := info_parts infoLimb
  have hlt := val_ltD A.wf
  have h0N := val_nonnegD A.wf
  obtain ⟨N, hN⟩ : ∃ N, valD ds = N := ⟨_, rfl⟩
  rw [hN] at hlt h0N ⊢
  have HN := Lib.hid hN
  have HLT := Lib.hid hlt
  have HA := Lib.hid A
  obtain ⟨L, hL⟩ : ∃ L, ds.length = L := ⟨_, rfl⟩
  have HL := Lib.hid hL
  rw [hL] at hx ⊢
  clear hN hlt A hL
  go_enter Tryz.func134, Tryz.ntmps134
  go_wp2
  go_loopw [0, 3, 4, 5, 6, 7] (fun n s _ _ _ _ wr => ∃ (es zs : List Int) (b : Option Addr) (cb : Nat) (M : Int), ArgD wr n es b cb ∧ valD es = M ∧ 0 ≤ M ∧ es.length ≤ L ∧ Num w.heap.size wr s zs ∧ Wf zs ∧ val zs + 4294967296 ^ zs.length * M = N ∧ (M = 0 → trimN zs zs.length = zs.length) ∧ zs.length ≤ L ∧ Below w.heap.size w wr) (fun n _ _ _ _ _ wr => leftD wr n)
  case atStart => exact ⟨ds, [], a, ca, N, HA.out, HN.out, h0N, by rw [HL.out]; exact Nat.le_refl _, ⟨rfl, .inl ⟨rfl, rfl⟩⟩, Wf.nil, by simp [val], fun _ => rfl, Nat.zero_le _, Below.refl _ _⟩
  case round =>
    obtain ⟨es, zs, b, cb, M, E, hM, hM0, hel, hnum, hwf, hval, hfull, hzl, hb⟩ := hrel
    have hsz := hb.size
    have HE := Lib.hid E
    have HM := Lib.hid hM
    have HV := Lib.hid hval
    have HF := Lib.hid hfull
    have HO := Lib.hid hnum
    have HWF := Lib.hid hwf
    have hrow : wr.ownsRow w.heap.size 63 1 _ zs.length (zs.map (Value.int .u32)) := hnum
    have eE := E.is
    subst eE
    obtain ⟨m, hm⟩ : ∃ m, es.length = m := ⟨_, rfl⟩
    have HML := Lib.hid hm
    rw [hm] at hel
    rw [hm]
    by_cases hp : 0 < M
    · have hml : 0 < m := by
        rcases Nat.eq_zero_or_pos m with g | g
        · exfalso
          have := List.eq_nil_of_length_eq_zero (hm.trans g)
          rw [this] at hM
          simp [valD] at hM
          omega
        · exact g
      have hmI : (0 : Int) < (m : Int) := by omega
      have hs1 := short_any 65536 E (by omega) (by omega)
      rw [hM, hm] at hs1
      have hzL : zs.length < L := by
        refine pow_limit (N := N) ?_ (by rw [← HL.out]; exact HLT.out)
        have h1 := val_nonneg hwf
        have h2 := Int.mul_le_mul_of_nonneg_left (show (1 : Int) ≤ M by omega) (show (0 : Int) ≤ 4294967296 ^ zs.length from Int.pow_nonneg (by omega))
        omega
      obtain ⟨lo, hlo⟩ : ∃ lo, M % 65536 = lo := ⟨_, rfl⟩
      obtain ⟨hi2, hhi⟩ : ∃ h, M / 65536 = h := ⟨_, rfl⟩
      obtain ⟨up, hup⟩ : ∃ u, hi2 % 65536 = u := ⟨_, rfl⟩
      obtain ⟨rs, hrs⟩ : ∃ u, hi2 / 65536 = u := ⟨_, rfl⟩
      have hd : up * 65536 + lo + 4294967296 * rs = M := by omega
      have b0 : 0 ≤ lo ∧ lo < 65536 := by omega
      have b1 : 0 ≤ up ∧ up < 65536 := by omega
      have b2 : 0 ≤ rs := by omega
      obtain ⟨lo0, lo1⟩ := b0
      obtain ⟨up0, up1⟩ := b1
      rw [hlo, hhi] at hs1
      have HD := Lib.hid hd
      have HUP := Lib.hid hup
      have HRS := Lib.hid hrs
      clear hM hval hfull hnum hm hlo hhi hup hrs hd E
      go_wp2_with fail
      refine hs1.mono ?_
      rintro e w1 ⟨r1, rfl, z1, q1, l1, hb1⟩
      obtain ⟨ad1, cp1, rfl, q1, A1⟩ := q1.slice
      have v1 := q1.eq
      have hs2 := short_any 65536 A1 (by omega) (by omega)
      rw [v1, HUP.out, HRS.out] at hs2
      have hbw1 := hb.trans (hb1.mono hsz)
      have hrow1 : w1.ownsRow w.heap.size 63 1 _ zs.length (zs.map (Value.int .u32)) := Num.later HO.out hb1
      clear q1 v1 hs1 hrow
      go_wp2_with fail
      refine hs2.mono ?_
      rintro e w2 ⟨r2, rfl, z2, q2, l2, hb2⟩
      obtain ⟨ad2, cp2, rfl, q2, A2⟩ := q2.slice
      have hbw2 := hbw1.trans (hb2.mono hbw1.size)
      have hsz2 := hbw2.size
      have hrow2 : w2.ownsRow w.heap.size 63 1 _ zs.length (zs.map (Value.int .u32)) := Num.later (w := w1) hrow1 hb2
      have e1 : up % 4294967296 = up := by omega
      have e2 : lo % 4294967296 = lo := by omega
      have e3 : up * 65536 % 4294967296 = up * 65536 := by omega
      have e4 : (up * 65536 + lo) % 4294967296 = up * 65536 + lo := by omega
      have v2 := q2.eq
      have V2 := Lib.hid v2
      have Q2 := Lib.hid q2
      have HA2 := Lib.hid A2
      have HB2 := Lib.hid hbw2
      have HO2 : Hid (Num w.heap.size w2 _ zs) := Lib.hid hrow2
      clear hs2 hrow1 q2 v2 hbw1
      go_wp2_with (at_builtin; refine wpList_append_own _ rfl _ _ 56 rfl w.heap.size 63 i0 (.int .u32 0) 1 4 Tryz.underlying56 hi hz0 hz1 hz2 rfl (by decide) _ _ _ rfl (hrow2.alloc _) ⟨w2.heap.size, 0, none⟩ 1 1 [.int .u32 (up * 65536 + lo)] rfl rfl (cell_one_new _ _ _) (by simp [Value.oneCell']) (by unfold maxLen; omega) (by omega) (by simp; omega) ?_; intro v' w3 hown' hgrow _)
      have hnum3 : Num w.heap.size w3 v' (zs ++ [up * 65536 + lo]) := by
        unfold Num
        rw [List.length_append, List.map_append]
        exact hown'
      have hb3 : Below w.heap.size w w3 := (HB2.out.alloc hsz2 _).grown hgrow (by simp; omega) (fun k hk => (HO2.out.lt k hk).1)
      have Q3 : ResD w1.heap.size w3 (.slice ad2 z2.length cp2) z2 rs := ⟨apartV HO2.out hgrow (by decide) Q2.out.num, Q2.out.wf, Q2.out.full, Q2.out.eq⟩
      have A3 := Q3.at_.2
      go_roundw
      case rel => exact ⟨z2, _, ad2, cp2, rs, A3, V2.out, b2, by omega, hnum3, HWF.out.append (Wf.cons (by omega) Wf.nil), (by
        rw [val_append, List.length_append, List.length_singleton, Int.pow_succ]
        have h1 := HV.out
        have h2 := HD.out
        have h3 : val [up * 65536 + lo] = up * 65536 + lo := by simp [val]
        rw [h3, Int.mul_assoc, Int.add_assoc, ← Int.mul_add, h2]
        exact h1), fun h0 => full_snoc _ (by have := HD.out; omega), (by rw [List.length_append]; simp only [List.length_cons, List.length_nil]; omega), hb3⟩
      case measure =>
        have h1 := HE.out.left
        rw [HML.out, HM.out] at h1
        have h2 := HD.out
        rw [A3.left, V2.out, h1]
        omega
    · have h0 : M = 0 := by omega
      subst h0
      have hz := valD_zero E.wf E.full hM
      have hm0 : m = 0 := by rw [← hm, hz]
      subst hm0
      have hwfx := Lib.hid hwf
      clear hm hM hval hfull hnum E hz
      go_wp2
      go_ret
      refine ⟨_, rfl, zs, ⟨HO.out, hwf, (by have h := HF.out; simpa using h), ?_⟩, hzl, hb⟩
      have := HV.out
      rw [Int.mul_zero, Int.add_zero] at this
      exact this
set_option maxRecDepth 100000 in
set_option maxHeartbeats 4000000 in
theorem backR_any {n : Nat} {w : World} {v : Value} {X : Rat} (h : ArgR w v X n) (hn : n ≤ 1000000000) :
    Calls Tryz.prog 116 #[v] w fun e w' => ∃ r, e = .returned r ∧ ResQ w.heap.size w' r X n ∧ Below w.heap.size w w' := by
  obtain ⟨xs, ds, a1, a2, c1, c2, rfl, A, B, hX1, hX2, hx, hd⟩ := h
  obtain ⟨m1, hm1⟩ : ∃ m, decide (X.num < 0) = m := ⟨_, rfl⟩
  rw [hm1]
  have HM := Lib.hid hm1
  have HX1 := Lib.hid hX1
  have HX2 := Lib.hid hX2
  clear hm1 hX1 hX2
  obtain ⟨W, hW⟩ : ∃ W, ((w.alloc (.cells #[.bool m1, .slice a1 xs.length c1, .slice a2 ds.length c2] 75)).alloc (.cells #[.bool false, .slice none 0 0, .slice none 0 0] 58)) = W := ⟨_, rfl⟩
  have R0 : Row W (w.heap.size) 75 #[.bool m1, .slice a1 xs.length c1, .slice a2 ds.length c2] := by rw [← hW]; exact ((Row.new _ _ _).alloc _)
  have R1 : Row W (w.heap.size + 1) 58 #[.bool false, .slice none 0 0, .slice none 0 0] := by rw [← hW]; have h := (Row.new (w.alloc (.cells #[.bool m1, .slice a1 xs.length c1, .slice a2 ds.length c2] 75)) 58 #[.bool false, .slice none 0 0, .slice none 0 0]); simp only [World.size_alloc] at h; exact h
  have hBW : Below w.heap.size w W := by rw [← hW]; exact (((Below.refl _ _).alloc (by (try simp) <;> omega) _).alloc (by (try simp) <;> omega) _)
  have hsW : w.heap.size + 1 + 1 ≤ W.heap.size := by rw [← hW]; simp
  have mkS : ∀ X, Kept (w.heap.size + 1) W X → X.cell? ⟨w.heap.size, 0, none⟩ = some (.bool m1) ∧ X.cell? ⟨w.heap.size, 1, none⟩ = some (.slice a1 xs.length c1) ∧ X.cell? ⟨w.heap.size, 2, none⟩ = some (.slice a2 ds.length c2) ∧ Kept (w.heap.size + 1) W X := fun X h => ⟨(R0.kept h (by omega)).cell 0, (R0.kept h (by omega)).cell 1, (R0.kept h (by omega)).cell 2, h⟩
  go_enter Tryz.func116, Tryz.ntmps116
  go_wp2_with fail
  clear hW
  go_region_held3 (fun X => X.cell? ⟨w.heap.size, 0, none⟩ = some (.bool m1) ∧ X.cell? ⟨w.heap.size, 1, none⟩ = some (.slice a1 xs.length c1) ∧ X.cell? ⟨w.heap.size, 2, none⟩ = some (.slice a2 ds.length c2) ∧ Kept (w.heap.size + 1) W X)
    (((refine mkS _ ?_; (repeat' (first | exact Kept.refl _ _ | refine Kept.drew ?_ | refine Kept.alloc ?_ _ | refine Kept.set ?_ _ _ | refine Kept.below ?_ (by assumption))))))
    ((first
      | (go_at_call 134; (with_reducible refine (limbsR_any (B.later (Kept.under (show Kept (w.heap.size + 1) W _ by (repeat' (first | exact Kept.refl _ _ | refine Kept.drew ?_ | refine Kept.alloc ?_ _ | refine Kept.set ?_ _ _ | refine Kept.below ?_ (by assumption)))) hBW (by omega) (by omega))) (by omega)).mono ?_); rintro e w4 ⟨r4, rfl, z4, q4, l4, hb4⟩; obtain ⟨ad4, cp4, rfl, q4, A4⟩ := q4.slice; have P4 := R1.kept (show Kept (w.heap.size + 1 + 1 + 1) W w4 by (repeat' (first | exact Kept.refl _ _ | refine Kept.drew ?_ | refine Kept.alloc ?_ _ | refine Kept.set ?_ _ _ | refine Kept.below ?_ (by assumption)))) (by omega); have Q4 := Lib.hid q4; clear q4; obtain ⟨u0, u1, u2, g0, g1, g2⟩ := P4.three)
      | (go_at_call 134; (with_reducible refine (limbsR_any (A.later (Kept.under (show Kept (w.heap.size + 1) W _ by (repeat' (first | exact Kept.refl _ _ | refine Kept.drew ?_ | refine Kept.alloc ?_ _ | refine Kept.set ?_ _ _ | refine Kept.below ?_ (by assumption)))) hBW (by omega) (by omega))) (by omega)).mono ?_); rintro e w3 ⟨r3, rfl, z3, q3, l3, hb3⟩; obtain ⟨ad3, cp3, rfl, q3, A3⟩ := q3.slice; have Q3 := Lib.hid q3; clear q3)))
  have Q3' := Q3.out.later hb4
  have hk4 := (show Kept (w.heap.size + 1 + 1 + 1) W w4 by (repeat' (first | exact Kept.refl _ _ | refine Kept.drew ?_ | refine Kept.alloc ?_ _ | refine Kept.set ?_ _ _ | refine Kept.below ?_ (by assumption)))).size
  have hk3 := (show Kept (w.heap.size + 1 + 1 + 1) W w3 by (repeat' (first | exact Kept.refl _ _ | refine Kept.drew ?_ | refine Kept.alloc ?_ _ | refine Kept.set ?_ _ _ | refine Kept.below ?_ (by assumption)))).size
  have hK4 := (Kept.under (show Kept (w.heap.size + 1 + 1 + 1) W w4 by (repeat' (first | exact Kept.refl _ _ | refine Kept.drew ?_ | refine Kept.alloc ?_ _ | refine Kept.set ?_ _ _ | refine Kept.below ?_ (by assumption)))) hBW (by omega) (by omega))
  have HQ := Lib.hid Q3'
  clear Q3'
  go_wp2_with fail
  refine bodyPost_ret (v := .agg #[.bool m1, .slice ad3 z3.length cp3, .slice ad4 z4.length cp4]) (by simp [results, Tryz.results116, go_sem, u0, u1, u2]) rfl ⟨_, rfl, ⟨z3, z4, ad3, ad4, cp3, cp4, by rw [HM.out], ?_, ?_, by omega, by omega⟩, below_set3 hK4 (by omega) _ _ _⟩
  · rw [← HX1.out]; exact (HQ.out.mono (by show w.heap.size ≤ W.heap.size; omega)).far P4 (by decide) (kept3 _ _ _)
  · rw [← HX2.out]; exact (Q4.out.mono (by omega)).far P4 (by decide) (kept3 _ _ _)
end
section
open Go.RowKit
set_option linter.unusedVariables false
set_option linter.unusedSimpArgs false
/-- numerator and denominator are at most 2 to the b -/
def FitQ (X : Rat) (b : Nat) : Prop := X.num.natAbs ≤ 2 ^ b ∧ X.den ≤ 2 ^ b
theorem FitQ.mono {X : Rat} {a b : Nat} (h : FitQ X a) (hb : a ≤ b) : FitQ X b :=
  ⟨Nat.le_trans h.1 (Nat.pow_le_pow_right (by omega) hb), Nat.le_trans h.2 (Nat.pow_le_pow_right (by omega) hb)⟩
theorem FitQ.of {n : Bool} {A B : Int} {b : Nat} (hA : 0 ≤ A) (hB : 0 ≤ B) (h1 : A ≤ ((2 ^ b : Nat) : Int)) (h2 : B ≤ ((2 ^ b : Nat) : Int)) : FitQ (ratOf n A B) b := by
  have hp : 1 ≤ 2 ^ b := Nat.one_le_two_pow
  rcases Int.lt_or_le 0 B with h | h
  · have e1 := ratOf_abs (n := n) hA h
    have e2 := ratOf_den (n := n) (A := A) h
    have hg : (0 : Int) ≤ (Int.gcd A B : Int) := Int.natCast_nonneg _
    have l1 : A / (Int.gcd A B : Int) ≤ A := Int.ediv_le_self _ hA
    have l2 : B / (Int.gcd A B : Int) ≤ B := Int.ediv_le_self _ hB
    constructor <;> omega
  · have hz : B = 0 := by omega
    subst hz
    rw [ratOf_zero_right]
    exact ⟨by show 0 ≤ _; omega, by show 1 ≤ _; omega⟩
theorem FitQ.zero (b : Nat) : FitQ 0 b := ⟨Nat.zero_le _, Nat.one_le_two_pow⟩
theorem two_pow_mul (a b : Nat) {x y : Nat} (h1 : x ≤ 2 ^ a) (h2 : y ≤ 2 ^ b) : x * y ≤ 2 ^ (a + b) := by
  rw [Nat.pow_add]; exact Nat.mul_le_mul h1 h2
theorem sgn_abs (t : Int) : sgn (decide (t < 0)) (t.natAbs : Int) = t := by
  unfold sgn
  by_cases h : t < 0
  · rw [decide_eq_true h]; simp; omega
  · rw [decide_eq_false h]; simp; omega
theorem sgn_natAbs (n : Bool) (A : Int) : (sgn n A).natAbs = A.natAbs := by
  unfold sgn
  cases n <;> simp
theorem FitQ.add {X Y : Rat} {a b : Nat} (h : FitQ X a) (k : FitQ Y b) : FitQ (X + Y) (a + b + 1) := by
  obtain ⟨A, hA⟩ : ∃ A, X.num.natAbs = A := ⟨_, rfl⟩
  obtain ⟨B, hB⟩ : ∃ B, X.den = B := ⟨_, rfl⟩
  obtain ⟨C, hC⟩ : ∃ C, Y.num.natAbs = C := ⟨_, rfl⟩
  obtain ⟨D, hD⟩ : ∃ D, Y.den = D := ⟨_, rfl⟩
  have eX : ratOf (decide (X.num < 0)) (A : Int) (B : Int) = X := by rw [← hA, ← hB]; exact ratOf_self X
  have eY : ratOf (decide (Y.num < 0)) (C : Int) (D : Int) = Y := by rw [← hC, ← hD]; exact ratOf_self Y
  have pB := den_pos' X
  have pD := den_pos' Y
  rw [hB] at pB
  rw [hD] at pD
  obtain ⟨t, ht⟩ : ∃ t, sgn (decide (X.num < 0)) ((A : Int) * (D : Int)) + sgn (decide (Y.num < 0)) ((C : Int) * (B : Int)) = t := ⟨_, rfl⟩
  have hs := rat_sum (m := decide (X.num < 0)) (n := decide (Y.num < 0)) (r := decide (t < 0)) (A := A) (B := B) (C := C) (D := D) (S := (t.natAbs : Int)) pB pD (by rw [sgn_abs, ht])
  rw [eX, eY] at hs
  rw [← hs]
  have f1 := h.1
  have f2 := h.2
  have f3 := k.1
  have f4 := k.2
  rw [hA] at f1
  rw [hB] at f2
  rw [hC] at f3
  rw [hD] at f4
  have g1 := two_pow_mul a b f1 f4
  have g2 := two_pow_mul b a f3 f2
  have g3 := two_pow_mul a b f2 f4
  have ht2 : t.natAbs ≤ A * D + C * B := by
    rw [← ht]
    refine Nat.le_trans (Int.natAbs_add_le _ _) ?_
    rw [sgn_natAbs, sgn_natAbs, Int.natAbs_mul, Int.natAbs_mul]
    simp
  rw [Nat.add_comm b a] at g2
  have hp2 : 2 ^ (a + b + 1) = 2 ^ (a + b) * 2 := Nat.pow_succ ..
  refine FitQ.of (Int.natCast_nonneg _) (Int.mul_nonneg (Int.natCast_nonneg _) (Int.natCast_nonneg _)) ?_ ?_
  · omega
  · rw [← Int.natCast_mul]; omega
theorem FitQ.raw {q : Q3} {m : Nat} (h1 : Wf q.num) (h2 : Wf q.den) (l1 : q.num.length ≤ m) (l2 : q.den.length ≤ m) : FitQ q.rat (32 * m) := by
  have e : ∀ {xs : List Int}, Wf xs → xs.length ≤ m → val xs ≤ ((2 ^ (32 * m) : Nat) : Int) := fun {xs} hx hl => by
    have h3 := val_lt hx
    have h4 : (4294967296 : Nat) ^ xs.length ≤ 4294967296 ^ m := Nat.pow_le_pow_right (by omega) hl
    have h5 : ((4294967296 ^ xs.length : Nat) : Int) = (4294967296 : Int) ^ xs.length := by rw [Int.natCast_pow]; rfl
    have h6 : 2 ^ (32 * m) = (4294967296 : Nat) ^ m := by rw [Nat.pow_mul]
    omega
  exact FitQ.of (val_nonneg h1) (val_nonneg h2) (e h1 l1) (e h2 l2)
end
section
open Go.RowKit
set_option linter.unusedVariables false
set_option linter.unusedSimpArgs false
set_option maxRecDepth 100000 in
set_option maxHeartbeats 4000000 in
theorem emptyT_any {w : World} (v : Value) (sa sb : Option Addr) (n m ca cb : Nat) (hv : v = .agg #[.slice sa n ca, .slice sb m cb]) :
    Calls Tryz.prog 30 #[v] w fun e w' => e = .returned (.bool (decide (n = 0) && decide (m = 0))) ∧ Below w.heap.size w w' := by
  subst hv
  obtain ⟨W, hW⟩ : ∃ W, (w.alloc (.cells #[.slice sa n ca, .slice sb m cb] 26)) = W := ⟨_, rfl⟩
  have R0 : Row W w.heap.size 26 #[.slice sa n ca, .slice sb m cb] := by rw [← hW]; exact Row.new _ _ _
  have hBW : Below w.heap.size w W := by rw [← hW]; exact (Below.refl _ _).alloc (by simp) _
  obtain ⟨c0, c1, _, _⟩ := R0.two
  by_cases h0 : n = 0
  · subst h0
    by_cases h1 : m = 0
    · subst h1
      go_enter Tryz.func30, Tryz.ntmps30
      go_wp2
      go_ret
      exact ⟨rfl, hBW⟩
    · have h1I : ((m : Int) == 0) = false := by simp; omega
      rw [decide_eq_false h1]
      clear h1
      go_enter Tryz.func30, Tryz.ntmps30
      go_wp2
      go_ret
      exact ⟨rfl, hBW⟩
  · have h0I : ((n : Int) == 0) = false := by simp; omega
    rw [decide_eq_false h0]
    clear h0
    go_enter Tryz.func30, Tryz.ntmps30
    go_wp2
    go_ret
    exact ⟨rfl, hBW⟩
theorem ResS.at_ {base : Nat} {w : World} {ad : Option Addr} {n cap : Nat} {xs : List Int} (h : ResS base w (.slice ad n cap) xs) : n = xs.length ∧ ArgS w (.slice ad n cap) xs ad cap ∧ (ad = none → cap = 0) := by
  obtain ⟨ad', cap', e, _, A, hn⟩ := h.slice
  simp only [Value.slice.injEq] at e
  obtain ⟨rfl, rfl, rfl⟩ := e
  exact ⟨rfl, A, hn⟩
theorem RowA.imp {α : Type} {P Q : World → Value → α → Prop} {w : World} {u : Value} {L : List α} {ad : Option Addr} {cap : Nat} (h : RowA P w u L ad cap) (hP : ∀ v x, x ∈ L → P w v x → Q w v x) : RowA Q w u L ad cap := by
  refine ⟨h.is, h.le, ?_⟩
  rcases h.els with e | ⟨b, o, es, e, c, k⟩
  · exact .inl e
  · exact .inr ⟨b, o, es, e, c, k.imp hP⟩
theorem RowO.at_ {α : Type} {base : Nat} {T : TypeId} {P : World → Value → α → Prop} {w : World} {ad : Option Addr} {n cap : Nat} {L : List α} (h : RowO base T P w (.slice ad n cap) L) : n = L.length ∧ RowA P w (.slice ad n cap) L ad cap ∧ (ad = none → cap = 0) := by
  obtain ⟨ad', cap', A, hn, _⟩ := h.arg
  have e := A.is
  simp only [Value.slice.injEq] at e
  obtain ⟨rfl, rfl, rfl⟩ := e
  exact ⟨rfl, A, hn⟩
end
section
open Go.RowKit Go.Shelf
attribute [local go_sem] Oper.semAt_some
set_option linter.unusedVariables false
set_option linter.unusedSimpArgs false
theorem RawQ.box {w : World} {v : Value} {q : Q3} (h : RawQ w v q) : ∃ (ad bd : Option Addr) (ca cb : Nat), v = .agg #[.bool q.neg, .slice ad q.num.length ca, .slice bd q.den.length cb] := by
  obtain ⟨ad, bd, ca, cb, rfl, _⟩ := h
  exact ⟨_, _, _, _, rfl⟩
end
end Go.Proofs.YtooglnhlhgmhdaaGreat
