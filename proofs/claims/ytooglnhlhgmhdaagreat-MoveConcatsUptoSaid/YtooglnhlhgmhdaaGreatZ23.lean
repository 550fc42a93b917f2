/-
  Layer 9's reference: at. (Made by wip/gen/gen_mrefc.py.)
-/
import Derived.Test.YtooglnhlhgmhdaaGreatZ1
import Derived.Test.YtooglnhlhgmhdaaGreatZ2
import Derived.Test.YtooglnhlhgmhdaaGreatZ3
import Derived.Test.YtooglnhlhgmhdaaGreatZ5
import Derived.Test.YtooglnhlhgmhdaaGreatZ7
import Derived.Test.YtooglnhlhgmhdaaGreatZ11
import Derived.Test.YtooglnhlhgmhdaaGreatZ12
import Derived.Test.YtooglnhlhgmhdaaGreatZ13
import Derived.Test.YtooglnhlhgmhdaaGreatZ14
import Derived.Test.YtooglnhlhgmhdaaGreatZ15
import Derived.Test.YtooglnhlhgmhdaaGreatZ16
import Derived.Test.YtooglnhlhgmhdaaGreatZ18
import Derived.WalkKit
import Derived.Test.YtooglnhlhgmhdaaGreatRows
import Derived.BigQuiet
import Derived.Deep.QuietTactic
import Derived.Lib.Hide
import Derived.Lib.Small
import Derived.Lib.Walk
import Derived.Lib.BitFns
import Derived.Maps.AppendAt
import Derived.RangeFuncNested
import Derived.RangeFuncBound
import Derived.RangeFuncCalls
import Derived.RangeFuncLeaves
import Derived.Shelf.Abstract
import Derived.OwnWalkIn
import Derived.TacticsInMore
import Derived.LoopNIn
import Derived.LoopIn
import Derived.RangeFuncBox
import Derived.Deep.RegionHeld3
import Derived.OrdersIn
import Derived.StillTailTactics
import Derived.RangeFuncFrom
import Derived.Laws.EntriesVeiled
import Derived.ProofKit
import Derived.OpenShut
import Derived.JoinedCond
import Derived.Carry
import Derived.Laws.AppendOwnNone
import Derived.Lib.ItoaNum
import Derived.Deep.RegionLaw
import Derived.WalkMore
import Derived.Lib.SmallJoins
import Derived.IntWalk
import Derived.Deep.DeepCutAuto
import Derived.Laws.OwnMore
import Derived.OrdersHeld
import Derived.Deep.RegionHeld
import Derived.ArgAppend
import Derived.Deep.Slices
import Derived.Laws.CopyOwn
import Derived.Lib.SliceRun
namespace Go.Proofs.YtooglnhlhgmhdaaGreat
set_option maxRecDepth 100000
section
open Go.RowKit
set_option linter.unusedVariables false
set_option linter.unusedSimpArgs false
theorem prodS_snoc (a : List Int) (d : Int) : prodS (a ++ [d]) = prodS a * d := by rw [prodS_append]; simp [prodS]
theorem place_snoc9 {a b : List Int} (h : a.length = b.length) (d x : Int) : placeS (a ++ [d]) (b ++ [x]) = placeS a b * d + x := by
  induction a generalizing b with
  | nil => cases b with
    | nil => simp [placeS, prodS]
    | cons y b => simp at h
  | cons e a ih => cases b with
    | nil => simp at h
    | cons y b =>
      simp only [List.cons_append, placeS]
      rw [ih (by simpa using h), prodS_snoc, Int.add_mul, Int.mul_assoc]
      omega
theorem place_take {s xs : List Int} (h : xs.length = s.length) {k : Nat} (hk : k < s.length) : placeS (s.take (k + 1)) (xs.take (k + 1)) = placeS (s.take k) (xs.take k) * s.getD k 0 + xs.getD k 0 := by
  rw [List.take_add_one, List.take_add_one, List.getElem?_eq_getElem hk, List.getElem?_eq_getElem (show k < xs.length by omega)]
  rw [getD_elem hk, getD_elem (show k < xs.length by omega)]
  exact place_snoc9 (by simp [h]) _ _
theorem inS_take {s xs : List Int} (h : xs.length = s.length) {k : Nat} (hk : k ≤ s.length) (hin : ∀ j, j < k → 0 ≤ xs.getD j 0 ∧ xs.getD j 0 < s.getD j 0) : inS (s.take k) (xs.take k) := by
  refine inS_of (by simp [h]) fun i hi => ?_
  rw [List.length_take] at hi
  have := hin i (by omega)
  simpa [List.getD_eq_getElem?_getD, List.getElem?_take, show i < k by omega] using this
set_option maxRecDepth 100000 in
set_option maxHeartbeats 4000000 in
theorem at9_any {m : Nat} {w0 w : World} {v u : Value} {s xs : List Int} {L : List Rat} {a b ad : Option Addr} {ca cb cd : Nat} (T : TensR w0 v s L m a ca b cb) (h00 : Below w0.heap.size w0 w) (ok : OkS s) (hL : (L.length : Int) = prodS s) (X : ArgS w u xs ad cd) (hx : xs.length = s.length) (hm : 6 ≤ m) :
    Calls Tryz.prog 48 #[v, u] w fun e w' => ∃ r, e = .returned r ∧ ResA w.heap.size w0 w' r (elV s L xs) m ∧ Below w.heap.size w w' := by
  have HT := Lib.hid T
  have HX := Lib.hid X
  have HOK := Lib.hid ok
  have hrk := ok.rank
  obtain rfl := X.is
  obtain rfl := T.is
  obtain ⟨G, hG⟩ : ∃ G, w.heap.size = G := ⟨_, rfl⟩
  obtain ⟨N, hN⟩ : ∃ N, s.length = N := ⟨_, rfl⟩
  have HN := Lib.hid hN
  obtain ⟨W, hW⟩ : ∃ W, ((w.alloc (.cells #[.slice a N ca, .slice b L.length cb] 34)).alloc (.cells #[.bool false, .slice none 0 0, .slice none 0 0] 75)) = W := ⟨_, rfl⟩
  have R0 : Row W G 34 #[.slice a N ca, .slice b L.length cb] := by rw [← hW, ← hG]; exact (Row.new _ _ _).alloc _
  have R1 : Row W (G + 1) 75 #[.bool false, .slice none 0 0, .slice none 0 0] := by rw [← hW, ← hG]; have h := Row.new (w.alloc (.cells #[.slice a N ca, .slice b L.length cb] 34)) 75 #[.bool false, .slice none 0 0, .slice none 0 0]; simp only [World.size_alloc] at h; exact h
  have hBW : Below w.heap.size w W := by rw [← hW]; exact ((Below.refl _ _).alloc (Nat.le_refl _) _).alloc (by simp) _
  have hsW : W.heap.size = G + 1 + 1 := by rw [← hW, ← hG]; simp
  have HXL := Lib.hid hx
  have HLL := Lib.hid hL
  obtain ⟨val, hval⟩ : ∃ x, elV s L xs = x := ⟨_, rfl⟩
  have HVAL := Lib.hid hval
  have H0 := Lib.hid R0
  have H1 := Lib.hid R1
  have HB := Lib.hid hBW
  rw [hval]
  rw [hx, hN]
  rw [hN] at hrk
  obtain ⟨k0, k1, _, _⟩ := R0.two
  clear T X ok hx hL hval hN R0 R1 hBW
  go_enter Tryz.func48, Tryz.ntmps48
  go_wp2_with fail
  (try rw [hW])
  (try rw [hG])
  clear hW k0 k1
  go_loopw [5, 6] (fun nv iv wr => ∃ (k : Nat) (p : Int), iv = .int .i64 (k : Int) ∧ nv = .int .i64 p ∧ k ≤ N ∧ p = placeS (s.take k) (xs.take k) ∧ (∀ j, j < k → 0 ≤ xs.getD j 0 ∧ xs.getD j 0 < s.getD j 0) ∧ Below W.heap.size W wr) (fun _ iv _ => N - (intOf iv).toNat)
  case atStart => exact ⟨0, 0, rfl, rfl, Nat.zero_le _, rfl, (fun j hj => by omega), Below.refl _ _⟩
  case round =>
    obtain ⟨k, p, rfl, rfl, hk, hp, hin, hb⟩ := hrel
    have hbw : Below w.heap.size w wr := HB.out.trans (hb.mono (by omega))
    have hsz := hb.size
    have HP := Lib.hid hp
    have HIN := Lib.hid hin
    clear hp hin
    by_cases hlt : k < N
    · have hks : k < s.length := by rw [HN.out]; exact hlt
      have hkx : k < xs.length := by rw [HXL.out]; exact hks
      obtain ⟨bu, ou, rfl, cu⟩ := (HX.out.later hbw).at (i := k) hkx
      obtain ⟨bs, os, rfl, cs⟩ := (HT.out.sh.later (h00.trans (hbw.mono h00.size))).at (i := k) hks
      have hd1 := HOK.out.pos.getD hks
      have hd2 := getD_le_prod HOK.out.pos hks
      have hd3 := HOK.out.few
      have hpt := place_take HXL.out hks
      have hpr := place_range (inS_take HXL.out (show k ≤ s.length by omega) HIN.out)
      have hpl := prodS_take_le HOK.out.pos k
      rw [← HP.out] at hpt hpr
      obtain ⟨d, hd⟩ : ∃ d, s.getD k 0 = d := ⟨_, rfl⟩
      obtain ⟨x, hx⟩ : ∃ x, xs.getD k 0 = x := ⟨_, rfl⟩
      rw [hd] at cs hd1 hd2 hpt
      rw [hx] at cu hpt
      have HD := Lib.hid hd
      have HXX := Lib.hid hx
      obtain ⟨g0, _, _, _⟩ := (H0.out.later hb).two
      have hltI : (k : Int) < (N : Int) := by omega
      have hp9 : 0 ≤ p ∧ p ≤ 1024 := by omega
      have hd9 : 1 ≤ d ∧ d ≤ 1024 := by omega
      clear hd hx hks hkx hd2 hd3 hpr hpl
      by_cases hneg : x < 0
      · have hno : ¬ inS s xs := fun h => by
          have := (inS_at h (i := k) (by rw [HN.out]; exact hlt)).1
          rw [HXX.out] at this
          omega
        have hv0 : val = intQ 0 := by rw [← HVAL.out, elV_out hno, intQ_zero]
        have hd : decide (x < 0) = true := decide_eq_true hneg
        clear hno hpt
        go_wp2_with fail
        refine wp_region_held (S := fun Y => Y.cell? ⟨bu, ou + k, none⟩ = some (.int .i64 x) ∧ Y.cell? ⟨G, 0, none⟩ = some (.slice (some ⟨bs, os, none⟩) N ca) ∧ Y.cell? ⟨bs, os + k, none⟩ = some (.int .i64 d)) (by kernel_rfl) ?_
        have hHeld := (show wr.drew.cell? ⟨bu, ou + k, none⟩ = some (.int .i64 x) ∧ wr.drew.cell? ⟨G, 0, none⟩ = some (.slice (some ⟨bs, os, none⟩) N ca) ∧ wr.drew.cell? ⟨bs, os + k, none⟩ = some (.int .i64 d) from ⟨cu, g0, cs⟩)
        refine wpAnyH_take (i := 0) (v := ?vq0a0) rfl (by kernel_rfl) (by kernel_rfl) (by kernel_rfl) (fun _ _ _ h => h) (Or.inl ⟨by rfl, ?hq0a0⟩) (by assumption) ?rq0a0
        case hq0a0 =>
          intro w hSw
          try dsimp only at hSw
          go_simp
          try with_reducible rfl
        try simp only [Act.put, List.getElem_toArray, List.getElem_cons_succ, List.getElem_cons_zero, List.setIfInBounds_toArray, List.set_cons_zero, List.set_cons_succ]
        refine wpAnyH_take (i := 1) (v := ?vq0a1) rfl (by kernel_rfl) (by kernel_rfl) (by kernel_rfl) (fun _ _ _ h => h) (Or.inl ⟨by rfl, ?hq0a1⟩) (by assumption) ?rq0a1
        case hq0a1 =>
          intro w hSw
          try dsimp only at hSw
          go_simp
          try with_reducible rfl
        try simp only [Act.put, List.getElem_toArray, List.getElem_cons_succ, List.getElem_cons_zero, List.setIfInBounds_toArray, List.set_cons_zero, List.set_cons_succ]
        refine wpAnyH_take (i := 2) (v := ?vq0a2) rfl (by kernel_rfl) (by kernel_rfl) (by kernel_rfl) (fun _ _ _ h => h) (Or.inl ⟨by rfl, ?hq0a2⟩) (by assumption) ?rq0a2
        case hq0a2 =>
          intro w hSw
          try dsimp only at hSw
          go_simp
          try with_reducible rfl
        try simp only [Act.put, List.getElem_toArray, List.getElem_cons_succ, List.getElem_cons_zero, List.setIfInBounds_toArray, List.set_cons_zero, List.set_cons_succ]
        refine wpAnyH_take (i := 3) (v := ?vq0a3) rfl (by kernel_rfl) (by kernel_rfl) (by kernel_rfl) (fun _ _ _ h => h) (Or.inl ⟨by rfl, ?hq0a3⟩) (by assumption) ?rq0a3
        case hq0a3 =>
          intro w hSw
          try dsimp only at hSw
          go_simp
          try with_reducible rfl
        try simp only [Act.put, List.getElem_toArray, List.getElem_cons_succ, List.getElem_cons_zero, List.setIfInBounds_toArray, List.set_cons_zero, List.set_cons_succ]
        refine wpAnyH_take (i := 4) (v := ?vq0a4) rfl (by kernel_rfl) (by kernel_rfl) (by kernel_rfl) (fun _ _ _ h => h) (Or.inl ⟨by rfl, ?hq0a4⟩) (by assumption) ?rq0a4
        case hq0a4 =>
          intro w hSw
          try dsimp only at hSw
          go_simp
          try with_reducible rfl
        try simp only [Act.put, List.getElem_toArray, List.getElem_cons_succ, List.getElem_cons_zero, List.setIfInBounds_toArray, List.set_cons_zero, List.set_cons_succ]
        refine wpAnyH_take (i := 5) (v := ?vq0a5) rfl (by kernel_rfl) (by kernel_rfl) (by kernel_rfl) (fun _ _ _ h => h) (Or.inl ⟨by rfl, ?hq0a5⟩) (by assumption) ?rq0a5
        case hq0a5 =>
          intro w hSw
          try dsimp only at hSw
          go_simp
          try with_reducible rfl
        try simp only [Act.put, List.getElem_toArray, List.getElem_cons_succ, List.getElem_cons_zero, List.setIfInBounds_toArray, List.set_cons_zero, List.set_cons_succ]
        refine wpAnyH_take (i := 6) (v := undef) rfl (by kernel_rfl) (by kernel_rfl) (by kernel_rfl) (fun _ _ _ h => h) (Or.inr ⟨by rfl, rfl⟩) (by assumption) ?rq0s6
        try simp only [Act.put, List.getElem_toArray, List.getElem_cons_succ, List.getElem_cons_zero, List.setIfInBounds_toArray, List.set_cons_zero, List.set_cons_succ]
        refine wpAnyH_take (i := 7) (v := undef) rfl (by kernel_rfl) (by kernel_rfl) (by kernel_rfl) (fun _ _ _ h => h) (Or.inr ⟨by rfl, rfl⟩) (by assumption) ?rq0s7
        try simp only [Act.put, List.getElem_toArray, List.getElem_cons_succ, List.getElem_cons_zero, List.setIfInBounds_toArray, List.set_cons_zero, List.set_cons_succ]
        refine wpAnyH_take (i := 8) (v := undef) rfl (by kernel_rfl) (by kernel_rfl) (by kernel_rfl) (fun _ _ _ h => h) (Or.inr ⟨by rfl, rfl⟩) (by assumption) ?rq0s8
        try simp only [Act.put, List.getElem_toArray, List.getElem_cons_succ, List.getElem_cons_zero, List.setIfInBounds_toArray, List.set_cons_zero, List.set_cons_succ]
        refine wpAnyH_take (i := 9) (v := undef) rfl (by kernel_rfl) (by kernel_rfl) (by kernel_rfl) (fun _ _ _ h => h) (Or.inr ⟨by rfl, rfl⟩) (by assumption) ?rq0s9
        try simp only [Act.put, List.getElem_toArray, List.getElem_cons_succ, List.getElem_cons_zero, List.setIfInBounds_toArray, List.set_cons_zero, List.set_cons_succ]
        refine wpAnyH_take (i := 10) (v := undef) rfl (by kernel_rfl) (by kernel_rfl) (by kernel_rfl) (fun _ _ _ h => h) (Or.inr ⟨by rfl, rfl⟩) (by assumption) ?rq0s10
        try simp only [Act.put, List.getElem_toArray, List.getElem_cons_succ, List.getElem_cons_zero, List.setIfInBounds_toArray, List.set_cons_zero, List.set_cons_succ]
        refine wpAnyH_take (i := 11) (v := undef) rfl (by kernel_rfl) (by kernel_rfl) (by kernel_rfl) (fun _ _ _ h => h) (Or.inr ⟨by rfl, rfl⟩) (by assumption) ?rq0s11
        try simp only [Act.put, List.getElem_toArray, List.getElem_cons_succ, List.getElem_cons_zero, List.setIfInBounds_toArray, List.set_cons_zero, List.set_cons_succ]
        refine wpAnyH_take (i := 12) (v := undef) rfl (by kernel_rfl) (by kernel_rfl) (by kernel_rfl) (fun _ _ _ h => h) (Or.inr ⟨by rfl, rfl⟩) (by assumption) ?rq0s12
        try simp only [Act.put, List.getElem_toArray, List.getElem_cons_succ, List.getElem_cons_zero, List.setIfInBounds_toArray, List.set_cons_zero, List.set_cons_succ]
        refine wpAnyH_take (i := 13) (v := undef) rfl (by kernel_rfl) (by kernel_rfl) (by kernel_rfl) (fun _ _ _ h => h) (Or.inr ⟨by rfl, rfl⟩) (by assumption) ?rq0s13
        try simp only [Act.put, List.getElem_toArray, List.getElem_cons_succ, List.getElem_cons_zero, List.setIfInBounds_toArray, List.set_cons_zero, List.set_cons_succ]
        refine wpAnyH_take (i := 14) (v := undef) rfl (by kernel_rfl) (by kernel_rfl) (by kernel_rfl) (fun _ _ _ h => h) (Or.inr ⟨by rfl, rfl⟩) (by assumption) ?rq0s14
        try simp only [Act.put, List.getElem_toArray, List.getElem_cons_succ, List.getElem_cons_zero, List.setIfInBounds_toArray, List.set_cons_zero, List.set_cons_succ]
        refine wpAnyH_take (i := 15) (v := undef) rfl (by kernel_rfl) (by kernel_rfl) (by kernel_rfl) (fun _ _ _ h => h) (Or.inr ⟨by rfl, rfl⟩) (by assumption) ?rq0s15
        try simp only [Act.put, List.getElem_toArray, List.getElem_cons_succ, List.getElem_cons_zero, List.setIfInBounds_toArray, List.set_cons_zero, List.set_cons_succ]
        refine wpAnyH_take (i := 16) (v := ?vq0a16) rfl (by kernel_rfl) (by kernel_rfl) (by kernel_rfl) (fun _ _ _ h => h) (Or.inl ⟨by rfl, ?hq0a16⟩) (by assumption) ?rq0a16
        case hq0a16 =>
          intro w hSw
          try dsimp only at hSw
          go_simp
          try with_reducible rfl
        try simp only [Act.put, List.getElem_toArray, List.getElem_cons_succ, List.getElem_cons_zero, List.setIfInBounds_toArray, List.set_cons_zero, List.set_cons_succ]
        refine wpAnyH_done (by kernel_rfl) ?_ _
        go_wp2_with fail
        refine (intRR_any 0 _ (by omega) (by omega)).mono ?_
        rintro e w2 ⟨r, rfl, qv, hb2⟩
        have hbWd : Below W.heap.size W w2 := (hb.drew).trans (hb2.mono hsz)
        have Q2 := Lib.hid qv
        obtain ⟨m5, f1, l1, j1, f2, l2, j2, rfl⟩ := qv.shape
        clear qv
        have P2 := H1.out.later hbWd
        obtain ⟨u0, u1, u2, g0', g1', g2'⟩ := P2.three
        go_wp2_with fail
        have P3 := P2.set3 (.bool m5) (.slice f1 l1 j1) (.slice f2 l2 j2)
        obtain ⟨z0, z1, z2, _, _, _⟩ := P3.three
        refine bodyPost_ret (v := .agg #[.bool m5, .slice f1 l1 j1, .slice f2 l2 j2]) (by simp [results, Tryz.results48, go_sem, z0, z1, z2]) rfl ⟨_, rfl, .inl ?_, below_set3 (HB.out.trans (hbWd.mono (by omega))) (by omega) _ _ _⟩
        rw [hv0]
        exact ((Q2.out.mono (show w.heap.size ≤ wr.heap.size by omega)).more (by omega)).far P2 (by decide) (kept3 _ _ _)
      · have hd : decide (x < 0) = false := decide_eq_false hneg
        by_cases hge : x ≥ d
        · have hno : ¬ inS s xs := fun h => by
            have := (inS_at h (i := k) (by rw [HN.out]; exact hlt)).2
            rw [HXX.out, HD.out] at this
            omega
          have hv0 : val = intQ 0 := by rw [← HVAL.out, elV_out hno, intQ_zero]
          have hd' : decide (x ≥ d) = true := decide_eq_true hge
          clear hno hpt
          go_wp2_with fail
          refine wp_region_held (S := fun Y => Y.cell? ⟨bu, ou + k, none⟩ = some (.int .i64 x) ∧ Y.cell? ⟨G, 0, none⟩ = some (.slice (some ⟨bs, os, none⟩) N ca) ∧ Y.cell? ⟨bs, os + k, none⟩ = some (.int .i64 d)) (by kernel_rfl) ?_
          have hHeld := (show wr.drew.cell? ⟨bu, ou + k, none⟩ = some (.int .i64 x) ∧ wr.drew.cell? ⟨G, 0, none⟩ = some (.slice (some ⟨bs, os, none⟩) N ca) ∧ wr.drew.cell? ⟨bs, os + k, none⟩ = some (.int .i64 d) from ⟨cu, g0, cs⟩)
          refine wpAnyH_take (i := 0) (v := ?vr0a0) rfl (by kernel_rfl) (by kernel_rfl) (by kernel_rfl) (fun _ _ _ h => h) (Or.inl ⟨by rfl, ?hr0a0⟩) (by assumption) ?rr0a0
          case hr0a0 =>
            intro w hSw
            try dsimp only at hSw
            go_simp
            try with_reducible rfl
          try simp only [Act.put, List.getElem_toArray, List.getElem_cons_succ, List.getElem_cons_zero, List.setIfInBounds_toArray, List.set_cons_zero, List.set_cons_succ]
          refine wpAnyH_take (i := 1) (v := ?vr0a1) rfl (by kernel_rfl) (by kernel_rfl) (by kernel_rfl) (fun _ _ _ h => h) (Or.inl ⟨by rfl, ?hr0a1⟩) (by assumption) ?rr0a1
          case hr0a1 =>
            intro w hSw
            try dsimp only at hSw
            go_simp
            try with_reducible rfl
          try simp only [Act.put, List.getElem_toArray, List.getElem_cons_succ, List.getElem_cons_zero, List.setIfInBounds_toArray, List.set_cons_zero, List.set_cons_succ]
          refine wpAnyH_take (i := 2) (v := ?vr0a2) rfl (by kernel_rfl) (by kernel_rfl) (by kernel_rfl) (fun _ _ _ h => h) (Or.inl ⟨by rfl, ?hr0a2⟩) (by assumption) ?rr0a2
          case hr0a2 =>
            intro w hSw
            try dsimp only at hSw
            go_simp
            try with_reducible rfl
          try simp only [Act.put, List.getElem_toArray, List.getElem_cons_succ, List.getElem_cons_zero, List.setIfInBounds_toArray, List.set_cons_zero, List.set_cons_succ]
          refine wpAnyH_take (i := 3) (v := ?vr0a3) rfl (by kernel_rfl) (by kernel_rfl) (by kernel_rfl) (fun _ _ _ h => h) (Or.inl ⟨by rfl, ?hr0a3⟩) (by assumption) ?rr0a3
          case hr0a3 =>
            intro w hSw
            try dsimp only at hSw
            go_simp
            try with_reducible rfl
          try simp only [Act.put, List.getElem_toArray, List.getElem_cons_succ, List.getElem_cons_zero, List.setIfInBounds_toArray, List.set_cons_zero, List.set_cons_succ]
          refine wpAnyH_take (i := 4) (v := ?vr0a4) rfl (by kernel_rfl) (by kernel_rfl) (by kernel_rfl) (fun _ _ _ h => h) (Or.inl ⟨by rfl, ?hr0a4⟩) (by assumption) ?rr0a4
          case hr0a4 =>
            intro w hSw
            try dsimp only at hSw
            go_simp
            try with_reducible rfl
          try simp only [Act.put, List.getElem_toArray, List.getElem_cons_succ, List.getElem_cons_zero, List.setIfInBounds_toArray, List.set_cons_zero, List.set_cons_succ]
          refine wpAnyH_take (i := 5) (v := ?vr0a5) rfl (by kernel_rfl) (by kernel_rfl) (by kernel_rfl) (fun _ _ _ h => h) (Or.inl ⟨by rfl, ?hr0a5⟩) (by assumption) ?rr0a5
          case hr0a5 =>
            intro w hSw
            try dsimp only at hSw
            go_simp
            try with_reducible rfl
          try simp only [Act.put, List.getElem_toArray, List.getElem_cons_succ, List.getElem_cons_zero, List.setIfInBounds_toArray, List.set_cons_zero, List.set_cons_succ]
          refine wpAnyH_take (i := 6) (v := ?vr0a6) rfl (by kernel_rfl) (by kernel_rfl) (by kernel_rfl) (fun _ _ _ h => h) (Or.inl ⟨by rfl, ?hr0a6⟩) (by assumption) ?rr0a6
          case hr0a6 =>
            intro w hSw
            try dsimp only at hSw
            go_simp
            try with_reducible rfl
          try simp only [Act.put, List.getElem_toArray, List.getElem_cons_succ, List.getElem_cons_zero, List.setIfInBounds_toArray, List.set_cons_zero, List.set_cons_succ]
          refine wpAnyH_take (i := 7) (v := ?vr0a7) rfl (by kernel_rfl) (by kernel_rfl) (by kernel_rfl) (fun _ _ _ h => h) (Or.inl ⟨by rfl, ?hr0a7⟩) (by assumption) ?rr0a7
          case hr0a7 =>
            intro w hSw
            try dsimp only at hSw
            go_simp
            try with_reducible rfl
          try simp only [Act.put, List.getElem_toArray, List.getElem_cons_succ, List.getElem_cons_zero, List.setIfInBounds_toArray, List.set_cons_zero, List.set_cons_succ]
          refine wpAnyH_take (i := 8) (v := ?vr0a8) rfl (by kernel_rfl) (by kernel_rfl) (by kernel_rfl) (fun _ _ _ h => h) (Or.inl ⟨by rfl, ?hr0a8⟩) (by assumption) ?rr0a8
          case hr0a8 =>
            intro w hSw
            try dsimp only at hSw
            go_simp
            try with_reducible rfl
          try simp only [Act.put, List.getElem_toArray, List.getElem_cons_succ, List.getElem_cons_zero, List.setIfInBounds_toArray, List.set_cons_zero, List.set_cons_succ]
          refine wpAnyH_take (i := 9) (v := ?vr0a9) rfl (by kernel_rfl) (by kernel_rfl) (by kernel_rfl) (fun _ _ _ h => h) (Or.inl ⟨by rfl, ?hr0a9⟩) (by assumption) ?rr0a9
          case hr0a9 =>
            intro w hSw
            try dsimp only at hSw
            go_simp
            try with_reducible rfl
          try simp only [Act.put, List.getElem_toArray, List.getElem_cons_succ, List.getElem_cons_zero, List.setIfInBounds_toArray, List.set_cons_zero, List.set_cons_succ]
          refine wpAnyH_take (i := 10) (v := ?vr0a10) rfl (by kernel_rfl) (by kernel_rfl) (by kernel_rfl) (fun _ _ _ h => h) (Or.inl ⟨by rfl, ?hr0a10⟩) (by assumption) ?rr0a10
          case hr0a10 =>
            intro w hSw
            try dsimp only at hSw
            go_simp
            try with_reducible rfl
          try simp only [Act.put, List.getElem_toArray, List.getElem_cons_succ, List.getElem_cons_zero, List.setIfInBounds_toArray, List.set_cons_zero, List.set_cons_succ]
          refine wpAnyH_take (i := 11) (v := ?vr0a11) rfl (by kernel_rfl) (by kernel_rfl) (by kernel_rfl) (fun _ _ _ h => h) (Or.inl ⟨by rfl, ?hr0a11⟩) (by assumption) ?rr0a11
          case hr0a11 =>
            intro w hSw
            try dsimp only at hSw
            go_simp
            try with_reducible rfl
          try simp only [Act.put, List.getElem_toArray, List.getElem_cons_succ, List.getElem_cons_zero, List.setIfInBounds_toArray, List.set_cons_zero, List.set_cons_succ]
          refine wpAnyH_take (i := 12) (v := ?vr0a12) rfl (by kernel_rfl) (by kernel_rfl) (by kernel_rfl) (fun _ _ _ h => h) (Or.inl ⟨by rfl, ?hr0a12⟩) (by assumption) ?rr0a12
          case hr0a12 =>
            intro w hSw
            try dsimp only at hSw
            go_simp
            try with_reducible rfl
          try simp only [Act.put, List.getElem_toArray, List.getElem_cons_succ, List.getElem_cons_zero, List.setIfInBounds_toArray, List.set_cons_zero, List.set_cons_succ]
          refine wpAnyH_take (i := 13) (v := ?vr0a13) rfl (by kernel_rfl) (by kernel_rfl) (by kernel_rfl) (fun _ _ _ h => h) (Or.inl ⟨by rfl, ?hr0a13⟩) (by assumption) ?rr0a13
          case hr0a13 =>
            intro w hSw
            try dsimp only at hSw
            go_simp
            try with_reducible rfl
          try simp only [Act.put, List.getElem_toArray, List.getElem_cons_succ, List.getElem_cons_zero, List.setIfInBounds_toArray, List.set_cons_zero, List.set_cons_succ]
          refine wpAnyH_take (i := 14) (v := ?vr0a14) rfl (by kernel_rfl) (by kernel_rfl) (by kernel_rfl) (fun _ _ _ h => h) (Or.inl ⟨by rfl, ?hr0a14⟩) (by assumption) ?rr0a14
          case hr0a14 =>
            intro w hSw
            try dsimp only at hSw
            go_simp
            try with_reducible rfl
          try simp only [Act.put, List.getElem_toArray, List.getElem_cons_succ, List.getElem_cons_zero, List.setIfInBounds_toArray, List.set_cons_zero, List.set_cons_succ]
          refine wpAnyH_take (i := 15) (v := ?vr0a15) rfl (by kernel_rfl) (by kernel_rfl) (by kernel_rfl) (fun _ _ _ h => h) (Or.inl ⟨by rfl, ?hr0a15⟩) (by assumption) ?rr0a15
          case hr0a15 =>
            intro w hSw
            try dsimp only at hSw
            go_simp
            try with_reducible rfl
          try simp only [Act.put, List.getElem_toArray, List.getElem_cons_succ, List.getElem_cons_zero, List.setIfInBounds_toArray, List.set_cons_zero, List.set_cons_succ]
          refine wpAnyH_take (i := 16) (v := ?vr0a16) rfl (by kernel_rfl) (by kernel_rfl) (by kernel_rfl) (fun _ _ _ h => h) (Or.inl ⟨by rfl, ?hr0a16⟩) (by assumption) ?rr0a16
          case hr0a16 =>
            intro w hSw
            try dsimp only at hSw
            go_simp
            try with_reducible rfl
          try simp only [Act.put, List.getElem_toArray, List.getElem_cons_succ, List.getElem_cons_zero, List.setIfInBounds_toArray, List.set_cons_zero, List.set_cons_succ]
          refine wpAnyH_done (by kernel_rfl) ?_ _
          go_wp2_with fail
          refine (intRR_any 0 _ (by omega) (by omega)).mono ?_
          rintro e w2 ⟨r, rfl, qv, hb2⟩
          have hbWd : Below W.heap.size W w2 := (hb.drew).trans (hb2.mono hsz)
          have Q2 := Lib.hid qv
          obtain ⟨m5, f1, l1, j1, f2, l2, j2, rfl⟩ := qv.shape
          clear qv
          have P2 := H1.out.later hbWd
          obtain ⟨u0, u1, u2, g0', g1', g2'⟩ := P2.three
          go_wp2_with fail
          have P3 := P2.set3 (.bool m5) (.slice f1 l1 j1) (.slice f2 l2 j2)
          obtain ⟨z0, z1, z2, _, _, _⟩ := P3.three
          refine bodyPost_ret (v := .agg #[.bool m5, .slice f1 l1 j1, .slice f2 l2 j2]) (by simp [results, Tryz.results48, go_sem, z0, z1, z2]) rfl ⟨_, rfl, .inl ?_, below_set3 (HB.out.trans (hbWd.mono (by omega))) (by omega) _ _ _⟩
          rw [hv0]
          exact ((Q2.out.mono (show w.heap.size ≤ wr.heap.size by omega)).more (by omega)).far P2 (by decide) (kept3 _ _ _)
        · have hd' : decide (x ≥ d) = false := decide_eq_false hge
          obtain ⟨y, hy⟩ : ∃ y, p * d = y := ⟨_, rfl⟩
          have hy1 : 0 ≤ y := by rw [← hy]; exact Int.mul_nonneg hp9.1 (by omega)
          have hy2 : y ≤ 1024 * 1024 := by rw [← hy]; exact Int.mul_le_mul hp9.2 hd9.2 (by omega) (by omega)
          have w1 : IntKind.i64.wrap y = y := wrap_i64 (by omega) (by omega)
          have w2 : IntKind.i64.wrap (y + x) = y + x := wrap_i64 (by omega) (by omega)
          rw [hy] at hpt
          have HPT := Lib.hid hpt
          clear hpt
          go_wp2_with fail
          refine wp_region_held (S := fun Y => Y.cell? ⟨bu, ou + k, none⟩ = some (.int .i64 x) ∧ Y.cell? ⟨G, 0, none⟩ = some (.slice (some ⟨bs, os, none⟩) N ca) ∧ Y.cell? ⟨bs, os + k, none⟩ = some (.int .i64 d)) (by kernel_rfl) ?_
          have hHeld := (show wr.drew.cell? ⟨bu, ou + k, none⟩ = some (.int .i64 x) ∧ wr.drew.cell? ⟨G, 0, none⟩ = some (.slice (some ⟨bs, os, none⟩) N ca) ∧ wr.drew.cell? ⟨bs, os + k, none⟩ = some (.int .i64 d) from ⟨cu, g0, cs⟩)
          refine wpAnyH_take (i := 0) (v := ?vt0a0) rfl (by kernel_rfl) (by kernel_rfl) (by kernel_rfl) (fun _ _ _ h => h) (Or.inl ⟨by rfl, ?ht0a0⟩) (by assumption) ?rt0a0
          case ht0a0 =>
            intro w hSw
            try dsimp only at hSw
            go_simp
            try with_reducible rfl
          try simp only [Act.put, List.getElem_toArray, List.getElem_cons_succ, List.getElem_cons_zero, List.setIfInBounds_toArray, List.set_cons_zero, List.set_cons_succ]
          refine wpAnyH_take (i := 1) (v := ?vt0a1) rfl (by kernel_rfl) (by kernel_rfl) (by kernel_rfl) (fun _ _ _ h => h) (Or.inl ⟨by rfl, ?ht0a1⟩) (by assumption) ?rt0a1
          case ht0a1 =>
            intro w hSw
            try dsimp only at hSw
            go_simp
            try with_reducible rfl
          try simp only [Act.put, List.getElem_toArray, List.getElem_cons_succ, List.getElem_cons_zero, List.setIfInBounds_toArray, List.set_cons_zero, List.set_cons_succ]
          refine wpAnyH_take (i := 2) (v := ?vt0a2) rfl (by kernel_rfl) (by kernel_rfl) (by kernel_rfl) (fun _ _ _ h => h) (Or.inl ⟨by rfl, ?ht0a2⟩) (by assumption) ?rt0a2
          case ht0a2 =>
            intro w hSw
            try dsimp only at hSw
            go_simp
            try with_reducible rfl
          try simp only [Act.put, List.getElem_toArray, List.getElem_cons_succ, List.getElem_cons_zero, List.setIfInBounds_toArray, List.set_cons_zero, List.set_cons_succ]
          refine wpAnyH_take (i := 3) (v := ?vt0a3) rfl (by kernel_rfl) (by kernel_rfl) (by kernel_rfl) (fun _ _ _ h => h) (Or.inl ⟨by rfl, ?ht0a3⟩) (by assumption) ?rt0a3
          case ht0a3 =>
            intro w hSw
            try dsimp only at hSw
            go_simp
            try with_reducible rfl
          try simp only [Act.put, List.getElem_toArray, List.getElem_cons_succ, List.getElem_cons_zero, List.setIfInBounds_toArray, List.set_cons_zero, List.set_cons_succ]
          refine wpAnyH_take (i := 4) (v := ?vt0a4) rfl (by kernel_rfl) (by kernel_rfl) (by kernel_rfl) (fun _ _ _ h => h) (Or.inl ⟨by rfl, ?ht0a4⟩) (by assumption) ?rt0a4
          case ht0a4 =>
            intro w hSw
            try dsimp only at hSw
            go_simp
            try with_reducible rfl
          try simp only [Act.put, List.getElem_toArray, List.getElem_cons_succ, List.getElem_cons_zero, List.setIfInBounds_toArray, List.set_cons_zero, List.set_cons_succ]
          refine wpAnyH_take (i := 5) (v := ?vt0a5) rfl (by kernel_rfl) (by kernel_rfl) (by kernel_rfl) (fun _ _ _ h => h) (Or.inl ⟨by rfl, ?ht0a5⟩) (by assumption) ?rt0a5
          case ht0a5 =>
            intro w hSw
            try dsimp only at hSw
            go_simp
            try with_reducible rfl
          try simp only [Act.put, List.getElem_toArray, List.getElem_cons_succ, List.getElem_cons_zero, List.setIfInBounds_toArray, List.set_cons_zero, List.set_cons_succ]
          refine wpAnyH_take (i := 6) (v := ?vt0a6) rfl (by kernel_rfl) (by kernel_rfl) (by kernel_rfl) (fun _ _ _ h => h) (Or.inl ⟨by rfl, ?ht0a6⟩) (by assumption) ?rt0a6
          case ht0a6 =>
            intro w hSw
            try dsimp only at hSw
            go_simp
            try with_reducible rfl
          try simp only [Act.put, List.getElem_toArray, List.getElem_cons_succ, List.getElem_cons_zero, List.setIfInBounds_toArray, List.set_cons_zero, List.set_cons_succ]
          refine wpAnyH_take (i := 7) (v := ?vt0a7) rfl (by kernel_rfl) (by kernel_rfl) (by kernel_rfl) (fun _ _ _ h => h) (Or.inl ⟨by rfl, ?ht0a7⟩) (by assumption) ?rt0a7
          case ht0a7 =>
            intro w hSw
            try dsimp only at hSw
            go_simp
            try with_reducible rfl
          try simp only [Act.put, List.getElem_toArray, List.getElem_cons_succ, List.getElem_cons_zero, List.setIfInBounds_toArray, List.set_cons_zero, List.set_cons_succ]
          refine wpAnyH_take (i := 8) (v := ?vt0a8) rfl (by kernel_rfl) (by kernel_rfl) (by kernel_rfl) (fun _ _ _ h => h) (Or.inl ⟨by rfl, ?ht0a8⟩) (by assumption) ?rt0a8
          case ht0a8 =>
            intro w hSw
            try dsimp only at hSw
            go_simp
            try with_reducible rfl
          try simp only [Act.put, List.getElem_toArray, List.getElem_cons_succ, List.getElem_cons_zero, List.setIfInBounds_toArray, List.set_cons_zero, List.set_cons_succ]
          refine wpAnyH_take (i := 9) (v := ?vt0a9) rfl (by kernel_rfl) (by kernel_rfl) (by kernel_rfl) (fun _ _ _ h => h) (Or.inl ⟨by rfl, ?ht0a9⟩) (by assumption) ?rt0a9
          case ht0a9 =>
            intro w hSw
            try dsimp only at hSw
            go_simp
            try with_reducible rfl
          try simp only [Act.put, List.getElem_toArray, List.getElem_cons_succ, List.getElem_cons_zero, List.setIfInBounds_toArray, List.set_cons_zero, List.set_cons_succ]
          refine wpAnyH_take (i := 10) (v := ?vt0a10) rfl (by kernel_rfl) (by kernel_rfl) (by kernel_rfl) (fun _ _ _ h => h) (Or.inl ⟨by rfl, ?ht0a10⟩) (by assumption) ?rt0a10
          case ht0a10 =>
            intro w hSw
            try dsimp only at hSw
            go_simp
            try with_reducible rfl
          try simp only [Act.put, List.getElem_toArray, List.getElem_cons_succ, List.getElem_cons_zero, List.setIfInBounds_toArray, List.set_cons_zero, List.set_cons_succ]
          refine wpAnyH_take (i := 11) (v := ?vt0a11) rfl (by kernel_rfl) (by kernel_rfl) (by kernel_rfl) (fun _ _ _ h => h) (Or.inl ⟨by rfl, ?ht0a11⟩) (by assumption) ?rt0a11
          case ht0a11 =>
            intro w hSw
            try dsimp only at hSw
            go_simp
            try with_reducible rfl
          try simp only [Act.put, List.getElem_toArray, List.getElem_cons_succ, List.getElem_cons_zero, List.setIfInBounds_toArray, List.set_cons_zero, List.set_cons_succ]
          refine wpAnyH_take (i := 12) (v := ?vt0a12) rfl (by kernel_rfl) (by kernel_rfl) (by kernel_rfl) (fun _ _ _ h => h) (Or.inl ⟨by rfl, ?ht0a12⟩) (by assumption) ?rt0a12
          case ht0a12 =>
            intro w hSw
            try dsimp only at hSw
            go_simp
            try with_reducible rfl
          try simp only [Act.put, List.getElem_toArray, List.getElem_cons_succ, List.getElem_cons_zero, List.setIfInBounds_toArray, List.set_cons_zero, List.set_cons_succ]
          refine wpAnyH_take (i := 13) (v := ?vt0a13) rfl (by kernel_rfl) (by kernel_rfl) (by kernel_rfl) (fun _ _ _ h => h) (Or.inl ⟨by rfl, ?ht0a13⟩) (by assumption) ?rt0a13
          case ht0a13 =>
            intro w hSw
            try dsimp only at hSw
            go_simp
            try with_reducible rfl
          try simp only [Act.put, List.getElem_toArray, List.getElem_cons_succ, List.getElem_cons_zero, List.setIfInBounds_toArray, List.set_cons_zero, List.set_cons_succ]
          refine wpAnyH_take (i := 14) (v := ?vt0a14) rfl (by kernel_rfl) (by kernel_rfl) (by kernel_rfl) (fun _ _ _ h => h) (Or.inl ⟨by rfl, ?ht0a14⟩) (by assumption) ?rt0a14
          case ht0a14 =>
            intro w hSw
            try dsimp only at hSw
            go_simp
            try with_reducible rfl
          try simp only [Act.put, List.getElem_toArray, List.getElem_cons_succ, List.getElem_cons_zero, List.setIfInBounds_toArray, List.set_cons_zero, List.set_cons_succ]
          refine wpAnyH_take (i := 15) (v := ?vt0a15) rfl (by kernel_rfl) (by kernel_rfl) (by kernel_rfl) (fun _ _ _ h => h) (Or.inl ⟨by rfl, ?ht0a15⟩) (by assumption) ?rt0a15
          case ht0a15 =>
            intro w hSw
            try dsimp only at hSw
            go_simp
            try with_reducible rfl
          try simp only [Act.put, List.getElem_toArray, List.getElem_cons_succ, List.getElem_cons_zero, List.setIfInBounds_toArray, List.set_cons_zero, List.set_cons_succ]
          refine wpAnyH_take (i := 16) (v := ?vt0a16) rfl (by kernel_rfl) (by kernel_rfl) (by kernel_rfl) (fun _ _ _ h => h) (Or.inl ⟨by rfl, ?ht0a16⟩) (by assumption) ?rt0a16
          case ht0a16 =>
            intro w hSw
            try dsimp only at hSw
            go_simp
            try with_reducible rfl
          try simp only [Act.put, List.getElem_toArray, List.getElem_cons_succ, List.getElem_cons_zero, List.setIfInBounds_toArray, List.set_cons_zero, List.set_cons_succ]
          refine wpAnyH_done (by kernel_rfl) ?_ _
          go_wp2_with fail
          refine wp_region_held (S := fun Y => Y.cell? ⟨G, 0, none⟩ = some (.slice (some ⟨bs, os, none⟩) N ca) ∧ Y.cell? ⟨bs, os + k, none⟩ = some (.int .i64 d) ∧ Y.cell? ⟨bu, ou + k, none⟩ = some (.int .i64 x)) (by kernel_rfl) ?_
          have hHeld := (show wr.drew.drew.cell? ⟨G, 0, none⟩ = some (.slice (some ⟨bs, os, none⟩) N ca) ∧ wr.drew.drew.cell? ⟨bs, os + k, none⟩ = some (.int .i64 d) ∧ wr.drew.drew.cell? ⟨bu, ou + k, none⟩ = some (.int .i64 x) from ⟨g0, cs, cu⟩)
          refine wpAnyH_take (i := 0) (v := ?vz0a0) rfl (by kernel_rfl) (by kernel_rfl) (by kernel_rfl) (fun _ _ _ h => h) (Or.inl ⟨by rfl, ?hz0a0⟩) (by assumption) ?rz0a0
          case hz0a0 =>
            intro w hSw
            try dsimp only at hSw
            go_simp
            try with_reducible rfl
          try simp only [Act.put, List.setIfInBounds_toArray, List.set_cons_zero, List.set_cons_succ]
          refine wpAnyH_take (i := 1) (v := ?vz0a1) rfl (by kernel_rfl) (by kernel_rfl) (by kernel_rfl) (fun _ _ _ h => h) (Or.inl ⟨by rfl, ?hz0a1⟩) (by assumption) ?rz0a1
          case hz0a1 =>
            intro w hSw
            try dsimp only at hSw
            go_simp
            try with_reducible rfl
          try simp only [Act.put, List.setIfInBounds_toArray, List.set_cons_zero, List.set_cons_succ]
          refine wpAnyH_take (i := 2) (v := ?vz0a2) rfl (by kernel_rfl) (by kernel_rfl) (by kernel_rfl) (fun _ _ _ h => h) (Or.inl ⟨by rfl, ?hz0a2⟩) (by assumption) ?rz0a2
          case hz0a2 =>
            intro w hSw
            try dsimp only at hSw
            go_simp
            try with_reducible rfl
          try simp only [Act.put, List.setIfInBounds_toArray, List.set_cons_zero, List.set_cons_succ]
          refine wpAnyH_take (i := 3) (v := ?vz0a3) rfl (by kernel_rfl) (by kernel_rfl) (by kernel_rfl) (fun _ _ _ h => h) (Or.inl ⟨by rfl, ?hz0a3⟩) (by assumption) ?rz0a3
          case hz0a3 =>
            intro w hSw
            try dsimp only at hSw
            go_simp
            try with_reducible rfl
          try simp only [Act.put, List.setIfInBounds_toArray, List.set_cons_zero, List.set_cons_succ]
          refine wpAnyH_take (i := 4) (v := ?vz0a4) rfl (by kernel_rfl) (by kernel_rfl) (by kernel_rfl) (fun _ _ _ h => h) (Or.inl ⟨by rfl, ?hz0a4⟩) (by assumption) ?rz0a4
          case hz0a4 =>
            intro w hSw
            try dsimp only at hSw
            go_simp
            try with_reducible rfl
          try simp only [Act.put, List.setIfInBounds_toArray, List.set_cons_zero, List.set_cons_succ]
          refine wpAnyH_take (i := 5) (v := ?vz0a5) rfl (by kernel_rfl) (by kernel_rfl) (by kernel_rfl) (fun _ _ _ h => h) (Or.inl ⟨by rfl, ?hz0a5⟩) (by assumption) ?rz0a5
          case hz0a5 =>
            intro w hSw
            try dsimp only at hSw
            go_simp
            try with_reducible rfl
          try simp only [Act.put, List.setIfInBounds_toArray, List.set_cons_zero, List.set_cons_succ]
          refine wpAnyH_take (i := 6) (v := ?vz0a6) rfl (by kernel_rfl) (by kernel_rfl) (by kernel_rfl) (fun _ _ _ h => h) (Or.inl ⟨by rfl, ?hz0a6⟩) (by assumption) ?rz0a6
          case hz0a6 =>
            intro w hSw
            try dsimp only at hSw
            go_simp
            try with_reducible rfl
          try simp only [Act.put, List.setIfInBounds_toArray, List.set_cons_zero, List.set_cons_succ]
          refine wpAnyH_take (i := 7) (v := ?vz0a7) rfl (by kernel_rfl) (by kernel_rfl) (by kernel_rfl) (fun _ _ _ h => h) (Or.inl ⟨by rfl, ?hz0a7⟩) (by assumption) ?rz0a7
          case hz0a7 =>
            intro w hSw
            try dsimp only at hSw
            go_simp
            try with_reducible rfl
          try simp only [Act.put, List.setIfInBounds_toArray, List.set_cons_zero, List.set_cons_succ]
          refine wpAnyH_take (i := 8) (v := ?vz0a8) rfl (by kernel_rfl) (by kernel_rfl) (by kernel_rfl) (fun _ _ _ h => h) (Or.inl ⟨by rfl, ?hz0a8⟩) (by assumption) ?rz0a8
          case hz0a8 =>
            intro w hSw
            try dsimp only at hSw
            go_simp
            try with_reducible rfl
          try simp only [Act.put, List.setIfInBounds_toArray, List.set_cons_zero, List.set_cons_succ]
          refine wpAnyH_take (i := 9) (v := ?vz0a9) rfl (by kernel_rfl) (by kernel_rfl) (by kernel_rfl) (fun _ _ _ h => h) (Or.inl ⟨by rfl, ?hz0a9⟩) (by assumption) ?rz0a9
          case hz0a9 =>
            intro w hSw
            try dsimp only at hSw
            go_simp
            try with_reducible rfl
          try simp only [Act.put, List.setIfInBounds_toArray, List.set_cons_zero, List.set_cons_succ]
          refine wpAnyH_take (i := 10) (v := ?vz0a10) rfl (by kernel_rfl) (by kernel_rfl) (by kernel_rfl) (fun _ _ _ h => h) (Or.inl ⟨by rfl, ?hz0a10⟩) (by assumption) ?rz0a10
          case hz0a10 =>
            intro w hSw
            try dsimp only at hSw
            go_simp
            try with_reducible rfl
          try simp only [Act.put, List.setIfInBounds_toArray, List.set_cons_zero, List.set_cons_succ]
          refine wpAnyH_take (i := 11) (v := ?vz0a11) rfl (by kernel_rfl) (by kernel_rfl) (by kernel_rfl) (fun _ _ _ h => h) (Or.inl ⟨by rfl, ?hz0a11⟩) (by assumption) ?rz0a11
          case hz0a11 =>
            intro w hSw
            try dsimp only at hSw
            go_simp
            try with_reducible rfl
          try simp only [Act.put, List.setIfInBounds_toArray, List.set_cons_zero, List.set_cons_succ]
          refine wpAnyH_ready (rs := [12]) (by kernel_rfl) (by simp) ?_
          refine AllReadyH.cons rfl (fun K hK => ?sas) AllReadyH.nil
          go_simp
          refine hK.out _ _ ?kas (fun hHeld => ?mas)
          case kas =>
            try dsimp only
            exact ⟨g0, cs, cu⟩
          clear hK K
          try simp only [Act.put, List.setIfInBounds_toArray, List.set_cons_zero, List.set_cons_succ]
          refine wpAnyH_done (by kernel_rfl) ?_ _
          go_wp2_with fail
          go_roundw
          case rel =>
            refine ⟨k + 1, y + x, by go_num, rfl, by omega, HPT.out.symm, fun j hj => ?_, hb.drew.drew⟩
            by_cases e : j = k
            · subst e
              rw [HXX.out, HD.out]
              omega
            · exact HIN.out j (by omega)
          case measure => simp [intOf]; omega
    · obtain rfl : k = N := by omega
      have hltI : ¬ (k : Int) < (k : Int) := by omega
      have hins : inS s xs := inS_of HXL.out fun i hi => HIN.out i (by rw [← HN.out]; exact hi)
      have hpe : p = placeS s xs := by rw [HP.out, ← HN.out, List.take_length, ← HXL.out, List.take_length]
      obtain ⟨q0, q1⟩ := place_range hins
      obtain ⟨j, hj⟩ : ∃ j : Nat, p = (j : Int) := ⟨p.toNat, by omega⟩
      subst hj
      have hjl : j < L.length := by have := HLL.out; omega
      obtain ⟨bb, ob, e0, e1, e2, q, hbo, hqk, c0, c1, c2, hraw⟩ := HT.out.el.at hjl
      have hv : val = q := by
        rw [← HVAL.out, elV_in hins, ← hpe, show ((j : Int)).toNat = j by omega, List.getD_eq_getElem?_getD, hqk]
        rfl
      subst hv
      have c0' := ((h00.trans (hbw.mono h00.size)).cell (World.block_lt_of_cell? _ _ c0)).trans c0
      have c1' := ((h00.trans (hbw.mono h00.size)).cell (World.block_lt_of_cell? _ _ c1)).trans c1
      have c2' := ((h00.trans (hbw.mono h00.size)).cell (World.block_lt_of_cell? _ _ c2)).trans c2
      subst hbo
      have HRAW := Lib.hid hraw
      obtain ⟨m5, f1, l1, j1, f2, l2, j2, he⟩ := hraw.shape
      simp only [Value.agg.injEq, Array.mk.injEq, List.cons.injEq, and_true] at he
      obtain ⟨rfl, rfl, rfl⟩ := he
      obtain ⟨_, y1, _, _⟩ := (H0.out.later hb).two
      have P2 := H1.out.later hb
      obtain ⟨u0, u1, u2, g0', g1', g2'⟩ := P2.three
      have hjI : (j : Int) < (L.length : Int) := by omega
      have hb' : Below G w wr := by rw [← hG]; exact hbw
      clear hins hpe q0 q1 hqk c0 c1 c2 hraw
      go_wp2_with fail
      have P3 := P2.set3 (.bool m5) (.slice f1 l1 j1) (.slice f2 l2 j2)
      obtain ⟨z0, z1, z2, _, _, _⟩ := P3.three
      refine bodyPost_ret (v := .agg #[.bool m5, .slice f1 l1 j1, .slice f2 l2 j2]) (by simp [results, Tryz.results48, go_sem, z0, z1, z2]) rfl ⟨_, rfl, .inr HRAW.out, below_set3 hb' (by omega) _ _ _⟩
end
end Go.Proofs.YtooglnhlhgmhdaaGreat
