/-
  Package tensor as it landed: At.
-/
import Derived.Test.YtooglnhlhgmhdaaGreatZ1
import Derived.Test.YtooglnhlhgmhdaaGreatZ2
import Derived.Test.YtooglnhlhgmhdaaGreatZ3
import Derived.Test.YtooglnhlhgmhdaaGreatZ5
import Derived.Test.YtooglnhlhgmhdaaGreatZ7
import Derived.Test.YtooglnhlhgmhdaaGreatZ10
import Derived.Test.YtooglnhlhgmhdaaGreatZ11
import Derived.Test.YtooglnhlhgmhdaaGreatZ12
import Derived.Test.YtooglnhlhgmhdaaGreatZ13
import Derived.Test.YtooglnhlhgmhdaaGreatZ14
import Derived.Test.YtooglnhlhgmhdaaGreatZ15
import Derived.Test.YtooglnhlhgmhdaaGreatZ16
import Derived.Test.YtooglnhlhgmhdaaGreatZ17
import Derived.WalkKit
import Derived.Test.YtooglnhlhgmhdaaGreatRows
import Derived.BigQuiet
import Derived.Deep.QuietTactic
import Derived.Lib.Hide
import Derived.Lib.Small
import Derived.Lib.Walk
import Derived.Lib.BitFns
import Derived.Maps.AppendAt
import Derived.RangeFuncNested
import Derived.RangeFuncBound
import Derived.RangeFuncCalls
import Derived.RangeFuncLeaves
import Derived.Shelf.Abstract
import Derived.OwnWalkIn
import Derived.TacticsInMore
import Derived.LoopNIn
import Derived.LoopIn
import Derived.RangeFuncBox
import Derived.Deep.RegionHeld3
import Derived.OrdersIn
import Derived.StillTailTactics
import Derived.RangeFuncFrom
import Derived.Laws.EntriesVeiled
import Derived.ProofKit
import Derived.OpenShut
import Derived.JoinedCond
import Derived.Carry
import Derived.Laws.AppendOwnNone
import Derived.Lib.ItoaNum
import Derived.Deep.RegionLaw
import Derived.WalkMore
import Derived.Lib.SmallJoins
import Derived.IntWalk
import Derived.Deep.DeepCutAuto
import Derived.Laws.OwnMore
import Derived.OrdersHeld
import Derived.Deep.RegionHeld
import Derived.ArgAppend
import Derived.Deep.Slices
import Derived.Laws.CopyOwn
import Derived.Lib.SliceRun
namespace Go.Proofs.YtooglnhlhgmhdaaGreat
set_option maxRecDepth 100000
section
open Go.RowKit
set_option linter.unusedVariables false
set_option linter.unusedSimpArgs false
set_option maxRecDepth 100000 in
set_option maxHeartbeats 4000000 in
theorem ofT_any {n : Nat} {w : World} {v : Value} {s : List Int} {qs : List Q3} {a b : Option Addr} {ca cb : Nat} (T : TensQ w v s qs a ca b cb) (hs : s.length ≤ 17592186044416) (hq : qs.length ≤ 1000000000)
    (hl : ∀ q ∈ qs, q.num.length ≤ n ∧ q.den.length ≤ n) (hn : n ≤ 134217728) :
    Calls Tryz.prog 50 #[v] w fun e w' => ∃ (a' b' : Option Addr) (ca' cb' : Nat), e = .returned (.agg #[.slice a' s.length ca', .slice b' qs.length cb']) ∧ ResS w.heap.size w' (.slice a' s.length ca') s ∧
      RowO w.heap.size 75 (fun W v x => ResR w.heap.size W v x (5 * n + 1)) w' (.slice b' qs.length cb') (qs.map Q3.rat) ∧ Below w.heap.size w w' := by
  obtain ⟨i0, hi, hz0, hz1, hz2⟩ := info_parts infoR
  have HT := Lib.hid T
  obtain rfl := T.is
  obtain ⟨W, hW⟩ : ∃ W, ((w.alloc (.cells #[.slice a s.length ca, .slice b qs.length cb] 26)).alloc (.cells #[.slice none 0 0, .slice none 0 0] 34)) = W := ⟨_, rfl⟩
  have R0 : Row W w.heap.size 26 #[.slice a s.length ca, .slice b qs.length cb] := by rw [← hW]; exact (Row.new _ _ _).alloc _
  have R1 : Row W (w.heap.size + 1) 34 #[.slice none 0 0, .slice none 0 0] := by rw [← hW]; have h := (Row.new (w.alloc (.cells #[.slice a s.length ca, .slice b qs.length cb] 26)) 34 #[.slice none 0 0, .slice none 0 0]); simp only [World.size_alloc] at h; exact h
  have hBW : Below w.heap.size w W := by rw [← hW]; exact ((Below.refl _ _).alloc (by simp) _).alloc (by simp) _
  have hsW : w.heap.size + 1 + 1 ≤ W.heap.size := by rw [← hW]; simp
  have AW := HT.out.sh.later hBW
  have nA := HT.out.nila
  have NA := Lib.hid nA
  obtain ⟨p0, p1, _, _⟩ := R0.two
  clear T nA
  go_enter Tryz.func50, Tryz.ntmps50
  go_wp2_with (at_builtin; refine step_copyT rfl _ 22 23 Tryz.underlying22 Tryz.underlying23 rfl rfl AW NA.out hs ?_; intro ro w3 R3 hb3; obtain ⟨a3, c3, rfl, R3', A3, n3⟩ := R3.slice)
  have hs3 := hb3.size
  have hB3 : Below w.heap.size w w3 := hBW.trans (hb3.mono (by omega))
  have hB4 : Below w.heap.size w (w3.alloc (.cells #[.slice a3 s.length c3, .slice none 0 0] 34)) := hB3.alloc (by omega) _
  have r0 := (R0.later hb3).alloc (.cells #[.slice a3 s.length c3, .slice none 0 0] 34)
  have r1 := (R1.later hb3).alloc (.cells #[.slice a3 s.length c3, .slice none 0 0] 34)
  have r2 := Row.new w3 34 #[.slice a3 s.length c3, .slice none 0 0]
  have r3 : ResS w.heap.size (w3.alloc (.cells #[.slice a3 s.length c3, .slice none 0 0] 34)) (.slice a3 s.length c3) s := (R3'.mono (by omega)).later ((Below.refl _ _).alloc (Nat.le_refl _) _)
  obtain ⟨g, hg⟩ : ∃ g, w3.heap.size = g := ⟨_, rfl⟩
  have hg2 : w.heap.size + 1 + 1 ≤ g := by omega
  rw [hg] at r2 ⊢
  generalize w3.alloc (.cells #[.slice a3 s.length c3, .slice none 0 0] 34) = W4 at *
  have H0 := Lib.hid r0
  have H1 := Lib.hid r1
  have H2 := Lib.hid r2
  have H3 := Lib.hid r3
  have HB4 := Lib.hid hB4
  clear r0 r1 r2 r3 hB4 hB3 hb3 hs3 R3 R3' A3 R0 R1 hBW AW p0 p1 hsW hg hW
  go_loopw [4] (fun i wr => ∃ (k : Nat) (v : Value), i = .int .i64 (k : Int) ∧ k ≤ qs.length ∧ Row wr w.heap.size 26 #[.slice a s.length ca, .slice b qs.length cb] ∧ Row wr (w.heap.size + 1) 34 #[.slice none 0 0, .slice none 0 0] ∧
    Row wr g 34 #[.slice a3 s.length c3, v] ∧ ResS w.heap.size wr (.slice a3 s.length c3) s ∧ RowO w.heap.size 75 (fun W v x => ResR w.heap.size W v x (5 * n + 1)) wr v ((qs.take k).map Q3.rat) ∧ Below w.heap.size w wr) (fun i _ => qs.length - (intOf i).toNat)
  case atStart => exact ⟨0, _, rfl, Nat.zero_le _, H0.out, H1.out, H2.out, H3.out, RowO.nil _ _ _ _, HB4.out⟩
  case round =>
    obtain ⟨k, v, rfl, hk, r0, r1, r2, r3, ⟨es, hown, hall⟩, hb⟩ := hrel
    have hsz := hb.size
    have c01 := r0.cell 1
    have c21 := r2.cell 1
    have hle : es.length = k := by rw [hall.1]; simp [hk]
    by_cases hlt : k < qs.length
    · obtain ⟨bb, o, x0, x1, x2, q, hbo, hqk, e0, e1, e2, hraw⟩ := (HT.out.el.later hb (fun v x _ k => k.later hb)).at hlt
      have hmem := List.mem_of_getElem? hqk
      have hb0 : bb < w.heap.size := HT.out.el.low (by intro h; rw [h] at hlt; simp at hlt) hbo
      subst hbo
      have hcall := hraw.arg (hl q hmem).1 (hl q hmem).2
      obtain ⟨r, hrv, hrb, hrne⟩ := hown.hits hsz
      have n0 := hrne _ _ _ r0 (by decide)
      have n2 := hrne _ _ _ r2 (by decide)
      have n1 := hrne _ _ _ r1 (by decide)
      have mkS : ∀ X, Kept r wr X → X.cell? ⟨g, 1, none⟩ = some v ∧ X.cell? ⟨w.heap.size, 1, none⟩ = some (.slice (some ⟨bb, o, none⟩) qs.length cb) ∧ X.cell? ⟨bb, o + k * 3, none⟩ = some x0 ∧ X.cell? ⟨bb, o + k * 3 + 1, none⟩ = some x1 ∧ X.cell? ⟨bb, o + k * 3 + 2, none⟩ = some x2 ∧ Kept r wr X := fun X h =>
        ⟨h.cell c21 n2, h.cell c01 n0, h.cell e0 (by show bb ≠ r; omega), h.cell e1 (by show bb ≠ r; omega), h.cell e2 (by show bb ≠ r; omega), h⟩
      have hltI : (k : Int) < (qs.length : Int) := by omega
      have hS0 := mkS wr.drew ((Kept.refl r wr).drew)
      go_wp2_with fail
      refine wp_region_L (S := fun X => X.cell? ⟨g, 1, none⟩ = some v ∧ X.cell? ⟨w.heap.size, 1, none⟩ = some (.slice (some ⟨bb, o, none⟩) qs.length cb) ∧ X.cell? ⟨bb, o + k * 3, none⟩ = some x0 ∧ X.cell? ⟨bb, o + k * 3 + 1, none⟩ = some x1 ∧ X.cell? ⟨bb, o + k * 3 + 2, none⟩ = some x2 ∧ Kept r wr X) (z := 11) (by kernel_rfl) hS0 (fun hHeld => ?_)
      refine todo [0, 1, 2, 3, 4, 5, 6] ?_
      iterate 7
       refine todoL (v := ?_) rfl (by kernel_rfl) (fun _ _ _ h => h) (by assumption) (Or.inl ⟨by rfl, ?_⟩) ?_
       rotate_left
       · intro w hSw; (try dsimp only at hSw); go_simp; (try with_reducible rfl)
       try simp only [Act.put, List.getElem_toArray, List.getElem_cons_succ, List.getElem_cons_zero, List.setIfInBounds_toArray, List.set_cons_zero, List.set_cons_succ]
      refine todone ?_
      refine wpAnyL_one (i := 7) (by kernel_rfl) rfl (fun K hK => ?sb7)
      go_simp
      refine (ofRR_any (hcall.later (show Below wr.heap.size wr wr.drew from (Below.refl _ _).drew)) (by omega)).mono ?_
      rintro e w5 ⟨rv, rfl, qv, hb5⟩
      have Q5 := Lib.hid qv
      obtain ⟨m5, f1, l1, j1, f2, l2, j2, rfl⟩ := qv.shape
      clear qv
      go_simp
      have hB5 : Below w.heap.size w w5 := (hb.drew).trans (hb5.mono hsz)
      have hk5 : Kept r wr w5 := ((Kept.refl r wr).drew).below hb5
      refine hK.out _ _ (fun _ => mkS _ hk5) (fun hHeld2 => ?mb7)
      clear hK K hHeld
      have hHeld := hHeld2 (by decide)
      clear hHeld2
      try simp only [Act.put, List.setIfInBounds_toArray, List.set_cons_zero, List.set_cons_succ]
      refine wpAnyL_one (i := 8) (by kernel_rfl) rfl (fun K hK => ?sb8)
      go_simp
      refine hK.out _ _ (fun _ => mkS _ (hk5.alloc _)) (fun hHeld2 => ?mb8)
      clear hK K hHeld
      have hHeld := hHeld2 (by decide)
      clear hHeld2
      try simp only [Act.put, List.setIfInBounds_toArray, List.set_cons_zero, List.set_cons_succ]
      refine wpAnyL_one (i := 9) (by kernel_rfl) rfl (fun K hK => ?sb9)
      have hb5w : Below wr.heap.size wr w5 := (Below.refl _ wr).drew.trans hb5
      have hown5 : OwnE w.heap.size 75 w5 v es := hown.later hb5w
      have hall5 : AllE (fun v x => ResR w.heap.size w5 v x (5 * n + 1)) es ((qs.take k).map Q3.rat) := hall.imp fun u x _ h => h.later hb5w
      have hsz5 := hB5.size
      refine step_append_ownT rfl _ _ 32 rfl w.heap.size 75 i0 _ 3 56 Tryz.underlying32 hi hz0 hz1 hz2 rfl (by decide) _ es.length (flat3 es) rfl (hown5.later ((Below.refl _ _).alloc (Nat.le_refl _) _)) ⟨w5.heap.size, 0, none⟩ 1 1 [.bool m5, .slice f1 l1 j1, .slice f2 l2 j2] rfl rfl (cell_three_new _ _ _ _ _) (by simp [Value.oneCell']) (by unfold maxLen; omega) (by omega) (by simp; omega) ?_
      intro v' w6 hown' hgrow _
      obtain ⟨av, cv, rfl⟩ := ownT_slice hown'
      have hk6 : Kept r wr w6 := (hk5.alloc _).grown hgrow hrv
      refine hK.out _ _ (fun _ => mkS _ hk6) (fun hHeld2 => ?mb9)
      clear hK K hHeld
      have hHeld := hHeld2 (by decide)
      clear hHeld2
      try simp only [Act.put, List.setIfInBounds_toArray, List.set_cons_zero, List.set_cons_succ]
      refine wpAnyL_take (i := 10) (v := ?va10) rfl (by kernel_rfl) (by kernel_rfl) (by kernel_rfl) (by kernel_rfl) (fun _ _ _ h => h) (Or.inl ⟨by rfl, ?ha10⟩) (by assumption) ?ra10
      case ha10 =>
        intro w hSw
        try dsimp only at hSw
        go_simp
        try with_reducible rfl
      try simp only [Act.put, List.setIfInBounds_toArray, List.set_cons_zero, List.set_cons_succ]
      have R26 := r2.kept hk6 n2
      have f21 := R26.free 1
      have d21 := R26.cell 1
      refine wpAnyL_one (i := 11) (by kernel_rfl) rfl (fun K hK => ?sb11)
      go_simp
      refine hK.out _ _ (fun h => absurd rfl h) (fun _ => ?mb11)
      clear hK K
      try simp only [Act.put, List.setIfInBounds_toArray, List.set_cons_zero, List.set_cons_succ]
      refine wpAnyL_done (by kernel_rfl) ?_ _
      go_wp2
      go_roundw
      case rel =>
        have hx5 : ResR w.heap.size w5 (E3.agg ⟨.bool m5, .slice f1 l1 j1, .slice f2 l2 j2⟩) q.rat (5 * n + 1) := Q5.out.mono (by show w.heap.size ≤ wr.heap.size; exact hsz)
        obtain ⟨hrow6, hb6⟩ := pushE (P := fun W v x => ResR w.heap.size W v x (5 * n + 1)) (e := ⟨.bool m5, .slice f1 l1 j1, .slice f2 l2 j2⟩) hB5 hsz5 hown5 hall5 hx5 (fun u y h => ResR.apart hown5 hgrow (by decide) h) hown' hgrow
        rw [hle] at hrow6
        have r06 := r0.kept hk6 n0
        have r16 := r1.kept hk6 n1
        have r36 : ResS w.heap.size w6 (.slice a3 s.length c3) s := ResS.apart hown5 hgrow (by decide) (r3.later hb5w)
        refine ⟨k + 1, _, by go_num, by omega, r06.far (by show w.heap.size ≠ g; omega) _, r16.far (by show w.heap.size + 1 ≠ g; omega) _, R26.set21 _, r36.far R26 (by decide) (kept1 _), ?_, hb6.setCell (by show w.heap.size ≤ g; omega) _⟩
        rw [take_mapQ hqk]
        exact hrow6.far R26 (by decide) (kept1 _) (fun u y h => h.far R26 (by decide) (kept1 _))
      case measure => simp [intOf]; omega
    · obtain rfl : k = qs.length := by omega
      have hltI : ¬ (qs.length : Int) < (qs.length : Int) := by omega
      rw [List.take_length] at hall
      obtain ⟨av, cv, rfl⟩ := ownT_slice hown
      have hel : es.length = qs.length := hle
      rw [hel] at r2 hown
      have c20 := r2.cell 0
      have d21 := r2.cell 1
      have f10 := r1.free 0
      have f11 := r1.free 1
      have g10 := r1.cell 0
      have g11 := r1.cell 1
      have R1s := r1.set2 (.slice a3 s.length c3) (.slice av qs.length cv)
      obtain ⟨z0, z1, _, _⟩ := R1s.two
      have HOWN := Lib.hid hown
      have HALL := Lib.hid hall
      have HR1 := Lib.hid r1
      clear hown hall hle R1s r1
      go_wp2
      refine bodyPost_ret (v := .agg #[.slice a3 s.length c3, .slice av qs.length cv]) (by simp [results, Tryz.results50, go_sem, z0, z1]) rfl ⟨_, _, _, _, rfl, ?_, ?_, below_set2 hb (by omega) _ _⟩
      · exact r3.far HR1.out (by decide) (kept2 _ _)
      · exact RowO.far ⟨es, HOWN.out, HALL.out⟩ HR1.out (by decide) (kept2 _ _) (fun u y h => h.far HR1.out (by decide) (kept2 _ _))
end
section
open Go.RowKit
set_option linter.unusedVariables false
set_option linter.unusedSimpArgs false
set_option maxRecDepth 100000 in
set_option maxHeartbeats 4000000 in
theorem ownT_any {w : World} {v : Value} {s : List Int} {qs : List Q3} {a b : Option Addr} {ca cb : Nat} (T : TensQ w v s qs a ca b cb) (hs : s.length ≤ 17592186044416) (hq : qs.length ≤ 1000000000)
    (hl : ∀ q ∈ qs, q.num.length ≤ 134217728 ∧ q.den.length ≤ 134217728) :
    Calls Tryz.prog 14 #[v] w fun e w' => ∃ (a' b' : Option Addr) (ca' cb' : Nat), e = .returned (.agg #[.slice a' s.length ca', .slice b' qs.length cb']) ∧ ResS w.heap.size w' (.slice a' s.length ca') s ∧
      RowO w.heap.size 58 (fun W v x => RawO w.heap.size W v x) w' (.slice b' qs.length cb') (qs) ∧ Below w.heap.size w w' := by
  obtain ⟨i0, hi, hz0, hz1, hz2⟩ := info_parts infoQ
  have HT := Lib.hid T
  obtain rfl := T.is
  obtain ⟨W, hW⟩ : ∃ W, ((w.alloc (.cells #[.slice a s.length ca, .slice b qs.length cb] 26)).alloc (.cells #[.slice none 0 0, .slice none 0 0] 26)) = W := ⟨_, rfl⟩
  have R0 : Row W w.heap.size 26 #[.slice a s.length ca, .slice b qs.length cb] := by rw [← hW]; exact (Row.new _ _ _).alloc _
  have R1 : Row W (w.heap.size + 1) 26 #[.slice none 0 0, .slice none 0 0] := by rw [← hW]; have h := (Row.new (w.alloc (.cells #[.slice a s.length ca, .slice b qs.length cb] 26)) 26 #[.slice none 0 0, .slice none 0 0]); simp only [World.size_alloc] at h; exact h
  have hBW : Below w.heap.size w W := by rw [← hW]; exact ((Below.refl _ _).alloc (by simp) _).alloc (by simp) _
  have hsW : w.heap.size + 1 + 1 ≤ W.heap.size := by rw [← hW]; simp
  have AW := HT.out.sh.later hBW
  have nA := HT.out.nila
  have NA := Lib.hid nA
  obtain ⟨p0, p1, _, _⟩ := R0.two
  clear T nA
  go_enter Tryz.func14, Tryz.ntmps14
  go_wp2_with (at_builtin; refine step_copyT rfl _ 23 23 Tryz.underlying23 Tryz.underlying23 rfl rfl AW NA.out hs ?_; intro ro w3 R3 hb3; obtain ⟨a3, c3, rfl, R3', A3, n3⟩ := R3.slice)
  have hs3 := hb3.size
  have hB3 : Below w.heap.size w w3 := hBW.trans (hb3.mono (by omega))
  have hB4 : Below w.heap.size w (w3.alloc (.cells #[.slice a3 s.length c3, .slice none 0 0] 26)) := hB3.alloc (by omega) _
  have r0 := (R0.later hb3).alloc (.cells #[.slice a3 s.length c3, .slice none 0 0] 26)
  have r1 := (R1.later hb3).alloc (.cells #[.slice a3 s.length c3, .slice none 0 0] 26)
  have r2 := Row.new w3 26 #[.slice a3 s.length c3, .slice none 0 0]
  have r3 : ResS w.heap.size (w3.alloc (.cells #[.slice a3 s.length c3, .slice none 0 0] 26)) (.slice a3 s.length c3) s := (R3'.mono (by omega)).later ((Below.refl _ _).alloc (Nat.le_refl _) _)
  obtain ⟨g, hg⟩ : ∃ g, w3.heap.size = g := ⟨_, rfl⟩
  have hg2 : w.heap.size + 1 + 1 ≤ g := by omega
  rw [hg] at r2 ⊢
  generalize w3.alloc (.cells #[.slice a3 s.length c3, .slice none 0 0] 26) = W4 at *
  have H0 := Lib.hid r0
  have H1 := Lib.hid r1
  have H2 := Lib.hid r2
  have H3 := Lib.hid r3
  have HB4 := Lib.hid hB4
  clear r0 r1 r2 r3 hB4 hB3 hb3 hs3 R3 R3' A3 R0 R1 hBW AW p0 p1 hsW hg hW
  go_loopw [4] (fun i wr => ∃ (k : Nat) (v : Value), i = .int .i64 (k : Int) ∧ k ≤ qs.length ∧ Row wr w.heap.size 26 #[.slice a s.length ca, .slice b qs.length cb] ∧ Row wr (w.heap.size + 1) 26 #[.slice none 0 0, .slice none 0 0] ∧
    Row wr g 26 #[.slice a3 s.length c3, v] ∧ ResS w.heap.size wr (.slice a3 s.length c3) s ∧ RowO w.heap.size 58 (fun W v x => RawO w.heap.size W v x) wr v (qs.take k) ∧ Below w.heap.size w wr) (fun i _ => qs.length - (intOf i).toNat)
  case atStart => exact ⟨0, _, rfl, Nat.zero_le _, H0.out, H1.out, H2.out, H3.out, RowO.nil _ _ _ _, HB4.out⟩
  case round =>
    obtain ⟨k, v, rfl, hk, r0, r1, r2, r3, ⟨es, hown, hall⟩, hb⟩ := hrel
    have hsz := hb.size
    have c01 := r0.cell 1
    have c21 := r2.cell 1
    have hle : es.length = k := by rw [hall.1]; simp [hk]
    by_cases hlt : k < qs.length
    · obtain ⟨bb, o, x0, x1, x2, q, hbo, hqk, e0, e1, e2, hraw⟩ := (HT.out.el.later hb (fun v x _ k => k.later hb)).at hlt
      have hmem := List.mem_of_getElem? hqk
      have hb0 : bb < w.heap.size := HT.out.el.low (by intro h; rw [h] at hlt; simp at hlt) hbo
      subst hbo
      have hcall := hraw
      obtain ⟨r, hrv, hrb, hrne⟩ := hown.hits hsz
      have n0 := hrne _ _ _ r0 (by decide)
      have n2 := hrne _ _ _ r2 (by decide)
      have n1 := hrne _ _ _ r1 (by decide)
      have mkS : ∀ X, Kept r wr X → X.cell? ⟨g, 1, none⟩ = some v ∧ X.cell? ⟨w.heap.size, 1, none⟩ = some (.slice (some ⟨bb, o, none⟩) qs.length cb) ∧ X.cell? ⟨bb, o + k * 3, none⟩ = some x0 ∧ X.cell? ⟨bb, o + k * 3 + 1, none⟩ = some x1 ∧ X.cell? ⟨bb, o + k * 3 + 2, none⟩ = some x2 ∧ Kept r wr X := fun X h =>
        ⟨h.cell c21 n2, h.cell c01 n0, h.cell e0 (by show bb ≠ r; omega), h.cell e1 (by show bb ≠ r; omega), h.cell e2 (by show bb ≠ r; omega), h⟩
      have hltI : (k : Int) < (qs.length : Int) := by omega
      have hS0 := mkS wr.drew ((Kept.refl r wr).drew)
      go_wp2_with fail
      refine wp_region_L (S := fun X => X.cell? ⟨g, 1, none⟩ = some v ∧ X.cell? ⟨w.heap.size, 1, none⟩ = some (.slice (some ⟨bb, o, none⟩) qs.length cb) ∧ X.cell? ⟨bb, o + k * 3, none⟩ = some x0 ∧ X.cell? ⟨bb, o + k * 3 + 1, none⟩ = some x1 ∧ X.cell? ⟨bb, o + k * 3 + 2, none⟩ = some x2 ∧ Kept r wr X) (z := 11) (by kernel_rfl) hS0 (fun hHeld => ?_)
      refine todo [0, 1, 2, 3, 4, 5, 6] ?_
      iterate 7
       refine todoL (v := ?_) rfl (by kernel_rfl) (fun _ _ _ h => h) (by assumption) (Or.inl ⟨by rfl, ?_⟩) ?_
       rotate_left
       · intro w hSw; (try dsimp only at hSw); go_simp; (try with_reducible rfl)
       try simp only [Act.put, List.getElem_toArray, List.getElem_cons_succ, List.getElem_cons_zero, List.setIfInBounds_toArray, List.set_cons_zero, List.set_cons_succ]
      refine todone ?_
      refine wpAnyL_one (i := 7) (by kernel_rfl) rfl (fun K hK => ?sb7)
      go_simp
      refine (ownRaw_any (hcall.later (show Below wr.heap.size wr wr.drew from (Below.refl _ _).drew)) (hl q hmem).1 (hl q hmem).2).mono ?_
      rintro e w5 ⟨rv, rfl, qv, hb5⟩
      have Q5 := Lib.hid qv
      obtain ⟨m5, f1, l1, j1, f2, l2, j2, rfl⟩ := qv.shape
      clear qv
      go_simp
      have hB5 : Below w.heap.size w w5 := (hb.drew).trans (hb5.mono hsz)
      have hk5 : Kept r wr w5 := ((Kept.refl r wr).drew).below hb5
      refine hK.out _ _ (fun _ => mkS _ hk5) (fun hHeld2 => ?mb7)
      clear hK K hHeld
      have hHeld := hHeld2 (by decide)
      clear hHeld2
      try simp only [Act.put, List.setIfInBounds_toArray, List.set_cons_zero, List.set_cons_succ]
      refine wpAnyL_one (i := 8) (by kernel_rfl) rfl (fun K hK => ?sb8)
      go_simp
      refine hK.out _ _ (fun _ => mkS _ (hk5.alloc _)) (fun hHeld2 => ?mb8)
      clear hK K hHeld
      have hHeld := hHeld2 (by decide)
      clear hHeld2
      try simp only [Act.put, List.setIfInBounds_toArray, List.set_cons_zero, List.set_cons_succ]
      refine wpAnyL_one (i := 9) (by kernel_rfl) rfl (fun K hK => ?sb9)
      have hb5w : Below wr.heap.size wr w5 := (Below.refl _ wr).drew.trans hb5
      have hown5 : OwnE w.heap.size 58 w5 v es := hown.later hb5w
      have hall5 : AllE (fun v x => RawO w.heap.size w5 v x) es (qs.take k) := hall.imp fun u x _ h => h.later hb5w
      have hsz5 := hB5.size
      refine step_append_ownT rfl _ _ 24 rfl w.heap.size 58 i0 _ 3 56 Tryz.underlying24 hi hz0 hz1 hz2 rfl (by decide) _ es.length (flat3 es) rfl (hown5.later ((Below.refl _ _).alloc (Nat.le_refl _) _)) ⟨w5.heap.size, 0, none⟩ 1 1 [.bool m5, .slice f1 l1 j1, .slice f2 l2 j2] rfl rfl (cell_three_new _ _ _ _ _) (by simp [Value.oneCell']) (by unfold maxLen; omega) (by omega) (by simp; omega) ?_
      intro v' w6 hown' hgrow _
      obtain ⟨av, cv, rfl⟩ := ownT_slice hown'
      have hk6 : Kept r wr w6 := (hk5.alloc _).grown hgrow hrv
      refine hK.out _ _ (fun _ => mkS _ hk6) (fun hHeld2 => ?mb9)
      clear hK K hHeld
      have hHeld := hHeld2 (by decide)
      clear hHeld2
      try simp only [Act.put, List.setIfInBounds_toArray, List.set_cons_zero, List.set_cons_succ]
      refine wpAnyL_take (i := 10) (v := ?va10) rfl (by kernel_rfl) (by kernel_rfl) (by kernel_rfl) (by kernel_rfl) (fun _ _ _ h => h) (Or.inl ⟨by rfl, ?ha10⟩) (by assumption) ?ra10
      case ha10 =>
        intro w hSw
        try dsimp only at hSw
        go_simp
        try with_reducible rfl
      try simp only [Act.put, List.setIfInBounds_toArray, List.set_cons_zero, List.set_cons_succ]
      have R26 := r2.kept hk6 n2
      have f21 := R26.free 1
      have d21 := R26.cell 1
      refine wpAnyL_one (i := 11) (by kernel_rfl) rfl (fun K hK => ?sb11)
      go_simp
      refine hK.out _ _ (fun h => absurd rfl h) (fun _ => ?mb11)
      clear hK K
      try simp only [Act.put, List.setIfInBounds_toArray, List.set_cons_zero, List.set_cons_succ]
      refine wpAnyL_done (by kernel_rfl) ?_ _
      go_wp2
      go_roundw
      case rel =>
        have hx5 : RawO w.heap.size w5 (E3.agg ⟨.bool m5, .slice f1 l1 j1, .slice f2 l2 j2⟩) q := Q5.out.mono (by show w.heap.size ≤ wr.heap.size; exact hsz)
        obtain ⟨hrow6, hb6⟩ := pushE (P := fun W v x => RawO w.heap.size W v x) (e := ⟨.bool m5, .slice f1 l1 j1, .slice f2 l2 j2⟩) hB5 hsz5 hown5 hall5 hx5 (fun u y h => RawO.apart hown5 hgrow (by decide) h) hown' hgrow
        rw [hle] at hrow6
        have r06 := r0.kept hk6 n0
        have r16 := r1.kept hk6 n1
        have r36 : ResS w.heap.size w6 (.slice a3 s.length c3) s := ResS.apart hown5 hgrow (by decide) (r3.later hb5w)
        refine ⟨k + 1, _, by go_num, by omega, r06.far (by show w.heap.size ≠ g; omega) _, r16.far (by show w.heap.size + 1 ≠ g; omega) _, R26.set21 _, r36.far R26 (by decide) (kept1 _), ?_, hb6.setCell (by show w.heap.size ≤ g; omega) _⟩
        rw [take_nextL hqk]
        exact hrow6.far R26 (by decide) (kept1 _) (fun u y h => h.far R26 (by decide) (kept1 _))
      case measure => simp [intOf]; omega
    · obtain rfl : k = qs.length := by omega
      have hltI : ¬ (qs.length : Int) < (qs.length : Int) := by omega
      rw [List.take_length] at hall
      obtain ⟨av, cv, rfl⟩ := ownT_slice hown
      have hel : es.length = qs.length := hle
      rw [hel] at r2 hown
      have c20 := r2.cell 0
      have d21 := r2.cell 1
      have f10 := r1.free 0
      have f11 := r1.free 1
      have g10 := r1.cell 0
      have g11 := r1.cell 1
      have R1s := r1.set2 (.slice a3 s.length c3) (.slice av qs.length cv)
      obtain ⟨z0, z1, _, _⟩ := R1s.two
      have HOWN := Lib.hid hown
      have HALL := Lib.hid hall
      have HR1 := Lib.hid r1
      clear hown hall hle R1s r1
      go_wp2
      refine bodyPost_ret (v := .agg #[.slice a3 s.length c3, .slice av qs.length cv]) (by simp [results, Tryz.results14, go_sem, z0, z1]) rfl ⟨_, _, _, _, rfl, ?_, ?_, below_set2 hb (by omega) _ _⟩
      · exact r3.far HR1.out (by decide) (kept2 _ _)
      · exact RowO.far ⟨es, HOWN.out, HALL.out⟩ HR1.out (by decide) (kept2 _ _) (fun u y h => h.far HR1.out (by decide) (kept2 _ _))
end
section
open Go.RowKit
set_option linter.unusedVariables false
set_option linter.unusedSimpArgs false
set_option maxRecDepth 100000 in
set_option maxHeartbeats 4000000 in
theorem backT_any {n : Nat} {w : World} {v : Value} {s : List Int} {qs : List Rat} {a b : Option Addr} {ca cb : Nat} (T : TensR w v s qs n a ca b cb) (hs : s.length ≤ 17592186044416) (hq : qs.length ≤ 1000000000) (hn : n ≤ 1000000000) :
    Calls Tryz.prog 91 #[v] w fun e w' => ∃ (a' b' : Option Addr) (ca' cb' : Nat), e = .returned (.agg #[.slice a' s.length ca', .slice b' qs.length cb']) ∧ ResS w.heap.size w' (.slice a' s.length ca') s ∧
      RowO w.heap.size 58 (fun W v x => ResQ w.heap.size W v x n) w' (.slice b' qs.length cb') (qs) ∧ Below w.heap.size w w' := by
  obtain ⟨i0, hi, hz0, hz1, hz2⟩ := info_parts infoQ
  have HT := Lib.hid T
  obtain rfl := T.is
  obtain ⟨W, hW⟩ : ∃ W, ((w.alloc (.cells #[.slice a s.length ca, .slice b qs.length cb] 34)).alloc (.cells #[.slice none 0 0, .slice none 0 0] 26)) = W := ⟨_, rfl⟩
  have R0 : Row W w.heap.size 34 #[.slice a s.length ca, .slice b qs.length cb] := by rw [← hW]; exact (Row.new _ _ _).alloc _
  have R1 : Row W (w.heap.size + 1) 26 #[.slice none 0 0, .slice none 0 0] := by rw [← hW]; have h := (Row.new (w.alloc (.cells #[.slice a s.length ca, .slice b qs.length cb] 34)) 26 #[.slice none 0 0, .slice none 0 0]); simp only [World.size_alloc] at h; exact h
  have hBW : Below w.heap.size w W := by rw [← hW]; exact ((Below.refl _ _).alloc (by simp) _).alloc (by simp) _
  have hsW : w.heap.size + 1 + 1 ≤ W.heap.size := by rw [← hW]; simp
  have AW := HT.out.sh.later hBW
  have nA := HT.out.nila
  have NA := Lib.hid nA
  obtain ⟨p0, p1, _, _⟩ := R0.two
  clear T nA
  go_enter Tryz.func91, Tryz.ntmps91
  go_wp2_with (at_builtin; refine step_copyT rfl _ 23 22 Tryz.underlying23 Tryz.underlying22 rfl rfl AW NA.out hs ?_; intro ro w3 R3 hb3; obtain ⟨a3, c3, rfl, R3', A3, n3⟩ := R3.slice)
  have hs3 := hb3.size
  have hB3 : Below w.heap.size w w3 := hBW.trans (hb3.mono (by omega))
  have hB4 : Below w.heap.size w (w3.alloc (.cells #[.slice a3 s.length c3, .slice none 0 0] 26)) := hB3.alloc (by omega) _
  have r0 := (R0.later hb3).alloc (.cells #[.slice a3 s.length c3, .slice none 0 0] 26)
  have r1 := (R1.later hb3).alloc (.cells #[.slice a3 s.length c3, .slice none 0 0] 26)
  have r2 := Row.new w3 26 #[.slice a3 s.length c3, .slice none 0 0]
  have r3 : ResS w.heap.size (w3.alloc (.cells #[.slice a3 s.length c3, .slice none 0 0] 26)) (.slice a3 s.length c3) s := (R3'.mono (by omega)).later ((Below.refl _ _).alloc (Nat.le_refl _) _)
  obtain ⟨g, hg⟩ : ∃ g, w3.heap.size = g := ⟨_, rfl⟩
  have hg2 : w.heap.size + 1 + 1 ≤ g := by omega
  rw [hg] at r2 ⊢
  generalize w3.alloc (.cells #[.slice a3 s.length c3, .slice none 0 0] 26) = W4 at *
  have H0 := Lib.hid r0
  have H1 := Lib.hid r1
  have H2 := Lib.hid r2
  have H3 := Lib.hid r3
  have HB4 := Lib.hid hB4
  clear r0 r1 r2 r3 hB4 hB3 hb3 hs3 R3 R3' A3 R0 R1 hBW AW p0 p1 hsW hg hW
  go_loopw [4] (fun i wr => ∃ (k : Nat) (v : Value), i = .int .i64 (k : Int) ∧ k ≤ qs.length ∧ Row wr w.heap.size 34 #[.slice a s.length ca, .slice b qs.length cb] ∧ Row wr (w.heap.size + 1) 26 #[.slice none 0 0, .slice none 0 0] ∧
    Row wr g 26 #[.slice a3 s.length c3, v] ∧ ResS w.heap.size wr (.slice a3 s.length c3) s ∧ RowO w.heap.size 58 (fun W v x => ResQ w.heap.size W v x n) wr v (qs.take k) ∧ Below w.heap.size w wr) (fun i _ => qs.length - (intOf i).toNat)
  case atStart => exact ⟨0, _, rfl, Nat.zero_le _, H0.out, H1.out, H2.out, H3.out, RowO.nil _ _ _ _, HB4.out⟩
  case round =>
    obtain ⟨k, v, rfl, hk, r0, r1, r2, r3, ⟨es, hown, hall⟩, hb⟩ := hrel
    have hsz := hb.size
    have c01 := r0.cell 1
    have c21 := r2.cell 1
    have hle : es.length = k := by rw [hall.1]; simp [hk]
    by_cases hlt : k < qs.length
    · obtain ⟨bb, o, x0, x1, x2, q, hbo, hqk, e0, e1, e2, hraw⟩ := (HT.out.el.later hb (fun v x _ k => k.later hb)).at hlt
      have hmem := List.mem_of_getElem? hqk
      have hb0 : bb < w.heap.size := HT.out.el.low (by intro h; rw [h] at hlt; simp at hlt) hbo
      subst hbo
      have hcall : ArgR wr (.agg #[x0, x1, x2]) q n := hraw
      obtain ⟨r, hrv, hrb, hrne⟩ := hown.hits hsz
      have n0 := hrne _ _ _ r0 (by decide)
      have n2 := hrne _ _ _ r2 (by decide)
      have n1 := hrne _ _ _ r1 (by decide)
      have mkS : ∀ X, Kept r wr X → X.cell? ⟨g, 1, none⟩ = some v ∧ X.cell? ⟨w.heap.size, 1, none⟩ = some (.slice (some ⟨bb, o, none⟩) qs.length cb) ∧ X.cell? ⟨bb, o + k * 3, none⟩ = some x0 ∧ X.cell? ⟨bb, o + k * 3 + 1, none⟩ = some x1 ∧ X.cell? ⟨bb, o + k * 3 + 2, none⟩ = some x2 ∧ Kept r wr X := fun X h =>
        ⟨h.cell c21 n2, h.cell c01 n0, h.cell e0 (by show bb ≠ r; omega), h.cell e1 (by show bb ≠ r; omega), h.cell e2 (by show bb ≠ r; omega), h⟩
      have hltI : (k : Int) < (qs.length : Int) := by omega
      have hS0 := mkS wr.drew ((Kept.refl r wr).drew)
      go_wp2_with fail
      refine wp_region_L (S := fun X => X.cell? ⟨g, 1, none⟩ = some v ∧ X.cell? ⟨w.heap.size, 1, none⟩ = some (.slice (some ⟨bb, o, none⟩) qs.length cb) ∧ X.cell? ⟨bb, o + k * 3, none⟩ = some x0 ∧ X.cell? ⟨bb, o + k * 3 + 1, none⟩ = some x1 ∧ X.cell? ⟨bb, o + k * 3 + 2, none⟩ = some x2 ∧ Kept r wr X) (z := 11) (by kernel_rfl) hS0 (fun hHeld => ?_)
      refine todo [0, 1, 2, 3, 4, 5, 6] ?_
      iterate 7
       refine todoL (v := ?_) rfl (by kernel_rfl) (fun _ _ _ h => h) (by assumption) (Or.inl ⟨by rfl, ?_⟩) ?_
       rotate_left
       · intro w hSw; (try dsimp only at hSw); go_simp; (try with_reducible rfl)
       try simp only [Act.put, List.getElem_toArray, List.getElem_cons_succ, List.getElem_cons_zero, List.setIfInBounds_toArray, List.set_cons_zero, List.set_cons_succ]
      refine todone ?_
      refine wpAnyL_one (i := 7) (by kernel_rfl) rfl (fun K hK => ?sb7)
      go_simp
      refine (backR_any (hcall.later (show Below wr.heap.size wr wr.drew from (Below.refl _ _).drew)) hn).mono ?_
      rintro e w5 ⟨rv, rfl, qv, hb5⟩
      have Q5 := Lib.hid qv
      obtain ⟨m5, f1, l1, j1, f2, l2, j2, rfl⟩ := qv.shape
      clear qv
      go_simp
      have hB5 : Below w.heap.size w w5 := (hb.drew).trans (hb5.mono hsz)
      have hk5 : Kept r wr w5 := ((Kept.refl r wr).drew).below hb5
      refine hK.out _ _ (fun _ => mkS _ hk5) (fun hHeld2 => ?mb7)
      clear hK K hHeld
      have hHeld := hHeld2 (by decide)
      clear hHeld2
      try simp only [Act.put, List.setIfInBounds_toArray, List.set_cons_zero, List.set_cons_succ]
      refine wpAnyL_one (i := 8) (by kernel_rfl) rfl (fun K hK => ?sb8)
      go_simp
      refine hK.out _ _ (fun _ => mkS _ (hk5.alloc _)) (fun hHeld2 => ?mb8)
      clear hK K hHeld
      have hHeld := hHeld2 (by decide)
      clear hHeld2
      try simp only [Act.put, List.setIfInBounds_toArray, List.set_cons_zero, List.set_cons_succ]
      refine wpAnyL_one (i := 9) (by kernel_rfl) rfl (fun K hK => ?sb9)
      have hb5w : Below wr.heap.size wr w5 := (Below.refl _ wr).drew.trans hb5
      have hown5 : OwnE w.heap.size 58 w5 v es := hown.later hb5w
      have hall5 : AllE (fun v x => ResQ w.heap.size w5 v x n) es (qs.take k) := hall.imp fun u x _ h => h.later hb5w
      have hsz5 := hB5.size
      refine step_append_ownT rfl _ _ 24 rfl w.heap.size 58 i0 _ 3 56 Tryz.underlying24 hi hz0 hz1 hz2 rfl (by decide) _ es.length (flat3 es) rfl (hown5.later ((Below.refl _ _).alloc (Nat.le_refl _) _)) ⟨w5.heap.size, 0, none⟩ 1 1 [.bool m5, .slice f1 l1 j1, .slice f2 l2 j2] rfl rfl (cell_three_new _ _ _ _ _) (by simp [Value.oneCell']) (by unfold maxLen; omega) (by omega) (by simp; omega) ?_
      intro v' w6 hown' hgrow _
      obtain ⟨av, cv, rfl⟩ := ownT_slice hown'
      have hk6 : Kept r wr w6 := (hk5.alloc _).grown hgrow hrv
      refine hK.out _ _ (fun _ => mkS _ hk6) (fun hHeld2 => ?mb9)
      clear hK K hHeld
      have hHeld := hHeld2 (by decide)
      clear hHeld2
      try simp only [Act.put, List.setIfInBounds_toArray, List.set_cons_zero, List.set_cons_succ]
      refine wpAnyL_take (i := 10) (v := ?va10) rfl (by kernel_rfl) (by kernel_rfl) (by kernel_rfl) (by kernel_rfl) (fun _ _ _ h => h) (Or.inl ⟨by rfl, ?ha10⟩) (by assumption) ?ra10
      case ha10 =>
        intro w hSw
        try dsimp only at hSw
        go_simp
        try with_reducible rfl
      try simp only [Act.put, List.setIfInBounds_toArray, List.set_cons_zero, List.set_cons_succ]
      have R26 := r2.kept hk6 n2
      have f21 := R26.free 1
      have d21 := R26.cell 1
      refine wpAnyL_one (i := 11) (by kernel_rfl) rfl (fun K hK => ?sb11)
      go_simp
      refine hK.out _ _ (fun h => absurd rfl h) (fun _ => ?mb11)
      clear hK K
      try simp only [Act.put, List.setIfInBounds_toArray, List.set_cons_zero, List.set_cons_succ]
      refine wpAnyL_done (by kernel_rfl) ?_ _
      go_wp2
      go_roundw
      case rel =>
        have hx5 : ResQ w.heap.size w5 (E3.agg ⟨.bool m5, .slice f1 l1 j1, .slice f2 l2 j2⟩) q n := Q5.out.mono (by show w.heap.size ≤ wr.heap.size; exact hsz)
        obtain ⟨hrow6, hb6⟩ := pushE (P := fun W v x => ResQ w.heap.size W v x n) (e := ⟨.bool m5, .slice f1 l1 j1, .slice f2 l2 j2⟩) hB5 hsz5 hown5 hall5 hx5 (fun u y h => ResQ.apart hown5 hgrow (by decide) h) hown' hgrow
        rw [hle] at hrow6
        have r06 := r0.kept hk6 n0
        have r16 := r1.kept hk6 n1
        have r36 : ResS w.heap.size w6 (.slice a3 s.length c3) s := ResS.apart hown5 hgrow (by decide) (r3.later hb5w)
        refine ⟨k + 1, _, by go_num, by omega, r06.far (by show w.heap.size ≠ g; omega) _, r16.far (by show w.heap.size + 1 ≠ g; omega) _, R26.set21 _, r36.far R26 (by decide) (kept1 _), ?_, hb6.setCell (by show w.heap.size ≤ g; omega) _⟩
        rw [take_nextL hqk]
        exact hrow6.far R26 (by decide) (kept1 _) (fun u y h => h.far R26 (by decide) (kept1 _))
      case measure => simp [intOf]; omega
    · obtain rfl : k = qs.length := by omega
      have hltI : ¬ (qs.length : Int) < (qs.length : Int) := by omega
      rw [List.take_length] at hall
      obtain ⟨av, cv, rfl⟩ := ownT_slice hown
      have hel : es.length = qs.length := hle
      rw [hel] at r2 hown
      have c20 := r2.cell 0
      have d21 := r2.cell 1
      have f10 := r1.free 0
      have f11 := r1.free 1
      have g10 := r1.cell 0
      have g11 := r1.cell 1
      have R1s := r1.set2 (.slice a3 s.length c3) (.slice av qs.length cv)
      obtain ⟨z0, z1, _, _⟩ := R1s.two
      have HOWN := Lib.hid hown
      have HALL := Lib.hid hall
      have HR1 := Lib.hid r1
      clear hown hall hle R1s r1
      go_wp2
      refine bodyPost_ret (v := .agg #[.slice a3 s.length c3, .slice av qs.length cv]) (by simp [results, Tryz.results91, go_sem, z0, z1]) rfl ⟨_, _, _, _, rfl, ?_, ?_, below_set2 hb (by omega) _ _⟩
      · exact r3.far HR1.out (by decide) (kept2 _ _)
      · exact RowO.far ⟨es, HOWN.out, HALL.out⟩ HR1.out (by decide) (kept2 _ _) (fun u y h => h.far HR1.out (by decide) (kept2 _ _))
end
section
open Go.RowKit Go.Shelf
attribute [local go_sem] Oper.semAt_some
set_option linter.unusedVariables false
set_option linter.unusedSimpArgs false
/-- a region of wpAnyL, inside a round -/
theorem region_roundL {l n id : Nat} {P : Program} {ops : Array Oper} {Q : Exit → Act → World → Prop} {a : Act} {w : World} (S : World → Prop) (z : Nat) (hm : P.follows .mixedOrders = true) (hnd : noDefer ops = true) (hLO : ¬ LetsOut Q)
    (hS : S w.drew) (h : S w.drew → wpAnyL P .any ops Q S z ops.size (Array.replicate ops.size false) a w.drew) : (Code.region id ops true).wpIn (Fence.wide.inRound l) n P Q a w :=
  wpIn_region_any hm (wpAnyIn_of_round hnd hLO _ _ _ _ (wpAny_of_L _ _ _ _ (h hS)))
/-- all blocks of cells are as they were -/
def KeepC (W W' : World) : Prop := ∀ (k : Nat) (cur : Array Value) (t : TypeId) (fr : Nat × Nat), W.heap[k]? = some (Obj.cells cur t fr) → W'.heap[k]? = W.heap[k]?
theorem KeepC.below {W W' : World} (h : Below W.heap.size W W') : KeepC W W' := fun k _ _ _ e => h.block k (lt_of_block e)
theorem KeepC.grown {W W' : World} {row : Option Nat} (hg : W.grownBy W' row) (hr : ∀ r, row = some r → ∃ o : Obj, W.heap[r]? = some o ∧ o.isCells = false) : KeepC W W' := fun k cur t fr e =>
  hg.block k (lt_of_block e) fun e2 => by
    obtain ⟨o, ho, hc⟩ := hr k e2.symm
    rw [e] at ho
    cases ho
    cases hc
theorem keepC_row {W W' : World} {base size n : Nat} {T : TypeId} {v : Value} {xs : List Value} (k : KeepC W W') (h : W.ownsRow base T size v n xs) : W'.ownsRow base T size v n xs := by
  obtain ⟨h1, h2⟩ := h
  refine ⟨h1, ?_⟩
  rcases h2 with h2 | ⟨g, cap, cur, rfl, hg0, hh, hrest⟩
  · exact .inl h2
  · exact .inr ⟨g, cap, cur, rfl, hg0, (k _ _ _ _ hh).trans hh, hrest⟩
theorem Boxed.keepC {W W' : World} {B : Nat} {t : TypeId} {v : Value} (h : Boxed W B t v) (k : KeepC W W') : Boxed W' B t v := (k _ _ _ _ h).trans h
theorem Row.keepC {W W' : World} {B : Nat} {t : TypeId} {cs : Array Value} (h : Row W B t cs) (k : KeepC W W') : Row W' B t cs := (k _ _ _ _ h).trans h
theorem OwnE.keepC {W W' : World} {base : Nat} {T : TypeId} {v : Value} {es : List E3} (h : OwnE base T W v es) (k : KeepC W W') : OwnE base T W' v es := keepC_row k h
theorem Num.keepC {W W' : World} {base : Nat} {v : Value} {xs : List Int} (h : Num base W v xs) (k : KeepC W W') : Num base W' v xs := keepC_row k h
theorem Res.keepC {W W' : World} {base : Nat} {v : Value} {xs : List Int} {m : Int} (h : Res base W v xs m) (k : KeepC W W') : Res base W' v xs m := ⟨h.num.keepC k, h.wf, h.full, h.eq⟩
theorem ResQ.keepC {W W' : World} {base n : Nat} {v : Value} {x : Rat} (h : ResQ base W v x n) (k : KeepC W W') : ResQ base W' v x n := by
  obtain ⟨zs, ys, ad, bd, ca, cb, rfl, A, B, h⟩ := h
  exact ⟨zs, ys, ad, bd, ca, cb, rfl, A.keepC k, B.keepC k, h⟩
theorem RawO.keepC {W W' : World} {base : Nat} {v : Value} {q : Q3} (h : RawO base W v q) (k : KeepC W W') : RawO base W' v q := by
  obtain ⟨ad, bd, ca, cb, rfl, A, B, h⟩ := h
  exact ⟨ad, bd, ca, cb, rfl, A.keepC k, B.keepC k, h⟩
theorem keepsFrom_set {B : Nat} {W W' : World} (h : KeepsFrom B W W') (p : Addr) (v : Value) : KeepsFrom B W (W'.setCell p v) := h.trans ((KeepsOthers.setCell W' p v).from B)
theorem keepsFrom_below {B : Nat} {W W' : World} (h : Below W.heap.size W W') : KeepsFrom B W W' := ⟨h.size, fun k o _ hk ho => (h.block k (lt_of_block hk)).trans hk⟩
def dfE : E3 := ⟨.bool false, .slice none 0 0, .slice none 0 0⟩
/-- what a round over structs is handed -/
def ratAt (es : List E3) {n : Nat} (x : Fin n) : Array Value := #[.agg #[(es[x.val]?.getD dfE).a, (es[x.val]?.getD dfE).b, (es[x.val]?.getD dfE).c]]
/-- where the structs of a slice lie: below n₀ -/
def LimE (w : World) (ad : Option Addr) (es : List E3) (n₀ : Nat) : Prop := es = [] ∨ ∃ b o, ad = some ⟨b, o, none⟩ ∧ CellsE w b o es ∧ b < n₀
theorem LimE.below {w w' : World} {ad : Option Addr} {es : List E3} {n₀ : Nat} (h : LimE w ad es n₀) (hb : Below n₀ w w') : LimE w' ad es n₀ := by
  rcases h with h | ⟨b, o, e, c, hl⟩
  · exact .inl h
  · refine .inr ⟨b, o, e, fun i d hd => ?_, hl⟩
    obtain ⟨h0, h1, h2⟩ := c i d hd
    exact ⟨(hb.cell (p := ⟨b, o + i * 3, none⟩) hl).trans h0, (hb.cell (p := ⟨b, o + i * 3 + 1, none⟩) hl).trans h1, (hb.cell (p := ⟨b, o + i * 3 + 2, none⟩) hl).trans h2⟩
theorem RowA.limE {α : Type} {P : World → Value → α → Prop} {w : World} {u : Value} {L : List α} {ad : Option Addr} {cap : Nat} (h : RowA P w u L ad cap) : ∃ es, LimE w ad es w.heap.size ∧ AllE (P w) es L := by
  rcases h.els with e | ⟨b, o, es, e, c, k⟩
  · subst e
    exact ⟨[], .inl rfl, AllE.nil _⟩
  · by_cases hn : es = []
    · exact ⟨es, .inl hn, k⟩
    · have hL : L ≠ [] := fun h => hn (List.eq_nil_of_length_eq_zero (by rw [k.1, h]; rfl))
      exact ⟨es, .inr ⟨b, o, e, c, h.low hL e⟩, k⟩
/-- the structs are of one bool and two slices -/
def ShE (es : List E3) : Prop := ∀ k, k < es.length → ∃ m a1 n1 c1 a2 n2 c2, es[k]?.getD dfE = ⟨.bool m, .slice a1 n1 c1, .slice a2 n2 c2⟩
theorem shE_of {α : Type} {P : Value → α → Prop} {es : List E3} {L : List α} (h : AllE P es L) (hP : ∀ v x, P v x → ∃ m a1 n1 c1 a2 n2 c2, v = .agg #[.bool m, .slice a1 n1 c1, .slice a2 n2 c2]) : ShE es := fun k hk => by
  obtain ⟨e, x, h1, h2, h3⟩ := h.at (i := k) (by rw [← h.1]; exact hk)
  obtain ⟨m, a1, n1, c1, a2, n2, c2, he⟩ := hP _ _ h3
  rw [h1]
  obtain ⟨p, q, r⟩ := e
  simp only [E3.agg, Value.agg.injEq, Array.mk.injEq, List.cons.injEq, and_true] at he
  obtain ⟨rfl, rfl, rfl⟩ := he
  exact ⟨m, a1, n1, c1, a2, n2, c2, rfl⟩
theorem RawQ.form {w : World} {v : Value} {q : Q3} (h : RawQ w v q) : ∃ m a1 n1 c1 a2 n2 c2, v = .agg #[.bool m, .slice a1 n1 c1, .slice a2 n2 c2] := by
  obtain ⟨_, _, _, _, rfl, _⟩ := h
  exact ⟨_, _, _, _, _, _, _, rfl⟩
theorem LimE.cells {w : World} {ad : Option Addr} {es : List E3} {n₀ : Nat} (h : LimE w ad es n₀) {k : Nat} (hk : k < es.length) : ∃ b o, ad = some ⟨b, o, none⟩ ∧ w.cell? ⟨b, o + k * 3, none⟩ = some (es[k]?.getD dfE).a ∧ w.cell? ⟨b, o + k * 3 + 1, none⟩ = some (es[k]?.getD dfE).b ∧ w.cell? ⟨b, o + k * 3 + 2, none⟩ = some (es[k]?.getD dfE).c := by
  rcases h with h | ⟨b, o, e, c, _⟩
  · subst h; simp at hk
  · have hx : es[k]? = some es[k] := List.getElem?_eq_getElem hk
    obtain ⟨h0, h1, h2⟩ := c k _ hx
    exact ⟨b, o, e, by rw [hx]; exact h0, by rw [hx]; exact h1, by rw [hx]; exact h2⟩
set_option maxRecDepth 100000 in
set_option maxHeartbeats 2000000 in
theorem allQ_in (n l Bs n₀ : Nat) (ad : Option Addr) (es : List E3) (cap : Nat) (hm : es.length ≤ 1000000000000) (hcap : es.length ≤ cap) (J Jx : List (Fin es.length) → World → Prop)
    (hJ : ∀ pre A B, J pre A → Below A.heap.size A B → J pre B)
    (hY : ∀ pre x W, J pre W → pre.length < es.length → YieldAt Fence.wide (n - 1) Tryz.prog l (ratAt es x) W fun e W' =>
      (e = .returned (.bool true) ∧ J (pre ++ [x]) W' ∧ Below n₀ W W') ∨ (e = .returned (.bool false) ∧ Jx (pre ++ [x]) W'))
    (W : World) (hn₀ : n₀ ≤ W.heap.size) (hBs : W.cell? ⟨Bs, 0, none⟩ = some (.slice ad es.length cap)) (hl : LimE W ad es n₀) (hsh : ShE es) (h0 : J [] W) :
    CallsIn Fence.wide n Tryz.prog 108 #[.func (.yield l) #[] #[], .pointer (some ⟨Bs, 0, none⟩)] W fun e W' => (∃ v, e = .returned v) ∧
      ((∃ ys, Upto ys es.length ∧ J ys W') ∨ (∃ pre, (∃ k, k ≤ es.length ∧ Upto pre k) ∧ Jx pre W')) := by
  refine callsIn_of_wp Tryz.func108 rfl trivial ?_ rfl
  simp only [Tryz.ntmps108, List.size_toArray, List.length_cons, List.length_nil, Nat.reduceAdd, Nat.reduceSub, Array.replicate_succ, Array.replicate_zero, List.push_toArray, List.append_toArray, List.nil_append, List.cons_append]
  gi_wp2_with fail
  gi_loopw [4, 7] (fun _ i wr => ∃ (k : Nat) (pre : List (Fin es.length)), k ≤ es.length ∧ i = .int .i64 k ∧ Upto pre k ∧ J pre wr ∧ Below n₀ W wr)
    (fun _ i _ => es.length - (intOf i).toNat)
  case atStart => exact ⟨0, [], Nat.zero_le _, rfl, rfl, h0, Below.refl _ _⟩
  case round =>
    obtain ⟨k, pre, hk, rfl, hup, hJs, hnx⟩ := hrel
    by_cases hlt : k < es.length
    · obtain ⟨b, o, rfl, c0, c1, c2⟩ := (hl.below hnx).cells hlt
      have hsz := hnx.size
      obtain ⟨W2, hW2⟩ : ∃ W2, wr.alloc (.cells #[(es[k]?.getD dfE).a, (es[k]?.getD dfE).b, (es[k]?.getD dfE).c] 58) = W2 := ⟨_, rfl⟩
      have hb2 : Below wr.heap.size wr W2 := by rw [← hW2]; exact (Below.refl _ _).alloc (Nat.le_refl _) _
      have R2 : Row W2 wr.heap.size 58 #[(es[k]?.getD dfE).a, (es[k]?.getD dfE).b, (es[k]?.getD dfE).c] := by rw [← hW2]; exact Row.new _ _ _
      obtain ⟨d0, d1, d2, _, _, _⟩ := R2.three
      obtain ⟨fn, tmps, assign, body, hy, hR⟩ := hY pre ⟨k, hlt⟩ W2 (hJ _ _ _ hJs hb2) (by rw [hup.length]; exact hlt)
      simp only [ratAt] at hy
      have hnx2 : Below n₀ W W2 := hnx.trans (hb2.mono (by omega))
      obtain ⟨z1, z2, z3, z4, z5, z6, z7, he⟩ := hsh k hlt
      rw [he] at hy c0 c1 c2 hW2 d0 d1 d2
      clear he R2
      have HJ := Lib.hid hJ
      have HY := Lib.hid hY
      clear hJ hY hl
      gi_wp2
      refine ⟨(fun h => by cases h), hR.mono ?_⟩
      rintro e W3 (⟨rfl, hJ3, hk3⟩ | ⟨rfl, hJx3⟩)
      · gi_wp2
        go_roundw
        case rel => exact ⟨k + 1, _, by omega, by go_num, hup.snoc hlt, hJ3, hnx2.trans hk3⟩
        case measure => simp [intOf]; omega
      · gi_wp2
        refine bodyPost_ret (results_none rfl _ _ _) rfl ?_
        exact ⟨⟨_, rfl⟩, .inr ⟨_, ⟨k + 1, by omega, hup.snoc hlt⟩, hJx3⟩⟩
    · obtain rfl : k = es.length := by omega
      gi_wp2
      go_end0
      exact ⟨⟨_, rfl⟩, .inl ⟨_, hup, hJs⟩⟩
end
section
open Go.RowKit Go.Shelf
attribute [local go_sem] Oper.semAt_some
set_option linter.unusedVariables false
set_option linter.unusedSimpArgs false
theorem allQ_any (ad : Option Addr) (n cap : Nat) (w : World) :
    Calls Tryz.prog 82 #[.slice ad n cap] w fun e w' => e = .returned (.func (.func 108) #[] #[.pointer (some ⟨w.heap.size, 0, none⟩)]) ∧ w' = w.alloc (.cells #[.slice ad n cap] 100) := by
  go_enter Tryz.func82, Tryz.ntmps82
  go_wp2
  go_ret
  exact ⟨rfl, rfl⟩
theorem allQ_stops (n Bs n₀ : Nat) (ad : Option Addr) (es : List E3) (cap : Nat) (hm : es.length ≤ 1000000000000) (hcap : es.length ≤ cap) (w : World) (hn₀ : n₀ ≤ w.heap.size) (hBs : Bs < w.heap.size)
    (hc : w.cell? ⟨Bs, 0, none⟩ = some (.slice ad es.length cap)) (hl : LimE w ad es n₀) (hsh : ShE es) :
    SeqStopsK Fence.wide n Tryz.prog 108 #[.pointer (some ⟨Bs, 0, none⟩)] (ratAt es (n := es.length)) (Below n₀) (fun ys => Upto ys es.length) (fun pre => ∃ k, k ≤ es.length ∧ Upto pre k) es.length w := fun l J Jx W hW hJ _ hY h0 =>
  allQ_in n l Bs n₀ ad es cap hm hcap J Jx (fun pre A B hj hb => hJ pre A B none hj ⟨hb.os, hb.tape, hb.output, hb.size, fun k hk _ => hb.block k hk⟩ (fun _ h => by cases h)) hY W (Nat.le_trans hn₀ hW.size) ((hW.cell (p := ⟨Bs, 0, none⟩) hBs).trans hc) (hl.below (hW.mono hn₀)) hsh h0
end
section
open Go.RowKit Go.Shelf
attribute [local go_sem] Oper.semAt_some
set_option linter.unusedVariables false
set_option linter.unusedSimpArgs false
theorem RawO.res {base n : Nat} {w : World} {v : Value} {q : Q3} (h : RawO base w v q) (ok : okQ q = true) (h1 : q.num.length ≤ n) (h2 : q.den.length ≤ n) : ResQ base w v q.rat n := by
  obtain ⟨ad, bd, ca, cb, rfl, A, D, wa, wd⟩ := h
  unfold okQ validB isB at ok
  simp only [Bool.and_eq_true, decide_eq_true_eq, beq_iff_eq] at ok
  obtain ⟨e1, ⟨e2, e3⟩, e4, e5⟩ := ok
  exact ⟨q.num, q.den, ad, bd, ca, cb, by rw [← e1], ⟨A, wa, e2, e3⟩, ⟨D, wd, e4, e5⟩, h1, h2⟩
end
section
open Go.RowKit
set_option linter.unusedVariables false
set_option linter.unusedSimpArgs false
/-- what the reference's Of answers, as it is handed in again -/
theorem ofT_tens {base n : Nat} {w : World} {a b : Option Addr} {ca cb m : Nat} {s : List Int} {L : List Rat} (hm : m = L.length) (S : ResS base w (.slice a s.length ca) s) (E : RowO base 75 (fun W v x => ResR base W v x n) w (.slice b m cb) L) :
    TensR w (.agg #[.slice a s.length ca, .slice b m cb]) s L n a ca b cb := by
  subst hm
  exact ⟨rfl, S.at_.2.1, S.at_.2.2, E.at_.2.1.imp (fun v x _ h => h.arg), E.at_.2.2⟩
end
section
open Go.RowKit
set_option linter.unusedVariables false
set_option linter.unusedSimpArgs false
set_option maxRecDepth 100000 in
set_option maxHeartbeats 4000000 in
theorem inverse9_any {u : Value} {p : List Int} {a : Option Addr} {ca : Nat} {w : World} (A : ArgS w u p a ca) (ha : a = none → ca = 0) (hx : p.length ≤ 8000000) :
    Calls Tryz.prog 84 #[u] w fun e w' => ∃ r, e = .returned (.tuple #[r, .int .i64 (permC p p.length)]) ∧ ResS w.heap.size w' r (invV p) ∧ Below w.heap.size w w' := by
  have HA := Lib.hid A
  obtain rfl := A.is
  obtain ⟨c, hc⟩ : ∃ c, permC p p.length = c := ⟨_, rfl⟩
  obtain ⟨r, hr⟩ : ∃ r, invV p = r := ⟨_, rfl⟩
  have HC := Lib.hid hc
  have HR := Lib.hid hr
  rw [hc, hr]
  obtain ⟨L, hL⟩ : ∃ L, p.length = L := ⟨_, rfl⟩
  have HL := Lib.hid hL
  rw [hL] at hx ⊢
  have hmk1 := make_runM L (by omega)
  have hmk2 := make_runS L (by omega)
  clear A ha hc hr hL
  go_enter Tryz.func84, Tryz.ntmps84
  go_wp2
  have hb0 : Below w.heap.size w ((w.alloc (.cells (madeCells #[.bool false] L) 4)).alloc (.cells (madeCells #[.int .i64 0] L) 3)) := ((Below.refl _ w).alloc (Nat.le_refl _) _).alloc (by simp) _
  have hm0 : MrkS ((w.alloc (.cells (madeCells #[.bool false] L) 4)).alloc (.cells (madeCells #[.int .i64 0] L) 3)) w.heap.size (List.replicate L false) := (MrkS.made w L).alloc _
  have hp0 : PartS ((w.alloc (.cells (madeCells #[.bool false] L) 4)).alloc (.cells (madeCells #[.int .i64 0] L) 3)) (w.heap.size + 1) L (List.replicate L 0) := by
    have h := BlkS.made (w.alloc (.cells (madeCells #[.bool false] L) 4)) L
    simp only [World.size_alloc] at h
    exact ⟨_, h, by simp, by simp, by simp⟩
  have HB0 := Lib.hid hb0
  have HM0 := Lib.hid hm0
  have HP0 := Lib.hid hp0
  clear hb0 hm0 hp0 hmk1 hmk2
  go_loopw [6, 7, 16] (fun _ _ i wr => ∃ (k : Nat) (M : List Bool) (zs : List Int), i = .int .i64 (k : Int) ∧ k ≤ L ∧ MrkS wr w.heap.size M ∧ SeenM p L k M ∧ PartS wr (w.heap.size + 1) L zs ∧ SeenP p L k zs ∧ Below w.heap.size w wr) (fun _ _ i _ => L - (intOf i).toNat)
  case atStart => exact ⟨0, _, _, rfl, Nat.zero_le _, HM0.out, SeenM.nil p L, HP0.out, SeenP.nil p L, HB0.out⟩
  case round =>
    obtain ⟨k, M, zs, rfl, hk, hM, hS, hP, hQ, hb⟩ := hrel
    have hsz := hb.size
    have HMK := Lib.hid hM
    have HS := Lib.hid hS
    have HP := Lib.hid hP
    have HQ := Lib.hid hQ
    clear hS hQ
    by_cases hlt : k < L
    · obtain ⟨b1, o1, rfl, c1⟩ := (HA.out.later hb).at (i := k) (by rw [HL.out]; exact hlt)
      have hxx := getD_some (xs := p) (k := k) (by rw [HL.out]; exact hlt)
      obtain ⟨x, hxe⟩ : ∃ x, p.getD k 0 = x := ⟨_, rfl⟩
      rw [hxe] at c1 hxx
      have HX := Lib.hid hxx
      have HXE := Lib.hid hxe
      have hbw := below_any x (L : Int) wr
      have hltI : (k : Int) < (L : Int) := by omega
      clear hxx hxe
      by_cases hg : 0 ≤ x ∧ x < L
      · obtain ⟨g0, g1⟩ := hg
        rw [belowB_yes g0 g1] at hbw
        obtain ⟨j, rfl⟩ : ∃ j : Nat, x = (j : Int) := ⟨x.toNat, by omega⟩
        have hj : j < L := by omega
        have hf := hM.free j
        have hcj := hM.cell j (by rw [HS.out.1]; exact hj)
        rw [HS.out.2 j hj] at hcj
        by_cases hmem : (j : Int) ∈ p.take k
        · rw [decide_eq_true hmem] at hcj
          have hno : ¬ IsPerm p := not_twice (k := k) (by rw [HL.out]; exact hlt) (by rw [HXE.out]; exact hmem)
          obtain rfl : c = 11 := by rw [← HC.out]; exact permC_no hno _
          obtain rfl : r = [] := by rw [← HR.out]; exact invV_no hno
          clear hM hP hmem hno
          go_wp2_with (go_at_call 110; refine hbw.mono ?_; rintro e w1 ⟨rfl, rfl⟩)
          go_ret2
          exact ⟨_, rfl, ResS.nil _ _, hb⟩
        · rw [decide_eq_false hmem] at hcj
          have hP1 := hP.far (p := ⟨w.heap.size, j, none⟩) (by show w.heap.size + 1 ≠ w.heap.size; omega) (.bool true)
          have hf2 := hP1.free j
          have hc2 := hP1.cell j (by rw [HQ.out.1]; exact hj)
          have HP1 := Lib.hid hP1
          have HME := Lib.hid hmem
          have hkp : k < p.length := by rw [HL.out]; exact hlt
          have HKP := Lib.hid hkp
          clear hM hP hP1 hmem hkp
          go_wp2_with (go_at_call 110; refine hbw.mono ?_; rintro e w1 ⟨rfl, rfl⟩)
          go_roundw
          case rel =>
            refine ⟨k + 1, _, _, by go_num, by omega, ((HMK.out.set j true).far ?_ _), HS.out.mark HX.out hj, HP1.out.set j (by rw [HQ.out.1]; exact hj) (k : Int), HQ.out.next HKP.out HX.out hj HME.out, ?_⟩
            · show w.heap.size ≠ w.heap.size + 1
              omega
            · exact (hb.setCell (Nat.le_refl _) _).setCell (by show w.heap.size ≤ w.heap.size + 1; omega) _
          case measure => simp [intOf]; omega
      · rw [belowB_no (by omega)] at hbw
        have hno : ¬ IsPerm p := fun ip => by
          have h := (ip.mem x).1 (by rw [← HXE.out, getD_elem (by rw [HL.out]; exact hlt)]; exact List.getElem_mem _)
          rw [HL.out] at h
          exact hg h
        obtain rfl : c = 11 := by rw [← HC.out]; exact permC_no hno _
        obtain rfl : r = [] := by rw [← HR.out]; exact invV_no hno
        clear hM hP hno hg
        go_wp2_with (go_at_call 110; refine hbw.mono ?_; rintro e w1 ⟨rfl, rfl⟩)
        go_ret2
        exact ⟨_, rfl, ResS.nil _ _, hb⟩
    · obtain rfl : k = L := by omega
      obtain ⟨ip, hzs⟩ := HQ.out.full HL.out
      obtain rfl : c = 0 := by rw [← HC.out]; exact permC_yes ip
      have hzr : zs = r := by rw [← HR.out, invV_yes ip]; exact hzs
      have hltI : ¬ (k : Int) < (k : Int) := by omega
      have hwid : Wid zs := by
        rw [hzs]
        intro x hx2
        have := (ip.inv.mem x).1 hx2
        rw [invL_length, HL.out] at this
        omega
      have HW := Lib.hid hwid
      clear hM hP ip hzs hwid
      go_wp2
      go_ret2
      have hn := HP.out.num (base := w.heap.size) (by omega) (by unfold maxLen; omega)
      rw [HQ.out.1] at hn
      exact ⟨_, rfl, by rw [← hzr]; exact ⟨hn, HW.out⟩, hb⟩
set_option maxRecDepth 100000 in
set_option maxHeartbeats 2000000 in
theorem perm9_any {u : Value} {p : List Int} {a : Option Addr} {ca : Nat} {w : World} (rank : Int) (A : ArgS w u p a ca) (ha : a = none → ca = 0) (hx : p.length ≤ 8000000) (h0 : -9223372036854775808 ≤ rank) (h1 : rank ≤ 9223372036854775807) :
    Calls Tryz.prog 41 #[u, .int .i64 rank] w fun e w' => e = .returned (.int .i64 (permC p rank)) ∧ Below w.heap.size w w' := by
  have hv := inverse9_any A ha hx
  obtain rfl := A.is
  obtain ⟨c, hc⟩ : ∃ c, permC p rank = c := ⟨_, rfl⟩
  obtain ⟨d, hd⟩ : ∃ d, permC p p.length = d := ⟨_, rfl⟩
  obtain ⟨z, hz⟩ : ∃ z, invV p = z := ⟨_, rfl⟩
  obtain ⟨m, hm⟩ : ∃ m, max rank 0 = m := ⟨_, rfl⟩
  have h2 : (p.length : Int) ≠ m → c = 11 := fun h => by
    rw [← hc]
    unfold permC
    rw [if_neg]
    intro e
    unfold permB at e
    rw [Bool.and_eq_true, decide_eq_true_iff, decide_eq_true_iff] at e
    exact h (e.2.trans hm)
  have h3 : (p.length : Int) = m → c = d := fun h => by
    rw [← hc, ← hd]
    unfold permC permB
    rw [show max rank 0 = max (p.length : Int) 0 by omega]
  rw [hd, hz] at hv
  rw [hc]
  obtain ⟨L, hL⟩ : ∃ L, p.length = L := ⟨_, rfl⟩
  rw [hL] at hv h2 h3 ⊢
  clear A ha hx hc hd hz hL
  by_cases h : (L : Int) = m
  · obtain rfl := h3 h
    have hne : ((L : Int) != m) = false := by simpa using h
    clear h h2 h3
    go_enter Tryz.func41, Tryz.ntmps41
    go_wp2_with (go_at_call 84; refine hv.mono ?_; rintro e w1 ⟨r, rfl, R, hb⟩)
    all_goals (go_ret; exact ⟨rfl, hb⟩)
  · obtain rfl := h2 h
    have hne : ((L : Int) != m) = true := by simpa using h
    clear h h2 h3
    go_enter Tryz.func41, Tryz.ntmps41
    go_wp2
    all_goals (go_ret; exact ⟨rfl, Below.refl _ _⟩)
end
end Go.Proofs.YtooglnhlhgmhdaaGreat
