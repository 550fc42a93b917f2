/-
  Part 28 of 29: contracts and what they rest on (GWFind, GOpen).
-/
import Derived.Test.YtjgiacghlkkjfaaGreatDoorF1
import Derived.Test.YtjgiacghlkkjfaaGreatDoorF2
import Derived.Test.YtjgiacghlkkjfaaGreatDoorF3
import Derived.Test.YtjgiacghlkkjfaaGreatDoorF4
import Derived.Test.YtjgiacghlkkjfaaGreatDoorF7
import Derived.Test.YtjgiacghlkkjfaaGreatDoorF8
import Derived.Test.YtjgiacghlkkjfaaGreatDoorF9
import Derived.Test.YtjgiacghlkkjfaaGreatDoorF10
import Derived.Test.YtjgiacghlkkjfaaGreatDoorF11
import Derived.Test.YtjgiacghlkkjfaaGreatDoorF13
import Derived.Test.YtjgiacghlkkjfaaGreatDoorF14
import Derived.Test.YtjgiacghlkkjfaaGreatDoorF15
import Derived.Test.YtjgiacghlkkjfaaGreatDoorF16
import Derived.Test.YtjgiacghlkkjfaaGreatDoorF18
import Derived.Test.YtjgiacghlkkjfaaGreatDoorF19
import Derived.Test.YtjgiacghlkkjfaaGreatDoorF21
import Derived.Test.YtjgiacghlkkjfaaGreatDoorF23
import Derived.Test.YtjgiacghlkkjfaaGreatDoorF24
import Derived.Test.YtjgiacghlkkjfaaGreatDoorF27
import Derived.WalkKit
import Derived.Test.YtjgiacghlkkjfaaGreatDoorRows
import Derived.OrdersHeld
import Derived.Deep.RegionHeld
import Derived.BigQuiet
import Derived.Deep.QuietTactic
import Derived.Lib.Hide
import Derived.Lib.Small
import Derived.Lib.Walk
import Derived.Lib.BitFns
import Derived.Maps.AppendAt
import Derived.RangeFuncNested
import Derived.RangeFuncBound
import Derived.RangeFuncCalls
import Derived.RangeFuncLeaves
import Derived.Shelf.Abstract
import Derived.OwnWalkIn
import Derived.TacticsInMore
import Derived.LoopNIn
import Derived.LoopIn
import Derived.RangeFuncBox
import Derived.Deep.RegionHeld3
import Derived.OrdersIn
import Derived.StillTailTactics
import Derived.RangeFuncFrom
import Derived.Laws.EntriesVeiled
import Derived.ProofKit
import Derived.OpenShut
import Derived.JoinedCond
import Derived.Carry
import Derived.Laws.AppendOwnNone
import Derived.Lib.ItoaNum
import Derived.Deep.RegionLaw
import Derived.WalkMore
import Derived.Lib.SmallJoins
import Derived.IntWalk
import Derived.Deep.DeepCutAuto
import Derived.Laws.OwnMore
import Derived.ArgAppend
import Derived.Deep.Slices
import Derived.Laws.CopyOwn
import Derived.Lib.SliceRun
import Derived.SizedLaws
import Derived.Great.BuildSlice
import Derived.Defers
import Derived.Recover
import Derived.Shelf.Small.Wraps
import Derived.Shelf.Strconv.Itoa3
import Derived.Shelf.Strconv.AtoiAll
import Derived.Laws.RangeAny
import Derived.Lib.AppendZerosOnto
import Derived.Maps.OwnSet
import Derived.Maps.Views
namespace Go.Proofs.YtjgiacghlkkjfaaGreatDoor
set_option maxRecDepth 100000
section
open Go.RowKit
set_option linter.unusedVariables false
set_option linter.unusedSimpArgs false
set_option maxRecDepth 100000 in
set_option maxHeartbeats 40000000 in
theorem graphFinds_walk {g : GrD} {A : AdG} {w : World} (s : ByteArray) (hs : s.size ≤ 140737488355328) (H : GrA w g A) (hp0 : g.ps.length ≤ 17592186044416) (hw0 : g.ws.length ≤ 17592186044416) (hq0 : g.b.ns.length ≤ 17592186044416) (G : Glb w) : Calls Tryz.prog 5 #[.agg (cellsG g A), .string s] w fun e w' => e = .returned (.bool true) ∧ Below w.heap.size w w' := by
  obtain ⟨gv, hgv⟩ : ∃ n, g.v = n := ⟨_, rfl⟩
  obtain ⟨np, hnp⟩ : ∃ n, g.ps.length = n := ⟨_, rfl⟩
  obtain ⟨nw, hnw⟩ : ∃ n, g.ws.length = n := ⟨_, rfl⟩
  obtain ⟨nn, hnn1⟩ : ∃ n, g.b.ns.length = n := ⟨_, rfl⟩
  obtain ⟨no, hno⟩ : ∃ n, g.b.os.length = n := ⟨_, rfl⟩
  obtain ⟨nv, hnv⟩ : ∃ n, g.vb.ns.length = n := ⟨_, rfl⟩
  obtain ⟨nu, hnu⟩ : ∃ n, g.vb.os.length = n := ⟨_, rfl⟩
  obtain ⟨hv, hhv⟩ : ∃ n, g.hv = n := ⟨_, rfl⟩
  have hcl : cellsG g A = #[.int .i64 gv, .slice A.pa np A.pc, .slice A.wa nw A.wc, .slice A.na nn A.nc, .slice A.oa no A.oc, .bool hv, .slice A.va nv A.vc, .slice A.ua nu A.uc] := by unfold cellsG; rw [hgv, hnp, hnw, hnn1, hno, hnv, hnu, hhv]
  obtain ⟨W, hW⟩ : ∃ W, w.alloc (.cells (cellsG g A) 29) = W := ⟨_, rfl⟩
  have R0 : Row W w.heap.size 29 (cellsG g A) := by rw [← hW]; exact Row.new _ _ _
  have hbW : Below w.heap.size w W := by rw [← hW]; exact (Below.refl _ _).alloc (Nat.le_refl _) _
  have hf1 := fun X (hX : Below w.heap.size w X) => findG_any s (H.later hX) hp0 hw0
  have hf2 := fun X (hX : Below w.heap.size w X) => findR_any s (H.later hX) hp0 hw0
  have hrf := fun (X : World) (hX : Below w.heap.size w X) => refs_any (w := X) (A := A) hp0 hw0 hq0
  rw [hnp, hnw, hnn1] at hrf
  simp only [Int.natCast_add] at hrf
  rw [hcl] at hW R0 hf1 hf2 hrf ⊢
  obtain ⟨pl, hpl⟩ : ∃ b, plainB (nmL s) = b := ⟨_, rfl⟩
  have hnm := fun X => nameG_any s X hs
  have hpr := fun X => plainR_any s X hs
  rw [hpl] at hnm hpr
  have HNM := Lib.hid hnm
  have HPL := Lib.hid hpr
  have HF1 := Lib.hid hf1
  have HF2 := Lib.hid hf2
  have HRF0 := Lib.hid hrf
  have HG := Lib.hid G
  have hp := hp0
  have hw := hw0
  have hq := hq0
  rw [hnp] at hp
  rw [hnw] at hw
  rw [hnn1] at hq
  have HR0 := Lib.hid R0
  have HWR1 := Lib.hid (show IntKind.i64.wrap ((np : Int) + (nw : Int)) = (np : Int) + (nw : Int) from IntWalk.i64_in _ (by omega))
  have HWR2 := Lib.hid (show IntKind.i64.wrap ((np : Int) + (nw : Int) + (nn : Int)) = (np : Int) + (nw : Int) + (nn : Int) from IntWalk.i64_in _ (by omega))
  have HBW := Lib.hid hbW
  have k0 := R0.cell 0
  have k1 := R0.cell 1
  have k2 := R0.cell 2
  have k3 := R0.cell 3
  have k4 := R0.cell 4
  have k5 := R0.cell 5
  have k6 := R0.cell 6
  have k7 := R0.cell 7
  simp only [List.getElem?_toArray, List.getElem?_cons_zero, List.getElem?_cons_succ] at k0 k1 k2 k3 k4 k5 k6 k7
  clear H hp0 hw0 hq0 G hcl hgv hnp hnw hnn1 hno hnv hnu hhv R0 hbW hf1 hf2 hrf hnm hpr hpl
  go_enter Tryz.func5, Tryz.ntmps5
  (try rw [hW])
  go_wp2_with fail
  (try rw [hW])
  clear hW k0 k1 k2 k3 k4 k5 k6 k7
  refine (HF1.out _ HBW.out).mono ?_
  rintro e y1 ⟨r, c, rfl, f1, hy1⟩
  have hb1 := HBW.out.trans (hy1.mono HBW.out.size)
  have R1 := HR0.out.later hy1
  have HFA := Lib.hid f1
  have HB1 := Lib.hid hb1
  have HY1 := Lib.hid hy1
  have k0 := R1.cell 0
  have k1 := R1.cell 1
  have k2 := R1.cell 2
  have k3 := R1.cell 3
  have k4 := R1.cell 4
  have k5 := R1.cell 5
  have k6 := R1.cell 6
  have k7 := R1.cell 7
  simp only [List.getElem?_toArray, List.getElem?_cons_zero, List.getElem?_cons_succ] at k0 k1 k2 k3 k4 k5 k6 k7
  clear f1 hy1 hb1 R1
  go_wp2_with fail
  clear k0 k1 k2 k3 k4 k5 k6 k7
  refine (HF2.out _ HB1.out).mono ?_
  rintro e y2 ⟨r2, c2, rfl, f2, hy2⟩
  obtain ⟨hr, hc⟩ := FoundAt.same HFA.out f2
  subst hr
  subst hc
  have hb2 := HB1.out.trans (hy2.mono HB1.out.size)
  have HB2 := Lib.hid hb2
  have HR2 := Lib.hid (HR0.out.later (HY1.out.trans (hy2.mono HY1.out.size)))
  have MK := Lib.hid (show ∀ X, Below y2.heap.size y2 X → (fun X => X.cell? ⟨w.heap.size, 0, none⟩ = some (.int .i64 gv) ∧ X.cell? ⟨w.heap.size, 1, none⟩ = some (.slice A.pa np A.pc) ∧ X.cell? ⟨w.heap.size, 2, none⟩ = some (.slice A.wa nw A.wc) ∧ X.cell? ⟨w.heap.size, 3, none⟩ = some (.slice A.na nn A.nc) ∧ X.cell? ⟨w.heap.size, 4, none⟩ = some (.slice A.oa no A.oc) ∧ X.cell? ⟨w.heap.size, 5, none⟩ = some (.bool hv) ∧ X.cell? ⟨w.heap.size, 6, none⟩ = some (.slice A.va nv A.vc) ∧ X.cell? ⟨w.heap.size, 7, none⟩ = some (.slice A.ua nu A.uc)) X from fun X hX => by
    have R := HR2.out.later hX
    exact ⟨R.cell 0, R.cell 1, R.cell 2, R.cell 3, R.cell 4, R.cell 5, R.cell 6, R.cell 7⟩)
  have HRF := Lib.hid (show ∀ X, Below y2.heap.size y2 X → _ from fun X hX => HRF0.out X (HB2.out.trans (hX.mono HB2.out.size)))
  have HKN := Lib.hid (show ∀ X, Below y2.heap.size y2 X → _ from fun X hX => known_any X (HG.out.later (HB2.out.trans (hX.mono HB2.out.size))))
  clear f2 hy2 hb2
  go_upto_region 3 with fail
  have C0 : Below y2.heap.size y2 y2.drew := (Below.refl _ _).drew
  refine wp_region_held_drew (S := fun X => X.cell? ⟨w.heap.size, 0, none⟩ = some (.int .i64 gv) ∧ X.cell? ⟨w.heap.size, 1, none⟩ = some (.slice A.pa np A.pc) ∧ X.cell? ⟨w.heap.size, 2, none⟩ = some (.slice A.wa nw A.wc) ∧ X.cell? ⟨w.heap.size, 3, none⟩ = some (.slice A.na nn A.nc) ∧ X.cell? ⟨w.heap.size, 4, none⟩ = some (.slice A.oa no A.oc) ∧ X.cell? ⟨w.heap.size, 5, none⟩ = some (.bool hv) ∧ X.cell? ⟨w.heap.size, 6, none⟩ = some (.slice A.va nv A.vc) ∧ X.cell? ⟨w.heap.size, 7, none⟩ = some (.slice A.ua nu A.uc)) (by kernel_rfl) (MK.out _ C0) (fun hHeld => ?_)
  obtain ⟨z0, hdrr⟩ : ∃ Y, y2.drew = Y := ⟨_, rfl⟩
  rw [hdrr] at C0 hHeld ⊢
  clear hdrr
  refine todo [0, 1, 2, 3, 4, 5, 6, 7, 8, 9, 11, 12, 13, 14, 15, 16, 17, 18, 19, 20, 21, 22] ?_
  iterate 22
   refine todoH (v := ?_) rfl (by kernel_rfl) (fun _ _ _ h => h) (by assumption) (Or.inl ⟨by rfl, ?_⟩) ?_
   rotate_left
   · intro w hSw; (try dsimp only at hSw); go_simp; (try with_reducible rfl)
   try simp only [Act.put, List.getElem_toArray, List.getElem_cons_succ, List.getElem_cons_zero, List.setIfInBounds_toArray, List.set_cons_zero, List.set_cons_succ]
  refine todone ?_
  rw [HWR1.out]
  rw [HWR2.out]
  refine wpAnyH_ready (rs := [10]) (by kernel_rfl) (by simp) ?_
  refine AllReadyH.cons rfl (fun K hK => ?sr_10) AllReadyH.nil
  go_simp
  refine (HRF.out _ C0).mono ?_
  rintro e z1 ⟨rfl, hy⟩
  have C1 : Below y2.heap.size y2 z1 := C0.trans (hy.mono C0.size)
  have Dr1 := hy
  clear hy
  go_simp
  refine hK.out _ _ (MK.out _ C1) (fun hHeld2 => ?mr_10)
  clear hK K hHeld
  have hHeld := hHeld2
  clear hHeld2
  try simp only [Act.put, List.getElem_toArray, List.getElem_cons_succ, List.getElem_cons_zero, List.setIfInBounds_toArray, List.set_cons_zero, List.set_cons_succ]
  refine todo [23, 24, 25, 26, 28] ?_
  iterate 5
   refine todoH (v := ?_) rfl (by kernel_rfl) (fun _ _ _ h => h) (by assumption) (Or.inl ⟨by rfl, ?_⟩) ?_
   rotate_left
   · intro w hSw; (try dsimp only at hSw); go_simp; (try with_reducible rfl)
   try simp only [Act.put, List.getElem_toArray, List.getElem_cons_succ, List.getElem_cons_zero, List.setIfInBounds_toArray, List.set_cons_zero, List.set_cons_succ]
  refine todone ?_
  refine wpAnyH_ready (rs := [27]) (by kernel_rfl) (by simp) ?_
  refine AllReadyH.cons rfl (fun K hK => ?sr_27) AllReadyH.nil
  go_simp
  refine (HNM.out _).mono ?_
  rintro e z2 ⟨rfl, hy⟩
  have C2 : Below y2.heap.size y2 z2 := C1.trans (hy.mono C1.size)
  have Dr2 := hy
  clear hy
  go_simp
  refine hK.out _ _ (MK.out _ C2) (fun hHeld2 => ?mr_27)
  clear hK K hHeld
  have hHeld := hHeld2
  clear hHeld2
  try simp only [Act.put, List.getElem_toArray, List.getElem_cons_succ, List.getElem_cons_zero, List.setIfInBounds_toArray, List.set_cons_zero, List.set_cons_succ]
  refine wpAnyH_ready (rs := [29]) (by kernel_rfl) (by simp) ?_
  refine AllReadyH.cons rfl (fun K hK => ?sr_29) AllReadyH.nil
  go_simp
  refine (HPL.out _).mono ?_
  rintro e z3 ⟨rfl, hy⟩
  have C3 : Below y2.heap.size y2 z3 := C2.trans (hy.mono C2.size)
  have Dr3 := hy
  clear hy
  go_simp
  refine hK.out _ _ (MK.out _ C3) (fun hHeld2 => ?mr_29)
  clear hK K hHeld
  have hHeld := hHeld2
  clear hHeld2
  try simp only [Act.put, List.getElem_toArray, List.getElem_cons_succ, List.getElem_cons_zero, List.setIfInBounds_toArray, List.set_cons_zero, List.set_cons_succ]
  refine todo [30, 31, 32] ?_
  iterate 3
   refine todoH (v := ?_) rfl (by kernel_rfl) (fun _ _ _ h => h) (by assumption) (Or.inl ⟨by rfl, ?_⟩) ?_
   rotate_left
   · intro w hSw; (try dsimp only at hSw); go_simp; (try with_reducible rfl)
   try simp only [Act.put, List.getElem_toArray, List.getElem_cons_succ, List.getElem_cons_zero, List.setIfInBounds_toArray, List.set_cons_zero, List.set_cons_succ]
  refine todone ?_
  refine wpAnyH_ready (rs := [33]) (by kernel_rfl) (by simp) ?_
  refine AllReadyH.cons rfl (fun K hK => ?sr_33) AllReadyH.nil
  go_simp
  refine (HKN.out _ C3).mono ?_
  rintro e z4 ⟨rfl, hy⟩
  have C4 : Below y2.heap.size y2 z4 := C3.trans (hy.mono C3.size)
  have Dr4 := hy
  clear hy
  go_simp
  refine hK.out _ _ (MK.out _ C4) (fun hHeld2 => ?mr_33)
  clear hK K hHeld
  have hHeld := hHeld2
  clear hHeld2
  try simp only [Act.put, List.getElem_toArray, List.getElem_cons_succ, List.getElem_cons_zero, List.setIfInBounds_toArray, List.set_cons_zero, List.set_cons_succ]
  refine todo [34] ?_
  iterate 1
   refine todoH (v := ?_) rfl (by kernel_rfl) (fun _ _ _ h => h) (by assumption) (Or.inl ⟨by rfl, ?_⟩) ?_
   rotate_left
   · intro w hSw; (try dsimp only at hSw); go_simp; (try with_reducible rfl)
   try simp only [Act.put, List.getElem_toArray, List.getElem_cons_succ, List.getElem_cons_zero, List.setIfInBounds_toArray, List.set_cons_zero, List.set_cons_succ]
  refine todone ?_
  refine wpAnyH_ready (rs := [35]) (by kernel_rfl) (by simp) ?_
  refine AllReadyH.cons rfl (fun K hK => ?sr_35) AllReadyH.nil
  go_simp
  refine hK.out _ _ (MK.out _ C4) (fun hHeld2 => ?mr_35)
  clear hK K hHeld
  have hHeld := hHeld2
  clear hHeld2
  try simp only [Act.put, List.getElem_toArray, List.getElem_cons_succ, List.getElem_cons_zero, List.setIfInBounds_toArray, List.set_cons_zero, List.set_cons_succ]
  refine wpAnyH_done (by kernel_rfl) ?_ _
  (try dsimp only [Straight])
  go_wp2_with fail
  go_ret
  exact ⟨rfl, HB2.out.trans (C4.mono HB2.out.size)⟩
end
section
open Go.RowKit Go.ChangeShapes Go.WideShapes Go.ChangeAt Go.Joins Go.Deep
set_option linter.unusedVariables false
set_option linter.unusedSimpArgs false
set_option maxRecDepth 100000
/-- a row of structs, as it came in -/
theorem open_rowK {α : Type} {H : Type} {enc : TypeId × Value → H} {W : World} {T E : TypeId} {k : Nat} (P : World → Nat → Nat → α → Prop) (Lm : α → Prop) (hT : Tryz.prog.underlying T = some (.slice E)) (hE : Tryz.prog.cellsOf E = k) (hk : 0 < k)
    (hel : ∀ (n : Nat) (cs : List Value) (y : DataW H × List MemPlace) (b o : Nat), DataW.trod enc Tryz.prog W 0 (fun _ => true) true n E cs = some y → cs.length = k → (∀ m ∈ DataW.weights Tryz.prog E y.1, m ≤ 140737488351232) → (∀ j u, cs[j]? = some u → W.cell? ⟨b, o + j, none⟩ = some u) → ∃ x, P W b o x ∧ Lm x)
    {v : Value} {y : DataW H × List MemPlace} {fuel : Nat} (hf : DataW.trod enc Tryz.prog W 0 (fun _ => true) true fuel T [v] = some y) (hw : ∀ m ∈ DataW.weights Tryz.prog T y.1, m ≤ 140737488351232) :
    ∃ (ad : Option Addr) (l : List α) (cap : Nat), v = .slice ad l.length cap ∧ RowK k P W l ad cap ∧ (∀ x ∈ l, Lm x) ∧ l.length * Tryz.prog.bytesOf E ≤ 140737488351232 := by
  rcases open_slice hT hf with ⟨hcs, hx⟩ | ⟨a, len, cap, m, n, D, Pl, hcs, hb, hl, hm, hmm, hx, hi⟩
  · simp only [List.cons.injEq, and_true] at hcs
    subst hcs
    exact ⟨none, [], 0, rfl, ⟨Nat.le_refl _, fun _ => rfl, .inl rfl⟩, (fun x h => by cases h), by simp⟩
  · simp only [List.cons.injEq, and_true] at hcs
    subst hcs
    subst hx
    simp only [if_true] at hmm
    rw [hE] at hi
    simp only [DataW.weights, hT] at hw
    have hlen : len * Tryz.prog.bytesOf E ≤ 140737488351232 := by
      have h1 := hw _ (List.mem_cons_self ..)
      simp only [List.length_map, List.length_range] at h1
      exact Nat.le_trans (Nat.mul_le_mul_right _ (Nat.le_add_right _ _)) h1
    by_cases h0 : len = 0
    · subst h0
      exact ⟨some a, [], cap, rfl, ⟨Nat.zero_le _, (fun h => by cases h), .inl rfl⟩, (fun x h => by cases h), by simp⟩
    have hat : ∀ i, i < len → ∃ cs', DataW.trod enc Tryz.prog W 0 (fun _ => true) true n E cs' = some (D i, Pl i) ∧ cs'.length = k ∧ ∀ j u, cs'[j]? = some u → W.cell? ((a.add (i * k)).add j) = some u := fun i hlt => by
      obtain ⟨cs', hc, ht⟩ := hi i (by omega)
      obtain ⟨_, hcl, hat⟩ := World.cells?_some hc
      exact ⟨cs', ht, hcl, fun j u hj => by
        have hjl : j < cs'.length := (List.getElem?_eq_some_iff.1 hj).1
        have h := hat j (by omega)
        rw [hj] at h
        exact h⟩
    have hp : ∃ b o, a = ⟨b, o, none⟩ := by
      obtain ⟨cs', _, h1, h2⟩ := hat 0 (by omega)
      have h3 := h2 0 (cs'[0]'(by omega)) (List.getElem?_eq_getElem (by omega))
      obtain ⟨b, off, spot⟩ := a
      have hspot : spot = none := by simpa [Addr.add] using World.cell?_spot h3
      subst hspot
      exact ⟨b, off, rfl⟩
    obtain ⟨b, o, rfl⟩ := hp
    obtain ⟨l, hl1, hl2⟩ := listOf13 (R := fun i x => P W b (o + i * k) x ∧ Lm x) len (fun i hlt => by
      obtain ⟨cs', ht, hcl, hc⟩ := hat i hlt
      refine hel n cs' _ b (o + i * k) ht hcl (fun q hq => ?_) (fun j u hj => ?_)
      · refine hw q (List.mem_cons_of_mem _ (List.mem_append_left _ (weightsAll_in (d := D i) ?_ q hq)))
        exact List.mem_map.2 ⟨i, List.mem_range.2 hlt, rfl⟩
      · have h := hc j u hj
        rw [add_plain, add_plain] at h
        exact h)
    refine ⟨some ⟨b, o, none⟩, l, cap, by rw [hl1], ⟨by rw [hl1]; exact hl, (fun h => by cases h), .inr ⟨b, o, rfl, fun i x hx => (hl2 i x hx).1⟩⟩, fun x hx => ?_, by rw [hl1]; exact hlen⟩
    obtain ⟨i, hi2, rfl⟩ := List.mem_iff_getElem.1 hx
    exact (hl2 i _ (List.getElem?_eq_getElem hi2)).2
def LimPo (x : PoD) : Prop := x.nm.size ≤ 140737488351232 ∧ x.s.length ≤ 17592186043904
def LimWe (x : WeD) : Prop := x.nm.size ≤ 140737488351232 ∧ x.s.length ≤ 17592186043904
def LimNo (x : NoD) : Prop := x.ys.length ≤ 17592186043904 ∧ x.xs.length ≤ 17592186043904
theorem cellsPort13 : Tryz.prog.cellsOf 74 = 2 := by kernel_rfl
theorem cellsWeight13 : Tryz.prog.cellsOf 67 = 3 := by kernel_rfl
theorem bytesPort13 : Tryz.prog.bytesOf 74 = 40 := by kernel_rfl
theorem bytesWeight13 : Tryz.prog.bytesOf 67 = 64 := by kernel_rfl
theorem bytesNode13 : Tryz.prog.bytesOf 46 = 56 := by kernel_rfl
theorem open_str13 {H : Type} {enc : TypeId × Value → H} {W : World} {v : Value} {y : DataW H × List MemPlace} {fuel : Nat} (hf : DataW.trod enc Tryz.prog W 0 (fun _ => true) true fuel 9 [v] = some y) (hw : ∀ m ∈ DataW.weights Tryz.prog 9 y.1, m ≤ 140737488351232) : ∃ s : ByteArray, v = .string s ∧ s.size ≤ 140737488351232 := by
  obtain ⟨s, h, hx, hs⟩ := DataW.trod_string Tryz.underlying9 hf
  simp only [List.cons.injEq, and_true] at h
  subst h
  subst hx
  refine ⟨s, rfl, ?_⟩
  have := hw s.data.toList.length (by simp [DataW.weights])
  obtain ⟨⟨s⟩⟩ := s
  exact this
theorem el_port {H : Type} {enc : TypeId × Value → H} {W : World} (n : Nat) (cs : List Value) (y : DataW H × List MemPlace) (b o : Nat) (ht : DataW.trod enc Tryz.prog W 0 (fun _ => true) true n 74 cs = some y) (hl : cs.length = 2) (hw : ∀ m ∈ DataW.weights Tryz.prog 74 y.1, m ≤ 140737488351232) (hc : ∀ j u, cs[j]? = some u → W.cell? ⟨b, o + j, none⟩ = some u) : ∃ x, PortK W b o x ∧ LimPo x := by
  obtain ⟨xs, n', _, hy, _, hyl, hfd⟩ := DataW.trod_struct Tryz.underlying74 ht
  match cs, hl with
  | [c0, c1], _ =>
    match xs, (show xs.length = 2 from hyl) with
    | [y0, y1], _ =>
      have h0 : DataW.trod enc Tryz.prog W 0 (fun _ => true) true n' 9 [c0] = some y0 := hfd 0 _ rfl
      have h1 : DataW.trod enc Tryz.prog W 0 (fun _ => true) true n' 43 [c1] = some y1 := hfd 1 _ rfl
      subst hy
      simp only [DataW.weights, Tryz.underlying74] at hw
      obtain ⟨s, rfl, hs⟩ := open_str13 h0 (fun m hm => hw m (DataW.weights_mem_each (j := 0) rfl rfl m hm))
      obtain ⟨a, xs, ca, rfl, A, l1, n1⟩ := open_intsW Tryz.underlying43 h1
      exact ⟨⟨s, xs⟩, ⟨a, ca, hc 0 _ rfl, hc 1 _ rfl, A, n1⟩, hs, reach_in (k := 0) (fun m hm => hw m (DataW.weights_mem_each (j := 1) rfl rfl m hm)) l1⟩
theorem el_node {H : Type} {enc : TypeId × Value → H} {W : World} (n : Nat) (cs : List Value) (y : DataW H × List MemPlace) (b o : Nat) (ht : DataW.trod enc Tryz.prog W 0 (fun _ => true) true n 46 cs = some y) (hl : cs.length = 3) (hw : ∀ m ∈ DataW.weights Tryz.prog 46 y.1, m ≤ 140737488351232) (hc : ∀ j u, cs[j]? = some u → W.cell? ⟨b, o + j, none⟩ = some u) : ∃ x, NodK W b o x ∧ LimNo x := by
  obtain ⟨xs, n', _, hy, _, hyl, hfd⟩ := DataW.trod_struct Tryz.underlying46 ht
  match cs, hl with
  | [c0, c1, c2], _ =>
    match xs, (show xs.length = 3 from hyl) with
    | [y0, y1, y2], _ =>
      have h0 : DataW.trod enc Tryz.prog W 0 (fun _ => true) true n' 44 [c0] = some y0 := hfd 0 _ rfl
      have h1 : DataW.trod enc Tryz.prog W 0 (fun _ => true) true n' 25 [c1] = some y1 := hfd 1 _ rfl
      have h2 : DataW.trod enc Tryz.prog W 0 (fun _ => true) true n' 25 [c2] = some y2 := hfd 2 _ rfl
      subst hy
      simp only [DataW.weights, Tryz.underlying46] at hw
      obtain ⟨q, ho, _⟩ := DataW.trod_int Tryz.underlying44 h0
      simp only [List.cons.injEq, and_true] at ho
      subst ho
      obtain ⟨a, ys, ca, rfl, A, l1, n1⟩ := open_intsW Tryz.underlying25 h1
      obtain ⟨d, xs, cd, rfl, B, l2, n2⟩ := open_intsW Tryz.underlying25 h2
      exact ⟨⟨q, ys, xs⟩, ⟨a, ca, d, cd, hc 0 _ rfl, hc 1 _ rfl, hc 2 _ rfl, A, n1, B, n2⟩, reach_in (k := 0) (fun m hm => hw m (DataW.weights_mem_each (j := 1) rfl rfl m hm)) l1, reach_in (k := 0) (fun m hm => hw m (DataW.weights_mem_each (j := 2) rfl rfl m hm)) l2⟩
theorem el_wgt {H : Type} {enc : TypeId × Value → H} {W : World} (n : Nat) (cs : List Value) (y : DataW H × List MemPlace) (b o : Nat) (ht : DataW.trod enc Tryz.prog W 0 (fun _ => true) true n 67 cs = some y) (hl : cs.length = 3) (hw : ∀ m ∈ DataW.weights Tryz.prog 67 y.1, m ≤ 140737488351232) (hc : ∀ j u, cs[j]? = some u → W.cell? ⟨b, o + j, none⟩ = some u) : ∃ x, WgtK W b o x ∧ LimWe x := by
  obtain ⟨xs, n', _, hy, _, hyl, hfd⟩ := DataW.trod_struct Tryz.underlying67 ht
  match cs, hl with
  | [c0, c1, c2], _ =>
    match xs, (show xs.length = 2 from hyl) with
    | [y0, y1], _ =>
      have h0 : DataW.trod enc Tryz.prog W 0 (fun _ => true) true n' 9 [c0] = some y0 := hfd 0 _ rfl
      have h1 : DataW.trod enc Tryz.prog W 0 (fun _ => true) true n' 65 [c1, c2] = some y1 := hfd 1 _ rfl
      subst hy
      simp only [DataW.weights, Tryz.underlying67] at hw
      obtain ⟨s, rfl, hs⟩ := open_str13 h0 (fun m hm => hw m (DataW.weights_mem_each (j := 0) rfl rfl m hm))
      have hw1 : ∀ m ∈ DataW.weights Tryz.prog 65 y1.1, m ≤ 140737488351232 := fun m hm => hw m (DataW.weights_mem_each (j := 1) rfl rfl m hm)
      obtain ⟨zs, n'', _, hz, _, hzl, hgd⟩ := DataW.trod_struct Tryz.underlying65 h1
      match zs, (show zs.length = 2 from hzl) with
      | [z0, z1], _ =>
        have g0 : DataW.trod enc Tryz.prog W 0 (fun _ => true) true n'' 43 [c1] = some z0 := hgd 0 _ rfl
        have g1 : DataW.trod enc Tryz.prog W 0 (fun _ => true) true n'' 63 [c2] = some z1 := hgd 1 _ rfl
        subst hz
        simp only [DataW.weights, Tryz.underlying65] at hw1
        obtain ⟨a, xs, ca, rfl, A, l1, n1⟩ := open_intsW Tryz.underlying43 g0
        obtain ⟨d, qs, cd, rfl, B, n2, l2⟩ := open_rats g1
        exact ⟨⟨s, xs, qs⟩, ⟨a, ca, d, cd, hc 0 _ rfl, hc 1 _ rfl, hc 2 _ rfl, rfl, A, n1, B, n2⟩, hs, reach_in (k := 0) (fun m hm => hw1 m (DataW.weights_mem_each (j := 0) rfl rfl m hm)) l1⟩
def LimO (g : GrD) : Prop := (-9223372036854775808 ≤ g.v ∧ g.v ≤ 9223372036854775807) ∧ (∀ x ∈ g.ps, LimPo x) ∧ g.ps.length * 40 ≤ 140737488351232 ∧ (∀ x ∈ g.ws, LimWe x) ∧ g.ws.length * 64 ≤ 140737488351232 ∧ (∀ x ∈ g.b.ns, LimNo x) ∧ g.b.ns.length * 56 ≤ 140737488351232 ∧ g.b.os.length ≤ 17592186043904 ∧ (∀ x ∈ g.vb.ns, LimNo x) ∧ g.vb.ns.length * 56 ≤ 140737488351232 ∧ g.vb.os.length ≤ 17592186043904
theorem open_body {H : Type} {enc : TypeId × Value → H} {W : World} {n : Nat} {c0 c1 : Value} {y : DataW H × List MemPlace} (ht : DataW.trod enc Tryz.prog W 0 (fun _ => true) true n 27 [c0, c1] = some y) (hw : ∀ m ∈ DataW.weights Tryz.prog 27 y.1, m ≤ 140737488351232) :
    ∃ (ns : List NoD) (os : List Int) (na : Option Addr) (nc : Nat) (oa : Option Addr) (oc : Nat), c0 = .slice na ns.length nc ∧ c1 = .slice oa os.length oc ∧ RowK 3 NodK W ns na nc ∧ ArgS W (.slice oa os.length oc) os oa oc ∧ (oa = none → oc = 0) ∧ (∀ x ∈ ns, LimNo x) ∧ ns.length * 56 ≤ 140737488351232 ∧ os.length ≤ 17592186043904 := by
  obtain ⟨xs, n', _, hy, _, hyl, hfd⟩ := DataW.trod_struct Tryz.underlying27 ht
  match xs, (show xs.length = 2 from hyl) with
  | [y0, y1], _ =>
    have h0 : DataW.trod enc Tryz.prog W 0 (fun _ => true) true n' 24 [c0] = some y0 := hfd 0 _ rfl
    have h1 : DataW.trod enc Tryz.prog W 0 (fun _ => true) true n' 25 [c1] = some y1 := hfd 1 _ rfl
    subst hy
    simp only [DataW.weights, Tryz.underlying27] at hw
    obtain ⟨na, ns, nc, rfl, R, hn, hb⟩ := open_rowK NodK LimNo Tryz.underlying24 cellsNode (by decide) el_node h0 (fun m hm => hw m (DataW.weights_mem_each (j := 0) rfl rfl m hm))
    obtain ⟨oa, os, oc, rfl, A, l1, n1⟩ := open_intsW Tryz.underlying25 h1
    rw [bytesNode13] at hb
    exact ⟨ns, os, na, nc, oa, oc, rfl, rfl, R, A, n1, hn, hb, reach_in (k := 0) (fun m hm => hw m (DataW.weights_mem_each (j := 1) rfl rfl m hm)) l1⟩
theorem cellsGraph13 : Tryz.prog.cellsOf 29 = 8 := by kernel_rfl
theorem open_graph {H : Type} {enc : TypeId × Value → H} {W : World} {v : Value} {d : DataW H} {p : List MemPlace} {base : Nat}
    (hval : Value.okWide Tryz.prog W .any base 29 v) (h : DataW.Trod enc Tryz.prog W 0 (fun _ => true) true 29 v d p) (hk : ∀ n ∈ DataW.weights Tryz.prog 29 d, n ≤ reachBytes) :
    ∃ (g : GrD) (A : AdG), v = .agg (cellsG g A) ∧ GrA W g A ∧ LimO g := by
  obtain ⟨cs, rfl, hsz⟩ := okWide_struct Tryz.underlying29 hval
  rw [cellsGraph13] at hsz
  obtain ⟨fuel, hf⟩ := h
  obtain ⟨l⟩ := cs
  have hl : l.length = 8 := hsz
  obtain ⟨xs, n', _, hy, _, hyl, hfd⟩ := DataW.trod_struct Tryz.underlying29 hf
  have hk' : ∀ n ∈ DataW.weights Tryz.prog 29 d, n ≤ 140737488351232 := fun n hn => by
    have := hk n hn
    rw [show reachBytes = 140737488351232 by decide] at this
    exact this
  match l, hl with
  | [c0, c1, c2, c3, c4, c5, c6, c7], _ =>
    match xs, (show xs.length = 6 from hyl) with
    | [y0, y1, y2, y3, y4, y5], _ =>
      have h0 : DataW.trod enc Tryz.prog W 0 (fun _ => true) true n' 3 [c0] = some y0 := hfd 0 _ rfl
      have h1 : DataW.trod enc Tryz.prog W 0 (fun _ => true) true n' 22 [c1] = some y1 := hfd 1 _ rfl
      have h2 : DataW.trod enc Tryz.prog W 0 (fun _ => true) true n' 23 [c2] = some y2 := hfd 2 _ rfl
      have h3 : DataW.trod enc Tryz.prog W 0 (fun _ => true) true n' 27 [c3, c4] = some y3 := hfd 3 _ rfl
      have h4 : DataW.trod enc Tryz.prog W 0 (fun _ => true) true n' 4 [c5] = some y4 := hfd 4 _ rfl
      have h5 : DataW.trod enc Tryz.prog W 0 (fun _ => true) true n' 27 [c6, c7] = some y5 := hfd 5 _ rfl
      simp only [Prod.mk.injEq] at hy
      obtain ⟨rfl, _⟩ := hy
      simp only [DataW.weights, Tryz.underlying29] at hk'
      obtain ⟨gv, hv, hvw⟩ := DataW.trod_int Tryz.underlying3 h0
      simp only [List.cons.injEq, and_true] at hv
      subst hv
      obtain ⟨hb, hbv⟩ := DataW.trod_bool Tryz.underlying4 h4
      simp only [List.cons.injEq, and_true] at hbv
      obtain ⟨hbv, _⟩ := hbv
      subst hbv
      obtain ⟨pa, ps, pc, rfl, P1, P2, P3⟩ := open_rowK PortK LimPo Tryz.underlying22 cellsPort13 (by decide) el_port h1 (fun m hm => hk' m (DataW.weights_mem_each (j := 1) rfl rfl m hm))
      obtain ⟨wa, ws, wc, rfl, W1, W2, W3⟩ := open_rowK WgtK LimWe Tryz.underlying23 cellsWeight13 (by decide) el_wgt h2 (fun m hm => hk' m (DataW.weights_mem_each (j := 2) rfl rfl m hm))
      obtain ⟨ns, os, na, nc, oa, oc, rfl, rfl, B1, B2, B3, B4, B5, B6⟩ := open_body h3 (fun m hm => hk' m (DataW.weights_mem_each (j := 3) rfl rfl m hm))
      obtain ⟨vs, us, va, vc, ua, uc, rfl, rfl, C1, C2, C3, C4, C5, C6⟩ := open_body h5 (fun m hm => hk' m (DataW.weights_mem_each (j := 5) rfl rfl m hm))
      rw [bytesPort13] at P3
      rw [bytesWeight13] at W3
      exact ⟨⟨gv, ps, ws, ⟨ns, os⟩, hb, ⟨vs, us⟩⟩, ⟨pa, pc, wa, wc, na, nc, oa, oc, va, vc, ua, uc⟩, rfl, ⟨P1, W1, B1, B2, B3, C1, C2, C3⟩, wf_i64p hvw.2, P2, P3, W2, W3, B4, B5, B6, C4, C5, C6⟩
end
end Go.Proofs.YtjgiacghlkkjfaaGreatDoor
